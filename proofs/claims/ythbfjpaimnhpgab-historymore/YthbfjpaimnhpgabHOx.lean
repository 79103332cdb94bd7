/- history: the law's Own. -/
import Derived.Test.YthbfjpaimnhpgabHOw
namespace Go.Proofs.Ythbfjpaimnhpgab
open Go.RowKit Go.Maps
set_option linter.unusedVariables false
set_option linter.unusedSimpArgs false
set_option maxRecDepth 100000

/-- A call of one's own. -/
structure OwnCE (W : World) (B : Nat) (x : CE) : Prop where
  d : Own W B x.vd x.g.d
  r : OwnRec W B x.vr x.R
  rs : x.R.map (·.1) = x.g.rs
theorem OwnCE.grown {W W' : World} {B : Nat} {x : CE} (h : OwnCE W B x) (hg : W.grownBy W' none) : OwnCE W' B x := ⟨own_grown h.d hg, h.r.kept hg, h.rs⟩
theorem OwnCE.row {W W' : World} {B : Nat} {x : CE} {v : Value} {L : List CE} (h : OwnCE W B x) (hv : OwnC W B v L) (hg : W.grownBy W' v.ownBlock) : OwnCE W' B x := by
  cases hb : v.ownBlock with
  | none => rw [hb] at hg; exact h.grown hg
  | some g =>
    rw [hb] at hg
    obtain ⟨_, c, hc⟩ := own_low hv g hb
    exact ⟨own_but h.d hg hc (by decide), h.r.but hg hc (by decide) (by decide), h.rs⟩
theorem OwnCE.inC {W : World} {B : Nat} {x : CE} (h : OwnCE W B x) : InC W x := ⟨h.d.byt, h.r.red, h.rs⟩
/-- How long a call's bytes and records may be. -/
structure FitC (x : CE) : Prop where
  d : x.g.d.length ≤ 140737488355328
  r : x.R.length ≤ 5864062014805
  p : ∀ p ∈ x.R, p.1.length ≤ 140737488355328
set_option maxHeartbeats 8000000 in
theorem own_any {w : World} {v : Value} {L : List CE} (h : CsR w v L) (hl : L.length ≤ 1099511627776) (hf : ∀ x ∈ L, FitC x) : Calls Try.prog 5 #[v] w fun e w' => ∃ v' L', e = .returned v' ∧ OwnC w' w.heap.size v' L' ∧ (∀ x ∈ L', OwnCE w' w.heap.size x ∧ x.R.length ≤ 5864062014805) ∧ gs L' = gs L ∧ w.grownBy w' none := by
  obtain ⟨va, vc, hv⟩ := h.len
  have HL := hid_mk (And.intro h hf)
  have HV := hid_mk hv
  rw [hv]
  clear h hf hv
  go_enter Try.func5, Try.ntmps5
  go_wp2_with fail
  go_loopg [3, 4] L.length (fun gg rv iv W => ∃ (k : Nat) (oa : Option Addr) (oc : Nat) (Lk : List CE), k ≤ L.length ∧ gg = L.length - k ∧ iv = .int .i64 k ∧ rv = .slice oa k oc ∧ Hid (w.grownBy W none ∧ OwnC W w.heap.size (.slice oa k oc) Lk ∧ (∀ x ∈ Lk, OwnCE W w.heap.size x ∧ x.R.length ≤ 5864062014805) ∧ Lk.length = k ∧ gs Lk = (gs L).take k))
  case atStart => exact ⟨0, none, 0, [], Nat.zero_le _, rfl, rfl, rfl, hid_mk ⟨grown_refl _ _, OwnC.nil _ _, (fun x hx => by cases hx), rfl, by simp [gs]⟩⟩
  case round =>
    obtain ⟨k, oa, oc, Lk, hk, hgk, rfl, rfl, H⟩ := hrel
    rename World => W
    by_cases hlt : k < L.length
    · have hlt' : (k : Int) < L.length := by omega
      obtain ⟨lb, off, cap, he, hc⟩ := HL.out.1.cells hlt
      rw [HV.out] at he
      injection he with e1 e2 e3
      clear e2 e3
      subst e1
      obtain ⟨d0, d1, d2, d3, d4, d5, d6, d7, d8, d9, d10, d11⟩ := hc W H.out.1
      have hin := HL.out.1.ins _ (List.getElem_mem hlt)
      have hfx := HL.out.2 _ (List.getElem_mem hlt)
      have hg : k < (gs L).length := by simp [gs]; exact hlt
      have HT := hid_mk (show (gs L).take (k + 1) = (gs L).take k ++ [L[k].g] from by rw [List.take_add_one, List.getElem?_eq_getElem hg]; simp [gs])
      obtain ⟨xa, xc, hxd⟩ := hin.d.len
      obtain ⟨ra, rc, hxr⟩ := hin.r.len
      rw [hxd] at d10
      rw [hxr] at d11
      have hd := hin.d
      have hr := hin.r
      have hrs := hin.rs
      rw [hxd] at hd
      rw [hxr] at hr
      have HX := hid_mk (And.intro hd (And.intro hr (And.intro hrs hfx)))
      clear hc hxd hxr hin hfx hg hd hr hrs
      generalize L[k] = x at *
      go_upto_region 6 with fail
      clear d0 d1 d2 d3 d4 d5 d6 d7 d8 d9 d10 d11
      have HB := hid_mk (And.intro (World.grownBy_alloc W (.cells #[.int .i64 x.g.c, .int .i64 x.g.b, .int .i64 x.g.e, .int .i64 x.g.k, .int .i64 x.g.at', .bool x.g.an, .int .i64 x.g.fr, .int .i64 x.g.mo, .int .i64 x.g.nu, .int .i64 x.g.st, .slice xa x.g.d.length xc, .slice ra x.R.length rc] 27) none) (blk_alloc W #[.int .i64 x.g.c, .int .i64 x.g.b, .int .i64 x.g.e, .int .i64 x.g.k, .int .i64 x.g.at', .bool x.g.an, .int .i64 x.g.fr, .int .i64 x.g.mo, .int .i64 x.g.nu, .int .i64 x.g.st, .slice xa x.g.d.length xc, .slice ra x.R.length rc] 27))
      generalize (W.alloc (.cells #[.int .i64 x.g.c, .int .i64 x.g.b, .int .i64 x.g.e, .int .i64 x.g.k, .int .i64 x.g.at', .bool x.g.an, .int .i64 x.g.fr, .int .i64 x.g.mo, .int .i64 x.g.nu, .int .i64 x.g.st, .slice xa x.g.d.length xc, .slice ra x.R.length rc] 27)) = W1 at *
      obtain ⟨q, hq⟩ : ∃ q, q = W.heap.size := ⟨_, rfl⟩
      rw [← hq] at HB ⊢
      clear hq
      refine wp_region_mix [(0, true), (1, true), (2, true), (3, true), (4, true), (5, true), (6, true), (7, true), (8, true), (9, true), (10, true), (11, true), (12, true), (13, true), (14, true), (15, true), (16, true), (17, true), (18, true), (19, true), (20, true), (22, true), (23, true), (25, true), (26, true), (21, false), (24, false), (27, false), (28, true), (29, false), (30, false), (31, true)] (at0 W1 (fun W => Blk W q #[.int .i64 x.g.c, .int .i64 x.g.b, .int .i64 x.g.e, .int .i64 x.g.k, .int .i64 x.g.at', .bool x.g.an, .int .i64 x.g.fr, .int .i64 x.g.mo, .int .i64 x.g.nu, .int .i64 x.g.st, .slice xa x.g.d.length xc, .slice ra x.R.length rc] 27)) (by kernel_rfl) (by kernel_rfl) rfl (by kernel_rfl) (shut_at0 (fun m => HB.out.2.kept (grown_drewN _ m none) (by simp))) ⟨1, rfl⟩ ?_
      have HC := hid_mk (fun (W : World) (hW : Blk W q #[.int .i64 x.g.c, .int .i64 x.g.b, .int .i64 x.g.e, .int .i64 x.g.k, .int .i64 x.g.at', .bool x.g.an, .int .i64 x.g.fr, .int .i64 x.g.mo, .int .i64 x.g.nu, .int .i64 x.g.st, .slice xa x.g.d.length xc, .slice ra x.R.length rc] 27) => blk12 hW)
      repeat (refine mix_rd1 rfl rfl (fun K hK => ?_); apply Exists.intro; refine ⟨fun W hW => ?_, ?_⟩; (obtain ⟨d0, d1, d2, d3, d4, d5, d6, d7, d8, d9, d10, d11, df⟩ := HC.out W hW; go_simp; rfl); (go_simp; refine hK _ _ ?_; clear hK K))
      -- an empty row of bytes
      refine mix_do rfl rfl ?_
      rintro W0 ⟨m1, rfl⟩
      refine ⟨.slice (some ⟨W1.heap.size, 0, none⟩) 0 0, (W1.drewN m1).alloc (.cells #[] 5), by go_simp, ?_⟩
      have HE := hid_mk (own_empty (W1.drewN m1))
      have G2 := hid_mk (grown_trans HB.out.1 (grown_trans (grown_drewN W1 m1 none) (World.grownBy_alloc (W1.drewN m1) (.cells #[] 5) none)))
      have HB2 := hid_mk ((HB.out.2.kept (grown_drewN W1 m1 none) (by simp)).kept (World.grownBy_alloc (W1.drewN m1) (.cells #[] 5) none) (by simp))
      refine ⟨at0 ((W1.drewN m1).alloc (.cells #[] 5)) (fun W => Blk W q #[.int .i64 x.g.c, .int .i64 x.g.b, .int .i64 x.g.e, .int .i64 x.g.k, .int .i64 x.g.at', .bool x.g.an, .int .i64 x.g.fr, .int .i64 x.g.mo, .int .i64 x.g.nu, .int .i64 x.g.st, .slice xa x.g.d.length xc, .slice ra x.R.length rc] 27), ⟨0, rfl⟩, shut_at0 (fun m => HB2.out.kept (grown_drewN _ m none) (by simp)), fun _ h => h, ?_⟩
      go_simp
      rw [show (W1.drewN m1).heap.size = W1.heap.size from rfl] at HE
      generalize (W1.drewN m1).alloc (.cells #[] 5) = W2 at *
      obtain ⟨q2, hq2⟩ : ∃ q2, q2 = W1.heap.size := ⟨_, rfl⟩
      rw [← hq2] at HE ⊢
      have HQ2 := hid_mk (show W.heap.size ≤ q2 ∧ q2 ≤ W2.heap.size from ⟨by have := HB.out.1.size; omega, by have := (owns_lt HE.out (k := q2) rfl).2; omega⟩)
      clear hq2 HB
      -- append of the data
      refine mix_do rfl rfl ?_
      rintro W0 ⟨m2, rfl⟩
      have g2d := grown_trans G2.out (grown_drewN W2 m2 none)
      obtain ⟨a1, c1, W3, hr1, ho1, hg1⟩ := run_copyB (own_grown HE.out (grown_drewN W2 m2 none)) (HQ2.out.2) ((HX.out.1.kept H.out.1).kept g2d) HX.out.2.2.2.d 24
      have G3 := hid_mk (show W.grownBy W3 none from grown_new g2d hg1 HQ2.out.1)
      have HO1 := hid_mk (ho1.base HQ2.out.1)
      have HB3 := hid_mk ((HB2.out.kept (grown_drewN W2 m2 none) (by simp)).kept hg1 (by have h9 := own_ne (own_grown HE.out (grown_drewN W2 m2 none)) (HB2.out.kept (grown_drewN W2 m2 none) (by simp)) (by decide); exact h9))
      refine ⟨_, _, exec_app (s := .tmp 37) (y := .tmp 39) rfl rfl rfl hr1, at0 W3 (fun W => Blk W q #[.int .i64 x.g.c, .int .i64 x.g.b, .int .i64 x.g.e, .int .i64 x.g.k, .int .i64 x.g.at', .bool x.g.an, .int .i64 x.g.fr, .int .i64 x.g.mo, .int .i64 x.g.nu, .int .i64 x.g.st, .slice xa x.g.d.length xc, .slice ra x.R.length rc] 27), ⟨0, rfl⟩, shut_at0 (fun m => HB3.out.kept (grown_drewN _ m none) (by simp)), fun _ h => h, ?_⟩
      clear g2d hr1 ho1 hg1 HE HB2 G2 HQ2
      go_simp
      -- the records
      refine mix_call rfl rfl 15 #[.slice ra x.R.length rc] (fun W0 => by go_simp) ?_
      rintro W0 ⟨m3, rfl⟩
      have g3d := grown_trans G3.out (grown_drewN W3 m3 none)
      refine (bytes_any ((HX.out.2.1.kept H.out.1).kept g3d) HX.out.2.2.2.r HX.out.2.2.2.p).mono ?_
      rintro e W5 ⟨v2, R2, rfl, ho2, hR2, hg5⟩
      obtain ⟨a2, c2, rfl⟩ := ho2.len
      have G5 := hid_mk (grown_trans g3d hg5)
      have HO5 := hid_mk (show Own W5 W.heap.size (.slice a1 x.g.d.length c1) x.g.d ∧ OwnRec W5 W.heap.size (.slice a2 R2.length c2) R2 ∧ R2.map (·.1) = x.R.map (·.1) from ⟨own_grown (own_grown HO1.out (grown_drewN W3 m3 none)) hg5, ho2.low g3d.size, hR2⟩)
      have HB5 := hid_mk ((HB3.out.kept (grown_drewN W3 m3 none) (by simp)).kept hg5 (by simp))
      refine ⟨_, rfl, at0 W5 (fun W => Blk W q #[.int .i64 x.g.c, .int .i64 x.g.b, .int .i64 x.g.e, .int .i64 x.g.k, .int .i64 x.g.at', .bool x.g.an, .int .i64 x.g.fr, .int .i64 x.g.mo, .int .i64 x.g.nu, .int .i64 x.g.st, .slice xa x.g.d.length xc, .slice ra x.R.length rc] 27), ⟨0, rfl⟩, shut_at0 (fun m => HB5.out.kept (grown_drewN _ m none) (by simp)), fun _ h => h, ?_⟩
      clear g3d ho2 hg5 hR2 HO1 G3 HB3
      go_simp
      repeat (refine mix_rd1 rfl rfl (fun K hK => ?_); apply Exists.intro; refine ⟨fun W hW => ?_, ?_⟩; (obtain ⟨d0, d1, d2, d3, d4, d5, d6, d7, d8, d9, d10, d11, df⟩ := HC.out W hW; go_simp; rfl); (go_simp; refine hK _ _ ?_; clear hK K))
      -- a row of one call
      refine mix_do rfl rfl ?_
      rintro W0 ⟨m4, rfl⟩
      refine ⟨.slice (some ⟨W5.heap.size, 0, none⟩) 1 1, (W5.drewN m4).alloc (.cells #[.int .i64 x.g.c, .int .i64 x.g.b, .int .i64 x.g.e, .int .i64 x.g.k, .int .i64 x.g.at', .bool x.g.an, .int .i64 x.g.fr, .int .i64 x.g.mo, .int .i64 x.g.nu, .int .i64 x.g.st, .slice a1 x.g.d.length c1, .slice a2 R2.length c2] 42), by go_simp, ?_⟩
      have g6 := grown_trans (grown_drewN W5 m4 none) (World.grownBy_alloc (W5.drewN m4) (.cells #[.int .i64 x.g.c, .int .i64 x.g.b, .int .i64 x.g.e, .int .i64 x.g.k, .int .i64 x.g.at', .bool x.g.an, .int .i64 x.g.fr, .int .i64 x.g.mo, .int .i64 x.g.nu, .int .i64 x.g.st, .slice a1 x.g.d.length c1, .slice a2 R2.length c2] 42) none)
      have G6 := hid_mk (grown_trans G5.out g6)
      have HO6 := hid_mk (show OwnCE ((W5.drewN m4).alloc (.cells #[.int .i64 x.g.c, .int .i64 x.g.b, .int .i64 x.g.e, .int .i64 x.g.k, .int .i64 x.g.at', .bool x.g.an, .int .i64 x.g.fr, .int .i64 x.g.mo, .int .i64 x.g.nu, .int .i64 x.g.st, .slice a1 x.g.d.length c1, .slice a2 R2.length c2] 42)) W.heap.size ⟨x.g, .slice a1 x.g.d.length c1, .slice a2 R2.length c2, R2⟩ ∧ R2.length ≤ 5864062014805 from ⟨⟨own_grown HO5.out.1 g6, HO5.out.2.1.kept g6, by rw [HO5.out.2.2, HX.out.2.2.1]⟩, by
        have h7 := congrArg List.length HO5.out.2.2
        simp only [List.length_map] at h7
        have := HX.out.2.2.2.r
        omega⟩)
      have HBC := hid_mk (show Blk ((W5.drewN m4).alloc (.cells #[.int .i64 x.g.c, .int .i64 x.g.b, .int .i64 x.g.e, .int .i64 x.g.k, .int .i64 x.g.at', .bool x.g.an, .int .i64 x.g.fr, .int .i64 x.g.mo, .int .i64 x.g.nu, .int .i64 x.g.st, .slice a1 x.g.d.length c1, .slice a2 R2.length c2] 42)) W5.heap.size #[.int .i64 x.g.c, .int .i64 x.g.b, .int .i64 x.g.e, .int .i64 x.g.k, .int .i64 x.g.at', .bool x.g.an, .int .i64 x.g.fr, .int .i64 x.g.mo, .int .i64 x.g.nu, .int .i64 x.g.st, .slice a1 x.g.d.length c1, .slice a2 R2.length c2] 42 from blk_alloc (W5.drewN m4) _ 42)
      have HB6 := hid_mk (HB5.out.kept g6 (by simp))
      refine ⟨at0 ((W5.drewN m4).alloc (.cells #[.int .i64 x.g.c, .int .i64 x.g.b, .int .i64 x.g.e, .int .i64 x.g.k, .int .i64 x.g.at', .bool x.g.an, .int .i64 x.g.fr, .int .i64 x.g.mo, .int .i64 x.g.nu, .int .i64 x.g.st, .slice a1 x.g.d.length c1, .slice a2 R2.length c2] 42)) (fun W => Blk W q #[.int .i64 x.g.c, .int .i64 x.g.b, .int .i64 x.g.e, .int .i64 x.g.k, .int .i64 x.g.at', .bool x.g.an, .int .i64 x.g.fr, .int .i64 x.g.mo, .int .i64 x.g.nu, .int .i64 x.g.st, .slice xa x.g.d.length xc, .slice ra x.R.length rc] 27), ⟨0, rfl⟩, shut_at0 (fun m => HB6.out.kept (grown_drewN _ m none) (by simp)), fun _ h => h, ?_⟩
      go_simp
      clear g6 G5 HO5 HB5
      generalize (W5.drewN m4).alloc (.cells #[.int .i64 x.g.c, .int .i64 x.g.b, .int .i64 x.g.e, .int .i64 x.g.k, .int .i64 x.g.at', .bool x.g.an, .int .i64 x.g.fr, .int .i64 x.g.mo, .int .i64 x.g.nu, .int .i64 x.g.st, .slice a1 x.g.d.length c1, .slice a2 R2.length c2] 42) = W6 at *
      generalize W5.heap.size = q5 at *
      -- append of it
      refine mix_do rfl rfl ?_
      rintro W0 ⟨m5, rfl⟩
      have g6d := grown_trans G6.out (grown_drewN W6 m5 none)
      have hOC := H.out.2.1.kept g6d
      have hkl := H.out.2.2.2.1
      obtain ⟨a3, c3, W7, hr3, ho3, hg3⟩ := appC hOC (ad := ⟨q5, 0, none⟩) (m := 1) (c := 1) (L := [⟨x.g, .slice a1 x.g.d.length c1, .slice a2 R2.length c2, R2⟩]) rfl (fun j u hj => by
        rw [add_at, Nat.zero_add, (HBC.out.kept (grown_drewN W6 m5 none) (by simp)).cell]
        simpa [cals, calC] using hj) (fun z hz => by rw [List.mem_singleton.1 hz]; exact ⟨⟨_, _, _, rfl⟩, ⟨_, _, _, rfl⟩⟩) (by omega) (Nat.le_trans H.out.1.size g6d.size) 31
      rw [hkl] at hr3 ho3
      have hgw : w.grownBy W7 none := by
        cases hv4 : (Value.slice oa k oc).ownBlock with
        | none => rw [hv4] at hg3; exact grown_trans (grown_trans H.out.1 g6d) hg3
        | some g => rw [hv4] at hg3; exact grown_new (grown_trans H.out.1 g6d) hg3 (owns_lt H.out.2.1 hv4).1
      have hnb : ∀ z : CE, OwnCE (W6.drewN m5) w.heap.size z → OwnCE W7 w.heap.size z := fun z hz => hz.row hOC hg3
      have HN := hid_mk (show w.grownBy W7 none ∧ OwnC W7 w.heap.size (.slice a3 (k + 1) c3) (Lk ++ [⟨x.g, .slice a1 x.g.d.length c1, .slice a2 R2.length c2, R2⟩]) ∧ (∀ z ∈ Lk ++ [(⟨x.g, .slice a1 x.g.d.length c1, .slice a2 R2.length c2, R2⟩ : CE)], OwnCE W7 w.heap.size z ∧ z.R.length ≤ 5864062014805) ∧ (Lk ++ [(⟨x.g, .slice a1 x.g.d.length c1, .slice a2 R2.length c2, R2⟩ : CE)]).length = k + 1 ∧ gs (Lk ++ [(⟨x.g, .slice a1 x.g.d.length c1, .slice a2 R2.length c2, R2⟩ : CE)]) = (gs L).take (k + 1) from
        ⟨hgw, ho3, fun z hz => by
          rcases List.mem_append.1 hz with hz | hz
          · exact ⟨hnb z ((H.out.2.2.1 z hz).1.grown g6d), (H.out.2.2.1 z hz).2⟩
          · rw [List.mem_singleton.1 hz]
            have h8 := HO6.out.1.grown (grown_drewN W6 m5 none)
            exact ⟨hnb _ ⟨h8.d.base H.out.1.size, h8.r.low H.out.1.size, h8.rs⟩, HO6.out.2⟩, by simp [hkl], by rw [HT.out, ← H.out.2.2.2.2]; simp [gs]⟩)
      have HB7 := hid_mk ((HB6.out.kept (grown_drewN W6 m5 none) (by simp)).kept hg3 (own_ne hOC (HB6.out.kept (grown_drewN W6 m5 none) (by simp)) (by decide)))
      refine ⟨_, _, exec_app (s := .tmp 16) (y := .tmp 45) rfl rfl rfl hr3, at0 W7 (fun W => Blk W q #[.int .i64 x.g.c, .int .i64 x.g.b, .int .i64 x.g.e, .int .i64 x.g.k, .int .i64 x.g.at', .bool x.g.an, .int .i64 x.g.fr, .int .i64 x.g.mo, .int .i64 x.g.nu, .int .i64 x.g.st, .slice xa x.g.d.length xc, .slice ra x.R.length rc] 27), ⟨0, rfl⟩, shut_at0 (fun m => HB7.out.kept (grown_drewN _ m none) (by simp)), fun _ h => h, ?_⟩
      clear g6d hOC hkl hr3 ho3 hg3 hgw hnb HB6 HBC HO6 G6
      go_simp
      repeat (refine mix_rd1 rfl rfl (fun K hK => ?_); apply Exists.intro; refine ⟨fun W hW => ?_, ?_⟩; (obtain ⟨d0, d1, d2, d3, d4, d5, d6, d7, d8, d9, d10, d11, df⟩ := HC.out W hW; go_simp; rfl); (go_simp; refine hK _ _ ?_; clear hK K))
      refine mix_nil ?_
      rintro W ⟨m6, rfl⟩
      go_wp2_with fail
      go_roundg (L.length - (k + 1))
      case measure => omega
      case rel => exact ⟨k + 1, a3, c3, _, by omega, rfl, by go_num, rfl, hid_mk ⟨grown_trans HN.out.1 (grown_drewN W7 m6 none), HN.out.2.1.kept (grown_drewN W7 m6 none), fun z hz => ⟨(HN.out.2.2.1 z hz).1.grown (grown_drewN W7 m6 none), (HN.out.2.2.1 z hz).2⟩, HN.out.2.2.2.1, HN.out.2.2.2.2⟩⟩
    · have hlt' : ¬ (k : Int) < L.length := by omega
      have HX := hid_mk (show gs Lk = gs L from by have := H.out.2.2.2.2; rwa [List.take_of_length_le (by simp [gs]; omega)] at this)
      go_wp2_with fail
      go_ret
      exact ⟨_, rfl, Lk, H.out.2.1, H.out.2.2.1, HX.out, H.out.1⟩
end Go.Proofs.Ythbfjpaimnhpgab
