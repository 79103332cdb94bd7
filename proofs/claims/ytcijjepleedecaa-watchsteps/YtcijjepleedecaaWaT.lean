/- watch: WatchSteps. -/
import Derived.Test.YtcijjepleedecaaWaS2
import Derived.Test.YtcijjepleedecaaWaJ
namespace Go.Proofs.Ytcijjepleedecaa.W
open Go.RowKit Go.Maps
set_option linter.unusedVariables false
set_option linter.unusedSimpArgs false
set_option maxRecDepth 100000
attribute [local go_sem] Oper.semAt_some


theorem mix_append_ints {ops : Array Oper} {Q : Act → Cl → Prop} {a : Act} {i : Nat} {rest : List (Nat × Bool)} {o : Oper} (w0 w : World) (all : World → Prop) (hi : ops[i]? = some o) (hw : Region.wanted o (yielded ops a.tmps) = true) (s y : Operand) (ho : o.op = .call { callee := .builtin .append, args := #[s, y], argTypes := #[43, 43] }) (hg0 : w0.grownBy w none)
    (v : Value) (hs : a.eval s = v) (hown : OwnI w w0.heap.size v []) (l : List Int) (sv : Value) (hy : a.eval y = sv) (h : IntsR w sv l) (hl : l.length ≤ 17592186044416)
    (hK : ∀ a' c' W', Hid (OwnI W' w0.heap.size (.slice a' l.length c') l ∧ w0.grownBy W' none) → Behind (at0 w all) (wpMix Try.prog ops Q rest) (a.put o.dst (.slice a' l.length c')) W') :
    wpMix Try.prog ops Q ((i, false) :: rest) a (at0 w all) := by
  refine mix_do hi hw (fun W hW => ?_)
  obtain ⟨m, rfl⟩ := hW
  obtain ⟨a', c', W', hrun, r1, r2, _⟩ := run_append_ints w0 (w.drewN m) s y ho (grown_trans hg0 (grown_drewN _ _ none)) v hs (hown.kept (grown_drewN _ _ none)) l sv hy (h.kept (grown_drewN _ _ none)) hl
  exact ⟨_, W', hrun, hK a' c' W' (hid_mk ⟨r1, r2⟩)⟩

set_option maxHeartbeats 8000000 in
theorem steps_any (b t : Int) (lv : Value) (es : List Ent) (bv : Value) (base : List Int) (w : World) (h : EntsR w lv es) (hb : C.IntsR w bv base) (hlen : es.length * 48 ≤ 140737488355328) (hl : base.length ≤ 17592186044416) (hbb : I64 b) :
    Calls Try.prog 5 #[viewV b t lv, bv] w fun e w' => e = .returned (.bool true) ∧ w.grownBy w' none := by
  obtain ⟨va, vc, rfl⟩ := h.len
  obtain ⟨ba, bc, rfl⟩ := hb.len
  have HE := hid_mk (And.intro h (And.intro hb (And.intro hlen (And.intro hl hbb))))
  have HVV : Hid (∀ b t lv, viewV b t lv = Value.agg #[.int .i64 b, .int .i64 t, lv]) := hid_mk fun _ _ _ => rfl
  have HA := hid_mk (And.intro (RB.new w b t (.slice va es.length vc)) (World.grownBy_alloc w (.cells #[.int .i64 b, .int .i64 t, .slice va es.length vc] 30) none))
  clear h hb hlen hl hbb
  rw [HVV.out]
  go_enter Try.func5, Try.ntmps5
  go_upto_region 1 with fail
  generalize w.alloc (.cells #[.int .i64 b, .int .i64 t, .slice va es.length vc] 30) = w1 at *
  obtain ⟨q2, hq2⟩ : ∃ q, q = w.heap.size := ⟨_, rfl⟩
  rw [← hq2] at HA ⊢
  clear hq2
  obtain ⟨u0, u1, u2⟩ := HA.out.1.cells
  go_wp2_with fail
  clear u0 u1 u2
  rw [← HVV.out]
  refine (view_any b t _ es w1 (HE.out.1.kept HA.out.2) HE.out.2.2.1).mono ?_
  rintro e w2 ⟨lv', ps, rfl, heo, hmap⟩
  have hrd := heo.reads
  rw [hmap] at hrd
  obtain ⟨xa, xc, rfl⟩ := hrd.len
  have ga := World.grownBy_alloc w2 (.cells #[.int .i64 b, .int .i64 t, .slice xa es.length xc] 26) none
  have H3 := hid_mk (show VB (w2.alloc (.cells #[.int .i64 b, .int .i64 t, .slice xa es.length xc] 26)) w2.heap.size b t (.slice xa es.length xc) ∧ RB (w2.alloc (.cells #[.int .i64 b, .int .i64 t, .slice xa es.length xc] 26)) q2 b t (.slice va es.length vc) ∧ EntsR (w2.alloc (.cells #[.int .i64 b, .int .i64 t, .slice xa es.length xc] 26)) (.slice xa es.length xc) es ∧ w.grownBy (w2.alloc (.cells #[.int .i64 b, .int .i64 t, .slice xa es.length xc] 26)) none from ⟨VB.new _ _ _ _, HA.out.1.kept (grown_trans heo.gr ga) (by simp), hrd.kept ga, grown_trans HA.out.2 (grown_trans heo.gr ga)⟩)
  clear hrd heo hmap ga HA
  rw [HVV.out]
  go_upto_region 2 with fail
  generalize w2.alloc (.cells #[.int .i64 b, .int .i64 t, .slice xa es.length xc] 26) = w3 at *
  obtain ⟨p5, hp5⟩ : ∃ q, q = w2.heap.size := ⟨_, rfl⟩
  rw [← hp5] at H3 ⊢
  clear hp5
  have HCL : ∀ W, w3.grownBy W none → (W.cell? ⟨p5, 0, none⟩ = some (.int .i64 b) ∧ W.cell? ⟨p5, 1, none⟩ = some (.int .i64 t) ∧ W.cell? ⟨p5, 2, none⟩ = some (.slice xa es.length xc)) ∧ W.cell? ⟨q2, 0, none⟩ = some (.int .i64 b) ∧ W.cell? ⟨q2, 1, none⟩ = some (.int .i64 t) ∧ W.cell? ⟨q2, 2, none⟩ = some (.slice va es.length vc) := fun W hW => ⟨(H3.out.1.kept hW (by simp)).cells, (H3.out.2.1.kept hW (by simp)).cells⟩
  obtain ⟨M, hM⟩ : ∃ M, M = stepP base (whE b t es) := ⟨_, rfl⟩
  have HM := hid_mk (show stepP base (whE b t es) = M ∧ stepD (C.rtB base) base (whE b t es) = M from ⟨hM.symm, by rw [hM]; exact step_eq _ _ _ rfl (wh_rights b t es)⟩)
  clear hM
  refine wp_region_mix [(0, true), (2, true), (5, true), (6, true), (1, false), (3, false), (4, false), (7, false), (8, true), (9, true), (10, true), (11, true), (12, false), (13, true), (14, true), (15, false), (16, true), (17, true)] (at0 w3 (fun W => w3.grownBy W none)) (by kernel_rfl) (by kernel_rfl) rfl (by kernel_rfl) (shut_at0 (fun m => grown_drewN _ m none)) ⟨1, rfl⟩ ?_
  iterate 4 (refine mix_rd1 rfl rfl (fun K hK => ?_); apply Exists.intro; refine ⟨fun W hW => ?_, ?_⟩; (obtain ⟨⟨c0, c1, c2⟩, d0, d1, d2⟩ := HCL W hW; go_simp; rfl); (go_simp; refine hK _ _ ?_; clear hK K))
  refine mix_do rfl rfl (fun W hW => ?_)
  obtain ⟨mA, rfl⟩ := hW
  have gA : w3.grownBy ((w3.drewN mA).alloc (.cells #[] 3)) none := grown_trans (grown_drewN w3 mA none) (World.grownBy_alloc _ _ none)
  have hoE := ownI_empty (w3.drewN mA)
  refine ⟨.slice (some ⟨(w3.drewN mA).heap.size, 0, none⟩) 0 0, (w3.drewN mA).alloc (.cells #[] 3), by go_simp, at0 ((w3.drewN mA).alloc (.cells #[] 3)) (fun W => w3.grownBy W none), ⟨0, rfl⟩, shut_at0 (all_kept gA), fun _ h => h, ?_⟩
  have GA := hid_mk (And.intro gA hoE)
  clear gA hoE
  obtain ⟨wA, hwA⟩ : ∃ W, W = (w3.drewN mA).alloc (.cells #[] 3) := ⟨_, rfl⟩
  rw [← hwA] at GA ⊢
  have HWA := hid_mk (show (w3.drewN mA).grownBy wA none from by rw [hwA]; exact World.grownBy_alloc _ _ none)
  clear hwA
  refine mix_append_ints (w3.drewN mA) wA _ rfl rfl (.tmp 9) (.tmp 10) rfl HWA.out (.slice (some ⟨(w3.drewN mA).heap.size, 0, none⟩) 0 0) rfl GA.out.2 base (.slice ba base.length bc) rfl (show IntsR _ _ _ from HE.out.2.1.kept (grown_trans H3.out.2.2.2 GA.out.1)) HE.out.2.2.2.1 ?_
  intro a' c' wB hWB
  have GB := hid_mk (show w3.grownBy wB none ∧ C.IntsR wB (.slice a' base.length c') base from ⟨grown_trans (grown_drewN w3 mA none) hWB.out.2, hWB.out.1.ints⟩)
  refine ⟨at0 wB (fun W => w3.grownBy W none), ⟨0, rfl⟩, shut_at0 (all_kept GB.out.1), fun _ h => h, ?_⟩
  clear hWB GA HWA
  refine mix_call rfl rfl 19 #[viewV b t (.slice xa es.length xc), .slice a' base.length c'] (fun W => by first | (rw [HVV.out]; go_simp; done) | (go_simp; rfl) | (go_simp; exact ⟨rfl, rfl⟩)) ?_
  rintro W ⟨m1, rfl⟩
  refine (steps_prog b t _ _ es base (wB.drewN m1) (H3.out.2.2.1.kept (grown_trans GB.out.1 (grown_drewN _ m1 none))) (GB.out.2.kept (grown_drewN _ m1 none)) (by have := HE.out.2.2.1; omega) HE.out.2.2.2.2 HE.out.2.2.2.1).mono ?_
  rintro e w6 ⟨rfl, hg⟩
  have G1 := hid_mk (show w3.grownBy w6 none from grown_trans (grown_trans GB.out.1 (grown_drewN _ m1 none)) hg)
  clear hg
  rw [HM.out.1]
  refine ⟨_, rfl, at0 w6 (fun W => w3.grownBy W none), ⟨0, rfl⟩, shut_at0 (all_kept G1.out), fun _ h => h, ?_⟩
  refine mix_call rfl rfl 20 #[viewV b t (.slice va es.length vc), .slice ba base.length bc] (fun W => by first | (rw [HVV.out]; go_simp; done) | (go_simp; rfl) | (go_simp; exact ⟨rfl, rfl⟩)) ?_
  rintro W ⟨m2, rfl⟩
  refine (rsteps_any b t _ _ es base (w6.drewN m2) (HE.out.1.kept (grown_trans H3.out.2.2.2 (grown_trans G1.out (grown_drewN _ m2 none)))) (HE.out.2.1.kept (grown_trans H3.out.2.2.2 (grown_trans G1.out (grown_drewN _ m2 none)))) (by have := HE.out.2.2.1; omega) HE.out.2.2.2.1).mono ?_
  rintro e w7 ⟨rfl, hg⟩
  have G2 := hid_mk (show w3.grownBy w7 none from grown_trans (grown_trans G1.out (grown_drewN _ m2 none)) hg)
  clear hg
  rw [HM.out.2]
  refine ⟨_, rfl, at0 w7 (fun W => w3.grownBy W none), ⟨0, rfl⟩, shut_at0 (all_kept G2.out), fun _ h => h, ?_⟩
  iterate 4 (refine mix_rd1 rfl rfl (fun K hK => ?_); apply Exists.intro; refine ⟨fun W hW => ?_, ?_⟩; (obtain ⟨⟨c0, c1, c2⟩, d0, d1, d2⟩ := HCL W hW; go_simp; rfl); (go_simp; refine hK _ _ ?_; clear hK K))
  refine mix_call rfl rfl 17 #[viewV b t (.slice xa es.length xc), viewV b t (.slice va es.length vc)] (fun W => by first | (rw [HVV.out, HVV.out]; go_simp; done) | (go_simp; rfl) | (go_simp; exact ⟨rfl, rfl⟩)) ?_
  rintro W ⟨m3, rfl⟩
  refine (sameV_any b t _ _ es (w7.drewN m3) (H3.out.2.2.1.kept (grown_trans G2.out (grown_drewN _ m3 none))) (HE.out.1.kept (grown_trans H3.out.2.2.2 (grown_trans G2.out (grown_drewN _ m3 none)))) (by have := HE.out.2.2.1; omega)).mono ?_
  rintro e w8 ⟨rfl, hg⟩
  have G3 := hid_mk (show w3.grownBy w8 none from grown_trans (grown_trans G2.out (grown_drewN _ m3 none)) hg)
  clear hg
  refine ⟨_, rfl, at0 w8 (fun W => w3.grownBy W none), ⟨0, rfl⟩, shut_at0 (all_kept G3.out), fun _ h => h, ?_⟩
  iterate 2 (refine mix_rd1 rfl rfl (fun K hK => ?_); apply Exists.intro; refine ⟨fun W hW => ?_, ?_⟩; (go_simp; rfl); (go_simp; refine hK _ _ ?_; clear hK K))
  refine mix_call rfl rfl 12 #[] (fun W => by first | (go_simp; done) | (go_simp; rfl) | (go_simp; exact ⟨rfl, rfl⟩)) ?_
  rintro W ⟨m4, rfl⟩
  refine (knows_any (w8.drewN m4)).mono ?_
  rintro e w9 ⟨rfl, hg⟩
  have G4 := hid_mk (show w3.grownBy w9 none from grown_trans (grown_trans G3.out (grown_drewN _ m4 none)) hg)
  clear hg
  refine ⟨_, rfl, at0 w9 (fun W => w3.grownBy W none), ⟨0, rfl⟩, shut_at0 (all_kept G4.out), fun _ h => h, ?_⟩

  repeat (refine mix_rd1 rfl rfl (fun K hK => ?_); apply Exists.intro; refine ⟨fun W hW => ?_, ?_⟩; (go_simp; rfl); (go_simp; refine hK _ _ ?_; clear hK K))
  refine mix_nil ?_
  rintro W ⟨m7, rfl⟩
  have H6 := hid_mk (show w.grownBy (w9.drewN m7) none from grown_trans H3.out.2.2.2 (grown_trans G4.out (grown_drewN _ m7 none)))
  generalize w9.drewN m7 = w12 at *
  go_wp2_with fail
  go_ret
  exact ⟨rfl, H6.out⟩
end Go.Proofs.Ytcijjepleedecaa.W
