/- net: Send where there is room; Double. -/
import Derived.Test.YthidpnjndhelbaaNbM
namespace Go.Proofs.Ythidpnjndhelbaa
open Go.RowKit Go.Maps
set_option linter.unusedVariables false
set_option linter.unusedSimpArgs false
set_option maxRecDepth 100000

/-- A net whose row has grown, its cell not yet written. -/
theorem grow_net {w W W2 : World} {B b : Nat} {v v' : Value} {g : NetG} {x : LV} (h : IsN W B b v g) (hw : w.grownBy W none) (hlt : ∀ k, v.ownBlock = some k → k < w.heap.size) (ho : OwnL 39 W2 B v' (g.L ++ [x])) (hg : W.grownBy W2 v.ownBlock) (hbl : v'.ownBlock = v.ownBlock ∨ v'.ownBlock = some W.heap.size) (hx : okL x.1.fr x.1.tw x.1.b.length = true) (hf : ¬ g.most ≤ g.L.length) (hxo : Own W2 B x.2 x.1.b) (hxb : ∀ k, x.2.ownBlock = some k → ByK g.L k ∨ w.heap.size ≤ k) (hblt : b < w.heap.size) :
    NPv w (W2.setCell ⟨b, 1, none⟩ v') B b v v' g (addG g x) := by
  have hbne : some b ≠ v.ownBlock := own_ne h.row h.blk (by decide)
  have HB : Blk W2 b (netC g v).toArray 53 := h.blk.kept hg hbne
  have hrow : some b ≠ v'.ownBlock := own_ne ho HB (by decide)
  have G2 := grown_setCell W2 b 1 v'
  have hb2 : Bts W2 B g.L := fun p hp => (h.bts p hp).kept hg (by
    cases hv : v.ownBlock with
    | none => exact .inl rfl
    | some k => exact .inr (fun e => rows_apart (h.bts p hp) h.row (by decide) k e (by rw [hv])))
  refine ⟨⟨blk_store1 HB v' (g.L ++ [x]), ?_, fun p hp => ?_, h.low, addG_ok h.ok hx hf⟩, ?_, fun k e => ?_, fun k e => ?_⟩
  · refine owns_kept ho G2 (fun q cur hq e => ?_)
    injection e with e
    subst e
    unfold Blk at HB
    rw [HB] at hq
    cases hq
  · have hp' : Own W2 B p.2 p.1.b := by
      rcases List.mem_append.1 hp with hp | hp
      · exact hb2 p hp
      · simp at hp; subst hp; exact hxo
    exact own_set hp' HB (by decide) _ _
  · refine keeps_then (Keeps.of_none hw) ((Keeps.of_grown hg (fun k e _ => ?_) : Keeps (MutN b v) W W2).thenZ (Keeps.one G2 (.inl rfl))) (fun _ _ e => e)
    exact .inr e
  · rcases hbl with h1 | h1
    · exact .inl (by rw [← h1]; exact e)
    · rw [h1] at e; injection e with e; exact .inr (by have := hw.size; omega)
  · obtain ⟨p, hp, e⟩ := e
    rcases List.mem_append.1 hp with hp | hp
    · exact .inl ⟨p, hp, e⟩
    · simp at hp; subst hp; exact hxb k e
set_option maxHeartbeats 2000000 in
theorem send_ok {w : World} {B b : Nat} {v : Value} {g : NetG} (h : IsN w B b v g) (fr tw : Int) (sv : Value) (bs : List UInt8) (hs : Byt w sv bs) (hb : okL fr tw bs.length = true) (hf : ¬ g.most ≤ g.L.length) : Calls Try.prog 17 #[.pointer (some ⟨b, 0, none⟩), .agg #[.int .i64 fr, .int .i64 tw, sv]] w fun e w' => e = .returned (.int .i64 0) ∧ ∃ u, NP w w' B b v g (addG g (⟨fr, tw, bs⟩, u)) ∧ (∀ k, u.ownBlock = some k → w.heap.size ≤ k) := by
  obtain ⟨sa, sc, rfl⟩ := hs.len
  have HG := hid_mk (World.grownBy_alloc w (.cells #[.int .i64 fr, .int .i64 tw, .slice sa bs.length sc] 39) none)
  have HQ := hid_mk (blk_alloc w #[.int .i64 fr, .int .i64 tw, .slice sa bs.length sc] 39)
  have HM := hid_mk (made_any (h.kept HG.out))
  have HB := hid_mk (mayBe_any fr tw sa bs.length sc)
  have HE := hid_mk (And.intro hb (And.intro h (And.intro (decide_eq_false hf) (And.intro hf hs))))
  clear h hb hf hs
  go_enter Try.func17, Try.ntmps17
  go_upto_region 5 with (first | (go_at_call 38; refine HM.out.mono ?_; rintro e w' ⟨rfl, hw⟩; rw [hw]; clear hw) | (go_at_call 39; refine (HB.out _).mono ?_; rintro e w2 ⟨rfl, hw2⟩; have HG2 := hid_mk (grown_trans HG.out hw2); have HQ2 := hid_mk (HQ.out.kept hw2 (by simp)); clear hw2; rw [HE.out.1]) | (go_at_call 40; refine (full_any (HE.out.2.1.kept HG2.out)).mono ?_; rintro e w3 ⟨rfl, nq, hw3⟩; rw [hw3, HE.out.2.2.1]; clear hw3))
  have HG3 := hid_mk (grown_trans HG2.out (grown_drewN w2 nq none))
  have HQ3 := hid_mk (HQ2.out.kept (grown_drewN w2 nq none) (by simp))
  clear HG HQ HG2 HQ2 HM HB
  generalize w2.drewN nq = w1 at *
  have hlen := HE.out.2.1.len
  have HL := hid_mk hlen
  have hlt : Hid (∀ k, v.ownBlock = some k → k < w.heap.size) := hid_mk (fun k e => (owns_lt HE.out.2.1.row e).2)
  obtain ⟨va, vc, hv⟩ := hlen
  have HV := hid_mk hv
  have HC := hid_mk (fun (W : World) (hb1 : Blk W b (netC g v).toArray 53) => show W.cell? ⟨b, 1, none⟩ = some (.slice va g.L.length vc) by rw [hb1.cell, ← HV.out]; rfl)
  clear hv
  have hqb : Hid (w.heap.size ≠ b) := hid_mk (by have := HE.out.2.1.blk.lt; omega)
  generalize hn : g.L.length = n at *
  have HN := hid_mk hn
  clear hn
  generalize hq : w.heap.size = q at *
  have HQQ := hid_mk hq
  clear hq
  refine wp_region_mixL [(0, true), (1, true), (2, true), (3, true), (4, true), (5, true), (6, false), (7, false), (8, false), (9, true), (10, true)] 11 (at0 w1 (fun W => Blk W b (netC g v).toArray 53 ∧ Blk W q #[.int .i64 fr, .int .i64 tw, .slice sa bs.length sc] 39)) (by kernel_rfl) (by kernel_rfl) rfl (by kernel_rfl) rfl (by kernel_rfl) (shut_at0 (fun m => ⟨(HE.out.2.1.kept (grown_trans HG3.out (grown_drewN w1 m none))).blk, HQ3.out.kept (grown_drewN w1 m none) (by simp)⟩)) ⟨1, rfl⟩ ?_
  repeat (refine mix_rd1 rfl rfl (fun K hK => ?_); apply Exists.intro; refine ⟨fun W hW => ?_, ?_⟩; (obtain ⟨e0, e1, e2, ef⟩ := blk3 hW.2; have ec := HC.out W hW.1; go_simp; rfl); (go_simp; refine hK _ _ ?_; clear hK K))
  refine mix_call rfl rfl 35 #[.agg #[.int .i64 fr, .int .i64 tw, .slice sa bs.length sc]] (fun W0 => by go_simp) ?_
  rintro W0 ⟨m0, rfl⟩
  have hlb := okL_iff.1 HE.out.1
  refine (copy_any (HE.out.2.2.2.2.kept (grown_trans HG3.out (grown_drewN w1 m0 none))) (by omega) fr tw).mono ?_
  rintro e w4 ⟨u, rfl, ho, hg⟩
  clear hlb
  have H4 := hid_mk (And.intro (grown_trans HG3.out (grown_trans (grown_drewN w1 m0 none) hg)) (And.intro ho (And.intro (HQ3.out.kept (grown_trans (grown_drewN w1 m0 none) hg) (by simp)) (show q ≤ (w1.drewN m0).heap.size from by rw [← HQQ.out]; exact HG3.out.size))))
  clear ho hg
  refine ⟨_, rfl, at0 w4 (fun W => Blk W b (netC g v).toArray 53 ∧ Blk W q #[.int .i64 fr, .int .i64 tw, .slice sa bs.length sc] 39), ⟨0, rfl⟩, shut_at0 (fun m => ⟨(HE.out.2.1.kept (grown_trans H4.out.1 (grown_drewN w4 m none))).blk, H4.out.2.2.1.kept (grown_drewN w4 m none) (by simp)⟩), fun _ h => h, ?_⟩
  go_simp
  refine mix_do rfl rfl ?_
  rintro W0 ⟨m1, rfl⟩
  refine ⟨.slice (some ⟨w4.heap.size, 0, none⟩) 1 1, (w4.drewN m1).alloc (.cells #[.int .i64 fr, .int .i64 tw, u] 39), by go_simp, ?_⟩
  have G5 := grown_trans (grown_drewN w4 m1 none) (World.grownBy_alloc (w4.drewN m1) (.cells #[.int .i64 fr, .int .i64 tw, u] 39) none)
  have HB5 := hid_mk (show Blk ((w4.drewN m1).alloc (.cells #[.int .i64 fr, .int .i64 tw, u] 39)) w4.heap.size #[.int .i64 fr, .int .i64 tw, u] 39 from blk_alloc (w4.drewN m1) _ _)
  have H5 := hid_mk (And.intro (grown_trans H4.out.1 G5) (And.intro (own_grown H4.out.2.1 G5) (H4.out.2.2.1.kept G5 (by simp))))
  have HU := hid_mk (show q ≤ (w1.drewN m0).heap.size from H4.out.2.2.2)
  clear G5
  generalize (w4.drewN m1).alloc (.cells #[.int .i64 fr, .int .i64 tw, u] 39) = w5 at *
  generalize w4.heap.size = q5 at *
  refine ⟨at0 w5 (fun W => Blk W b (netC g v).toArray 53 ∧ Blk W q #[.int .i64 fr, .int .i64 tw, .slice sa bs.length sc] 39), ⟨0, rfl⟩, shut_at0 (fun m => ⟨(HE.out.2.1.kept (grown_trans H5.out.1 (grown_drewN w5 m none))).blk, H5.out.2.2.kept (grown_drewN w5 m none) (by simp)⟩), fun _ h => h, ?_⟩
  go_simp
  refine mix_do rfl rfl ?_
  rintro W0 ⟨m2, rfl⟩
  have hI := HE.out.2.1.kept (grown_trans H5.out.1 (grown_drewN w5 m2 none))
  have hBs : B ≤ (w5.drewN m2).heap.size := by have h1 := HE.out.2.1.low; have h2 := hI.blk.lt; omega
  have hu1 := oneL_own H5.out.2.1
  obtain ⟨a', c', w6, hr, ho6, hg6, hbl6⟩ := appL Try.underlying49 info39 (hI.row) [(⟨fr, tw, bs⟩, u)] ⟨q5, 0, none⟩ 1 (one_src (x := (⟨fr, tw, bs⟩, u)) (HB5.out.kept (grown_drewN w5 m2 none) (by simp))) (oneL_one hu1) (by have := HE.out.2.1.ok.hi; have := HE.out.2.1.ok.few; have := HN.out; simp; omega) hBs 49
  rw [show ([(⟨fr, tw, bs⟩, u)] : List LV).length = 1 from rfl, HN.out] at hr ho6 hbl6
  rw [HV.out] at hr
  refine ⟨_, _, exec_app (s := .tmp 19) (y := .tmp 22) rfl rfl rfl hr, ?_⟩
  have H6 := hid_mk (And.intro hI (And.intro ho6 (And.intro hg6 hbl6)))
  have hb6 : Blk w6 b (netC g v).toArray 53 := hI.blk.kept hg6 (own_ne hI.row hI.blk (by decide))
  have hq6 : Blk w6 q #[.int .i64 fr, .int .i64 tw, .slice sa bs.length sc] 39 := (H5.out.2.2.kept (grown_drewN w5 m2 none) (by simp)).kept hg6 (fun e => by have := hlt.out q e.symm; omega)
  have HBQ := hid_mk (And.intro hb6 hq6)
  clear hI hBs hu1 hr ho6 hg6 hbl6 hb6 hq6
  refine ⟨at0 w6 (fun W => Blk W b (netC g v).toArray 53 ∧ Blk W q #[.int .i64 fr, .int .i64 tw, .slice sa bs.length sc] 39), ⟨0, rfl⟩, shut_at0 (fun m => ⟨HBQ.out.1.kept (grown_drewN w6 m none) (by simp), HBQ.out.2.kept (grown_drewN w6 m none) (by simp)⟩), fun _ h => h, ?_⟩
  go_simp
  repeat (refine mix_rd1 rfl rfl (fun K hK => ?_); apply Exists.intro; refine ⟨fun W hW => ?_, ?_⟩; (go_simp; rfl); (go_simp; refine hK _ _ ?_; clear hK K))
  refine mix_nil ?_
  rintro W ⟨m5, rfl⟩
  have b7 : (w6.drewN m5).cell? ⟨b, 1, none⟩ = some v := by rw [(HBQ.out.1.kept (grown_drewN w6 m5 none) (by simp)).cell]; rfl
  have f7 : (w6.drewN m5).frozen? ⟨b, 1, none⟩ = false := (HBQ.out.1.kept (grown_drewN w6 m5 none) (by simp)).frozen 1
  refine ⟨(w6.drewN m5).setCell ⟨b, 1, none⟩ (.slice a' (n + 1) c'), by go_simp, ?_⟩
  go_wp2
  go_ret
  have hI := H6.out.1
  have hu : Own (w5.drewN m2) (w1.drewN m0).heap.size u bs := own_grown H5.out.2.1 (grown_drewN w5 m2 none)
  have hlow : ∀ k, u.ownBlock = some k → w.heap.size ≤ k := fun k e => by
    have h1 := (owns_lt hu e).1
    have h2 := HU.out
    have h3 := HQQ.out
    omega
  have hB : B ≤ (w1.drewN m0).heap.size := by
    have h1 := HE.out.2.1.low
    have h2 := HE.out.2.1.blk.lt
    have h3 := HU.out
    have h4 := HQQ.out
    omega
  have hu2 : Own (w6.drewN m5) B u bs := own_grown (Own.kept (hu.base hB) H6.out.2.2.1 (by
    cases hv : v.ownBlock with
    | none => exact .inl rfl
    | some k => exact .inr (fun e => rows_apart hu hI.row (by decide) k e (by rw [hv])))) (grown_drewN w6 m5 none)
  exact ⟨rfl, u, ⟨_, grow_net (x := (⟨fr, tw, bs⟩, u)) hI (grown_trans H5.out.1 (grown_drewN w5 m2 none)) (fun k e => (owns_lt HE.out.2.1.row e).2) (owns_kept H6.out.2.1 (grown_drewN w6 m5 none) (fun _ _ _ => by simp)) (grown_trans H6.out.2.2.1 (grown_drewN w6 m5 _)) H6.out.2.2.2 HE.out.1 (by have h1 := HE.out.2.2.2.1; have h2 := HN.out; omega) hu2 (fun k e => .inr (hlow k e)) HE.out.2.1.blk.lt⟩, hlow⟩
end Go.Proofs.Ythidpnjndhelbaa
