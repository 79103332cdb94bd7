/- MessageBack: its walk. -/
import Derived.Test.YtliefofdlpljaaaDoorMp
import Derived.Test.YtliefofdlpljaaaDoorGg
import Derived.Test.YtliefofdlpljaaaDoorGq
namespace Go.Proofs.YtliefofdlpljaaaDoor
open Go.RowKit Go.Maps
set_option linter.unusedVariables false
set_option linter.unusedSimpArgs false

theorem readB_some {s : St} (h : (readB s).1 ≠ []) : (readB s).2.rest.length + 1 ≤ s.rest.length := by
  have he : (readB s).2.e = 0 := by
    by_cases h0 : s.e ≠ 0
    · rw [readB_bad h0] at h; exact absurd rfl h
    · rw [readB_ok (by omega)] at h ⊢
      by_cases h1 : (bytR s.rest).2.2 = 0
      · exact h1
      · exact absurd (bytR_bad h1).1 h
  obtain ⟨_, g2, _⟩ := readB_get he
  have := congrArg List.length g2
  unfold txtB at this
  rw [List.length_append, List.length_append, numB_len] at this
  omega
theorem entOk_nil : entOk [] = false := by decide
theorem rdBs_many (k : Nat) : ∀ s, (∀ d ∈ (rdBs k s).1, entOk d = true) → (rdBs k s).2.rest.length + k ≤ s.rest.length := by
  induction k with
  | zero => intro s _; exact Nat.le_refl _
  | succ k ih =>
    intro s h
    simp only [rdBs] at h ⊢
    have h0 : (readB s).1 ≠ [] := fun e => by
      have := h (readB s).1 (by simp)
      rw [e, entOk_nil] at this
      cases this
    have h1 := readB_some h0
    have h2 := ih (readB s).2 (fun d hd => h d (by simp [hd]))
    omega
theorem gC_rest (b : List UInt8) : (gC b).2.rest.length ≤ b.length := by
  rw [← gC_eq]
  refine Nat.le_trans (readN_rest _) ?_
  rw [← gY_eq]
  refine Nat.le_trans (readN_rest _) ?_
  rw [← gN_eq]
  exact readNs_rest 8 _
theorem cap_any {b : List UInt8} (hb : b.length ≤ 1000000000000) : gK b = 3 → ∀ k, k ≤ (gC b).1 → (∀ d ∈ (rdBs k (gC b).2).1, entOk d = true) → (k + 1) * 48 ≤ 140737488355328 := fun _ k _ h => by
  have h1 := rdBs_many k (gC b).2 h
  have h2 := gC_rest b
  omega
theorem cap_put {m : Msg} (h : rightM m = true) (r : List UInt8) : gK (msgB m ++ r) = 3 → ∀ k, k ≤ (gC (msgB m ++ r)).1 → (∀ d ∈ (rdBs k (gC (msgB m ++ r)).2).1, entOk d = true) → (k + 1) * 48 ≤ 140737488355328 := fun h3 k hk _ => by
  have hp := ((getM_put h r).2.2.2.1 h3).2
  rw [hp] at hk
  have hc : chk m = true := by unfold rightM at h; simp only [Bool.and_eq_true] at h; exact h.1
  have := (chk_lens hc).2.1
  omega

set_option maxRecDepth 100000 in
set_option maxHeartbeats 8000000 in
theorem back_any (m : Msg) (ev sv dv bv : Value) (b : List UInt8) (w : World) (h : MsgIn w m ev sv dv) (hby : Byt w bv b) (hbl : b.length ≤ 1000000000000) (hsp : Spans w) :
    Calls Tryd.prog 6 #[.agg (msgCells m ev sv dv), bv] w fun e w' => e = .returned (.bool true) ∧ w.grownBy w' none := by
  have q1 := h.slices
  have qb := hby.len
  have HI := hid_mk h
  have HBY := hid_mk hby
  have HP := hid_mk hsp
  have HCB := hid_mk (cap_any hbl)
  clear h hsp hby
  obtain ⟨ab, cb, rfl⟩ := qb
  obtain ⟨a1, n1, c1, a2, n2, c2, a3, n3, c3, rfl, rfl, rfl⟩ := q1
  have HF : Hid (MB (w.alloc (.cells (msgCells m (.slice a1 n1 c1) (.slice a2 n2 c2) (.slice a3 n3 c3)) 26)) 26 w.heap.size m (.slice a1 n1 c1) (.slice a2 n2 c2) (.slice a3 n3 c3) ∧ w.grownBy (w.alloc (.cells (msgCells m (.slice a1 n1 c1) (.slice a2 n2 c2) (.slice a3 n3 c3)) 26)) none) := hid_mk ⟨heap_alloc_new w _, World.grownBy_alloc _ _ _⟩
  unfold msgCells at HF
  unfold msgCells
  go_enter Tryd.func6, Tryd.ntmps6
  go_wp2_with fail
  generalize (w.alloc (.cells _ 26)) = w1 at *
  refine (ownM_in m _ _ _ w1 (HI.out.kept HF.out.2)).mono ?_
  rintro e w2 ⟨e2, s2, t2, rfl, hi2, hg2⟩
  have H2 := hid_mk (And.intro hi2 hg2)
  clear hi2 hg2
  go_wp2_with fail
  refine (putM_in m e2 s2 t2 w2 H2.out.1 (HP.out.kept (grown_trans HF.out.2 H2.out.2))).mono ?_
  rintro e w3 ⟨a3', c3', rfl, ho3, hg3⟩
  have H3 := hid_mk (And.intro ho3.byt (grown_trans H2.out.2 hg3))
  clear ho3 hg3 H2
  cases hrm : rightM m with
  | false =>
    have GX := hid_mk (grown_trans HF.out.2 H3.out.2)
    rw [(msgL_bad hrm).2]
    generalize (msgL m).length = n3' at *
    clear hrm
    go_wp2_with (go_at_call 12; refine (num_any _ _).mono ?_; rintro e wx ⟨rfl, hwx⟩; subst wx)
    go_wp2_with fail
    refine (getM_any _ b w3 (HBY.out.kept GX.out) (by omega) (HP.out.kept GX.out) HCB.out).mono ?_
    rintro e w8 ⟨e8, s8, t8, rfl, ⟨he8, hs8, hd8⟩, hg8⟩
    have HI8 := hid_mk (And.intro he8 (And.intro hs8 hd8))
    have G8 := hid_mk (grown_trans GX.out hg8)
    obtain ⟨f1, u1, hf1⟩ := he8.len
    obtain ⟨f2, u2, hf2⟩ := hs8.len
    obtain ⟨f3, u3, hf3⟩ := hd8.len
    clear he8 hs8 hd8 hg8
    subst hf1
    subst hf2
    subst hf3
    obtain ⟨mg, hmg⟩ : ∃ mg, gotM b = mg := ⟨_, rfl⟩
    obtain ⟨eg, heg⟩ : ∃ eg, gotErr b = eg := ⟨_, rfl⟩
    have HMG := hid_mk (And.intro hmg heg)
    rw [hmg] at HI8 ⊢
    rw [heg]
    clear hmg heg
    unfold msgCells
    have HX8 : Hid (MB (w8.alloc (.cells (msgCells mg (.slice f1 mg.ents.length u1) (.slice f2 mg.srv.length u2) (.slice f3 mg.data.length u3)) 27)) 27 w8.heap.size mg (.slice f1 mg.ents.length u1) (.slice f2 mg.srv.length u2) (.slice f3 mg.data.length u3) ∧ w8.grownBy (w8.alloc (.cells (msgCells mg (.slice f1 mg.ents.length u1) (.slice f2 mg.srv.length u2) (.slice f3 mg.data.length u3)) 27)) none) := hid_mk ⟨heap_alloc_new w8 _, World.grownBy_alloc _ _ _⟩
    unfold msgCells at HX8
    cases hgb : gOk b with
    | false =>
      obtain rfl : eg = 21 := by rw [← HMG.out.2]; exact (gotM_bad hgb).2
      clear hgb
      go_wp2_with (go_at_call 12; refine (num_any _ _).mono ?_; rintro e wx ⟨rfl, hwx⟩; subst wx)
      generalize (w8.alloc (.cells _ 27)) = w9 at *
      refine (knowsM_any w9 (HP.out.kept (grown_trans G8.out HX8.out.2))).mono ?_
      rintro e w10 ⟨rfl, hg10⟩
      have G10 := hid_mk (grown_trans (grown_trans G8.out HX8.out.2) hg10)
      clear hg10
      go_wp2_with fail
      go_ret
      exact ⟨rfl, G10.out⟩
    | true =>
      obtain rfl : eg = 0 := by rw [← HMG.out.2]; exact (gotM_ok hgb).2
      have HR := hid_mk (show rightM mg = true ∧ msgB mg = b by rw [← HMG.out.1, (gotM_ok hgb).1]; exact getM_get hgb)
      clear hgb
      go_wp2_with (go_at_call 12; refine (num_any _ _).mono ?_; rintro e wx ⟨rfl, hwx⟩; subst wx)
      generalize (w8.alloc (.cells _ 27)) = w9 at *
      have HPU := hid_mk (putM_any mg _ _ _ w9 (HI8.out.1.kept HX8.out.2) (HI8.out.2.1.kept HX8.out.2) (HI8.out.2.2.kept HX8.out.2) (HP.out.kept (grown_trans G8.out HX8.out.2)))
      rw [(msgL_ok HR.out.1).1, (msgL_ok HR.out.1).2, HR.out.2] at HPU
      refine HPU.out.mono ?_
      rintro e w10 ⟨a10, c10, rfl, ho10, hg10⟩
      have T1 := ho10.byt.text
      have T2 := (HBY.out.kept (grown_trans (grown_trans G8.out HX8.out.2) hg10)).text
      have G10 := hid_mk (grown_trans (grown_trans G8.out HX8.out.2) hg10)
      clear ho10 hg10 HPU
      generalize (⟨b.toArray⟩ : ByteArray) = sb at *
      generalize b.length = nb at *
      go_wp2_with (go_at_call 12; refine (num_any _ _).mono ?_; rintro e wx ⟨rfl, hwx⟩; subst wx)
      clear T1 T2
      refine (knowsM_any w10 (HP.out.kept G10.out)).mono ?_
      rintro e w11 ⟨rfl, hg11⟩
      have G11 := hid_mk (grown_trans G10.out hg11)
      clear hg11
      go_wp2_with fail
      go_ret
      exact ⟨rfl, G11.out⟩
  | true =>
    have HRM := hid_mk hrm
    rw [(msgL_ok hrm).1] at H3
    rw [(msgL_ok hrm).1, (msgL_ok hrm).2]
    have HML := hid_mk (show (msgB m).length ≤ 10000000 by unfold rightM at hrm; simp only [Bool.and_eq_true] at hrm; exact msgB_len hrm.1 hrm.2)
    have HCM := hid_mk (show gK (msgB m) = 3 → ∀ k, k ≤ (gC (msgB m)).1 → (∀ d ∈ (rdBs k (gC (msgB m)).2).1, entOk d = true) → (k + 1) * 48 ≤ 140737488355328 by have := cap_put hrm []; rwa [List.append_nil] at this)
    have HGP := hid_mk (gOk_put hrm)
    clear hrm
    go_wp2_with (go_at_call 12; refine (num_any _ _).mono ?_; rintro e wx ⟨rfl, hwx⟩; subst wx)
    have HGM := hid_mk (getM_any _ (msgB m) w3 H3.out.1 (by have := HML.out; omega) (HP.out.kept (grown_trans HF.out.2 H3.out.2)) HCM.out)
    unfold GetPost at HGM
    rw [(gotM_ok HGP.out.1).1, (gotM_ok HGP.out.1).2, HGP.out.2] at HGM
    refine HGM.out.mono ?_
    rintro e w4 ⟨e4, s4, t4, rfl, ⟨he4, hs4, hd4⟩, hg4⟩
    have HI4 := hid_mk (show MsgIn w4 m e4 s4 t4 from ⟨he4, hs4, hd4, HI.out.ne, HI.out.ns, HI.out.nd⟩)
    have G4 := hid_mk (grown_trans H3.out.2 hg4)
    clear he4 hs4 hd4 hg4 HGM
    have q4 := HI4.out.slices
    obtain ⟨b1, k1, d1, b2, k2, d2, b3, k3, d3, rfl, rfl, rfl⟩ := q4
    have HX : Hid (MB (w4.alloc (.cells (msgCells m (.slice b1 k1 d1) (.slice b2 k2 d2) (.slice b3 k3 d3)) 27)) 27 w4.heap.size m (.slice b1 k1 d1) (.slice b2 k2 d2) (.slice b3 k3 d3) ∧ w4.grownBy (w4.alloc (.cells (msgCells m (.slice b1 k1 d1) (.slice b2 k2 d2) (.slice b3 k3 d3)) 27)) none) := hid_mk ⟨heap_alloc_new w4 _, World.grownBy_alloc _ _ _⟩
    unfold msgCells at HX
    unfold msgCells
    go_upto_region 4 with fail
    generalize (w4.alloc (.cells _ 27)) = w5 at *
    generalize w4.heap.size = g5 at *
    obtain ⟨p0, p1, p2, p3, p4, p5, p6, p7, p8, p9, p10, p11⟩ := (HF.out.1.kept (grown_trans G4.out HX.out.2)).all
    obtain ⟨z0, z1, z2, z3, z4, z5, z6, z7, z8, z9, z10, z11⟩ := HX.out.1.all
    go_wp2_with (go_at_call 12; refine (num_any _ _).mono ?_; rintro e wx ⟨rfl, hwx⟩; subst wx)
    clear p0 p1 p2 p3 p4 p5 p6 p7 p8 p9 p10 p11 z0 z1 z2 z3 z4 z5 z6 z7 z8 z9 z10 z11
    refine (sameM_in m m true (by simp) _ _ _ _ _ _ w5 (HI4.out.kept HX.out.2) (HI.out.kept (grown_trans HF.out.2 (grown_trans G4.out HX.out.2)))).mono ?_
    rintro e w6 ⟨rfl, hg6⟩
    have GX := hid_mk (grown_trans HF.out.2 (grown_trans G4.out (grown_trans HX.out.2 hg6)))
    clear hg6
    go_wp2_with fail
    refine (getM_any _ b w6 (HBY.out.kept GX.out) (by omega) (HP.out.kept GX.out) HCB.out).mono ?_
    rintro e w8 ⟨e8, s8, t8, rfl, ⟨he8, hs8, hd8⟩, hg8⟩
    have HI8 := hid_mk (And.intro he8 (And.intro hs8 hd8))
    have G8 := hid_mk (grown_trans GX.out hg8)
    obtain ⟨f1, u1, hf1⟩ := he8.len
    obtain ⟨f2, u2, hf2⟩ := hs8.len
    obtain ⟨f3, u3, hf3⟩ := hd8.len
    clear he8 hs8 hd8 hg8
    subst hf1
    subst hf2
    subst hf3
    obtain ⟨mg, hmg⟩ : ∃ mg, gotM b = mg := ⟨_, rfl⟩
    obtain ⟨eg, heg⟩ : ∃ eg, gotErr b = eg := ⟨_, rfl⟩
    have HMG := hid_mk (And.intro hmg heg)
    rw [hmg] at HI8 ⊢
    rw [heg]
    clear hmg heg
    unfold msgCells
    have HX8 : Hid (MB (w8.alloc (.cells (msgCells mg (.slice f1 mg.ents.length u1) (.slice f2 mg.srv.length u2) (.slice f3 mg.data.length u3)) 27)) 27 w8.heap.size mg (.slice f1 mg.ents.length u1) (.slice f2 mg.srv.length u2) (.slice f3 mg.data.length u3) ∧ w8.grownBy (w8.alloc (.cells (msgCells mg (.slice f1 mg.ents.length u1) (.slice f2 mg.srv.length u2) (.slice f3 mg.data.length u3)) 27)) none) := hid_mk ⟨heap_alloc_new w8 _, World.grownBy_alloc _ _ _⟩
    unfold msgCells at HX8
    cases hgb : gOk b with
    | false =>
      obtain rfl : eg = 21 := by rw [← HMG.out.2]; exact (gotM_bad hgb).2
      clear hgb
      go_wp2_with (go_at_call 12; refine (num_any _ _).mono ?_; rintro e wx ⟨rfl, hwx⟩; subst wx)
      generalize (w8.alloc (.cells _ 27)) = w9 at *
      refine (knowsM_any w9 (HP.out.kept (grown_trans G8.out HX8.out.2))).mono ?_
      rintro e w10 ⟨rfl, hg10⟩
      have G10 := hid_mk (grown_trans (grown_trans G8.out HX8.out.2) hg10)
      clear hg10
      go_wp2_with fail
      go_ret
      exact ⟨rfl, G10.out⟩
    | true =>
      obtain rfl : eg = 0 := by rw [← HMG.out.2]; exact (gotM_ok hgb).2
      have HR := hid_mk (show rightM mg = true ∧ msgB mg = b by rw [← HMG.out.1, (gotM_ok hgb).1]; exact getM_get hgb)
      clear hgb
      go_wp2_with (go_at_call 12; refine (num_any _ _).mono ?_; rintro e wx ⟨rfl, hwx⟩; subst wx)
      generalize (w8.alloc (.cells _ 27)) = w9 at *
      have HPU := hid_mk (putM_any mg _ _ _ w9 (HI8.out.1.kept HX8.out.2) (HI8.out.2.1.kept HX8.out.2) (HI8.out.2.2.kept HX8.out.2) (HP.out.kept (grown_trans G8.out HX8.out.2)))
      rw [(msgL_ok HR.out.1).1, (msgL_ok HR.out.1).2, HR.out.2] at HPU
      refine HPU.out.mono ?_
      rintro e w10 ⟨a10, c10, rfl, ho10, hg10⟩
      have T1 := ho10.byt.text
      have T2 := (HBY.out.kept (grown_trans (grown_trans G8.out HX8.out.2) hg10)).text
      have G10 := hid_mk (grown_trans (grown_trans G8.out HX8.out.2) hg10)
      clear ho10 hg10 HPU
      generalize (⟨b.toArray⟩ : ByteArray) = sb at *
      generalize b.length = nb at *
      go_wp2_with (go_at_call 12; refine (num_any _ _).mono ?_; rintro e wx ⟨rfl, hwx⟩; subst wx)
      clear T1 T2
      refine (knowsM_any w10 (HP.out.kept G10.out)).mono ?_
      rintro e w11 ⟨rfl, hg11⟩
      have G11 := hid_mk (grown_trans G10.out hg11)
      clear hg11
      go_wp2_with fail
      go_ret
      exact ⟨rfl, G11.out⟩

end Go.Proofs.YtliefofdlpljaaaDoor
