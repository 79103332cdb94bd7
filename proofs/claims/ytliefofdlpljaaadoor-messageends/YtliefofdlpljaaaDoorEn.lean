/- MessageEnds: its walk. -/
import Derived.Test.YtliefofdlpljaaaDoorBk
import Derived.Test.YtliefofdlpljaaaDoorKa
namespace Go.Proofs.YtliefofdlpljaaaDoor
open Go.RowKit Go.Maps
set_option linter.unusedVariables false
set_option linter.unusedSimpArgs false

theorem longer_no {m : Msg} (h : rightM m = true) {r : List UInt8} (hr : 0 < r.length) : gOk (msgB m ++ r) = false := by
  cases hg : gOk (msgB m ++ r) with
  | false => rfl
  | true =>
    have hp := (getM_put h r).2.1
    rw [gOk_of, rdOk_eq _ _ rfl, hp] at hg
    simp only [Bool.and_eq_true, decide_eq_true_eq] at hg
    have h0 := (endE_ok hg.1.2).2
    have : r = [] := h0
    rw [this] at hr
    simp at hr
theorem shorter_no {m : Msg} (h : rightM m = true) (k : Nat) (hk : k < (msgB m).length) : gOk ((msgB m).take k) = false := by
  cases hg : gOk ((msgB m).take k) with
  | false => rfl
  | true =>
    obtain ⟨h1, h2⟩ := getM_get hg
    have h3 := (getM_put h1 ((msgB m).drop k)).1
    rw [h2, List.take_append_drop] at h3
    have h4 := (getM_put h []).1
    rw [List.append_nil] at h4
    rw [h4] at h3
    rw [← h3] at h2
    have := congrArg List.length h2
    rw [List.length_take] at this
    omega
theorem msgB_pos (m : Msg) : 0 < (msgB m).length := by
  rw [msgB_parts, List.length_append, List.length_append, numB_len]
  omega
theorem noM_in (w : World) : MsgIn w noM (.slice none 0 0) (.slice none 0 0) (.slice none 0 0) := ⟨EntsR.nil _, IntsR.nil _, Byt.nil _, by simp [noM], by simp [noM], by simp [noM]⟩

set_option maxRecDepth 100000 in
set_option maxHeartbeats 8000000 in
theorem ends_any (m : Msg) (ev sv dv bv : Value) (b : List UInt8) (w : World) (h : MsgIn w m ev sv dv) (hby : Byt w bv b) (hbl : b.length ≤ 140737488355328) (hsp : Spans w) :
    Calls Tryd.prog 8 #[.agg (msgCells m ev sv dv), bv] w fun e w' => e = .returned (.bool true) ∧ w.grownBy w' none := by
  have q1 := h.slices
  have qb := hby.len
  have HI := hid_mk h
  have HBY := hid_mk hby
  have HP := hid_mk hsp
  clear h hsp hby
  obtain ⟨ab, cb, rfl⟩ := qb
  obtain ⟨a1, n1, c1, a2, n2, c2, a3, n3, c3, rfl, rfl, rfl⟩ := q1
  have HF : Hid (w.grownBy (w.alloc (.cells (msgCells m (.slice a1 n1 c1) (.slice a2 n2 c2) (.slice a3 n3 c3)) 26)) none) := hid_mk (World.grownBy_alloc _ _ _)
  unfold msgCells at HF
  unfold msgCells
  go_enter Tryd.func8, Tryd.ntmps8
  go_wp2_with fail
  generalize (w.alloc (.cells _ 26)) = w1 at *
  refine (ownM_in m _ _ _ w1 (HI.out.kept HF.out)).mono ?_
  rintro e w2 ⟨e2, s2, t2, rfl, hi2, hg2⟩
  have H2 := hid_mk (And.intro hi2 hg2)
  clear hi2 hg2
  go_wp2_with fail
  refine (putM_in m e2 s2 t2 w2 H2.out.1 (HP.out.kept (grown_trans HF.out H2.out.2))).mono ?_
  rintro e w3 ⟨a3', c3', rfl, ho3, hg3⟩
  have H3 := hid_mk (And.intro ho3.byt (grown_trans HF.out (grown_trans H2.out.2 hg3)))
  clear ho3 hg3 H2
  cases hrm : rightM m with
  | false =>
    rw [(msgL_bad hrm).2]
    generalize (msgL m).length = n3' at *
    clear hrm
    go_wp2_with (go_at_call 12; refine (num_any _ _).mono ?_; rintro e wx ⟨rfl, hwx⟩; subst wx)
    refine (knowsM_any w3 (HP.out.kept H3.out.2)).mono ?_
    rintro e w4 ⟨rfl, hg4⟩
    have G4 := hid_mk (grown_trans H3.out.2 hg4)
    clear hg4
    go_wp2_with fail
    go_ret
    exact ⟨rfl, G4.out⟩
  | true =>
    have HRM := hid_mk hrm
    rw [(msgL_ok hrm).1] at H3
    rw [(msgL_ok hrm).1, (msgL_ok hrm).2]
    have HML := hid_mk (show (msgB m).length ≤ 10000000 by unfold rightM at hrm; simp only [Bool.and_eq_true] at hrm; exact msgB_len hrm.1 hrm.2)
    have HPOS := hid_mk (msgB_pos m)
    clear hrm
    by_cases hb0 : b.length = 0
    · have HB0 : Hid (b = []) := hid_mk (List.length_eq_zero_iff.1 hb0)
      rw [hb0]
      generalize (msgB m).length = n3' at *
      clear hb0
      go_wp2_with (go_at_call 12; refine (num_any _ _).mono ?_; rintro e wx ⟨rfl, hwx⟩; subst wx)
      refine (knowsM_any w3 (HP.out.kept H3.out.2)).mono ?_
      rintro e w4 ⟨rfl, hg4⟩
      have G4 := hid_mk (grown_trans H3.out.2 hg4)
      clear hg4
      go_wp2_with fail
      go_ret
      exact ⟨rfl, G4.out⟩
    · have HB1 := hid_mk (show 0 < b.length by omega)
      have eb : ((b.length : Int) == 0) = false := by simp; intro hh; exact hb0 (by rw [hh]; rfl)
      have ea : (((msgB m).length : Int) == 0) = false := by simp; intro hh; have := HPOS.out; rw [hh] at this; simp at this
      clear hb0
      have HN1 := hid_mk (longer_no HRM.out HB1.out)
      have HN2 := hid_mk (shorter_no HRM.out ((msgB m).length - 1) (by have := HPOS.out; omega))
      obtain ⟨mb, hmb⟩ : ∃ mb, msgB m = mb := ⟨_, rfl⟩
      have HCL := hid_mk (cap_put HRM.out b)
      rw [hmb] at H3 HML HPOS HN1 HN2 HCL ea ⊢
      clear hmb
      go_upto_region 4 with (go_at_call 12; refine (num_any _ _).mono ?_; rintro e wx ⟨rfl, hwx⟩; subst wx)
      have HO := hid_mk (own_empty w3)
      go_wp2_with (first
        | (at_builtin; refine wpList_append_new w3 _ rfl (.tmp 32) (.tmp 33) rfl (World.grownBy_alloc _ _ _) (.slice (some ⟨w3.heap.size, 0, none⟩) 0 0) [] rfl HO.out mb _ rfl (H3.out.1.kept (World.grownBy_alloc _ _ _)) (by have := HML.out; simp; omega) ?_; intro a4 c4 w4 O4; simp only [List.length_nil, Nat.zero_add, List.nil_append] at O4 ⊢)
        | (at_builtin; refine wpList_append_wide w3 _ rfl (.tmp 34) (.tmp 35) rfl O4.out.2.1 (.slice a4 mb.length c4) mb rfl O4.out.1 b _ rfl (HBY.out.kept (grown_trans H3.out.2 O4.out.2.1)) (by have := HML.out; omega) ?_; intro a5 c5 w5 O5))
      have HG1 := hid_mk (getM_any _ (mb ++ b) w5 (by have := O5.out.1.byt; exact this) (by have := HML.out; rw [List.length_append]; omega) (HP.out.kept (grown_trans H3.out.2 O5.out.2.1)) HCL.out)
      unfold GetPost at HG1
      rw [(gotM_bad HN1.out).1, (gotM_bad HN1.out).2] at HG1
      refine HG1.out.mono ?_
      rintro e w6 ⟨e6, s6, t6, rfl, ⟨he6, hs6, hd6⟩, hg6⟩
      have HI6 := hid_mk (show MsgIn w6 noM e6 s6 t6 from ⟨he6, hs6, hd6, by simp [noM], by simp [noM], by simp [noM]⟩)
      have G6 := hid_mk (grown_trans O5.out.2.1 hg6)
      clear he6 hs6 hd6 hg6 HG1 O4 O5 HO HCL
      have q6 := HI6.out.slices
      obtain ⟨b1, k1, d1, b2, k2, d2, b3, k3, d3, rfl, rfl, rfl⟩ := q6
      have HX6 : Hid (MB (w6.alloc (.cells (msgCells noM (.slice b1 k1 d1) (.slice b2 k2 d2) (.slice b3 k3 d3)) 27)) 27 w6.heap.size noM (.slice b1 k1 d1) (.slice b2 k2 d2) (.slice b3 k3 d3) ∧ w6.grownBy (w6.alloc (.cells (msgCells noM (.slice b1 k1 d1) (.slice b2 k2 d2) (.slice b3 k3 d3)) 27)) none) := hid_mk ⟨heap_alloc_new w6 _, World.grownBy_alloc _ _ _⟩
      unfold msgCells noM at HX6
      unfold msgCells noM
      go_upto_region 5 with fail
      generalize (w6.alloc (.cells _ 27)) = w7 at *
      generalize w6.heap.size = g7 at *
      obtain ⟨n0, hn0⟩ : ∃ n0, mb.length = n0 + 1 := ⟨mb.length - 1, by have := HPOS.out; omega⟩
      rw [hn0] at H3 HN2 ⊢
      have hn0b : n0 ≤ 10000000 := by have := HML.out; omega
      have HML0 := hid_mk hn0b
      have HLT := hid_mk (show ((mb.take n0).length = n0) by rw [List.length_take]; omega)
      have hT3 : Byt w3 (.slice a3' (n0 + 1) c3') mb := H3.out.1
      obtain ⟨a8, c8, hsl, hb8⟩ := hT3.h n0 (by omega)
      have H8 := hid_mk hb8
      simp only [Nat.add_sub_cancel] at HN2
      clear hb8 hT3 hn0 HPOS HML ea
      go_wp2_with fail
      clear hsl
      have HG2 := hid_mk (getM_any _ (mb.take n0) w7 (by have := H8.out.kept (grown_trans G6.out HX6.out.2); exact this) (by rw [HLT.out]; have := HML0.out; omega) (HP.out.kept (grown_trans H3.out.2 (grown_trans G6.out HX6.out.2))) (cap_any (by rw [HLT.out]; have := HML0.out; omega)))
      unfold GetPost at HG2
      rw [(gotM_bad HN2.out).1, (gotM_bad HN2.out).2] at HG2
      refine HG2.out.mono ?_
      rintro e w8 ⟨e8, s8, t8, rfl, ⟨he8, hs8, hd8⟩, hg8⟩
      have HI8 := hid_mk (show MsgIn w8 noM e8 s8 t8 from ⟨he8, hs8, hd8, by simp [noM], by simp [noM], by simp [noM]⟩)
      have G8 := hid_mk hg8
      clear he8 hs8 hd8 hg8 HG2 H8
      have q8 := HI8.out.slices
      obtain ⟨f1, u1, v1, f2, u2, v2, f3, u3, v3, rfl, rfl, rfl⟩ := q8
      have HX8 : Hid (MB (w8.alloc (.cells (msgCells noM (.slice f1 u1 v1) (.slice f2 u2 v2) (.slice f3 u3 v3)) 27)) 27 w8.heap.size noM (.slice f1 u1 v1) (.slice f2 u2 v2) (.slice f3 u3 v3) ∧ w8.grownBy (w8.alloc (.cells (msgCells noM (.slice f1 u1 v1) (.slice f2 u2 v2) (.slice f3 u3 v3)) 27)) none) := hid_mk ⟨heap_alloc_new w8 _, World.grownBy_alloc _ _ _⟩
      unfold msgCells noM at HX8
      unfold msgCells noM
      go_upto_region 6 with fail
      generalize (w8.alloc (.cells _ 27)) = w9 at *
      generalize w8.heap.size = g9 at *
      have GW9 := hid_mk (show w.grownBy w9 none from grown_trans H3.out.2 (grown_trans G6.out (grown_trans HX6.out.2 (grown_trans G8.out HX8.out.2))))
      obtain ⟨p0, p1, p2, p3, p4, p5, p6, p7, p8, p9, p10, p11⟩ := (HX6.out.1.kept (grown_trans G8.out HX8.out.2)).all
      go_wp2_with (go_at_call 12; refine (num_any _ _).mono ?_; rintro e wx ⟨rfl, hwx⟩; subst wx)
      clear p0 p1 p2 p3 p4 p5 p6 p7 p8 p9 p10 p11
      refine (sameM_in noM noM true (by simp) _ _ _ _ _ _ w9 (HI6.out.kept (grown_trans HX6.out.2 (grown_trans G8.out HX8.out.2))) (noM_in w9)).mono ?_
      rintro e w10 ⟨rfl, hg10⟩
      have G10 := hid_mk hg10
      clear hg10
      obtain ⟨p0, p1, p2, p3, p4, p5, p6, p7, p8, p9, p10, p11⟩ := (HX8.out.1.kept G10.out).all
      go_wp2_with fail
      clear p0 p1 p2 p3 p4 p5 p6 p7 p8 p9 p10 p11
      refine (sameM_in noM noM true (by simp) _ _ _ _ _ _ w10 (HI8.out.kept (grown_trans HX8.out.2 G10.out)) (noM_in w10)).mono ?_
      rintro e w11 ⟨rfl, hg11⟩
      have G11 := hid_mk (grown_trans GW9.out (grown_trans G10.out hg11))
      clear hg11
      go_wp2_with fail
      refine (knowsM_any w11 (HP.out.kept G11.out)).mono ?_
      rintro e w12 ⟨rfl, hg12⟩
      have G12 := hid_mk (grown_trans G11.out hg12)
      clear hg12
      go_wp2_with fail
      go_ret
      exact ⟨rfl, G12.out⟩

end Go.Proofs.YtliefofdlpljaaaDoor
