/- First, TermOf, hint. -/
import Derived.Test.YtinpcpojadcegaaEnI
namespace Go.Proofs.Ytinpcpojadcegaa.W
open Go.RowKit Go.Maps
set_option linter.unusedVariables false
set_option linter.unusedSimpArgs false
set_option maxRecDepth 100000
attribute [local go_sem] Oper.semAt_some

/-- What TermOf tells. -/
def termR (b t : Int) (es : List Ent) (i : Int) : Int × Int :=
  if rightV b t es = true then (if i < b then (0, 36) else if b + es.length < i then (0, 3) else (termA b t es i, 0)) else (0, 1)
theorem termR_bad {b t : Int} {es : List Ent} {i : Int} (h : rightV b t es = false) : termR b t es i = (0, 1) := by unfold termR; rw [h]; rfl
theorem termR_low {b t : Int} {es : List Ent} {i : Int} (h : rightV b t es = true) (hi : i < b) : termR b t es i = (0, 36) := by unfold termR; rw [if_pos h, if_pos hi]
theorem termR_high {b t : Int} {es : List Ent} {i : Int} (h : rightV b t es = true) (hi : b + es.length < i) : termR b t es i = (0, 3) := by unfold termR; rw [if_pos h, if_neg (by omega), if_pos hi]
theorem termR_in {b t : Int} {es : List Ent} {i : Int} (h : rightV b t es = true) (h1 : b ≤ i) (h2 : i ≤ b + es.length) : termR b t es i = (termA b t es i, 0) := by unfold termR; rw [if_pos h, if_neg (by omega), if_neg (by omega)]

set_option maxHeartbeats 4000000 in
theorem termOf_any (b t : Int) (lv : Value) (es : List Ent) (i : Int) (w : World) (h : EntsR w lv es) (hlen : es.length ≤ 10000000000000) (hbb : I64 b) : Calls Try.prog 24 #[viewV b t lv, .int .i64 i] w fun e w' => e = .returned (.tuple #[.int .i64 (termR b t es i).1, .int .i64 (termR b t es i).2]) ∧ w.grownBy w' none := by
  obtain ⟨a, c, rfl⟩ := h.len
  have HE := hid_mk (And.intro h hbb)
  clear h hbb
  have hV : viewV b t (.slice a es.length c) = .agg #[.int .i64 b, .int .i64 t, .slice a es.length c] := rfl
  have HV := hid_mk hV
  rw [hV]
  clear hV
  have HA := hid_mk (And.intro (VB.new w b t (.slice a es.length c)) (World.grownBy_alloc w (.cells #[.int .i64 b, .int .i64 t, .slice a es.length c] 25) none))
  cases hr : rightV b t es with
  | false =>
    have HR := hid_mk (And.intro hr (termR_bad (i := i) hr))
    clear hr
    go_enter Try.func24, Try.ntmps24
    go_upto_region 1 with fail
    generalize w.alloc (.cells #[.int .i64 b, .int .i64 t, .slice a es.length c] 25) = w1 at *
    obtain ⟨v0, v1, v2⟩ := HA.out.1.cells
    go_wp2_with fail
    rw [← HV.out]
    refine (rightV_any b t _ es w1 (HE.out.1.kept HA.out.2) hlen HE.out.2).mono ?_
    rintro e w2 ⟨rfl, hg⟩
    rw [HR.out.1, HV.out]
    have HG := hid_mk (grown_trans HA.out.2 hg)
    clear hg v0 v1 v2
    go_wp2
    go_ret2
    exact ⟨by rw [HR.out.2]; rfl, HG.out⟩
  | true =>
    have hsp := rightV_spec hr
    have HR := hid_mk (And.intro hr hsp.2.2.2.2.2)
    have hb1 := hsp.1
    have hb2 := hsp.2.1
    have hl2 := hsp.2.2.2.2.1
    clear hr hsp
    go_enter Try.func24, Try.ntmps24
    go_upto_region 1 with fail
    generalize w.alloc (.cells #[.int .i64 b, .int .i64 t, .slice a es.length c] 25) = w1 at *
    obtain ⟨v0, v1, v2⟩ := HA.out.1.cells
    go_wp2_with fail
    rw [← HV.out]
    refine (rightV_any b t _ es w1 (HE.out.1.kept HA.out.2) hlen HE.out.2).mono ?_
    rintro e w2 ⟨rfl, hg⟩
    rw [HR.out.1, HV.out]
    have HG := hid_mk (And.intro (grown_trans HA.out.2 hg) (HA.out.1.kept hg (by simp)))
    clear hg v0 v1 v2
    obtain ⟨v0, v1, v2⟩ := HG.out.2.cells
    by_cases hi : i < b
    · have HT := hid_mk (termR_low HR.out.1 hi)
      go_wp2
      go_ret2
      exact ⟨by rw [HT.out]; rfl, HG.out.1⟩
    · go_wp2_with fail
      rw [← HV.out]
      refine (end_any b t _ es w2 (HE.out.1.kept HG.out.1) hlen).mono ?_
      rintro e w3 ⟨rfl, hg⟩
      rw [HV.out, endI_of HR.out.2]
      have HG3 := hid_mk (And.intro (grown_trans HG.out.1 hg) (HG.out.2.kept hg (by simp)))
      clear hg v0 v1 v2
      obtain ⟨v0, v1, v2⟩ := HG3.out.2.cells
      obtain ⟨T0, hT0⟩ : ∃ T0, T0 = endT t es := ⟨_, rfl⟩
      rw [← hT0]
      clear hT0
      by_cases hi2 : b + es.length < i
      · have HT := hid_mk (termR_high HR.out.1 hi2)
        go_wp2
        go_ret2
        exact ⟨by rw [HT.out]; rfl, HG3.out.1⟩
      · have HT := hid_mk (termR_in HR.out.1 (show b ≤ i by omega) (show i ≤ b + es.length by omega))
        go_wp2_with fail
        rw [← HV.out]
        refine (termAt_any b t _ es i w3 (HE.out.1.kept HG3.out.1) (by omega) (by omega) (by omega) HR.out.2).mono ?_
        rintro e w4 ⟨rfl, hg⟩
        have HG4 := hid_mk (grown_trans HG3.out.1 hg)
        clear hg v0 v1 v2
        rw [HV.out]
        obtain ⟨A0, hA0⟩ : ∃ A0, A0 = termA b t es i := ⟨_, rfl⟩
        rw [← hA0]
        have HA0 := hid_mk hA0
        clear hA0
        go_wp2
        go_ret2
        exact ⟨by rw [HT.out, HA0.out]; rfl, HG4.out⟩
/-- From where to send; 0: it fits. -/
def hintZ (b t : Int) (es : List Ent) (prev term : Int) : Int :=
  if b + es.length < prev then b + es.length + 1 else if prev < b ∨ termA b t es prev = term then 0 else max (firstI es (termA b t es prev)) (b + 1)
theorem hintZ_high {b t : Int} {es : List Ent} {prev term : Int} (h : b + es.length < prev) : hintZ b t es prev term = b + es.length + 1 := by unfold hintZ; rw [if_pos h]
theorem hintZ_fit {b t : Int} {es : List Ent} {prev term : Int} (h : ¬ b + es.length < prev) (h2 : prev < b ∨ termA b t es prev = term) : hintZ b t es prev term = 0 := by unfold hintZ; rw [if_neg h, if_pos h2]
theorem hintZ_no {b t : Int} {es : List Ent} {prev term : Int} (h : ¬ b + es.length < prev) (h2 : ¬ (prev < b ∨ termA b t es prev = term)) : hintZ b t es prev term = max (firstI es (termA b t es prev)) (b + 1) := by unfold hintZ; rw [if_neg h, if_neg h2]

set_option maxHeartbeats 4000000 in
theorem hint_any (b t : Int) (lv : Value) (es : List Ent) (prev term : Int) (w : World) (h : EntsR w lv es) (hr : rightV b t es = true) : Calls Try.prog 40 #[viewV b t lv, .int .i64 prev, .int .i64 term] w fun e w' => e = .returned (.int .i64 (hintZ b t es prev term)) ∧ w.grownBy w' none := by
  obtain ⟨a, c, rfl⟩ := h.len
  have HE := hid_mk h
  clear h
  have hV : viewV b t (.slice a es.length c) = .agg #[.int .i64 b, .int .i64 t, .slice a es.length c] := rfl
  have HV := hid_mk hV
  rw [hV]
  clear hV
  have HA := hid_mk (And.intro (VB.new w b t (.slice a es.length c)) (World.grownBy_alloc w (.cells #[.int .i64 b, .int .i64 t, .slice a es.length c] 25) none))
  have hsp := rightV_spec hr
  have HR := hid_mk (And.intro hr hsp.2.2.2.2.2)
  have hb1 := hsp.1
  have hb2 := hsp.2.1
  have hl2 := hsp.2.2.2.2.1
  clear hr hsp
  go_enter Try.func40, Try.ntmps40
  go_upto_region 1 with fail
  generalize w.alloc (.cells #[.int .i64 b, .int .i64 t, .slice a es.length c] 25) = w1 at *
  obtain ⟨v0, v1, v2⟩ := HA.out.1.cells
  go_wp2_with fail
  rw [← HV.out]
  refine (end_any b t _ es w1 (HE.out.kept HA.out.2) (by omega)).mono ?_
  rintro e w2 ⟨rfl, hg⟩
  rw [HV.out, endI_of HR.out.2]
  have HG := hid_mk (And.intro (grown_trans HA.out.2 hg) (HA.out.1.kept hg (by simp)))
  clear hg v0 v1 v2
  obtain ⟨v0, v1, v2⟩ := HG.out.2.cells
  obtain ⟨T0, hT0⟩ : ∃ T0, T0 = endT t es := ⟨_, rfl⟩
  rw [← hT0]
  clear hT0
  by_cases h1 : b + es.length < prev
  · have HT := hid_mk (hintZ_high (t := t) (term := term) h1)
    go_wp2
    go_ret
    exact ⟨by rw [HT.out]; rfl, HG.out.1⟩
  · by_cases h2 : prev < b
    · have HT := hid_mk (hintZ_fit (t := t) (term := term) h1 (.inl h2))
      go_wp2
      go_ret
      exact ⟨by rw [HT.out]; rfl, HG.out.1⟩
    · go_wp2_with fail
      rw [← HV.out]
      refine (termAt_any b t _ es prev w2 (HE.out.kept HG.out.1) (by omega) (by omega) (by omega) HR.out.2).mono ?_
      rintro e w3 ⟨rfl, hg⟩
      have HG3 := hid_mk (And.intro (grown_trans HG.out.1 hg) (HG.out.2.kept hg (by simp)))
      clear hg v0 v1 v2
      rw [HV.out]
      by_cases h3 : termA b t es prev = term
      · have HT := hid_mk (hintZ_fit (t := t) (term := term) (show ¬ b + es.length < prev by omega) (.inr h3))
        rw [h3]
        have h3' : (term == term) = true := beq_self_eq_true term
        clear h3
        go_wp2
        go_ret
        exact ⟨by rw [HT.out]; rfl, HG3.out.1⟩
      · have HT := hid_mk (hintZ_no (t := t) (term := term) (show ¬ b + es.length < prev by omega) (fun h => h.elim (fun h => by omega) h3))
        have h3' : (termA b t es prev == term) = false := beq_eq_false_iff_ne.2 h3
        obtain ⟨A0, hA0⟩ : ∃ A0, A0 = termA b t es prev := ⟨_, rfl⟩
        rw [← hA0] at HT h3' ⊢
        have HA0 := hid_mk hA0
        clear hA0 h3
        obtain ⟨v0, v1, v2⟩ := HG3.out.2.cells
        go_upto_region 6 with fail
        have HCL : ∀ W, w3.grownBy W none → W.cell? ⟨w.heap.size, 0, none⟩ = some (.int .i64 b) ∧ W.cell? ⟨w.heap.size, 1, none⟩ = some (.int .i64 t) ∧ W.cell? ⟨w.heap.size, 2, none⟩ = some (.slice a es.length c) := fun W hW => (HG3.out.2.kept hW (by simp)).cells
        clear v0 v1 v2
        refine wp_region_mix [(0, true), (1, true), (2, true), (5, true), (6, true), (7, true), (3, false), (4, false), (8, true), (9, true)] (at0 w3 (fun W => w3.grownBy W none)) (by kernel_rfl) (by kernel_rfl) rfl (by kernel_rfl) (shut_at0 (fun m => grown_drewN _ m none)) ⟨1, rfl⟩ ?_
        repeat (refine mix_rd1 rfl rfl (fun K hK => ?_); apply Exists.intro; refine ⟨fun W hW => ?_, ?_⟩; (obtain ⟨c0, c1, c2⟩ := HCL W hW; go_simp; rfl); (go_simp; refine hK _ _ ?_; clear hK K))
        refine mix_call rfl rfl 49 #[viewV b t (.slice a es.length c), .int .i64 prev] (fun W => by rw [HV.out]; go_simp) ?_
        rintro W ⟨m4, rfl⟩
        refine (termAt_any b t _ es prev (w3.drewN m4) (HE.out.kept (grown_trans HG3.out.1 (grown_drewN _ m4 none))) (by omega) (by omega) (by omega) HR.out.2).mono ?_
        rintro e w4 ⟨rfl, hg4⟩
        rw [← HA0.out]
        have G4 := hid_mk (show w3.grownBy w4 none from grown_trans (grown_drewN _ m4 none) hg4)
        clear hg4
        refine ⟨_, rfl, at0 w4 (fun W => w3.grownBy W none), ⟨0, rfl⟩, shut_at0 (all_kept G4.out), fun _ h => h, ?_⟩
        refine mix_call rfl rfl 54 #[viewV b t (.slice a es.length c), .int .i64 A0] (fun W => by rw [HV.out]; go_simp) ?_
        rintro W ⟨m5, rfl⟩
        refine (firstOf_any b t _ es A0 (w4.drewN m5) (HE.out.kept (grown_trans HG3.out.1 (grown_trans G4.out (grown_drewN _ m5 none)))) (by omega)).mono ?_
        rintro e w5 ⟨rfl, hg5⟩
        have G5 := hid_mk (show w3.grownBy w5 none from grown_trans G4.out (grown_trans (grown_drewN _ m5 none) hg5))
        clear hg5
        refine ⟨_, rfl, at0 w5 (fun W => w3.grownBy W none), ⟨0, rfl⟩, shut_at0 (all_kept G5.out), fun _ h => h, ?_⟩
        obtain ⟨F0, hF0⟩ : ∃ F0, F0 = firstI es A0 := ⟨_, rfl⟩
        rw [← hF0] at HT ⊢
        clear hF0
        refine mix_rd rfl rfl (.int .i64 (max F0 (b + 1))) (fun W hW => ?mx) ?_
        case mx =>
          go_simp
          rw [show IntKind.i64.wrap (b + 1) = b + 1 by rw [IntKind.wrap_i64]; omega]
          split <;> omega
        obtain ⟨M0, hM0⟩ : ∃ M0, M0 = max F0 (b + 1) := ⟨_, rfl⟩
        rw [← hM0] at HT ⊢
        clear hM0
        repeat (refine mix_rd1 rfl rfl (fun K hK => ?_); apply Exists.intro; refine ⟨fun W hW => ?_, ?_⟩; (go_simp; rfl); (go_simp; refine hK _ _ ?_; clear hK K))
        refine mix_nil ?_
        rintro W ⟨m7, rfl⟩
        go_wp2_with fail
        go_ret
        exact ⟨by rw [HT.out]; rfl, grown_trans HG3.out.1 (grown_trans G5.out (grown_drewN _ m7 none))⟩
end Go.Proofs.Ytinpcpojadcegaa.W
