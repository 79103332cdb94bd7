/- HistoryMade, whatever its input, answers true, and the input reads as it did. No condition but the form's own reach. -/
import Derived.Test.YthbfjpaimnhpgaaRows
import Derived.Test.YthbfjpaimnhpgaaHWd
import Derived.Test.YthbfjpaimnhpgaaHOp
namespace Go.Proofs.Ythbfjpaimnhpgaa
open Go.ChangeShapes Go.WideShapes Go.ChangeAt Go.RowKit
set_option linter.unusedVariables false
set_option linter.unusedSimpArgs false

set_option maxRecDepth 100000 in
theorem made_lifted (os : Os) (started : os.Started) (H : Type) (enc : TypeId × Value → H) :
    ReturnsInHanded {} Try.checked os 7 .any (Rows.historyMadeSpec.pre6 enc Try.prog Try.f7 Rows.historyMadeRow.domain false) (Rows.historyMadeSpec.post enc Try.prog Try.f7 false true false false) := by
  refine returnsInHanded_of_change_sized (C := Try.checked) own started (by kernel_rfl) Try.func7
    (ChangeSpec.witness6 (enc := enc) (C := Try.checked) false ⟨#[], #[.slice none 0 0, .slice none 0 0, .int .i64 0], []⟩ 8 (by kernel_rfl) (by kernel_rfl) (by kernel_rfl) (by kernel_rfl)) ?_
  intro X0 base args ds gs before hval0 hW hcnd hwt _
  have hval : ∀ (j : Nat) t v, Try.f7.params[j]? = some t → args[j]? = some v → Value.okWide Try.prog X0 .any base t v := hval0
  have hW' := hW
  obtain ⟨p, q, hA0, hV, rfl, hfz, hnd⟩ := hW
  have hA : DataW.TrodAll enc Try.prog X0 0 (fun _ => true) true Try.f7.params.toList args.toList ds p := hA0
  rw [Try.params7] at hA hval
  obtain ⟨v0, vs0, d0, ds0, p0, q0, hargs, rfl, rfl, h0, r0⟩ := trodAll_cons hA
  obtain ⟨v1, vs1, d1, ds1, p1, q1, rfl, rfl, rfl, h1, r1⟩ := trodAll_cons r0
  obtain ⟨v2, vs2, d2, ds2, p2, q2, rfl, rfl, rfl, h2, r2⟩ := trodAll_cons r1
  obtain ⟨rfl, rfl, rfl⟩ := trodAll_nil r2
  obtain rfl : args = #[v0, v1, v2] := by cases args; simp_all
  obtain ⟨rfl, rfl⟩ := trodVars_none hV
  have hwd : ∀ (j : Nat) t (x : DataW H), Try.f7.params.toList[j]? = some t → [d0, d1, d2][j]? = some x → ∀ n ∈ x.weights Try.prog t, n ≤ reachBytes := fun j t x ht hx n hn => by
    have hm : n ∈ DataW.weightsEach Try.prog (Try.f7.params.toList ++ Rows.historyMadeSpec.plain.varTypes Try.prog) ([d0, d1, d2] ++ []) :=
      DataW.weights_mem_each (j := j) (t := t) (d := x) (by rw [List.getElem?_append_left (List.getElem?_eq_some_iff.1 ht).1]; exact ht) (by simpa using hx) n hn
    have := List.all_eq_true.1 hwt _ hm
    simpa using this
  have k0 := h0
  have lt0 : ∀ x ∈ p0, x.block < X0.heap.size := by obtain ⟨m, hm⟩ := k0; exact DataW.trod_lt m _ _ _ hm
  obtain ⟨a0, len0, cap0, rfl⟩ := okWide_slice Try.underlying22 (hval 0 22 v0 rfl rfl)
  obtain ⟨f0, hf0⟩ := h0
  obtain ⟨L0, O0, l0⟩ := ops_in hf0 (hwd 0 22 d0 (by rw [Try.params7]; rfl) rfl)
  obtain ⟨a0', c0', e0⟩ := O0.1
  injection e0 with e0a e0b e0c
  subst e0b
  have k1 := h1
  have lt1 : ∀ x ∈ p1, x.block < X0.heap.size := by obtain ⟨m, hm⟩ := k1; exact DataW.trod_lt m _ _ _ hm
  obtain ⟨a1, len1, cap1, rfl⟩ := okWide_slice Try.underlying41 (hval 1 41 v1 rfl rfl)
  obtain ⟨f1, hf1⟩ := h1
  obtain ⟨L1, O1, l1⟩ := nums_in hf1 (hwd 1 41 d1 (by rw [Try.params7]; rfl) rfl)
  obtain ⟨a1', c1', e1⟩ := O1.len
  injection e1 with e1a e1b e1c
  subst e1b
  obtain ⟨z2, rfl, rfl, rfl, w2⟩ := open_int Try.underlying3 (hval 2 3 v2 rfl rfl) h2
  have i2 := bounds_i64 w2
  clear hA0 hval0
  refine (historyMade_walk _ _ z2 L0 L1 X0 O0 l0 O1 l1 i2).mono fun e X1 ⟨he, hg⟩ => ?_
  subst he
  have bel := below_of_grown hg
  exact ⟨_, rfl, _, _, _, [], _, [], hW', trodAll_mk1 (shut_bool Try.underlying4 _), (trodAll_cons_mk (Below.trod laidOut (by kernel_rfl) (of_decide_eq_true (by kernel_rfl)) k0 bel lt0) (trodAll_cons_mk (Below.trod laidOut (by kernel_rfl) (of_decide_eq_true (by kernel_rfl)) k1 bel lt1) (trodAll_cons_mk (shut_int Try.underlying3 w2) trodAll_mk0))), rfl, bel.frame _, fun h => by cases h⟩

theorem made_holds : Rows.HistoryMadeSaid :=
  OpenClaim.holds_of_wide 7 Try.f7 rfl rfl rfl rfl rfl rfl rfl ⟨rfl, rfl, rfl, rfl, rfl⟩ rfl rfl rfl rfl rfl (by kernel_rfl) Try.func7 (by kernel_rfl)
    (of_decide_eq_true (by kernel_rfl)) (by unfold Func.isWrapper; first | (rw [if_pos (by decide +kernel)]; kernel_rfl) | (rw [if_neg (by decide +kernel)]; exact ⟨rfl, rfl⟩))
    (fun os started H enc _ => made_lifted os started H enc)

end Go.Proofs.Ythbfjpaimnhpgaa
