/- WatchLeaders, whatever its input, answers true, and the input reads as it did. No condition but the form's own reach. -/
import Derived.Test.YtcijjepleedecaaRows
import Derived.Test.YtcijjepleedecaaWaL
import Derived.Test.YtcijjepleedecaaWaOp
namespace Go.Proofs.Ytcijjepleedecaa
open Go.ChangeShapes Go.WideShapes Go.ChangeAt Go.RowKit
set_option linter.unusedVariables false
set_option linter.unusedSimpArgs false

set_option maxRecDepth 100000 in
theorem leaders_lifted (os : Os) (started : os.Started) (H : Type) (enc : TypeId × Value → H) :
    ReturnsInHanded {} Try.checked os 3 .any (Rows.watchLeadersSpec.pre6 enc Try.prog Try.f3 Rows.watchLeadersRow.domain false) (Rows.watchLeadersSpec.post enc Try.prog Try.f3 false true false false) := by
  refine returnsInHanded_of_change_sized (C := Try.checked) W.own started (by kernel_rfl) Try.func3
    (ChangeSpec.witness6 (enc := enc) (C := Try.checked) false ⟨#[], #[.slice none 0 0], []⟩ 8 (by kernel_rfl) (by kernel_rfl) (by kernel_rfl) (by kernel_rfl)) ?_
  intro X0 base args ds gs before hval0 hW hcnd hwt _
  have hval : ∀ (j : Nat) t v, Try.f3.params[j]? = some t → args[j]? = some v → Value.okWide Try.prog X0 .any base t v := hval0
  have hW' := hW
  obtain ⟨p, q, hA0, hV, rfl, hfz, hnd⟩ := hW
  have hA : DataW.TrodAll enc Try.prog X0 0 (fun _ => true) true Try.f3.params.toList args.toList ds p := hA0
  rw [Try.params3] at hA hval
  obtain ⟨v0, vs0, d0, ds0, p0, q0, hargs, rfl, rfl, h0, r0⟩ := trodAll_cons hA
  obtain ⟨rfl, rfl, rfl⟩ := trodAll_nil r0
  obtain rfl : args = #[v0] := by cases args; simp_all
  obtain ⟨rfl, rfl⟩ := trodVars_none hV
  have hwd : ∀ (j : Nat) t (x : DataW H), Try.f3.params.toList[j]? = some t → [d0][j]? = some x → ∀ n ∈ x.weights Try.prog t, n ≤ reachBytes := fun j t x ht hx n hn => by
    have hm : n ∈ DataW.weightsEach Try.prog (Try.f3.params.toList ++ Rows.watchLeadersSpec.plain.varTypes Try.prog) ([d0] ++ []) :=
      DataW.weights_mem_each (j := j) (t := t) (d := x) (by rw [List.getElem?_append_left (List.getElem?_eq_some_iff.1 ht).1]; exact ht) (by simpa using hx) n hn
    have := List.all_eq_true.1 hwt _ hm
    simpa using this
  have k0 := h0
  have lt0 : ∀ x ∈ p0, x.block < X0.heap.size := by obtain ⟨m, hm⟩ := k0; exact DataW.trod_lt m _ _ _ hm
  obtain ⟨a0, len0, cap0, rfl⟩ := okWide_slice Try.underlying22 (hval 0 22 v0 rfl rfl)
  obtain ⟨f0, hf0⟩ := h0
  obtain ⟨ss0, he0, ho0, hl0⟩ := W.seens_in hf0 (hwd 0 22 d0 (by rw [Try.params3]; rfl) rfl)
  clear hA0 hval0
  refine (W.leadersLaw_any _ ss0 X0 he0 ho0 hl0).mono fun e X1 ⟨he, hg⟩ => ?_
  subst he
  have bel := W.below_of_grown hg
  exact ⟨_, rfl, _, _, _, [], _, [], hW', trodAll_mk1 (shut_bool Try.underlying4 _), (trodAll_cons_mk (Below.trod W.laidOut (by kernel_rfl) (of_decide_eq_true (by kernel_rfl)) k0 bel lt0) trodAll_mk0), rfl, bel.frame _, fun h => by cases h⟩

theorem leaders_holds : Rows.WatchLeadersSaid :=
  OpenClaim.holds_of_wide 3 Try.f3 rfl rfl rfl rfl rfl rfl rfl ⟨rfl, rfl, rfl, rfl, rfl⟩ rfl rfl rfl rfl rfl (by kernel_rfl) Try.func3 (by kernel_rfl)
    (of_decide_eq_true (by kernel_rfl)) (by unfold Func.isWrapper; first | (rw [if_pos (by decide +kernel)]; kernel_rfl) | (rw [if_neg (by decide +kernel)]; exact ⟨rfl, rfl⟩))
    (fun os started H enc _ => leaders_lifted os started H enc)

end Go.Proofs.Ytcijjepleedecaa
