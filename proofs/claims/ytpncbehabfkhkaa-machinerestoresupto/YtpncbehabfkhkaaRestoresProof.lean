/- MachineRestores, at every input that holds together at most 1048576 values and letters, answers true, and the input reads as it did. Condition: that bound (the second form). -/
import Derived.Test.YtpncbehabfkhkaaRows
import Derived.Test.YtpncbehabfkhkaaNaOp
import Derived.Test.YtpncbehabfkhkaaRbK
namespace Go.Proofs.Ytpncbehabfkhkaa
open Go.ChangeShapes Go.WideShapes Go.ChangeAt Go.RowKit
open Ytpncbehabfkhkaa.W (own laidOut below_of_grown)
set_option linter.unusedVariables false
set_option linter.unusedSimpArgs false

set_option maxRecDepth 100000 in
theorem restores_lifted (os : Os) (started : os.Started) (H : Type) (enc : TypeId × Value → H) (F : Stop.Interp) :
    ReturnsInHanded {} Try.checked os 5 .any ((Rows.OpenSpec.upto Rows.machineRestoresSpec).pre6 enc Try.prog Try.f5 Rows.machineRestoresUptoRow.domain false) (((Rows.OpenSpec.upto Rows.machineRestoresSpec).at F).post enc Try.prog Try.f5 false true false false) := by
  refine returnsInHanded_of_cond (C := Try.checked) (s := Rows.OpenSpec.upto Rows.machineRestoresSpec) (k := Rows.uptoSmall) rfl own started (by kernel_rfl) Try.func5
    (OpenSpec.witness (enc := enc) (C := Try.checked) (s := Rows.OpenSpec.upto Rows.machineRestoresSpec) (k := Rows.uptoSmall) rfl false ⟨#[], #[.int .i64 0, .slice none 0 0, .slice none 0 0], []⟩ 8 (by kernel_rfl) (by kernel_rfl) (by kernel_rfl)
      (x := ([.lit (.int .i64 0), .nil, .nil], [], [])) (by kernel_rfl) rfl (by kernel_rfl)) ?_
  intro W base args ds gs before hval0 hW _ hk _
  have hval : ∀ (j : Nat) t v, Try.f5.params[j]? = some t → args[j]? = some v → Value.okWide Try.prog W .any base t v := hval0
  have hW' := hW
  obtain ⟨p, q, hA0, hV, rfl, hfz, hnd⟩ := hW
  have hA : DataW.TrodAll enc Try.prog W 0 (fun _ => true) true Try.f5.params.toList args.toList ds p := hA0
  rw [Try.params5] at hA hval
  obtain ⟨v0, vs0, d0, ds0, p0, q0, hargs, rfl, rfl, h0, r0⟩ := trodAll_cons hA
  obtain ⟨v1, vs1, d1, ds1, p1, q1, rfl, rfl, rfl, h1, r1⟩ := trodAll_cons r0
  obtain ⟨v2, vs2, d2, ds2, p2, q2, rfl, rfl, rfl, h2, r2⟩ := trodAll_cons r1
  obtain ⟨rfl, rfl, rfl⟩ := trodAll_nil r2
  obtain rfl : args = #[v0, v1, v2] := by cases args; simp_all
  obtain ⟨rfl, rfl⟩ := trodVars_none hV
  have k1 := h1
  have k2 := h2
  have lt1 : ∀ x ∈ p1, x.block < W.heap.size := by obtain ⟨m, hm⟩ := k1; exact DataW.trod_lt m _ _ _ hm
  have lt2 : ∀ x ∈ p2, x.block < W.heap.size := by obtain ⟨m, hm⟩ := k2; exact DataW.trod_lt m _ _ _ hm
  obtain ⟨z, rfl, rfl, rfl, w0⟩ := open_int Try.underlying3 (hval 0 3 v0 rfl rfl) h0
  obtain ⟨a1, len1, cap1, rfl⟩ := okWide_slice Try.underlying22 (hval 1 22 v1 rfl rfl)
  obtain ⟨a2, len2, cap2, rfl⟩ := okWide_slice Try.underlying36 (hval 2 36 v2 rfl rfl)
  obtain ⟨f1, hf1⟩ := h1
  obtain ⟨f2, hf2⟩ := h2
  obtain ⟨bs, hbs⟩ := Ytpncbehabfkhkaa.W.bytes_in hf1
  obtain ⟨ys, hys, hyl, hyb⟩ := Ytpncbehabfkhkaa.W.mops_in hf2
  have hb : Rows.uptoBulkAll ([.lit (.int .i64 z), d1, d2] ++ []) ≤ 1048576 := of_decide_eq_true hk
  simp only [List.append_nil, Rows.uptoBulkAll] at hb
  simp only at hyl hyb
  have hbl : bs.length ≤ Rows.uptoBulk d1 := by
    obtain ⟨a', c', e'⟩ := hbs.len
    cases e'
    exact Ytpncbehabfkhkaa.W.slice_bulk Try.underlying22 hf1
  obtain ⟨a', c', e'⟩ := hbs.len
  cases e'
  obtain ⟨a', c', e'⟩ := hys.1
  cases e'
  clear hA0 hval0
  have key : Calls Try.prog 5 #[.int .i64 z, .slice a1 bs.length cap1, .slice a2 ys.length cap2] W fun e w' => e = .returned (.bool true) ∧ W.grownBy w' none := by
    have hyv := Ytpncbehabfkhkaa.W.ops_v hys (fun x hx => by have := hyb x hx; omega)
    by_cases hz : z < 1 ∨ 1099511627776 < z
    · exact Ytpncbehabfkhkaa.W.restores_bad z a1 a2 cap1 cap2 bs ys W hz hbs (by omega)
    · obtain ⟨s, rfl⟩ : ∃ s : Nat, z = s := ⟨z.toNat, by omega⟩
      exact Ytpncbehabfkhkaa.W.restores_ok s a1 a2 cap1 cap2 bs ys W (by omega) (by omega) hbs hys hyv (by omega)
  refine key.mono fun e W' ⟨he, hg⟩ => ?_
  subst he
  have bel := below_of_grown hg
  exact ⟨_, rfl, _, _, _, [], _, [], hW', trodAll_mk1 (shut_bool Try.underlying4 _), (trodAll_cons_mk (shut_int Try.underlying3 w0) (trodAll_cons_mk (Below.trod laidOut (by kernel_rfl) (of_decide_eq_true (by kernel_rfl)) k1 bel lt1) (trodAll_cons_mk (Below.trod laidOut (by kernel_rfl) (of_decide_eq_true (by kernel_rfl)) k2 bel lt2) trodAll_mk0))), rfl, bel.frame _, fun h => by cases h⟩

theorem restores_holds : Rows.MachineRestoresUptoSaid :=
  OpenClaim.holds_of_cond 5 Try.f5 rfl rfl rfl rfl rfl rfl rfl ⟨rfl, rfl, rfl, rfl, rfl⟩ rfl rfl rfl rfl rfl (by kernel_rfl) Try.func5 (by kernel_rfl)
    (of_decide_eq_true (by kernel_rfl)) (by unfold Func.isWrapper; first | (rw [if_pos (by decide +kernel)]; kernel_rfl) | (rw [if_neg (by decide +kernel)]; exact ⟨rfl, rfl⟩))
    (fun os started H enc _ F => restores_lifted os started H enc F)

end Go.Proofs.Ytpncbehabfkhkaa
