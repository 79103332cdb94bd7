/- PutBytes; lists of servers. -/
import Derived.Test.YtpncbehabfkhkaaWPut
namespace Go.Proofs.Ytpncbehabfkhkaa.W
open Go.RowKit Go.Maps
set_option linter.unusedVariables false
set_option linter.unusedSimpArgs false

theorem parts_two (w : World) (t : TypeId) (v1 v2 : Value) (l1 l2 : List UInt8) (h1 : Byt w v1 l1) (h2 : Byt w v2 l2) : Parts (w.alloc (.cells #[v1, v2] t)) (.slice (some ⟨w.heap.size, 0, none⟩) 2 2) [(v1, l1), (v2, l2)] := by
  refine .inr ⟨w.heap.size, 0, 2, rfl, Nat.le_refl _, fun j p hj => ?_⟩
  rw [cell_of_row _ _ _ _ _ _ (heap_alloc_new w _)]
  match j, hj with
  | 0, hj => simp at hj; subst hj; exact ⟨rfl, h1.kept (World.grownBy_alloc _ _ _)⟩
  | 1, hj => simp at hj; subst hj; exact ⟨rfl, h2.kept (World.grownBy_alloc _ _ _)⟩
theorem flat_two (v1 v2 : Value) (l1 l2 : List UInt8) : flat [(v1, l1), (v2, l2)] = l1 ++ l2 := by simp [flat]

def txtErr (n : Nat) : Int := if 1048576 < n then 6 else 0
def txtL (d : List UInt8) : List UInt8 := if 1048576 < d.length then [] else txtB d
theorem txtL_bad {d : List UInt8} (h : 1048576 < d.length) : txtL d = [] ∧ txtErr d.length = 6 := by unfold txtL txtErr; rw [if_pos h, if_pos h]; exact ⟨rfl, rfl⟩
theorem txtL_ok {d : List UInt8} (h : ¬ 1048576 < d.length) : txtL d = txtB d ∧ txtErr d.length = 0 := by unfold txtL txtErr; rw [if_neg h, if_neg h]; exact ⟨rfl, rfl⟩

/-! ### Lists of servers -/
theorem rightS_len {l : List Int} (h : l.length < 1 ∨ 7 < l.length) : rightS l = false := by
  unfold rightS; rw [decide_eq_false_iff_not]; omega
theorem rightS_iff {l : List Int} (h1 : 1 ≤ l.length) (h7 : l.length ≤ 7) {b : Bool} (h : Rising (-1) l ↔ b = true) : rightS l = b := by
  unfold rightS
  cases b
  · rw [decide_eq_false_iff_not]; intro hh; exact absurd (h.1 hh.2.2) (by simp)
  · rw [decide_eq_true_iff]; exact ⟨h1, h7, h.2 rfl⟩
theorem rising_at {l : List Int} {k : Nat} (p : Int) (hk : k < l.length) : Rising p (l.drop k) ↔ p < l[k] ∧ l[k] < 16 ∧ Rising l[k] (l.drop (k + 1)) := by
  rw [List.drop_eq_getElem_cons hk]; rfl

def srvErr (l : List Int) : Int := if rightS l = true then 0 else 1
def srvL (l : List Int) : List UInt8 := if rightS l = true then srvB l else []
theorem srvL_ok {l : List Int} (h : rightS l = true) : srvL l = srvB l ∧ srvErr l = 0 := by unfold srvL srvErr; rw [if_pos h, if_pos h]; exact ⟨rfl, rfl⟩
theorem srvL_bad {l : List Int} (h : rightS l = false) : srvL l = [] ∧ srvErr l = 1 := by unfold srvL srvErr; rw [h]; exact ⟨rfl, rfl⟩

theorem eq_str (l : List UInt8) : (l == (⟨l.toArray⟩ : ByteArray).toList) = true := by simp [go_sem]

end Go.Proofs.Ytpncbehabfkhkaa.W
