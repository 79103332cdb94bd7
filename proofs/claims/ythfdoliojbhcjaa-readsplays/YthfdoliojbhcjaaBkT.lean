/- Rests. -/
import Derived.Test.YthfdoliojbhcjaaBkL
namespace Go.Proofs.Ythfdoliojbhcjaa
open Go.RowKit Go.Maps
set_option linter.unusedVariables false
set_option linter.unusedSimpArgs false
set_option maxRecDepth 100000

/-- The rest of n by s, from 0 on. -/
def rst (n : Int) (s : Nat) : Nat := (n % (s : Int)).toNat
theorem rst_cast (n : Int) {s : Nat} (h : 1 ≤ s) : ((rst n s : Nat) : Int) = n % (s : Int) := by
  unfold rst
  have := Int.emod_nonneg n (show (s : Int) ≠ 0 by omega)
  omega
theorem rst_lt (n : Int) {s : Nat} (h : 1 ≤ s) : rst n s < s := by
  have h1 := rst_cast n h
  have h2 := Int.emod_lt_of_pos n (show (0 : Int) < s by omega)
  omega
theorem tmod_pos (n : Int) {s : Nat} (h : 1 ≤ s) (h0 : ¬ n.tmod s < 0) : n.tmod s = n % (s : Int) := by
  rw [Int.tmod_eq_emod] at *
  split at h0
  · rename_i hc
    rw [if_pos hc]; simp
  · rename_i hc
    have := Int.emod_lt_of_pos n (show (0 : Int) < s by omega)
    have e : (Int.natAbs (s : Int) : Int) = s := by omega
    rw [e] at h0
    omega
theorem tmod_neg (n : Int) {s : Nat} (h : 1 ≤ s) (h0 : n.tmod s < 0) : n.tmod s + s = n % (s : Int) := by
  rw [Int.tmod_eq_emod] at *
  split at h0
  · have := Int.emod_nonneg n (show (s : Int) ≠ 0 by omega)
    simp at h0
    omega
  · rename_i hc
    rw [if_neg hc]
    have e : (Int.natAbs (s : Int) : Int) = s := by omega
    rw [e]
    omega
theorem tmod_bd (n : Int) {s : Nat} (h : 1 ≤ s) (h2 : s ≤ 1000) : -1000 ≤ n.tmod s ∧ n.tmod s ≤ 1000 := by
  have h1 := Int.emod_nonneg n (show (s : Int) ≠ 0 by omega)
  have h3 := Int.emod_lt_of_pos n (show (0 : Int) < s by omega)
  by_cases h0 : n.tmod s < 0
  · have := tmod_neg n h h0; omega
  · have := tmod_pos n h h0; omega
theorem twice_rem (n : Int) (s : Nat) (h1 : 1 ≤ s) : (n.tmod s + s).tmod s = (rst n s : Int) := by
  have e := rst_cast n h1
  have l := rst_lt n h1
  have h1' := Int.emod_nonneg n (show (s : Int) ≠ 0 by omega)
  have h3 := Int.emod_lt_of_pos n (show (0 : Int) < s by omega)
  by_cases h0 : n.tmod s < 0
  · rw [tmod_neg n h1 h0, e, Int.tmod_eq_emod_of_nonneg h1', Int.emod_emod]
  · rw [tmod_pos n h1 h0, e, Int.tmod_eq_emod_of_nonneg (by omega), Int.add_emod_right, Int.emod_emod]
theorem rem_facts (n : Int) (s : Nat) (h1 : 1 ≤ s) (h2 : s ≤ 1000) : IntKind.i64.wrap (n.tmod s) = n.tmod s ∧ IntKind.i64.wrap (n.tmod s + s) = n.tmod s + s ∧ IntKind.i64.wrap ((n.tmod s + s).tmod s) = (rst n s : Int) := by
  have hb := tmod_bd n h1 h2
  have hl := rst_lt n h1
  rw [twice_rem n s h1]
  refine ⟨?_, ?_, ?_⟩ <;> rw [IntKind.wrap_i64] <;> omega
end Go.Proofs.Ythfdoliojbhcjaa
