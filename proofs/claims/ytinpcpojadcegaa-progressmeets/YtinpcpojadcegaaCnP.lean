/- What a quorum of numbers reach: the pure side. -/
import Derived.WalkKit
namespace Go.Proofs.Ytinpcpojadcegaa.C
set_option linter.unusedVariables false
set_option linter.unusedSimpArgs false

def srt (l : List Int) : List Int := l.mergeSort fun x y => decide (x ≤ y)
theorem srt_perm (l : List Int) : (srt l).Perm l := List.mergeSort_perm _ _
theorem srt_len (l : List Int) : (srt l).length = l.length := (srt_perm l).length_eq
theorem srt_le (l : List Int) : (srt l).Pairwise (· ≤ ·) := by
  have := List.pairwise_mergeSort (le := fun x y : Int => decide (x ≤ y)) (fun a b c h1 h2 => by simp at *; omega) (fun a b => by simp; omega) l
  exact this.imp (fun h => by simpa using h)
theorem le_at {s : List Int} (h : s.Pairwise (· ≤ ·)) {i j : Nat} (hij : i ≤ j) (hj : j < s.length) : s[i]'(by omega) ≤ s[j] := by
  rcases Nat.lt_or_eq_of_le hij with h1 | rfl
  · exact (List.pairwise_iff_getElem.1 h) i j (by omega) hj h1
  · exact Int.le_refl _
def many (l : List Int) (v : Int) : Nat := (l.filter fun x => decide (v ≤ x)).length
theorem many_perm {a b : List Int} (h : a.Perm b) (v : Int) : many a v = many b v := (h.filter _).length_eq
/-- What a quorum of the numbers reach. -/
def nth (l : List Int) : Int := (srt l).getD (l.length - (l.length / 2 + 1)) 0
theorem many_good (l : List Int) (h : 0 < l.length) : l.length / 2 + 1 ≤ many l (nth l) ∧ nth l ∈ l := by
  have hl := srt_len l
  have hk : l.length - (l.length / 2 + 1) < (srt l).length := by omega
  have e : nth l = (srt l)[l.length - (l.length / 2 + 1)] := by unfold nth; simp [hk]
  refine ⟨?_, ?_⟩
  · rw [← many_perm (srt_perm l), e]
    generalize hkk : l.length - (l.length / 2 + 1) = k at *
    have hsub : (srt l).drop k = ((srt l).drop k).filter fun x => decide ((srt l)[k] ≤ x) := by
      refine (List.filter_eq_self.2 fun x hx => ?_).symm
      obtain ⟨j, hj, rfl⟩ := List.getElem_of_mem hx
      have hj' : k + j < (srt l).length := by simp at hj; omega
      rw [List.getElem_drop]
      simpa using le_at (srt_le l) (show k ≤ k + j by omega) hj'
    have h1 : ((srt l).drop k).length ≤ many (srt l) (srt l)[k] := by
      rw [hsub]
      exact (List.Sublist.filter _ (List.drop_sublist _ _)).length_le
    simp at h1
    omega
  · rw [e]
    exact (srt_perm l).mem_iff.1 (List.getElem_mem hk)
theorem many_top (l : List Int) (h : 0 < l.length) {u : Int} (hu : nth l < u) : many l u < l.length / 2 + 1 := by
  have hl := srt_len l
  have hk : l.length - (l.length / 2 + 1) < (srt l).length := by omega
  have e : nth l = (srt l)[l.length - (l.length / 2 + 1)] := by unfold nth; simp [hk]
  rw [← many_perm (srt_perm l)]
  rw [e] at hu
  generalize hkk : l.length - (l.length / 2 + 1) = k at *
  have h0 : ((srt l).take (k + 1)).filter (fun x => decide (u ≤ x)) = [] := List.filter_eq_nil_iff.2 fun x hx => by
    obtain ⟨j, hj, rfl⟩ := List.getElem_of_mem hx
    have hj' : j < k + 1 := by simp at hj; omega
    rw [List.getElem_take]
    have := le_at (srt_le l) (show j ≤ k by omega) hk
    simp
    omega
  unfold many
  rw [← List.take_append_drop (k + 1) (srt l), List.filter_append, h0, List.nil_append]
  have h1 := List.length_filter_le (fun x => decide (u ≤ x)) ((srt l).drop (k + 1))
  simp at h1 ⊢
  omega
/-- The document's: the greatest number that a quorum reach. -/
theorem nth_is (l : List Int) (h : 0 < l.length) {b : Int} (hb : l.length / 2 + 1 ≤ many l b) (hm : ∀ u ∈ l, l.length / 2 + 1 ≤ many l u → u ≤ b) : nth l = b := by
  obtain ⟨h1, h2⟩ := many_good l h
  have h3 := hm _ h2 h1
  rcases Int.lt_or_eq_of_le h3 with h4 | h4
  · have := many_top l h h4
    omega
  · exact h4
theorem nth_perm {a b : List Int} (h : a.Perm b) : nth a = nth b := by
  have hl := h.length_eq
  rcases Nat.eq_zero_or_pos a.length with h0 | h0
  · rw [List.length_eq_zero_iff.1 h0, List.length_eq_zero_iff.1 (hl ▸ h0 : b.length = 0)]
  · obtain ⟨h1, h2⟩ := many_good b (by omega)
    refine nth_is a h0 (by rw [many_perm h, hl]; exact h1) fun u hu hg => ?_
    rw [many_perm h, hl] at hg
    rcases (show nth b < u ∨ u ≤ nth b by omega) with h3 | h3
    · have := many_top b (by omega) h3; omega
    · exact h3
end Go.Proofs.Ytinpcpojadcegaa.C
