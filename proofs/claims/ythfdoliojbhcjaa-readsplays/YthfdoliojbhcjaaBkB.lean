/- reads: the last round that is won. -/
import Derived.Test.YthfdoliojbhcjaaBkA
namespace Go.Proofs.Ythfdoliojbhcjaa
open Go.RowKit Go.Maps
set_option linter.unusedVariables false
set_option linter.unusedSimpArgs false
set_option maxRecDepth 100000

/-! ### The pure side -/
theorem cnt_sub {S y z : List Int} (h : ∀ x, x ∈ y → x ∈ z) : cnt S y ≤ cnt S z := by
  unfold cnt
  refine List.Sublist.length_le ?_
  generalize dd S = l
  induction l with
  | nil => exact List.Sublist.slnil
  | cons a l ih =>
    rw [List.filter_cons, List.filter_cons]
    by_cases hy : a ∈ y
    · rw [if_pos (decide_eq_true hy), if_pos (decide_eq_true (h a hy))]
      exact ih.cons_cons a
    · rw [if_neg (by simpa using hy)]
      split
      · exact ih.cons a
      · exact ih
theorem won_sub {S y z : List Int} (h : ∀ x, x ∈ y → x ∈ z) (hy : wonB S y = true) : wonB S z = true := by
  unfold wonB at *
  have := cnt_sub (S := S) h
  simp at *
  omega
theorem won_same {S y z : List Int} (h : ∀ x, x ∈ y ↔ x ∈ z) : wonB S y = wonB S z := by
  rw [Bool.eq_iff_iff]
  exact ⟨won_sub fun x => (h x).1, won_sub fun x => (h x).2⟩
theorem thL_sub {H : List Int} {R Q : Int} (h : R ≤ Q) : ∀ x, x ∈ thL H Q → x ∈ thL H R := fun x hx => by
  obtain ⟨i, h1, h2, h3⟩ := mem_thL.1 hx
  exact mem_thL.2 ⟨i, h1, h2, by omega⟩
/-- The last round that is won. -/
structure Last (S H : List Int) (z : Int) : Prop where
  is : ∀ R, 0 ≤ R → R ≤ 9223372036854775807 → (R ≤ z ↔ wonB S (thL H R) = true)
def wB (S H : List Int) (i : Nat) : Bool := wonB S (thL H ((srt H).getD i 0))
theorem wB_mono {S H : List Int} (hl : H.length = 16) (a b : Nat) (hab : a ≤ b) (hb : b < 16) (h : (!wB S H a) = true) : (!wB S H b) = true := by
  have hT : (srt H).length = 16 := by rw [srt_len, hl]
  have hle : (srt H).getD a 0 ≤ (srt H).getD b 0 := by
    rw [List.getD_eq_getElem?_getD, List.getD_eq_getElem?_getD, List.getElem?_eq_getElem (by omega), List.getElem?_eq_getElem (by omega)]
    exact le_at (srt_le H) hab (by omega)
  cases hw : wB S H b with
  | false => rfl
  | true =>
    have := won_sub (thL_sub (H := H) hle) hw
    unfold wB at h
    rw [this] at h
    cases h
theorem first_ge (p : Nat → Prop) [DecidablePred p] : ∀ n, (∃ j, j < n ∧ p j) → ∃ j, j < n ∧ p j ∧ ∀ i, i < j → ¬ p i
  | 0, h => by obtain ⟨j, hj, _⟩ := h; omega
  | n + 1, h => by
    by_cases hn : ∃ j, j < n ∧ p j
    · obtain ⟨j, h1, h2, h3⟩ := first_ge p n hn
      exact ⟨j, by omega, h2, h3⟩
    · obtain ⟨j, h1, h2⟩ := h
      have e : j = n := by
        rcases Nat.lt_or_eq_of_le (Nat.lt_succ_iff.1 h1) with h | h
        · exact absurd ⟨j, h, h2⟩ hn
        · exact h
      subst e
      exact ⟨j, h1, h2, fun i hi hp => hn ⟨i, hi, hp⟩⟩
theorem last_none {S H : List Int} (hl : H.length = 16) (hA : (9223372036854775807 : Int) ∈ H) (h : ∀ t, 0 ≤ t → t < 16 → (!wB S H t) = true) : Last S H (-1) := by
  refine ⟨fun R h0 hR => ⟨fun h => by omega, fun hw => ?_⟩⟩
  exfalso
  have hT : (srt H).length = 16 := by rw [srt_len, hl]
  obtain ⟨m, hm, hme⟩ := List.getElem_of_mem ((srt_perm H).mem_iff.2 hA)
  obtain ⟨j, hj, hjR, hmin⟩ := first_ge (fun j => R ≤ (srt H).getD j 0) 16 ⟨m, by omega, by rw [List.getD_eq_getElem?_getD, List.getElem?_eq_getElem hm, hme]; simpa using hR⟩
  have h2 := h j (Nat.zero_le _) hj
  have h3 : wB S H j = true := by
    refine won_sub (fun x hx => ?_) hw
    obtain ⟨i, h1, rfl, h4⟩ := mem_thL.1 hx
    refine mem_thL.2 ⟨i, h1, rfl, ?_⟩
    have hiH : i < H.length := by omega
    rw [List.getD_eq_getElem?_getD, List.getElem?_eq_getElem hiH] at h4
    obtain ⟨n, hn, hne⟩ := List.getElem_of_mem ((srt_perm H).mem_iff.2 (List.getElem_mem hiH))
    have hjn : j ≤ n := by
      rcases Nat.lt_or_ge n j with hlt | hge
      · exfalso
        refine hmin n hlt ?_
        rw [List.getD_eq_getElem?_getD, List.getElem?_eq_getElem hn, hne]
        exact h4
      · exact hge
    have := le_at (srt_le H) hjn hn
    rw [List.getD_eq_getElem?_getD, List.getElem?_eq_getElem (by omega), List.getD_eq_getElem?_getD, List.getElem?_eq_getElem hiH]
    show _ ≤ H[i]
    rw [← hne]
    exact this
  rw [h3] at h2
  cases h2
theorem last_some {S H : List Int} {k : Nat} (hl : H.length = 16) (hk : k < 16) (hA : (9223372036854775807 : Int) ∈ H) (h1 : ∀ t, t < k + 1 → (!wB S H t) = false) (h2 : ∀ t, k + 1 ≤ t → t < 16 → (!wB S H t) = true) : Last S H ((srt H).getD k 0) := by
  have hT : (srt H).length = 16 := by rw [srt_len, hl]
  refine ⟨fun R h0 hR => ⟨fun h => ?_, fun hw => ?_⟩⟩
  · have hk1 : wB S H k = true := by have := h1 k (by omega); simpa using this
    exact won_sub (thL_sub h) hk1
  · obtain ⟨m, hm, hme⟩ := List.getElem_of_mem ((srt_perm H).mem_iff.2 hA)
    obtain ⟨j, hj, hjR, hmin⟩ := first_ge (fun j => R ≤ (srt H).getD j 0) 16 ⟨m, by omega, by rw [List.getD_eq_getElem?_getD, List.getElem?_eq_getElem hm, hme]; simpa using hR⟩
    have h3 : wB S H j = true := by
      refine won_sub (fun x hx => ?_) hw
      obtain ⟨i, h1, rfl, h4⟩ := mem_thL.1 hx
      refine mem_thL.2 ⟨i, h1, rfl, ?_⟩
      have hiH : i < H.length := by omega
      rw [List.getD_eq_getElem?_getD, List.getElem?_eq_getElem hiH] at h4
      obtain ⟨n, hn, hne⟩ := List.getElem_of_mem ((srt_perm H).mem_iff.2 (List.getElem_mem hiH))
      have hjn : j ≤ n := by
        rcases Nat.lt_or_ge n j with hlt | hge
        · exfalso
          refine hmin n hlt ?_
          rw [List.getD_eq_getElem?_getD, List.getElem?_eq_getElem hn, hne]
          exact h4
        · exact hge
      have := le_at (srt_le H) hjn hn
      rw [List.getD_eq_getElem?_getD, List.getElem?_eq_getElem (by omega), List.getD_eq_getElem?_getD, List.getElem?_eq_getElem hiH]
      show _ ≤ H[i]
      rw [← hne]
      exact this
    have hjk : j ≤ k := by
      rcases Nat.lt_or_ge k j with hlt | hge
      · have := h2 j hlt hj
        rw [h3] at this
        cases this
      · exact hge
    have hle : (srt H).getD j 0 ≤ (srt H).getD k 0 := by
      rw [List.getD_eq_getElem?_getD, List.getD_eq_getElem?_getD, List.getElem?_eq_getElem (by omega), List.getElem?_eq_getElem (by omega)]
      exact le_at (srt_le H) hjk (by omega)
    omega
end Go.Proofs.Ythfdoliojbhcjaa
