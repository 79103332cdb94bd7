/- conf: lists of servers: the pure side. -/
import Derived.WalkKit
namespace Go.Proofs.Ytgebhomiehadmaa
set_option linter.unusedVariables false
set_option linter.unusedSimpArgs false

/-! ### Rising lists -/
def Rise (l : List Int) : Prop := l.Pairwise (· < ·)
theorem rise_ext : ∀ {a b : List Int}, Rise a → Rise b → (∀ x, x ∈ a ↔ x ∈ b) → a = b
  | [], [], _, _, _ => rfl
  | [], y :: b, _, _, h => by have := (h y).2 (by simp); cases this
  | x :: a, [], _, _, h => by have := (h x).1 (by simp); cases this
  | x :: a, y :: b, ha, hb, h => by
    obtain ⟨ha1, ha2⟩ := List.pairwise_cons.1 ha
    obtain ⟨hb1, hb2⟩ := List.pairwise_cons.1 hb
    have hxy : x = y := by
      have h1 := (h x).1 (by simp)
      have h2 := (h y).2 (by simp)
      rcases List.mem_cons.1 h1 with e | h1
      · exact e
      · rcases List.mem_cons.1 h2 with e | h2
        · exact e.symm
        · have := ha1 _ h2
          have := hb1 _ h1
          omega
    subst hxy
    rw [rise_ext ha2 hb2 (fun z => ?_)]
    constructor
    · intro hz
      have := ha1 z hz
      rcases List.mem_cons.1 ((h z).1 (by simp [hz])) with e | k
      · omega
      · exact k
    · intro hz
      have := hb1 z hz
      rcases List.mem_cons.1 ((h z).2 (by simp [hz])) with e | k
      · omega
      · exact k
theorem rise_at {l : List Int} (h : Rise l) {i j : Nat} (hij : i < j) (hj : j < l.length) : l[i]'(by omega) < l[j] := (List.pairwise_iff_getElem.1 h) i j (by omega) hj hij
theorem rise_of {l : List Int} (h : ∀ i (hi : i + 1 < l.length), l[i]'(by omega) < l[i + 1]) : Rise l := by
  refine List.pairwise_iff_getElem.2 fun i j hi hj hij => ?_
  obtain ⟨d, rfl⟩ : ∃ d, j = i + 1 + d := ⟨j - i - 1, by omega⟩
  clear hij
  induction d with
  | zero => exact h i hj
  | succ d ih => exact Int.lt_trans (ih (by omega)) (h (i + 1 + d) hj)

/-! ### A list that may be -/
def inR (x : Int) : Bool := decide (0 ≤ x) && decide (x < 16)
def Rt (l : List Int) : Prop := 1 ≤ l.length ∧ l.length ≤ 7 ∧ (∀ x ∈ l, 0 ≤ x ∧ x < 16) ∧ Rise l
instance (l : List Int) : Decidable (Rt l) := by unfold Rt Rise; infer_instance
def rtB (l : List Int) : Bool := decide (Rt l)
/-- What is asked at one place. -/
def rtAt (l : List Int) (i : Nat) : Bool := inR (l.getD i 0) && (decide (i = 0) || decide (l.getD (i - 1) 0 < l.getD i 0))
theorem rt_all {l : List Int} : (∀ i, i < l.length → rtAt l i = true) ↔ ((∀ x ∈ l, 0 ≤ x ∧ x < 16) ∧ Rise l) := by
  constructor
  · intro h
    refine ⟨fun x hx => ?_, rise_of fun i hi => ?_⟩
    · obtain ⟨i, hi, rfl⟩ := List.getElem_of_mem hx
      have := h i hi
      simp [rtAt, inR, hi] at this
      exact this.1
    · have := h (i + 1) hi
      simp [rtAt, inR, hi, show i < l.length by omega] at this
      exact this.2
  · rintro ⟨h1, h2⟩ i hi
    have := h1 l[i] (List.getElem_mem hi)
    unfold rtAt inR
    rw [List.getD_eq_getElem?_getD, List.getElem?_eq_getElem hi]
    by_cases h0 : i = 0
    · simp [this, h0]; subst h0; exact this
    · have := rise_at h2 (show i - 1 < i by omega) hi
      simp [*, show i - 1 < l.length by omega]
theorem rtB_iff {l : List Int} : rtB l = true ↔ Rt l := by unfold rtB; simp
theorem rtB_len {l : List Int} (h : ¬ (1 ≤ l.length ∧ l.length ≤ 7)) : rtB l = false := by
  rw [← Bool.not_eq_true, rtB_iff]
  exact fun k => h ⟨k.1, k.2.1⟩

end Go.Proofs.Ytgebhomiehadmaa
