/- knows. -/
import Derived.Test.YtmlppjmpoanlkaaGreatDoorKc
namespace Go.Proofs.YtmlppjmpoanlkaaGreatDoor.F
open Go.RowKit Go.Maps
set_option maxRecDepth 100000
set_option linter.unusedVariables false
set_option linter.unusedSimpArgs false

theorem cellsOf_get (s : List Fr) : ∀ (i : Nat) (f : Fr), s[i]? = some f → (cellsOf s)[2 * i]? = some (.int .i64 f.k.toNat) ∧ (cellsOf s)[2 * i + 1]? = some f.dv := by
  induction s with
  | nil => intro i f h; simp at h
  | cons g s ih =>
    intro i f h
    match i with
    | 0 => simp at h; subst h; simp [cellsOf]
    | i + 1 =>
      have := ih i f (by simpa using h)
      have e : cellsOf (g :: s) = .int .i64 g.k.toNat :: g.dv :: cellsOf s := by simp [cellsOf]
      rw [e, show 2 * (i + 1) = 2 * i + 1 + 1 by omega]
      simpa using this

theorem Row.at {W : World} {n₀ : Nat} {lv : Value} {s : List Fr} (h : Row W n₀ lv s) (h0 : 0 < s.length) : ∃ gr cap, lv = .slice (some ⟨gr, 0, none⟩) s.length cap ∧ s.length ≤ cap ∧
    ∀ (i : Nat) (f : Fr), s[i]? = some f → W.cell? ⟨gr, 2 * i, none⟩ = some (.int .i64 f.k.toNat) ∧ W.cell? ⟨gr, 2 * i + 1, none⟩ = some f.dv := by
  rcases h.1.2 with ⟨_, h0'⟩ | ⟨g, cap, cur, hv, hb, hg, h1, h2, h3, h4⟩
  · omega
  · refine ⟨g, cap, hv, h1, fun i f hf => ?_⟩
    have hi : i < s.length := (List.getElem?_eq_some_iff.1 hf).1
    obtain ⟨a, b⟩ := cellsOf_get s i f hf
    rw [← h4, List.getElem?_take, if_pos (by omega)] at a b
    rw [cell_of_row _ _ _ _ _ _ hg, cell_of_row _ _ _ _ _ _ hg]
    exact ⟨by simpa using a, by simpa using b⟩

theorem told_row (fs : List (UInt8 × List UInt8)) (hf : ∀ f ∈ fs, f.2.length ≤ 65536) {s : List Fr} (h : Told (rowB fs) s) : s.map Fr.pr = fs ∧ endOf s = (rowB fs).length := by
  unfold Told at h
  rw [scanB_row_all fs hf] at h
  simp only [Prod.mk.injEq] at h
  exact ⟨h.1.symm, h.2.symm⟩
theorem rowB_one (k : UInt8) (d : List UInt8) : rowB [(k, d)] = putB k d := by simp [rowB]

end Go.Proofs.YtmlppjmpoanlkaaGreatDoor.F
