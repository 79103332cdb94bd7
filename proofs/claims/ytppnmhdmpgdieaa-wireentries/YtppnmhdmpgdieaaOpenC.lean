/- How bools read; how long a slice is, by the form's own reach. -/
import Derived.Test.YtppnmhdmpgdieaaOpen
import Derived.Test.YtppnmhdmpgdieaaReadsA
import Derived.Deep.Grids
namespace Go.Proofs.Ytppnmhdmpgdieaa
open Go.ChangeShapes Go.WideShapes Go.ChangeAt Go.RowKit
set_option linter.unusedVariables false
set_option linter.unusedSimpArgs false

theorem cells4 : Try.prog.cellsOf 4 = 1 := by kernel_rfl
theorem bytes4 : Try.prog.bytesOf 4 = 1 := by kernel_rfl
theorem bools_in {H : Type} {enc : TypeId × Value → H} {W : World} {base : Nat} {held : Bool} {fuel : Nat} {v : Value} {x : DataW H × List MemPlace} (h : DataW.trod enc Try.prog W base (fun _ => true) held fuel 57 [v] = some x) :
    ∃ (l : List Bool), BoolsR W v l := by
  rcases Go.Deep.open_bools Try.underlying57 Try.underlying4 cells4 h with ⟨hcs, _⟩ | ⟨a, len, cap, B, hcs, _, hl, hm, _, hcell⟩
  · have hv : v = .slice none 0 0 := by simpa using hcs
    rw [hv]
    exact ⟨[], .inl ⟨rfl, none, 0, rfl, fun _ => rfl⟩⟩
  · have hv : v = .slice (some a) len cap := by simpa using hcs
    by_cases h0 : len = 0
    · subst h0
      exact ⟨[], .inl ⟨rfl, some a, cap, hv, by simp⟩⟩
    · obtain ⟨b, off, spot⟩ := a
      have hc0 := hcell 0 (by omega)
      have hspot : spot = none := by simpa [Addr.add] using World.cell?_spot hc0
      subst hspot
      have hadd : ∀ j, ((⟨b, off, none⟩ : Addr).add j) = ⟨b, off + j, none⟩ := fun j => by unfold Addr.add; split <;> simp_all
      refine ⟨(List.range len).map B, .inr ⟨b, off, cap, by simpa using hv, by simpa using hl, fun j u hj => ?_⟩⟩
      simp only [List.getElem?_map, Option.map_eq_some_iff] at hj
      obtain ⟨k, hk, rfl⟩ := hj
      have hjl : j < len := by have := (List.getElem?_eq_some_iff.1 hk).1; simpa using this
      have : k = j := by rw [List.getElem?_range hjl] at hk; injection hk with hk; exact hk.symm
      subst this
      have hcj := hcell k (by omega)
      rw [hadd] at hcj
      exact hcj
/-- How long a slice is. -/
theorem slice_reach {H : Type} {enc : TypeId × Value → H} {W : World} {base : Nat} {held : Bool} {fuel t e : Nat} {a : Option Addr} {n cap : Nat} {x : DataW H × List MemPlace} (hu : Try.prog.underlying t = some (.slice e)) (h : DataW.trod enc Try.prog W base (fun _ => true) held fuel t [.slice a n cap] = some x)
    (hw : ∀ k ∈ x.1.weights Try.prog t, k ≤ reachBytes) : n * Try.prog.bytesOf e ≤ reachBytes := by
  rcases DataW.trod_slice hu h with ⟨hcs, _⟩ | ⟨a', len, cap', elems, rest, m, _, hcs, hy, _, _, _, hel, _⟩
  · simp at hcs; simp [hcs.2.1]
  · simp at hcs
    obtain ⟨_, hln, _⟩ := hcs
    have hmem : (elems.length + rest.length) * Try.prog.bytesOf e ∈ x.1.weights Try.prog t := by
      rw [hy]
      simp [DataW.weights, hu]
    have := hw _ hmem
    refine Nat.le_trans (Nat.mul_le_mul_right _ ?_) this
    omega

end Go.Proofs.Ytppnmhdmpgdieaa
