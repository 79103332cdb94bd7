/- entry; knows. -/
import Derived.Test.YtcijjepleedecaaEnN
import Derived.Deep.DeepCutAuto
namespace Go.Proofs.Ytcijjepleedecaa.W
open Go.RowKit Go.Maps
set_option linter.unusedVariables false
set_option linter.unusedSimpArgs false
set_option maxRecDepth 100000
attribute [local go_sem] Oper.semAt_some

/-- A command, as the law makes it. -/
def eN (t i : Nat) : Ent := ⟨t, i, 2, [UInt8.ofNat t]⟩
/-- Entries in a block of their own. -/
theorem ents_blk {W : World} {g : Nat} {ps : List (Ent × Value)} (hb : Blk W g (ps.flatMap entCells).toArray 55) (ho : ∀ p ∈ ps, Byt W p.2 p.1.data ∧ p.1.data.length ≤ 140737488355328) : EntsR W (.slice (some ⟨g, 0, none⟩) ps.length ps.length) (ps.map (·.1)) := by
  refine .inr ⟨g, 0, ps.length, by simp, by simp, fun j x hj => ?_⟩
  rw [List.getElem?_map, Option.map_eq_some_iff] at hj
  obtain ⟨p, hp, rfl⟩ := hj
  have key : ∀ i, i < 4 → W.cell? ⟨g, 0 + j * 4 + i, none⟩ = (entCells p)[i]? := fun i hi => by
    rw [← entCells_at ps j i p hp hi, hb.cell, Nat.zero_add]
    simp
  obtain ⟨h1, h2⟩ := ho p (List.mem_of_getElem? hp)
  refine ⟨p.2, ?_, ?_, ?_, ?_, h1, h2⟩
  · have := key 0 (by omega); simpa [entCells] using this
  · have := key 1 (by omega); simpa [entCells] using this
  · have := key 2 (by omega); simpa [entCells] using this
  · have := key 3 (by omega); simpa [entCells] using this
def es3 : List Ent := [eN 1 1, eN 1 2, eN 2 3]
end Go.Proofs.Ytcijjepleedecaa.W
