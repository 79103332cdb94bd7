import Derived.Test.YtlpkphdgadgmiaaGreatDoorKd
import Derived.Test.YtlpkphdgadgmiaaGreatDoorVAnyB
namespace Go.Proofs.YtlpkphdgadgmiaaGreatDoor.W
open Go.RowKit Go.Maps
set_option linter.unusedVariables false
set_option linter.unusedSimpArgs false
set_option maxRecDepth 100000

def NoDisk (w : World) (p : Value) : Prop := p = .pointer none ∨ ∃ b, p = .pointer (some ⟨b, 0, none⟩) ∧ w.cell? ⟨b, 3, none⟩ = some (.map none)
theorem NoDisk.kept {w w' : World} {p : Value} (h : NoDisk w p) (hg : w.grownBy w' none) : NoDisk w' p := by
 rcases h with h | ⟨b, hb, hc⟩
 ·exact .inl h
 ·exact .inr ⟨b, hb, hg.cell hc (by simp)⟩
end Go.Proofs.YtlpkphdgadgmiaaGreatDoor.W
