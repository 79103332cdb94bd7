/- Calls of a client that came in. -/
import Derived.Test.YtgebhomiehadmaaCcU
namespace Go.Proofs.Ytgebhomiehadmaa
open Go.RowKit Go.Maps
set_option linter.unusedVariables false
set_option linter.unusedSimpArgs false
set_option maxRecDepth 100000

/-- Calls that came in. -/
def OpsR (w : World) (v : Value) (O : List OpG) : Prop :=
  (∃ a c, v = .slice a O.length c) ∧ (∀ o ∈ O, OpOk w o) ∧ ∀ (k : Nat) (hk : k < O.length), ∃ b off cap, v = .slice (some ⟨b, off, none⟩) O.length cap ∧ ∀ (j : Nat) u, (opL O[k])[j]? = some u → w.cell? ⟨b, off + k * 11 + j, none⟩ = some u
theorem OpsR.kept {w w' : World} {v : Value} {O : List OpG} (h : OpsR w v O) (hg : w.grownBy w' none) : OpsR w' v O := by
  refine ⟨h.1, fun o ho => (h.2.1 o ho).kept hg, fun k hk => ?_⟩
  obtain ⟨b, off, cap, e, hc⟩ := h.2.2 k hk
  exact ⟨b, off, cap, e, fun j u hj => hg.cell (hc j u hj) (by simp)⟩
end Go.Proofs.Ytgebhomiehadmaa
