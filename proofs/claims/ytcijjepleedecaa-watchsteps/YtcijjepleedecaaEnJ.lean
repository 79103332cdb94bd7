/- First, TermOf, hint. -/
import Derived.Test.YtcijjepleedecaaEnI
namespace Go.Proofs.Ytcijjepleedecaa.W
open Go.RowKit Go.Maps
set_option linter.unusedVariables false
set_option linter.unusedSimpArgs false
set_option maxRecDepth 100000
attribute [local go_sem] Oper.semAt_some

/-- What TermOf tells. -/
def termR (b t : Int) (es : List Ent) (i : Int) : Int × Int :=
  if rightV b t es = true then (if i < b then (0, 36) else if b + es.length < i then (0, 3) else (termA b t es i, 0)) else (0, 1)
theorem termR_bad {b t : Int} {es : List Ent} {i : Int} (h : rightV b t es = false) : termR b t es i = (0, 1) := by unfold termR; rw [h]; rfl
theorem termR_low {b t : Int} {es : List Ent} {i : Int} (h : rightV b t es = true) (hi : i < b) : termR b t es i = (0, 36) := by unfold termR; rw [if_pos h, if_pos hi]
theorem termR_high {b t : Int} {es : List Ent} {i : Int} (h : rightV b t es = true) (hi : b + es.length < i) : termR b t es i = (0, 3) := by unfold termR; rw [if_pos h, if_neg (by omega), if_pos hi]
theorem termR_in {b t : Int} {es : List Ent} {i : Int} (h : rightV b t es = true) (h1 : b ≤ i) (h2 : i ≤ b + es.length) : termR b t es i = (termA b t es i, 0) := by unfold termR; rw [if_pos h, if_neg (by omega), if_neg (by omega)]

/-- From where to send; 0: it fits. -/
def hintZ (b t : Int) (es : List Ent) (prev term : Int) : Int :=
  if b + es.length < prev then b + es.length + 1 else if prev < b ∨ termA b t es prev = term then 0 else max (firstI es (termA b t es prev)) (b + 1)
theorem hintZ_high {b t : Int} {es : List Ent} {prev term : Int} (h : b + es.length < prev) : hintZ b t es prev term = b + es.length + 1 := by unfold hintZ; rw [if_pos h]
theorem hintZ_fit {b t : Int} {es : List Ent} {prev term : Int} (h : ¬ b + es.length < prev) (h2 : prev < b ∨ termA b t es prev = term) : hintZ b t es prev term = 0 := by unfold hintZ; rw [if_neg h, if_pos h2]
theorem hintZ_no {b t : Int} {es : List Ent} {prev term : Int} (h : ¬ b + es.length < prev) (h2 : ¬ (prev < b ∨ termA b t es prev = term)) : hintZ b t es prev term = max (firstI es (termA b t es prev)) (b + 1) := by unfold hintZ; rw [if_neg h, if_neg h2]

end Go.Proofs.Ytcijjepleedecaa.W
