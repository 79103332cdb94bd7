/- A view's end; whether its entries go on. -/
import Derived.Test.YtcijjepleedecaaEnD
import Derived.BigQuiet
namespace Go.Proofs.Ytcijjepleedecaa.W
open Go.RowKit Go.Maps
set_option linter.unusedVariables false
set_option linter.unusedSimpArgs false
set_option maxRecDepth 100000
attribute [local go_sem] Oper.semAt_some

theorem endI_none {b : Int} {es : List Ent} (h : es.getLast? = none) : endI b es = b := by unfold endI; rw [h]
theorem endT_none {t : Int} {es : List Ent} (h : es.getLast? = none) : endT t es = t := by unfold endT; rw [h]
theorem endI_some {b : Int} {es : List Ent} {x : Ent} (h : es.getLast? = some x) : endI b es = x.index := by unfold endI; rw [h]
theorem endT_some {t : Int} {es : List Ent} {x : Ent} (h : es.getLast? = some x) : endT t es = x.term := by unfold endT; rw [h]
end Go.Proofs.Ytcijjepleedecaa.W
