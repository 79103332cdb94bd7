/- The document's: Last, TermOf, First, From. -/
import Derived.Test.YtcijjepleedecaaErA
namespace Go.Proofs.Ytcijjepleedecaa.W
open Go.RowKit Go.Maps
set_option linter.unusedVariables false
set_option linter.unusedSimpArgs false
set_option maxRecDepth 100000
attribute [local go_sem] Oper.semAt_some

theorem termA_last {b t : Int} {es : List Ent} : termA b t es (b + es.length) = endT t es := by
  unfold termA endT
  cases hl : es.getLast? with
  | none =>
    have h0 : es = [] := List.getLast?_eq_none_iff.1 hl
    subst h0
    simp
  | some x =>
    rw [List.getLast?_eq_getElem?] at hl
    have hlt := (List.getElem?_eq_some_iff.1 hl).1
    rw [if_neg (by omega), show (b + (es.length : Int) - b - 1).toNat = es.length - 1 by omega, hl]

end Go.Proofs.Ytcijjepleedecaa.W
