/- knows. -/
import Derived.Test.YtcijjepleedecaaEnO
namespace Go.Proofs.Ytcijjepleedecaa.W
open Go.RowKit Go.Maps
set_option linter.unusedVariables false
set_option linter.unusedSimpArgs false
set_option maxRecDepth 100000
attribute [local go_sem] Oper.semAt_some


theorem field_view (b t : Int) (lv : Value) (w : World) : (Instr.field 26 (.agg #[.int .i64 b, .int .i64 t, lv]) 2).run Try.prog w = .ok lv w := by
  simp [Instr.field, go_sem, asAgg, Result.andThen]
theorem ent_vals (t i : Nat) (dv : Value) : entV (eN t i) dv = .agg #[.int .i64 (t : Nat), .int .i64 (i : Nat), .int .i64 2, dv] := rfl
end Go.Proofs.Ytcijjepleedecaa.W
