/- A world for a witness: the table (block 0) holding what its initialiser lays. -/
import Derived.Test.YtliefofdlpljaaaDoorOpenM
namespace Go.Proofs.YtliefofdlpljaaaDoor
open Go.ChangeShapes Go.WideShapes Go.ChangeAt Go.RowKit
set_option linter.unusedVariables false
set_option linter.unusedSimpArgs false

noncomputable def laidWorld (os : Os) : World :=
  { World.holding Tryd.prog os ⟨#[], #[], []⟩ with heap := (World.holding Tryd.prog os ⟨#[], #[], []⟩).heap.modify 0 fun
      | .cells _ t frozen => .cells #[.int .i64 1, .int .i64 6, .int .i64 0, .int .i64 15, .int .i64 0, .int .i64 15, .int .i64 1, .int .i64 1099511627775, .int .i64 0, .int .i64 1099511627776, .int .i64 0, .int .i64 1099511627776, .int .i64 0, .int .i64 1099511627776, .int .i64 0, .int .i64 1099511627776] t frozen
      | o => o }
def zeroV : Value := .agg #[.int .i64 0, .int .i64 0, .int .i64 0, .int .i64 0, .int .i64 0, .int .i64 0, .int .i64 0, .int .i64 0, .bool false, .slice none 0 0, .slice none 0 0, .slice none 0 0]
def zeroD {H : Type} : DataW H := .agg [.lit (.int .i64 0), .lit (.int .i64 0), .lit (.int .i64 0), .lit (.int .i64 0), .lit (.int .i64 0), .lit (.int .i64 0), .lit (.int .i64 0), .lit (.int .i64 0), .lit (.bool false), .nil, .nil, .nil]

end Go.Proofs.YtliefofdlpljaaaDoor
