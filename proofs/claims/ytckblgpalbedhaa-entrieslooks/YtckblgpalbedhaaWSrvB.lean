/- Lists of servers, put and got: the program's and the document's; Ints. -/
import Derived.Test.YtckblgpalbedhaaWSrv
namespace Go.Proofs.Ytckblgpalbedhaa.W
open Go.RowKit Go.Maps
set_option linter.unusedVariables false
set_option linter.unusedSimpArgs false

end Go.Proofs.Ytckblgpalbedhaa.W
