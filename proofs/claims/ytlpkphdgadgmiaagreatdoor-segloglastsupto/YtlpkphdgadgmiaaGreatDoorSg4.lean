import Derived.Test.YtlpkphdgadgmiaaGreatDoorKd
import Derived.Test.YtlpkphdgadgmiaaGreatDoorVAnyB
namespace Go.Proofs.YtlpkphdgadgmiaaGreatDoor.W
open Go.RowKit Go.Maps
set_option linter.unusedVariables false
set_option linter.unusedSimpArgs false
set_option maxRecDepth 100000

end Go.Proofs.YtlpkphdgadgmiaaGreatDoor.W
