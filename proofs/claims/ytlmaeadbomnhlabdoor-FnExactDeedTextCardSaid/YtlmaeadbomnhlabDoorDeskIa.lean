/- The program's desks: LaidOk, DeskOk. -/
import Derived.Test.YtlmaeadbomnhlabDoorQB
import Derived.Test.YtlmaeadbomnhlabDoorMK
namespace Go.Proofs.YtlmaeadbomnhlabDoor
set_option linter.unusedSimpArgs false
set_option linter.unusedVariables false
open Go.RowKit



end Go.Proofs.YtlmaeadbomnhlabDoor
