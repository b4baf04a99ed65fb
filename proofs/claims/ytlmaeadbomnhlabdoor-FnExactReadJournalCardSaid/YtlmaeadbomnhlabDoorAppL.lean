/- append of a list to a list of the call's own. -/
import Derived.Lib.AppendZeros
import Derived.Test.YtlmaeadbomnhlabDoorMC
import Derived.Test.YtlmaeadbomnhlabDoorMQ
namespace Go.Proofs.YtlmaeadbomnhlabDoor
set_option linter.unusedSimpArgs false
set_option linter.unusedVariables false
open Go.RowKit



end Go.Proofs.YtlmaeadbomnhlabDoor
