/- Plain mathematics: windows. It imports nothing of the program but names. -/
import Derived.Test.YtlmaeadbomnhlabDoorMF
namespace Go.Proofs.YtlmaeadbomnhlabDoor
set_option linter.unusedSimpArgs false
set_option linter.unusedVariables false
open Go.RowKit



end Go.Proofs.YtlmaeadbomnhlabDoor
