/- Texts in one: Learn, Gap, Least, LrnM. -/
import Derived.Test.YtlmaeadbomnhlabDoorMA
import Derived.Test.YtlmaeadbomnhlabDoorMD
import Derived.Test.YtlmaeadbomnhlabDoorOA
import Derived.Test.YtlmaeadbomnhlabDoorMB
import Derived.Test.YtlmaeadbomnhlabDoorMF
namespace Go.Proofs.YtlmaeadbomnhlabDoor
set_option linter.unusedSimpArgs false
set_option linter.unusedVariables false
open Go.RowKit



end Go.Proofs.YtlmaeadbomnhlabDoor

namespace Go.Proofs.YtlmaeadbomnhlabDoor
set_option linter.unusedSimpArgs false
set_option linter.unusedVariables false
open Go.RowKit



end Go.Proofs.YtlmaeadbomnhlabDoor

namespace Go.Proofs.YtlmaeadbomnhlabDoor
set_option linter.unusedSimpArgs false
set_option linter.unusedVariables false
open Go.RowKit



end Go.Proofs.YtlmaeadbomnhlabDoor

namespace Go.Proofs.YtlmaeadbomnhlabDoor
set_option linter.unusedSimpArgs false
set_option linter.unusedVariables false
open Go.RowKit



end Go.Proofs.YtlmaeadbomnhlabDoor
