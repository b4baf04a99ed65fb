/- Texts in one: MixS, MixT, MixU, Mone, Mind. -/
import Derived.Test.YtlmaeadbomnhlabDoorMB
import Derived.Test.YtlmaeadbomnhlabDoorMA
import Derived.Test.YtlmaeadbomnhlabDoorMC
import Derived.Deep.RegionHeld3
import Derived.Test.YtlmaeadbomnhlabDoorMH
namespace Go.Proofs.YtlmaeadbomnhlabDoor
set_option linter.unusedSimpArgs false
set_option linter.unusedVariables false
open Go.RowKit



end Go.Proofs.YtlmaeadbomnhlabDoor

namespace Go.Proofs.YtlmaeadbomnhlabDoor
set_option linter.unusedSimpArgs false
set_option linter.unusedVariables false
open Go.RowKit



end Go.Proofs.YtlmaeadbomnhlabDoor

namespace Go.Proofs.YtlmaeadbomnhlabDoor
set_option linter.unusedSimpArgs false
set_option linter.unusedVariables false
open Go.RowKit



end Go.Proofs.YtlmaeadbomnhlabDoor

namespace Go.Proofs.YtlmaeadbomnhlabDoor
set_option linter.unusedSimpArgs false
set_option linter.unusedVariables false



end Go.Proofs.YtlmaeadbomnhlabDoor

namespace Go.Proofs.YtlmaeadbomnhlabDoor
set_option linter.unusedSimpArgs false
set_option linter.unusedVariables false



end Go.Proofs.YtlmaeadbomnhlabDoor
