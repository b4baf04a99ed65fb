/- The draw of DeskOk. -/
import Derived.Test.YtlmaeadbomnhlaaGreatRF
namespace Go.Proofs.YtlmaeadbomnhlaaGreat
set_option linter.unusedSimpArgs false
set_option linter.unusedVariables false
open Go.RowKit



end Go.Proofs.YtlmaeadbomnhlaaGreat
