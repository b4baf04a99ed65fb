/- The draw of DeskOk. -/
import Derived.Test.YtlmaeadbomnhlaaRF
namespace Go.Proofs.Ytlmaeadbomnhlaa
set_option linter.unusedSimpArgs false
set_option linter.unusedVariables false
open Go.RowKit



end Go.Proofs.Ytlmaeadbomnhlaa
