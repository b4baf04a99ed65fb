/- append of a list to a list of the call's own. -/
import Derived.Lib.AppendZeros
import Derived.Test.YtlmaeadbomnhlaaGreatMC
import Derived.Test.YtlmaeadbomnhlaaGreatMQ
namespace Go.Proofs.YtlmaeadbomnhlaaGreat
set_option linter.unusedSimpArgs false
set_option linter.unusedVariables false
open Go.RowKit



end Go.Proofs.YtlmaeadbomnhlaaGreat
