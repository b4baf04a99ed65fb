/- append of a list to a list of the call's own. -/
import Derived.Lib.AppendZeros
import Derived.Test.YtlmaeadbomnhlaaMC
import Derived.Test.YtlmaeadbomnhlaaMQ
namespace Go.Proofs.Ytlmaeadbomnhlaa
set_option linter.unusedSimpArgs false
set_option linter.unusedVariables false
open Go.RowKit



end Go.Proofs.Ytlmaeadbomnhlaa
