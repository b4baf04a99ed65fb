/- All towns there are, fact A: the kernel looks at each of them. -/
import Derived.Test.YtcminkifdbdaaaaTown
namespace Go.Proofs.Ytcminkifdbdaaaa
set_option linter.unusedSimpArgs false
set_option linter.unusedVariables false
open Go.RowKit

set_option maxRecDepth 100000 in
theorem towns_A : allTs lookA = true := by decide +kernel

end Go.Proofs.Ytcminkifdbdaaaa
