/- The walks of the functions on fractions, fourth part: PlusOf, LessOk. (Written by wip/gen/fracc.py.) -/
import Derived.Test.YtaphlhdkdokopaaFracC
namespace Go.Proofs.Ytaphlhdkdokopaa
set_option linter.unusedSimpArgs false
set_option linter.unusedVariables false
open Go.RowKit



end Go.Proofs.Ytaphlhdkdokopaa
