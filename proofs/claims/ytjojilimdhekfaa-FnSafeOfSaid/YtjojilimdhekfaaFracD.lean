/- The walks of the functions on fractions, fourth part: PlusOf, LessOk. (Written by wip/gen/fracc.py.) -/
import Derived.Test.YtjojilimdhekfaaFracC
namespace Go.Proofs.Ytjojilimdhekfaa
set_option linter.unusedSimpArgs false
set_option linter.unusedVariables false
open Go.RowKit



end Go.Proofs.Ytjojilimdhekfaa
