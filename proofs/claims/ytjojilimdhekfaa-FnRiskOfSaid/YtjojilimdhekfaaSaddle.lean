/- The walk of the program's saddles. -/
import Derived.Test.YtjojilimdhekfaaOwn
namespace Go.Proofs.Ytjojilimdhekfaa
set_option linter.unusedSimpArgs false
set_option linter.unusedVariables false
open Go.RowKit



end Go.Proofs.Ytjojilimdhekfaa
