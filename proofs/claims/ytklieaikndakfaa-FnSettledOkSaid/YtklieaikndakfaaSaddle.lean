/- The walk of the program's saddles. -/
import Derived.Test.YtklieaikndakfaaOwn
namespace Go.Proofs.Ytklieaikndakfaa
set_option linter.unusedSimpArgs false
set_option linter.unusedVariables false
open Go.RowKit



end Go.Proofs.Ytklieaikndakfaa
