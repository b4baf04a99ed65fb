/- The walk of the exact law of KernelOf, over contracts of the program's functions. (Written by wip/gen/ex4.py.) -/
import Derived.Test.YtanfefgigepdcaaMG
namespace Go.Proofs.Ytanfefgigepdcaa
set_option linter.unusedSimpArgs false
set_option linter.unusedVariables false
open Go.RowKit



end Go.Proofs.Ytanfefgigepdcaa
