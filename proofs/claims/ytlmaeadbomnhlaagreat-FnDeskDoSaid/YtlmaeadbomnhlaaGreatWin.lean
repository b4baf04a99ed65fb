/- Plain mathematics: windows. It imports nothing of the program but names. -/
import Derived.Test.YtlmaeadbomnhlaaGreatMF
namespace Go.Proofs.YtlmaeadbomnhlaaGreat
set_option linter.unusedSimpArgs false
set_option linter.unusedVariables false
open Go.RowKit



end Go.Proofs.YtlmaeadbomnhlaaGreat
