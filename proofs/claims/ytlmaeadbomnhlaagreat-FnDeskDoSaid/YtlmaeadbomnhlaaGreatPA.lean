/- Texts in one: Learn, Gap, Least, LrnM. -/
import Derived.Test.YtlmaeadbomnhlaaGreatMA
import Derived.Test.YtlmaeadbomnhlaaGreatMD
import Derived.Test.YtlmaeadbomnhlaaGreatOA
import Derived.Test.YtlmaeadbomnhlaaGreatMB
import Derived.Test.YtlmaeadbomnhlaaGreatMF
namespace Go.Proofs.YtlmaeadbomnhlaaGreat
set_option linter.unusedSimpArgs false
set_option linter.unusedVariables false
open Go.RowKit
end Go.Proofs.YtlmaeadbomnhlaaGreat

namespace Go.Proofs.YtlmaeadbomnhlaaGreat
set_option linter.unusedSimpArgs false
set_option linter.unusedVariables false
open Go.RowKit
end Go.Proofs.YtlmaeadbomnhlaaGreat

namespace Go.Proofs.YtlmaeadbomnhlaaGreat
set_option linter.unusedSimpArgs false
set_option linter.unusedVariables false
open Go.RowKit
end Go.Proofs.YtlmaeadbomnhlaaGreat

namespace Go.Proofs.YtlmaeadbomnhlaaGreat
set_option linter.unusedSimpArgs false
set_option linter.unusedVariables false
open Go.RowKit
end Go.Proofs.YtlmaeadbomnhlaaGreat
