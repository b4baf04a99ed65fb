/- What the law of DeskOk asks of the program, kept. -/
import Derived.Test.YtlmaeadbomnhlaaGreatLawJc
import Derived.Test.YtlmaeadbomnhlaaGreatDeskIa
namespace Go.Proofs.YtlmaeadbomnhlaaGreat
set_option linter.unusedSimpArgs false
set_option linter.unusedVariables false
open Go.RowKit

theorem impl12O : Impl12O where
  ok := fun A B c k d hx hy w h h' => deskOk_impl A B c k d hx hy w h h'

end Go.Proofs.YtlmaeadbomnhlaaGreat
