/- The walk of the law of DeskOk, over the contract of the program's DeskOk. -/
import Derived.Test.YtlmaeadbomnhlaaGreatDrawDd
import Derived.Test.YtlmaeadbomnhlaaGreatQE
import Derived.Test.YtlmaeadbomnhlaaGreatQF
namespace Go.Proofs.YtlmaeadbomnhlaaGreat
set_option linter.unusedSimpArgs false
set_option linter.unusedVariables false
open Go.RowKit

/-- what the law of DeskOk asks of the program's DeskOk -/
structure Impl12O : Prop where
  ok : ∀ (A B : Option Addr) (c k : Nat) (d : Dk) (_ : d.now.length ≤ maxLen) (_ : d.past.length ≤ maxLen) (w : World) (_ : Rows2 w (fun b => b < w.heap.size) A d.now) (_ : Rows3 w (fun b => b < w.heap.size) B d.past), Calls Tryz.prog 8 #[dskV A d.now.length c B d.past.length k] w (Adds (.bool (dkB d)) w)

end Go.Proofs.YtlmaeadbomnhlaaGreat
