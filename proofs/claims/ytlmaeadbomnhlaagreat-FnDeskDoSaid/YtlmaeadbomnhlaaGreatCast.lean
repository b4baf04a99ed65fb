/- Lists of natural numbers as lists of integers. -/
import Derived.Test.YtlmaeadbomnhlaaGreatMA
namespace Go.Proofs.YtlmaeadbomnhlaaGreat
set_option linter.unusedSimpArgs false
set_option linter.unusedVariables false

def castT (l : List Nat) : List Int := l.map fun n : Nat => (n : Int)

theorem castT_length (l : List Nat) : (castT l).length = l.length := by simp [castT]

theorem nth_castT (l : List Nat) (i : Nat) : nth (castT l) i = ((l.getD i 0 : Nat) : Int) := by
  unfold castT nth
  rw [List.getD_eq_getElem?_getD, List.getD_eq_getElem?_getD, List.getElem?_map]
  cases l[i]? <;> rfl

end Go.Proofs.YtlmaeadbomnhlaaGreat
