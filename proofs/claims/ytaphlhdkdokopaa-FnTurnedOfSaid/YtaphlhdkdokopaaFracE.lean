/- The walks of the functions on fractions, fifth part: the model's sum, order. (Written by wip/gen/fracc.py.) -/
import Derived.Test.YtaphlhdkdokopaaFracD
namespace Go.Proofs.Ytaphlhdkdokopaa
set_option linter.unusedSimpArgs false
set_option linter.unusedVariables false
open Go.RowKit

theorem fracOk_impl_v (u d : Int) (b : Bool) (h : okB u d = b) (w : World) :
    Calls Try.prog 45 #[.agg #[.int .i64 u, .int .i64 d]] w fun e w' => e = .returned (.bool b) ∧ Below w.heap.size w w' := by
  subst h; exact fracOk_impl u d w

/-- is it less? -/
def lessB (fu fd gu gd : Int) : Bool := okB fu fd && okB gu gd && decide (fu * gd < gu * fd)

theorem lessB_ok {fu fd gu gd : Int} (hf : okB fu fd = true) (hg : okB gu gd = true) : lessB fu fd gu gd = decide (fu * gd < gu * fd) := by simp [lessB, hf, hg]

end Go.Proofs.Ytaphlhdkdokopaa
