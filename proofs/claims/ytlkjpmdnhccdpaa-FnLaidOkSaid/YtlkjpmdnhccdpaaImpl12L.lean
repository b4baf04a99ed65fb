/- What the law of LaidOk asks of the program, kept. -/
import Derived.Test.YtlkjpmdnhccdpaaQF
import Derived.Test.YtlkjpmdnhccdpaaMK
namespace Go.Proofs.Ytlkjpmdnhccdpaa
set_option linter.unusedSimpArgs false
set_option linter.unusedVariables false
open Go.RowKit

theorem laid_solL (g : List (List Int)) : laidB g = solB' g := by unfold laidB solB'; rw [Bool.and_assoc]

set_option maxHeartbeats 1000000 in
theorem impl12L : Impl12L where
  laid := fun A c g hl w h => by
    have HS := Lib.hid (solvedOkI A c g _ hl w h)
    rw [laid_solL]
    clear h
    go_enter Try.func17, Try.ntmps17
    go_wp2_with (go_at_call 42; refine HS.out.mono ?_; rintro e w1 ⟨rfl, rfl⟩)
    go_ret
    exact Adds.of rfl (Below.refl _ _)

end Go.Proofs.Ytlkjpmdnhccdpaa
