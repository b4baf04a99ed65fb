/- The walk of the law of SafeOf. (Written by wip/gen/law3.py.) -/
import Derived.Test.YtgjbahlebhnoiaaMG
import Derived.Test.YtgjbahlebhnoiaaMD
import Derived.Test.YtgjbahlebhnoiaaMH
import Derived.Test.YtgjbahlebhnoiaaLawT
namespace Go.Proofs.Ytgjbahlebhnoiaa
set_option linter.unusedSimpArgs false
set_option linter.unusedVariables false
open Go.RowKit

theorem unit_set (w : World) (m k : Nat) : (w.alloc (.cells (madeCells #[.int .i64 0] m) 3)).setCell ⟨w.heap.size, k, none⟩ (.int .i64 1) = w.alloc (.cells ((madeCells #[.int .i64 0] m).setIfInBounds k (.int .i64 1)) 3) := by
  simp [go_sem]

theorem unit_new (w : World) (m k : Nat) : Ints (w.alloc (.cells ((madeCells #[.int .i64 0] m).setIfInBounds k (.int .i64 1)) 3)) (· < (w.alloc (.cells ((madeCells #[.int .i64 0] m).setIfInBounds k (.int .i64 1)) 3)).heap.size) (some ⟨w.heap.size, 0, none⟩) (oneAt m k 1) := by
  rw [← unit_set]
  exact (rowIs_ints (oneAt_row (World.rowIs_made _ _ _ _)) (by rw [oneAt_length]; exact Nat.le_refl _)).mono (fun b e => by subst e; simp [World.setCell])

end Go.Proofs.Ytgjbahlebhnoiaa
