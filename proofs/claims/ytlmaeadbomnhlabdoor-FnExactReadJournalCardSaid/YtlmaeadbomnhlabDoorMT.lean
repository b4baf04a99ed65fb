/- Texts in one: WinS, WinT, WinB. -/
import Derived.Test.YtlmaeadbomnhlabDoorWin
import Derived.Test.YtlmaeadbomnhlabDoorMC
namespace Go.Proofs.YtlmaeadbomnhlabDoor
set_option linter.unusedSimpArgs false
set_option linter.unusedVariables false
open Go.RowKit

/-- a row that was made and is written -/
structure RowNow (w wr : World) (l : List Int) : Prop where
  bel : Below w.heap.size w wr
  size : wr.heap.size = w.heap.size + 1
  row : IntRow wr w.heap.size l

theorem RowNow.own {w wr : World} {l : List Int} (h : RowNow w wr l) : OwnI wr w.heap.size wr.heap.size (some ⟨w.heap.size, 0, none⟩) l :=
  fun _ => ⟨w.heap.size, l.length, _, rfl, Nat.le_refl _, by rw [h.size]; omega, h.row, Nat.le_refl _, fun _ _ => rfl⟩

end Go.Proofs.YtlmaeadbomnhlabDoor

namespace Go.Proofs.YtlmaeadbomnhlabDoor
set_option linter.unusedSimpArgs false
set_option linter.unusedVariables false
open Go.RowKit



end Go.Proofs.YtlmaeadbomnhlabDoor

namespace Go.Proofs.YtlmaeadbomnhlabDoor
set_option linter.unusedSimpArgs false
set_option linter.unusedVariables false
open Go.RowKit



end Go.Proofs.YtlmaeadbomnhlabDoor
