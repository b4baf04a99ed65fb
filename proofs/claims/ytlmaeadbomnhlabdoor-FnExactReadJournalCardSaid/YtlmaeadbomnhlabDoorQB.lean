/- Texts in one: DeskT, DeskU, DeskS, DeskV, DeskW. -/
import Derived.Test.YtlmaeadbomnhlabDoorQA
import Derived.Test.YtlmaeadbomnhlabDoorMC
import Derived.Test.YtlmaeadbomnhlabDoorMQ
import Derived.Test.YtlmaeadbomnhlabDoorNI
namespace Go.Proofs.YtlmaeadbomnhlabDoor
set_option linter.unusedSimpArgs false
set_option linter.unusedVariables false
open Go.RowKit



end Go.Proofs.YtlmaeadbomnhlabDoor

namespace Go.Proofs.YtlmaeadbomnhlabDoor
set_option linter.unusedSimpArgs false
set_option linter.unusedVariables false
open Go.RowKit



end Go.Proofs.YtlmaeadbomnhlabDoor

namespace Go.Proofs.YtlmaeadbomnhlabDoor
set_option linter.unusedSimpArgs false
set_option linter.unusedVariables false
open Go.RowKit

/-- a desk in a block of its own -/
structure BoxD (w : World) (b : Nat) (v0 v1 : Value) : Prop where
  lt : b < w.heap.size
  c0 : w.cell? ⟨b, 0, none⟩ = some v0
  c1 : w.cell? ⟨b, 1, none⟩ = some v1

theorem BoxD.keep {w w' : World} {b : Nat} {v0 v1 : Value} (h : BoxD w b v0 v1) (hs : w.heap.size ≤ w'.heap.size) (hb : w'.heap[b]? = w.heap[b]?) : BoxD w' b v0 v1 :=
  ⟨Nat.lt_of_lt_of_le h.lt hs, (World.cell?_of_block (w := w) hb).trans h.c0, (World.cell?_of_block (w := w) hb).trans h.c1⟩

theorem BoxD.still {w w' : World} {b : Nat} {v0 v1 : Value} (h : BoxD w b v0 v1) (hb : Below w.heap.size w w') : BoxD w' b v0 v1 := h.keep hb.size (hb.block b h.lt)

theorem BoxD.off {w w' : World} {b lo hi : Nat} {v0 v1 : Value} (h : BoxD w b v0 v1) (hf : Off lo hi w w') (ho : ¬ (lo ≤ b ∧ b < hi)) : BoxD w' b v0 v1 := h.keep (Nat.le_of_eq hf.size.symm) (hf.block b ho)

end Go.Proofs.YtlmaeadbomnhlabDoor

namespace Go.Proofs.YtlmaeadbomnhlabDoor
set_option linter.unusedSimpArgs false
set_option linter.unusedVariables false
open Go.RowKit



end Go.Proofs.YtlmaeadbomnhlabDoor

namespace Go.Proofs.YtlmaeadbomnhlabDoor
set_option linter.unusedSimpArgs false
set_option linter.unusedVariables false
open Go.RowKit

/-- the desk of a game -/
def newD (g : List (List Int)) : Dk := if laidB g = true then ⟨g, []⟩ else dkZero

theorem newD_no {g : List (List Int)} (h : laidB g = false) : newD g = dkZero := by unfold newD; rw [h]; rfl

theorem newD_yes {g : List (List Int)} (h : laidB g = true) : newD g = ⟨g, []⟩ := if_pos h

theorem newD_ok {g : List (List Int)} (h : laidB g = true) : dkB (newD g) = true := by
  rw [newD_yes h]; exact dkB_iff.2 ⟨rfl, h, Nat.zero_le _⟩

end Go.Proofs.YtlmaeadbomnhlabDoor
