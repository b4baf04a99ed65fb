/- What the walk is told of a slice of slices of integers that came in. -/
import Derived.Test.YtlmaeadbomnhlabDoorLiftK
import Derived.Test.YtlmaeadbomnhlabDoorMC
import Derived.Deep.Matrix
namespace Go.Proofs.YtlmaeadbomnhlabDoor
set_option linter.unusedSimpArgs false
set_option linter.unusedVariables false
open Go.RowKit

theorem spot_none {w : World} {a : Addr} {v : Value} (h : w.cell? (a.add 0) = some v) : a = ⟨a.block, a.off, none⟩ ∧ a.block < w.heap.size := by
  have h' : w.cell? a = some v := by simpa [Addr.add] using h
  refine ⟨?_, World.block_lt_of_cell? _ _ h'⟩
  obtain ⟨b, o, s⟩ := a
  cases s with
  | none => rfl
  | some x =>
    exfalso
    unfold World.cell? at h'
    split at h' <;> simp at h'

theorem add_plain (b o i : Nat) : (⟨b, o, none⟩ : Addr).add i = ⟨b, o + i, none⟩ := by
  unfold Addr.add
  split
  · rename_i h; subst h; rfl
  · rfl

end Go.Proofs.YtlmaeadbomnhlabDoor
