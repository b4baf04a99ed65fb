/- The walk of the specification's game from the other side. -/
import Derived.Test.YtjojilimdhekfaaOwn2
import Derived.Test.YtjojilimdhekfaaFloorS
namespace Go.Proofs.Ytjojilimdhekfaa
set_option linter.unusedSimpArgs false
set_option linter.unusedVariables false
open Go.RowKit

theorem NewTable.of {w w' : World} {v x : Value} {A : Nat → Option Addr} {C : Nat → Nat} {g : List (List Int)} (hx : x = v) {hi : Nat} (h : GrowsR w' w.heap.size hi v A C g) (hb : Below w.heap.size w w') : NewTable w g (.returned x) w' := by
  obtain ⟨T, c, rfl, _, _, ho⟩ := h.table
  exact ⟨T, c, by rw [hx], hb, ho.more (Nat.le_refl _) h.hile⟩

end Go.Proofs.Ytjojilimdhekfaa
