/- The walks of the program's floors and roofs. -/
import Derived.Test.YtjojilimdhekfaaLaid
namespace Go.Proofs.Ytjojilimdhekfaa
set_option linter.unusedSimpArgs false
set_option linter.unusedVariables false
open Go.RowKit

/-- what a call leaves that hands back v and only adds blocks -/
def Adds (v : Value) (w : World) (e : Ending) (w' : World) : Prop := e = .returned v ∧ Below w.heap.size w w'

theorem Adds.of {v x : Value} {w w' : World} (h : x = v) (hb : Below w.heap.size w w') : Adds v w (.returned x) w' := ⟨by rw [h], hb⟩

theorem Quiet.adds {v : Value} {w : World} {e : Ending} {w' : World} (h : Quiet v w e w') : Adds v w e w' := by
  obtain ⟨rfl, n, rfl⟩ := h; exact ⟨rfl, below_drewN (Below.refl _ _) n⟩

theorem Same.adds {v : Value} {w : World} {e : Ending} {w' : World} (h : Same v w e w') : Adds v w e w' := h.quiet.adds

end Go.Proofs.Ytjojilimdhekfaa
