/- The walks of the exact laws on games, first part: GameOk, FloorOf, RoofOf. (Written by wip/gen/exactg.py.) -/
import Derived.Test.YtjojilimdhekfaaCopy
import Derived.Test.YtjojilimdhekfaaFloorS
namespace Go.Proofs.Ytjojilimdhekfaa
set_option linter.unusedSimpArgs false
set_option linter.unusedVariables false
open Go.RowKit

theorem NewRows.bel {w w' : World} {g : List (List Int)} (h : Laid w w' g) : Below w.heap.size w w' := Laying.bel h

theorem NewRows.reads {w w' : World} {g : List (List Int)} (h : Laid w w' g) (hm : ∀ i, i < g.length → (rowAt g i).length ≤ 4294967296) : Rows2 w' (· < w'.heap.size) (some ⟨w.heap.size, 0, none⟩) g :=
  h.rows2 (fun _ _ h => h) (fun i hi => by have := hm i hi; unfold maxLen; omega)

/-- a table that was read is read behind whatever only adds blocks -/
theorem stillRows {w w' : World} {A : Option Addr} {g : List (List Int)} (h : Rows2 w (· < w.heap.size) A g) (hb : Below w.heap.size w w') : Rows2 w' (· < w'.heap.size) A g :=
  (keepRows hb h).mono fun b hlt => by have := hb.size; omega

end Go.Proofs.Ytjojilimdhekfaa
