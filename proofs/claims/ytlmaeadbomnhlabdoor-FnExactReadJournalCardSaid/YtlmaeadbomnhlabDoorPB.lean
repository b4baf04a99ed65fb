/- Texts in one: LearnS, GapS, LeastS. -/
import Derived.Test.YtlmaeadbomnhlabDoorPA
import Derived.Test.YtlmaeadbomnhlabDoorMD
import Derived.Test.YtlmaeadbomnhlabDoorMC
import Derived.Test.YtlmaeadbomnhlabDoorMF
namespace Go.Proofs.YtlmaeadbomnhlabDoor
set_option linter.unusedSimpArgs false
set_option linter.unusedVariables false
open Go.RowKit

/-- two lists in one, and a truth -/
def CntRes (w : World) (b : Bool) (x y : List Int) (e : Ending) (w' : World) : Prop :=
  ∃ (A : Option Addr) (c : Nat) (B : Option Addr) (k : Nat), e = .returned (.tuple #[.agg #[.slice A x.length c, .slice B y.length k], .bool b]) ∧
    Below w.heap.size w w' ∧ OwnI w' w.heap.size w'.heap.size A x ∧ OwnI w' w.heap.size w'.heap.size B y ∧ (0 < x.length → 0 < y.length → A.map (·.block) ≠ B.map (·.block))

theorem CntRes.zero (w : World) {w' : World} (hb : Below w.heap.size w w') : CntRes w false [] [] (.returned (.tuple #[.agg #[.slice none 0 0, .slice none 0 0], .bool false])) w' :=
  ⟨Option.none, 0, Option.none, 0, rfl, hb, fun h => absurd h (by simp), fun h => absurd h (by simp), fun h => absurd h (by simp)⟩

/-- two rows of the call's own -/
structure TwoNow (W wr : World) (x y : List Int) : Prop where
  bel : Below W.heap.size W wr
  size : wr.heap.size = W.heap.size + 2
  one : IntRow wr W.heap.size x
  two : IntRow wr (W.heap.size + 1) y

theorem TwoNow.drewN {W wr : World} {x y : List Int} (h : TwoNow W wr x y) (n : Nat) : TwoNow W (wr.drewN n) x y := ⟨below_drewN h.bel n, h.size, h.one, h.two⟩

end Go.Proofs.YtlmaeadbomnhlabDoor

namespace Go.Proofs.YtlmaeadbomnhlabDoor
set_option linter.unusedSimpArgs false
set_option linter.unusedVariables false
open Go.RowKit



end Go.Proofs.YtlmaeadbomnhlabDoor

namespace Go.Proofs.YtlmaeadbomnhlabDoor
set_option linter.unusedSimpArgs false
set_option linter.unusedVariables false
open Go.RowKit



end Go.Proofs.YtlmaeadbomnhlabDoor
