/- Texts in one: ExactJa, ExactJb, ExactJc. -/
import Derived.Test.YtlmaeadbomnhlabDoorQD
import Derived.Test.YtlmaeadbomnhlabDoorMG
namespace Go.Proofs.YtlmaeadbomnhlabDoor
set_option linter.unusedSimpArgs false
set_option linter.unusedVariables false
open Go.RowKit



end Go.Proofs.YtlmaeadbomnhlabDoor

namespace Go.Proofs.YtlmaeadbomnhlabDoor
set_option linter.unusedSimpArgs false
set_option linter.unusedVariables false
open Go.RowKit

/-- a desk as it is read below a block -/
structure RdD (w : World) (B : Nat) (TN TP : Option Addr) (d : Dk) : Prop where
  n : Rows2 w (· < B) TN d.now
  p : Rows3 w (· < B) TP d.past

theorem RdD.lt {w : World} {B B' : Nat} {TN TP : Option Addr} {d : Dk} (h : RdD w B TN TP d) (hB : B ≤ B') : RdD w B' TN TP d := ⟨h.n.lt hB, h.p.lt hB⟩

theorem keepDk {w w' : World} {B : Nat} {TN TP : Option Addr} {d : Dk} (hb : Below B w w') (h : RdD w B TN TP d) : RdD w' B TN TP d := ⟨keepRows hb h.n, keepTabs hb h.p⟩

end Go.Proofs.YtlmaeadbomnhlabDoor

namespace Go.Proofs.YtlmaeadbomnhlabDoor
set_option linter.unusedSimpArgs false
set_option linter.unusedVariables false
open Go.RowKit



end Go.Proofs.YtlmaeadbomnhlabDoor
