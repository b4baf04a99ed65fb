/- Texts in one: Poke, DrawHa, DrawHb, DrawHc. -/
import Derived.Test.YtlmaeadbomnhlabDoorMH
import Derived.Test.YtlmaeadbomnhlabDoorMC
import Derived.Test.YtlmaeadbomnhlabDoorMT
namespace Go.Proofs.YtlmaeadbomnhlabDoor
set_option linter.unusedSimpArgs false
set_option linter.unusedVariables false
open Go.RowKit



end Go.Proofs.YtlmaeadbomnhlabDoor

namespace Go.Proofs.YtlmaeadbomnhlabDoor
set_option linter.unusedSimpArgs false
set_option linter.unusedVariables false
open Go.RowKit



end Go.Proofs.YtlmaeadbomnhlabDoor

namespace Go.Proofs.YtlmaeadbomnhlabDoor
set_option linter.unusedSimpArgs false
set_option linter.unusedVariables false
open Go.RowKit

theorem Kept.bel {n : Nat} {w w1 w2 : World} (hb : Below n w w1) (hk : Kept n w1 w2) (hn : n ≤ w1.heap.size) : Below n w w2 := hb.trans (hk.below (Nat.le_refl _) hn)

end Go.Proofs.YtlmaeadbomnhlabDoor

namespace Go.Proofs.YtlmaeadbomnhlabDoor
set_option linter.unusedSimpArgs false
set_option linter.unusedVariables false
open Go.RowKit

/-- a drawn square table while it is written, and its reader -/
structure SquareT (n0 : Nat) (w wr : World) (a : Option Addr) (len cap : Nat) (zs : List Int) (p : Int) (lo hi bt m : Nat) : Prop where
  kept : Kept n0 w wr
  ex : ∃ (t : List (List Int)) (q : Int), t.length = m ∧ (∀ i, i < m → (rowAt t i).length = m) ∧ Reader n0 wr a len cap zs q ∧ 0 ≤ q ∧ q ≤ p ∧ OwnR wr lo hi (some ⟨bt, 0, none⟩) t ∧ hi ≤ wr.heap.size

theorem SquareT.more {n0 : Nat} {w wr : World} {a : Option Addr} {len cap : Nat} {zs : List Int} {p p' : Int} {lo hi bt m : Nat} (h : SquareT n0 w wr a len cap zs p lo hi bt m) (hp : p ≤ p') : SquareT n0 w wr a len cap zs p' lo hi bt m := by
  obtain ⟨hk, t, q, h1, h2, h3, h4, h5, h6⟩ := h
  exact ⟨hk, t, q, h1, h2, h3, h4, by omega, h6⟩

end Go.Proofs.YtlmaeadbomnhlabDoor
