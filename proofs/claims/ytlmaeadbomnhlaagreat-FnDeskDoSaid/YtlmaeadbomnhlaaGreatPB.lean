/- Texts in one: LearnS, GapS, LeastS. -/
import Derived.Test.YtlmaeadbomnhlaaGreatPA
import Derived.Test.YtlmaeadbomnhlaaGreatMD
import Derived.Test.YtlmaeadbomnhlaaGreatMC
import Derived.Test.YtlmaeadbomnhlaaGreatMF
namespace Go.Proofs.YtlmaeadbomnhlaaGreat
set_option linter.unusedSimpArgs false
set_option linter.unusedVariables false
open Go.RowKit
def CntRes (w : World) (b : Bool) (x y : List Int) (e : Ending) (w' : World) : Prop :=
  ∃ (A : Option Addr) (c : Nat) (B : Option Addr) (k : Nat), e = .returned (.tuple #[.agg #[.slice A x.length c, .slice B y.length k], .bool b]) ∧
    Below w.heap.size w w' ∧ OwnI w' w.heap.size w'.heap.size A x ∧ OwnI w' w.heap.size w'.heap.size B y ∧ (0 < x.length → 0 < y.length → A.map (·.block) ≠ B.map (·.block))
theorem CntRes.zero (w : World) {w' : World} (hb : Below w.heap.size w w') : CntRes w false [] [] (.returned (.tuple #[.agg #[.slice none 0 0, .slice none 0 0], .bool false])) w' :=
  ⟨Option.none, 0, Option.none, 0, rfl, hb, fun h => absurd h (by simp), fun h => absurd h (by simp), fun h => absurd h (by simp)⟩
structure TwoNow (W wr : World) (x y : List Int) : Prop where
  bel : Below W.heap.size W wr
  size : wr.heap.size = W.heap.size + 2
  one : IntRow wr W.heap.size x
  two : IntRow wr (W.heap.size + 1) y
theorem TwoNow.drewN {W wr : World} {x y : List Int} (h : TwoNow W wr x y) (n : Nat) : TwoNow W (wr.drewN n) x y := ⟨below_drewN h.bel n, h.size, h.one, h.two⟩
theorem TwoNow.start (W : World) (n m : Nat) : TwoNow W ((((W.alloc (.cells (madeCells #[.int .i64 0] n) 3)).alloc (.cells (madeCells #[.int .i64 0] m) 3)).setCell ⟨W.heap.size, 0, none⟩ (.int .i64 1)).setCell ⟨W.heap.size + 1, 0, none⟩ (.int .i64 1)) (oneAt n 0 1) (oneAt m 0 1) := by
  have h0 := World.rowIs_made W (.int .i64 0) n 3
  have h1 := World.rowIs_made (W.alloc (.cells (madeCells #[.int .i64 0] n) 3)) (.int .i64 0) m 3
  have hsz : (W.alloc (.cells (madeCells #[.int .i64 0] n) 3)).heap.size = W.heap.size + 1 := by simp
  rw [hsz] at h1
  refine ⟨((((Below.refl _ _).alloc (Nat.le_refl _) _).alloc (by simp) _).setCell (Nat.le_refl _) _).setCell (by show W.heap.size ≤ W.heap.size + 1; omega) _, by simp [World.setCell], ?_, ?_⟩
  · show World.rowIs _ _ _ _ _
    rw [oneAt_length]
    exact World.rowIs.setOther (oneAt_row (h0.alloc _)) (by show W.heap.size ≠ W.heap.size + 1; omega) _
  · show World.rowIs _ _ _ _ _
    rw [oneAt_length]
    exact oneAt_row (World.rowIs.setOther h1 (by show W.heap.size + 1 ≠ W.heap.size; omega) _)
end Go.Proofs.YtlmaeadbomnhlaaGreat

namespace Go.Proofs.YtlmaeadbomnhlaaGreat
set_option linter.unusedSimpArgs false
set_option linter.unusedVariables false
open Go.RowKit
end Go.Proofs.YtlmaeadbomnhlaaGreat

namespace Go.Proofs.YtlmaeadbomnhlaaGreat
set_option linter.unusedSimpArgs false
set_option linter.unusedVariables false
open Go.RowKit
structure BestAt (w wr : World) (u d : Int) : Prop where
  bel : Below w.heap.size w wr
  lt : w.heap.size < wr.heap.size
  row : wr.rowIs w.heap.size 37 2 (fun i => .int .i64 (if i = 0 then u else d))
theorem BestAt.start (w : World) (u d : Int) : BestAt w (w.alloc (.cells #[.int .i64 u, .int .i64 d] 37)) u d :=
  ⟨(Below.refl _ _).alloc (Nat.le_refl _) _, by simp, World.rowIs_alloc w #[.int .i64 u, .int .i64 d] _ _ (fun i hi => by have : i = 0 ∨ i = 1 := (by simp at hi; omega); rcases this with rfl | rfl <;> rfl)⟩
theorem BestAt.keep {w wr w' : World} {u d : Int} (h : BestAt w wr u d) (hb : Below wr.heap.size wr w') : BestAt w w' u d :=
  ⟨h.bel.trans (hb.mono (Nat.le_of_lt h.lt)), Nat.lt_of_lt_of_le h.lt hb.size, h.row.of_block (hb.block _ h.lt)⟩
theorem BestAt.store {w wr : World} {u d : Int} (h : BestAt w wr u d) (u' d' : Int) : BestAt w ((wr.setCell ⟨w.heap.size, 0, none⟩ (.int .i64 u')).setCell ⟨w.heap.size, 1, none⟩ (.int .i64 d')) u' d' := by
  refine ⟨(h.bel.setCell (Nat.le_refl _) _).setCell (Nat.le_refl _) _, by simpa [World.setCell] using h.lt, ((h.row.set 0 _).set 1 _).congr fun i hi => ?_⟩
  have : i = 0 ∨ i = 1 := by omega
  rcases this with rfl | rfl <;> rfl
end Go.Proofs.YtlmaeadbomnhlaaGreat
