/- Texts in one: LearnS, GapS, LeastS. -/
import Derived.Test.YtlkjpmdnhccdpaaPA
import Derived.Test.YtlkjpmdnhccdpaaMD
import Derived.Test.YtlkjpmdnhccdpaaMC
import Derived.Test.YtlkjpmdnhccdpaaMF
namespace Go.Proofs.Ytlkjpmdnhccdpaa
set_option linter.unusedSimpArgs false
set_option linter.unusedVariables false
open Go.RowKit

def lrnB (g : List (List Int)) (s : Int) : Bool := gameB g && inR s 1 60

def lrnX (g : List (List Int)) (s : Int) : List Int := if lrnB g s = true then (lrnP g (s.toNat - 1)).1 else []

def lrnY (g : List (List Int)) (s : Int) : List Int := if lrnB g s = true then (lrnP g (s.toNat - 1)).2 else []

/-- two lists in one, and a truth -/
def CntRes (w : World) (b : Bool) (x y : List Int) (e : Ending) (w' : World) : Prop :=
  ∃ (A : Option Addr) (c : Nat) (B : Option Addr) (k : Nat), e = .returned (.tuple #[.agg #[.slice A x.length c, .slice B y.length k], .bool b]) ∧
    Below w.heap.size w w' ∧ OwnI w' w.heap.size w'.heap.size A x ∧ OwnI w' w.heap.size w'.heap.size B y ∧ (0 < x.length → 0 < y.length → A.map (·.block) ≠ B.map (·.block))

theorem lrn_no {g : List (List Int)} {s : Int} (h : lrnB g s = false) : lrnX g s = [] ∧ lrnY g s = [] := by unfold lrnX lrnY; rw [h]; exact ⟨rfl, rfl⟩

theorem CntRes.zero (w : World) {w' : World} (hb : Below w.heap.size w w') : CntRes w false [] [] (.returned (.tuple #[.agg #[.slice none 0 0, .slice none 0 0], .bool false])) w' :=
  ⟨Option.none, 0, Option.none, 0, rfl, hb, fun h => absurd h (by simp), fun h => absurd h (by simp), fun h => absurd h (by simp)⟩

/-- two rows of the call's own -/
structure TwoNow (W wr : World) (x y : List Int) : Prop where
  bel : Below W.heap.size W wr
  size : wr.heap.size = W.heap.size + 2
  one : IntRow wr W.heap.size x
  two : IntRow wr (W.heap.size + 1) y

theorem IntRow.bump {w : World} {b : Nat} {x : List Int} (h : IntRow w b x) (r : Nat) : IntRow (w.setCell ⟨b, r, none⟩ (.int .i64 (nth x r + 1))) b (bump x r) := by
  show World.rowIs _ _ _ _ _
  rw [bump_length]
  refine (World.rowIs.set h r _).congr fun i hi => ?_
  rw [nth_bump _ _ _ hi]
  by_cases e : i = r
  · subst e; rw [if_pos rfl, if_pos rfl]
  · rw [if_neg e, if_neg e]

theorem TwoNow.bump1 {W wr : World} {x y : List Int} (h : TwoNow W wr x y) (r : Nat) : TwoNow W (wr.setCell ⟨W.heap.size, r, none⟩ (.int .i64 (nth x r + 1))) (bump x r) y :=
  ⟨h.bel.setCell (Nat.le_refl _) _, by simp [World.setCell, h.size], IntRow.bump h.one r, World.rowIs.setOther h.two (by show W.heap.size + 1 ≠ W.heap.size; omega) _⟩

theorem TwoNow.bump2 {W wr : World} {x y : List Int} (h : TwoNow W wr x y) (r : Nat) : TwoNow W (wr.setCell ⟨W.heap.size + 1, r, none⟩ (.int .i64 (nth y r + 1))) x (bump y r) :=
  ⟨h.bel.setCell (by show W.heap.size ≤ W.heap.size + 1; omega) _, by simp [World.setCell, h.size], World.rowIs.setOther h.one (by show W.heap.size ≠ W.heap.size + 1; omega) _, IntRow.bump h.two r⟩

theorem TwoNow.drewN {W wr : World} {x y : List Int} (h : TwoNow W wr x y) (n : Nat) : TwoNow W (wr.drewN n) x y := ⟨below_drewN h.bel n, h.size, h.one, h.two⟩

theorem TwoNow.start (W : World) (n m : Nat) : TwoNow W ((((W.alloc (.cells (madeCells #[.int .i64 0] n) 3)).alloc (.cells (madeCells #[.int .i64 0] m) 3)).setCell ⟨W.heap.size, 0, none⟩ (.int .i64 1)).setCell ⟨W.heap.size + 1, 0, none⟩ (.int .i64 1)) (oneAt n 0 1) (oneAt m 0 1) := by
  have h0 := World.rowIs_made W (.int .i64 0) n 3
  have h1 := World.rowIs_made (W.alloc (.cells (madeCells #[.int .i64 0] n) 3)) (.int .i64 0) m 3
  have hsz : (W.alloc (.cells (madeCells #[.int .i64 0] n) 3)).heap.size = W.heap.size + 1 := by simp
  rw [hsz] at h1
  refine ⟨((((Below.refl _ _).alloc (Nat.le_refl _) _).alloc (by simp) _).setCell (Nat.le_refl _) _).setCell (by show W.heap.size ≤ W.heap.size + 1; omega) _, by simp [World.setCell], ?_, ?_⟩
  · show World.rowIs _ _ _ _ _
    rw [oneAt_length]
    exact World.rowIs.setOther (oneAt_row (h0.alloc _)) (by show W.heap.size ≠ W.heap.size + 1; omega) _
  · show World.rowIs _ _ _ _ _
    rw [oneAt_length]
    exact oneAt_row (World.rowIs.setOther h1 (by show W.heap.size + 1 ≠ W.heap.size; omega) _)

theorem unit_set2 (w : World) (m k : Nat) : (w.alloc (.cells (madeCells #[.int .i64 0] m) 3)).setCell ⟨w.heap.size, k, none⟩ (.int .i64 1) = w.alloc (.cells ((madeCells #[.int .i64 0] m).setIfInBounds k (.int .i64 1)) 3) := by
  simp [go_sem]

/-- both rows are made and stored into at once -/
theorem TwoNow.start2 (W : World) (n m : Nat) : TwoNow W ((W.alloc (.cells ((madeCells #[.int .i64 0] n).setIfInBounds 0 (.int .i64 1)) 3)).alloc (.cells ((madeCells #[.int .i64 0] m).setIfInBounds 0 (.int .i64 1)) 3)) (oneAt n 0 1) (oneAt m 0 1) := by
  obtain ⟨V, hV⟩ : ∃ V : World, V = W.alloc (.cells ((madeCells #[.int .i64 0] n).setIfInBounds 0 (.int .i64 1)) 3) := ⟨_, rfl⟩
  have hz : V.heap.size = W.heap.size + 1 := by rw [hV]; simp
  have h0 : IntRow V W.heap.size (oneAt n 0 1) := by
    show World.rowIs _ _ _ _ _
    rw [oneAt_length, hV, ← unit_set2 W n 0]
    exact oneAt_row (World.rowIs_made W _ n _)
  have hb : Below W.heap.size W V := by rw [hV]; exact (Below.refl _ _).alloc (Nat.le_refl _) _
  rw [← hV]
  refine ⟨hb.alloc hb.size _, by simp [hz], World.rowIs.alloc h0 _, ?_⟩
  show World.rowIs _ _ _ _ _
  rw [oneAt_length, ← unit_set2 V m 0, ← hz]
  exact oneAt_row (World.rowIs_made V _ m _)

theorem made_first {n : Nat} (h : 1 ≤ n) : (madeCells #[.int .i64 0] n)[0]? = some (.int .i64 0) := by
  obtain ⟨k, rfl⟩ : ∃ k, n = k + 1 := ⟨n - 1, by omega⟩
  simp [madeCells]

end Go.Proofs.Ytlkjpmdnhccdpaa

namespace Go.Proofs.Ytlkjpmdnhccdpaa
set_option linter.unusedSimpArgs false
set_option linter.unusedVariables false
open Go.RowKit

/-- the gap after so many steps, whatever the number -/
def gapU (g : List (List Int)) (s : Int) : Int := if lrnB g s = true then gpU g (s.toNat - 1) else 0

def gapD (g : List (List Int)) (s : Int) : Int := if lrnB g s = true then gpD g (s.toNat - 1) else 0

theorem gap_no {g : List (List Int)} {s : Int} (h : lrnB g s = false) : gapU g s = 0 ∧ gapD g s = 0 := by unfold gapU gapD; rw [h]; exact ⟨rfl, rfl⟩

theorem gap_yes {g : List (List Int)} {s : Int} (h : lrnB g s = true) : gapU g s = gpU g (s.toNat - 1) ∧ gapD g s = gpD g (s.toNat - 1) := by unfold gapU gapD; rw [h]; exact ⟨rfl, rfl⟩

/-- the least gap till so many steps -/
def lstU (g : List (List Int)) (s : Int) : Int := if lrnB g s = true then gpU g (lstAt g (s.toNat - 1)) else 0

def lstD (g : List (List Int)) (s : Int) : Int := if lrnB g s = true then gpD g (lstAt g (s.toNat - 1)) else 0

def lstN (g : List (List Int)) (s : Int) : Int := if lrnB g s = true then (lstAt g (s.toNat - 1) : Nat) + 1 else -1

end Go.Proofs.Ytlkjpmdnhccdpaa

namespace Go.Proofs.Ytlkjpmdnhccdpaa
set_option linter.unusedSimpArgs false
set_option linter.unusedVariables false
open Go.RowKit

theorem lst_no {g : List (List Int)} {s : Int} (h : lrnB g s = false) : lstU g s = 0 ∧ lstD g s = 0 ∧ lstN g s = -1 := by unfold lstU lstD lstN; rw [h]; exact ⟨rfl, rfl, rfl⟩

theorem lst_yes {g : List (List Int)} {s : Int} (h : lrnB g s = true) : lstU g s = gpU g (lstAt g (s.toNat - 1)) ∧ lstD g s = gpD g (lstAt g (s.toNat - 1)) ∧ lstN g s = (lstAt g (s.toNat - 1) : Nat) + 1 := by unfold lstU lstD lstN; rw [h]; exact ⟨rfl, rfl, rfl⟩

theorem lrnB_one (g : List (List Int)) : lrnB g 1 = gameB g := by unfold lrnB inR; simp

/-- the best fraction so far, in a box of the call's own, which lies behind all of w -/
structure BestAt (w wr : World) (u d : Int) : Prop where
  bel : Below w.heap.size w wr
  lt : w.heap.size < wr.heap.size
  row : wr.rowIs w.heap.size 39 2 (fun i => .int .i64 (if i = 0 then u else d))

theorem BestAt.start (w : World) (u d : Int) : BestAt w (w.alloc (.cells #[.int .i64 u, .int .i64 d] 39)) u d :=
  ⟨(Below.refl _ _).alloc (Nat.le_refl _) _, by simp, World.rowIs_alloc w #[.int .i64 u, .int .i64 d] _ _ (fun i hi => by have : i = 0 ∨ i = 1 := (by simp at hi; omega); rcases this with rfl | rfl <;> rfl)⟩

theorem BestAt.keep {w wr w' : World} {u d : Int} (h : BestAt w wr u d) (hb : Below wr.heap.size wr w') : BestAt w w' u d :=
  ⟨h.bel.trans (hb.mono (Nat.le_of_lt h.lt)), Nat.lt_of_lt_of_le h.lt hb.size, h.row.of_block (hb.block _ h.lt)⟩

theorem BestAt.store {w wr : World} {u d : Int} (h : BestAt w wr u d) (u' d' : Int) : BestAt w ((wr.setCell ⟨w.heap.size, 0, none⟩ (.int .i64 u')).setCell ⟨w.heap.size, 1, none⟩ (.int .i64 d')) u' d' := by
  refine ⟨(h.bel.setCell (Nat.le_refl _) _).setCell (Nat.le_refl _) _, by simpa [World.setCell] using h.lt, ((h.row.set 0 _).set 1 _).congr fun i hi => ?_⟩
  have : i = 0 ∨ i = 1 := by omega
  rcases this with rfl | rfl <;> rfl

end Go.Proofs.Ytlkjpmdnhccdpaa
