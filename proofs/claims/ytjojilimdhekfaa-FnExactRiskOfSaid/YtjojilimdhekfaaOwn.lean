/- Words for memory: lists that grow by append; lists of the call's own. -/
import Derived.Test.YtjojilimdhekfaaCopy
import Derived.OwnWalk
import Derived.Maps.AppendAt
namespace Go.Proofs.Ytjojilimdhekfaa
set_option linter.unusedSimpArgs false
set_option linter.unusedVariables false
open Go.RowKit

/-- the slice at A is the call's own, in a block of lo .. hi - 1, and reads as l -/
def OwnI (w : World) (lo hi : Nat) (A : Option Addr) (l : List Int) : Prop :=
  0 < l.length → ∃ (b N : Nat) (f : Nat → Value), A = some ⟨b, 0, none⟩ ∧ lo ≤ b ∧ b < hi ∧ w.rowIs b 3 N f ∧ l.length ≤ N ∧ ∀ i, i < l.length → f i = .int .i64 (nth l i)

theorem OwnI.ints {w : World} {lo hi : Nat} {A : Option Addr} {l : List Int} (h : OwnI w lo hi A l) : Ints w (fun b => lo ≤ b ∧ b < hi) A l := by
  intro h0
  obtain ⟨b, N, f, e, h1, h2, h3, h4, h5⟩ := h h0
  exact ⟨b, 0, e, ⟨h1, h2⟩, fun i hi => by rw [Nat.zero_add, h3.cell (by omega), h5 i hi]⟩

theorem OwnI.keep {w w' : World} {lo hi : Nat} {A : Option Addr} {l : List Int} (h : OwnI w lo hi A l) (hk : ∀ b, lo ≤ b → b < hi → w'.heap[b]? = w.heap[b]?) : OwnI w' lo hi A l := by
  intro h0
  obtain ⟨b, N, f, e, h1, h2, h3, h4, h5⟩ := h h0
  exact ⟨b, N, f, e, h1, h2, h3.of_block (hk b h1 h2), h4, h5⟩

theorem OwnI.more {w : World} {lo hi lo' hi' : Nat} {A : Option Addr} {l : List Int} (h : OwnI w lo hi A l) (h1 : lo' ≤ lo) (h2 : hi ≤ hi') : OwnI w lo' hi' A l := by
  intro h0
  obtain ⟨b, N, f, e, k1, k2, h3, h4, h5⟩ := h h0
  exact ⟨b, N, f, e, by omega, by omega, h3, h4, h5⟩

/-- the numbers of a list as values -/
def vals (l : List Int) : List Value := l.map (Value.int .i64)

theorem vals_length (l : List Int) : (vals l).length = l.length := by simp [vals]

theorem vals_snoc (l : List Int) (x : Int) : vals (l ++ [x]) = vals l ++ [.int .i64 x] := by simp [vals]

theorem vals_get (l : List Int) (i : Nat) (h : i < l.length) : (vals l)[i]? = some (.int .i64 (nth l i)) := by rw [nth_eq l i h]; simp [vals, h]

/-- what append has made so far -/
def Grows (w : World) (base : Nat) (v : Value) (l : List Int) : Prop := w.ownsRow base 3 1 v l.length (vals l)

theorem Grows.own {w : World} {base : Nat} {v : Value} {l : List Int} (h : Grows w base v l) : ∃ (A : Option Addr) (c : Nat), v = .slice A l.length c ∧ l.length ≤ c ∧ OwnI w base w.heap.size A l := by
  obtain ⟨h1, ⟨rfl, h2⟩ | ⟨b, cap, cur, rfl, h3, h4, h5, h6, h7, h8⟩⟩ := h
  · exact ⟨none, 0, by rw [h2], by omega, fun h0 => by omega⟩
  · refine ⟨_, cap, rfl, h5, fun _ => ⟨b, cur.size, fun i => cur.getD i undef, rfl, h3, ?_, ⟨cur, h4, rfl, fun i hi => by simp [hi]⟩, by omega, fun i hi => ?_⟩⟩
    · obtain ⟨hlt, _⟩ := Array.getElem?_eq_some_iff.1 h4; exact hlt
    · have e := vals_get l i hi
      rw [← h8, List.getElem?_take, if_pos (by omega)] at e
      have : cur[i]? = some (.int .i64 (nth l i)) := by simpa using e
      simp [Array.getD_eq_getD_getElem?, this]

theorem Grows.nil (w : World) (base : Nat) : Grows w base (.slice none 0 0) [] := World.ownsRow_nil w base _ _

theorem Grows.lit (w : World) {base : Nat} (hb : base ≤ w.heap.size) : Grows (w.alloc (.cells #[] 3)) base (.slice (some ⟨w.heap.size, 0, none⟩) 0 0) [] :=
  World.ownsRow_lit w #[] 0 hb (Nat.zero_le _) rfl

theorem Grows.alloc {w : World} {base : Nat} {v : Value} {l : List Int} (h : Grows w base v l) (o : Obj) : Grows (w.alloc o) base v l := World.ownsRow.alloc h o

theorem Grows.drewN {w : World} {base : Nat} {v : Value} {l : List Int} (h : Grows w base v l) (n : Nat) : Grows (w.drewN n) base v l := h

theorem Grows.keep {w w' : World} {base : Nat} {v : Value} {l : List Int} (h : Grows w base v l) (hb : Below w.heap.size w w') : Grows w' base v l :=
  World.ownsRow.kept (row := none) h ⟨hb.os, hb.tape, hb.output, hb.size, fun k hk _ => hb.block k hk⟩ (by
    cases v.ownBlock <;> simp)

/-- behind an append of one number -/
theorem Grows.snoc {w1 : World} {base : Nat} {v' : Value} {l : List Int} {x : Int} (h : w1.ownsRow base 3 1 v' (l.length + 1) (vals l ++ [.int .i64 x])) : Grows w1 base v' (l ++ [x]) := by
  unfold Grows; rw [vals_snoc, List.length_append]; exact h

theorem Grows.below {w w1 W : World} {B base : Nat} {v : Value} {l : List Int} {o : Obj} (h : Grows w base v l) (hg : (w.alloc o).grownBy w1 v.ownBlock) (hb : Below B W w) (hB : B ≤ base) (hw : B ≤ w.heap.size) : Below B W w1 :=
  (hb.alloc hw o).grown hg (by simp; omega) (fun k hk => by have := (World.ownsRow.lt h) k hk; omega)

/-- what a call leaves that hands back a list of its own -/
def NewList (w : World) (l : List Int) (e : Ending) (w' : World) : Prop :=
  ∃ (A : Option Addr) (c : Nat), e = .returned (.slice A l.length c) ∧ Below w.heap.size w w' ∧ OwnI w' w.heap.size w'.heap.size A l

theorem NewList.of {w w' : World} {v x : Value} {l : List Int} (hx : x = v) (h : Grows w' w.heap.size v l) (hb : Below w.heap.size w w') : NewList w l (.returned x) w' := by
  obtain ⟨A, c, rfl, _, ho⟩ := h.own
  exact ⟨A, c, by rw [hx], hb, ho⟩

end Go.Proofs.Ytjojilimdhekfaa
