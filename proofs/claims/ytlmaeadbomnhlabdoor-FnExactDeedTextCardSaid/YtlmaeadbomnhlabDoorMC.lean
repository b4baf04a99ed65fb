/- Texts in one: Mem, Game, GameS, Best, Laid, Floor, Copy, Own, Mark, Turn, Own2, FloorS, TurnS, Saddle, SaddleS, Mark2. -/
import Derived.Test.YtlmaeadbomnhlabDoorProg
import Derived.Test.YtlmaeadbomnhlabDoorMA
import Derived.Test.YtlmaeadbomnhlabDoorMB
import Derived.Deep.Draws
import Derived.Deep.OwnRows
import Derived.Shelf.Abstract
import Derived.OwnWalk
import Derived.Maps.AppendAt
namespace Go.Proofs.YtlmaeadbomnhlabDoor
set_option linter.unusedSimpArgs false
set_option linter.unusedVariables false
open Go.RowKit

/-- w' is w behind some draws -/
def Quiet (v : Value) (w : World) (e : Ending) (w' : World) : Prop := e = .returned v ∧ ∃ n, w' = w.drewN n

theorem Quiet.mk {v : Value} {w : World} (n : Nat) : Quiet v w (.returned v) (w.drewN n) := ⟨rfl, n, rfl⟩

theorem Quiet.of {v x : Value} {w : World} (h : x = v) : Quiet v w (.returned x) w := ⟨by rw [h], 0, rfl⟩

/-- the world is left alone -/
def Same (v : Value) (w : World) (e : Ending) (w' : World) : Prop := e = .returned v ∧ w = w'

theorem Same.of {v x : Value} {w : World} (h : x = v) : Same v w (.returned x) w := ⟨by rw [h], rfl⟩

/-- the slice at A reads as the numbers l; its block is one of S -/
def Ints (w : World) (S : Nat → Prop) (A : Option Addr) (l : List Int) : Prop :=
  0 < l.length → ∃ b off : Nat, A = some ⟨b, off, none⟩ ∧ S b ∧ ∀ i, i < l.length → w.cell? ⟨b, off + i, none⟩ = some (.int .i64 (nth l i))

/-- the slice at A reads as the rows g -/
def Rows2 (w : World) (S : Nat → Prop) (A : Option Addr) (g : List (List Int)) : Prop :=
  0 < g.length → ∃ b off : Nat, A = some ⟨b, off, none⟩ ∧ S b ∧ ∀ i, i < g.length → ∃ (A' : Option Addr) (c : Nat),
    w.cell? ⟨b, off + i, none⟩ = some (.slice A' (rowAt g i).length c) ∧ (rowAt g i).length ≤ c ∧ c ≤ maxLen ∧ Ints w S A' (rowAt g i)

theorem Ints.nil (w : World) (S : Nat → Prop) (A : Option Addr) : Ints w S A [] := fun h => absurd h (by simp)

theorem Ints.keep {w w' : World} {S : Nat → Prop} {A : Option Addr} {l : List Int} (h : Ints w S A l) (hk : ∀ b, S b → w'.heap[b]? = w.heap[b]?) : Ints w' S A l := by
  intro h0
  obtain ⟨b, off, e, hb, hc⟩ := h h0
  exact ⟨b, off, e, hb, fun i hi => (World.cell?_of_block (w := w) (hk b hb)).trans (hc i hi)⟩

theorem Ints.mono {w : World} {S T : Nat → Prop} {A : Option Addr} {l : List Int} (h : Ints w S A l) (hk : ∀ b, S b → T b) : Ints w T A l := by
  intro h0
  obtain ⟨b, off, e, hb, hc⟩ := h h0
  exact ⟨b, off, e, hk b hb, hc⟩

theorem Rows2.keep {w w' : World} {S : Nat → Prop} {A : Option Addr} {g : List (List Int)} (h : Rows2 w S A g) (hk : ∀ b, S b → w'.heap[b]? = w.heap[b]?) : Rows2 w' S A g := by
  intro h0
  obtain ⟨b, off, e, hb, hc⟩ := h h0
  refine ⟨b, off, e, hb, fun i hi => ?_⟩
  obtain ⟨A', c, h1, h2, h3, h4⟩ := hc i hi
  exact ⟨A', c, (World.cell?_of_block (w := w) (hk b hb)).trans h1, h2, h3, h4.keep hk⟩

theorem Rows2.mono {w : World} {S T : Nat → Prop} {A : Option Addr} {g : List (List Int)} (h : Rows2 w S A g) (hk : ∀ b, S b → T b) : Rows2 w T A g := by
  intro h0
  obtain ⟨b, off, e, hb, hc⟩ := h h0
  refine ⟨b, off, e, hk b hb, fun i hi => ?_⟩
  obtain ⟨A', c, h1, h2, h3, h4⟩ := hc i hi
  exact ⟨A', c, h1, h2, h3, h4.mono hk⟩

theorem Ints.drewN {w : World} {S : Nat → Prop} {A : Option Addr} {l : List Int} (h : Ints w S A l) (n : Nat) : Ints (w.drewN n) S A l := h.keep fun _ _ => rfl

theorem Rows2.drewN {w : World} {S : Nat → Prop} {A : Option Addr} {g : List (List Int)} (h : Rows2 w S A g) (n : Nat) : Rows2 (w.drewN n) S A g := h.keep fun _ _ => rfl

/-- the cells of a slice of numbers, at an index -/
theorem Ints.at_ {w : World} {S : Nat → Prop} {A : Option Addr} {l : List Int} (h : Ints w S A l) {i : Nat} (hi : i < l.length) :
    ∃ b off : Nat, A = some ⟨b, off, none⟩ ∧ S b ∧ ∀ i, i < l.length → w.cell? ⟨b, off + i, none⟩ = some (.int .i64 (nth l i)) := h (by omega)

theorem Rows2.at_ {w : World} {S : Nat → Prop} {A : Option Addr} {g : List (List Int)} (h : Rows2 w S A g) {i : Nat} (hi : i < g.length) :
    ∃ b off : Nat, A = some ⟨b, off, none⟩ ∧ S b ∧ ∀ i, i < g.length → ∃ (A' : Option Addr) (c : Nat),
    w.cell? ⟨b, off + i, none⟩ = some (.slice A' (rowAt g i).length c) ∧ (rowAt g i).length ≤ c ∧ c ≤ maxLen ∧ Ints w S A' (rowAt g i) := h (by omega)

/-- a number of a table: the outer cell and the inner one -/
theorem Rows2.cell {w : World} {S : Nat → Prop} {b off : Nat} {g : List (List Int)} (h : Rows2 w S (some ⟨b, off, none⟩) g) {i j : Nat} (hi : i < g.length) (hj : j < (rowAt g i).length) :
    ∃ b' off' c : Nat, w.cell? ⟨b, off + i, none⟩ = some (.slice (some ⟨b', off', none⟩) (rowAt g i).length c) ∧ (rowAt g i).length ≤ c ∧ c ≤ maxLen ∧ S b' ∧ w.cell? ⟨b', off' + j, none⟩ = some (.int .i64 (nth (rowAt g i) j)) := by
  obtain ⟨b0, off0, e, hS, hc⟩ := h.at_ hi
  injection e with e
  injection e with e1 e2
  subst e1 e2
  obtain ⟨A', c, h1, h2, h3, h4⟩ := hc i hi
  obtain ⟨b', off', rfl, hS', hcell⟩ := h4.at_ hj
  exact ⟨b', off', c, h1, h2, h3, hS', hcell j hj⟩

/-- a row of a table -/
theorem Rows2.row {w : World} {S : Nat → Prop} {b off : Nat} {g : List (List Int)} (h : Rows2 w S (some ⟨b, off, none⟩) g) {i : Nat} (hi : i < g.length) :
    S b ∧ ∃ (A' : Option Addr) (c : Nat), w.cell? ⟨b, off + i, none⟩ = some (.slice A' (rowAt g i).length c) ∧ (rowAt g i).length ≤ c ∧ c ≤ maxLen ∧ Ints w S A' (rowAt g i) := by
  obtain ⟨b0, off0, e, hS, hc⟩ := h.at_ hi
  injection e with e
  injection e with e1 e2
  subst e1 e2
  exact ⟨hS, hc i hi⟩

theorem Rows2.some {w : World} {S : Nat → Prop} {A : Option Addr} {g : List (List Int)} (h : Rows2 w S A g) (h0 : 0 < g.length) : ∃ b off : Nat, A = some ⟨b, off, none⟩ := by
  obtain ⟨b, off, e, _⟩ := h h0; exact ⟨b, off, e⟩

theorem Ints.lt {w : World} {B B' : Nat} {A : Option Addr} {l : List Int} (h : Ints w (· < B) A l) (hB : B ≤ B') : Ints w (· < B') A l := h.mono fun b (hb : b < B) => Nat.lt_of_lt_of_le hb hB

theorem Rows2.lt {w : World} {B B' : Nat} {A : Option Addr} {g : List (List Int)} (h : Rows2 w (· < B) A g) (hB : B ≤ B') : Rows2 w (· < B') A g := h.mono fun b (hb : b < B) => Nat.lt_of_lt_of_le hb hB

end Go.Proofs.YtlmaeadbomnhlabDoor

namespace Go.Proofs.YtlmaeadbomnhlabDoor
set_option linter.unusedSimpArgs false
set_option linter.unusedVariables false
open Go.RowKit



end Go.Proofs.YtlmaeadbomnhlabDoor

namespace Go.Proofs.YtlmaeadbomnhlabDoor
set_option linter.unusedSimpArgs false
set_option linter.unusedVariables false
open Go.RowKit



end Go.Proofs.YtlmaeadbomnhlabDoor

namespace Go.Proofs.YtlmaeadbomnhlabDoor
set_option linter.unusedSimpArgs false
set_option linter.unusedVariables false
open Go.RowKit

theorem infoI : (Tryd.prog.info? 3).map (fun i => (i.zero, i.size, i.bytes)) = some (some (.int .i64 0), 1, 8) := by kernel_rfl

/-- a row of numbers of the call's own: block b holds l -/
def IntRow (w : World) (b : Nat) (l : List Int) : Prop := w.rowIs b 3 l.length (fun i => .int .i64 (nth l i))

theorem IntRow.ints {w : World} {b : Nat} {l : List Int} {S : Nat → Prop} (h : IntRow w b l) (hb : S b) : Ints w S (some ⟨b, 0, none⟩) l :=
  fun _ => ⟨b, 0, rfl, hb, fun i hi => by rw [Nat.zero_add]; exact h.cell hi⟩

theorem keepRows {w w' : World} {B : Nat} {A : Option Addr} {g : List (List Int)} (hb : Below B w w') (h : Rows2 w (· < B) A g) : Rows2 w' (· < B) A g := h.keep hb.block

/-- while a row is filled: its first k numbers are those of l -/
structure Filled (w wr : World) (l : List Int) (k : Nat) : Prop where
  bel : Below w.heap.size w wr
  size : wr.heap.size = w.heap.size + 1
  row : wr.rowIs w.heap.size 3 l.length (fun i => .int .i64 (if i < k then nth l i else 0))

theorem Filled.step {w wr : World} {l : List Int} {k : Nat} (h : Filled w wr l k) : Filled w (wr.setCell ⟨w.heap.size, k, none⟩ (.int .i64 (nth l k))) l (k + 1) := by
  refine ⟨h.bel.setCell (Nat.le_refl _) _, by simp [World.setCell, h.size], (h.row.set k _).congr (fun i _ => ?_)⟩
  by_cases e : i = k
  · subst e; simp
  · rw [if_neg e]
    by_cases hlt : i < k
    · rw [if_pos hlt, if_pos (by omega)]
    · rw [if_neg hlt, if_neg (by omega)]

theorem Filled.drewN {w wr : World} {l : List Int} {k : Nat} (h : Filled w wr l k) (n : Nat) : Filled w (wr.drewN n) l k := ⟨below_drewN h.bel n, h.size, h.row.of_block rfl⟩

theorem Filled.done {w wr : World} {l : List Int} (h : Filled w wr l l.length) : IntRow wr w.heap.size l := h.row.congr (fun i hi => by rw [if_pos hi])

end Go.Proofs.YtlmaeadbomnhlabDoor

namespace Go.Proofs.YtlmaeadbomnhlabDoor
set_option linter.unusedSimpArgs false
set_option linter.unusedVariables false
open Go.RowKit

/-- while rows are laid: the first k rows of g lie in blocks of their own behind the outer one -/
structure Laying (w wr : World) (g : List (List Int)) (k : Nat) : Prop where
  bel : Below w.heap.size w wr
  size : wr.heap.size = w.heap.size + 1 + k
  top : wr.rowIs w.heap.size 47 g.length (fun j => if j < k then .slice (some ⟨w.heap.size + 1 + j, 0, none⟩) (rowAt g j).length (rowAt g j).length else .slice none 0 0)
  rows : ∀ j, j < k → IntRow wr (w.heap.size + 1 + j) (rowAt g j)

/-- all rows are laid -/
def Laid (w w' : World) (g : List (List Int)) : Prop := Laying w w' g g.length

theorem Laying.drewN {w wr : World} {g : List (List Int)} {k : Nat} (h : Laying w wr g k) (n : Nat) : Laying w (wr.drewN n) g k := ⟨below_drewN h.bel n, h.size, h.top, h.rows⟩

theorem Laying.drew {w wr : World} {g : List (List Int)} {k : Nat} (h : Laying w wr g k) : Laying w wr.drew g k := ⟨h.bel.drew, h.size, h.top, h.rows⟩

theorem Laying.cell {w wr : World} {g : List (List Int)} {k : Nat} (h : Laying w wr g k) {j : Nat} (hj : j < k) (hk : k ≤ g.length) : wr.cell? ⟨w.heap.size, j, none⟩ = some (.slice (some ⟨w.heap.size + 1 + j, 0, none⟩) (rowAt g j).length (rowAt g j).length) := by
  have := h.top.cell (i := j) (by omega); rwa [if_pos hj] at this

/-- while row k is filled in place: its first r numbers are there -/
structure LayIn (w wr : World) (g : List (List Int)) (k r : Nat) : Prop where
  bel : Below w.heap.size w wr
  size : wr.heap.size = w.heap.size + 1 + k + 1
  top : wr.rowIs w.heap.size 47 g.length (fun j => if j < k + 1 then .slice (some ⟨w.heap.size + 1 + j, 0, none⟩) (rowAt g j).length (rowAt g j).length else .slice none 0 0)
  rows : ∀ j, j < k → IntRow wr (w.heap.size + 1 + j) (rowAt g j)
  cur : wr.rowIs (w.heap.size + 1 + k) 3 (rowAt g k).length (fun i => .int .i64 (if i < r then nth (rowAt g k) i else 0))

theorem LayIn.drewN {w wr : World} {g : List (List Int)} {k r : Nat} (h : LayIn w wr g k r) (n : Nat) : LayIn w (wr.drewN n) g k r := ⟨below_drewN h.bel n, h.size, h.top, h.rows, h.cur⟩

theorem LayIn.drew {w wr : World} {g : List (List Int)} {k r : Nat} (h : LayIn w wr g k r) : LayIn w wr.drew g k r := ⟨h.bel.drew, h.size, h.top, h.rows, h.cur⟩

theorem LayIn.step {w wr : World} {g : List (List Int)} {k r : Nat} (h : LayIn w wr g k r) : LayIn w (wr.setCell ⟨w.heap.size + 1 + k, r, none⟩ (.int .i64 (nth (rowAt g k) r))) g k (r + 1) := by
  refine ⟨h.bel.setCell (by show w.heap.size ≤ w.heap.size + 1 + k; omega) _, by simp [World.setCell, h.size], h.top.setOther (by show w.heap.size ≠ w.heap.size + 1 + k; omega) _,
    fun j hj => (h.rows j hj).setOther (by show w.heap.size + 1 + j ≠ w.heap.size + 1 + k; omega) _, (h.cur.set r _).congr (fun i _ => ?_)⟩
  by_cases e : i = r
  · subst e; simp
  · rw [if_neg e]
    by_cases hlt : i < r
    · rw [if_pos hlt, if_pos (by omega)]
    · rw [if_neg hlt, if_neg (by omega)]

theorem LayIn.cell {w wr : World} {g : List (List Int)} {k r : Nat} (h : LayIn w wr g k r) (hk : k < g.length) : wr.cell? ⟨w.heap.size, k, none⟩ = some (.slice (some ⟨w.heap.size + 1 + k, 0, none⟩) (rowAt g k).length (rowAt g k).length) := by
  have := h.top.cell (i := k) hk; rwa [if_pos (by omega)] at this

theorem Laid.rows2 {w w' : World} {g : List (List Int)} (h : Laid w w' g) {S : Nat → Prop} (hS : ∀ b, w.heap.size ≤ b → b < w'.heap.size → S b) (hm : ∀ i, i < g.length → (rowAt g i).length ≤ maxLen) : Rows2 w' S (some ⟨w.heap.size, 0, none⟩) g := by
  have hz := Laying.size h
  intro h0
  refine ⟨_, 0, rfl, hS _ (Nat.le_refl _) (by omega), fun i hi => ⟨_, _, by rw [Nat.zero_add]; exact Laying.cell h hi (Nat.le_refl _), Nat.le_refl _, hm i hi, (Laying.rows h i hi).ints (hS _ (by omega) (by omega))⟩⟩

/-- what a call leaves that hands back new rows -/
def NewRows (w : World) (g : List (List Int)) (e : Ending) (w' : World) : Prop :=
  e = .returned (.slice (some ⟨w.heap.size, 0, none⟩) g.length g.length) ∧ Laid w w' g

end Go.Proofs.YtlmaeadbomnhlabDoor

namespace Go.Proofs.YtlmaeadbomnhlabDoor
set_option linter.unusedSimpArgs false
set_option linter.unusedVariables false
open Go.RowKit

/-- what a call leaves that hands back v and only adds blocks -/
def Adds (v : Value) (w : World) (e : Ending) (w' : World) : Prop := e = .returned v ∧ Below w.heap.size w w'

theorem Adds.of {v x : Value} {w w' : World} (h : x = v) (hb : Below w.heap.size w w') : Adds v w (.returned x) w' := ⟨by rw [h], hb⟩

end Go.Proofs.YtlmaeadbomnhlabDoor

namespace Go.Proofs.YtlmaeadbomnhlabDoor
set_option linter.unusedSimpArgs false
set_option linter.unusedVariables false
open Go.RowKit



end Go.Proofs.YtlmaeadbomnhlabDoor

namespace Go.Proofs.YtlmaeadbomnhlabDoor
set_option linter.unusedSimpArgs false
set_option linter.unusedVariables false
open Go.RowKit

/-- the slice at A is the call's own, in a block of lo .. hi - 1, and reads as l -/
def OwnI (w : World) (lo hi : Nat) (A : Option Addr) (l : List Int) : Prop :=
  0 < l.length → ∃ (b N : Nat) (f : Nat → Value), A = some ⟨b, 0, none⟩ ∧ lo ≤ b ∧ b < hi ∧ w.rowIs b 3 N f ∧ l.length ≤ N ∧ ∀ i, i < l.length → f i = .int .i64 (nth l i)

theorem OwnI.ints {w : World} {lo hi : Nat} {A : Option Addr} {l : List Int} (h : OwnI w lo hi A l) : Ints w (fun b => lo ≤ b ∧ b < hi) A l := by
  intro h0
  obtain ⟨b, N, f, e, h1, h2, h3, h4, h5⟩ := h h0
  exact ⟨b, 0, e, ⟨h1, h2⟩, fun i hi => by rw [Nat.zero_add, h3.cell (by omega), h5 i hi]⟩

theorem OwnI.keep {w w' : World} {lo hi : Nat} {A : Option Addr} {l : List Int} (h : OwnI w lo hi A l) (hk : ∀ b, lo ≤ b → b < hi → w'.heap[b]? = w.heap[b]?) : OwnI w' lo hi A l := by
  intro h0
  obtain ⟨b, N, f, e, h1, h2, h3, h4, h5⟩ := h h0
  exact ⟨b, N, f, e, h1, h2, h3.of_block (hk b h1 h2), h4, h5⟩

theorem OwnI.more {w : World} {lo hi lo' hi' : Nat} {A : Option Addr} {l : List Int} (h : OwnI w lo hi A l) (h1 : lo' ≤ lo) (h2 : hi ≤ hi') : OwnI w lo' hi' A l := by
  intro h0
  obtain ⟨b, N, f, e, k1, k2, h3, h4, h5⟩ := h h0
  exact ⟨b, N, f, e, by omega, by omega, h3, h4, h5⟩

/-- the numbers of a list as values -/
def vals (l : List Int) : List Value := l.map (Value.int .i64)

theorem vals_length (l : List Int) : (vals l).length = l.length := by simp [vals]

theorem vals_snoc (l : List Int) (x : Int) : vals (l ++ [x]) = vals l ++ [.int .i64 x] := by simp [vals]

theorem vals_get (l : List Int) (i : Nat) (h : i < l.length) : (vals l)[i]? = some (.int .i64 (nth l i)) := by rw [nth_eq l i h]; simp [vals, h]

/-- what append has made so far -/
def Grows (w : World) (base : Nat) (v : Value) (l : List Int) : Prop := w.ownsRow base 3 1 v l.length (vals l)

theorem Grows.own {w : World} {base : Nat} {v : Value} {l : List Int} (h : Grows w base v l) : ∃ (A : Option Addr) (c : Nat), v = .slice A l.length c ∧ l.length ≤ c ∧ OwnI w base w.heap.size A l := by
  obtain ⟨h1, ⟨rfl, h2⟩ | ⟨b, cap, cur, rfl, h3, h4, h5, h6, h7, h8⟩⟩ := h
  · exact ⟨none, 0, by rw [h2], by omega, fun h0 => by omega⟩
  · refine ⟨_, cap, rfl, h5, fun _ => ⟨b, cur.size, fun i => cur.getD i undef, rfl, h3, ?_, ⟨cur, h4, rfl, fun i hi => by simp [hi]⟩, by omega, fun i hi => ?_⟩⟩
    · obtain ⟨hlt, _⟩ := Array.getElem?_eq_some_iff.1 h4; exact hlt
    · have e := vals_get l i hi
      rw [← h8, List.getElem?_take, if_pos (by omega)] at e
      have : cur[i]? = some (.int .i64 (nth l i)) := by simpa using e
      simp [Array.getD_eq_getD_getElem?, this]

theorem Grows.nil (w : World) (base : Nat) : Grows w base (.slice none 0 0) [] := World.ownsRow_nil w base _ _

theorem Grows.lit (w : World) {base : Nat} (hb : base ≤ w.heap.size) : Grows (w.alloc (.cells #[] 3)) base (.slice (some ⟨w.heap.size, 0, none⟩) 0 0) [] :=
  World.ownsRow_lit w #[] 0 hb (Nat.zero_le _) rfl

theorem Grows.alloc {w : World} {base : Nat} {v : Value} {l : List Int} (h : Grows w base v l) (o : Obj) : Grows (w.alloc o) base v l := World.ownsRow.alloc h o

theorem Grows.drewN {w : World} {base : Nat} {v : Value} {l : List Int} (h : Grows w base v l) (n : Nat) : Grows (w.drewN n) base v l := h

theorem Grows.keep {w w' : World} {base : Nat} {v : Value} {l : List Int} (h : Grows w base v l) (hb : Below w.heap.size w w') : Grows w' base v l :=
  World.ownsRow.kept (row := none) h ⟨hb.os, hb.tape, hb.output, hb.size, fun k hk _ => hb.block k hk⟩ (by
    cases v.ownBlock <;> simp)

/-- behind an append of one number -/
theorem Grows.snoc {w1 : World} {base : Nat} {v' : Value} {l : List Int} {x : Int} (h : w1.ownsRow base 3 1 v' (l.length + 1) (vals l ++ [.int .i64 x])) : Grows w1 base v' (l ++ [x]) := by
  unfold Grows; rw [vals_snoc, List.length_append]; exact h

theorem Grows.below {w w1 W : World} {B base : Nat} {v : Value} {l : List Int} {o : Obj} (h : Grows w base v l) (hg : (w.alloc o).grownBy w1 v.ownBlock) (hb : Below B W w) (hB : B ≤ base) (hw : B ≤ w.heap.size) : Below B W w1 :=
  (hb.alloc hw o).grown hg (by simp; omega) (fun k hk => by have := (World.ownsRow.lt h) k hk; omega)

/-- what a call leaves that hands back a list of its own -/
def NewList (w : World) (l : List Int) (e : Ending) (w' : World) : Prop :=
  ∃ (A : Option Addr) (c : Nat), e = .returned (.slice A l.length c) ∧ Below w.heap.size w w' ∧ OwnI w' w.heap.size w'.heap.size A l

theorem NewList.of {w w' : World} {v x : Value} {l : List Int} (hx : x = v) (h : Grows w' w.heap.size v l) (hb : Below w.heap.size w w') : NewList w l (.returned x) w' := by
  obtain ⟨A, c, rfl, _, ho⟩ := h.own
  exact ⟨A, c, by rw [hx], hb, ho⟩

end Go.Proofs.YtlmaeadbomnhlabDoor

namespace Go.Proofs.YtlmaeadbomnhlabDoor
set_option linter.unusedSimpArgs false
set_option linter.unusedVariables false
open Go.RowKit

/-- what rows hold their numbers where: each a list of the call's own, no two in one block -/
structure RowsOwn (w : World) (lo hi : Nat) (A : Nat → Option Addr) (C : Nat → Nat) (g : List (List Int)) : Prop where
  cap : ∀ i, i < g.length → (rowAt g i).length ≤ C i ∧ C i ≤ maxLen
  own : ∀ i, i < g.length → OwnI w lo hi (A i) (rowAt g i)
  apart : ∀ i j, i < g.length → j < g.length → i ≠ j → 0 < (rowAt g i).length → 0 < (rowAt g j).length → A i ≠ A j

/-- a table of the call's own -/
def OwnR (w : World) (lo hi : Nat) (T : Option Addr) (g : List (List Int)) : Prop :=
  0 < g.length → ∃ (b N : Nat) (f : Nat → Value) (A : Nat → Option Addr) (C : Nat → Nat), T = some ⟨b, 0, none⟩ ∧ lo ≤ b ∧ b < hi ∧ g.length ≤ N ∧ w.rowIs b 47 N f ∧
    (∀ i, i < g.length → f i = .slice (A i) (rowAt g i).length (C i)) ∧ RowsOwn w lo hi A C g

theorem RowsOwn.keep {w w' : World} {lo hi : Nat} {A : Nat → Option Addr} {C : Nat → Nat} {g : List (List Int)} (h : RowsOwn w lo hi A C g) (hk : ∀ b, lo ≤ b → b < hi → w'.heap[b]? = w.heap[b]?) : RowsOwn w' lo hi A C g :=
  ⟨h.cap, fun i hi => (h.own i hi).keep hk, h.apart⟩

theorem OwnR.keep {w w' : World} {lo hi : Nat} {T : Option Addr} {g : List (List Int)} (h : OwnR w lo hi T g) (hk : ∀ b, lo ≤ b → b < hi → w'.heap[b]? = w.heap[b]?) : OwnR w' lo hi T g := by
  intro h0
  obtain ⟨b, N, f, A, C, e, h1, h2, h3, h4, h5, h6⟩ := h h0
  exact ⟨b, N, f, A, C, e, h1, h2, h3, h4.of_block (hk b h1 h2), h5, h6.keep hk⟩

theorem OwnR.rows2 {w : World} {lo hi : Nat} {T : Option Addr} {g : List (List Int)} (h : OwnR w lo hi T g) : Rows2 w (fun b => lo ≤ b ∧ b < hi) T g := by
  intro h0
  obtain ⟨b, N, f, A, C, e, h1, h2, h3, h4, h5, h6⟩ := h h0
  refine ⟨b, 0, e, ⟨h1, h2⟩, fun i hi => ⟨A i, C i, ?_, (h6.cap i hi).1, (h6.cap i hi).2, (h6.own i hi).ints⟩⟩
  rw [Nat.zero_add, h4.cell (by omega), h5 i hi]

theorem OwnR.more {w : World} {lo hi lo' hi' : Nat} {T : Option Addr} {g : List (List Int)} (h : OwnR w lo hi T g) (h1 : lo' ≤ lo) (h2 : hi ≤ hi') : OwnR w lo' hi' T g := by
  intro h0
  obtain ⟨b, N, f, A, C, e, k1, k2, h3, h4, h5, h6⟩ := h h0
  exact ⟨b, N, f, A, C, e, by omega, by omega, h3, h4, h5, ⟨h6.cap, fun i hi => (h6.own i hi).more h1 h2, h6.apart⟩⟩

theorem Laid.own {w w' : World} {g : List (List Int)} (h : Laid w w' g) (hm : ∀ i, i < g.length → (rowAt g i).length ≤ maxLen) : OwnR w' w.heap.size w'.heap.size (some ⟨w.heap.size, 0, none⟩) g := by
  have hz := Laying.size h
  intro h0
  refine ⟨w.heap.size, g.length, _, fun i => some ⟨w.heap.size + 1 + i, 0, none⟩, fun i => (rowAt g i).length, rfl, Nat.le_refl _, by omega, Nat.le_refl _, Laying.top h, fun i hi => by rw [if_pos hi], ⟨fun i hi => ⟨Nat.le_refl _, hm i hi⟩, fun i hi _ => ?_, fun i j hi hj hne _ _ e => ?_⟩⟩
  · exact ⟨w.heap.size + 1 + i, _, _, rfl, by omega, by omega, Laying.rows h i hi, Nat.le_refl _, fun j _ => rfl⟩
  · injection e with e; injection e with e; omega

/-- nothing has turned but, perhaps, the block at A -/
structure Touch (n : Nat) (A : Option Addr) (w w' : World) : Prop where
  os : w'.os = w.os
  tape : w'.tape = w.tape
  output : w'.output = w.output
  size : w'.heap.size = w.heap.size
  block : ∀ b, (0 < n → A ≠ some ⟨b, 0, none⟩) → w'.heap[b]? = w.heap[b]?

/-- nothing has turned but, perhaps, the blocks of lo .. hi - 1 -/
structure Off (lo hi : Nat) (w w' : World) : Prop where
  os : w'.os = w.os
  tape : w'.tape = w.tape
  output : w'.output = w.output
  size : w'.heap.size = w.heap.size
  block : ∀ b, ¬ (lo ≤ b ∧ b < hi) → w'.heap[b]? = w.heap[b]?

theorem Off.refl (lo hi : Nat) (w : World) : Off lo hi w w := ⟨rfl, rfl, rfl, rfl, fun _ _ => rfl⟩

theorem Off.trans {lo hi : Nat} {a b c : World} (h : Off lo hi a b) (k : Off lo hi b c) : Off lo hi a c :=
  ⟨k.os.trans h.os, k.tape.trans h.tape, k.output.trans h.output, k.size.trans h.size, fun i hi => (k.block i hi).trans (h.block i hi)⟩

theorem Off.below {lo hi B : Nat} {w w' : World} (h : Off lo hi w w') (hB : B ≤ lo) : Below B w w' := ⟨h.os, h.tape, h.output, Nat.le_of_eq h.size.symm, fun k hk => h.block k (by omega)⟩

theorem Touch.off {lo hi : Nat} {w w' : World} {A : Option Addr} {l : List Int} (h : Touch l.length A w w') (ho : OwnI w lo hi A l) : Off lo hi w w' :=
  ⟨h.os, h.tape, h.output, h.size, fun b hb => h.block b fun h0 e => by
    obtain ⟨b', N, f, e', h1, h2, _⟩ := ho h0
    rw [e'] at e; injection e with e; injection e with e; subst e; exact hb ⟨h1, h2⟩⟩

theorem rowIs_ne' {w : World} {b b' N N' : Nat} {f f' : Nat → Value} (h : w.rowIs b 3 N f) (h' : w.rowIs b' 47 N' f') : b ≠ b' := by
  rintro rfl
  obtain ⟨c, h1, _, _⟩ := h
  obtain ⟨c', h2, _, _⟩ := h'
  rw [h1] at h2
  injection h2 with h2
  injection h2 with _ e
  exact absurd e (by decide)

end Go.Proofs.YtlmaeadbomnhlabDoor

namespace Go.Proofs.YtlmaeadbomnhlabDoor
set_option linter.unusedSimpArgs false
set_option linter.unusedVariables false
open Go.RowKit

/-- while the columns are given the other sign: those before j are, and of column j the first i numbers -/
structure Turning (w wr : World) (g : List (List Int)) (j i : Nat) : Prop where
  bel : Below w.heap.size w wr
  size : wr.heap.size = w.heap.size + 1 + (rowAt g 0).length
  top : wr.rowIs w.heap.size 47 (rowAt g 0).length (fun r => .slice (some ⟨w.heap.size + 1 + r, 0, none⟩) g.length g.length)
  rows : ∀ r, r < (rowAt g 0).length → wr.rowIs (w.heap.size + 1 + r) 3 g.length (fun x => .int .i64 (if r < j ∨ (r = j ∧ x < i) then -nth (rowAt g x) r else nth (rowAt g x) r))

theorem Turning.step {w wr : World} {g : List (List Int)} {j i : Nat} (h : Turning w wr g j i) (hj : j < (rowAt g 0).length) : Turning w (wr.setCell ⟨w.heap.size + 1 + j, i, none⟩ (.int .i64 (-nth (rowAt g i) j))) g j (i + 1) := by
  refine ⟨h.bel.setCell (by show w.heap.size ≤ w.heap.size + 1 + j; omega) _, by simp [World.setCell, h.size], h.top.setOther (by show w.heap.size ≠ w.heap.size + 1 + j; omega) _, fun r hr => ?_⟩
  by_cases e : r = j
  · subst e
    refine ((h.rows r hr).set i _).congr (fun x _ => ?_)
    by_cases e : x = i
    · subst e; rw [if_pos rfl, if_pos (.inr ⟨rfl, Nat.lt_succ_self _⟩)]
    · rw [if_neg e]
      by_cases hx : x < i
      · rw [if_pos (.inr ⟨rfl, hx⟩), if_pos (.inr ⟨rfl, by omega⟩)]
      · rw [if_neg (by omega), if_neg (by omega)]
  · refine ((h.rows r hr).setOther (by show w.heap.size + 1 + r ≠ w.heap.size + 1 + j; omega) _).congr (fun x _ => ?_)
    by_cases hx : r < j
    · rw [if_pos (.inl hx), if_pos (.inl hx)]
    · rw [if_neg (by omega), if_neg (by omega)]

theorem Turning.done {w wr : World} {g : List (List Int)} (h : Turning w wr g (rowAt g 0).length 0) : Laid w wr (turnedL g) := by
  have hl := turnedL_length g
  refine ⟨h.bel, by rw [h.size, hl], ?_, fun r hr => ?_⟩
  · rw [hl]
    exact h.top.congr (fun r hr => by rw [if_pos hr, turnedL_row_length g r hr])
  · rw [hl] at hr
    unfold IntRow
    rw [turnedL_row_length g r hr]
    exact (h.rows r hr).congr (fun x hx => by rw [if_pos (.inl hr), nth_turnedL g r x hr hx])

/-- what a call leaves that hands back a table of its own -/
def NewTable (w : World) (g : List (List Int)) (e : Ending) (w' : World) : Prop :=
  ∃ (T : Option Addr) (c : Nat), e = .returned (.slice T g.length c) ∧ Below w.heap.size w w' ∧ OwnR w' w.heap.size w'.heap.size T g

end Go.Proofs.YtlmaeadbomnhlabDoor

namespace Go.Proofs.YtlmaeadbomnhlabDoor
set_option linter.unusedSimpArgs false
set_option linter.unusedVariables false
open Go.RowKit

/-- the rows of a table as values -/
def rowVals (A : Nat → Option Addr) (C : Nat → Nat) (g : List (List Int)) : List Value := (List.range g.length).map fun i => .slice (A i) (rowAt g i).length (C i)

theorem rowVals_get (A : Nat → Option Addr) (C : Nat → Nat) (g : List (List Int)) (i : Nat) (h : i < g.length) : (rowVals A C g)[i]? = some (.slice (A i) (rowAt g i).length (C i)) := by simp [rowVals, h]

/-- what append has made so far: a table whose rows lie below block hi -/
structure GrowsR (w : World) (base hi : Nat) (v : Value) (A : Nat → Option Addr) (C : Nat → Nat) (g : List (List Int)) : Prop where
  top : w.ownsRow base 47 1 v g.length (rowVals A C g)
  rows : RowsOwn w base hi A C g
  hib : ∀ k, v.ownBlock = some k → k < hi
  hile : hi ≤ w.heap.size

theorem GrowsR.nil (w : World) {base hi : Nat} (h : hi ≤ w.heap.size) (A : Nat → Option Addr) (C : Nat → Nat) : GrowsR w base hi (.slice none 0 0) A C [] :=
  ⟨World.ownsRow_nil w base _ _, ⟨fun i hi => by simp at hi, fun i hi => by simp at hi, fun i j hi => by simp at hi⟩, (fun k hk => by cases hk), h⟩

theorem GrowsR.lit (w : World) {base : Nat} (hb : base ≤ w.heap.size) (A : Nat → Option Addr) (C : Nat → Nat) : GrowsR (w.alloc (.cells #[] 47)) base (w.heap.size + 1) (.slice (some ⟨w.heap.size, 0, none⟩) 0 0) A C [] :=
  ⟨World.ownsRow_lit w #[] 0 hb (Nat.zero_le _) rfl, ⟨fun i hi => by simp at hi, fun i hi => by simp at hi, fun i j hi => by simp at hi⟩, fun k hk => by simp [Value.ownBlock] at hk; omega, by simp⟩

theorem ownsRow_of_block {w w' : World} {base : Nat} {t : TypeId} {s n : Nat} {v : Value} {xs : List Value} (h : w.ownsRow base t s v n xs) (hk : ∀ k, v.ownBlock = some k → w'.heap[k]? = w.heap[k]?) : w'.ownsRow base t s v n xs := by
  obtain ⟨h1, ⟨rfl, h2⟩ | ⟨b, cap, cur, rfl, h3, h4, h5, h6, h7, h8⟩⟩ := h
  · exact ⟨h1, .inl ⟨rfl, h2⟩⟩
  · exact ⟨h1, .inr ⟨b, cap, cur, rfl, h3, (hk b rfl).trans h4, h5, h6, h7, h8⟩⟩

theorem GrowsR.keep {w w' : World} {base hi : Nat} {v : Value} {A : Nat → Option Addr} {C : Nat → Nat} {g : List (List Int)} (h : GrowsR w base hi v A C g) (hb : Below hi w w') : GrowsR w' base hi v A C g :=
  ⟨ownsRow_of_block h.top fun k hk => hb.block k (h.hib k hk), h.rows.keep fun b _ h2 => hb.block b h2, h.hib, Nat.le_trans h.hile hb.size⟩

theorem GrowsR.drewN {w : World} {base hi : Nat} {v : Value} {A : Nat → Option Addr} {C : Nat → Nat} {g : List (List Int)} (h : GrowsR w base hi v A C g) (n : Nat) : GrowsR (w.drewN n) base hi v A C g := h.keep (below_drewN (Below.refl _ _) n)

theorem GrowsR.up {w : World} {base hi hi' : Nat} {v : Value} {A : Nat → Option Addr} {C : Nat → Nat} {g : List (List Int)} (h : GrowsR w base hi v A C g) (h1 : hi ≤ hi') (h2 : hi' ≤ w.heap.size) : GrowsR w base hi' v A C g :=
  ⟨h.top, ⟨h.rows.cap, fun i hi => (h.rows.own i hi).more (Nat.le_refl _) h1, h.rows.apart⟩, fun k hk => Nat.lt_of_lt_of_le (h.hib k hk) h1, h2⟩

/-- the outer row as one block -/
theorem GrowsR.top_row {w : World} {base hi : Nat} {v : Value} {A : Nat → Option Addr} {C : Nat → Nat} {g : List (List Int)} (h : GrowsR w base hi v A C g) :
    (v = .slice none 0 0 ∧ g = []) ∨ ∃ (b cap : Nat) (f : Nat → Value), v = .slice (some ⟨b, 0, none⟩) g.length cap ∧ base ≤ b ∧ g.length ≤ cap ∧ cap ≤ maxLen ∧ w.rowIs b 47 cap f ∧ ∀ i, i < g.length → f i = .slice (A i) (rowAt g i).length (C i) := by
  obtain ⟨h1, ⟨rfl, h2⟩ | ⟨b, cap, cur, rfl, h3, h4, h5, h6, h7, h8⟩⟩ := h.top
  · exact .inl ⟨rfl, List.eq_nil_of_length_eq_zero h2⟩
  · have hcs : cur.size = cap := by rw [h7, Nat.mul_one]
    refine .inr ⟨b, cap, fun i => cur.getD i undef, rfl, h3, h5, h6, ⟨cur, h4, hcs, fun i hi => by rw [← hcs] at hi; simp [hi]⟩, fun i hi => ?_⟩
    have e := rowVals_get A C g i hi
    rw [← h8, List.getElem?_take, if_pos (by omega)] at e
    have : cur[i]? = some (.slice (A i) (rowAt g i).length (C i)) := by simpa using e
    simp [Array.getD_eq_getD_getElem?, this]

theorem GrowsR.table {w : World} {base hi : Nat} {v : Value} {A : Nat → Option Addr} {C : Nat → Nat} {g : List (List Int)} (h : GrowsR w base hi v A C g) :
    ∃ (T : Option Addr) (c : Nat), v = .slice T g.length c ∧ g.length ≤ c ∧ c ≤ maxLen ∧ OwnR w base hi T g := by
  rcases h.top_row with ⟨rfl, rfl⟩ | ⟨b, cap, f, rfl, h1, h2, h3, h4, h5⟩
  · exact ⟨none, 0, rfl, Nat.le_refl _, Nat.zero_le _, fun h0 => absurd h0 (by simp)⟩
  · exact ⟨_, cap, rfl, h2, h3, fun _ => ⟨b, cap, f, A, C, rfl, h1, h.hib b rfl, h2, h4, h5, h.rows⟩⟩

/-- behind an append of one row -/
theorem GrowsR.snoc {w w2 : World} {base S : Nat} {v v' : Value} {A : Nat → Option Addr} {C : Nat → Nat} {g : List (List Int)} {l : List Int} {An : Option Addr} {cn : Nat} {o : Obj}
    (h : GrowsR w base S v A C g) (hl : OwnI w S w.heap.size An l) (hc1 : l.length ≤ cn) (hc2 : cn ≤ maxLen) (hbS : base ≤ S)
    (hown : w2.ownsRow base 47 1 v' (g.length + 1) (rowVals A C g ++ [.slice An l.length cn])) (hg : (w.alloc o).grownBy w2 v.ownBlock) (hat : v'.ownBlock = v.ownBlock ∨ v'.ownBlock = some (w.heap.size + 1)) :
    ∃ (A' : Nat → Option Addr) (C' : Nat → Nat), GrowsR w2 base w2.heap.size v' A' C' (g ++ [l]) := by
  have hsz := hg.size
  simp at hsz
  have hS := h.hile
  -- the blocks of numbers stay
  have stays : ∀ (lo hi : Nat) (A0 : Option Addr) (l0 : List Int), hi ≤ w.heap.size → OwnI w lo hi A0 l0 → OwnI w2 lo hi A0 l0 := by
    intro lo hi A0 l0 hhi ho h0
    obtain ⟨b, N, f, e, k1, k2, k3, k4, k5⟩ := ho h0
    refine ⟨b, N, f, e, k1, k2, k3.of_block ?_, k4, k5⟩
    have hne : some b ≠ v.ownBlock := by
      intro e'
      rcases h.top_row with ⟨rfl, _⟩ | ⟨b', cap, f', rfl, _, _, _, h4, _⟩
      · cases e'
      · simp [Value.ownBlock] at e'
        exact rowIs_ne' k3 h4 e'
    rw [hg.block b (by simp; omega) hne, Below.heap_alloc _ _ _ (by omega)]
  have hget : ∀ i, i < g.length → rowAt (g ++ [l]) i = rowAt g i := fun i hi => rowAt_snoc_lt g l i hi
  have hget' : rowAt (g ++ [l]) g.length = l := rowAt_snoc_eq g l
  refine ⟨fun i => if i < g.length then A i else An, fun i => if i < g.length then C i else cn, ?_, ⟨fun i hi => ?_, fun i hi => ?_, fun i j hi hj hne p q => ?_⟩, fun k hk => ?_, Nat.le_refl _⟩
  · have e : rowVals (fun i => if i < g.length then A i else An) (fun i => if i < g.length then C i else cn) (g ++ [l]) = rowVals A C g ++ [.slice An l.length cn] := by
      unfold rowVals
      rw [List.length_append, List.length_singleton, List.range_succ, List.map_append]
      congr 1
      · refine List.map_congr_left fun i hi => ?_
        have hi := List.mem_range.1 hi
        simp only [if_pos hi, hget i hi]
      · simp [hget']
    rw [e, List.length_append]; exact hown
  · rw [List.length_append, List.length_singleton] at hi
    by_cases e : i < g.length
    · simp only [if_pos e]; rw [hget i e]; exact h.rows.cap i e
    · obtain rfl : i = g.length := by omega
      simp only [if_neg e]; rw [hget']; exact ⟨hc1, hc2⟩
  · rw [List.length_append, List.length_singleton] at hi
    by_cases e : i < g.length
    · simp only [if_pos e]; rw [hget i e]; exact (stays _ _ _ _ hS (h.rows.own i e)).more (Nat.le_refl _) (by omega)
    · obtain rfl : i = g.length := by omega
      simp only [if_neg e]; rw [hget']; exact (stays _ _ _ _ (Nat.le_refl _) hl).more hbS (by omega)
  · rw [List.length_append, List.length_singleton] at hi hj
    by_cases ei : i < g.length
    · by_cases ej : j < g.length
      · simp only [if_pos ei, if_pos ej]
        rw [hget i ei] at p
        rw [hget j ej] at q
        exact h.rows.apart i j ei ej hne p q
      · obtain rfl : j = g.length := by omega
        simp only [if_pos ei, if_neg ej]
        rw [hget i ei] at p
        rw [hget'] at q
        obtain ⟨b1, _, _, e1, _, k1, _⟩ := h.rows.own i ei p
        obtain ⟨b2, _, _, e2, k2, _, _⟩ := hl q
        rw [e1, e2]; intro e; injection e with e; injection e with e; omega
    · obtain rfl : i = g.length := by omega
      have ej : j < g.length := by omega
      simp only [if_neg ei, if_pos ej]
      rw [hget j ej] at q
      rw [hget'] at p
      obtain ⟨b1, _, _, e1, _, k1, _⟩ := h.rows.own j ej q
      obtain ⟨b2, _, _, e2, k2, _, _⟩ := hl p
      rw [e1, e2]; intro e; injection e with e; injection e with e; omega
  · rcases hat with e | e
    · rw [e] at hk; have := h.hib k hk; omega
    · rw [e] at hk; injection hk with hk
      have := (World.ownsRow.lt hown) k (by rw [e, hk])
      exact this.2

/-- what append leaves alone -/
theorem GrowsR.below {w w1 W : World} {B base hi : Nat} {v : Value} {A : Nat → Option Addr} {C : Nat → Nat} {g : List (List Int)} {o : Obj} (h : GrowsR w base hi v A C g) (hg : (w.alloc o).grownBy w1 v.ownBlock) (hb : Below B W w) (hB : B ≤ base) (hw : B ≤ w.heap.size) : Below B W w1 :=
  (hb.alloc hw o).grown hg (by simp; omega) (fun k hk => by have := (World.ownsRow.lt h.top) k hk; omega)

theorem GrowsR.alloc {w : World} {base hi : Nat} {v : Value} {A : Nat → Option Addr} {C : Nat → Nat} {g : List (List Int)} (h : GrowsR w base hi v A C g) (o : Obj) : (w.alloc o).ownsRow base 47 1 v g.length (rowVals A C g) := World.ownsRow.alloc h.top o

end Go.Proofs.YtlmaeadbomnhlabDoor

namespace Go.Proofs.YtlmaeadbomnhlabDoor
set_option linter.unusedSimpArgs false
set_option linter.unusedVariables false
open Go.RowKit



end Go.Proofs.YtlmaeadbomnhlabDoor

namespace Go.Proofs.YtlmaeadbomnhlabDoor
set_option linter.unusedSimpArgs false
set_option linter.unusedVariables false
open Go.RowKit

theorem NewTable.of {w w' : World} {v x : Value} {A : Nat → Option Addr} {C : Nat → Nat} {g : List (List Int)} (hx : x = v) {hi : Nat} (h : GrowsR w' w.heap.size hi v A C g) (hb : Below w.heap.size w w') : NewTable w g (.returned x) w' := by
  obtain ⟨T, c, rfl, _, _, ho⟩ := h.table
  exact ⟨T, c, by rw [hx], hb, ho.more (Nat.le_refl _) h.hile⟩

end Go.Proofs.YtlmaeadbomnhlabDoor

namespace Go.Proofs.YtlmaeadbomnhlabDoor
set_option linter.unusedSimpArgs false
set_option linter.unusedVariables false
open Go.RowKit



end Go.Proofs.YtlmaeadbomnhlabDoor

namespace Go.Proofs.YtlmaeadbomnhlabDoor
set_option linter.unusedSimpArgs false
set_option linter.unusedVariables false
open Go.RowKit



end Go.Proofs.YtlmaeadbomnhlabDoor

namespace Go.Proofs.YtlmaeadbomnhlabDoor
set_option linter.unusedSimpArgs false
set_option linter.unusedVariables false
open Go.RowKit

/-- while a table is numbered through: its first m rows are -/
structure Marking (w wr : World) (lo hi b N : Nat) (f : Nat → Value) (A : Nat → Option Addr) (g : List (List Int)) (k : Int) (m : Nat) : Prop where
  off : Off lo hi w wr
  top : wr.rowIs b 47 N f
  rows : ∀ r, r < g.length → OwnI wr lo hi (A r) (if r < m then seqN (k + (sumN g r : Int)) (rowAt g r).length else rowAt g r)

theorem rowIs_ne {w : World} {b b' N N' : Nat} {f f' : Nat → Value} {t t' : TypeId} (h : w.rowIs b t N f) (h' : w.rowIs b' t' N' f') (hne : t ≠ t') : b ≠ b' := by
  rintro rfl
  obtain ⟨c, h1, _, _⟩ := h
  obtain ⟨c', h2, _, _⟩ := h'
  rw [h1] at h2
  injection h2 with h2
  injection h2 with _ e
  exact hne e

theorem Marking.step {w wr w2 : World} {lo hi b N : Nat} {f : Nat → Value} {A : Nat → Option Addr} {C : Nat → Nat} {g : List (List Int)} {k : Int} {m : Nat} (h : Marking w wr lo hi b N f A g k m) (hm : m < g.length)
    (hR : RowsOwn w lo hi A C g) (ht : Touch (rowAt g m).length (A m) wr w2) (ho : OwnI w2 lo hi (A m) (seqN (k + (sumN g m : Int)) (rowAt g m).length)) : Marking w w2 lo hi b N f A g k (m + 1) := by
  have own_m := h.rows m hm
  rw [if_neg (Nat.lt_irrefl m)] at own_m
  refine ⟨h.off.trans (ht.off own_m), h.top.of_block (ht.block _ fun h0 e => ?_), fun r hr => ?_⟩
  · obtain ⟨b', N', f', e', _, _, hr', _⟩ := own_m h0
    rw [e'] at e; injection e with e; injection e with e
    exact rowIs_ne h.top hr' (by decide) e.symm
  · by_cases e : r = m
    · subst e; rw [if_pos (by omega)]; exact ho
    · have hk : OwnI w2 lo hi (A r) (if r < m then seqN (k + (sumN g r : Int)) (rowAt g r).length else rowAt g r) := by
        intro h0
        have hlen : (if r < m then seqN (k + (sumN g r : Int)) (rowAt g r).length else rowAt g r).length = (rowAt g r).length := by split <;> simp [seqN_length]
        obtain ⟨b', N', f', e', h1, h2, h3, h4, h5⟩ := h.rows r hr h0
        refine ⟨b', N', f', e', h1, h2, h3.of_block (ht.block _ fun h0' e'' => ?_), h4, h5⟩
        rw [hlen] at h0
        exact hR.apart r m hr hm e h0 h0' (by rw [e', e''])
      by_cases hlt : r < m
      · rw [if_pos hlt] at hk; rw [if_pos (by omega)]; exact hk
      · rw [if_neg hlt] at hk; rw [if_neg (by omega)]; exact hk

theorem Marking.done {w wr : World} {lo hi b N : Nat} {f : Nat → Value} {A : Nat → Option Addr} {C : Nat → Nat} {g : List (List Int)} {k : Int} (h : Marking w wr lo hi b N f A g k g.length) (h1 : lo ≤ b) (h2 : b < hi) (hN : g.length ≤ N)
    (hf : ∀ i, i < g.length → f i = .slice (A i) (rowAt g i).length (C i)) (hR : RowsOwn w lo hi A C g) : OwnR wr lo hi (some ⟨b, 0, none⟩) (marks g k) := by
  intro _
  have hlen : ∀ i, i < g.length → (rowAt (marks g k) i).length = (rowAt g i).length := fun i hi => by rw [rowAt_marks g k i hi, seqN_length]
  refine ⟨b, N, f, A, C, rfl, h1, h2, by rw [marks_length]; exact hN, h.top, fun i hi => ?_, ⟨fun i hi => ?_, fun i hi => ?_, fun i j hi hj hne p q => ?_⟩⟩
  · rw [marks_length] at hi; rw [hf i hi, hlen i hi]
  · rw [marks_length] at hi; rw [hlen i hi]; exact hR.cap i hi
  · rw [marks_length] at hi
    have := h.rows i hi
    rw [if_pos hi] at this
    rw [rowAt_marks g k i hi]; exact this
  · rw [marks_length] at hi hj
    rw [hlen i hi] at p
    rw [hlen j hj] at q
    exact hR.apart i j hi hj hne p q

end Go.Proofs.YtlmaeadbomnhlabDoor
