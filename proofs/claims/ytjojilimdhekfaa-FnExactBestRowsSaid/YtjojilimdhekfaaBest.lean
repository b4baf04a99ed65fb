/- The walks of the program's folds: the better number, the best of a list, the best of each line. -/
import Derived.Test.YtjojilimdhekfaaGameS
import Derived.Deep.OwnRows
import Derived.Shelf.Abstract
namespace Go.Proofs.Ytjojilimdhekfaa
set_option linter.unusedSimpArgs false
set_option linter.unusedVariables false
open Go.RowKit

theorem infoI : (Try.prog.info? 3).map (fun i => (i.zero, i.size, i.bytes)) = some (some (.int .i64 0), 1, 8) := by kernel_rfl

theorem infoR : (Try.prog.info? 24).map (fun i => (i.zero, i.size, i.bytes)) = some (some (.slice none 0 0), 1, 24) := by kernel_rfl

/-- a function that tells the better one of two numbers, and leaves the world alone -/
structure Better (f : FuncId) (bet : Int → Int → Bool) : Prop where
  enters : ∀ (args : Array Value) (w : World), (callFunc f args).run Try.prog w = .ok (.enter f args) w
  calls : ∀ (a b : Int) (w : World), Calls Try.prog f #[.int .i64 a, .int .i64 b] w (Same (.bool (bet a b)) w)

/-- a row of numbers of the call's own: block b holds l -/
def IntRow (w : World) (b : Nat) (l : List Int) : Prop := w.rowIs b 3 l.length (fun i => .int .i64 (nth l i))

theorem IntRow.ints {w : World} {b : Nat} {l : List Int} {S : Nat → Prop} (h : IntRow w b l) (hb : S b) : Ints w S (some ⟨b, 0, none⟩) l :=
  fun _ => ⟨b, 0, rfl, hb, fun i hi => by rw [Nat.zero_add]; exact h.cell hi⟩

theorem keepRows {w w' : World} {B : Nat} {A : Option Addr} {g : List (List Int)} (hb : Below B w w') (h : Rows2 w (· < B) A g) : Rows2 w' (· < B) A g := h.keep hb.block

theorem keepInts {w w' : World} {B : Nat} {A : Option Addr} {l : List Int} (hb : Below B w w') (h : Ints w (· < B) A l) : Ints w' (· < B) A l := h.keep hb.block

/-- while a row is filled: its first k numbers are those of l -/
structure Filled (w wr : World) (l : List Int) (k : Nat) : Prop where
  bel : Below w.heap.size w wr
  size : wr.heap.size = w.heap.size + 1
  row : wr.rowIs w.heap.size 3 l.length (fun i => .int .i64 (if i < k then nth l i else 0))

theorem Filled.start (w : World) (l : List Int) : Filled w (w.alloc (.cells (madeCells #[.int .i64 0] l.length) 3)) l 0 :=
  ⟨(Below.refl _ _).alloc (Nat.le_refl _) _, by simp, (World.rowIs_made w _ l.length _).congr (fun i _ => by simp)⟩

theorem Filled.step {w wr : World} {l : List Int} {k : Nat} (h : Filled w wr l k) : Filled w (wr.setCell ⟨w.heap.size, k, none⟩ (.int .i64 (nth l k))) l (k + 1) := by
  refine ⟨h.bel.setCell (Nat.le_refl _) _, by simp [World.setCell, h.size], (h.row.set k _).congr (fun i _ => ?_)⟩
  by_cases e : i = k
  · subst e; simp
  · rw [if_neg e]
    by_cases hlt : i < k
    · rw [if_pos hlt, if_pos (by omega)]
    · rw [if_neg hlt, if_neg (by omega)]

theorem Filled.drewN {w wr : World} {l : List Int} {k : Nat} (h : Filled w wr l k) (n : Nat) : Filled w (wr.drewN n) l k := ⟨below_drewN h.bel n, h.size, h.row.of_block rfl⟩

theorem Filled.done {w wr : World} {l : List Int} (h : Filled w wr l l.length) : IntRow wr w.heap.size l := h.row.congr (fun i hi => by rw [if_pos hi])

/-- what a call leaves that hands back a new row of numbers -/
def NewInts (w : World) (l : List Int) (e : Ending) (w' : World) : Prop :=
  e = .returned (.slice (some ⟨w.heap.size, 0, none⟩) l.length l.length) ∧ Below w.heap.size w w' ∧ w.heap.size < w'.heap.size ∧ IntRow w' w.heap.size l

end Go.Proofs.Ytjojilimdhekfaa
