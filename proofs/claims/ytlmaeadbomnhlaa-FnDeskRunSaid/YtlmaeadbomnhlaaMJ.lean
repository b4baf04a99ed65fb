/- Texts in one: ImplD, ImplE, ImplF, ImplG. -/
import Derived.Test.YtlmaeadbomnhlaaME
import Derived.Laws.MakeOwn
namespace Go.Proofs.Ytlmaeadbomnhlaa
set_option linter.unusedSimpArgs false
set_option linter.unusedVariables false
open Go.RowKit



end Go.Proofs.Ytlmaeadbomnhlaa

namespace Go.Proofs.Ytlmaeadbomnhlaa
set_option linter.unusedSimpArgs false
set_option linter.unusedVariables false
open Go.RowKit



end Go.Proofs.Ytlmaeadbomnhlaa

namespace Go.Proofs.Ytlmaeadbomnhlaa
set_option linter.unusedSimpArgs false
set_option linter.unusedVariables false
open Go.RowKit



end Go.Proofs.Ytlmaeadbomnhlaa

namespace Go.Proofs.Ytlmaeadbomnhlaa
set_option linter.unusedSimpArgs false
set_option linter.unusedVariables false
open Go.RowKit

/-- while the rows of a table are made and filled one by one, each in a block of its own, wherever: k rows are done -/
structure Rowed (w wr : World) (g : List (List Int)) (R : Nat → Nat) (k : Nat) : Prop where
  bel : Below w.heap.size w wr
  top : wr.rowIs w.heap.size 28 g.length (fun j => if j < k then .slice (some ⟨R j, 0, none⟩) (rowAt g j).length (rowAt g j).length else .slice none 0 0)
  lt : ∀ j, j < k → w.heap.size < R j ∧ R j < wr.heap.size
  rows : ∀ j, j < k → IntRow wr (R j) (rowAt g j)

/-- row k is open: its first r numbers are there -/
structure RowIn (w wr : World) (g : List (List Int)) (R : Nat → Nat) (k r : Nat) : Prop where
  bel : Below w.heap.size w wr
  top : wr.rowIs w.heap.size 28 g.length (fun j => if j < k + 1 then .slice (some ⟨R j, 0, none⟩) (rowAt g j).length (rowAt g j).length else .slice none 0 0)
  lt : ∀ j, j < k + 1 → w.heap.size < R j ∧ R j < wr.heap.size
  rows : ∀ j, j < k → IntRow wr (R j) (rowAt g j)
  ne : ∀ j, j < k → R j ≠ R k
  cur : wr.rowIs (R k) 3 (rowAt g k).length (fun i => .int .i64 (if i < r then nth (rowAt g k) i else 0))

theorem Rowed.start (w : World) (g : List (List Int)) (R : Nat → Nat) : Rowed w (w.alloc (.cells (madeCells #[.slice none 0 0] g.length) 28)) g R 0 :=
  ⟨(Below.refl _ _).alloc (Nat.le_refl _) _, (World.rowIs_made w _ _ _).congr (fun j _ => by simp), fun j hj => absurd hj (Nat.not_lt_zero _), fun j hj => absurd hj (Nat.not_lt_zero _)⟩

theorem Rowed.topLt {w wr : World} {g : List (List Int)} {R : Nat → Nat} {k : Nat} (h : Rowed w wr g R k) : w.heap.size < wr.heap.size := h.top.lt

theorem Rowed.open_ {w wr : World} {g : List (List Int)} {R : Nat → Nat} {k : Nat} (h : Rowed w wr g R k) (hk : k < g.length) :
    ∃ R' : Nat → Nat, R' k = wr.heap.size ∧ RowIn w ((wr.alloc (.cells (madeCells #[.int .i64 0] (rowAt g k).length) 3)).setCell ⟨w.heap.size, k, none⟩ (.slice (some ⟨wr.heap.size, 0, none⟩) (rowAt g k).length (rowAt g k).length)) g R' k 0 := by
  have hlt := h.topLt
  have hnew := World.rowIs_made wr (.int .i64 0) (rowAt g k).length 3
  refine ⟨fun j => if j = k then wr.heap.size else R j, by simp, ⟨(h.bel.alloc (by omega) _).setCell (Nat.le_refl _) _, ((h.top.alloc _).set k _).congr (fun j _ => ?_), fun j hj => ?_, fun j hj => ?_, fun j hj => ?_, ?_⟩⟩
  · by_cases e : j = k
    · subst e; simp
    · rw [if_neg e]
      by_cases hj : j < k
      · rw [if_pos hj, if_pos (by omega), if_neg e]
      · rw [if_neg hj, if_neg (by omega)]
  · by_cases e : j = k
    · simp [e, World.setCell]; omega
    · have := h.lt j (by omega); simp [e, World.setCell]; omega
  · have hj' := h.lt j hj
    simp only [if_neg (show j ≠ k by omega)]
    exact ((h.rows j hj).alloc _).setOther (by show R j ≠ w.heap.size; omega) _
  · have hj' := h.lt j hj
    simp only [if_neg (show j ≠ k by omega), if_pos]; omega
  · simp only [if_pos]
    exact (hnew.setOther (by show wr.heap.size ≠ w.heap.size; omega) _).congr (fun i _ => by simp)

theorem RowIn.still {w wr w2 : World} {g : List (List Int)} {R : Nat → Nat} {k r : Nat} (h : RowIn w wr g R k r) (hb : Below wr.heap.size wr w2) : RowIn w w2 g R k r :=
  ⟨belT h.bel hb, h.top.of_block (hb.block _ h.top.lt), fun j hj => ⟨(h.lt j hj).1, Nat.lt_of_lt_of_le (h.lt j hj).2 hb.size⟩, fun j hj => (h.rows j hj).of_block (hb.block _ (h.lt j (by omega)).2), h.ne, h.cur.of_block (hb.block _ (h.lt k (by omega)).2)⟩

theorem RowIn.step {w wr : World} {g : List (List Int)} {R : Nat → Nat} {k r : Nat} (h : RowIn w wr g R k r) : RowIn w (wr.setCell ⟨R k, r, none⟩ (.int .i64 (nth (rowAt g k) r))) g R k (r + 1) := by
  have h1 := h.lt k (by omega)
  refine ⟨h.bel.setCell (by show w.heap.size ≤ R k; omega) _, h.top.setOther (by show w.heap.size ≠ R k; omega) _, fun j hj => by have := h.lt j hj; simpa [World.setCell] using this,
    fun j hj => (h.rows j hj).setOther (h.ne j hj) _, h.ne, (h.cur.set r _).congr (fun i _ => ?_)⟩
  by_cases e : i = r
  · subst e; simp
  · rw [if_neg e]
    by_cases hlt : i < r
    · rw [if_pos hlt, if_pos (by omega)]
    · rw [if_neg hlt, if_neg (by omega)]

theorem RowIn.close {w wr : World} {g : List (List Int)} {R : Nat → Nat} {k : Nat} (h : RowIn w wr g R k (rowAt g k).length) : Rowed w wr g R (k + 1) :=
  ⟨h.bel, h.top, h.lt, fun j hj => by
    by_cases e : j = k
    · subst e; exact h.cur.congr (fun i hi => by rw [if_pos hi])
    · exact h.rows j (by omega)⟩

theorem RowIn.cell {w wr : World} {g : List (List Int)} {R : Nat → Nat} {k r : Nat} (h : RowIn w wr g R k r) (hk : k < g.length) : wr.cell? ⟨w.heap.size, k, none⟩ = some (.slice (some ⟨R k, 0, none⟩) (rowAt g k).length (rowAt g k).length) := by
  have := h.top.cell (i := k) hk; rwa [if_pos (by omega)] at this

theorem Rowed.read {w wr : World} {g : List (List Int)} {R : Nat → Nat} (h : Rowed w wr g R g.length) (hm : ∀ i, i < g.length → (rowAt g i).length ≤ maxLen) : Rows2 wr (· < wr.heap.size) (some ⟨w.heap.size, 0, none⟩) g := by
  intro h0
  refine ⟨_, 0, rfl, h.top.lt, fun i hi => ⟨_, _, by rw [Nat.zero_add]; have := h.top.cell (i := i) hi; rwa [if_pos hi] at this, Nat.le_refl _, hm i hi, (h.rows i hi).ints (h.lt i hi).2⟩⟩

end Go.Proofs.Ytlmaeadbomnhlaa
