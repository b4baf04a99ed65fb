/- Texts in one: RingM, RingA, RingB, RingC, RingD. -/
import Derived.Test.YtlmaeadbomnhlabDoorMC
import Derived.Test.YtlmaeadbomnhlabDoorOA
import Derived.Outline
import Derived.Test.YtlmaeadbomnhlabDoorOB
namespace Go.Proofs.YtlmaeadbomnhlabDoor
set_option linter.unusedSimpArgs false
set_option linter.unusedVariables false
open Go.RowKit

/-- a table of n rows and columns that is itself from the other side -/
structure AntiT (n : Nat) (T : List (List Int)) : Prop where
  len : T.length = n
  row : ∀ i, i < n → (rowAt T i).length = n
  anti : ∀ i j, i < n → j < n → nth (rowAt T i) j = -nth (rowAt T j) i

/-- what stands there while row k is filled, of which r numbers are -/
def fillV (T : List (List Int)) (k r j x : Nat) : Int := if (j < k ∧ x < k) ∨ (j = k ∧ x < r) ∨ (x = k ∧ j < r) then nth (rowAt T j) x else 0

/-- the first m rows are made; of row and column k the first r numbers are there, and all of those before -/
structure Fairing (w wr : World) (n : Nat) (T : List (List Int)) (A : Nat → Nat) (m k r : Nat) : Prop where
  bel : Below w.heap.size w wr
  size : w.heap.size < wr.heap.size
  top : wr.rowIs w.heap.size 47 n (fun j => if j < m then .slice (some ⟨A j, 0, none⟩) n n else .slice none 0 0)
  rows : ∀ j, j < m → wr.rowIs (A j) 3 n (fun x => .int .i64 (fillV T k r j x))
  lo : ∀ j, j < m → w.heap.size < A j
  apart : ∀ i j, i < m → j < m → i ≠ j → A i ≠ A j

theorem Fairing.keep {w wr w' : World} {n : Nat} {T : List (List Int)} {A : Nat → Nat} {m k r : Nat} (h : Fairing w wr n T A m k r) (hb : Below wr.heap.size wr w') : Fairing w w' n T A m k r :=
  ⟨h.bel.trans (hb.mono (Nat.le_of_lt h.size)), Nat.lt_of_lt_of_le h.size hb.size, h.top.of_block (hb.block _ h.size), fun j hj => (h.rows j hj).of_block (hb.block _ (h.rows j hj).lt), h.lo, h.apart⟩

/-- a number and the same with the other sign are stored -/
theorem Fairing.step {w wr : World} {n : Nat} {T : List (List Int)} {A : Nat → Nat} {k r : Nat} (hT : AntiT n T) (hk : k < n) (hr : r < k) (h : Fairing w wr n T A (k + 1) k r) :
    Fairing w ((wr.setCell ⟨A r, k, none⟩ (.int .i64 (nth (rowAt T r) k))).setCell ⟨A k, r, none⟩ (.int .i64 (-nth (rowAt T r) k))) n T A (k + 1) k (r + 1) := by
  have hlr := h.lo r (by omega)
  have hlk := h.lo k (by omega)
  have hne := h.apart r k (by omega) (by omega) (by omega)
  refine ⟨(h.bel.setCell (by show w.heap.size ≤ A r; omega) _).setCell (by show w.heap.size ≤ A k; omega) _, by simp [World.setCell]; exact h.size, (h.top.setOther (by show w.heap.size ≠ A r; omega) _).setOther (by show w.heap.size ≠ A k; omega) _, fun j hj => ?_, h.lo, h.apart⟩
  have hlj := h.lo j hj
  have fv : ∀ x, ¬ (j = r ∧ x = k) → ¬ (j = k ∧ x = r) → fillV T k r j x = fillV T k (r + 1) j x := fun x h1 h2 => by
    unfold fillV
    by_cases hc : (j < k ∧ x < k) ∨ (j = k ∧ x < r) ∨ (x = k ∧ j < r)
    · rw [if_pos hc, if_pos (by omega)]
    · rw [if_neg hc, if_neg (by omega)]
  by_cases e1 : j = r
  · subst e1
    refine (((h.rows j hj).set k _).setOther (by show A j ≠ A k; exact hne) _).congr (fun x _ => ?_)
    by_cases ex : x = k
    · subst ex; rw [if_pos rfl]; unfold fillV; rw [if_pos (by omega)]
    · rw [if_neg ex, fv x (by omega) (by omega)]
  · by_cases e2 : j = k
    · subst e2
      refine (((h.rows j hj).setOther (by show A j ≠ A r; exact fun e => hne e.symm) _).set r _).congr (fun x _ => ?_)
      by_cases ex : x = r
      · subst ex; rw [if_pos rfl]; unfold fillV; rw [if_pos (by omega), hT.anti j x hk (by omega)]
      · rw [if_neg ex, fv x (by omega) (by omega)]
    · exact (((h.rows j hj).setOther (by show A j ≠ A r; exact h.apart j r hj (by omega) e1) _).setOther (by show A j ≠ A k; exact h.apart j k hj (by omega) e2) _).congr (fun x _ => by rw [fv x (by omega) (by omega)])

theorem Fairing.done {w wr : World} {n : Nat} {T : List (List Int)} {A : Nat → Nat} (hT : AntiT n T) (hn : n ≤ maxLen) (h : Fairing w wr n T A n n 0) : OwnR wr w.heap.size wr.heap.size (some ⟨w.heap.size, 0, none⟩) T := by
  intro h0
  have hl := hT.len
  refine ⟨w.heap.size, n, _, fun j => some ⟨A j, 0, none⟩, fun _ => n, rfl, Nat.le_refl _, h.size, by omega, h.top, fun i hi => by rw [if_pos (by omega), hT.row i (by omega)], ⟨fun i hi => ⟨by rw [hT.row i (by omega)]; exact Nat.le_refl _, hn⟩, fun i hi _ => ?_, fun i j hi hj hne _ _ e => ?_⟩⟩
  · have := h.lo i (by omega)
    refine ⟨A i, n, _, rfl, by omega, (h.rows i (by omega)).lt, h.rows i (by omega), by rw [hT.row i (by omega)]; exact Nat.le_refl _, fun x hx => ?_⟩
    rw [hT.row i (by omega)] at hx
    unfold fillV
    rw [if_pos (by omega)]
  · injection e with e; injection e with e
    exact h.apart i j (by omega) (by omega) hne e

end Go.Proofs.YtlmaeadbomnhlabDoor

namespace Go.Proofs.YtlmaeadbomnhlabDoor
set_option linter.unusedSimpArgs false
set_option linter.unusedVariables false
open Go.RowKit



end Go.Proofs.YtlmaeadbomnhlabDoor

namespace Go.Proofs.YtlmaeadbomnhlabDoor
set_option linter.unusedSimpArgs false
set_option linter.unusedVariables false
open Go.RowKit



end Go.Proofs.YtlmaeadbomnhlabDoor

namespace Go.Proofs.YtlmaeadbomnhlabDoor
set_option linter.unusedSimpArgs false
set_option linter.unusedVariables false
open Go.RowKit



end Go.Proofs.YtlmaeadbomnhlabDoor

namespace Go.Proofs.YtlmaeadbomnhlabDoor
set_option linter.unusedSimpArgs false
set_option linter.unusedVariables false
open Go.RowKit



end Go.Proofs.YtlmaeadbomnhlabDoor
