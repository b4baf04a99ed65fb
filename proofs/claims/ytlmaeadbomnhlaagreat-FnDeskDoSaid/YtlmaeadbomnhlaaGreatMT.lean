/- Texts in one: WinS, WinT, WinB. -/
import Derived.Test.YtlmaeadbomnhlaaGreatWin
import Derived.Test.YtlmaeadbomnhlaaGreatMC
namespace Go.Proofs.YtlmaeadbomnhlaaGreat
set_option linter.unusedSimpArgs false
set_option linter.unusedVariables false
open Go.RowKit
structure RowNow (w wr : World) (l : List Int) : Prop where
  bel : Below w.heap.size w wr
  size : wr.heap.size = w.heap.size + 1
  row : IntRow wr w.heap.size l
theorem nth_zeros (n i : Nat) : nth (List.replicate n 0) i = 0 := by
  unfold nth; simp [List.getElem?_replicate]; split <;> rfl
theorem nth_setk (l : List Int) (k i : Nat) (x : Int) (h : i < l.length) : nth (l.set k x) i = if i = k then x else nth l i := by
  unfold nth
  rw [List.getD_eq_getElem?_getD, List.getD_eq_getElem?_getD, List.getElem?_set]
  by_cases e : i = k
  · subst e; simp [h]
  · rw [if_neg e, if_neg (fun h => e h.symm)]
theorem RowNow.start (w : World) (n : Nat) : RowNow w (w.alloc (.cells (madeCells #[.int .i64 0] n) 3)) (List.replicate n 0) :=
  ⟨(Below.refl _ _).alloc (Nat.le_refl _) _, by simp, by
    show World.rowIs _ _ _ _ _
    rw [List.length_replicate]
    exact (World.rowIs_made w _ n _).congr (fun i _ => by rw [nth_zeros])⟩
theorem RowNow.poke {w wr : World} {l : List Int} (h : RowNow w wr l) (k : Nat) (x : Int) : RowNow w (wr.setCell ⟨w.heap.size, k, none⟩ (.int .i64 x)) (l.set k x) := by
  refine ⟨h.bel.setCell (Nat.le_refl _) _, by simp [World.setCell, h.size], ?_⟩
  show World.rowIs _ _ _ _ _
  rw [List.length_set]
  refine (h.row.set k _).congr fun i hi => ?_
  rw [nth_setk _ _ _ _ hi]
  by_cases e : i = k
  · rw [if_pos e, if_pos e]
  · rw [if_neg e, if_neg e]
theorem RowNow.own {w wr : World} {l : List Int} (h : RowNow w wr l) : OwnI wr w.heap.size wr.heap.size (some ⟨w.heap.size, 0, none⟩) l :=
  fun _ => ⟨w.heap.size, l.length, _, rfl, Nat.le_refl _, by rw [h.size]; omega, h.row, Nat.le_refl _, fun _ _ => rfl⟩
end Go.Proofs.YtlmaeadbomnhlaaGreat

namespace Go.Proofs.YtlmaeadbomnhlaaGreat
set_option linter.unusedSimpArgs false
set_option linter.unusedVariables false
open Go.RowKit
end Go.Proofs.YtlmaeadbomnhlaaGreat

namespace Go.Proofs.YtlmaeadbomnhlaaGreat
set_option linter.unusedSimpArgs false
set_option linter.unusedVariables false
open Go.RowKit
end Go.Proofs.YtlmaeadbomnhlaaGreat
