/- Texts in one: ImplH, ImplI, ImplJ, ImplK, ImplL. -/
import Derived.Test.YtlmaeadbomnhlabDoorMJ
import Derived.Test.YtlmaeadbomnhlabDoorMF
import Derived.Test.YtlmaeadbomnhlabDoorMG
import Derived.Deep.RegionWith
namespace Go.Proofs.YtlmaeadbomnhlabDoor
set_option linter.unusedSimpArgs false
set_option linter.unusedVariables false
open Go.RowKit

/-- what a call leaves that hands back weights to be read, and a truth -/
def WRes (w : World) (l : List Int) (e : Ending) (w' : World) : Prop :=
  ∃ (A : Option Addr) (c : Nat), e = .returned (.tuple #[.slice A (wV l).length c, .bool (wOk l)]) ∧ Below w.heap.size w w' ∧ Ints w' (· < w'.heap.size) A (wV l)

theorem WRes.no {w w' : World} {l : List Int} {x : Value} (h : wOk l = false) (hx : x = .tuple #[.slice none 0 0, .bool false]) (hb : Below w.heap.size w w') : WRes w l (.returned x) w' := by
  have e : wV l = [] := by simp [wV, h]
  exact ⟨none, 0, by rw [hx, e, h]; rfl, hb, by rw [e]; exact Ints.nil _ _ _⟩

end Go.Proofs.YtlmaeadbomnhlabDoor

namespace Go.Proofs.YtlmaeadbomnhlabDoor
set_option linter.unusedSimpArgs false
set_option linter.unusedVariables false
open Go.RowKit

/-- while the weights of a set are put at their places: the first k are there -/
structure Sprd (w wr : World) (P : Nat → Bool) (x : List Int) (n k : Nat) : Prop where
  bel : Below w.heap.size w wr
  row : wr.rowIs w.heap.size 3 n (fun j => .int .i64 (if (P j && decide (cnt P j < k)) = true then nth x (cnt P j) else 0))

theorem Sprd.still {w wr w2 : World} {P : Nat → Bool} {x : List Int} {n k : Nat} (h : Sprd w wr P x n k) (hb : Below wr.heap.size wr w2) : Sprd w w2 P x n k :=
  ⟨belT h.bel hb, h.row.of_block (hb.block _ h.row.lt)⟩

theorem Sprd.step {w wr : World} {P : Nat → Bool} {x : List Int} {n k a : Nat} (h : Sprd w wr P x n k) (ha : a < n) (hp : P a = true) (hc : cnt P a = k) : Sprd w (wr.setCell ⟨w.heap.size, a, none⟩ (.int .i64 (nth x k))) P x n (k + 1) := by
  refine ⟨h.bel.setCell (Nat.le_refl _) _, (h.row.set a _).congr (fun j hj => ?_)⟩
  by_cases e : j = a
  · subst e; simp [hp, hc]
  · rw [if_neg e]
    by_cases hpj : P j = true
    · have hne : cnt P j ≠ k := by
        intro he
        have h1 := sel_cnt (P := P) (i := j) (k := n) hj hpj
        have h2 := sel_cnt (P := P) (i := a) (k := n) ha hp
        rw [he] at h1; rw [hc] at h2; omega
      by_cases hlt : cnt P j < k
      · simp [hpj, hlt, show cnt P j < k + 1 by omega]
      · simp [hpj, hlt, show ¬ cnt P j < k + 1 by omega]
    · simp [hpj]

theorem Sprd.done {w wr : World} {P : Nat → Bool} {x : List Int} {n k : Nat} (h : Sprd w wr P x n k) (hk : cnt P n ≤ k) : IntRow wr w.heap.size (spr P x n) := by
  have := h.row
  rw [← spr_length P x n] at this
  refine this.congr (fun i hi => ?_)
  rw [spr_length] at hi
  rw [nth_spr P x hi]
  by_cases hp : P i = true
  · have := cnt_lt hi hp
    simp [hp, show cnt P i < k by omega]
  · simp [hp]

end Go.Proofs.YtlmaeadbomnhlabDoor

namespace Go.Proofs.YtlmaeadbomnhlabDoor
set_option linter.unusedSimpArgs false
set_option linter.unusedVariables false
open Go.RowKit



end Go.Proofs.YtlmaeadbomnhlabDoor

namespace Go.Proofs.YtlmaeadbomnhlabDoor
set_option linter.unusedSimpArgs false
set_option linter.unusedVariables false
open Go.RowKit

theorem TwoOwn.no {w w' : World} {x : Value} (hx : x = .tuple #[.slice none 0 0, .slice none 0 0, .bool false]) (hb : Below w.heap.size w w') : TwoOwn w [] [] false (.returned x) w' :=
  ⟨none, 0, none, 0, by rw [hx]; rfl, hb, fun h => absurd h (by simp), fun h => absurd h (by simp), fun h => absurd h (by simp)⟩

end Go.Proofs.YtlmaeadbomnhlabDoor

namespace Go.Proofs.YtlmaeadbomnhlabDoor
set_option linter.unusedSimpArgs false
set_option linter.unusedVariables false
open Go.RowKit



end Go.Proofs.YtlmaeadbomnhlabDoor
