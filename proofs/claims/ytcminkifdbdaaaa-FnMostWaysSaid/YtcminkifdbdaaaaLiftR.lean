/- What the walk is told of a slice of slices of integers that came in. -/
import Derived.Test.YtcminkifdbdaaaaLiftK
import Derived.Test.YtcminkifdbdaaaaMC
import Derived.Deep.Matrix
namespace Go.Proofs.Ytcminkifdbdaaaa
set_option linter.unusedSimpArgs false
set_option linter.unusedVariables false
open Go.RowKit

theorem spot_none {w : World} {a : Addr} {v : Value} (h : w.cell? (a.add 0) = some v) : a = ⟨a.block, a.off, none⟩ ∧ a.block < w.heap.size := by
  have h' : w.cell? a = some v := by simpa [Addr.add] using h
  refine ⟨?_, World.block_lt_of_cell? _ _ h'⟩
  obtain ⟨b, o, s⟩ := a
  cases s with
  | none => rfl
  | some x =>
    exfalso
    unfold World.cell? at h'
    split at h' <;> simp at h'

theorem add_plain (b o i : Nat) : (⟨b, o, none⟩ : Addr).add i = ⟨b, o + i, none⟩ := by
  unfold Addr.add
  split
  · rename_i h; subst h; rfl
  · rfl

theorem ints_at {w : World} {A : Option Addr} {L C : Nat} {Z : List Int} (h1 : L ≤ C) (hz : Z.length = C) (hn : A = none → C = 0) (hc : ∀ a', A = some a' → ∀ c, c < C → w.cell? (a'.add c) = some (.int .i64 (Z.getD c 0))) :
    Ints w (· < w.heap.size) A (Z.take L) := by
  intro h0
  have h0' : 0 < L := by simp only [List.length_take] at h0; omega
  cases A with
  | none => have := hn rfl; omega
  | some a =>
    obtain ⟨e, hb⟩ := spot_none (hc a rfl 0 (by omega))
    refine ⟨a.block, a.off, by rw [← e], hb, fun i hi => ?_⟩
    have hi' : i < L := by simp only [List.length_take] at hi; omega
    have := hc a rfl i (by omega)
    rw [e, add_plain] at this
    rw [this, nth_take _ _ _ hi']; rfl

end Go.Proofs.Ytcminkifdbdaaaa
