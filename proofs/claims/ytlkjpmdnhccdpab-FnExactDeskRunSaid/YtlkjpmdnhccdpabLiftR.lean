/- What the walk is told of a slice of slices of integers that came in. -/
import Derived.Test.YtlkjpmdnhccdpabLiftK
import Derived.Test.YtlkjpmdnhccdpabMC
import Derived.Deep.Matrix
namespace Go.Proofs.Ytlkjpmdnhccdpab
set_option linter.unusedSimpArgs false
set_option linter.unusedVariables false
open Go.RowKit

theorem spot_none {w : World} {a : Addr} {v : Value} (h : w.cell? (a.add 0) = some v) : a = ⟨a.block, a.off, none⟩ ∧ a.block < w.heap.size := by
  have h' : w.cell? a = some v := by simpa [Addr.add] using h
  refine ⟨?_, World.block_lt_of_cell? _ _ h'⟩
  obtain ⟨b, o, s⟩ := a
  cases s with
  | none => rfl
  | some x =>
    exfalso
    unfold World.cell? at h'
    split at h' <;> simp at h'

theorem add_plain (b o i : Nat) : (⟨b, o, none⟩ : Addr).add i = ⟨b, o + i, none⟩ := by
  unfold Addr.add
  split
  · rename_i h; subst h; rfl
  · rfl

theorem ints_at {w : World} {A : Option Addr} {L C : Nat} {Z : List Int} (h1 : L ≤ C) (hz : Z.length = C) (hn : A = none → C = 0) (hc : ∀ a', A = some a' → ∀ c, c < C → w.cell? (a'.add c) = some (.int .i64 (Z.getD c 0))) :
    Ints w (· < w.heap.size) A (Z.take L) := by
  intro h0
  have h0' : 0 < L := by simp only [List.length_take] at h0; omega
  cases A with
  | none => have := hn rfl; omega
  | some a =>
    obtain ⟨e, hb⟩ := spot_none (hc a rfl 0 (by omega))
    refine ⟨a.block, a.off, by rw [← e], hb, fun i hi => ?_⟩
    have hi' : i < L := by simp only [List.length_take] at hi; omega
    have := hc a rfl i (by omega)
    rw [e, add_plain] at this
    rw [this, nth_take _ _ _ hi']; rfl

theorem ints_of {w : World} {x : Addr} {len cap : Nat} {zs : List Int} (hl : len ≤ cap) (hm : cap ≤ maxLen) (hz : zs.length = cap) (hc : ∀ i, i < zs.length → w.cell? (x.add i) = some (.int .i64 (zs.getD i 0))) :
    ∃ l : List Int, l.length = len ∧ l.length ≤ maxLen ∧ Ints w (· < w.heap.size) (some x) l := by
  have hlen : (zs.take len).length = len := by simp; omega
  refine ⟨zs.take len, hlen, by omega, ints_at hl hz (fun h => by cases h) fun a' e c hcc => ?_⟩
  cases e
  exact hc c (by omega)

theorem rows_of {w : World} {a : Addr} {len cap : Nat} {A : Nat → Option Addr} {L C : Nat → Nat} {Z : Nat → List Int} (hl : len ≤ cap) (hm : cap ≤ maxLen)
    (h : ∀ r, r < cap → w.cell? (a.add r) = some (.slice (A r) (L r) (C r)) ∧ L r ≤ C r ∧ C r ≤ maxLen ∧ (Z r).length = C r ∧ (A r = none → C r = 0) ∧ ∀ a', A r = some a' → ∀ c, c < C r → w.cell? (a'.add c) = some (.int .i64 ((Z r).getD c 0))) :
    ∃ g : List (List Int), g.length = len ∧ g.length ≤ maxLen ∧ Rows2 w (· < w.heap.size) (some a) g := by
  have hlen : ((List.range len).map fun r => (Z r).take (L r)).length = len := by simp
  refine ⟨_, hlen, by omega, fun h0 => ?_⟩
  rw [hlen] at h0
  obtain ⟨e, hb⟩ := spot_none (h 0 (by omega)).1
  refine ⟨a.block, a.off, by rw [← e], hb, fun i hi => ?_⟩
  rw [hlen] at hi
  obtain ⟨h1, h2, h3, h4, h5, h6⟩ := h i (by omega)
  have hr : rowAt ((List.range len).map fun r => (Z r).take (L r)) i = (Z i).take (L i) := by
    rw [rowAt_eq _ _ (by rw [hlen]; exact hi)]; simp
  have hrl : ((Z i).take (L i)).length = L i := by simp; omega
  rw [e, add_plain] at h1
  exact ⟨A i, C i, by rw [hr, hrl]; exact h1, by rw [hr, hrl]; exact h2, h3, by rw [hr]; exact ints_at h2 h4 h5 h6⟩

end Go.Proofs.Ytlkjpmdnhccdpab
