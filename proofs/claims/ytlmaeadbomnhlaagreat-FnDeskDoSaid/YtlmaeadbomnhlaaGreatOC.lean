/- Texts in one: Poke, DrawHa, DrawHb, DrawHc. -/
import Derived.Test.YtlmaeadbomnhlaaGreatMH
import Derived.Test.YtlmaeadbomnhlaaGreatMC
import Derived.Test.YtlmaeadbomnhlaaGreatMT
namespace Go.Proofs.YtlmaeadbomnhlaaGreat
set_option linter.unusedSimpArgs false
set_option linter.unusedVariables false
open Go.RowKit
def pokeRC (g : List (List Int)) (r k : Nat) (x : Int) : List (List Int) := g.set r ((rowAt g r).set k x)
theorem pokeRC_length (g : List (List Int)) (r k : Nat) (x : Int) : (pokeRC g r k x).length = g.length := by simp [pokeRC]
theorem rowAt_pokeRC (g : List (List Int)) (r k : Nat) (x : Int) (i : Nat) (h : i < g.length) : rowAt (pokeRC g r k x) i = if i = r then (rowAt g r).set k x else rowAt g i := by
  unfold pokeRC
  by_cases e : i = r
  · subst e; rw [if_pos rfl, rowAt_eq _ _ (by simpa using h)]; simp
  · rw [if_neg e, rowAt_eq _ _ (by simpa using h), rowAt_eq _ _ h]; simp [List.getElem_set, Ne.symm e]
theorem nth_setR (l : List Int) (k : Nat) (x : Int) (i : Nat) (h : i < l.length) : nth (l.set k x) i = if i = k then x else nth l i := by
  by_cases e : i = k
  · subst e; rw [if_pos rfl, nth_eq _ _ (by simpa using h)]; simp
  · rw [if_neg e, nth_eq _ _ (by simpa using h), nth_eq _ _ h]; simp [List.getElem_set, Ne.symm e]
theorem pokeRC_row_length (g : List (List Int)) (r k : Nat) (x : Int) (i : Nat) (h : i < g.length) : (rowAt (pokeRC g r k x) i).length = (rowAt g i).length := by
  rw [rowAt_pokeRC g r k x i h]
  split
  · rename_i e; subst e; simp
  · rfl
theorem OwnR.pokeRC {w : World} {lo hi : Nat} {b0 r k : Nat} {T : Option Addr} {g : List (List Int)} {c : Nat} (h : OwnR w lo hi T g) (h0 : r < g.length) (hr : k < (rowAt g r).length) (x : Int)
    (hT : ∀ b, T = some ⟨b, 0, none⟩ → w.cell? ⟨b, r, none⟩ = some (.slice (some ⟨b0, 0, none⟩) (rowAt g r).length c)) : OwnR (w.setCell ⟨b0, k, none⟩ (.int .i64 x)) lo hi T (pokeRC g r k x) := by
  obtain ⟨b, N, f, A, C, rfl, h1, h2, h3, h4, h5, h6⟩ := h (by omega)
  have hA0 : A r = some ⟨b0, 0, none⟩ := by
    have e1 := hT b rfl
    rw [h4.cell (by omega), h5 r h0] at e1
    injection e1 with e1; injection e1
  obtain ⟨b0', N0, f0, e0, k1, k2, k3, k4, k5⟩ := h6.own r h0 (by omega)
  rw [hA0] at e0; injection e0 with e0; injection e0 with e0; subst e0
  intro _
  refine ⟨b, N, f, A, C, rfl, h1, h2, by rw [pokeRC_length]; exact h3, h4.setOther (Ne.symm (rowIs_ne' k3 h4)) _, fun i hi => ?_, ⟨fun i hi => ?_, fun i hi => ?_, fun i j hi hj hne p q => ?_⟩⟩
  · rw [pokeRC_length] at hi; rw [pokeRC_row_length g r k x i hi]; exact h5 i hi
  · rw [pokeRC_length] at hi; rw [pokeRC_row_length g r k x i hi]; exact h6.cap i hi
  · rw [pokeRC_length] at hi
    by_cases e : i = r
    · subst e
      intro _
      refine ⟨b0, N0, _, hA0, k1, k2, k3.set k _, by rw [pokeRC_row_length g i k x i hi]; exact k4, fun j hj => ?_⟩
      rw [pokeRC_row_length g i k x i hi] at hj
      rw [rowAt_pokeRC g i k x i hi, if_pos rfl, nth_setR _ _ _ _ hj]
      by_cases ej : j = k
      · rw [if_pos ej, if_pos ej]
      · rw [if_neg ej, if_neg ej]; exact k5 j hj
    · rw [rowAt_pokeRC g r k x i hi, if_neg e]
      intro hp
      obtain ⟨bi, Ni, fi, ei, m1, m2, m3, m4, m5⟩ := h6.own i hi hp
      refine ⟨bi, Ni, fi, ei, m1, m2, m3.setOther (fun e' => ?_) _, m4, m5⟩
      exact h6.apart i r hi h0 e hp (by omega) (by rw [ei, hA0, show bi = b0 from e'])
  · rw [pokeRC_length] at hi hj
    rw [pokeRC_row_length g r k x i hi] at p
    rw [pokeRC_row_length g r k x j hj] at q
    exact h6.apart i j hi hj hne p q
theorem OwnR.oneRow {w : World} {lo hi bt r : Nat} {g : List (List Int)} (h : OwnR w lo hi (some ⟨bt, 0, none⟩) g) (h0 : r < g.length) (r0 : 0 < (rowAt g r).length) :
    ∃ (b0 c0 N : Nat) (f : Nat → Value), w.cell? ⟨bt, r, none⟩ = some (.slice (some ⟨b0, 0, none⟩) (rowAt g r).length c0) ∧ (rowAt g r).length ≤ c0 ∧ c0 ≤ maxLen ∧ lo ≤ b0 ∧ b0 < hi ∧ bt ≠ b0 ∧ lo ≤ bt ∧ bt < hi ∧ w.rowIs b0 3 N f ∧ (rowAt g r).length ≤ N ∧ ∀ j, j < (rowAt g r).length → w.cell? ⟨b0, j, none⟩ = some (.int .i64 (nth (rowAt g r) j)) := by
  obtain ⟨bt', M, F, A, C, e, h1, h2, h3, h4, h5, h6⟩ := h (by omega)
  injection e with e; injection e with e; subst e
  obtain ⟨b0, N, f, e0, k1, k2, k3, k4, k5⟩ := h6.own r h0 r0
  exact ⟨b0, C r, N, f, by rw [h4.cell (by omega), h5 r h0, e0], (h6.cap r h0).1, (h6.cap r h0).2, k1, k2, Ne.symm (rowIs_ne' k3 h4), h1, h2, k3, k4, fun j hj => by rw [k3.cell (by omega), k5 j hj]⟩
end Go.Proofs.YtlmaeadbomnhlaaGreat

namespace Go.Proofs.YtlmaeadbomnhlaaGreat
set_option linter.unusedSimpArgs false
set_option linter.unusedVariables false
open Go.RowKit
end Go.Proofs.YtlmaeadbomnhlaaGreat

namespace Go.Proofs.YtlmaeadbomnhlaaGreat
set_option linter.unusedSimpArgs false
set_option linter.unusedVariables false
open Go.RowKit
theorem Kept.bel {n : Nat} {w w1 w2 : World} (hb : Below n w w1) (hk : Kept n w1 w2) (hn : n ≤ w1.heap.size) : Below n w w2 := hb.trans (hk.below (Nat.le_refl _) hn)
end Go.Proofs.YtlmaeadbomnhlaaGreat

namespace Go.Proofs.YtlmaeadbomnhlaaGreat
set_option linter.unusedSimpArgs false
set_option linter.unusedVariables false
open Go.RowKit
structure SquareT (n0 : Nat) (w wr : World) (a : Option Addr) (len cap : Nat) (zs : List Int) (p : Int) (lo hi bt m : Nat) : Prop where
  kept : Kept n0 w wr
  ex : ∃ (t : List (List Int)) (q : Int), t.length = m ∧ (∀ i, i < m → (rowAt t i).length = m) ∧ Reader n0 wr a len cap zs q ∧ 0 ≤ q ∧ q ≤ p ∧ OwnR wr lo hi (some ⟨bt, 0, none⟩) t ∧ hi ≤ wr.heap.size
theorem SquareT.more {n0 : Nat} {w wr : World} {a : Option Addr} {len cap : Nat} {zs : List Int} {p p' : Int} {lo hi bt m : Nat} (h : SquareT n0 w wr a len cap zs p lo hi bt m) (hp : p ≤ p') : SquareT n0 w wr a len cap zs p' lo hi bt m := by
  obtain ⟨hk, t, q, h1, h2, h3, h4, h5, h6⟩ := h
  exact ⟨hk, t, q, h1, h2, h3, h4, by omega, h6⟩
theorem SquareT.poke {n0 : Nat} {w wr : World} {a : Option Addr} {len cap : Nat} {zs : List Int} {p : Int} {lo hi bt m : Nat} (h : SquareT n0 w wr a len cap zs p lo hi bt m) (hlo : w.heap.size ≤ lo) (hn0 : n0 < w.heap.size) {r k : Nat} (hr : r < m) (hk : k < m) :
    ∃ (b c : Nat), wr.cell? ⟨bt, r, none⟩ = some (.slice (some ⟨b, 0, none⟩) m c) ∧ m ≤ c ∧ c ≤ 9223372036854775807 ∧ bt < wr.heap.size ∧ b < wr.heap.size ∧ bt ≠ b ∧ wr.frozen? ⟨b, k, none⟩ = false ∧ (∃ y, wr.cell? ⟨b, k, none⟩ = some (.int .i64 y)) ∧ ∀ x : Int, SquareT n0 w (wr.setCell ⟨b, k, none⟩ (.int .i64 x)) a len cap zs p lo hi bt m := by
  obtain ⟨hK, t, q, h1, h2, h3, h4, h5, h6, h7⟩ := h
  have hrt := h2 r hr
  obtain ⟨b, c, N, f, k1, k2, k3, k4, k5, k6, k7, k8, k9, k10, k11⟩ := h6.oneRow (r := r) (by omega) (by omega)
  refine ⟨b, c, by rw [k1, hrt], by omega, by unfold maxLen at k3; omega, by omega, by omega, k6, k9.frozen k, ⟨_, k11 k (by omega)⟩, fun x => ⟨hK.setNew (q := ⟨b, k, none⟩) (by show w.heap.size ≤ b; omega) _, pokeRC t r k x, q, by rw [pokeRC_length]; exact h1, fun i hi => ?_, h3.setFar (q := ⟨b, k, none⟩) (show n0 < b by omega) _, h4, h5, ?_, by simpa [World.setCell] using h7⟩⟩
  · rw [pokeRC_row_length t r k x i (by omega)]; exact h2 i hi
  · exact h6.pokeRC (r := r) (k := k) (c := c) (by omega) (by omega) x (fun b' e => by injection e with e; injection e with e; subst e; exact k1)
end Go.Proofs.YtlmaeadbomnhlaaGreat
