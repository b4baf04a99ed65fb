/- Texts in one: MixS, MixT, MixU, Mone, Mind. -/
import Derived.Test.YtlkjpmdnhccdpaaMB
import Derived.Test.YtlkjpmdnhccdpaaMA
import Derived.Test.YtlkjpmdnhccdpaaMC
import Derived.Deep.RegionHeld3
import Derived.Test.YtlkjpmdnhccdpaaMH
namespace Go.Proofs.Ytlkjpmdnhccdpaa
set_option linter.unusedSimpArgs false
set_option linter.unusedVariables false
open Go.RowKit

theorem inR_w (n : Int) : inR n 0 100000 = wB n := by simp [inR, wB]

end Go.Proofs.Ytlkjpmdnhccdpaa

namespace Go.Proofs.Ytlkjpmdnhccdpaa
set_option linter.unusedSimpArgs false
set_option linter.unusedVariables false
open Go.RowKit

/-- a fraction and a truth -/
abbrev FracRes (u d : Int) (b : Bool) : Value := .tuple #[.agg #[.int .i64 u, .int .i64 d], .bool b]

/-- what a table and two mixtures are, if they fit -/
theorem fit_of {g : List (List Int)} {x y : List Int} (h : fitB g x y = true) : Game g (rowAt g 0).length ∧ Mix x g.length ∧ Mix y (rowAt g 0).length := by
  simp only [fitB, Bool.and_eq_true] at h
  exact ⟨Game.of h.1.1, Mix.of h.1.2, Mix.of h.2⟩

end Go.Proofs.Ytlkjpmdnhccdpaa

namespace Go.Proofs.Ytlkjpmdnhccdpaa
set_option linter.unusedSimpArgs false
set_option linter.unusedVariables false
open Go.RowKit

/-- a list that grows lies in no block of fractions -/
theorem Grows.ne {w : World} {base B N : Nat} {v : Value} {l : List Int} {f : Nat → Value} (h : Grows w base v l) (h' : w.rowIs B 39 N f) : v.ownBlock ≠ some B := by
  obtain ⟨_, ⟨rfl, _⟩ | ⟨b, cap, cur, rfl, _, h4, _⟩⟩ := h
  · simp [Value.ownBlock]
  · intro e
    simp [Value.ownBlock] at e
    subst e
    obtain ⟨c', h2, _, _⟩ := h'
    rw [h4] at h2
    injection h2 with h2
    injection h2 with _ e
    exact absurd e (by decide)

/-- an equation between fractions over one number -/
theorem best_iff {g : List (List Int)} {y : List Int} (h : risB g y = true) (k : Nat) : (lowU (rowD g y k) (sumW y y.length) = risU g y ∧ lowD (rowD g y k) (sumW y y.length) = risD g y) ↔ rowD g y k = riskN g y := by
  have e1 : risU g y = lowU (riskN g y) (sumW y y.length) := by simp [risU, h]
  have e2 : risD g y = lowD (riskN g y) (sumW y y.length) := by simp [risD, h]
  simp only [risB, Bool.and_eq_true] at h
  have hm := Mix.of h.2
  have hp := hm.sum_bd
  rw [← hm.len] at hp
  rw [e1, e2]
  exact ⟨fun ⟨a, b⟩ => low_inj (by omega) a b, fun e => by rw [e]; exact ⟨rfl, rfl⟩⟩

end Go.Proofs.Ytlkjpmdnhccdpaa

namespace Go.Proofs.Ytlkjpmdnhccdpaa
set_option linter.unusedSimpArgs false
set_option linter.unusedVariables false

theorem mix_one {m i : Nat} (hi : i < m) (hm : m ≤ 16) : Mix (oneAt m i 1) m := by
  refine ⟨oneAt_length _ _ _, by omega, hm, fun k hk => ?_, fun k hk => ?_, ?_⟩
  · rw [nth_oneAt m i k 1 hk]; split <;> omega
  · rw [nth_oneAt m i k 1 hk]; split <;> omega
  · rw [sumW_unit _ i 1 m (fun r hr => nth_oneAt m i r 1 hr), if_pos hi]; omega

theorem ris_one {g : List (List Int)} (h : gameB g = true) {j : Nat} (hj : j < (rowAt g 0).length) : risB g (oneAt (rowAt g 0).length j 1) = true :=
  risB_iff.2 ⟨h, mix_one hj (Game.of h).mhi⟩

theorem saf_one {g : List (List Int)} (h : gameB g = true) {i : Nat} (hi : i < g.length) (hf : floV g = nth (lows g) i) : safB g (oneAt g.length i 1) = true ∧ safU g (oneAt g.length i 1) = floV g ∧ safD g (oneAt g.length i 1) = 1 := by
  have hg := Game.of h
  have hm := mix_one hi hg.hi
  have hb : safB g (oneAt g.length i 1) = true := safB_iff.2 ⟨h, hm⟩
  refine ⟨hb, ?_⟩
  have hs : sumW (oneAt g.length i 1) g.length = 1 := by rw [sumW_unit _ i 1 _ (fun r hr => nth_oneAt _ i r 1 hr), if_pos hi]
  have hn : safeN g (oneAt g.length i 1) = floV g := by
    rw [hf, nth_lows g i hi, hg.len i hi]
    unfold safeN
    have e : ∀ j, j < (rowAt g 0).length → nth (colsD g (oneAt g.length i 1)) j = nth (rowAt g i) j := fun j hj => by
      rw [nth_colsD _ _ j hj]; unfold colD
      rw [dotW_unit _ _ i _ (fun r hr => nth_oneAt _ i r 1 hr), if_pos hi, nth_col g j i hi]
    have : ∀ k, k ≤ (rowAt g 0).length → 0 < (rowAt g 0).length → lowN (colsD g (oneAt g.length i 1)) k = lowN (rowAt g i) k := fun k => by
      induction k with
      | zero => intro _ h0; exact e 0 h0
      | succ k ih => intro hk h0; simp only [lowN]; rw [ih (by omega) h0, e k (by omega)]
    exact this _ (Nat.le_refl _) hg.mlo
  simp only [safU, safD, hb, if_true]
  rw [oneAt_length, hs, hn]
  exact low_one _

end Go.Proofs.Ytlkjpmdnhccdpaa

namespace Go.Proofs.Ytlkjpmdnhccdpaa
set_option linter.unusedSimpArgs false
set_option linter.unusedVariables false

theorem best_mem (g : List (List Int)) (y : List Int) (k : Nat) : ∀ v ∈ bestUpTo g y k, ∃ i : Nat, v = (i : Int) ∧ i < k ∧ rowD g y i = riskN g y := by
  induction k with
  | zero => intro v hv; simp [bestUpTo] at hv
  | succ k ih =>
    intro v hv
    simp only [bestUpTo] at hv
    split at hv
    · rename_i e
      rw [List.mem_append] at hv
      rcases hv with h | h
      · obtain ⟨i, h1, h2, h3⟩ := ih v h; exact ⟨i, h1, by omega, h3⟩
      · rw [List.mem_singleton] at h; exact ⟨k, h, by omega, by simpa using e⟩
    · obtain ⟨i, h1, h2, h3⟩ := ih v hv; exact ⟨i, h1, by omega, h3⟩

theorem best_asc (g : List (List Int)) (y : List Int) (k : Nat) : (bestUpTo g y k).Pairwise (· < ·) := by
  induction k with
  | zero => simp [bestUpTo]
  | succ k ih =>
    simp only [bestUpTo]
    split
    · rw [List.pairwise_append]
      refine ⟨ih, List.pairwise_singleton _ _, fun a ha b hb => ?_⟩
      obtain ⟨i, h1, h2, _⟩ := best_mem g y k a ha
      rw [List.mem_singleton] at hb; omega
    · exact ih

theorem best_some (g : List (List Int)) (y : List Int) (k i : Nat) (hi : i < k) (h : rowD g y i = riskN g y) : 0 < (bestUpTo g y k).length := by
  induction k with
  | zero => omega
  | succ k ih =>
    simp only [bestUpTo]
    by_cases e : i = k
    · subst e; simp [h]
    · have := ih (by omega)
      split
      · simp
      · exact this

/-- all 0, then one at every place of the list's first k -/
def setAll (n : Nat) (l : List Int) : Nat → List Int
  | 0 => List.replicate n 0
  | k + 1 => (setAll n l k).set (nth l k).toNat 1

theorem setAll_length (n : Nat) (l : List Int) (k : Nat) : (setAll n l k).length = n := by
  induction k with
  | zero => simp [setAll]
  | succ k ih => simp [setAll, ih]

theorem nth_setAt (l : List Int) (i r : Nat) (x : Int) (hr : r < l.length) : nth (l.set i x) r = if r = i then x else nth l r := by
  rw [nth_eq _ _ (by rw [List.length_set]; exact hr), List.getElem_set, nth_eq l r hr]
  by_cases e : i = r
  · subst e; simp
  · rw [if_neg e, if_neg (fun e' => e e'.symm)]

theorem setAll_val (n : Nat) (l : List Int) (k r : Nat) (hr : r < n) : nth (setAll n l k) r = 0 ∨ (nth (setAll n l k) r = 1 ∧ ∃ j, j < k ∧ (nth l j).toNat = r) := by
  induction k with
  | zero => left; simp only [setAll]; rw [nth_eq _ _ (by simpa using hr)]; simp
  | succ k ih =>
    simp only [setAll]; rw [nth_setAt _ _ _ _ (by rw [setAll_length]; exact hr)]
    by_cases e : r = (nth l k).toNat
    · right; rw [if_pos e]; exact ⟨rfl, k, by omega, e.symm⟩
    · rw [if_neg e]; rcases ih with h | ⟨h, j, h1, h2⟩
      · exact .inl h
      · exact .inr ⟨h, j, by omega, h2⟩

theorem setAll_one (n : Nat) (l : List Int) (k j : Nat) (hj : j < k) (hr : (nth l j).toNat < n) : nth (setAll n l k) (nth l j).toNat = 1 := by
  induction k with
  | zero => omega
  | succ k ih =>
    simp only [setAll]; rw [nth_setAt _ _ _ _ (by rw [setAll_length]; exact hr)]
    by_cases e : (nth l j).toNat = (nth l k).toNat
    · rw [if_pos e]
    · rw [if_neg e]
      by_cases e2 : j = k
      · subst e2; exact absurd rfl e
      · exact ih (by omega)

theorem sumW_ge (x : List Int) (k i : Nat) (hi : i < k) (h : ∀ r, r < k → 0 ≤ nth x r) : nth x i ≤ sumW x k := by
  have pos : ∀ m, m ≤ k → 0 ≤ sumW x m := fun m => by
    induction m with
    | zero => intro _; simp [sumW]
    | succ m ih => intro hm; have := ih (by omega); have := h m (by omega); simp only [sumW]; omega
  have : ∀ m, m ≤ k → i < m → nth x i ≤ sumW x m := fun m => by
    induction m with
    | zero => intro _ h0; omega
    | succ m ih =>
      intro hm hi
      simp only [sumW]
      by_cases e : i = m
      · subst e; have := pos i (by omega); omega
      · have := ih (by omega) (by omega); have := h m (by omega); omega
  exact this k (Nat.le_refl _) hi

theorem dotW_const (x l : List Int) (c : Int) (k : Nat) (h : ∀ r, r < k → nth x r = 0 ∨ nth l r = c) : dotW x l k = c * sumW x k := by
  induction k with
  | zero => simp [dotW, sumW]
  | succ k ih =>
    simp only [dotW, sumW]; rw [ih (fun r hr => h r (by omega)), Int.mul_add]
    rcases h k (by omega) with e | e
    · rw [e]; simp
    · rw [e, Int.mul_comm (nth x k)]

/-- what the law says: the best rows, all alike -/
structure Bests (g : List (List Int)) (y : List Int) (l : List Int) : Prop where
  len : l.length ≤ 16
  some : 0 < l.length
  asc : l.Pairwise (· < ·)
  place : ∀ j, j < l.length → ∃ i : Nat, nth l j = (i : Int) ∧ i < g.length ∧ rowD g y i = riskN g y

theorem bestsOf {g : List (List Int)} {y : List Int} (h : risB g y = true) : Bests g y (bestL g y) := by
  have hg := Game.of (risB_iff.1 h).1
  have e : bestL g y = bestUpTo g y g.length := by simp [bestL, h]
  have hl := bestL_len g y
  rw [e] at hl ⊢
  obtain ⟨i, hi, hr⟩ := highN_at (rowsD g y) hg.lo
  refine ⟨hl, best_some g y _ i hi (by rw [← nth_rowsD g y i hi]; exact hr.symm), best_asc g y _, fun j hj => ?_⟩
  rw [nth_eq _ _ hj]
  exact best_mem g y _ _ (List.getElem_mem hj)

theorem best_avg {g : List (List Int)} {y : List Int} (h : risB g y = true) : let x := setAll g.length (bestL g y) (bestL g y).length; avgB g x y = true ∧ avgU g x y = risU g y ∧ avgD g x y = risD g y := by
  intro x
  have hb := bestsOf h
  have ok := ris_okB h
  obtain ⟨h1, h3⟩ := risB_iff.1 h
  have hg := Game.of h1
  have xl : x.length = g.length := setAll_length _ _ _
  have v : ∀ r, r < g.length → nth x r = 0 ∨ (nth x r = 1 ∧ rowD g y r = riskN g y) := fun r hr => by
    rcases setAll_val g.length (bestL g y) (bestL g y).length r hr with e | ⟨e, j, hj, e2⟩
    · exact .inl e
    · obtain ⟨i, e3, _, e4⟩ := hb.place j hj
      rw [e3] at e2
      have : i = r := by omega
      subst this; exact .inr ⟨e, e4⟩
  have p : 0 < sumW x g.length := by
    obtain ⟨i, e3, e4, _⟩ := hb.place 0 hb.some
    have e5 : (nth (bestL g y) 0).toNat < g.length := by rw [e3]; omega
    have e6 : nth x (nth (bestL g y) 0).toNat = 1 := setAll_one g.length (bestL g y) (bestL g y).length 0 hb.some e5
    have := sumW_ge x g.length _ e5 (fun r hr => by rcases v r hr with e | ⟨e, _⟩ <;> omega)
    omega
  have hm : Mix x g.length := ⟨xl, hg.lo, hg.hi, fun i hi => by rcases v i hi with e | ⟨e, _⟩ <;> omega, fun i hi => by rcases v i hi with e | ⟨e, _⟩ <;> omega, p⟩
  have hs : safB g x = true := safB_iff.2 ⟨h1, hm⟩
  have q := h3.pos
  have t : totN g x y g.length = riskN g y * sumW x g.length := dotW_const _ _ _ _ (fun r hr => by
    rcases v r hr with e | ⟨_, e⟩
    · exact .inl e
    · right; rw [nth_rowsD g y r hr]; exact e)
  simp only [risU, risD, h, if_true] at ok ⊢
  rw [h3.len] at ok ⊢
  have e5 : avN g x y = lowU (riskN g y) (sumW y (rowAt g 0).length) ∧ avM g x y = lowD (riskN g y) (sumW y (rowAt g 0).length) := by
    unfold avN avM
    rw [xl, h3.len, t]
    refine low_eq (Int.mul_pos p q) q ?_
    ac_rfl
  have hb : avgB g x y = true := avgB_iff.2 ⟨hs, h, by rw [e5.1, e5.2]; exact ok⟩
  refine ⟨hb, ?_⟩
  simp only [avgU, avgD, hb, if_true]
  exact e5

end Go.Proofs.Ytlkjpmdnhccdpaa
