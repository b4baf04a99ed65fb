/- Texts in one: Learn, Gap, Least, LrnM. -/
import Derived.Test.YtlkjpmdnhccdpaaMA
import Derived.Test.YtlkjpmdnhccdpaaMD
import Derived.Test.YtlkjpmdnhccdpaaOA
import Derived.Test.YtlkjpmdnhccdpaaMB
import Derived.Test.YtlkjpmdnhccdpaaMF
namespace Go.Proofs.Ytlkjpmdnhccdpaa
set_option linter.unusedSimpArgs false
set_option linter.unusedVariables false
open Go.RowKit

/-- the first of the places 0 .. k with the greatest number, with the least one -/
def maxAt (f : Nat → Int) : Nat → Nat
  | 0 => 0
  | k + 1 => if f (maxAt f k) < f (k + 1) then k + 1 else maxAt f k

def minAt (f : Nat → Int) : Nat → Nat
  | 0 => 0
  | k + 1 => if f (k + 1) < f (minAt f k) then k + 1 else minAt f k

theorem maxAt_le (f : Nat → Int) (k : Nat) : maxAt f k ≤ k := by
  induction k with
  | zero => exact Nat.le_refl _
  | succ k ih => unfold maxAt; split <;> omega

theorem minAt_le (f : Nat → Int) (k : Nat) : minAt f k ≤ k := by
  induction k with
  | zero => exact Nat.le_refl _
  | succ k ih => unfold minAt; split <;> omega

theorem maxAt_zero {f : Nat → Int} {k : Nat} (h : ∀ i, i ≤ k → f i ≤ f 0) : maxAt f k = 0 := by
  induction k with
  | zero => rfl
  | succ k ih =>
    have e := ih (fun i hi => h i (by omega))
    unfold maxAt; rw [e, if_neg (by have := h (k + 1) (Nat.le_refl _); omega)]

theorem minAt_zero {f : Nat → Int} {k : Nat} (h : ∀ i, i ≤ k → f 0 ≤ f i) : minAt f k = 0 := by
  induction k with
  | zero => rfl
  | succ k ih =>
    have e := ih (fun i hi => h i (by omega))
    unfold minAt; rw [e, if_neg (by have := h (k + 1) (Nat.le_refl _); omega)]

/-- one more at a place -/
def bump (x : List Int) (r : Nat) : List Int := x.set r (nth x r + 1)

theorem bump_length (x : List Int) (r : Nat) : (bump x r).length = x.length := by simp [bump]

theorem nth_bump (x : List Int) (r i : Nat) (h : i < x.length) : nth (bump x r) i = if i = r then nth x i + 1 else nth x i := by
  rw [nth_eq _ _ (by rw [bump_length]; exact h)]
  unfold bump
  rw [List.getElem_set]
  by_cases e : r = i
  · subst e; simp
  · rw [if_neg e, if_neg (fun h => e h.symm), nth_eq _ _ h]

theorem sumW_bump (x : List Int) (r k : Nat) (h : k ≤ x.length) : sumW (bump x r) k = sumW x k + if r < k then 1 else 0 := by
  induction k with
  | zero => simp [sumW]
  | succ k ih =>
    simp only [sumW]
    rw [ih (by omega), nth_bump x r k (by omega)]
    by_cases e1 : k = r
    · subst e1; simp; omega
    · rw [if_neg e1]
      by_cases e2 : r < k
      · rw [if_pos e2, if_pos (by omega)]; omega
      · rw [if_neg e2, if_neg (by omega)]; omega

/-- the row, the column that is chosen next -/
def nextX (g : List (List Int)) (y : List Int) : Nat := maxAt (rowD g y) (g.length - 1)

def nextY (g : List (List Int)) (x : List Int) : Nat := minAt (colD g x) ((rowAt g 0).length - 1)

/-- how often each was chosen after k + 1 steps -/
def lrnP (g : List (List Int)) : Nat → List Int × List Int
  | 0 => (oneAt g.length 0 1, oneAt (rowAt g 0).length 0 1)
  | k + 1 => (bump (lrnP g k).1 (nextX g (lrnP g k).2), bump (lrnP g k).2 (nextY g (lrnP g k).1))

theorem lrnP_length (g : List (List Int)) (k : Nat) : (lrnP g k).1.length = g.length ∧ (lrnP g k).2.length = (rowAt g 0).length := by
  induction k with
  | zero => exact ⟨oneAt_length _ _ _, oneAt_length _ _ _⟩
  | succ k ih => exact ⟨by simp only [lrnP, bump_length]; exact ih.1, by simp only [lrnP, bump_length]; exact ih.2⟩

theorem bump_bd {x : List Int} {r : Nat} {M : Int} (h : ∀ i, i < x.length → 0 ≤ nth x i ∧ nth x i ≤ M) : ∀ i, i < (bump x r).length → 0 ≤ nth (bump x r) i ∧ nth (bump x r) i ≤ M + 1 := by
  intro i hi
  rw [bump_length] at hi
  rw [nth_bump x r i hi]
  have := h i hi
  split <;> omega

theorem oneAt_bd (m : Nat) : ∀ i, i < (oneAt m 0 1).length → 0 ≤ nth (oneAt m 0 1) i ∧ nth (oneAt m 0 1) i ≤ 1 := by
  intro i hi
  rw [oneAt_length] at hi
  rw [nth_oneAt m 0 i 1 hi]; split <;> omega

theorem lrnP_bd (g : List (List Int)) (k : Nat) : (∀ i, i < (lrnP g k).1.length → 0 ≤ nth (lrnP g k).1 i ∧ nth (lrnP g k).1 i ≤ (k : Int) + 1) ∧ (∀ i, i < (lrnP g k).2.length → 0 ≤ nth (lrnP g k).2 i ∧ nth (lrnP g k).2 i ≤ (k : Int) + 1) := by
  induction k with
  | zero => exact ⟨oneAt_bd _, oneAt_bd _⟩
  | succ k ih => exact ⟨fun i hi => by have := bump_bd ih.1 i hi; simp only [lrnP]; omega, fun i hi => by have := bump_bd ih.2 i hi; simp only [lrnP]; omega⟩

theorem one_sum {m : Nat} (h : 1 ≤ m) : sumW (oneAt m 0 1) m = 1 := by rw [sumW_unit _ 0 1 _ (fun r hr => nth_oneAt _ 0 r 1 hr), if_pos (by omega)]

theorem lrnP_sum {g : List (List Int)} (hm : 1 ≤ g.length) (hn : 1 ≤ (rowAt g 0).length) (k : Nat) : sumW (lrnP g k).1 g.length = (k : Int) + 1 ∧ sumW (lrnP g k).2 (rowAt g 0).length = (k : Int) + 1 := by
  induction k with
  | zero => exact ⟨one_sum hm, one_sum hn⟩
  | succ k ih =>
    have hl := lrnP_length g k
    have h1 := maxAt_le (rowD g (lrnP g k).2) (g.length - 1)
    have h2 := minAt_le (colD g (lrnP g k).1) ((rowAt g 0).length - 1)
    refine ⟨?_, ?_⟩
    · show sumW (bump (lrnP g k).1 (nextX g (lrnP g k).2)) g.length = _
      rw [sumW_bump _ _ _ (by rw [hl.1]; exact Nat.le_refl _), ih.1, if_pos (by unfold nextX; omega)]; omega
    · show sumW (bump (lrnP g k).2 (nextY g (lrnP g k).1)) (rowAt g 0).length = _
      rw [sumW_bump _ _ _ (by rw [hl.2]; exact Nat.le_refl _), ih.2, if_pos (by unfold nextY; omega)]; omega

theorem lrnP_mix {g : List (List Int)} (h : gameB g = true) {k : Nat} (hk : k ≤ 60) : Mix (lrnP g k).1 g.length ∧ Mix (lrnP g k).2 (rowAt g 0).length := by
  have hg := Game.of h
  have hl := lrnP_length g k
  have hb := lrnP_bd g k
  have hs := lrnP_sum hg.lo hg.mlo k
  refine ⟨⟨hl.1, hg.lo, hg.hi, fun i hi => (hb.1 i (by omega)).1, fun i hi => ?_, by omega⟩, ⟨hl.2, hg.mlo, hg.mhi, fun i hi => (hb.2 i (by omega)).1, fun i hi => ?_, by omega⟩⟩
  · have := (hb.1 i (by omega)).2; omega
  · have := (hb.2 i (by omega)).2; omega

theorem lrn_safe {g : List (List Int)} (h : gameB g = true) {k : Nat} (hk : k ≤ 60) : safB g (lrnP g k).1 = true ∧ risB g (lrnP g k).2 = true :=
  ⟨safB_iff.2 ⟨h, (lrnP_mix h hk).1⟩, risB_iff.2 ⟨h, (lrnP_mix h hk).2⟩⟩

theorem dotW_unitC (x l : List Int) (i : Nat) (c : Int) (k : Nat) (h : ∀ r, r < k → nth x r = if r = i then c else 0) : dotW x l k = if i < k then c * nth l i else 0 := by
  induction k with
  | zero => simp [dotW]
  | succ k ih =>
    simp only [dotW]
    rw [ih (fun r hr => h r (by omega)), h k (by omega)]
    by_cases e1 : k = i
    · subst e1; rw [if_neg (by omega), if_pos rfl, if_pos (by omega)]; omega
    · rw [if_neg e1]
      by_cases e2 : i < k
      · rw [if_pos e2, if_pos (by omega)]; omega
      · rw [if_neg e2, if_neg (by omega)]; omega

/-- where place (0, 0) is a saddle, nothing else is chosen -/
theorem lrn_saddle {g : List (List Int)} (h : gameB g = true) (hr : ∀ j, j < (rowAt g 0).length → nth (rowAt g 0) 0 ≤ nth (rowAt g 0) j) (hc : ∀ i, i < g.length → nth (rowAt g i) 0 ≤ nth (rowAt g 0) 0) (k : Nat) :
    (∀ i, i < g.length → nth (lrnP g k).1 i = if i = 0 then (k : Int) + 1 else 0) ∧ (∀ j, j < (rowAt g 0).length → nth (lrnP g k).2 j = if j = 0 then (k : Int) + 1 else 0) := by
  have hg := Game.of h
  induction k with
  | zero => exact ⟨fun i hi => by show nth (oneAt _ _ _) _ = _; rw [nth_oneAt _ _ _ _ hi]; simp, fun j hj => by show nth (oneAt _ _ _) _ = _; rw [nth_oneAt _ _ _ _ hj]; simp⟩
  | succ k ih =>
    have hl := lrnP_length g k
    have e1 : nextX g (lrnP g k).2 = 0 := maxAt_zero fun i hi => by
      have hd : ∀ r, r < g.length → rowD g (lrnP g k).2 r = ((k : Int) + 1) * nth (rowAt g r) 0 := fun r _ => by
        unfold rowD
        rw [hl.2, dotW_unitC _ _ 0 _ _ ih.2, if_pos (by have := hg.mlo; omega)]
      have hlo := hg.lo
      rw [hd i (by omega), hd 0 (by omega)]
      exact Int.mul_le_mul_of_nonneg_left (hc i (by omega)) (by omega)
    have e2 : nextY g (lrnP g k).1 = 0 := minAt_zero fun j hj => by
      have hmlo := hg.mlo
      have hlo := hg.lo
      have hd : ∀ r, r < (rowAt g 0).length → colD g (lrnP g k).1 r = ((k : Int) + 1) * nth (rowAt g 0) r := fun r hr' => by
        unfold colD
        rw [dotW_unitC _ _ 0 _ _ ih.1, if_pos (by omega), nth_col g r 0 (by omega)]
      rw [hd j (by omega), hd 0 (by omega)]
      exact Int.mul_le_mul_of_nonneg_left (hr j (by omega)) (by omega)
    refine ⟨fun i hi => ?_, fun j hj => ?_⟩
    · show nth (bump (lrnP g k).1 (nextX g (lrnP g k).2)) i = _
      rw [e1, nth_bump _ _ _ (by omega), ih.1 i hi]; split <;> simp_all
    · show nth (bump (lrnP g k).2 (nextY g (lrnP g k).1)) j = _
      rw [e2, nth_bump _ _ _ (by omega), ih.2 j hj]; split <;> simp_all

theorem lrn_settled {g : List (List Int)} (h : gameB g = true) (hr : ∀ j, j < (rowAt g 0).length → nth (rowAt g 0) 0 ≤ nth (rowAt g 0) j) (hc : ∀ i, i < g.length → nth (rowAt g i) 0 ≤ nth (rowAt g 0) 0) {k : Nat} (hk : k ≤ 60) :
    setB g (lrnP g k).1 (lrnP g k).2 = true := by
  have hg := Game.of h
  have hlo := hg.lo
  have hmlo := hg.mlo
  have hl := lrnP_length g k
  obtain ⟨ex, ey⟩ := lrn_saddle h hr hc k
  obtain ⟨s1, s2⟩ := lrn_safe h hk
  obtain ⟨u1, u2⟩ := lrnP_sum hlo hmlo k
  have hcd : ∀ r, r < (rowAt g 0).length → colD g (lrnP g k).1 r = ((k : Int) + 1) * nth (rowAt g 0) r := fun r hr' => by
    unfold colD
    rw [dotW_unitC _ _ 0 _ _ ex, if_pos (by omega), nth_col g r 0 (by omega)]
  have hrd : ∀ r, r < g.length → rowD g (lrnP g k).2 r = ((k : Int) + 1) * nth (rowAt g r) 0 := fun r _ => by
    unfold rowD
    rw [hl.2, dotW_unitC _ _ 0 _ _ ey, if_pos (by omega)]
  have e1 : safeN g (lrnP g k).1 = ((k : Int) + 1) * nth (rowAt g 0) 0 := by
    obtain ⟨j, hj, e⟩ := lowN_at (colsD g (lrnP g k).1) (k := (rowAt g 0).length) (by omega)
    have h0 := lowN_le (colsD g (lrnP g k).1) (k := (rowAt g 0).length) (i := 0) (by omega)
    unfold safeN
    rw [nth_colsD _ _ 0 (by omega), hcd 0 (by omega)] at h0
    have h2 := Int.mul_le_mul_of_nonneg_left (hr j hj) (show (0 : Int) ≤ (k : Int) + 1 by omega)
    rw [nth_colsD _ _ j hj, hcd j hj] at e
    omega
  have e2 : riskN g (lrnP g k).2 = ((k : Int) + 1) * nth (rowAt g 0) 0 := by
    obtain ⟨i, hi, e⟩ := highN_at (rowsD g (lrnP g k).2) (k := g.length) (by omega)
    have h0 := le_highN (rowsD g (lrnP g k).2) (k := g.length) (i := 0) (by omega)
    unfold riskN
    rw [nth_rowsD _ _ 0 (by omega), hrd 0 (by omega)] at h0
    have h2 := Int.mul_le_mul_of_nonneg_left (hc i hi) (show (0 : Int) ≤ (k : Int) + 1 by omega)
    rw [nth_rowsD _ _ i hi, hrd i hi] at e
    omega
  unfold setB safU risU safD risD
  rw [s1, s2, if_pos rfl, if_pos rfl, if_pos rfl, if_pos rfl, hl.1, hl.2, u1, u2, e1, e2]
  simp

theorem sadRow_mem {g : List (List Int)} {i j : Nat} {e : Int} (h : e ∈ sadRow g i j) : ∃ q, q < j ∧ sadB g i q = true ∧ e = (i : Int) * ((rowAt g 0).length : Int) + (q : Int) := by
  induction j with
  | zero => simp [sadRow] at h
  | succ j ih =>
    unfold sadRow at h
    split at h
    · rename_i hs
      rcases List.mem_append.1 h with h | h
      · obtain ⟨q, a, b⟩ := ih h; exact ⟨q, by omega, b⟩
      · exact ⟨j, by omega, hs, by simpa using h⟩
    · obtain ⟨q, a, b⟩ := ih h; exact ⟨q, by omega, b⟩

theorem sadAll_mem {g : List (List Int)} {i : Nat} {e : Int} (h : e ∈ sadAll g i) : ∃ p q, p < i ∧ q < (rowAt g 0).length ∧ sadB g p q = true ∧ e = (p : Int) * ((rowAt g 0).length : Int) + (q : Int) := by
  induction i with
  | zero => simp [sadAll] at h
  | succ i ih =>
    unfold sadAll at h
    rcases List.mem_append.1 h with h | h
    · obtain ⟨p, q, a, b⟩ := ih h; exact ⟨p, q, by omega, b⟩
    · obtain ⟨q, a, b⟩ := sadRow_mem h; exact ⟨i, q, by omega, a, b⟩

/-- where the first saddle is place 0, what was learned is settled -/
theorem lrn_first {g : List (List Int)} (h : gameB g = true) (h0 : 0 < (saddles g).length) (h1 : nth (saddles g) 0 = 0) {k : Nat} (hk : k ≤ 60) : setB g (lrnP g k).1 (lrnP g k).2 = true := by
  have hg := Game.of h
  have hlo := hg.lo
  have hmlo := hg.mlo
  have hm : (0 : Int) ∈ sadAll g g.length := by
    have e : saddles g = sadAll g g.length := by unfold saddles sadUpTo; rw [if_pos h]; simp [sadRow]
    rw [← e, ← h1, nth_eq _ _ h0]; exact List.getElem_mem _
  obtain ⟨p, q, hp, hq, hs, e⟩ := sadAll_mem hm
  have hp0 : p = 0 := by
    rcases Nat.eq_zero_or_pos p with e0 | e0
    · exact e0
    · have : (1 : Int) * 1 ≤ (p : Int) * ((rowAt g 0).length : Int) := Int.mul_le_mul (by omega) (by omega) (by omega) (by omega)
      omega
  subst hp0
  obtain rfl : q = 0 := by simp at e; omega
  unfold sadB at hs
  rw [Bool.and_eq_true, beq_iff_eq, beq_iff_eq, nth_lows g 0 (by omega), nth_highs g 0 (by omega)] at hs
  refine lrn_settled h (fun j hj => ?_) (fun i hi => ?_) hk
  · rw [hs.1]; exact lowN_le _ hj
  · have := le_highN (col g 0) (k := g.length) (i := i) hi
    rw [nth_col g 0 i hi] at this
    rw [hs.2]; exact this

end Go.Proofs.Ytlkjpmdnhccdpaa

namespace Go.Proofs.Ytlkjpmdnhccdpaa
set_option linter.unusedSimpArgs false
set_option linter.unusedVariables false
open Go.RowKit

theorem dotW_nine (x l : List Int) (k : Nat) (hx : ∀ i, i < k → 0 ≤ nth x i) (hl : ∀ i, i < k → -9 ≤ nth l i ∧ nth l i ≤ 9) : -(9 * sumW x k) ≤ dotW x l k ∧ dotW x l k ≤ 9 * sumW x k := by
  induction k with
  | zero => simp [dotW, sumW]
  | succ k ih =>
    have h := ih (fun i hi => hx i (by omega)) (fun i hi => hl i (by omega))
    have h1 := hx k (by omega)
    have h2 := hl k (by omega)
    have c1 : nth x k * nth l k ≤ nth x k * 9 := Int.mul_le_mul_of_nonneg_left h2.2 h1
    have c2 : nth x k * (-9) ≤ nth x k * nth l k := Int.mul_le_mul_of_nonneg_left h2.1 h1
    simp only [dotW, sumW]; omega

theorem abs_low (n d : Int) {N : Int} (h : -N ≤ n ∧ n ≤ N) : -N ≤ lowU n d ∧ lowU n d ≤ N := by
  have := abs_tdiv_le n (if d < 0 then -gcdI n d else gcdI n d)
  unfold lowU; omega

/-- how great the fractions are -/
structure GapBd (g : List (List Int)) (k : Nat) : Prop where
  sok : okB (safU g (lrnP g k).1) (safD g (lrnP g k).1) = true
  rok : okB (risU g (lrnP g k).2) (risD g (lrnP g k).2) = true
  su : -540 ≤ safU g (lrnP g k).1 ∧ safU g (lrnP g k).1 ≤ 540
  ru : -540 ≤ risU g (lrnP g k).2 ∧ risU g (lrnP g k).2 ≤ 540
  sd : safD g (lrnP g k).1 ≤ 60
  rd : risD g (lrnP g k).2 ≤ 60

theorem gap_bd {g : List (List Int)} (h : gameB g = true) {k : Nat} (hk : k ≤ 59) : GapBd g k := by
  have hg := Game.of h
  obtain ⟨s1, s2⟩ := lrn_safe h (show k ≤ 60 by omega)
  obtain ⟨mx, my⟩ := lrnP_mix h (show k ≤ 60 by omega)
  obtain ⟨u1, u2⟩ := lrnP_sum hg.lo hg.mlo k
  have hl := lrnP_length g k
  have hlo := hg.lo
  have hmlo := hg.mlo
  have e1 : -540 ≤ safeN g (lrnP g k).1 ∧ safeN g (lrnP g k).1 ≤ 540 := by
    obtain ⟨j, hj, e⟩ := lowN_at (colsD g (lrnP g k).1) (k := (rowAt g 0).length) (by omega)
    have := dotW_nine (lrnP g k).1 (col g j) g.length mx.wlo (fun i hi => by rw [nth_col g j i hi]; exact ⟨hg.nlo i hi j hj, hg.nhi i hi j hj⟩)
    unfold safeN; rw [e, nth_colsD _ _ j hj]; unfold colD; omega
  have e2 : -540 ≤ riskN g (lrnP g k).2 ∧ riskN g (lrnP g k).2 ≤ 540 := by
    obtain ⟨i, hi, e⟩ := highN_at (rowsD g (lrnP g k).2) (k := g.length) (by omega)
    have := dotW_nine (lrnP g k).2 (rowAt g i) (rowAt g 0).length my.wlo (fun j hj => ⟨hg.nlo i hi j hj, hg.nhi i hi j hj⟩)
    unfold riskN; rw [e, nth_rowsD _ _ i hi]; unfold rowD; rw [hl.2]; omega
  refine ⟨saf_okB s1, ris_okB s2, ?_, ?_, ?_, ?_⟩
  · unfold safU; rw [if_pos s1]; exact abs_low _ _ e1
  · unfold risU; rw [if_pos s2]; exact abs_low _ _ e2
  · unfold safD; rw [if_pos s1, hl.1, u1]; have := lowD_le (safeN g (lrnP g k).1) ((k : Int) + 1) (by omega); omega
  · unfold risD; rw [if_pos s2, hl.2, u2]; have := lowD_le (riskN g (lrnP g k).2) ((k : Int) + 1) (by omega); omega

/-- the gap after k + 1 steps -/
def gpU (g : List (List Int)) (k : Nat) : Int := psU (risU g (lrnP g k).2) (risD g (lrnP g k).2) (mnU (safU g (lrnP g k).1) (safD g (lrnP g k).1)) (mnD (safU g (lrnP g k).1) (safD g (lrnP g k).1))

def gpD (g : List (List Int)) (k : Nat) : Int := psD (risU g (lrnP g k).2) (risD g (lrnP g k).2) (mnU (safU g (lrnP g k).1) (safD g (lrnP g k).1)) (mnD (safU g (lrnP g k).1) (safD g (lrnP g k).1))

structure GapF (g : List (List Int)) (k : Nat) : Prop where
  ps : psB (risU g (lrnP g k).2) (risD g (lrnP g k).2) (mnU (safU g (lrnP g k).1) (safD g (lrnP g k).1)) (mnD (safU g (lrnP g k).1) (safD g (lrnP g k).1)) = true
  ok : okB (gpU g k) (gpD g k) = true
  nn : 0 ≤ gpU g k
  zero : (gpU g k = 0 ∧ gpD g k = 1) ↔ setB g (lrnP g k).1 (lrnP g k).2 = true

theorem gap_facts {g : List (List Int)} (h : gameB g = true) {k : Nat} (hk : k ≤ 59) : GapF g k := by
  obtain ⟨sok, rok, su, ru, sd, rd⟩ := gap_bd h hk
  obtain ⟨s1, s2⟩ := lrn_safe h (show k ≤ 60 by omega)
  have hsr := saf_ris s1 s2
  have hset : setB g (lrnP g k).1 (lrnP g k).2 = true ↔ safU g (lrnP g k).1 = risU g (lrnP g k).2 ∧ safD g (lrnP g k).1 = risD g (lrnP g k).2 := by
    unfold setB; rw [s1, s2]; simp
  suffices hh : psB (risU g (lrnP g k).2) (risD g (lrnP g k).2) (mnU (safU g (lrnP g k).1) (safD g (lrnP g k).1)) (mnD (safU g (lrnP g k).1) (safD g (lrnP g k).1)) = true ∧ okB (gpU g k) (gpD g k) = true ∧ 0 ≤ gpU g k ∧ ((gpU g k = 0 ∧ gpD g k = 1) ↔ setB g (lrnP g k).1 (lrnP g k).2 = true) from ⟨hh.1, hh.2.1, hh.2.2.1, hh.2.2.2⟩
  unfold gpU gpD
  rw [hset]
  clear hset s1 s2
  generalize safU g (lrnP g k).1 = a at *
  generalize safD g (lrnP g k).1 = b at *
  generalize risU g (lrnP g k).2 = c at *
  generalize risD g (lrnP g k).2 = d at *
  have hmu : mnU a b = -a := by unfold mnU; rw [if_pos sok]
  have hmd : mnD a b = b := by unfold mnD; rw [if_pos sok]
  have hso := okB_iff.1 sok
  have hro := okB_iff.1 rok
  rw [hmu, hmd]
  have hmok : okB (-a) b = true := okB_iff.2 ⟨by omega, by omega, by omega, by omega, by unfold gcdI; rw [Int.neg_gcd]; exact hso.2.2.2.2⟩
  have hden := mul_bd (x := d) (y := b) (a := 60) (b := 60) (by omega) rd (by omega) sd
  have hden1 : 1 * 1 ≤ d * b := Int.mul_le_mul (by omega) (by omega) (by omega) (by omega)
  have hcb : c * b ≤ 540 * 60 ∧ -(540 * 60) ≤ c * b := by
    rcases Int.le_total 0 c with q | q
    · have := mul_bd (x := c) (y := b) q ru.2 (by omega) sd; omega
    · have := mul_bd (x := -c) (y := b) (by omega) (show -c ≤ 540 by omega) (by omega) sd
      rw [Int.neg_mul] at this; omega
  have had : a * d ≤ 540 * 60 ∧ -(540 * 60) ≤ a * d := by
    rcases Int.le_total 0 a with q | q
    · have := mul_bd (x := a) (y := d) q su.2 (by omega) rd; omega
    · have := mul_bd (x := -a) (y := d) (by omega) (show -a ≤ 540 by omega) (by omega) rd
      rw [Int.neg_mul] at this; omega
  have hnum : c * b + -a * d = c * b - a * d := by rw [Int.neg_mul]; omega
  have hU : plU c d (-a) b = lowU (c * b - a * d) (d * b) := by unfold plU; rw [hnum]
  have hD : plD c d (-a) b = lowD (c * b - a * d) (d * b) := by unfold plD; rw [hnum]
  have hb1 := abs_low (c * b - a * d) (d * b) (N := 64800) (by omega)
  have hb2 := lowD_le (c * b - a * d) (d * b) (by omega)
  have hb3 := lowD_pos (c * b - a * d) (d * b) (by omega)
  have hcr := low_cross (c * b - a * d) (d * b) (by omega)
  have hpl : plB c d (-a) b = true := plB_iff.2 (by rw [hU, hD]; omega)
  have hps : psB c d (-a) b = true := by unfold psB; rw [rok, hmok, hpl]; rfl
  have hpu : psU c d (-a) b = lowU (c * b - a * d) (d * b) := by unfold psU; rw [if_pos hps, hU]
  have hpd : psD c d (-a) b = lowD (c * b - a * d) (d * b) := by unfold psD; rw [if_pos hps, hD]
  have hok := plB_ok rok hmok
  rw [hpl, hU, hD] at hok
  rw [hpu, hpd]
  refine ⟨hps, hok, ?_, ?_, ?_⟩
  · have h1 : 0 ≤ (c * b - a * d) * lowD (c * b - a * d) (d * b) := Int.mul_nonneg (by omega) (by omega)
    rw [← hcr] at h1
    exact Int.le_of_mul_le_mul_right (a := d * b) (by rw [Int.zero_mul]; exact h1) (by omega)
  · intro ⟨e1, e2⟩
    rw [e1, e2] at hcr
    have := cross_eq (a := a) (b := b) (c := c) (d := d) (by omega) (by omega) hso.2.2.2.2 hro.2.2.2.2 (by omega)
    exact ⟨this.1, this.2⟩
  · intro ⟨e1, e2⟩
    subst e1 e2
    have hz : a * b - a * b = 0 := by omega
    rw [hz] at hcr hok ⊢
    have hz2 : lowU 0 (b * b) = 0 := by
      have : lowU 0 (b * b) * (b * b) = 0 := by rw [hcr]; simp
      rcases Int.mul_eq_zero.1 this with q | q
      · exact q
      · omega
    refine ⟨hz2, ?_⟩
    have := (okB_iff.1 hok).2.2.2.2
    rw [hz2] at this
    unfold gcdI at this
    simp at this
    have := (okB_iff.1 hok).2.2.1
    omega

end Go.Proofs.Ytlkjpmdnhccdpaa

namespace Go.Proofs.Ytlkjpmdnhccdpaa
set_option linter.unusedSimpArgs false
set_option linter.unusedVariables false
open Go.RowKit

theorem frac_trans {a b c d e f : Int} (hb : 0 < b) (hd : 0 < d) (hf : 0 < f) (h1 : a * d ≤ c * b) (h2 : c * f ≤ e * d) : a * f ≤ e * b := by
  have k1 : a * d * f ≤ c * b * f := Int.mul_le_mul_of_nonneg_right h1 (by omega)
  have k2 : c * f * b ≤ e * d * b := Int.mul_le_mul_of_nonneg_right h2 (by omega)
  have e1 : a * d * f = a * f * d := by rw [Int.mul_assoc, Int.mul_comm d f, ← Int.mul_assoc]
  have e2 : c * b * f = c * f * b := by rw [Int.mul_assoc, Int.mul_comm b f, ← Int.mul_assoc]
  have e3 : e * d * b = e * b * d := by rw [Int.mul_assoc, Int.mul_comm d b, ← Int.mul_assoc]
  rw [e1, e2] at k1
  rw [e3] at k2
  exact Int.le_of_mul_le_mul_right (Int.le_trans k1 k2) hd

/-- is the gap after i + 1 steps less than that after j + 1 -/
def gLess (g : List (List Int)) (i j : Nat) : Bool := lessB (gpU g i) (gpD g i) (gpU g j) (gpD g j)

/-- the first of the steps 0 .. k with the least gap -/
def lstAt (g : List (List Int)) : Nat → Nat
  | 0 => 0
  | k + 1 => if gLess g (k + 1) (lstAt g k) = true then k + 1 else lstAt g k

theorem lstAt_le (g : List (List Int)) (k : Nat) : lstAt g k ≤ k := by
  induction k with
  | zero => exact Nat.le_refl _
  | succ k ih => unfold lstAt; split <;> omega

theorem gLess_iff {g : List (List Int)} (h : gameB g = true) {i j : Nat} (hi : i ≤ 59) (hj : j ≤ 59) : gLess g i j = true ↔ gpU g i * gpD g j < gpU g j * gpD g i := by
  unfold gLess
  rw [lessB_ok (gap_facts h hi).ok (gap_facts h hj).ok, decide_eq_true_eq]

theorem gap_pos {g : List (List Int)} (h : gameB g = true) {i : Nat} (hi : i ≤ 59) : 0 < gpD g i := by
  have := (okB_iff.1 (gap_facts h hi).ok).2.2.1; omega

/-- none is less -/
theorem lst_least {g : List (List Int)} (h : gameB g = true) {k : Nat} (hk : k ≤ 59) : ∀ j, j ≤ k → gLess g j (lstAt g k) = false := by
  induction k with
  | zero =>
    intro j hj
    obtain rfl : j = 0 := by omega
    show gLess g 0 0 = false
    rw [← Bool.not_eq_true, gLess_iff h (by omega) (by omega)]; omega
  | succ k ih =>
    intro j hj
    have hb := lstAt_le g k
    have ih' := ih (by omega)
    unfold lstAt
    split
    · rename_i hs
      rw [gLess_iff h (by omega) (by omega)] at hs
      rw [← Bool.not_eq_true, gLess_iff h (by omega) (by omega)]
      by_cases e : j = k + 1
      · subst e; omega
      · have h1 := ih' j (by omega)
        rw [← Bool.not_eq_true, gLess_iff h (by omega) (by omega)] at h1
        have h2 : gpU g (lstAt g k) * gpD g j ≤ gpU g j * gpD g (lstAt g k) := by omega
        have := frac_trans (gap_pos h (i := k + 1) (by omega)) (gap_pos h (i := lstAt g k) (by omega)) (gap_pos h (i := j) (by omega)) (Int.le_of_lt hs) h2
        omega
    · rename_i hs
      by_cases e : j = k + 1
      · subst e; simpa using hs
      · exact ih' j (by omega)

/-- one step more has no greater least gap -/
theorem lst_more {g : List (List Int)} (h : gameB g = true) {k : Nat} (hk : k + 1 ≤ 59) : gLess g (lstAt g k) (lstAt g (k + 1)) = false :=
  lst_least h hk _ (by have := lstAt_le g k; omega)

end Go.Proofs.Ytlkjpmdnhccdpaa

namespace Go.Proofs.Ytlkjpmdnhccdpaa
set_option linter.unusedSimpArgs false
set_option linter.unusedVariables false
open Go.RowKit

theorem lrn_caught {g : List (List Int)} (hs : solB g = true) {k : Nat} (hk : k ≤ 60) :
    lessB (solU g) (solD g) (safU g (lrnP g k).1) (safD g (lrnP g k).1) = false ∧ lessB (risU g (lrnP g k).2) (risD g (lrnP g k).2) (solU g) (solD g) = false := by
  obtain ⟨hb, _, _, h1, e1, e2⟩ := sol_parts hs
  obtain ⟨s1, s2⟩ := lrn_safe hb hk
  have a := set_rows h1 s1
  have b := set_cols h1 s2
  rw [← e1, ← e2] at a b
  refine ⟨?_, ?_⟩
  · rw [lessB_ok (sol_okB hs) (saf_okB s1)]; exact decide_eq_false (by omega)
  · rw [lessB_ok (ris_okB s2) (sol_okB hs)]; exact decide_eq_false (by omega)

end Go.Proofs.Ytlkjpmdnhccdpaa
