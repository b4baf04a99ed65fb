/- Plain mathematics of mixtures, second part: fractions compared, weak duality, the other side, one row alone. It imports nothing of the program. -/
import Derived.Test.YtjojilimdhekfaaMmath
namespace Go.Proofs.Ytjojilimdhekfaa
set_option linter.unusedSimpArgs false
set_option linter.unusedVariables false

theorem low_eq {a b s t : Int} (hs : 0 < s) (ht : 0 < t) (h : a * t = b * s) : lowU a s = lowU b t ∧ lowD a s = lowD b t := by
  have e1 := low_cross a s (by omega)
  have e2 := low_cross b t (by omega)
  have p1 := lowD_pos a s (by omega)
  have p2 := lowD_pos b t (by omega)
  refine cross_eq p1 p2 (low_gcd a s (by omega)) (low_gcd b t (by omega)) ?_
  generalize lowU a s = A at *
  generalize lowD a s = P at *
  generalize lowU b t = B at *
  generalize lowD b t = Q at *
  have k : (A * Q) * (s * t) = (B * P) * (s * t) := by
    have k1 : (A * Q) * (s * t) = (A * s) * (Q * t) := by ac_rfl
    have k2 : (B * P) * (s * t) = (B * t) * (P * s) := by ac_rfl
    have k3 : a * P * (Q * t) = (a * t) * (P * Q) := by ac_rfl
    have k4 : b * Q * (P * s) = (b * s) * (P * Q) := by ac_rfl
    rw [k1, k2, e1, e2, k3, k4, h]
  exact Int.eq_of_mul_eq_mul_right (Int.ne_of_gt (Int.mul_pos hs ht)) k

theorem low_le {a b s t : Int} (hs : 0 < s) (ht : 0 < t) (h : b * s ≤ a * t) : lowU b t * lowD a s ≤ lowU a s * lowD b t := by
  have e1 := low_cross a s (by omega)
  have e2 := low_cross b t (by omega)
  have p1 := lowD_pos a s (by omega)
  have p2 := lowD_pos b t (by omega)
  generalize lowU a s = A at *
  generalize lowD a s = P at *
  generalize lowU b t = B at *
  generalize lowD b t = Q at *
  have k1 : (A * Q) * (s * t) = (a * t) * (P * Q) := by
    have : (A * Q) * (s * t) = (A * s) * (Q * t) := by ac_rfl
    rw [this, e1]; ac_rfl
  have k2 : (B * P) * (s * t) = (b * s) * (P * Q) := by
    have : (B * P) * (s * t) = (B * t) * (P * s) := by ac_rfl
    rw [this, e2]; ac_rfl
  have k3 : (b * s) * (P * Q) ≤ (a * t) * (P * Q) := Int.mul_le_mul_of_nonneg_right h (Int.mul_nonneg (by omega) (by omega))
  rw [← k1, ← k2] at k3
  exact Int.le_of_mul_le_mul_right k3 (Int.mul_pos hs ht)

theorem low_okB {a s : Int} (h1 : -1000000000 ≤ a) (h2 : a ≤ 1000000000) (h3 : 0 < s) (h4 : s ≤ 1000000000) : okB (lowU a s) (lowD a s) = true := by
  have b1 := lowU_in a s (M := 1000000000) h1 h2
  have b2 := lowD_in a s (M := 1000000000) (by omega) h4
  have p := lowD_pos a s (by omega)
  have g := low_gcd a s (by omega)
  rw [okB_iff]; exact ⟨b1.1, b1.2, p, b2.2, g⟩

theorem low_one (a : Int) : lowU a 1 = a ∧ lowD a 1 = 1 := low_of_ok (by omega) (by unfold gcdI; simp)

theorem low_negU (a s : Int) (hs : 0 < s) : lowU (-a) s = -lowU a s ∧ lowD (-a) s = lowD a s := by
  have e1 := low_cross a s (by omega)
  have e2 := low_cross (-a) s (by omega)
  have p1 := lowD_pos a s (by omega)
  have p2 := lowD_pos (-a) s (by omega)
  have g1 := low_gcd a s (by omega)
  have g1' : gcdI (-lowU a s) (lowD a s) = 1 := by unfold gcdI at *; rw [Int.neg_gcd]; exact g1
  refine cross_eq p2 p1 (low_gcd (-a) s (by omega)) g1' ?_
  generalize lowU a s = A at *
  generalize lowD a s = P at *
  generalize lowU (-a) s = B at *
  generalize lowD (-a) s = Q at *
  have k : (B * P) * s = (-A * Q) * s := by
    have k1 : (B * P) * s = (B * s) * P := by ac_rfl
    have k2 : (-A * Q) * s = -((A * s) * Q) := by rw [Int.neg_mul, Int.neg_mul]; congr 1; ac_rfl
    have k3 : a * P * Q = a * Q * P := by ac_rfl
    rw [k1, k2, e1, e2, k3, Int.neg_mul, Int.neg_mul]
  exact Int.eq_of_mul_eq_mul_right (by omega) k

theorem dotW_ge (x l : List Int) (B : Int) (k : Nat) (h : ∀ i, i < k → 0 ≤ nth x i) (hl : ∀ i, i < k → B ≤ nth l i) : B * sumW x k ≤ dotW x l k := by
  induction k with
  | zero => simp [sumW, dotW]
  | succ k ih =>
    have h1 := ih (fun i hi => h i (by omega)) (fun i hi => hl i (by omega))
    have h2 : nth x k * B ≤ nth x k * nth l k := Int.mul_le_mul_of_nonneg_left (hl k (by omega)) (h k (by omega))
    simp only [sumW, dotW]; rw [Int.mul_add, Int.mul_comm B (nth x k)]; omega

theorem dotW_le (x l : List Int) (B : Int) (k : Nat) (h : ∀ i, i < k → 0 ≤ nth x i) (hl : ∀ i, i < k → nth l i ≤ B) : dotW x l k ≤ B * sumW x k := by
  induction k with
  | zero => simp [sumW, dotW]
  | succ k ih =>
    have h1 := ih (fun i hi => h i (by omega)) (fun i hi => hl i (by omega))
    have h2 : nth x k * nth l k ≤ nth x k * B := Int.mul_le_mul_of_nonneg_left (hl k (by omega)) (h k (by omega))
    simp only [sumW, dotW]; rw [Int.mul_add, Int.mul_comm B (nth x k)]; omega

theorem dotW_congr (x l l' : List Int) (k : Nat) (h : ∀ i, i < k → nth l i = nth l' i) : dotW x l k = dotW x l' k := by
  induction k with
  | zero => rfl
  | succ k ih => simp only [dotW]; rw [ih (fun i hi => h i (by omega)), h k (by omega)]

/-- sums of sums, in the other order -/
def dotF (x : List Int) (f : Nat → Int) : Nat → Int
  | 0 => 0
  | k + 1 => dotF x f k + nth x k * f k

theorem dotW_F (x l : List Int) (k : Nat) : dotW x l k = dotF x (nth l) k := by
  induction k with
  | zero => rfl
  | succ k ih => simp only [dotW, dotF, ih]

theorem dotF_congr (x : List Int) (f f' : Nat → Int) (k : Nat) (h : ∀ i, i < k → f i = f' i) : dotF x f k = dotF x f' k := by
  induction k with
  | zero => rfl
  | succ k ih => simp only [dotF]; rw [ih (fun i hi => h i (by omega)), h k (by omega)]

theorem dotF_zero (x : List Int) (k : Nat) : dotF x (fun _ => 0) k = 0 := by
  induction k with
  | zero => rfl
  | succ k ih => simp [dotF, ih]

theorem dotF_add (x : List Int) (f g : Nat → Int) (c : Int) (k : Nat) : dotF x (fun j => f j + c * g j) k = dotF x f k + c * dotF x g k := by
  induction k with
  | zero => simp [dotF]
  | succ k ih =>
    simp only [dotF]; rw [ih, Int.mul_add, Int.mul_add]
    have : nth x k * (c * g k) = c * (nth x k * g k) := by ac_rfl
    omega

theorem dotF_swap (x y : List Int) (a : Nat → Nat → Int) (n m : Nat) : dotF y (fun j => dotF x (fun i => a i j) n) m = dotF x (fun i => dotF y (a i) m) n := by
  induction n with
  | zero => simp only [dotF]; exact dotF_zero y m
  | succ n ih =>
    simp only [dotF]
    rw [dotF_add y (fun j => dotF x (fun i => a i j) n) (fun j => a n j) (nth x n) m, ih]

theorem tot_swap {g : List (List Int)} {m : Nat} {x y : List Int} (hg : Game g m) (hy : Mix y m) : totN g x y g.length = dotW y (colsD g x) m := by
  have hm := hg.to.2
  subst hm
  unfold totN
  rw [dotW_F, dotW_F]
  have e1 : dotF x (nth (rowsD g y)) g.length = dotF x (fun i => dotF y (fun j => nth (rowAt g i) j) (rowAt g 0).length) g.length :=
    dotF_congr _ _ _ _ (fun i hi => by rw [nth_rowsD g y i hi]; unfold rowD; rw [dotW_F, hy.len])
  have e2 : dotF y (nth (colsD g x)) (rowAt g 0).length = dotF y (fun j => dotF x (fun i => nth (rowAt g i) j) g.length) (rowAt g 0).length :=
    dotF_congr _ _ _ _ (fun j hj => by rw [nth_colsD g x j hj]; unfold colD; rw [dotW_F]; exact dotF_congr _ _ _ _ (fun i hi => nth_col g j i hi))
  rw [e1, e2]
  exact (dotF_swap x y (fun i j => nth (rowAt g i) j) g.length (rowAt g 0).length).symm

/-- weak duality: what is safe, times all weights of columns, is at most the whole sum; and so the other way -/
theorem safe_le_tot {g : List (List Int)} {m : Nat} {x y : List Int} (hg : Game g m) (hy : Mix y m) : safeN g x * sumW y m ≤ totN g x y g.length := by
  have hm := hg.to.2
  rw [tot_swap hg hy]
  refine dotW_ge _ _ _ _ (fun j hj => hy.wlo j hj) (fun j hj => ?_)
  unfold safeN; exact lowN_le _ (by omega)

theorem tot_le_risk {g : List (List Int)} {m : Nat} {x y : List Int} (hx : Mix x g.length) (_ : Game g m) : totN g x y g.length ≤ riskN g y * sumW x g.length := by
  refine dotW_le _ _ _ _ (fun i hi => hx.wlo i hi) (fun i hi => ?_)
  unfold riskN; exact le_highN _ hi

theorem weak {g : List (List Int)} {m : Nat} {x y : List Int} (hg : Game g m) (hx : Mix x g.length) (hy : Mix y m) : safeN g x * sumW y m ≤ riskN g y * sumW x g.length :=
  Int.le_trans (safe_le_tot hg hy) (tot_le_risk hx hg)

/-- the other side -/
theorem safe_turned {g : List (List Int)} {m : Nat} {y : List Int} (hg : Game g m) (hy : Mix y m) : safeN (turnedL g) y = -riskN g y := by
  have hm := hg.to.2
  subst hm
  have ht := turned_game hg
  have hl := ht.to.2
  have e : ∀ i, i < g.length → nth (colsD (turnedL g) y) i = -nth (rowsD g y) i := fun i hi => by
    rw [nth_colsD _ _ i (by omega), nth_rowsD g y i hi]
    unfold colD rowD
    rw [turnedL_length, hy.len]
    have : ∀ k, k ≤ (rowAt g 0).length → dotW y (col (turnedL g) i) k = -dotW y (rowAt g i) k := fun k => by
      induction k with
      | zero => intro _; simp [dotW]
      | succ k ih =>
        intro hk
        simp only [dotW]
        rw [ih (by omega), nth_col _ _ _ (by rw [turnedL_length]; omega), nth_turnedL g k i (by omega) hi, Int.mul_neg]; omega
    exact this _ (Nat.le_refl _)
  unfold safeN riskN
  rw [← hl]
  have : ∀ k, k ≤ g.length → 0 < g.length → lowN (colsD (turnedL g) y) k = -highN (rowsD g y) k := fun k => by
    induction k with
    | zero => intro _ h0; exact e 0 h0
    | succ k ih =>
      intro hk h0
      simp only [lowN, highN]
      rw [ih (by omega) h0, e k (by omega)]; omega
  exact this _ (Nat.le_refl _) hg.lo

/-- one row, one column alone -/
theorem sumW_unit (x : List Int) (i : Nat) (c : Int) (k : Nat) (h : ∀ r, r < k → nth x r = if r = i then c else 0) : sumW x k = if i < k then c else 0 := by
  induction k with
  | zero => simp [sumW]
  | succ k ih =>
    simp only [sumW]; rw [ih (fun r hr => h r (by omega)), h k (by omega)]
    by_cases e : k = i
    · subst e; simp
    · rw [if_neg e]; by_cases hi : i < k
      · rw [if_pos hi, if_pos (by omega)]; omega
      · rw [if_neg hi, if_neg (by omega)]; omega

theorem dotW_unit (x l : List Int) (i : Nat) (k : Nat) (h : ∀ r, r < k → nth x r = if r = i then 1 else 0) : dotW x l k = if i < k then nth l i else 0 := by
  induction k with
  | zero => simp [dotW]
  | succ k ih =>
    simp only [dotW]; rw [ih (fun r hr => h r (by omega)), h k (by omega)]
    by_cases e : k = i
    · subst e; simp
    · rw [if_neg e]; by_cases hi : i < k
      · rw [if_pos hi, if_pos (by omega)]; omega
      · rw [if_neg hi, if_neg (by omega)]; omega

/-- twice the weights -/
def dbl (x : List Int) : List Int := x.map fun n => 2 * n

theorem dbl_length (x : List Int) : (dbl x).length = x.length := by simp [dbl]

theorem nth_dbl (x : List Int) (i : Nat) (h : i < x.length) : nth (dbl x) i = 2 * nth x i := by unfold dbl; rw [nth_map _ _ _ h, nth_eq x i h]

theorem sumW_dbl (x : List Int) (k : Nat) (h : k ≤ x.length) : sumW (dbl x) k = 2 * sumW x k := by
  induction k with
  | zero => simp [sumW]
  | succ k ih => simp only [sumW]; rw [ih (by omega), nth_dbl x k (by omega)]; omega

theorem dotW_dbl (x l : List Int) (k : Nat) (h : k ≤ x.length) : dotW (dbl x) l k = 2 * dotW x l k := by
  induction k with
  | zero => simp [dotW]
  | succ k ih => simp only [dotW]; rw [ih (by omega), nth_dbl x k (by omega), Int.mul_assoc]; omega

end Go.Proofs.Ytjojilimdhekfaa
