/- Plain mathematics of mixtures: weights, sums of products, what is safe, what is risked. It imports nothing of the program. -/
import Derived.Test.YtjojilimdhekfaaMath
import Derived.Test.YtjojilimdhekfaaGmath2
namespace Go.Proofs.Ytjojilimdhekfaa
set_option linter.unusedSimpArgs false
set_option linter.unusedVariables false

/-- sums of weights, sums of products -/
def sumW (x : List Int) : Nat → Int
  | 0 => 0
  | k + 1 => sumW x k + nth x k

def dotW (x l : List Int) : Nat → Int
  | 0 => 0
  | k + 1 => dotW x l k + nth x k * nth l k

/-- may a number be a weight; may the first k -/
def wB (n : Int) : Bool := decide (0 ≤ n) && decide (n ≤ 100000)

theorem wB_iff {n : Int} : wB n = true ↔ 0 ≤ n ∧ n ≤ 100000 := by simp [wB]

theorem wB_false {n : Int} : wB n = false ↔ n < 0 ∨ 100000 < n := by
  rw [← Bool.not_eq_true, wB_iff]; omega

def wsB (x : List Int) : Nat → Bool
  | 0 => true
  | k + 1 => wsB x k && wB (nth x k)

theorem wsB_iff {x : List Int} {k : Nat} : wsB x k = true ↔ ∀ i, i < k → 0 ≤ nth x i ∧ nth x i ≤ 100000 := by
  induction k with
  | zero => simp [wsB]
  | succ k ih =>
    simp only [wsB, Bool.and_eq_true, ih, wB_iff]
    refine ⟨fun ⟨h1, h2⟩ i hi => ?_, fun h => ⟨fun i hi => h i (by omega), h k (by omega)⟩⟩
    rcases Nat.lt_or_eq_of_le (Nat.le_of_lt_succ hi) with h | rfl
    · exact h1 i h
    · exact h2

theorem wsB_no {x : List Int} {k n : Nat} (h : wB (nth x k) = false) (hk : k < n) : wsB x n = false := by
  rw [← Bool.not_eq_true, wsB_iff]; intro hh
  have := hh k hk
  rw [wB_false] at h; omega

/-- is a list a mixture of so many weights -/
def mixB (x : List Int) (many : Int) : Bool := wsB x x.length && inR many 1 16 && ((x.length : Int) == many) && decide (0 < sumW x x.length)

/-- what a mixture is, in inequalities -/
structure Mix (x : List Int) (m : Nat) : Prop where
  len : x.length = m
  lo : 1 ≤ m
  hi : m ≤ 16
  wlo : ∀ i, i < m → 0 ≤ nth x i
  whi : ∀ i, i < m → nth x i ≤ 100000
  pos : 0 < sumW x m

theorem Mix.of {x : List Int} {m : Nat} (h : mixB x (m : Int) = true) : Mix x m := by
  simp only [mixB, inR, Bool.and_eq_true, decide_eq_true_eq, beq_iff_eq, wsB_iff] at h
  obtain ⟨⟨⟨h1, h2, h3⟩, h4⟩, h5⟩ := h
  have e : x.length = m := by omega
  rw [e] at h1 h5
  exact ⟨e, by omega, by omega, fun i hi => (h1 i hi).1, fun i hi => (h1 i hi).2, h5⟩

theorem Mix.to {x : List Int} {m : Nat} (h : Mix x m) : mixB x (m : Int) = true := by
  obtain ⟨h1, h2, h3, h4, h5, h6⟩ := h
  simp only [mixB, inR, Bool.and_eq_true, decide_eq_true_eq, beq_iff_eq, wsB_iff]
  rw [h1]
  exact ⟨⟨⟨fun i hi => ⟨h4 i hi, h5 i hi⟩, by omega, by omega⟩, rfl⟩, h6⟩

theorem sumW_bd (x : List Int) (k : Nat) (h : ∀ i, i < k → 0 ≤ nth x i ∧ nth x i ≤ 100000) : 0 ≤ sumW x k ∧ sumW x k ≤ 100000 * (k : Int) := by
  induction k with
  | zero => simp [sumW]
  | succ k ih =>
    have h1 := ih (fun i hi => h i (by omega))
    have h2 := h k (by omega)
    simp only [sumW]; omega

theorem prod_bd {a b A B : Int} (a0 : 0 ≤ a) (a1 : a ≤ A) (b0 : -B ≤ b) (b1 : b ≤ B) (hB : 0 ≤ B) : -(A * B) ≤ a * b ∧ a * b ≤ A * B := by
  have h1 : a * b ≤ a * B := Int.mul_le_mul_of_nonneg_left b1 a0
  have h2 : a * B ≤ A * B := Int.mul_le_mul_of_nonneg_right a1 hB
  have h3 : a * (-B) ≤ a * b := Int.mul_le_mul_of_nonneg_left b0 a0
  rw [Int.mul_neg] at h3
  omega

theorem dotW_bd (x l : List Int) (B : Int) (hB : 0 ≤ B) (k : Nat) (h : ∀ i, i < k → 0 ≤ nth x i ∧ nth x i ≤ 100000) (hl : ∀ i, i < k → -B ≤ nth l i ∧ nth l i ≤ B) : -(100000 * B * (k : Int)) ≤ dotW x l k ∧ dotW x l k ≤ 100000 * B * (k : Int) := by
  induction k with
  | zero => simp [dotW]
  | succ k ih =>
    have h1 := ih (fun i hi => h i (by omega)) (fun i hi => hl i (by omega))
    have h2 := h k (by omega)
    have h3 := hl k (by omega)
    have h4 := prod_bd h2.1 h2.2 h3.1 h3.2 hB
    have e : 100000 * B * ((k + 1 : Nat) : Int) = 100000 * B * (k : Int) + 100000 * B := by
      rw [Int.natCast_add, Int.mul_add]; simp
    simp only [dotW]; rw [e]; omega

/-- what a mixture of rows gets against a column, what a row gets against a mixture of columns: times all weights -/
def colD (g : List (List Int)) (x : List Int) (j : Nat) : Int := dotW x (col g j) g.length

def rowD (g : List (List Int)) (y : List Int) (i : Nat) : Int := dotW y (rowAt g i) y.length

def colsD (g : List (List Int)) (x : List Int) : List Int := (List.range (rowAt g 0).length).map (colD g x)

def rowsD (g : List (List Int)) (y : List Int) : List Int := (List.range g.length).map (rowD g y)

theorem colsD_length (g : List (List Int)) (x : List Int) : (colsD g x).length = (rowAt g 0).length := by simp [colsD]

theorem rowsD_length (g : List (List Int)) (y : List Int) : (rowsD g y).length = g.length := by simp [rowsD]

theorem nth_colsD (g : List (List Int)) (x : List Int) (j : Nat) (h : j < (rowAt g 0).length) : nth (colsD g x) j = colD g x j := by
  unfold colsD; rw [nth_map _ _ _ (by simpa using h)]; simp

theorem nth_rowsD (g : List (List Int)) (y : List Int) (i : Nat) (h : i < g.length) : nth (rowsD g y) i = rowD g y i := by
  unfold rowsD; rw [nth_map _ _ _ (by simpa using h)]; simp

def safeN (g : List (List Int)) (x : List Int) : Int := lowN (colsD g x) (rowAt g 0).length

def riskN (g : List (List Int)) (y : List Int) : Int := highN (rowsD g y) g.length

/-- the whole sum, the first k rows -/
def totN (g : List (List Int)) (x y : List Int) (k : Nat) : Int := dotW x (rowsD g y) k

theorem colD_bd {g : List (List Int)} {m : Nat} {x : List Int} (hg : Game g m) (hx : Mix x g.length) (j : Nat) (hj : j < m) : -14400000 ≤ colD g x j ∧ colD g x j ≤ 14400000 := by
  have h := dotW_bd x (col g j) 9 (by omega) g.length (fun i hi => ⟨hx.wlo i hi, hx.whi i hi⟩) (fun i hi => by rw [nth_col g j i hi]; exact ⟨hg.nlo i hi j hj, hg.nhi i hi j hj⟩)
  have := hg.hi
  unfold colD; omega

theorem rowD_bd {g : List (List Int)} {m : Nat} {y : List Int} (hg : Game g m) (hy : Mix y m) (i : Nat) (hi : i < g.length) : -14400000 ≤ rowD g y i ∧ rowD g y i ≤ 14400000 := by
  have h := dotW_bd y (rowAt g i) 9 (by omega) m (fun j hj => ⟨hy.wlo j hj, hy.whi j hj⟩) (fun j hj => ⟨hg.nlo i hi j hj, hg.nhi i hi j hj⟩)
  have := hg.mhi
  unfold rowD; rw [hy.len]; omega

theorem totN_bd {g : List (List Int)} {m : Nat} {x y : List Int} (hg : Game g m) (hx : Mix x g.length) (hy : Mix y m) (k : Nat) (hk : k ≤ g.length) : -23040000000000 ≤ totN g x y k ∧ totN g x y k ≤ 23040000000000 := by
  have h := dotW_bd x (rowsD g y) 14400000 (by omega) k (fun i hi => ⟨hx.wlo i (by omega), hx.whi i (by omega)⟩) (fun i hi => by rw [nth_rowsD g y i (by omega)]; exact rowD_bd hg hy i (by omega))
  have := hg.hi
  unfold totN; omega

theorem Mix.sum_bd {x : List Int} {m : Nat} (h : Mix x m) : 1 ≤ sumW x m ∧ sumW x m ≤ 1600000 := by
  have := sumW_bd x m (fun i hi => ⟨h.wlo i hi, h.whi i hi⟩)
  have := h.pos
  have := h.hi
  omega

theorem safeN_bd {g : List (List Int)} {m : Nat} {x : List Int} (hg : Game g m) (hx : Mix x g.length) : -14400000 ≤ safeN g x ∧ safeN g x ≤ 14400000 := by
  have hm := hg.to.2
  subst hm
  obtain ⟨j, hj, e⟩ := lowN_at (colsD g x) hg.mlo
  unfold safeN; rw [e, nth_colsD g x j hj]; exact colD_bd hg hx j hj

theorem riskN_bd {g : List (List Int)} {m : Nat} {y : List Int} (hg : Game g m) (hy : Mix y m) : -14400000 ≤ riskN g y ∧ riskN g y ≤ 14400000 := by
  obtain ⟨i, hi, e⟩ := highN_at (rowsD g y) hg.lo
  unfold riskN; rw [e, nth_rowsD g y i hi]; exact rowD_bd hg hy i hi

/-- the answers, whatever the arguments -/
def safB (g : List (List Int)) (x : List Int) : Bool := gameB g && mixB x (g.length : Int)

def safU (g : List (List Int)) (x : List Int) : Int := if safB g x = true then lowU (safeN g x) (sumW x x.length) else 0

def safD (g : List (List Int)) (x : List Int) : Int := if safB g x = true then lowD (safeN g x) (sumW x x.length) else 0

def risB (g : List (List Int)) (y : List Int) : Bool := gameB g && mixB y ((rowAt g 0).length : Int)

def risU (g : List (List Int)) (y : List Int) : Int := if risB g y = true then lowU (riskN g y) (sumW y y.length) else 0

def risD (g : List (List Int)) (y : List Int) : Int := if risB g y = true then lowD (riskN g y) (sumW y y.length) else 0

def fitB (g : List (List Int)) (x y : List Int) : Bool := gameB g && mixB x (g.length : Int) && mixB y ((rowAt g 0).length : Int)

def avN (g : List (List Int)) (x y : List Int) : Int := lowU (totN g x y x.length) (sumW x x.length * sumW y y.length)

def avM (g : List (List Int)) (x y : List Int) : Int := lowD (totN g x y x.length) (sumW x x.length * sumW y y.length)

def avgB (g : List (List Int)) (x y : List Int) : Bool := fitB g x y && okB (avN g x y) (avM g x y)

def avgU (g : List (List Int)) (x y : List Int) : Int := if avgB g x y = true then avN g x y else 0

def avgD (g : List (List Int)) (x y : List Int) : Int := if avgB g x y = true then avM g x y else 0

def setB (g : List (List Int)) (x y : List Int) : Bool := safB g x && risB g y && ((safU g x == risU g y) && (safD g x == risD g y))

/-- the best rows among the first k -/
def bestUpTo (g : List (List Int)) (y : List Int) : Nat → List Int
  | 0 => []
  | k + 1 => if rowD g y k == riskN g y then bestUpTo g y k ++ [(k : Int)] else bestUpTo g y k

def bestL (g : List (List Int)) (y : List Int) : List Int := if risB g y = true then bestUpTo g y g.length else []

theorem bestUpTo_len (g : List (List Int)) (y : List Int) (k : Nat) : (bestUpTo g y k).length ≤ k := by
  induction k with
  | zero => simp [bestUpTo]
  | succ k ih =>
    simp only [bestUpTo]
    split
    · simp; omega
    · omega

theorem bestL_len (g : List (List Int)) (y : List Int) : (bestL g y).length ≤ 16 := by
  unfold bestL
  split
  · rename_i h
    simp only [risB, Bool.and_eq_true] at h
    have := bestUpTo_len g y g.length
    have := (Game.of h.1).hi
    omega
  · simp

/-- lowest terms over one number tell the number above the line -/
theorem low_inj {a b s : Int} (hs : 0 < s) (h1 : lowU a s = lowU b s) (h2 : lowD a s = lowD b s) : a = b := by
  have e1 := low_cross a s (by omega)
  have e2 := low_cross b s (by omega)
  have p := lowD_pos b s (by omega)
  rw [h1, h2, e2] at e1
  have : b = a := Int.eq_of_mul_eq_mul_right (by omega) e1
  exact this.symm

end Go.Proofs.Ytjojilimdhekfaa
