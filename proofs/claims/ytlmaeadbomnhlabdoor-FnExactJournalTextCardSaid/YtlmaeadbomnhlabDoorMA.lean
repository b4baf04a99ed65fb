/- Texts in one: Math, Gmath, Gmath2, Mmath, Mmath2, Mmath3, Piv, Det, Sel. -/
namespace Go.Proofs.YtlmaeadbomnhlabDoor
set_option linter.unusedSimpArgs false
set_option linter.unusedVariables false

/-- the greatest common divisor, as an integer -/
def gcdI (a b : Int) : Int := ((Int.gcd a b : Nat) : Int)

theorem gcdI_pos (a b : Int) (h : b ≠ 0) : 1 ≤ gcdI a b := by
  unfold gcdI
  have := Int.gcd_pos_of_ne_zero_right a h; omega

theorem gcdI_dvd_left (a b : Int) : gcdI a b ∣ a := Int.gcd_dvd_left a b

theorem gcdI_dvd_right (a b : Int) : gcdI a b ∣ b := Int.gcd_dvd_right a b

/-- is it between both? -/
def inR (n lo hi : Int) : Bool := decide (lo ≤ n ∧ n ≤ hi)

/-- lowest terms -/
def lowU (u d : Int) : Int := u.tdiv (if d < 0 then -gcdI u d else gcdI u d)

def lowD (u d : Int) : Int := d.tdiv (if d < 0 then -gcdI u d else gcdI u d)

theorem mul_pos {a b : Int} (h1 : 1 ≤ a) (h2 : 1 ≤ b) : 1 ≤ a * b := by
  have := Int.mul_pos (show 0 < a by omega) (show 0 < b by omega); omega

end Go.Proofs.YtlmaeadbomnhlabDoor

namespace Go.Proofs.YtlmaeadbomnhlabDoor
set_option linter.unusedSimpArgs false
set_option linter.unusedVariables false

/-- the number at a place; the row at a place (names that simp does not open) -/
def nth (l : List Int) (i : Nat) : Int := l.getD i 0

def rowAt (g : List (List Int)) (i : Nat) : List Int := g.getD i []

theorem nth_eq (l : List Int) (i : Nat) (h : i < l.length) : nth l i = l[i] := by simp [nth, h]

theorem rowAt_eq (g : List (List Int)) (i : Nat) (h : i < g.length) : rowAt g i = g[i] := by simp [rowAt, h]

theorem nth_map {α : Type} (f : α → Int) (l : List α) (i : Nat) (h : i < l.length) : nth (l.map f) i = f l[i] := by rw [nth_eq _ _ (by simpa using h)]; simp

theorem nth_take (l : List Int) (k i : Nat) (h : i < k) : nth (l.take k) i = nth l i := by simp [nth, List.getElem?_take, h]

theorem nth_snoc_lt (l : List Int) (x : Int) (i : Nat) (h : i < l.length) : nth (l ++ [x]) i = nth l i := by simp [nth, List.getElem?_append, h]

theorem nth_snoc_eq (l : List Int) (x : Int) : nth (l ++ [x]) l.length = x := by simp [nth]

theorem rowAt_snoc_lt (g : List (List Int)) (x : List Int) (i : Nat) (h : i < g.length) : rowAt (g ++ [x]) i = rowAt g i := by simp [rowAt, List.getElem?_append, h]

theorem rowAt_snoc_eq (g : List (List Int)) (x : List Int) : rowAt (g ++ [x]) g.length = x := by simp [rowAt]

/-- may a number stand in a game -/
def inB (n : Int) : Bool := decide (-9 ≤ n) && decide (n ≤ 9)

theorem inB_iff {n : Int} : inB n = true ↔ -9 ≤ n ∧ n ≤ 9 := by simp [inB]

/-- all of the first k numbers may -/
def numsB (l : List Int) : Nat → Bool
  | 0 => true
  | k + 1 => numsB l k && inB (nth l k)

def rowB (m : Nat) (r : List Int) : Bool := (r.length == m) && numsB r r.length

def rowsB (g : List (List Int)) : Nat → Bool
  | 0 => true
  | k + 1 => rowsB g k && rowB (rowAt g 0).length (rowAt g k)

def sideB (n : Nat) : Bool := decide (1 ≤ n) && decide (n ≤ 16)

def gameB (g : List (List Int)) : Bool := sideB g.length && sideB (rowAt g 0).length && rowsB g g.length

theorem numsB_iff {l : List Int} {k : Nat} : numsB l k = true ↔ ∀ i, i < k → inB (nth l i) = true := by
  induction k with
  | zero => simp [numsB]
  | succ k ih =>
    simp only [numsB, Bool.and_eq_true, ih]
    refine ⟨fun ⟨h1, h2⟩ i hi => ?_, fun h => ⟨fun i hi => h i (by omega), h k (by omega)⟩⟩
    rcases Nat.lt_or_eq_of_le (Nat.le_of_lt_succ hi) with h | rfl
    · exact h1 i h
    · exact h2

theorem rowsB_iff {g : List (List Int)} {k : Nat} : rowsB g k = true ↔ ∀ i, i < k → rowB (rowAt g 0).length (rowAt g i) = true := by
  induction k with
  | zero => simp [rowsB]
  | succ k ih =>
    simp only [rowsB, Bool.and_eq_true, ih]
    refine ⟨fun ⟨h1, h2⟩ i hi => ?_, fun h => ⟨fun i hi => h i (by omega), h k (by omega)⟩⟩
    rcases Nat.lt_or_eq_of_le (Nat.le_of_lt_succ hi) with h | rfl
    · exact h1 i h
    · exact h2

theorem sideB_iff {n : Nat} : sideB n = true ↔ 1 ≤ n ∧ n ≤ 16 := by simp [sideB]

/-- what a game is, in inequalities -/
structure Game (g : List (List Int)) (m : Nat) : Prop where
  lo : 1 ≤ g.length
  hi : g.length ≤ 16
  mlo : 1 ≤ m
  mhi : m ≤ 16
  len : ∀ i, i < g.length → (rowAt g i).length = m
  nlo : ∀ i, i < g.length → ∀ j, j < m → -9 ≤ nth (rowAt g i) j
  nhi : ∀ i, i < g.length → ∀ j, j < m → nth (rowAt g i) j ≤ 9

theorem Game.of {g : List (List Int)} (h : gameB g = true) : Game g (rowAt g 0).length := by
  simp only [gameB, Bool.and_eq_true, sideB_iff, rowsB_iff, rowB, beq_iff_eq, numsB_iff, inB_iff] at h
  obtain ⟨⟨⟨h1, h2⟩, h3, h4⟩, h5⟩ := h
  exact ⟨h1, h2, h3, h4, fun i hi => (h5 i hi).1, fun i hi j hj => ((h5 i hi).2 j (by rw [(h5 i hi).1]; exact hj)).1, fun i hi j hj => ((h5 i hi).2 j (by rw [(h5 i hi).1]; exact hj)).2⟩

/-- the least, the greatest of the first k numbers -/
def lowN (l : List Int) : Nat → Int
  | 0 => nth l 0
  | k + 1 => min (lowN l k) (nth l k)

def highN (l : List Int) : Nat → Int
  | 0 => nth l 0
  | k + 1 => max (highN l k) (nth l k)

def ltB (a b : Int) : Bool := decide (a < b)

def gtB (a b : Int) : Bool := decide (b < a)

/-- a column; the lows of all rows; the highs of all columns -/
def col (g : List (List Int)) (j : Nat) : List Int := g.map fun r => nth r j

def cols (g : List (List Int)) : List (List Int) := (List.range (rowAt g 0).length).map fun j => col g j

theorem col_length (g : List (List Int)) (j : Nat) : (col g j).length = g.length := by simp [col]

theorem nth_col (g : List (List Int)) (j i : Nat) (h : i < g.length) : nth (col g j) i = nth (rowAt g i) j := by
  unfold col; rw [nth_map _ _ _ h, rowAt_eq g i h]

/-- how many numbers the first k rows have together -/
def sumN (g : List (List Int)) : Nat → Nat
  | 0 => 0
  | k + 1 => sumN g k + (rowAt g k).length

/-- numbers in order from k on -/
def seqN (k : Int) (n : Nat) : List Int := (List.range n).map fun i : Nat => k + (i : Int)

theorem seqN_length (k : Int) (n : Nat) : (seqN k n).length = n := by simp [seqN]

/-- rows as long as those of g, numbered through from k on -/
def marks (g : List (List Int)) (k : Int) : List (List Int) := (List.range g.length).map fun i => seqN (k + (sumN g i : Int)) (rowAt g i).length

theorem marks_length (g : List (List Int)) (k : Int) : (marks g k).length = g.length := by simp [marks]

theorem rowAt_marks (g : List (List Int)) (k : Int) (i : Nat) (h : i < g.length) : rowAt (marks g k) i = seqN (k + (sumN g i : Int)) (rowAt g i).length := by
  rw [rowAt_eq _ _ (by rw [marks_length]; exact h)]; simp [marks]

/-- the other signs; a game from the other side -/
def negs (l : List Int) : List Int := l.map fun x => -x

def turnedL (g : List (List Int)) : List (List Int) := (cols g).map negs

def turned (g : List (List Int)) : List (List Int) := if gameB g = true then turnedL g else []

theorem negs_length (l : List Int) : (negs l).length = l.length := by simp [negs]

theorem nth_negs (l : List Int) (i : Nat) (h : i < l.length) : nth (negs l) i = -nth l i := by unfold negs; rw [nth_map _ _ _ h, nth_eq l i h]

theorem turnedL_length (g : List (List Int)) : (turnedL g).length = (rowAt g 0).length := by simp [turnedL, cols]

theorem rowAt_turnedL (g : List (List Int)) (j : Nat) (h : j < (rowAt g 0).length) : rowAt (turnedL g) j = negs (col g j) := by
  rw [rowAt_eq _ _ (by rw [turnedL_length]; exact h)]; simp [turnedL, cols]

theorem turnedL_row_length (g : List (List Int)) (j : Nat) (h : j < (rowAt g 0).length) : (rowAt (turnedL g) j).length = g.length := by rw [rowAt_turnedL g j h, negs_length, col_length]

theorem nth_turnedL (g : List (List Int)) (j i : Nat) (h : j < (rowAt g 0).length) (hi : i < g.length) : nth (rowAt (turnedL g) j) i = -nth (rowAt g i) j := by
  rw [rowAt_turnedL g j h, nth_negs _ _ (by rw [col_length]; exact hi), nth_col g j i hi]

end Go.Proofs.YtlmaeadbomnhlabDoor

namespace Go.Proofs.YtlmaeadbomnhlabDoor
set_option linter.unusedSimpArgs false
set_option linter.unusedVariables false



end Go.Proofs.YtlmaeadbomnhlabDoor

namespace Go.Proofs.YtlmaeadbomnhlabDoor
set_option linter.unusedSimpArgs false
set_option linter.unusedVariables false

/-- sums of weights, sums of products -/
def sumW (x : List Int) : Nat → Int
  | 0 => 0
  | k + 1 => sumW x k + nth x k

def dotW (x l : List Int) : Nat → Int
  | 0 => 0
  | k + 1 => dotW x l k + nth x k * nth l k

/-- may a number be a weight; may the first k -/
def wB (n : Int) : Bool := decide (0 ≤ n) && decide (n ≤ 100000)

theorem wB_iff {n : Int} : wB n = true ↔ 0 ≤ n ∧ n ≤ 100000 := by simp [wB]

def wsB (x : List Int) : Nat → Bool
  | 0 => true
  | k + 1 => wsB x k && wB (nth x k)

theorem wsB_iff {x : List Int} {k : Nat} : wsB x k = true ↔ ∀ i, i < k → 0 ≤ nth x i ∧ nth x i ≤ 100000 := by
  induction k with
  | zero => simp [wsB]
  | succ k ih =>
    simp only [wsB, Bool.and_eq_true, ih, wB_iff]
    refine ⟨fun ⟨h1, h2⟩ i hi => ?_, fun h => ⟨fun i hi => h i (by omega), h k (by omega)⟩⟩
    rcases Nat.lt_or_eq_of_le (Nat.le_of_lt_succ hi) with h | rfl
    · exact h1 i h
    · exact h2

/-- is a list a mixture of so many weights -/
def mixB (x : List Int) (many : Int) : Bool := wsB x x.length && inR many 1 16 && ((x.length : Int) == many) && decide (0 < sumW x x.length)

/-- what a mixture is, in inequalities -/
structure Mix (x : List Int) (m : Nat) : Prop where
  len : x.length = m
  lo : 1 ≤ m
  hi : m ≤ 16
  wlo : ∀ i, i < m → 0 ≤ nth x i
  whi : ∀ i, i < m → nth x i ≤ 100000
  pos : 0 < sumW x m

theorem Mix.of {x : List Int} {m : Nat} (h : mixB x (m : Int) = true) : Mix x m := by
  simp only [mixB, inR, Bool.and_eq_true, decide_eq_true_eq, beq_iff_eq, wsB_iff] at h
  obtain ⟨⟨⟨h1, h2, h3⟩, h4⟩, h5⟩ := h
  have e : x.length = m := by omega
  rw [e] at h1 h5
  exact ⟨e, by omega, by omega, fun i hi => (h1 i hi).1, fun i hi => (h1 i hi).2, h5⟩

/-- what a mixture of rows gets against a column, what a row gets against a mixture of columns: times all weights -/
def colD (g : List (List Int)) (x : List Int) (j : Nat) : Int := dotW x (col g j) g.length

def rowD (g : List (List Int)) (y : List Int) (i : Nat) : Int := dotW y (rowAt g i) y.length

def colsD (g : List (List Int)) (x : List Int) : List Int := (List.range (rowAt g 0).length).map (colD g x)

def rowsD (g : List (List Int)) (y : List Int) : List Int := (List.range g.length).map (rowD g y)

def safeN (g : List (List Int)) (x : List Int) : Int := lowN (colsD g x) (rowAt g 0).length

def riskN (g : List (List Int)) (y : List Int) : Int := highN (rowsD g y) g.length

/-- the answers, whatever the arguments -/
def safB (g : List (List Int)) (x : List Int) : Bool := gameB g && mixB x (g.length : Int)

def safU (g : List (List Int)) (x : List Int) : Int := if safB g x = true then lowU (safeN g x) (sumW x x.length) else 0

def safD (g : List (List Int)) (x : List Int) : Int := if safB g x = true then lowD (safeN g x) (sumW x x.length) else 0

def risB (g : List (List Int)) (y : List Int) : Bool := gameB g && mixB y ((rowAt g 0).length : Int)

def risU (g : List (List Int)) (y : List Int) : Int := if risB g y = true then lowU (riskN g y) (sumW y y.length) else 0

def risD (g : List (List Int)) (y : List Int) : Int := if risB g y = true then lowD (riskN g y) (sumW y y.length) else 0

def setB (g : List (List Int)) (x y : List Int) : Bool := safB g x && risB g y && ((safU g x == risU g y) && (safD g x == risD g y))

end Go.Proofs.YtlmaeadbomnhlabDoor

namespace Go.Proofs.YtlmaeadbomnhlabDoor
set_option linter.unusedSimpArgs false
set_option linter.unusedVariables false



end Go.Proofs.YtlmaeadbomnhlabDoor

namespace Go.Proofs.YtlmaeadbomnhlabDoor
set_option linter.unusedSimpArgs false
set_option linter.unusedVariables false



end Go.Proofs.YtlmaeadbomnhlabDoor

namespace Go.Proofs.YtlmaeadbomnhlabDoor
set_option linter.unusedSimpArgs false
set_option linter.unusedVariables false

/-- the sum of a function over a list -/
def sumL (l : List Nat) (f : Nat → Rat) : Rat := (l.map f).foldr (· + ·) 0

/-- z meets the equations: each of B is told by those of N -/
def Sol (B N : List Nat) (T : Nat → Nat → Rat) (z : Nat → Rat) : Prop := ∀ b, b ∈ B → z b = sumL N (fun n => T b n * z n)

end Go.Proofs.YtlmaeadbomnhlabDoor

namespace Go.Proofs.YtlmaeadbomnhlabDoor
set_option linter.unusedSimpArgs false
set_option linter.unusedVariables false

def sumI (k : Nat) (f : Nat → Int) : Int := match k with
  | 0 => 0
  | k + 1 => sumI k f + f k

def sgI (k : Nat) : Int := if k % 2 = 0 then 1 else -1

def woI (M : Nat → Nat → Int) (a b : Nat) : Nat → Nat → Int := fun i j => M (if i < a then i else i + 1) (if j < b then j else j + 1)

def detI : Nat → (Nat → Nat → Int) → Int
  | 0, _ => 1
  | k + 1, M => sumI (k + 1) (fun j => sgI j * M 0 j * detI k (woI M 0 j))

def cofI (k : Nat) (M : Nat → Nat → Int) (a b : Nat) : Int := sgI (a + b) * detI (k - 1) (woI M a b)

def xcI (k : Nat) (M : Nat → Nat → Int) (a : Nat) : Int := sumI k (fun b => cofI k M a b)

def ycI (k : Nat) (M : Nat → Nat → Int) (b : Nat) : Int := sumI k (fun a => cofI k M a b)

theorem rowI (k : Nat) (M : Nat → Nat → Int) (i a : Nat) (hk4 : k ≤ 4) (hi : i < k) (ha : a < k) : sumI k (fun b => M i b * cofI k M a b) = if i = a then detI k M else 0 := by
  have hk : k = 0 ∨ k = 1 ∨ k = 2 ∨ k = 3 ∨ k = 4 := by omega
  have qi : i = 0 ∨ i = 1 ∨ i = 2 ∨ i = 3 := by omega
  have qa : a = 0 ∨ a = 1 ∨ a = 2 ∨ a = 3 := by omega
  rcases hk with rfl | rfl | rfl | rfl | rfl <;> rcases qi with rfl | rfl | rfl | rfl <;> rcases qa with rfl | rfl | rfl | rfl <;> first | (exfalso; omega) | (simp [cofI, detI, sumI, sgI, woI]; try grind)

theorem colI (k : Nat) (M : Nat → Nat → Int) (j b : Nat) (hk4 : k ≤ 4) (hj : j < k) (hb : b < k) : sumI k (fun a => M a j * cofI k M a b) = if j = b then detI k M else 0 := by
  have hk : k = 0 ∨ k = 1 ∨ k = 2 ∨ k = 3 ∨ k = 4 := by omega
  have qj : j = 0 ∨ j = 1 ∨ j = 2 ∨ j = 3 := by omega
  have qb : b = 0 ∨ b = 1 ∨ b = 2 ∨ b = 3 := by omega
  rcases hk with rfl | rfl | rfl | rfl | rfl <;> rcases qj with rfl | rfl | rfl | rfl <;> rcases qb with rfl | rfl | rfl | rfl <;> first | (exfalso; omega) | (simp [cofI, detI, sumI, sgI, woI]; try grind)

theorem sumI_swap (k l : Nat) (f : Nat → Nat → Int) : sumI k (fun a => sumI l (fun b => f a b)) = sumI l (fun b => sumI k (fun a => f a b)) := by
  induction k with
  | zero =>
    simp only [sumI]
    induction l with
    | zero => rfl
    | succ l ih => simp only [sumI]; rw [← ih]; rfl
  | succ k ih =>
    simp only [sumI]; rw [ih]
    have : ∀ (l : Nat) (f g : Nat → Int), sumI l (fun a => f a + g a) = sumI l f + sumI l g := fun l f g => by
      induction l with
      | zero => rfl
      | succ l ih => simp only [sumI, ih]; omega
    rw [this]

/-- what the part of some rows and some columns holds -/
def partM (A : Nat → Nat → Int) (R C : List Nat) : Nat → Nat → Int := fun a b => A (R.getD a 0) (C.getD b 0)

end Go.Proofs.YtlmaeadbomnhlabDoor

namespace Go.Proofs.YtlmaeadbomnhlabDoor
set_option linter.unusedSimpArgs false
set_option linter.unusedVariables false

/-- the chosen ones of the first k places -/
def selRow (Q : Nat → Bool) (F : Nat → Int) : Nat → List Int
  | 0 => []
  | k + 1 => if Q k = true then selRow Q F k ++ [F k] else selRow Q F k

def selTab (P : Nat → Bool) (F : Nat → List Int) : Nat → List (List Int)
  | 0 => []
  | k + 1 => if P k = true then selTab P F k ++ [F k] else selTab P F k

/-- the chosen places, and how many there are -/
def sel (P : Nat → Bool) (k : Nat) : List Nat := (List.range k).filter P

def cnt (P : Nat → Bool) : Nat → Nat
  | 0 => 0
  | k + 1 => if P k = true then cnt P k + 1 else cnt P k

theorem sel_succ (P : Nat → Bool) (k : Nat) : sel P (k + 1) = if P k = true then sel P k ++ [k] else sel P k := by
  unfold sel
  rw [List.range_succ, List.filter_append]
  by_cases h : P k = true
  · rw [if_pos h]; simp [h]
  · rw [if_neg h]; simp [h]

theorem sel_length (P : Nat → Bool) (k : Nat) : (sel P k).length = cnt P k := by
  induction k with
  | zero => rfl
  | succ k ih => rw [sel_succ]; simp only [cnt]; split <;> simp [ih]

theorem cnt_le (P : Nat → Bool) (k : Nat) : cnt P k ≤ k := by
  induction k with
  | zero => exact Nat.le_refl _
  | succ k ih => simp only [cnt]; split <;> omega

theorem selRow_map (Q : Nat → Bool) (F : Nat → Int) (k : Nat) : selRow Q F k = (sel Q k).map F := by
  induction k with
  | zero => rfl
  | succ k ih => rw [sel_succ]; simp only [selRow]; split <;> simp [ih]

theorem selTab_map (P : Nat → Bool) (F : Nat → List Int) (k : Nat) : selTab P F k = (sel P k).map F := by
  induction k with
  | zero => rfl
  | succ k ih => rw [sel_succ]; simp only [selTab]; split <;> simp [ih]

theorem selRow_length (Q : Nat → Bool) (F : Nat → Int) (k : Nat) : (selRow Q F k).length = cnt Q k := by rw [selRow_map, List.length_map, sel_length]

theorem selTab_length (P : Nat → Bool) (F : Nat → List Int) (k : Nat) : (selTab P F k).length = cnt P k := by rw [selTab_map, List.length_map, sel_length]

theorem cnt_yes {P : Nat → Bool} {k : Nat} (h : P k = true) : cnt P (k + 1) = cnt P k + 1 := by simp [cnt, h]

theorem cnt_no {P : Nat → Bool} {k : Nat} (h : P k = false) : cnt P (k + 1) = cnt P k := by simp [cnt, h]

theorem cnt_mono (P : Nat → Bool) {i k : Nat} (h : i ≤ k) : cnt P i ≤ cnt P k := by
  induction k with
  | zero => have : i = 0 := (by omega); rw [this]; exact Nat.le_refl _
  | succ k ih =>
    rcases Nat.lt_or_eq_of_le h with h1 | rfl
    · have := ih (by omega); simp only [cnt]; split <;> omega
    · exact Nat.le_refl _

/-- the place of a chosen one among the chosen ones -/
theorem sel_cnt {P : Nat → Bool} {i k : Nat} (hi : i < k) (h : P i = true) : (sel P k).getD (cnt P i) 0 = i := by
  induction k with
  | zero => omega
  | succ k ih =>
    rw [sel_succ]
    by_cases e : i = k
    · subst e; rw [if_pos h]
      have : cnt P i = (sel P i).length := (sel_length P i).symm
      rw [this]; simp
    · have h1 := ih (by omega)
      have h2 : cnt P i < (sel P k).length := by
        rw [sel_length]
        have := cnt_mono P (i := i + 1) (k := k) (by omega)
        rw [cnt_yes h] at this; omega
      split
      · rw [List.getD_eq_getElem?_getD, List.getElem?_append_left h2, ← List.getD_eq_getElem?_getD]; exact h1
      · exact h1

theorem sel_at {P : Nat → Bool} {k a : Nat} (ha : a < cnt P k) : (sel P k).getD a 0 < k ∧ P ((sel P k).getD a 0) = true ∧ cnt P ((sel P k).getD a 0) = a := by
  induction k with
  | zero => simp [cnt] at ha
  | succ k ih =>
    rw [sel_succ]
    by_cases h : P k = true
    · rw [cnt_yes h] at ha
      rw [if_pos h]
      by_cases e : a = cnt P k
      · have : a = (sel P k).length := by rw [sel_length]; exact e
        subst e
        rw [this]
        simp [h, sel_length]
      · have h2 : a < (sel P k).length := by rw [sel_length]; omega
        rw [List.getD_eq_getElem?_getD, List.getElem?_append_left h2, ← List.getD_eq_getElem?_getD]
        obtain ⟨h3, h4, h5⟩ := ih (by omega)
        exact ⟨by omega, h4, h5⟩
    · have h' : P k = false := by simpa using h
      rw [cnt_no h'] at ha
      rw [if_neg h]
      obtain ⟨h3, h4, h5⟩ := ih ha
      exact ⟨by omega, h4, h5⟩

/-- a table without a row and a column -/
def woL (m : List (List Int)) (a b : Nat) : List (List Int) := selTab (fun i => i != a) (fun i => selRow (fun j => j != b) (nth (rowAt m i)) m.length) m.length

theorem cnt_ne (a k : Nat) : cnt (fun i => i != a) k = if a < k then k - 1 else k := by
  induction k with
  | zero => rfl
  | succ k ih =>
    simp only [cnt, ih]
    by_cases h : k = a
    · subst h; simp
    · by_cases h2 : a < k
      · simp [h, h2, show a < k + 1 by omega]; omega
      · simp [h, h2, show ¬ a < k + 1 by omega]

theorem woL_length {m : List (List Int)} {a : Nat} (b : Nat) (h : a < m.length) : (woL m a b).length = m.length - 1 := by
  unfold woL; rw [selTab_length, cnt_ne, if_pos h]

theorem sel_ne {a k i : Nat} (ha : a < k) (hi : i < k - 1) : (sel (fun i => i != a) k).getD i 0 = if i < a then i else i + 1 := by
  have hc : cnt (fun i => i != a) (if i < a then i else i + 1) = i := by rw [cnt_ne]; split <;> split <;> omega
  have := sel_cnt (P := fun i => i != a) (k := k) (i := if i < a then i else i + 1) (by split <;> omega) (by split <;> simp <;> omega)
  rw [hc] at this; exact this

theorem rowAt_map (F : Nat → List Int) (l : List Nat) (i : Nat) (h : i < l.length) : rowAt (l.map F) i = F (l.getD i 0) := by
  rw [rowAt_eq _ _ (by simpa using h)]; simp [List.getD, h]

theorem nth_mapN (F : Nat → Int) (l : List Nat) (i : Nat) (h : i < l.length) : nth (l.map F) i = F (l.getD i 0) := by
  rw [nth_eq _ _ (by simpa using h)]; simp [List.getD, h]

theorem woL_row {m : List (List Int)} {a b i : Nat} (ha : a < m.length) (hi : i < m.length - 1) : rowAt (woL m a b) i = selRow (fun j => j != b) (nth (rowAt m (if i < a then i else i + 1))) m.length := by
  unfold woL
  rw [selTab_map, rowAt_map _ _ _ (by rw [sel_length, cnt_ne, if_pos ha]; exact hi), sel_ne ha hi]

theorem woL_row_length {m : List (List Int)} {a b i : Nat} (ha : a < m.length) (hb : b < m.length) (hi : i < m.length - 1) : (rowAt (woL m a b) i).length = m.length - 1 := by
  rw [woL_row ha hi, selRow_length, cnt_ne, if_pos hb]

theorem nth_woL {m : List (List Int)} {a b i j : Nat} (ha : a < m.length) (hb : b < m.length) (hi : i < m.length - 1) (hj : j < m.length - 1) : nth (rowAt (woL m a b) i) j = woI (fun i j => nth (rowAt m i) j) a b i j := by
  rw [woL_row ha hi, selRow_map, nth_mapN _ _ _ (by rw [sel_length, cnt_ne, if_pos hb]; exact hj), sel_ne hb hj]
  rfl

/-- a square table of numbers in so many bounds -/
structure Square (m : List (List Int)) (k : Nat) : Prop where
  len : m.length = k
  row : ∀ i, i < k → (rowAt m i).length = k
  lo : ∀ i j, i < k → j < k → -9 ≤ nth (rowAt m i) j
  hi : ∀ i j, i < k → j < k → nth (rowAt m i) j ≤ 9

theorem Square.wo {m : List (List Int)} {k a b : Nat} (h : Square m (k + 1)) (ha : a < k + 1) (hb : b < k + 1) : Square (woL m a b) k := by
  have e := h.len
  have ha' : a < m.length := by omega
  have hb' : b < m.length := by omega
  refine ⟨by rw [woL_length b ha']; omega, fun i hi => by rw [woL_row_length ha' hb' (by omega)]; omega, fun i j hi hj => ?_, fun i j hi hj => ?_⟩ <;> rw [nth_woL ha' hb' (by omega) (by omega)] <;> unfold woI
  · exact h.lo _ _ (by split <;> omega) (by split <;> omega)
  · exact h.hi _ _ (by split <;> omega) (by split <;> omega)

theorem sumI_congr {k : Nat} {f g : Nat → Int} (h : ∀ a, a < k → f a = g a) : sumI k f = sumI k g := by
  induction k with
  | zero => rfl
  | succ k ih => simp only [sumI]; rw [ih (fun a ha => h a (by omega)), h k (by omega)]

theorem detI_congr {k : Nat} : ∀ {M M' : Nat → Nat → Int}, (∀ i j, i < k → j < k → M i j = M' i j) → detI k M = detI k M' := by
  induction k with
  | zero => intro M M' _; rfl
  | succ k ih =>
    intro M M' h
    unfold detI
    refine sumI_congr (fun j hj => ?_)
    rw [h 0 j (by omega) hj, ih (M := woI M 0 j) (M' := woI M' 0 j) (fun a b ha hb => by unfold woI; exact h _ _ (by split <;> omega) (by split <;> omega))]

/-- the determinant of a square table as it is told by its first row -/
def detL (m : List (List Int)) : Int := detI m.length (fun i j => nth (rowAt m i) j)

end Go.Proofs.YtlmaeadbomnhlabDoor
