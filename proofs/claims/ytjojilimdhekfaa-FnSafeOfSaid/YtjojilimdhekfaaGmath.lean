/- Plain mathematics of games: lists of rows of numbers, floors, roofs, saddles, the other side. It imports nothing of the program. -/
namespace Go.Proofs.Ytjojilimdhekfaa
set_option linter.unusedSimpArgs false
set_option linter.unusedVariables false

/-- the number at a place; the row at a place (names that simp does not open) -/
def nth (l : List Int) (i : Nat) : Int := l.getD i 0

def rowAt (g : List (List Int)) (i : Nat) : List Int := g.getD i []

theorem nth_eq (l : List Int) (i : Nat) (h : i < l.length) : nth l i = l[i] := by simp [nth, h]

theorem rowAt_eq (g : List (List Int)) (i : Nat) (h : i < g.length) : rowAt g i = g[i] := by simp [rowAt, h]

theorem nth_mem (l : List Int) (i : Nat) (h : i < l.length) : nth l i ∈ l := by rw [nth_eq l i h]; exact List.getElem_mem h

theorem rowAt_mem (g : List (List Int)) (i : Nat) (h : i < g.length) : rowAt g i ∈ g := by rw [rowAt_eq g i h]; exact List.getElem_mem h

theorem mem_nth {l : List Int} {x : Int} (h : x ∈ l) : ∃ i, i < l.length ∧ nth l i = x := by
  obtain ⟨i, hi, rfl⟩ := List.mem_iff_getElem.1 h; exact ⟨i, hi, nth_eq l i hi⟩

theorem mem_rowAt {g : List (List Int)} {r : List Int} (h : r ∈ g) : ∃ i, i < g.length ∧ rowAt g i = r := by
  obtain ⟨i, hi, rfl⟩ := List.mem_iff_getElem.1 h; exact ⟨i, hi, rowAt_eq g i hi⟩

theorem nth_map {α : Type} (f : α → Int) (l : List α) (i : Nat) (h : i < l.length) : nth (l.map f) i = f l[i] := by rw [nth_eq _ _ (by simpa using h)]; simp

theorem ext_nth {l m : List Int} (hl : l.length = m.length) (h : ∀ i, i < l.length → nth l i = nth m i) : l = m := by
  apply List.ext_getElem hl
  intro i h1 h2
  rw [← nth_eq l i h1, ← nth_eq m i h2]; exact h i h1

theorem ext_rowAt {g m : List (List Int)} (hl : g.length = m.length) (h : ∀ i, i < g.length → rowAt g i = rowAt m i) : g = m := by
  apply List.ext_getElem hl
  intro i h1 h2
  rw [← rowAt_eq g i h1, ← rowAt_eq m i h2]; exact h i h1

theorem nth_take (l : List Int) (k i : Nat) (h : i < k) : nth (l.take k) i = nth l i := by simp [nth, List.getElem?_take, h]

theorem nth_snoc_lt (l : List Int) (x : Int) (i : Nat) (h : i < l.length) : nth (l ++ [x]) i = nth l i := by simp [nth, List.getElem?_append, h]

theorem nth_snoc_eq (l : List Int) (x : Int) : nth (l ++ [x]) l.length = x := by simp [nth]

theorem rowAt_snoc_lt (g : List (List Int)) (x : List Int) (i : Nat) (h : i < g.length) : rowAt (g ++ [x]) i = rowAt g i := by simp [rowAt, List.getElem?_append, h]

theorem rowAt_snoc_eq (g : List (List Int)) (x : List Int) : rowAt (g ++ [x]) g.length = x := by simp [rowAt]

/-- may a number stand in a game -/
def inB (n : Int) : Bool := decide (-9 ≤ n) && decide (n ≤ 9)

theorem inB_iff {n : Int} : inB n = true ↔ -9 ≤ n ∧ n ≤ 9 := by simp [inB]

theorem inB_false {n : Int} : inB n = false ↔ n < -9 ∨ 9 < n := by
  rw [← Bool.not_eq_true, inB_iff]; omega

/-- all of the first k numbers may -/
def numsB (l : List Int) : Nat → Bool
  | 0 => true
  | k + 1 => numsB l k && inB (nth l k)

def rowB (m : Nat) (r : List Int) : Bool := (r.length == m) && numsB r r.length

def rowsB (g : List (List Int)) : Nat → Bool
  | 0 => true
  | k + 1 => rowsB g k && rowB (rowAt g 0).length (rowAt g k)

def sideB (n : Nat) : Bool := decide (1 ≤ n) && decide (n ≤ 16)

def gameB (g : List (List Int)) : Bool := sideB g.length && sideB (rowAt g 0).length && rowsB g g.length

theorem numsB_iff {l : List Int} {k : Nat} : numsB l k = true ↔ ∀ i, i < k → inB (nth l i) = true := by
  induction k with
  | zero => simp [numsB]
  | succ k ih =>
    simp only [numsB, Bool.and_eq_true, ih]
    refine ⟨fun ⟨h1, h2⟩ i hi => ?_, fun h => ⟨fun i hi => h i (by omega), h k (by omega)⟩⟩
    rcases Nat.lt_or_eq_of_le (Nat.le_of_lt_succ hi) with h | rfl
    · exact h1 i h
    · exact h2

theorem rowsB_iff {g : List (List Int)} {k : Nat} : rowsB g k = true ↔ ∀ i, i < k → rowB (rowAt g 0).length (rowAt g i) = true := by
  induction k with
  | zero => simp [rowsB]
  | succ k ih =>
    simp only [rowsB, Bool.and_eq_true, ih]
    refine ⟨fun ⟨h1, h2⟩ i hi => ?_, fun h => ⟨fun i hi => h i (by omega), h k (by omega)⟩⟩
    rcases Nat.lt_or_eq_of_le (Nat.le_of_lt_succ hi) with h | rfl
    · exact h1 i h
    · exact h2

theorem numsB_no {l : List Int} {k n : Nat} (h : inB (nth l k) = false) (hk : k < n) : numsB l n = false := by
  rw [← Bool.not_eq_true, numsB_iff]; intro hh; rw [hh k hk] at h; cases h

theorem rowsB_no {g : List (List Int)} {k n : Nat} (h : rowB (rowAt g 0).length (rowAt g k) = false) (hk : k < n) : rowsB g n = false := by
  rw [← Bool.not_eq_true, rowsB_iff]; intro hh; rw [hh k hk] at h; cases h

theorem sideB_iff {n : Nat} : sideB n = true ↔ 1 ≤ n ∧ n ≤ 16 := by simp [sideB]

/-- what a game is, in inequalities -/
structure Game (g : List (List Int)) (m : Nat) : Prop where
  lo : 1 ≤ g.length
  hi : g.length ≤ 16
  mlo : 1 ≤ m
  mhi : m ≤ 16
  len : ∀ i, i < g.length → (rowAt g i).length = m
  nlo : ∀ i, i < g.length → ∀ j, j < m → -9 ≤ nth (rowAt g i) j
  nhi : ∀ i, i < g.length → ∀ j, j < m → nth (rowAt g i) j ≤ 9

theorem Game.of {g : List (List Int)} (h : gameB g = true) : Game g (rowAt g 0).length := by
  simp only [gameB, Bool.and_eq_true, sideB_iff, rowsB_iff, rowB, beq_iff_eq, numsB_iff, inB_iff] at h
  obtain ⟨⟨⟨h1, h2⟩, h3, h4⟩, h5⟩ := h
  exact ⟨h1, h2, h3, h4, fun i hi => (h5 i hi).1, fun i hi j hj => ((h5 i hi).2 j (by rw [(h5 i hi).1]; exact hj)).1, fun i hi j hj => ((h5 i hi).2 j (by rw [(h5 i hi).1]; exact hj)).2⟩

theorem Game.to {g : List (List Int)} {m : Nat} (h : Game g m) : gameB g = true ∧ m = (rowAt g 0).length := by
  obtain ⟨h1, h2, h3, h4, h5, h6, h7⟩ := h
  have hm : (rowAt g 0).length = m := h5 0 (by omega)
  refine ⟨?_, hm.symm⟩
  simp only [gameB, Bool.and_eq_true, sideB_iff, rowsB_iff, rowB, beq_iff_eq, numsB_iff, inB_iff]
  refine ⟨⟨⟨h1, h2⟩, by omega, by omega⟩, fun i hi => ⟨by rw [h5 i hi, hm], fun j hj => ?_⟩⟩
  rw [h5 i hi] at hj
  exact ⟨h6 i hi j hj, h7 i hi j hj⟩

/-- the least, the greatest of the first k numbers -/
def lowN (l : List Int) : Nat → Int
  | 0 => nth l 0
  | k + 1 => min (lowN l k) (nth l k)

def highN (l : List Int) : Nat → Int
  | 0 => nth l 0
  | k + 1 => max (highN l k) (nth l k)

theorem lowN_one (l : List Int) : lowN l 1 = nth l 0 := by simp [lowN]

theorem highN_one (l : List Int) : highN l 1 = nth l 0 := by simp [highN]

def ltB (a b : Int) : Bool := decide (a < b)

def gtB (a b : Int) : Bool := decide (b < a)

/-- the first place of the best one of the first k numbers -/
def bestN (better : Int → Int → Bool) (l : List Int) : Nat → Nat
  | 0 => 0
  | k + 1 => if better (nth l k) (nth l (bestN better l k)) = true then k else bestN better l k

theorem bestN_lt (better : Int → Int → Bool) (l : List Int) {k n : Nat} (h : 0 < n) (hk : k ≤ n) : bestN better l k < n := by
  induction k with
  | zero => exact h
  | succ k ih =>
    simp only [bestN]
    split
    · omega
    · exact ih (by omega)

theorem bestN_one (better : Int → Int → Bool) (l : List Int) : bestN better l 1 = 0 := by show (if _ then 0 else 0) = 0; split <;> rfl

theorem bestN_low (l : List Int) (k : Nat) : nth l (bestN ltB l k) = lowN l k := by
  induction k with
  | zero => rfl
  | succ k ih =>
    simp only [bestN, lowN, ltB, decide_eq_true_eq]
    rw [ih]
    by_cases h : nth l k < lowN l k
    · rw [if_pos h]; omega
    · rw [if_neg h, ih]; omega

theorem bestN_high (l : List Int) (k : Nat) : nth l (bestN gtB l k) = highN l k := by
  induction k with
  | zero => rfl
  | succ k ih =>
    simp only [bestN, highN, gtB, decide_eq_true_eq]
    rw [ih]
    by_cases h : highN l k < nth l k
    · rw [if_pos h]; omega
    · rw [if_neg h, ih]; omega

theorem lowN_le (l : List Int) {k i : Nat} (h : i < k) : lowN l k ≤ nth l i := by
  induction k with
  | zero => omega
  | succ k ih =>
    simp only [lowN]
    rcases Nat.lt_or_eq_of_le (Nat.le_of_lt_succ h) with h | rfl
    · have := ih h; omega
    · omega

theorem le_highN (l : List Int) {k i : Nat} (h : i < k) : nth l i ≤ highN l k := by
  induction k with
  | zero => omega
  | succ k ih =>
    simp only [highN]
    rcases Nat.lt_or_eq_of_le (Nat.le_of_lt_succ h) with h | rfl
    · have := ih h; omega
    · omega

theorem lowN_at (l : List Int) {k : Nat} (h : 0 < k) : ∃ i, i < k ∧ lowN l k = nth l i := by
  refine ⟨bestN ltB l k, bestN_lt _ _ h (Nat.le_refl _), (bestN_low l k).symm⟩

theorem highN_at (l : List Int) {k : Nat} (h : 0 < k) : ∃ i, i < k ∧ highN l k = nth l i := by
  refine ⟨bestN gtB l k, bestN_lt _ _ h (Nat.le_refl _), (bestN_high l k).symm⟩

/-- a column; the lows of all rows; the highs of all columns -/
def col (g : List (List Int)) (j : Nat) : List Int := g.map fun r => nth r j

def lows (g : List (List Int)) : List Int := g.map fun r => lowN r r.length

def cols (g : List (List Int)) : List (List Int) := (List.range (rowAt g 0).length).map fun j => col g j

def highs (g : List (List Int)) : List Int := (cols g).map fun r => highN r r.length

theorem col_length (g : List (List Int)) (j : Nat) : (col g j).length = g.length := by simp [col]

theorem lows_length (g : List (List Int)) : (lows g).length = g.length := by simp [lows]

theorem cols_length (g : List (List Int)) : (cols g).length = (rowAt g 0).length := by simp [cols]

theorem highs_length (g : List (List Int)) : (highs g).length = (rowAt g 0).length := by simp [highs, cols]

theorem nth_col (g : List (List Int)) (j i : Nat) (h : i < g.length) : nth (col g j) i = nth (rowAt g i) j := by
  unfold col; rw [nth_map _ _ _ h, rowAt_eq g i h]

theorem rowAt_cols (g : List (List Int)) (j : Nat) (h : j < (rowAt g 0).length) : rowAt (cols g) j = col g j := by
  rw [rowAt_eq _ _ (by simpa [cols] using h)]; simp [cols]

theorem nth_lows (g : List (List Int)) (i : Nat) (h : i < g.length) : nth (lows g) i = lowN (rowAt g i) (rowAt g i).length := by
  unfold lows; rw [nth_map _ _ _ h, rowAt_eq g i h]

theorem nth_highs (g : List (List Int)) (j : Nat) (h : j < (rowAt g 0).length) : nth (highs g) j = highN (col g j) g.length := by
  unfold highs; rw [nth_map _ _ _ (by simpa [cols] using h)]; simp [cols, col_length]

def bests (bet : Int → Int → Bool) (g : List (List Int)) : List Int := g.map fun r => nth r (bestN bet r r.length)

theorem bests_length (bet : Int → Int → Bool) (g : List (List Int)) : (bests bet g).length = g.length := by simp [bests]

theorem nth_bests (bet : Int → Int → Bool) (g : List (List Int)) (i : Nat) (h : i < g.length) : nth (bests bet g) i = nth (rowAt g i) (bestN bet (rowAt g i) (rowAt g i).length) := by
  unfold bests; rw [nth_map _ _ _ h, rowAt_eq g i h]

theorem bests_low (g : List (List Int)) : bests ltB g = lows g := by unfold bests lows; congr 1; funext r; exact bestN_low r _

theorem bests_high (g : List (List Int)) : bests gtB (cols g) = highs g := by unfold bests highs; congr 1; funext r; exact bestN_high r _

def floorAt (g : List (List Int)) : Nat := bestN gtB (lows g) g.length

def floorV (g : List (List Int)) : Int := nth (lows g) (floorAt g)

def roofAt (g : List (List Int)) : Nat := bestN ltB (highs g) (rowAt g 0).length

def roofV (g : List (List Int)) : Int := nth (highs g) (roofAt g)

/-- the two answers, for whatever comes -/
def floV (g : List (List Int)) : Int := if gameB g = true then floorV g else 0

def floA (g : List (List Int)) : Int := if gameB g = true then (floorAt g : Int) else -1

def rooV (g : List (List Int)) : Int := if gameB g = true then roofV g else 0

def rooA (g : List (List Int)) : Int := if gameB g = true then (roofAt g : Int) else -1

/-- how many numbers the first k rows have together -/
def sumN (g : List (List Int)) : Nat → Nat
  | 0 => 0
  | k + 1 => sumN g k + (rowAt g k).length

theorem sumN_mono (g : List (List Int)) {i k : Nat} (h : i ≤ k) : sumN g i ≤ sumN g k := by
  induction k with
  | zero => obtain rfl : i = 0 := by omega
            exact Nat.le_refl _
  | succ k ih =>
    rcases Nat.lt_or_eq_of_le h with h | rfl
    · have := ih (by omega); simp only [sumN]; omega
    · exact Nat.le_refl _

theorem row_le_sumN (g : List (List Int)) {i k : Nat} (h : i < k) : (rowAt g i).length ≤ sumN g k := by
  have := sumN_mono g (show i + 1 ≤ k from h); simp only [sumN] at this; omega

/-- numbers in order from k on -/
def seqN (k : Int) (n : Nat) : List Int := (List.range n).map fun i : Nat => k + (i : Int)

theorem seqN_length (k : Int) (n : Nat) : (seqN k n).length = n := by simp [seqN]

theorem nth_seqN (k : Int) (n i : Nat) (h : i < n) : nth (seqN k n) i = k + i := by unfold seqN; rw [nth_map _ _ _ (by simpa using h)]; simp

/-- rows as long as those of g, numbered through from k on -/
def marks (g : List (List Int)) (k : Int) : List (List Int) := (List.range g.length).map fun i => seqN (k + (sumN g i : Int)) (rowAt g i).length

theorem marks_length (g : List (List Int)) (k : Int) : (marks g k).length = g.length := by simp [marks]

theorem rowAt_marks (g : List (List Int)) (k : Int) (i : Nat) (h : i < g.length) : rowAt (marks g k) i = seqN (k + (sumN g i : Int)) (rowAt g i).length := by
  rw [rowAt_eq _ _ (by rw [marks_length]; exact h)]; simp [marks]

/-- is place (i, j) a saddle -/
def sadB (g : List (List Int)) (i j : Nat) : Bool := (nth (rowAt g i) j == nth (lows g) i) && (nth (rowAt g i) j == nth (highs g) j)

/-- the saddles of row i among its first j numbers; those of the first i rows -/
def sadRow (g : List (List Int)) (i : Nat) : Nat → List Int
  | 0 => []
  | j + 1 => if sadB g i j = true then sadRow g i j ++ [(i : Int) * ((rowAt g 0).length : Int) + (j : Int)] else sadRow g i j

def sadAll (g : List (List Int)) : Nat → List Int
  | 0 => []
  | i + 1 => sadAll g i ++ sadRow g i (rowAt g 0).length

def sadUpTo (g : List (List Int)) (i j : Nat) : List Int := sadAll g i ++ sadRow g i j

theorem sad_start (g : List (List Int)) : sadUpTo g 0 0 = [] := rfl

theorem sad_yes {g : List (List Int)} {i j : Nat} (h : sadB g i j = true) : sadUpTo g i (j + 1) = sadUpTo g i j ++ [(i : Int) * ((rowAt g 0).length : Int) + (j : Int)] := by
  unfold sadUpTo; rw [sadRow, if_pos h, List.append_assoc]

theorem sad_no {g : List (List Int)} {i j : Nat} (h : sadB g i j = false) : sadUpTo g i (j + 1) = sadUpTo g i j := by
  unfold sadUpTo; rw [sadRow, if_neg (by rw [h]; simp)]

theorem sad_next (g : List (List Int)) (i : Nat) : sadUpTo g (i + 1) 0 = sadUpTo g i (rowAt g 0).length := by
  unfold sadUpTo; simp [sadAll, sadRow]

theorem sadRow_len (g : List (List Int)) (i j : Nat) : (sadRow g i j).length ≤ j := by
  induction j with
  | zero => simp [sadRow]
  | succ j ih =>
    simp only [sadRow]
    split
    · simp; omega
    · omega

theorem sadAll_len (g : List (List Int)) (i : Nat) (hm : (rowAt g 0).length ≤ 16) : (sadAll g i).length ≤ 16 * i := by
  induction i with
  | zero => simp [sadAll]
  | succ i ih => have := sadRow_len g i (rowAt g 0).length; simp only [sadAll, List.length_append]; omega

theorem sad_len (g : List (List Int)) (i j : Nat) (hm : (rowAt g 0).length ≤ 16) : (sadUpTo g i j).length ≤ 16 * i + j := by
  have := sadRow_len g i j; have := sadAll_len g i hm; unfold sadUpTo; rw [List.length_append]; omega

/-- the saddles of a game; none of what is no game -/
def saddles (g : List (List Int)) : List Int := if gameB g = true then sadUpTo g g.length 0 else []

theorem saddles_len (g : List (List Int)) : (saddles g).length ≤ 256 := by
  unfold saddles
  split
  · rename_i h
    have hg := Game.of h
    have := sad_len g g.length 0 hg.mhi
    have := hg.hi
    omega
  · simp

/-- the other signs; a game from the other side -/
def negs (l : List Int) : List Int := l.map fun x => -x

def turnedL (g : List (List Int)) : List (List Int) := (cols g).map negs

def turned (g : List (List Int)) : List (List Int) := if gameB g = true then turnedL g else []

theorem negs_length (l : List Int) : (negs l).length = l.length := by simp [negs]

theorem nth_negs (l : List Int) (i : Nat) (h : i < l.length) : nth (negs l) i = -nth l i := by unfold negs; rw [nth_map _ _ _ h, nth_eq l i h]

theorem turnedL_length (g : List (List Int)) : (turnedL g).length = (rowAt g 0).length := by simp [turnedL, cols]

theorem rowAt_turnedL (g : List (List Int)) (j : Nat) (h : j < (rowAt g 0).length) : rowAt (turnedL g) j = negs (col g j) := by
  rw [rowAt_eq _ _ (by rw [turnedL_length]; exact h)]; simp [turnedL, cols]

theorem turnedL_row_length (g : List (List Int)) (j : Nat) (h : j < (rowAt g 0).length) : (rowAt (turnedL g) j).length = g.length := by rw [rowAt_turnedL g j h, negs_length, col_length]

theorem nth_turnedL (g : List (List Int)) (j i : Nat) (h : j < (rowAt g 0).length) (hi : i < g.length) : nth (rowAt (turnedL g) j) i = -nth (rowAt g i) j := by
  rw [rowAt_turnedL g j h, nth_negs _ _ (by rw [col_length]; exact hi), nth_col g j i hi]

theorem turned_game {g : List (List Int)} {m : Nat} (h : Game g m) : Game (turnedL g) g.length := by
  obtain ⟨h1, h2, h3, h4, h5, h6, h7⟩ := h
  have hm : (rowAt g 0).length = m := h5 0 (by omega)
  refine ⟨by rw [turnedL_length, hm]; exact h3, by rw [turnedL_length, hm]; exact h4, h1, h2, fun i hi => turnedL_row_length g i (by rwa [turnedL_length] at hi), fun i hi j hj => ?_, fun i hi j hj => ?_⟩
  · rw [turnedL_length] at hi
    rw [nth_turnedL g i j hi hj]; have := h7 j hj i (by omega); omega
  · rw [turnedL_length] at hi
    rw [nth_turnedL g i j hi hj]; have := h6 j hj i (by omega); omega

theorem turned_turned {g : List (List Int)} (h : gameB g = true) : turned (turned g) = g := by
  have hg := Game.of h
  have e1 : turned g = turnedL g := by simp [turned, h]
  have ht := turned_game hg
  have e2 : turned (turnedL g) = turnedL (turnedL g) := by simp [turned, ht.to.1]
  have hl := hg.lo
  have hr0 : (rowAt (turnedL g) 0).length = g.length := ht.to.2.symm
  rw [e1, e2]
  refine ext_rowAt (by rw [turnedL_length, hr0]) (fun i hi => ?_)
  rw [turnedL_length, hr0] at hi
  refine ext_nth (by rw [turnedL_row_length _ _ (by rw [hr0]; exact hi), turnedL_length, hg.len i hi]) (fun j hj => ?_)
  rw [turnedL_row_length _ _ (by rw [hr0]; exact hi), turnedL_length] at hj
  rw [nth_turnedL _ i j (by rw [hr0]; exact hi) (by rw [turnedL_length]; exact hj), nth_turnedL g j i hj hi]; omega

theorem turned_len (g : List (List Int)) : (turned g).length ≤ 16 ∧ (∀ i, i < (turned g).length → (rowAt (turned g) i).length ≤ 16) := by
  unfold turned
  split
  · rename_i h
    have hg := Game.of h
    have := hg.hi
    have := hg.mhi
    refine ⟨by rw [turnedL_length]; omega, fun i hi => ?_⟩
    rw [turnedL_length] at hi
    rw [turnedL_row_length g i hi]; omega
  · exact ⟨by simp, fun i hi => by simp at hi⟩

theorem sumN_le (g : List (List Int)) (M : Nat) (k : Nat) (h : ∀ i, i < k → (rowAt g i).length ≤ M) : sumN g k ≤ M * k := by
  induction k with
  | zero => simp [sumN]
  | succ k ih =>
    have h1 := ih (fun i hi => h i (by omega))
    have h2 := h k (by omega)
    have : M * (k + 1) = M * k + M := Nat.mul_succ M k
    simp only [sumN]; omega

end Go.Proofs.Ytjojilimdhekfaa
