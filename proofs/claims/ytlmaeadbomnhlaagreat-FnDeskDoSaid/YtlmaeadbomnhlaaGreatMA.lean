/- Texts in one: Math, Gmath, Gmath2, Mmath, Mmath2, Mmath3, Piv, Det, Sel. -/
namespace Go.Proofs.YtlmaeadbomnhlaaGreat
set_option linter.unusedSimpArgs false
set_option linter.unusedVariables false
def gcdI (a b : Int) : Int := ((Int.gcd a b : Nat) : Int)
theorem gcdI_nonneg (a b : Int) : 0 ≤ gcdI a b := by unfold gcdI; omega
theorem gcdI_tmod (a b : Int) : gcdI b (a.tmod b) = gcdI a b := by
  unfold gcdI
  rw [Int.gcd_eq_natAbs_gcd_natAbs, Int.natAbs_tmod, Int.gcd_eq_natAbs_gcd_natAbs, Nat.gcd_comm b.natAbs, ← Nat.gcd_rec, Nat.gcd_comm]
theorem gcdI_zero (a : Int) : gcdI a 0 = max a (-a) := by
  unfold gcdI; rw [Int.gcd_zero_right]; omega
theorem gcdI_le_left (a b : Int) (h : a ≠ 0) : gcdI a b ≤ max a (-a) := by
  unfold gcdI; rw [Int.gcd_eq_natAbs_gcd_natAbs]
  have := Nat.gcd_le_left b.natAbs (Nat.pos_of_ne_zero (Int.natAbs_ne_zero.2 h)); omega
theorem gcdI_le_right (a b : Int) (h : b ≠ 0) : gcdI a b ≤ max b (-b) := by
  unfold gcdI; rw [Int.gcd_comm]; exact gcdI_le_left b a h
theorem gcdI_pos (a b : Int) (h : b ≠ 0) : 1 ≤ gcdI a b := by
  unfold gcdI
  have := Int.gcd_pos_of_ne_zero_right a h; omega
theorem gcdI_dvd_left (a b : Int) : gcdI a b ∣ a := Int.gcd_dvd_left a b
theorem gcdI_dvd_right (a b : Int) : gcdI a b ∣ b := Int.gcd_dvd_right a b
theorem tmod_in (a b : Int) {M : Int} (h1 : -M ≤ a) (h2 : a ≤ M) : -M ≤ a.tmod b ∧ a.tmod b ≤ M := by
  have h : (a.tmod b).natAbs = a.natAbs % b.natAbs := Int.natAbs_tmod ..
  have h2 : a.natAbs % b.natAbs ≤ a.natAbs := Nat.mod_le ..
  omega
theorem tmod_lt (a b : Int) (h : b ≠ 0) : (a.tmod b).natAbs < b.natAbs := by
  rw [Int.natAbs_tmod]; exact Nat.mod_lt _ (by omega)
theorem tdiv_in (a b : Int) {M : Int} (h1 : -M ≤ a) (h2 : a ≤ M) : -M ≤ a.tdiv b ∧ a.tdiv b ≤ M := by
  have h : (a.tdiv b).natAbs = a.natAbs / b.natAbs := Int.natAbs_tdiv ..
  have h2 : a.natAbs / b.natAbs ≤ a.natAbs := Nat.div_le_self ..
  omega
def inR (n lo hi : Int) : Bool := decide (lo ≤ n ∧ n ≤ hi)
theorem inR_yes {n lo hi : Int} (h : inR n lo hi = true) : lo ≤ n ∧ n ≤ hi := by simpa [inR] using h
theorem inR_no {n lo hi : Int} (h : inR n lo hi = false) : ¬ (lo ≤ n ∧ n ≤ hi) := by simpa [inR] using h
def okB (u d : Int) : Bool := decide (-1000000000 ≤ u ∧ u ≤ 1000000000 ∧ 1 ≤ d ∧ d ≤ 1000000000 ∧ gcdI u d = 1)
def lowU (u d : Int) : Int := u.tdiv (if d < 0 then -gcdI u d else gcdI u d)
def lowD (u d : Int) : Int := d.tdiv (if d < 0 then -gcdI u d else gcdI u d)
theorem okB_no {u d : Int} (h : ¬ (-1000000000 ≤ u ∧ u ≤ 1000000000 ∧ 1 ≤ d ∧ d ≤ 1000000000 ∧ gcdI u d = 1)) : okB u d = false := by
  unfold okB; exact decide_eq_false h
theorem low_neg {u d : Int} (h : d < 0) : lowU u d = u.tdiv (-gcdI u d) ∧ lowD u d = d.tdiv (-gcdI u d) := by
  unfold lowU lowD; rw [if_pos h]; exact ⟨rfl, rfl⟩
theorem low_pos {u d : Int} (h : ¬ d < 0) : lowU u d = u.tdiv (gcdI u d) ∧ lowD u d = d.tdiv (gcdI u d) := by
  unfold lowU lowD; rw [if_neg h]; exact ⟨rfl, rfl⟩
theorem lowU_in (u d : Int) {M : Int} (h1 : -M ≤ u) (h2 : u ≤ M) : -M ≤ lowU u d ∧ lowU u d ≤ M := tdiv_in _ _ h1 h2
theorem lowD_in (u d : Int) {M : Int} (h1 : -M ≤ d) (h2 : d ≤ M) : -M ≤ lowD u d ∧ lowD u d ≤ M := tdiv_in _ _ h1 h2
theorem okB_iff {u d : Int} : okB u d = true ↔ (-1000000000 ≤ u ∧ u ≤ 1000000000 ∧ 1 ≤ d ∧ d ≤ 1000000000 ∧ gcdI u d = 1) := by
  unfold okB; simp
theorem low_gcd (u d : Int) (hd : d ≠ 0) : gcdI (lowU u d) (lowD u d) = 1 := by
  unfold lowU lowD gcdI
  rw [Int.gcd_eq_natAbs_gcd_natAbs]
  rw [Int.natAbs_tdiv, Int.natAbs_tdiv]
  have hp := Int.gcd_pos_of_ne_zero_right u hd
  have e : (if d < 0 then -((Int.gcd u d : Nat) : Int) else ((Int.gcd u d : Nat) : Int)).natAbs = Nat.gcd u.natAbs d.natAbs := by
    have : Int.gcd u d = Nat.gcd u.natAbs d.natAbs := Int.gcd_eq_natAbs_gcd_natAbs ..
    split <;> omega
  rw [e]
  have := Nat.coprime_div_gcd_div_gcd (m := u.natAbs) (n := d.natAbs) (by rw [← Int.gcd_eq_natAbs_gcd_natAbs]; exact hp)
  have h2 : Nat.gcd (u.natAbs / Nat.gcd u.natAbs d.natAbs) (d.natAbs / Nat.gcd u.natAbs d.natAbs) = 1 := this
  exact congrArg (fun n : Nat => (n : Int)) h2
theorem lowD_pos (u d : Int) (hd : d ≠ 0) : 1 ≤ lowD u d := by
  unfold lowD
  have h1 := gcdI_pos u d hd
  have h2 := gcdI_dvd_right u d
  obtain ⟨k, hk⟩ := h2
  generalize hg : gcdI u d = g at *
  by_cases hn : d < 0
  · rw [if_pos hn]
    have e : d = (-k) * (-g) := by rw [Int.neg_mul_neg, Int.mul_comm]; exact hk
    rw [e, Int.mul_tdiv_cancel _ (by omega)]
    have : k < 0 := by
      by_cases hk0 : 0 ≤ k
      · have := Int.mul_nonneg (show (0:Int) ≤ g by omega) hk0; omega
      · omega
    omega
  · rw [if_neg hn]
    have e : d = k * g := by rw [hk, Int.mul_comm]
    rw [e, Int.mul_tdiv_cancel _ (by omega)]
    by_cases hk0 : k ≤ 0
    · have := Int.mul_nonneg (show (0:Int) ≤ g by omega) (show (0:Int) ≤ -k by omega)
      rw [Int.mul_neg] at this; omega
    · omega
theorem low_cross (u d : Int) (hd : d ≠ 0) : lowU u d * d = u * lowD u d := by
  unfold lowU lowD
  have h1 := gcdI_pos u d hd
  obtain ⟨k, hk⟩ := gcdI_dvd_right u d
  obtain ⟨l, hl⟩ := gcdI_dvd_left u d
  generalize hg : (if d < 0 then -gcdI u d else gcdI u d) = s at *
  have hs : s ≠ 0 := by subst hg; split <;> omega
  have ed : ∃ k, d = k * s := by
    subst hg; split
    · exact ⟨-k, by rw [Int.neg_mul_neg, Int.mul_comm]; exact hk⟩
    · exact ⟨k, by rw [Int.mul_comm]; exact hk⟩
  have eu : ∃ k, u = k * s := by
    subst hg; split
    · exact ⟨-l, by rw [Int.neg_mul_neg, Int.mul_comm]; exact hl⟩
    · exact ⟨l, by rw [Int.mul_comm]; exact hl⟩
  clear hk hl hg
  obtain ⟨a, rfl⟩ := ed
  obtain ⟨b, rfl⟩ := eu
  rw [Int.mul_tdiv_cancel _ hs, Int.mul_tdiv_cancel _ hs, Int.mul_assoc, Int.mul_comm s]
theorem cross_eq {a b c d : Int} (hb : 1 ≤ b) (hd : 1 ≤ d) (h1 : gcdI a b = 1) (h2 : gcdI c d = 1) (h : a * d = c * b) : a = c ∧ b = d := by
  have c1 : Nat.Coprime a.natAbs b.natAbs := by
    have : Int.gcd a b = 1 := by unfold gcdI at h1; omega
    rwa [Int.gcd_eq_natAbs_gcd_natAbs] at this
  have c2 : Nat.Coprime c.natAbs d.natAbs := by
    have : Int.gcd c d = 1 := by unfold gcdI at h2; omega
    rwa [Int.gcd_eq_natAbs_gcd_natAbs] at this
  have hn : a.natAbs * d.natAbs = c.natAbs * b.natAbs := by rw [← Int.natAbs_mul, ← Int.natAbs_mul, h]
  have e1 : b.natAbs ∣ d.natAbs := c1.symm.dvd_of_dvd_mul_left (by rw [hn]; exact Nat.dvd_mul_left ..)
  have e2 : d.natAbs ∣ b.natAbs := c2.symm.dvd_of_dvd_mul_left (by rw [← hn]; exact Nat.dvd_mul_left ..)
  have e : b.natAbs = d.natAbs := Nat.dvd_antisymm e1 e2
  have ebd : b = d := by omega
  subst ebd
  exact ⟨Int.eq_of_mul_eq_mul_right (by omega) h, rfl⟩
theorem mul_in {a b : Int} (h1 : -1000000000 ≤ a) (h2 : a ≤ 1000000000) (h3 : 0 ≤ b) (h4 : b ≤ 1000000000) : -1000000000000000000 ≤ a * b ∧ a * b ≤ 1000000000000000000 := by
  have e1 : a * b ≤ 1000000000 * b := Int.mul_le_mul_of_nonneg_right h2 h3
  have e2 : -1000000000 * b ≤ a * b := Int.mul_le_mul_of_nonneg_right h1 h3
  omega
theorem mul_pos {a b : Int} (h1 : 1 ≤ a) (h2 : 1 ≤ b) : 1 ≤ a * b := by
  have := Int.mul_pos (show 0 < a by omega) (show 0 < b by omega); omega
end Go.Proofs.YtlmaeadbomnhlaaGreat

namespace Go.Proofs.YtlmaeadbomnhlaaGreat
set_option linter.unusedSimpArgs false
set_option linter.unusedVariables false
def nth (l : List Int) (i : Nat) : Int := l.getD i 0
def rowAt (g : List (List Int)) (i : Nat) : List Int := g.getD i []
theorem nth_eq (l : List Int) (i : Nat) (h : i < l.length) : nth l i = l[i] := by simp [nth, h]
theorem rowAt_eq (g : List (List Int)) (i : Nat) (h : i < g.length) : rowAt g i = g[i] := by simp [rowAt, h]
theorem nth_map {α : Type} (f : α → Int) (l : List α) (i : Nat) (h : i < l.length) : nth (l.map f) i = f l[i] := by rw [nth_eq _ _ (by simpa using h)]; simp
theorem ext_nth {l m : List Int} (hl : l.length = m.length) (h : ∀ i, i < l.length → nth l i = nth m i) : l = m := by
  apply List.ext_getElem hl
  intro i h1 h2
  rw [← nth_eq l i h1, ← nth_eq m i h2]; exact h i h1
theorem ext_rowAt {g m : List (List Int)} (hl : g.length = m.length) (h : ∀ i, i < g.length → rowAt g i = rowAt m i) : g = m := by
  apply List.ext_getElem hl
  intro i h1 h2
  rw [← rowAt_eq g i h1, ← rowAt_eq m i h2]; exact h i h1
theorem nth_take (l : List Int) (k i : Nat) (h : i < k) : nth (l.take k) i = nth l i := by simp [nth, List.getElem?_take, h]
theorem nth_snoc_lt (l : List Int) (x : Int) (i : Nat) (h : i < l.length) : nth (l ++ [x]) i = nth l i := by simp [nth, List.getElem?_append, h]
theorem nth_snoc_eq (l : List Int) (x : Int) : nth (l ++ [x]) l.length = x := by simp [nth]
theorem rowAt_snoc_lt (g : List (List Int)) (x : List Int) (i : Nat) (h : i < g.length) : rowAt (g ++ [x]) i = rowAt g i := by simp [rowAt, List.getElem?_append, h]
theorem rowAt_snoc_eq (g : List (List Int)) (x : List Int) : rowAt (g ++ [x]) g.length = x := by simp [rowAt]
def inB (n : Int) : Bool := decide (-9 ≤ n) && decide (n ≤ 9)
theorem inB_iff {n : Int} : inB n = true ↔ -9 ≤ n ∧ n ≤ 9 := by simp [inB]
theorem inB_false {n : Int} : inB n = false ↔ n < -9 ∨ 9 < n := by
  rw [← Bool.not_eq_true, inB_iff]; omega
def numsB (l : List Int) : Nat → Bool
  | 0 => true
  | k + 1 => numsB l k && inB (nth l k)
def rowB (m : Nat) (r : List Int) : Bool := (r.length == m) && numsB r r.length
def rowsB (g : List (List Int)) : Nat → Bool
  | 0 => true
  | k + 1 => rowsB g k && rowB (rowAt g 0).length (rowAt g k)
def sideB (n : Nat) : Bool := decide (1 ≤ n) && decide (n ≤ 16)
def gameB (g : List (List Int)) : Bool := sideB g.length && sideB (rowAt g 0).length && rowsB g g.length
theorem numsB_iff {l : List Int} {k : Nat} : numsB l k = true ↔ ∀ i, i < k → inB (nth l i) = true := by
  induction k with
  | zero => simp [numsB]
  | succ k ih =>
    simp only [numsB, Bool.and_eq_true, ih]
    refine ⟨fun ⟨h1, h2⟩ i hi => ?_, fun h => ⟨fun i hi => h i (by omega), h k (by omega)⟩⟩
    rcases Nat.lt_or_eq_of_le (Nat.le_of_lt_succ hi) with h | rfl
    · exact h1 i h
    · exact h2
theorem rowsB_iff {g : List (List Int)} {k : Nat} : rowsB g k = true ↔ ∀ i, i < k → rowB (rowAt g 0).length (rowAt g i) = true := by
  induction k with
  | zero => simp [rowsB]
  | succ k ih =>
    simp only [rowsB, Bool.and_eq_true, ih]
    refine ⟨fun ⟨h1, h2⟩ i hi => ?_, fun h => ⟨fun i hi => h i (by omega), h k (by omega)⟩⟩
    rcases Nat.lt_or_eq_of_le (Nat.le_of_lt_succ hi) with h | rfl
    · exact h1 i h
    · exact h2
theorem numsB_no {l : List Int} {k n : Nat} (h : inB (nth l k) = false) (hk : k < n) : numsB l n = false := by
  rw [← Bool.not_eq_true, numsB_iff]; intro hh; rw [hh k hk] at h; cases h
theorem rowsB_no {g : List (List Int)} {k n : Nat} (h : rowB (rowAt g 0).length (rowAt g k) = false) (hk : k < n) : rowsB g n = false := by
  rw [← Bool.not_eq_true, rowsB_iff]; intro hh; rw [hh k hk] at h; cases h
theorem sideB_iff {n : Nat} : sideB n = true ↔ 1 ≤ n ∧ n ≤ 16 := by simp [sideB]
structure Game (g : List (List Int)) (m : Nat) : Prop where
  lo : 1 ≤ g.length
  hi : g.length ≤ 16
  mlo : 1 ≤ m
  mhi : m ≤ 16
  len : ∀ i, i < g.length → (rowAt g i).length = m
  nlo : ∀ i, i < g.length → ∀ j, j < m → -9 ≤ nth (rowAt g i) j
  nhi : ∀ i, i < g.length → ∀ j, j < m → nth (rowAt g i) j ≤ 9
theorem Game.of {g : List (List Int)} (h : gameB g = true) : Game g (rowAt g 0).length := by
  simp only [gameB, Bool.and_eq_true, sideB_iff, rowsB_iff, rowB, beq_iff_eq, numsB_iff, inB_iff] at h
  obtain ⟨⟨⟨h1, h2⟩, h3, h4⟩, h5⟩ := h
  exact ⟨h1, h2, h3, h4, fun i hi => (h5 i hi).1, fun i hi j hj => ((h5 i hi).2 j (by rw [(h5 i hi).1]; exact hj)).1, fun i hi j hj => ((h5 i hi).2 j (by rw [(h5 i hi).1]; exact hj)).2⟩
theorem Game.to {g : List (List Int)} {m : Nat} (h : Game g m) : gameB g = true ∧ m = (rowAt g 0).length := by
  obtain ⟨h1, h2, h3, h4, h5, h6, h7⟩ := h
  have hm : (rowAt g 0).length = m := h5 0 (by omega)
  refine ⟨?_, hm.symm⟩
  simp only [gameB, Bool.and_eq_true, sideB_iff, rowsB_iff, rowB, beq_iff_eq, numsB_iff, inB_iff]
  refine ⟨⟨⟨h1, h2⟩, by omega, by omega⟩, fun i hi => ⟨by rw [h5 i hi, hm], fun j hj => ?_⟩⟩
  rw [h5 i hi] at hj
  exact ⟨h6 i hi j hj, h7 i hi j hj⟩
def lowN (l : List Int) : Nat → Int
  | 0 => nth l 0
  | k + 1 => min (lowN l k) (nth l k)
def highN (l : List Int) : Nat → Int
  | 0 => nth l 0
  | k + 1 => max (highN l k) (nth l k)
def ltB (a b : Int) : Bool := decide (a < b)
def gtB (a b : Int) : Bool := decide (b < a)
def bestN (better : Int → Int → Bool) (l : List Int) : Nat → Nat
  | 0 => 0
  | k + 1 => if better (nth l k) (nth l (bestN better l k)) = true then k else bestN better l k
theorem bestN_lt (better : Int → Int → Bool) (l : List Int) {k n : Nat} (h : 0 < n) (hk : k ≤ n) : bestN better l k < n := by
  induction k with
  | zero => exact h
  | succ k ih =>
    simp only [bestN]
    split
    · omega
    · exact ih (by omega)
theorem bestN_low (l : List Int) (k : Nat) : nth l (bestN ltB l k) = lowN l k := by
  induction k with
  | zero => rfl
  | succ k ih =>
    simp only [bestN, lowN, ltB, decide_eq_true_eq]
    rw [ih]
    by_cases h : nth l k < lowN l k
    · rw [if_pos h]; omega
    · rw [if_neg h, ih]; omega
theorem bestN_high (l : List Int) (k : Nat) : nth l (bestN gtB l k) = highN l k := by
  induction k with
  | zero => rfl
  | succ k ih =>
    simp only [bestN, highN, gtB, decide_eq_true_eq]
    rw [ih]
    by_cases h : highN l k < nth l k
    · rw [if_pos h]; omega
    · rw [if_neg h, ih]; omega
theorem lowN_le (l : List Int) {k i : Nat} (h : i < k) : lowN l k ≤ nth l i := by
  induction k with
  | zero => omega
  | succ k ih =>
    simp only [lowN]
    rcases Nat.lt_or_eq_of_le (Nat.le_of_lt_succ h) with h | rfl
    · have := ih h; omega
    · omega
theorem le_highN (l : List Int) {k i : Nat} (h : i < k) : nth l i ≤ highN l k := by
  induction k with
  | zero => omega
  | succ k ih =>
    simp only [highN]
    rcases Nat.lt_or_eq_of_le (Nat.le_of_lt_succ h) with h | rfl
    · have := ih h; omega
    · omega
theorem lowN_at (l : List Int) {k : Nat} (h : 0 < k) : ∃ i, i < k ∧ lowN l k = nth l i := by
  refine ⟨bestN ltB l k, bestN_lt _ _ h (Nat.le_refl _), (bestN_low l k).symm⟩
theorem highN_at (l : List Int) {k : Nat} (h : 0 < k) : ∃ i, i < k ∧ highN l k = nth l i := by
  refine ⟨bestN gtB l k, bestN_lt _ _ h (Nat.le_refl _), (bestN_high l k).symm⟩
def col (g : List (List Int)) (j : Nat) : List Int := g.map fun r => nth r j
def cols (g : List (List Int)) : List (List Int) := (List.range (rowAt g 0).length).map fun j => col g j
theorem col_length (g : List (List Int)) (j : Nat) : (col g j).length = g.length := by simp [col]
theorem cols_length (g : List (List Int)) : (cols g).length = (rowAt g 0).length := by simp [cols]
theorem nth_col (g : List (List Int)) (j i : Nat) (h : i < g.length) : nth (col g j) i = nth (rowAt g i) j := by
  unfold col; rw [nth_map _ _ _ h, rowAt_eq g i h]
theorem rowAt_cols (g : List (List Int)) (j : Nat) (h : j < (rowAt g 0).length) : rowAt (cols g) j = col g j := by
  rw [rowAt_eq _ _ (by simpa [cols] using h)]; simp [cols]
def sumN (g : List (List Int)) : Nat → Nat
  | 0 => 0
  | k + 1 => sumN g k + (rowAt g k).length
def seqN (k : Int) (n : Nat) : List Int := (List.range n).map fun i : Nat => k + (i : Int)
theorem seqN_length (k : Int) (n : Nat) : (seqN k n).length = n := by simp [seqN]
def marks (g : List (List Int)) (k : Int) : List (List Int) := (List.range g.length).map fun i => seqN (k + (sumN g i : Int)) (rowAt g i).length
theorem marks_length (g : List (List Int)) (k : Int) : (marks g k).length = g.length := by simp [marks]
theorem rowAt_marks (g : List (List Int)) (k : Int) (i : Nat) (h : i < g.length) : rowAt (marks g k) i = seqN (k + (sumN g i : Int)) (rowAt g i).length := by
  rw [rowAt_eq _ _ (by rw [marks_length]; exact h)]; simp [marks]
def negs (l : List Int) : List Int := l.map fun x => -x
def turnedL (g : List (List Int)) : List (List Int) := (cols g).map negs
def turned (g : List (List Int)) : List (List Int) := if gameB g = true then turnedL g else []
theorem negs_length (l : List Int) : (negs l).length = l.length := by simp [negs]
theorem nth_negs (l : List Int) (i : Nat) (h : i < l.length) : nth (negs l) i = -nth l i := by unfold negs; rw [nth_map _ _ _ h, nth_eq l i h]
theorem turnedL_length (g : List (List Int)) : (turnedL g).length = (rowAt g 0).length := by simp [turnedL, cols]
theorem rowAt_turnedL (g : List (List Int)) (j : Nat) (h : j < (rowAt g 0).length) : rowAt (turnedL g) j = negs (col g j) := by
  rw [rowAt_eq _ _ (by rw [turnedL_length]; exact h)]; simp [turnedL, cols]
theorem turnedL_row_length (g : List (List Int)) (j : Nat) (h : j < (rowAt g 0).length) : (rowAt (turnedL g) j).length = g.length := by rw [rowAt_turnedL g j h, negs_length, col_length]
theorem nth_turnedL (g : List (List Int)) (j i : Nat) (h : j < (rowAt g 0).length) (hi : i < g.length) : nth (rowAt (turnedL g) j) i = -nth (rowAt g i) j := by
  rw [rowAt_turnedL g j h, nth_negs _ _ (by rw [col_length]; exact hi), nth_col g j i hi]
theorem turned_game {g : List (List Int)} {m : Nat} (h : Game g m) : Game (turnedL g) g.length := by
  obtain ⟨h1, h2, h3, h4, h5, h6, h7⟩ := h
  have hm : (rowAt g 0).length = m := h5 0 (by omega)
  refine ⟨by rw [turnedL_length, hm]; exact h3, by rw [turnedL_length, hm]; exact h4, h1, h2, fun i hi => turnedL_row_length g i (by rwa [turnedL_length] at hi), fun i hi j hj => ?_, fun i hi j hj => ?_⟩
  · rw [turnedL_length] at hi
    rw [nth_turnedL g i j hi hj]; have := h7 j hj i (by omega); omega
  · rw [turnedL_length] at hi
    rw [nth_turnedL g i j hi hj]; have := h6 j hj i (by omega); omega
theorem turned_turned {g : List (List Int)} (h : gameB g = true) : turned (turned g) = g := by
  have hg := Game.of h
  have e1 : turned g = turnedL g := by simp [turned, h]
  have ht := turned_game hg
  have e2 : turned (turnedL g) = turnedL (turnedL g) := by simp [turned, ht.to.1]
  have hl := hg.lo
  have hr0 : (rowAt (turnedL g) 0).length = g.length := ht.to.2.symm
  rw [e1, e2]
  refine ext_rowAt (by rw [turnedL_length, hr0]) (fun i hi => ?_)
  rw [turnedL_length, hr0] at hi
  refine ext_nth (by rw [turnedL_row_length _ _ (by rw [hr0]; exact hi), turnedL_length, hg.len i hi]) (fun j hj => ?_)
  rw [turnedL_row_length _ _ (by rw [hr0]; exact hi), turnedL_length] at hj
  rw [nth_turnedL _ i j (by rw [hr0]; exact hi) (by rw [turnedL_length]; exact hj), nth_turnedL g j i hj hi]; omega
theorem turned_len (g : List (List Int)) : (turned g).length ≤ 16 ∧ (∀ i, i < (turned g).length → (rowAt (turned g) i).length ≤ 16) := by
  unfold turned
  split
  · rename_i h
    have hg := Game.of h
    have := hg.hi
    have := hg.mhi
    refine ⟨by rw [turnedL_length]; omega, fun i hi => ?_⟩
    rw [turnedL_length] at hi
    rw [turnedL_row_length g i hi]; omega
  · exact ⟨by simp, fun i hi => by simp at hi⟩
theorem sumN_le (g : List (List Int)) (M : Nat) (k : Nat) (h : ∀ i, i < k → (rowAt g i).length ≤ M) : sumN g k ≤ M * k := by
  induction k with
  | zero => simp [sumN]
  | succ k ih =>
    have h1 := ih (fun i hi => h i (by omega))
    have h2 := h k (by omega)
    have : M * (k + 1) = M * k + M := Nat.mul_succ M k
    simp only [sumN]; omega
end Go.Proofs.YtlmaeadbomnhlaaGreat

namespace Go.Proofs.YtlmaeadbomnhlaaGreat
set_option linter.unusedSimpArgs false
set_option linter.unusedVariables false
end Go.Proofs.YtlmaeadbomnhlaaGreat

namespace Go.Proofs.YtlmaeadbomnhlaaGreat
set_option linter.unusedSimpArgs false
set_option linter.unusedVariables false
def sumW (x : List Int) : Nat → Int
  | 0 => 0
  | k + 1 => sumW x k + nth x k
def dotW (x l : List Int) : Nat → Int
  | 0 => 0
  | k + 1 => dotW x l k + nth x k * nth l k
def wB (n : Int) : Bool := decide (0 ≤ n) && decide (n ≤ 100000)
theorem wB_iff {n : Int} : wB n = true ↔ 0 ≤ n ∧ n ≤ 100000 := by simp [wB]
theorem wB_false {n : Int} : wB n = false ↔ n < 0 ∨ 100000 < n := by
  rw [← Bool.not_eq_true, wB_iff]; omega
def wsB (x : List Int) : Nat → Bool
  | 0 => true
  | k + 1 => wsB x k && wB (nth x k)
theorem wsB_iff {x : List Int} {k : Nat} : wsB x k = true ↔ ∀ i, i < k → 0 ≤ nth x i ∧ nth x i ≤ 100000 := by
  induction k with
  | zero => simp [wsB]
  | succ k ih =>
    simp only [wsB, Bool.and_eq_true, ih, wB_iff]
    refine ⟨fun ⟨h1, h2⟩ i hi => ?_, fun h => ⟨fun i hi => h i (by omega), h k (by omega)⟩⟩
    rcases Nat.lt_or_eq_of_le (Nat.le_of_lt_succ hi) with h | rfl
    · exact h1 i h
    · exact h2
theorem wsB_no {x : List Int} {k n : Nat} (h : wB (nth x k) = false) (hk : k < n) : wsB x n = false := by
  rw [← Bool.not_eq_true, wsB_iff]; intro hh
  have := hh k hk
  rw [wB_false] at h; omega
def mixB (x : List Int) (many : Int) : Bool := wsB x x.length && inR many 1 16 && ((x.length : Int) == many) && decide (0 < sumW x x.length)
structure Mix (x : List Int) (m : Nat) : Prop where
  len : x.length = m
  lo : 1 ≤ m
  hi : m ≤ 16
  wlo : ∀ i, i < m → 0 ≤ nth x i
  whi : ∀ i, i < m → nth x i ≤ 100000
  pos : 0 < sumW x m
theorem Mix.of {x : List Int} {m : Nat} (h : mixB x (m : Int) = true) : Mix x m := by
  simp only [mixB, inR, Bool.and_eq_true, decide_eq_true_eq, beq_iff_eq, wsB_iff] at h
  obtain ⟨⟨⟨h1, h2, h3⟩, h4⟩, h5⟩ := h
  have e : x.length = m := by omega
  rw [e] at h1 h5
  exact ⟨e, by omega, by omega, fun i hi => (h1 i hi).1, fun i hi => (h1 i hi).2, h5⟩
theorem Mix.to {x : List Int} {m : Nat} (h : Mix x m) : mixB x (m : Int) = true := by
  obtain ⟨h1, h2, h3, h4, h5, h6⟩ := h
  simp only [mixB, inR, Bool.and_eq_true, decide_eq_true_eq, beq_iff_eq, wsB_iff]
  rw [h1]
  exact ⟨⟨⟨fun i hi => ⟨h4 i hi, h5 i hi⟩, by omega, by omega⟩, rfl⟩, h6⟩
theorem sumW_bd (x : List Int) (k : Nat) (h : ∀ i, i < k → 0 ≤ nth x i ∧ nth x i ≤ 100000) : 0 ≤ sumW x k ∧ sumW x k ≤ 100000 * (k : Int) := by
  induction k with
  | zero => simp [sumW]
  | succ k ih =>
    have h1 := ih (fun i hi => h i (by omega))
    have h2 := h k (by omega)
    simp only [sumW]; omega
theorem prod_bd {a b A B : Int} (a0 : 0 ≤ a) (a1 : a ≤ A) (b0 : -B ≤ b) (b1 : b ≤ B) (hB : 0 ≤ B) : -(A * B) ≤ a * b ∧ a * b ≤ A * B := by
  have h1 : a * b ≤ a * B := Int.mul_le_mul_of_nonneg_left b1 a0
  have h2 : a * B ≤ A * B := Int.mul_le_mul_of_nonneg_right a1 hB
  have h3 : a * (-B) ≤ a * b := Int.mul_le_mul_of_nonneg_left b0 a0
  rw [Int.mul_neg] at h3
  omega
theorem dotW_bd (x l : List Int) (B : Int) (hB : 0 ≤ B) (k : Nat) (h : ∀ i, i < k → 0 ≤ nth x i ∧ nth x i ≤ 100000) (hl : ∀ i, i < k → -B ≤ nth l i ∧ nth l i ≤ B) : -(100000 * B * (k : Int)) ≤ dotW x l k ∧ dotW x l k ≤ 100000 * B * (k : Int) := by
  induction k with
  | zero => simp [dotW]
  | succ k ih =>
    have h1 := ih (fun i hi => h i (by omega)) (fun i hi => hl i (by omega))
    have h2 := h k (by omega)
    have h3 := hl k (by omega)
    have h4 := prod_bd h2.1 h2.2 h3.1 h3.2 hB
    have e : 100000 * B * ((k + 1 : Nat) : Int) = 100000 * B * (k : Int) + 100000 * B := by
      rw [Int.natCast_add, Int.mul_add]; simp
    simp only [dotW]; rw [e]; omega
def colD (g : List (List Int)) (x : List Int) (j : Nat) : Int := dotW x (col g j) g.length
def rowD (g : List (List Int)) (y : List Int) (i : Nat) : Int := dotW y (rowAt g i) y.length
def colsD (g : List (List Int)) (x : List Int) : List Int := (List.range (rowAt g 0).length).map (colD g x)
def rowsD (g : List (List Int)) (y : List Int) : List Int := (List.range g.length).map (rowD g y)
theorem colsD_length (g : List (List Int)) (x : List Int) : (colsD g x).length = (rowAt g 0).length := by simp [colsD]
theorem rowsD_length (g : List (List Int)) (y : List Int) : (rowsD g y).length = g.length := by simp [rowsD]
theorem nth_colsD (g : List (List Int)) (x : List Int) (j : Nat) (h : j < (rowAt g 0).length) : nth (colsD g x) j = colD g x j := by
  unfold colsD; rw [nth_map _ _ _ (by simpa using h)]; simp
theorem nth_rowsD (g : List (List Int)) (y : List Int) (i : Nat) (h : i < g.length) : nth (rowsD g y) i = rowD g y i := by
  unfold rowsD; rw [nth_map _ _ _ (by simpa using h)]; simp
def safeN (g : List (List Int)) (x : List Int) : Int := lowN (colsD g x) (rowAt g 0).length
def riskN (g : List (List Int)) (y : List Int) : Int := highN (rowsD g y) g.length
def totN (g : List (List Int)) (x y : List Int) (k : Nat) : Int := dotW x (rowsD g y) k
theorem colD_bd {g : List (List Int)} {m : Nat} {x : List Int} (hg : Game g m) (hx : Mix x g.length) (j : Nat) (hj : j < m) : -14400000 ≤ colD g x j ∧ colD g x j ≤ 14400000 := by
  have h := dotW_bd x (col g j) 9 (by omega) g.length (fun i hi => ⟨hx.wlo i hi, hx.whi i hi⟩) (fun i hi => by rw [nth_col g j i hi]; exact ⟨hg.nlo i hi j hj, hg.nhi i hi j hj⟩)
  have := hg.hi
  unfold colD; omega
theorem rowD_bd {g : List (List Int)} {m : Nat} {y : List Int} (hg : Game g m) (hy : Mix y m) (i : Nat) (hi : i < g.length) : -14400000 ≤ rowD g y i ∧ rowD g y i ≤ 14400000 := by
  have h := dotW_bd y (rowAt g i) 9 (by omega) m (fun j hj => ⟨hy.wlo j hj, hy.whi j hj⟩) (fun j hj => ⟨hg.nlo i hi j hj, hg.nhi i hi j hj⟩)
  have := hg.mhi
  unfold rowD; rw [hy.len]; omega
theorem Mix.sum_bd {x : List Int} {m : Nat} (h : Mix x m) : 1 ≤ sumW x m ∧ sumW x m ≤ 1600000 := by
  have := sumW_bd x m (fun i hi => ⟨h.wlo i hi, h.whi i hi⟩)
  have := h.pos
  have := h.hi
  omega
theorem safeN_bd {g : List (List Int)} {m : Nat} {x : List Int} (hg : Game g m) (hx : Mix x g.length) : -14400000 ≤ safeN g x ∧ safeN g x ≤ 14400000 := by
  have hm := hg.to.2
  subst hm
  obtain ⟨j, hj, e⟩ := lowN_at (colsD g x) hg.mlo
  unfold safeN; rw [e, nth_colsD g x j hj]; exact colD_bd hg hx j hj
def safB (g : List (List Int)) (x : List Int) : Bool := gameB g && mixB x (g.length : Int)
def safU (g : List (List Int)) (x : List Int) : Int := if safB g x = true then lowU (safeN g x) (sumW x x.length) else 0
def safD (g : List (List Int)) (x : List Int) : Int := if safB g x = true then lowD (safeN g x) (sumW x x.length) else 0
def risB (g : List (List Int)) (y : List Int) : Bool := gameB g && mixB y ((rowAt g 0).length : Int)
def risU (g : List (List Int)) (y : List Int) : Int := if risB g y = true then lowU (riskN g y) (sumW y y.length) else 0
def risD (g : List (List Int)) (y : List Int) : Int := if risB g y = true then lowD (riskN g y) (sumW y y.length) else 0
def setB (g : List (List Int)) (x y : List Int) : Bool := safB g x && risB g y && ((safU g x == risU g y) && (safD g x == risD g y))
theorem low_inj {a b s : Int} (hs : 0 < s) (h1 : lowU a s = lowU b s) (h2 : lowD a s = lowD b s) : a = b := by
  have e1 := low_cross a s (by omega)
  have e2 := low_cross b s (by omega)
  have p := lowD_pos b s (by omega)
  rw [h1, h2, e2] at e1
  have : b = a := Int.eq_of_mul_eq_mul_right (by omega) e1
  exact this.symm
end Go.Proofs.YtlmaeadbomnhlaaGreat

namespace Go.Proofs.YtlmaeadbomnhlaaGreat
set_option linter.unusedSimpArgs false
set_option linter.unusedVariables false
theorem low_eq {a b s t : Int} (hs : 0 < s) (ht : 0 < t) (h : a * t = b * s) : lowU a s = lowU b t ∧ lowD a s = lowD b t := by
  have e1 := low_cross a s (by omega)
  have e2 := low_cross b t (by omega)
  have p1 := lowD_pos a s (by omega)
  have p2 := lowD_pos b t (by omega)
  refine cross_eq p1 p2 (low_gcd a s (by omega)) (low_gcd b t (by omega)) ?_
  generalize lowU a s = A at *
  generalize lowD a s = P at *
  generalize lowU b t = B at *
  generalize lowD b t = Q at *
  have k : (A * Q) * (s * t) = (B * P) * (s * t) := by
    have k1 : (A * Q) * (s * t) = (A * s) * (Q * t) := by ac_rfl
    have k2 : (B * P) * (s * t) = (B * t) * (P * s) := by ac_rfl
    have k3 : a * P * (Q * t) = (a * t) * (P * Q) := by ac_rfl
    have k4 : b * Q * (P * s) = (b * s) * (P * Q) := by ac_rfl
    rw [k1, k2, e1, e2, k3, k4, h]
  exact Int.eq_of_mul_eq_mul_right (Int.ne_of_gt (Int.mul_pos hs ht)) k
theorem low_le {a b s t : Int} (hs : 0 < s) (ht : 0 < t) (h : b * s ≤ a * t) : lowU b t * lowD a s ≤ lowU a s * lowD b t := by
  have e1 := low_cross a s (by omega)
  have e2 := low_cross b t (by omega)
  have p1 := lowD_pos a s (by omega)
  have p2 := lowD_pos b t (by omega)
  generalize lowU a s = A at *
  generalize lowD a s = P at *
  generalize lowU b t = B at *
  generalize lowD b t = Q at *
  have k1 : (A * Q) * (s * t) = (a * t) * (P * Q) := by
    have : (A * Q) * (s * t) = (A * s) * (Q * t) := by ac_rfl
    rw [this, e1]; ac_rfl
  have k2 : (B * P) * (s * t) = (b * s) * (P * Q) := by
    have : (B * P) * (s * t) = (B * t) * (P * s) := by ac_rfl
    rw [this, e2]; ac_rfl
  have k3 : (b * s) * (P * Q) ≤ (a * t) * (P * Q) := Int.mul_le_mul_of_nonneg_right h (Int.mul_nonneg (by omega) (by omega))
  rw [← k1, ← k2] at k3
  exact Int.le_of_mul_le_mul_right k3 (Int.mul_pos hs ht)
theorem low_okB {a s : Int} (h1 : -1000000000 ≤ a) (h2 : a ≤ 1000000000) (h3 : 0 < s) (h4 : s ≤ 1000000000) : okB (lowU a s) (lowD a s) = true := by
  have b1 := lowU_in a s (M := 1000000000) h1 h2
  have b2 := lowD_in a s (M := 1000000000) (by omega) h4
  have p := lowD_pos a s (by omega)
  have g := low_gcd a s (by omega)
  rw [okB_iff]; exact ⟨b1.1, b1.2, p, b2.2, g⟩
theorem low_negU (a s : Int) (hs : 0 < s) : lowU (-a) s = -lowU a s ∧ lowD (-a) s = lowD a s := by
  have e1 := low_cross a s (by omega)
  have e2 := low_cross (-a) s (by omega)
  have p1 := lowD_pos a s (by omega)
  have p2 := lowD_pos (-a) s (by omega)
  have g1 := low_gcd a s (by omega)
  have g1' : gcdI (-lowU a s) (lowD a s) = 1 := by unfold gcdI at *; rw [Int.neg_gcd]; exact g1
  refine cross_eq p2 p1 (low_gcd (-a) s (by omega)) g1' ?_
  generalize lowU a s = A at *
  generalize lowD a s = P at *
  generalize lowU (-a) s = B at *
  generalize lowD (-a) s = Q at *
  have k : (B * P) * s = (-A * Q) * s := by
    have k1 : (B * P) * s = (B * s) * P := by ac_rfl
    have k2 : (-A * Q) * s = -((A * s) * Q) := by rw [Int.neg_mul, Int.neg_mul]; congr 1; ac_rfl
    have k3 : a * P * Q = a * Q * P := by ac_rfl
    rw [k1, k2, e1, e2, k3, Int.neg_mul, Int.neg_mul]
  exact Int.eq_of_mul_eq_mul_right (by omega) k
theorem dotW_ge (x l : List Int) (B : Int) (k : Nat) (h : ∀ i, i < k → 0 ≤ nth x i) (hl : ∀ i, i < k → B ≤ nth l i) : B * sumW x k ≤ dotW x l k := by
  induction k with
  | zero => simp [sumW, dotW]
  | succ k ih =>
    have h1 := ih (fun i hi => h i (by omega)) (fun i hi => hl i (by omega))
    have h2 : nth x k * B ≤ nth x k * nth l k := Int.mul_le_mul_of_nonneg_left (hl k (by omega)) (h k (by omega))
    simp only [sumW, dotW]; rw [Int.mul_add, Int.mul_comm B (nth x k)]; omega
theorem dotW_le (x l : List Int) (B : Int) (k : Nat) (h : ∀ i, i < k → 0 ≤ nth x i) (hl : ∀ i, i < k → nth l i ≤ B) : dotW x l k ≤ B * sumW x k := by
  induction k with
  | zero => simp [sumW, dotW]
  | succ k ih =>
    have h1 := ih (fun i hi => h i (by omega)) (fun i hi => hl i (by omega))
    have h2 : nth x k * nth l k ≤ nth x k * B := Int.mul_le_mul_of_nonneg_left (hl k (by omega)) (h k (by omega))
    simp only [sumW, dotW]; rw [Int.mul_add, Int.mul_comm B (nth x k)]; omega
def dotF (x : List Int) (f : Nat → Int) : Nat → Int
  | 0 => 0
  | k + 1 => dotF x f k + nth x k * f k
theorem dotW_F (x l : List Int) (k : Nat) : dotW x l k = dotF x (nth l) k := by
  induction k with
  | zero => rfl
  | succ k ih => simp only [dotW, dotF, ih]
theorem dotF_congr (x : List Int) (f f' : Nat → Int) (k : Nat) (h : ∀ i, i < k → f i = f' i) : dotF x f k = dotF x f' k := by
  induction k with
  | zero => rfl
  | succ k ih => simp only [dotF]; rw [ih (fun i hi => h i (by omega)), h k (by omega)]
theorem dotF_zero (x : List Int) (k : Nat) : dotF x (fun _ => 0) k = 0 := by
  induction k with
  | zero => rfl
  | succ k ih => simp [dotF, ih]
theorem dotF_add (x : List Int) (f g : Nat → Int) (c : Int) (k : Nat) : dotF x (fun j => f j + c * g j) k = dotF x f k + c * dotF x g k := by
  induction k with
  | zero => simp [dotF]
  | succ k ih =>
    simp only [dotF]; rw [ih, Int.mul_add, Int.mul_add]
    have : nth x k * (c * g k) = c * (nth x k * g k) := by ac_rfl
    omega
theorem dotF_swap (x y : List Int) (a : Nat → Nat → Int) (n m : Nat) : dotF y (fun j => dotF x (fun i => a i j) n) m = dotF x (fun i => dotF y (a i) m) n := by
  induction n with
  | zero => simp only [dotF]; exact dotF_zero y m
  | succ n ih =>
    simp only [dotF]
    rw [dotF_add y (fun j => dotF x (fun i => a i j) n) (fun j => a n j) (nth x n) m, ih]
theorem tot_swap {g : List (List Int)} {m : Nat} {x y : List Int} (hg : Game g m) (hy : Mix y m) : totN g x y g.length = dotW y (colsD g x) m := by
  have hm := hg.to.2
  subst hm
  unfold totN
  rw [dotW_F, dotW_F]
  have e1 : dotF x (nth (rowsD g y)) g.length = dotF x (fun i => dotF y (fun j => nth (rowAt g i) j) (rowAt g 0).length) g.length :=
    dotF_congr _ _ _ _ (fun i hi => by rw [nth_rowsD g y i hi]; unfold rowD; rw [dotW_F, hy.len])
  have e2 : dotF y (nth (colsD g x)) (rowAt g 0).length = dotF y (fun j => dotF x (fun i => nth (rowAt g i) j) g.length) (rowAt g 0).length :=
    dotF_congr _ _ _ _ (fun j hj => by rw [nth_colsD g x j hj]; unfold colD; rw [dotW_F]; exact dotF_congr _ _ _ _ (fun i hi => nth_col g j i hi))
  rw [e1, e2]
  exact (dotF_swap x y (fun i j => nth (rowAt g i) j) g.length (rowAt g 0).length).symm
theorem safe_le_tot {g : List (List Int)} {m : Nat} {x y : List Int} (hg : Game g m) (hy : Mix y m) : safeN g x * sumW y m ≤ totN g x y g.length := by
  have hm := hg.to.2
  rw [tot_swap hg hy]
  refine dotW_ge _ _ _ _ (fun j hj => hy.wlo j hj) (fun j hj => ?_)
  unfold safeN; exact lowN_le _ (by omega)
theorem tot_le_risk {g : List (List Int)} {m : Nat} {x y : List Int} (hx : Mix x g.length) (_ : Game g m) : totN g x y g.length ≤ riskN g y * sumW x g.length := by
  refine dotW_le _ _ _ _ (fun i hi => hx.wlo i hi) (fun i hi => ?_)
  unfold riskN; exact le_highN _ hi
theorem weak {g : List (List Int)} {m : Nat} {x y : List Int} (hg : Game g m) (hx : Mix x g.length) (hy : Mix y m) : safeN g x * sumW y m ≤ riskN g y * sumW x g.length :=
  Int.le_trans (safe_le_tot hg hy) (tot_le_risk hx hg)
theorem safe_turned {g : List (List Int)} {m : Nat} {y : List Int} (hg : Game g m) (hy : Mix y m) : safeN (turnedL g) y = -riskN g y := by
  have hm := hg.to.2
  subst hm
  have ht := turned_game hg
  have hl := ht.to.2
  have e : ∀ i, i < g.length → nth (colsD (turnedL g) y) i = -nth (rowsD g y) i := fun i hi => by
    rw [nth_colsD _ _ i (by omega), nth_rowsD g y i hi]
    unfold colD rowD
    rw [turnedL_length, hy.len]
    have : ∀ k, k ≤ (rowAt g 0).length → dotW y (col (turnedL g) i) k = -dotW y (rowAt g i) k := fun k => by
      induction k with
      | zero => intro _; simp [dotW]
      | succ k ih =>
        intro hk
        simp only [dotW]
        rw [ih (by omega), nth_col _ _ _ (by rw [turnedL_length]; omega), nth_turnedL g k i (by omega) hi, Int.mul_neg]; omega
    exact this _ (Nat.le_refl _)
  unfold safeN riskN
  rw [← hl]
  have : ∀ k, k ≤ g.length → 0 < g.length → lowN (colsD (turnedL g) y) k = -highN (rowsD g y) k := fun k => by
    induction k with
    | zero => intro _ h0; exact e 0 h0
    | succ k ih =>
      intro hk h0
      simp only [lowN, highN]
      rw [ih (by omega) h0, e k (by omega)]; omega
  exact this _ (Nat.le_refl _) hg.lo
end Go.Proofs.YtlmaeadbomnhlaaGreat

namespace Go.Proofs.YtlmaeadbomnhlaaGreat
set_option linter.unusedSimpArgs false
set_option linter.unusedVariables false
theorem safB_iff {g : List (List Int)} {x : List Int} : safB g x = true ↔ gameB g = true ∧ Mix x g.length := by
  simp only [safB, Bool.and_eq_true]
  exact ⟨fun ⟨h1, h2⟩ => ⟨h1, Mix.of h2⟩, fun ⟨h1, h2⟩ => ⟨h1, h2.to⟩⟩
theorem risB_iff {g : List (List Int)} {y : List Int} : risB g y = true ↔ gameB g = true ∧ Mix y (rowAt g 0).length := by
  simp only [risB, Bool.and_eq_true]
  exact ⟨fun ⟨h1, h2⟩ => ⟨h1, Mix.of h2⟩, fun ⟨h1, h2⟩ => ⟨h1, h2.to⟩⟩
theorem saf_okB {g : List (List Int)} {x : List Int} (h : safB g x = true) : okB (safU g x) (safD g x) = true := by
  obtain ⟨h1, h2⟩ := safB_iff.1 h
  have b := safeN_bd (Game.of h1) h2
  have s := h2.sum_bd
  simp only [safU, safD, h, if_true]
  rw [h2.len]
  exact low_okB (by omega) (by omega) (by omega) (by omega)
theorem ris_turned {g : List (List Int)} {y : List Int} (h : risB g y = true) : safB (turned g) y = true ∧ safU (turned g) y = -risU g y ∧ safD (turned g) y = risD g y := by
  obtain ⟨h1, h2⟩ := risB_iff.1 h
  have hg := Game.of h1
  have e : turned g = turnedL g := by simp [turned, h1]
  have hs : safB (turnedL g) y = true := safB_iff.2 ⟨(turned_game hg).to.1, by rw [turnedL_length]; exact h2⟩
  have p := h2.pos
  rw [e]
  refine ⟨hs, ?_⟩
  simp only [safU, safD, risU, risD, h, hs, if_true]
  rw [safe_turned hg h2, h2.len]
  exact low_negU _ _ p
theorem saf_ris {g : List (List Int)} {x y : List Int} (hx : safB g x = true) (hy : risB g y = true) : safU g x * risD g y ≤ risU g y * safD g x := by
  obtain ⟨h1, h2⟩ := safB_iff.1 hx
  obtain ⟨_, h3⟩ := risB_iff.1 hy
  simp only [safU, safD, risU, risD, hx, hy, if_true]
  rw [h2.len, h3.len]
  exact low_le h3.pos h2.pos (weak (Game.of h1) h2 h3)
theorem set_of {g : List (List Int)} {x y : List Int} (h : setB g x y = true) : safB g x = true ∧ risB g y = true ∧ safU g x = risU g y ∧ safD g x = risD g y := by
  simp only [setB, Bool.and_eq_true, beq_iff_eq] at h
  exact ⟨h.1.1, h.1.2, h.2.1, h.2.2⟩
theorem set_rows {g : List (List Int)} {x y p : List Int} (h : setB g x y = true) (hp : safB g p = true) : safU g p * safD g x ≤ safU g x * safD g p := by
  obtain ⟨hx, hy, e1, e2⟩ := set_of h
  rw [e1, e2]; exact saf_ris hp hy
end Go.Proofs.YtlmaeadbomnhlaaGreat

namespace Go.Proofs.YtlmaeadbomnhlaaGreat
set_option linter.unusedSimpArgs false
set_option linter.unusedVariables false
theorem mul_np {a b : Rat} (ha : a ≤ 0) (hb : 0 ≤ b) : a * b ≤ 0 := by
  have := Rat.mul_nonneg (a := -a) (b := b) (by grind) hb
  grind
theorem mul_pn {a b : Rat} (ha : 0 < a) (hb : b < 0) : a * b < 0 := by
  have := Rat.mul_pos (a := a) (b := -b) ha (by grind)
  grind
def sumL (l : List Nat) (f : Nat → Rat) : Rat := (l.map f).foldr (· + ·) 0
theorem sumL_cons (a : Nat) (l : List Nat) (f : Nat → Rat) : sumL (a :: l) f = f a + sumL l f := rfl
theorem sumL_app (l m : List Nat) (f : Nat → Rat) : sumL (l ++ m) f = sumL l f + sumL m f := by
  induction l with
  | nil => simp [sumL]; grind
  | cons a l ih => rw [List.cons_append, sumL_cons, sumL_cons, ih]; grind
theorem sumL_congr (l : List Nat) (f g : Nat → Rat) (h : ∀ a, a ∈ l → f a = g a) : sumL l f = sumL l g := by
  induction l with
  | nil => rfl
  | cons a l ih => rw [sumL_cons, sumL_cons, h a (by simp), ih (fun b hb => h b (by simp [hb]))]
theorem sumL_add (l : List Nat) (f g : Nat → Rat) : sumL l (fun a => f a + g a) = sumL l f + sumL l g := by
  induction l with
  | nil => simp [sumL]; grind
  | cons a l ih => simp only [sumL_cons, ih]; grind
theorem sumL_mul (l : List Nat) (c : Rat) (f : Nat → Rat) : sumL l (fun a => c * f a) = c * sumL l f := by
  induction l with
  | nil => simp [sumL]
  | cons a l ih => simp only [sumL_cons, ih]; grind
theorem sumL_zero (l : List Nat) (f : Nat → Rat) (h : ∀ a, a ∈ l → f a = 0) : sumL l f = 0 := by
  induction l with
  | nil => rfl
  | cons a l ih => rw [sumL_cons, h a (by simp), ih (fun b hb => h b (by simp [hb]))]; grind
theorem sumL_nonpos (l : List Nat) (f : Nat → Rat) (h : ∀ a, a ∈ l → f a ≤ 0) : sumL l f ≤ 0 := by
  induction l with
  | nil => simp [sumL]
  | cons a l ih =>
    have h1 := h a (by simp)
    have h2 := ih (fun b hb => h b (by simp [hb]))
    rw [sumL_cons]; grind
theorem sumL_nonneg (l : List Nat) (f : Nat → Rat) (h : ∀ a, a ∈ l → 0 ≤ f a) : 0 ≤ sumL l f := by
  induction l with
  | nil => simp [sumL]
  | cons a l ih =>
    have h1 := h a (by simp)
    have h2 := ih (fun b hb => h b (by simp [hb]))
    rw [sumL_cons]; grind
theorem sumL_perm {l m : List Nat} (h : l.Perm m) (f : Nat → Rat) : sumL l f = sumL m f := by
  induction h with
  | nil => rfl
  | cons a _ ih => rw [sumL_cons, sumL_cons, ih]
  | swap a b l => simp only [sumL_cons]; grind
  | trans _ _ h1 h2 => rw [h1, h2]
theorem sumL_one {l : List Nat} (hn : l.Nodup) {a : Nat} (ha : a ∈ l) (f : Nat → Rat) (h : ∀ b, b ∈ l → b ≠ a → f b = 0) : sumL l f = f a := by
  have hp := List.perm_cons_erase ha
  rw [sumL_perm hp, sumL_cons, sumL_zero (l.erase a) f (fun b hb => h b (List.mem_of_mem_erase hb) (fun e => by subst e; exact (List.Nodup.not_mem_erase hn) hb))]
  grind
def Sol (B N : List Nat) (T : Nat → Nat → Rat) (z : Nat → Rat) : Prop := ∀ b, b ∈ B → z b = sumL N (fun n => T b n * z n)
theorem Sol.perm {B B' N N' : List Nat} {T : Nat → Nat → Rat} {z : Nat → Rat} (h : Sol B N T z) (hB : B.Perm B') (hN : N.Perm N') : Sol B' N' T z := fun b hb => by
  rw [← sumL_perm hN]; exact h b (hB.mem_iff.2 hb)
def pivT (T : Nat → Nat → Rat) (r s : Nat) (a b : Nat) : Rat :=
  if a = s then (if b = r then 1 / T r s else - T r b / T r s)
  else (if b = r then T a s / T r s else T a b - T a s * T r b / T r s)
theorem Sol.piv {B N : List Nat} {T : Nat → Nat → Rat} {z : Nat → Rat} {r s : Nat} (h : Sol (r :: B) (s :: N) T z) (hs : s ∉ B) (hr : r ∉ N) (h0 : T r s ≠ 0) : Sol (s :: B) (r :: N) (pivT T r s) z := by
  have hz := h r (by simp)
  rw [sumL_cons] at hz
  have e1 : sumL N (fun n => pivT T r s s n * z n) = (-1 / T r s) * sumL N (fun n => T r n * z n) := by
    rw [← sumL_mul]; refine sumL_congr _ _ _ (fun n hn => ?_)
    have : n ≠ r := fun e => hr (e ▸ hn)
    simp only [pivT, if_true, if_neg this]; grind
  intro b hb
  rw [sumL_cons]
  rcases List.mem_cons.1 hb with rfl | hb
  · rw [e1]; simp only [pivT, if_true]; grind
  · have hbs : b ≠ s := fun e => hs (e ▸ hb)
    have e2 : sumL N (fun n => pivT T r s b n * z n) = sumL N (fun n => T b n * z n) + (- (T b s / T r s)) * sumL N (fun n => T r n * z n) := by
      rw [← sumL_mul, ← sumL_add]; refine sumL_congr _ _ _ (fun n hn => ?_)
      have : n ≠ r := fun e => hr (e ▸ hn)
      simp only [pivT, if_neg hbs, if_neg this]; grind
    have h2 := h b (by simp [hb])
    rw [sumL_cons] at h2
    rw [e2, h2]; simp only [pivT, if_neg hbs, if_true]; grind
theorem piv_piv {T : Nat → Nat → Rat} {r s : Nat} (h0 : T r s ≠ 0) (a b : Nat) (ha : a ≠ s) (hb : b ≠ r) : pivT (pivT T r s) s r a b = T a b := by
  by_cases h1 : a = r <;> by_cases h2 : b = s <;> simp [pivT, h1, h2, ha, hb] <;> grind
theorem Sol.back {B N : List Nat} {T : Nat → Nat → Rat} {z : Nat → Rat} {r s : Nat} (h : Sol (s :: B) (r :: N) (pivT T r s) z) (hrs : r ≠ s) (hs : s ∉ B) (hr : r ∉ N) (hrB : r ∉ B) (hsN : s ∉ N) (h0 : T r s ≠ 0) : Sol (r :: B) (s :: N) T z := by
  have h1 : pivT T r s s r ≠ 0 := by simp [pivT]; grind
  have h2 := h.piv hrB hsN h1
  intro b hb
  rw [h2 b hb]
  have hbs : b ≠ s := by rcases List.mem_cons.1 hb with rfl | hb; exact hrs; exact fun e => hs (e ▸ hb)
  refine sumL_congr _ _ _ (fun n hn => ?_)
  have hnr : n ≠ r := by rcases List.mem_cons.1 hn with rfl | hn; exact Ne.symm hrs; exact fun e => hr (e ▸ hn)
  rw [piv_piv h0 b n hbs hnr]
theorem unit_sol {B N : List Nat} (T : Nat → Nat → Rat) (hd : ∀ n, n ∈ N → n ∉ B) (hN : N.Nodup) {j : Nat} (hj : j ∈ N) :
    ∃ z, Sol B N T z ∧ z j = 1 ∧ (∀ n, n ∈ N → n ≠ j → z n = 0) ∧ ∀ b, b ∈ B → z b = T b j := by
  have key : ∀ b, b ∈ B → sumL N (fun n => T b n * (if n ∈ B then T n j else if n = j then 1 else 0)) = T b j := fun b hb => by
    rw [sumL_one hN hj _ (fun n hn hne => by simp [hd n hn, hne])]
    simp [hd j hj]
  refine ⟨fun l => if l ∈ B then T l j else if l = j then 1 else 0, fun b hb => ?_, ?_, fun n hn hne => ?_, fun b hb => ?_⟩
  · rw [key b hb]; simp [hb]
  · simp [hd j hj]
  · simp [hd n hn, hne]
  · simp [hb]
def TabEnds (I J : List Nat) (T : Nat → Nat → Rat) (f g : Nat) : Prop :=
  ((∀ b, b ∈ I → 0 ≤ T b g) ∧ (∀ n, n ∈ J → T f n ≤ 0)) ∨
  (∃ r, r ∈ I ∧ T r g < 0 ∧ ∀ n, n ∈ J → T r n ≤ 0) ∨
  (∃ s, s ∈ J ∧ 0 < T f s ∧ ∀ b, b ∈ I → 0 ≤ T b s)
theorem ends (f g : Nat) : ∀ (k : Nat) (I J FB FN : List Nat) (T : Nat → Nat → Rat), I.length + J.length = k → (FB ++ FN ++ (I ++ J)).Nodup → f ∈ FB → g ∈ FN →
    ∃ I' J' T', (I' ++ J').Perm (I ++ J) ∧ I'.length = I.length ∧ (∀ z, Sol (FB ++ I) (FN ++ J) T z ↔ Sol (FB ++ I') (FN ++ J') T' z) ∧ TabEnds I' J' T' f g := by
  intro k
  induction k with
  | zero =>
    intro I J FB FN T hk _ _ _
    have hI : I = [] := List.length_eq_zero_iff.1 (by omega)
    have hJ : J = [] := List.length_eq_zero_iff.1 (by omega)
    subst hI hJ
    exact ⟨[], [], T, List.Perm.refl _, rfl, fun _ => Iff.rfl, Or.inl ⟨by simp, by simp⟩⟩
  | succ k ih =>
    intro I J FB FN T hk hnd hf hg
    cases J with
    | nil =>
      refine ⟨I, [], T, List.Perm.refl _, rfl, fun _ => Iff.rfl, ?_⟩
      by_cases h : ∀ b, b ∈ I → 0 ≤ T b g
      · exact Or.inl ⟨h, by simp⟩
      · simp only [Classical.not_forall] at h
        obtain ⟨r, hr, hn⟩ := h
        exact Or.inr (Or.inl ⟨r, hr, by grind, by simp⟩)
    | cons s J =>
      have hp0 : (FB ++ (s :: FN) ++ (I ++ J)).Perm (FB ++ FN ++ (I ++ s :: J)) := by
        simp only [List.append_assoc, List.cons_append]
        refine List.Perm.append_left FB ?_
        have : (s :: (FN ++ (I ++ J))).Perm ((FN ++ I) ++ s :: J) := by rw [← List.append_assoc]; exact List.perm_middle.symm
        simpa [List.append_assoc] using this
      obtain ⟨I1, J1, T1, hp1, hl1, he1, ht1⟩ := ih I J FB (s :: FN) T (by simp at hk; omega) (hp0.nodup_iff.2 hnd) hf (by simp [hg])
      have hpm : ∀ J : List Nat, ((s :: FN) ++ J).Perm (FN ++ s :: J) := fun J => List.perm_middle.symm
      have he1' : ∀ z, Sol (FB ++ I) (FN ++ s :: J) T z ↔ Sol (FB ++ I1) (FN ++ s :: J1) T1 z := fun z =>
        ⟨fun h => ((he1 z).1 (h.perm (List.Perm.refl _) (hpm J).symm)).perm (List.Perm.refl _) (hpm J1), fun h => ((he1 z).2 (h.perm (List.Perm.refl _) (hpm J1).symm)).perm (List.Perm.refl _) (hpm J)⟩
      have hp1' : (I1 ++ s :: J1).Perm (I ++ s :: J) := List.perm_middle.trans ((List.Perm.cons s hp1).trans List.perm_middle.symm)
      have hnd1 : (FB ++ FN ++ (I1 ++ s :: J1)).Nodup := (List.Perm.append_left _ hp1').nodup_iff.2 hnd
      have done : TabEnds I1 (s :: J1) T1 f g → ∃ I' J' T', (I' ++ J').Perm (I ++ s :: J) ∧ I'.length = I.length ∧ (∀ z, Sol (FB ++ I) (FN ++ s :: J) T z ↔ Sol (FB ++ I') (FN ++ J') T' z) ∧ TabEnds I' J' T' f g := fun h => ⟨I1, s :: J1, T1, hp1', hl1, he1', h⟩
      have wrong : TabEnds I1 (s :: J1) T1 f g ∨ ((∃ r, r ∈ I1 ∧ T1 r s ≠ 0) ∧ ((∃ r, r ∈ I1 ∧ T1 r g < 0 ∧ 0 < T1 r s ∧ ∀ n, n ∈ J1 → T1 r n ≤ 0) ∨ ((∀ b, b ∈ I1 → 0 ≤ T1 b g) ∧ 0 < T1 f s ∧ ∀ n, n ∈ J1 → T1 f n ≤ 0))) := by
        rcases ht1 with ⟨h1, h2⟩ | ⟨r, hr, h1, h2⟩ | ⟨t, ht, h1, h2⟩
        · by_cases h3 : T1 f s ≤ 0
          · exact Or.inl (Or.inl ⟨h1, fun n hn => by rcases List.mem_cons.1 hn with rfl | hn; exact h3; exact h2 n hn⟩)
          · by_cases h4 : ∀ b, b ∈ I1 → 0 ≤ T1 b s
            · exact Or.inl (Or.inr (Or.inr ⟨s, by simp, by grind, h4⟩))
            · simp only [Classical.not_forall] at h4
              obtain ⟨r, hr, hn⟩ := h4
              exact Or.inr ⟨⟨r, hr, by grind⟩, Or.inr ⟨h1, by grind, h2⟩⟩
        · by_cases h3 : T1 r s ≤ 0
          · exact Or.inl (Or.inr (Or.inl ⟨r, hr, h1, fun n hn => by rcases List.mem_cons.1 hn with rfl | hn; exact h3; exact h2 n hn⟩))
          · exact Or.inr ⟨⟨r, hr, by grind⟩, Or.inl ⟨r, hr, h1, by grind, h2⟩⟩
        · exact Or.inl (Or.inr (Or.inr ⟨t, by simp [ht], h1, h2⟩))
      rcases wrong with h | ⟨⟨r, hr, hrs0⟩, hw⟩
      · exact done h
      have hndF : (FB ++ FN ++ (I1 ++ s :: J1)).Nodup := hnd1
      have hpr : I1.Perm (r :: I1.erase r) := List.perm_cons_erase hr
      have hpA : (FB ++ I1).Perm (r :: (FB ++ I1.erase r)) := (List.Perm.append_left FB hpr).trans List.perm_middle
      have hpB : (FN ++ s :: J1).Perm (s :: (FN ++ J1)) := List.perm_middle
      have hall : (FB ++ FN ++ (I1 ++ s :: J1)).Perm ((r :: (FB ++ I1.erase r)) ++ (s :: (FN ++ J1))) := by
        have h1 : (FB ++ FN ++ (I1 ++ s :: J1)).Perm ((FB ++ I1) ++ (FN ++ s :: J1)) := by
          simp only [List.append_assoc]
          refine List.Perm.append_left FB ?_
          rw [← List.append_assoc, ← List.append_assoc]
          exact List.Perm.append_right _ List.perm_append_comm
        exact h1.trans (hpA.append hpB)
      have hnd2 := hall.nodup_iff.1 hndF
      obtain ⟨n1, n2, n3⟩ := List.nodup_append.1 hnd2
      obtain ⟨n4, n5⟩ := List.nodup_cons.1 n1
      obtain ⟨n6, n7⟩ := List.nodup_cons.1 n2
      have hrs : r ≠ s := n3 r (by simp) s (by simp)
      have hsB : s ∉ FB ++ I1.erase r := fun h => n3 s (List.mem_cons_of_mem _ h) s (by simp) rfl
      have hrN : r ∉ FN ++ J1 := fun h => n3 r (by simp) r (List.mem_cons_of_mem _ h) rfl
      have hpC : (r :: (FN ++ J1)).Perm (FN ++ r :: J1) := List.perm_middle.symm
      have he2 : ∀ z, Sol (FB ++ I1) (FN ++ s :: J1) T1 z ↔ Sol ((s :: FB) ++ I1.erase r) (FN ++ r :: J1) (pivT T1 r s) z := fun z =>
        ⟨fun h => ((h.perm hpA hpB).piv hsB hrN hrs0).perm (List.Perm.refl _) hpC,
         fun h => ((h.perm (List.Perm.refl _) hpC.symm).back hrs hsB hrN n4 n6 hrs0).perm hpA.symm hpB.symm⟩
      have hp2 : ((s :: FB) ++ FN ++ (I1.erase r ++ r :: J1)).Perm (FB ++ FN ++ (I1 ++ s :: J1)) := by
        refine List.Perm.trans ?_ hall.symm
        have h1 : ((s :: FB) ++ FN ++ (I1.erase r ++ r :: J1)).Perm (s :: r :: ((FB ++ I1.erase r) ++ (FN ++ J1))) := by
          rw [List.cons_append, List.cons_append]
          refine List.Perm.cons s ?_
          have h2 : (FB ++ FN ++ (I1.erase r ++ r :: J1)).Perm (r :: (FB ++ FN ++ (I1.erase r ++ J1))) := by
            have := List.perm_middle (a := r) (l₁ := FB ++ FN ++ I1.erase r) (l₂ := J1)
            simpa [List.append_assoc] using this
          refine h2.trans (List.Perm.cons r ?_)
          simp only [List.append_assoc]
          refine List.Perm.append_left FB ?_
          rw [← List.append_assoc, ← List.append_assoc]
          exact List.Perm.append_right _ List.perm_append_comm
        refine h1.trans ?_
        refine (List.Perm.swap r s _).trans (List.Perm.cons r ?_)
        exact List.perm_middle.symm
      have hlen1 : I1.length + J1.length = k := by have := hp1.length_eq; simp at this hk; omega
      have hlenr : (I1.erase r).length + 1 = I1.length := by have := hpr.length_eq; simpa using this.symm
      obtain ⟨I3, J3, T3, hp3, hl3, he3, ht3⟩ := ih (I1.erase r) (r :: J1) (s :: FB) FN (pivT T1 r s) (by simp; omega) (hp2.nodup_iff.2 hndF) (by simp [hf]) hg
      have hmem : ∀ x, x ∈ I3 ++ J3 ↔ x ∈ I1 ++ J1 := fun x => by
        rw [hp3.mem_iff, List.mem_append, List.mem_append, List.mem_cons, hpr.mem_iff, List.mem_cons]
        constructor
        · rintro (h | h | h) <;> simp [h]
        · rintro ((h | h) | h) <;> simp [h]
      have heq : ∀ z, Sol (FB ++ I) (FN ++ s :: J) T z ↔ Sol (FB ++ s :: I3) (FN ++ J3) T3 z := fun z => by
        rw [he1' z, he2 z, he3 z]
        exact ⟨fun h => h.perm List.perm_middle.symm (List.Perm.refl _), fun h => h.perm List.perm_middle (List.Perm.refl _)⟩
      have hp3' : ((s :: I3) ++ J3).Perm (I ++ s :: J) := by
        refine List.Perm.trans ?_ hp1'
        rw [List.cons_append]
        refine (List.Perm.cons s (hp3.trans ?_)).trans List.perm_middle.symm
        exact List.perm_middle.trans (List.Perm.append_right J1 hpr.symm)
      have done3 : TabEnds (s :: I3) J3 T3 f g → ∃ I' J' T', (I' ++ J').Perm (I ++ s :: J) ∧ I'.length = I.length ∧ (∀ z, Sol (FB ++ I) (FN ++ s :: J) T z ↔ Sol (FB ++ I') (FN ++ J') T' z) ∧ TabEnds I' J' T' f g := fun h => ⟨s :: I3, J3, T3, hp3', by simp; omega, heq, h⟩
      have hnd3 : (FB ++ FN ++ ((s :: I3) ++ J3)).Nodup := (List.Perm.append_left _ hp3').nodup_iff.2 hnd
      have split : ∀ (I J : List Nat), (FB ++ FN ++ (I ++ J)).Nodup → (FN ++ J).Nodup ∧ FN.Nodup ∧ J.Nodup ∧ (∀ n, n ∈ FN ++ J → n ∉ FB ++ I) ∧ (∀ n, n ∈ FN → n ∉ J) := fun I J h => by
        have h1 : (FB ++ FN ++ (I ++ J)).Perm ((FB ++ I) ++ (FN ++ J)) := by
          simp only [List.append_assoc]
          refine List.Perm.append_left FB ?_
          rw [← List.append_assoc, ← List.append_assoc]
          exact List.Perm.append_right _ List.perm_append_comm
        obtain ⟨_, h3, h4⟩ := List.nodup_append.1 (h1.nodup_iff.1 h)
        obtain ⟨h5, h6, h7⟩ := List.nodup_append.1 h3
        exact ⟨h3, h5, h6, fun n hn hb => h4 n hb n hn rfl, fun n hn hb => h7 n hn n hb rfl⟩
      obtain ⟨a1, a2, a3, a4, a5⟩ := split _ _ hnd1
      obtain ⟨b1, b2, b3, b4, b5⟩ := split _ _ hnd3
      have hgs : g ≠ s := fun e => a5 g hg (by simp [e])
      have val1 : ∀ z, Sol (FB ++ I1) (FN ++ s :: J1) T1 z → (∀ n, n ∈ FN → n ≠ g → z n = 0) → ∀ b, b ∈ FB ++ I1 → z b = T1 b g * z g + T1 b s * z s + sumL J1 (fun n => T1 b n * z n) := fun z hz h0 b hb => by
        have := hz b hb
        rw [sumL_app, sumL_one a2 hg _ (fun n hn hne => by rw [h0 n hn hne]; grind), sumL_cons] at this
        rw [this]; grind
      have val3 : ∀ z, Sol (FB ++ s :: I3) (FN ++ J3) T3 z → (∀ n, n ∈ FN → n ≠ g → z n = 0) → ∀ b, b ∈ FB ++ s :: I3 → z b = T3 b g * z g + sumL J3 (fun n => T3 b n * z n) := fun z hz h0 b hb => by
        have := hz b hb
        rw [sumL_app, sumL_one a2 hg _ (fun n hn hne => by rw [h0 n hn hne]; grind)] at this
        exact this
      have hnn : ∀ z : Nat → Rat, (∀ x, x ∈ I3 ++ J3 → 0 ≤ z x) → (∀ x, x ∈ J1 → 0 ≤ z x) ∧ ∀ x, x ∈ I1 → 0 ≤ z x := fun z h =>
        ⟨fun x hx => h x ((hmem x).2 (by simp [hx])), fun x hx => h x ((hmem x).2 (by simp [hx]))⟩
      have bad : ∀ z, Sol (FB ++ s :: I3) (FN ++ J3) T3 z → (∀ n, n ∈ FN → n ≠ g → z n = 0) → 0 ≤ z g → z s < 0 → (∀ x, x ∈ I3 ++ J3 → 0 ≤ z x) → (∀ b, b ∈ I1 → 0 ≤ T1 b g) ∧ z f < T1 f g * z g := fun z hz h0 hzg hzs hz3 => by
        obtain ⟨hz1, hz2⟩ := hnn z hz3
        have hs1 : Sol (FB ++ I1) (FN ++ s :: J1) T1 z := (he1' z).1 ((heq z).2 hz)
        rcases hw with ⟨q, hq, w1, w2, w3⟩ | ⟨w1, w2, w3⟩
        · exfalso
          have e := val1 z hs1 h0 q (by simp [hq])
          have p1 := hz2 q hq
          have p2 := sumL_nonpos J1 (fun n => T1 q n * z n) (fun n hn => by have := w3 n hn; have := hz1 n hn; exact mul_np ‹_› ‹_›)
          have p3 : T1 q g * z g ≤ 0 := mul_np (Rat.le_of_lt w1) hzg
          have p4 : T1 q s * z s < 0 := mul_pn w2 hzs
          grind
        · refine ⟨w1, ?_⟩
          have e := val1 z hs1 h0 f (by simp [hf])
          have p2 := sumL_nonpos J1 (fun n => T1 f n * z n) (fun n hn => by have := w3 n hn; have := hz1 n hn; exact mul_np ‹_› ‹_›)
          have p4 : T1 f s * z s < 0 := mul_pn w2 hzs
          grind
      rcases ht3 with ⟨h1, h2⟩ | ⟨q, hq, h1, h2⟩ | ⟨t, ht, h1, h2⟩
      · by_cases h3 : 0 ≤ T3 s g
        · exact done3 (Or.inl ⟨fun b hb => by rcases List.mem_cons.1 hb with rfl | hb; exact h3; exact h1 b hb, h2⟩)
        · exfalso
          obtain ⟨z, hz, z1, z2, z3⟩ := unit_sol T3 b4 b1 (j := g) (by simp [hg])
          have hzs : z s = T3 s g := z3 s (by simp)
          have hzf : z f = T3 f g := z3 f (by simp [hf])
          have hz0 : ∀ n, n ∈ FN → n ≠ g → z n = 0 := fun n hn hne => z2 n (by simp [hn]) hne
          have hzp : ∀ x, x ∈ I3 ++ J3 → 0 ≤ z x := fun x hx => by
            rcases List.mem_append.1 hx with hx | hx
            · rw [z3 x (by simp [hx])]; exact h1 x hx
            · rw [z2 x (by simp [hx]) (fun e => b5 g hg (e ▸ hx))]; exact Rat.le_refl
          obtain ⟨w1, w2⟩ := bad z hz hz0 (by rw [z1]; decide) (by rw [hzs]; grind) hzp
          obtain ⟨y, hy, y1, y2, y3⟩ := unit_sol T1 a4 a1 (j := g) (by simp [hg])
          have hy0 : ∀ n, n ∈ FN → n ≠ g → y n = 0 := fun n hn hne => y2 n (by simp [hn]) hne
          have hys : Sol (FB ++ s :: I3) (FN ++ J3) T3 y := (heq y).1 ((he1' y).2 hy)
          have hyp : ∀ x, x ∈ J3 → 0 ≤ y x := fun x hx => by
            rcases List.mem_append.1 ((hmem x).1 (by simp [hx])) with hx' | hx'
            · rw [y3 x (by simp [hx'])]; exact w1 x hx'
            · rw [y2 x (by simp [hx']) (fun e => a5 g hg (by rw [← e]; simp [hx']))]; exact Rat.le_refl
          have e := val3 y hys hy0 f (by simp [hf])
          have p2 := sumL_nonpos J3 (fun n => T3 f n * y n) (fun n hn => by have := h2 n hn; have := hyp n hn; exact mul_np ‹_› ‹_›)
          have hyf : y f = T1 f g := y3 f (by simp [hf])
          rw [y1] at e
          rw [z1, hzf] at w2
          grind
      · exact done3 (Or.inr (Or.inl ⟨q, by simp [hq], h1, h2⟩))
      · by_cases h3 : 0 ≤ T3 s t
        · exact done3 (Or.inr (Or.inr ⟨t, ht, h1, fun b hb => by rcases List.mem_cons.1 hb with rfl | hb; exact h3; exact h2 b hb⟩))
        · exfalso
          have htg : t ≠ g := fun e => b5 g hg (e ▸ ht)
          obtain ⟨z, hz, z1, z2, z3⟩ := unit_sol T3 b4 b1 (j := t) (by simp [ht])
          have hzs : z s = T3 s t := z3 s (by simp)
          have hzf : z f = T3 f t := z3 f (by simp [hf])
          have hzg : z g = 0 := z2 g (by simp [hg]) (Ne.symm htg)
          have hz0 : ∀ n, n ∈ FN → n ≠ g → z n = 0 := fun n hn _ => z2 n (by simp [hn]) (fun e => b5 n hn (e ▸ ht))
          have hzp : ∀ x, x ∈ I3 ++ J3 → 0 ≤ z x := fun x hx => by
            rcases List.mem_append.1 hx with hx | hx
            · rw [z3 x (by simp [hx])]; exact h2 x hx
            · by_cases e : x = t
              · rw [e, z1]; decide
              · rw [z2 x (by simp [hx]) e]; exact Rat.le_refl
          obtain ⟨w1, w2⟩ := bad z hz hz0 (by rw [hzg]; exact Rat.le_refl) (by rw [hzs]; grind) hzp
          rw [hzg, hzf] at w2
          grind
theorem sumL_map (l : List Nat) (h : Nat → Nat) (f : Nat → Rat) : sumL (l.map h) f = sumL l (fun a => f (h a)) := by
  induction l with
  | nil => rfl
  | cons a l ih => rw [List.map_cons, sumL_cons, sumL_cons, ih]
theorem sumL_filter (l : List Nat) (P : Nat → Bool) (f : Nat → Rat) (h : ∀ a, a ∈ l → P a = false → f a = 0) : sumL (l.filter P) f = sumL l f := by
  induction l with
  | nil => rfl
  | cons a l ih =>
    have ih' := ih (fun b hb => h b (by simp [hb]))
    rcases hp : P a with _ | _
    · rw [List.filter_cons_of_neg (by simp [hp]), sumL_cons, ih', h a (by simp) hp]; grind
    · rw [List.filter_cons_of_pos hp, sumL_cons, sumL_cons, ih']
theorem sumL_pos_zero (l : List Nat) (f : Nat → Rat) (h : ∀ a, a ∈ l → 0 ≤ f a) (h0 : sumL l f ≤ 0) : ∀ a, a ∈ l → f a = 0 := by
  induction l with
  | nil => intro a ha; simp at ha
  | cons b l ih =>
    have h1 := h b (by simp)
    have h2 := sumL_nonneg l f (fun a ha => h a (by simp [ha]))
    rw [sumL_cons] at h0
    intro a ha
    rcases List.mem_cons.1 ha with rfl | ha
    · grind
    · exact ih (fun a ha => h a (by simp [ha])) (by grind) a ha
theorem filter_two (P : Nat → Bool) (l : List Nat) : (l.filter P).length + (l.filter fun j => !P j).length = l.length := by
  induction l with
  | nil => rfl
  | cons a l ih =>
    rcases hp : P a with _ | _
    · rw [List.filter_cons_of_neg (by simp [hp]), List.filter_cons_of_pos (by simp [hp]), List.length_cons, List.length_cons]; omega
    · rw [List.filter_cons_of_pos hp, List.filter_cons_of_neg (by simp [hp]), List.length_cons, List.length_cons]; omega
def tab0 (A : Nat → Nat → Rat) (m n a b : Nat) : Rat :=
  if a = n + m then (if b < n then 1 else 0) else (if b = n + m + 1 then 1 else - A (a - n) b)
theorem best_part (A : Nat → Nat → Rat) (m n : Nat) (hm : 0 < m) (hA : ∀ i j, i < m → j < n → 0 < A i j) :
    ∃ (P Q : Nat → Bool) (p q : Nat → Rat),
      ((List.range m).filter P).length = ((List.range n).filter Q).length ∧
      (∀ j, j ∈ (List.range n).filter Q → 0 ≤ p j) ∧ (∀ i, i ∈ (List.range m).filter P → 0 ≤ q i) ∧
      (∀ i, i < m → sumL ((List.range n).filter Q) (fun j => A i j * p j) ≤ 1) ∧
      (∀ i, i ∈ (List.range m).filter P → sumL ((List.range n).filter Q) (fun j => A i j * p j) = 1) ∧
      (∀ j, j < n → 1 ≤ sumL ((List.range m).filter P) (fun i => A i j * q i)) ∧
      (∀ j, j ∈ (List.range n).filter Q → sumL ((List.range m).filter P) (fun i => A i j * q i) = 1) ∧
      (∀ k, k ∈ (List.range m).filter P → ∃ w : Nat → Rat, ∀ i, i ∈ (List.range m).filter P → sumL ((List.range n).filter Q) (fun j => A i j * w j) = if i = k then 1 else 0) := by
  have hI : ((List.range m).map (n + ·)).Nodup := by
    rw [List.nodup_iff_pairwise_ne, List.pairwise_map]
    exact (List.nodup_iff_pairwise_ne.1 List.nodup_range).imp (fun h e => h (by omega))
  have hnd : ([n + m] ++ [n + m + 1] ++ ((List.range m).map (n + ·) ++ List.range n)).Nodup := by
    rw [List.nodup_append]
    refine ⟨by simp, ?_, ?_⟩
    · rw [List.nodup_append]
      refine ⟨hI, List.nodup_range, ?_⟩
      intro a ha b hb e
      simp at ha hb
      obtain ⟨i, hi, rfl⟩ := ha
      omega
    · intro a ha b hb e
      simp at ha hb
      rcases hb with ⟨i, hi, rfl⟩ | hb <;> omega
  obtain ⟨I, J, T, hp, hl, he, ht⟩ := ends (n + m) (n + m + 1) _ ((List.range m).map (n + ·)) (List.range n) [n + m] [n + m + 1] (tab0 A m n) rfl hnd (by simp) (by simp)
  have hnd2 : ([n + m] ++ [n + m + 1] ++ (I ++ J)).Nodup := (List.Perm.append_left _ hp).nodup_iff.2 hnd
  have parts : ∀ (I J : List Nat), ([n + m] ++ [n + m + 1] ++ (I ++ J)).Nodup → ([n + m + 1] ++ J).Nodup ∧ (∀ x, x ∈ [n + m + 1] ++ J → x ∉ [n + m] ++ I) ∧ J.Nodup ∧ (∀ x, x ∈ I → x ∉ J) := fun I J h => by
    obtain ⟨h1, h2, h3⟩ := List.nodup_append.1 h
    obtain ⟨h4, h5, h6⟩ := List.nodup_append.1 h2
    have h7 : n + m + 1 ∉ J := fun hx => h3 (n + m + 1) (by simp) _ (by simp [hx]) rfl
    refine ⟨by simp [h7, h5], ?_, h5, fun x hx hj => h6 x hx x hj rfl⟩
    intro x hx hy
    simp at hx hy
    rcases hx with rfl | hx <;> rcases hy with hy | hy
    · omega
    · exact h3 (n + m + 1) (by simp) _ (by simp [hy]) rfl
    · exact h3 (n + m) (by simp) x (by simp [hx]) hy.symm
    · exact h6 x hy x hx rfl
  obtain ⟨u1, u2, u3, u4⟩ := parts _ _ hnd
  obtain ⟨v1, v2, v3, v4⟩ := parts _ _ hnd2
  have hmem : ∀ x, x ∈ I ++ J ↔ (∃ i, i < m ∧ n + i = x) ∨ x < n := fun x => by rw [hp.mem_iff]; simp
  have row0 : ∀ z, Sol ([n + m] ++ (List.range m).map (n + ·)) ([n + m + 1] ++ List.range n) (tab0 A m n) z → (∀ i, i < m → z (n + i) = z (n + m + 1) - sumL (List.range n) (fun j => A i j * z j)) ∧ z (n + m) = sumL (List.range n) (fun j => z j) := fun z hz => by
    constructor
    · intro i hi
      have := hz (n + i) (by simp [hi])
      rw [List.singleton_append, sumL_cons] at this
      have e : sumL (List.range n) (fun j => tab0 A m n (n + i) j * z j) = (-1) * sumL (List.range n) (fun j => A i j * z j) := by
        rw [← sumL_mul]; refine sumL_congr _ _ _ (fun j hj => ?_)
        simp at hj
        have h1 : n + i ≠ n + m := by omega
        have h2 : j ≠ n + m + 1 := by omega
        have h3 : n + i - n = i := by omega
        simp only [tab0, if_neg h1, if_neg h2, h3]; grind
      rw [this, e]
      have h1 : n + i ≠ n + m := by omega
      simp only [tab0, if_neg h1, if_true]; grind
    · have := hz (n + m) (by simp)
      rw [List.singleton_append, sumL_cons] at this
      have e : sumL (List.range n) (fun j => tab0 A m n (n + m) j * z j) = sumL (List.range n) (fun j => z j) := by
        refine sumL_congr _ _ _ (fun j hj => ?_)
        simp at hj
        simp [tab0, hj]
      rw [this, e]
      have h2 : ¬ (n + m + 1 < n) := by omega
      simp only [tab0, if_true, if_neg h2]; grind
  have row1 : ∀ z, Sol ([n + m] ++ I) ([n + m + 1] ++ J) T z → ∀ b, b ∈ [n + m] ++ I → z b = T b (n + m + 1) * z (n + m + 1) + sumL J (fun x => T b x * z x) := fun z hz b hb => by
    have := hz b hb
    rwa [List.singleton_append, sumL_cons] at this
  rcases ht with ⟨h1, h2⟩ | ⟨r, hr, h1, h2⟩ | ⟨s, hs, h1, h2⟩
  · -- the best is found
    refine ⟨fun i => J.contains (n + i), fun j => I.contains j, ?_⟩
    obtain ⟨z, hz, z1, z2, z3⟩ := unit_sol T v2 v1 (j := n + m + 1) (by simp)
    have hz0 := row0 z ((he z).2 hz)
    have inJ : ∀ x, x ∈ J → x ≠ n + m + 1 := fun x hx e => by
      have := (List.nodup_cons.1 (by simpa using v1)).1
      exact this (e ▸ hx)
    have zJ : ∀ x, x ∈ J → z x = 0 := fun x hx => z2 x (by simp [hx]) (inJ x hx)
    have zI : ∀ x, x ∈ I → z x = T x (n + m + 1) := fun x hx => z3 x (by simp [hx])
    have colI : ∀ j, j < n → j ∉ I → j ∈ J := fun j hj h => by
      rcases List.mem_append.1 ((hmem j).2 (Or.inr hj)) with h' | h'
      · exact absurd h' h
      · exact h'
    have rowI : ∀ i, i < m → n + i ∉ J → n + i ∈ I := fun i hi h => by
      rcases List.mem_append.1 ((hmem (n + i)).2 (Or.inl ⟨i, hi, rfl⟩)) with h' | h'
      · exact h'
      · exact absurd h' h
    have sumC : ∀ F : Nat → Rat, (∀ j, j < n → j ∈ J → F j = 0) → sumL ((List.range n).filter fun j => I.contains j) F = sumL (List.range n) F := fun F hF =>
      sumL_filter _ _ _ (fun j hj hc => hF j (by simpa using hj) (colI j (by simpa using hj) (by simpa using hc)))
    have hJp : J.Perm (((List.range m).filter fun i => J.contains (n + i)).map (n + ·) ++ (List.range n).filter fun j => !I.contains j) := by
      refine (List.perm_ext_iff_of_nodup v3 ?_).2 (fun x => ?_)
      · rw [List.nodup_append]
        refine ⟨?_, List.Pairwise.filter _ List.nodup_range, ?_⟩
        · rw [List.nodup_iff_pairwise_ne, List.pairwise_map]
          exact (List.nodup_iff_pairwise_ne.1 (List.Pairwise.filter _ List.nodup_range)).imp (fun h e => h (by omega))
        · intro a ha b hb e
          simp at ha hb
          obtain ⟨i, _, rfl⟩ := ha
          omega
      · rw [List.mem_append, List.mem_map]
        constructor
        · intro hx
          rcases (hmem x).1 (by simp [hx]) with ⟨i, hi, rfl⟩ | hj
          · exact Or.inl ⟨i, by simp [hi, hx], rfl⟩
          · exact Or.inr (by simp [hj]; exact fun h => v4 x h hx)
        · rintro (⟨i, hi, rfl⟩ | hj)
          · simp at hi; exact hi.2
          · simp at hj; exact colI x hj.1 hj.2
    have dual : ∀ j, j < n → (j ∈ I → sumL ((List.range m).filter fun i => J.contains (n + i)) (fun i => A i j * (- T (n + m) (n + i))) = 1) ∧ (j ∉ I → 1 ≤ sumL ((List.range m).filter fun i => J.contains (n + i)) (fun i => A i j * (- T (n + m) (n + i)))) := fun j hj => by
      obtain ⟨y, hy, y1, y2, y3⟩ := unit_sol (tab0 A m n) u2 u1 (j := j) (by simp [hj])
      have e := row1 y ((he y).1 hy) (n + m) (by simp)
      have yg : y (n + m + 1) = 0 := y2 _ (by simp) (by omega)
      have yf : y (n + m) = 1 := by rw [y3 (n + m) (by simp)]; simp [tab0, hj]
      have ys : ∀ i, i < m → y (n + i) = - A i j := fun i hi => by
        rw [y3 (n + i) (by simp [hi])]
        have h1 : n + i ≠ n + m := by omega
        have h2 : j ≠ n + m + 1 := by omega
        have h3 : n + i - n = i := by omega
        simp only [tab0, if_neg h1, if_neg h2, h3]
      rw [yf, yg, sumL_perm hJp, sumL_app, sumL_map] at e
      have e1 : sumL ((List.range m).filter fun i => J.contains (n + i)) (fun i => T (n + m) (n + i) * y (n + i)) = sumL ((List.range m).filter fun i => J.contains (n + i)) (fun i => A i j * (- T (n + m) (n + i))) :=
        sumL_congr _ _ _ (fun i hi => by rw [ys i (by simp at hi; exact hi.1)]; grind)
      rw [e1] at e
      constructor
      · intro hI
        have e2 : sumL ((List.range n).filter fun j => !I.contains j) (fun x => T (n + m) x * y x) = 0 := sumL_zero _ _ (fun x hx => by
          simp at hx
          rw [y2 x (by simp [hx.1]) (fun e => hx.2 (e ▸ hI))]; grind)
        rw [e2] at e; grind
      · intro hI
        have e2 : sumL ((List.range n).filter fun j => !I.contains j) (fun x => T (n + m) x * y x) = T (n + m) j := by
          rw [sumL_one (List.Pairwise.filter _ List.nodup_range) (a := j) (by simp [hj, hI]) _ (fun x hx hne => by
            simp at hx
            rw [y2 x (by simp [hx.1]) hne]; grind), y1]
          grind
        have := h2 j (colI j hj hI)
        rw [e2] at e; grind
    refine ⟨z, fun i => - T (n + m) (n + i), ?_, ?_, ?_, ?_, ?_, ?_, ?_, ?_⟩
    · -- as many rows as columns
      have e1 := hJp.length_eq
      have e2 := hp.length_eq
      simp only [List.length_append, List.length_map, List.length_range] at e1 e2 hl
      have e3 : ((List.range n).filter fun j => I.contains j).length + ((List.range n).filter fun j => !I.contains j).length = n := by
        have := filter_two (fun j => I.contains j) (List.range n)
        rwa [List.length_range] at this
      omega
    · intro j hj
      simp at hj
      rw [zI j hj.2]; exact h1 j hj.2
    · intro i hi
      simp at hi
      have := h2 (n + i) hi.2
      show 0 ≤ - T (n + m) (n + i)
      grind
    · intro i hi
      rw [sumC _ (fun j _ hj => by rw [zJ j hj]; grind)]
      have e := hz0.1 i hi
      rw [z1] at e
      have hs : 0 ≤ z (n + i) := by
        by_cases h : n + i ∈ J
        · rw [zJ _ h]; exact Rat.le_refl
        · rw [zI _ (rowI i hi h)]; exact h1 _ (rowI i hi h)
      grind
    · intro i hi
      simp at hi
      rw [sumC _ (fun j _ hj => by rw [zJ j hj]; grind)]
      have e := hz0.1 i hi.1
      rw [z1, zJ _ hi.2] at e
      grind
    · intro j hj
      have h := dual j hj
      by_cases hjI : j ∈ I
      · rw [h.1 hjI]; exact Rat.le_refl
      · exact h.2 hjI
    · intro j hj
      simp at hj
      exact (dual j hj.1).1 hj.2
    · intro k hk
      simp at hk
      obtain ⟨y, hy, y1, y2, y3⟩ := unit_sol T v2 v1 (j := n + k) (by simp [hk.2])
      have hy0 := row0 y ((he y).2 hy)
      have yg : y (n + m + 1) = 0 := y2 _ (by simp) (fun e => inJ _ hk.2 e.symm)
      refine ⟨fun j => - y j, fun i hi => ?_⟩
      simp at hi
      rw [sumC _ (fun j hj hjJ => by show A i j * - y j = 0; rw [y2 j (by simp [hjJ]) (by omega)]; grind)]
      have e := hy0.1 i hi.1
      rw [yg] at e
      have e2 : sumL (List.range n) (fun j => A i j * - y j) = (-1) * sumL (List.range n) (fun j => A i j * y j) := by
        rw [← sumL_mul]; exact sumL_congr _ _ _ (fun j _ => by grind)
      rw [e2]
      by_cases hik : i = k
      · subst hik; rw [y1] at e; rw [if_pos rfl]; grind
      · rw [y2 (n + i) (by simp [hi.2]) (by omega)] at e; rw [if_neg hik]; grind
  · exfalso
    obtain ⟨y, hy, y1, y2, y3⟩ := unit_sol (tab0 A m n) u2 u1 (j := n + m + 1) (by simp)
    have hy1 := row1 y ((he y).1 hy) r (by simp [hr])
    have yp : ∀ x, x ∈ I ++ J → 0 ≤ y x := fun x hx => by
      rcases (hmem x).1 hx with ⟨i, hi, rfl⟩ | hj
      · rw [y3 (n + i) (by simp [hi])]
        have h1 : n + i ≠ n + m := by omega
        simp only [tab0, if_neg h1, if_true]; decide
      · rw [y2 x (by simp [hj]) (by omega)]; exact Rat.le_refl
    have p1 := yp r (by simp [hr])
    have p2 := sumL_nonpos J (fun x => T r x * y x) (fun x hx => mul_np (h2 x hx) (yp x (by simp [hx])))
    rw [y1] at hy1
    grind
  · exfalso
    obtain ⟨z, hz, z1, z2, z3⟩ := unit_sol T v2 v1 (j := s) (by simp [hs])
    have hz0 := row0 z ((he z).2 hz)
    have hsg : s ≠ n + m + 1 := fun e => by
      have := (List.nodup_cons.1 (by simpa using v1)).1
      exact this (e ▸ hs)
    have zg : z (n + m + 1) = 0 := z2 _ (by simp) (Ne.symm hsg)
    have zp : ∀ x, x ∈ I ++ J → 0 ≤ z x := fun x hx => by
      rcases List.mem_append.1 hx with hx | hx
      · rw [z3 x (by simp [hx])]; exact h2 x hx
      · by_cases e : x = s
        · rw [e, z1]; decide
        · rw [z2 x (by simp [hx]) e]; exact Rat.le_refl
    have e := hz0.1 0 hm
    have p0 : 0 ≤ z (n + 0) := zp _ ((hmem _).2 (Or.inl ⟨0, hm, rfl⟩))
    have pj : ∀ j, j ∈ List.range n → 0 ≤ A 0 j * z j := fun j hj => by
      simp at hj
      exact Rat.mul_nonneg (Rat.le_of_lt (hA 0 j hm hj)) (zp j ((hmem j).2 (Or.inr hj)))
    have all0 := sumL_pos_zero (List.range n) (fun j => A 0 j * z j) pj (by rw [zg] at e; grind)
    have : z (n + m) = 0 := by
      rw [hz0.2]
      refine sumL_zero _ _ (fun j hj => ?_)
      have h := all0 j hj
      have ha := hA 0 j hm (by simpa using hj)
      grind
    rw [z3 (n + m) (by simp)] at this
    grind
end Go.Proofs.YtlmaeadbomnhlaaGreat

namespace Go.Proofs.YtlmaeadbomnhlaaGreat
set_option linter.unusedSimpArgs false
set_option linter.unusedVariables false
def sumI (k : Nat) (f : Nat → Int) : Int := match k with
  | 0 => 0
  | k + 1 => sumI k f + f k
def sgI (k : Nat) : Int := if k % 2 = 0 then 1 else -1
def woI (M : Nat → Nat → Int) (a b : Nat) : Nat → Nat → Int := fun i j => M (if i < a then i else i + 1) (if j < b then j else j + 1)
def detI : Nat → (Nat → Nat → Int) → Int
  | 0, _ => 1
  | k + 1, M => sumI (k + 1) (fun j => sgI j * M 0 j * detI k (woI M 0 j))
def cofI (k : Nat) (M : Nat → Nat → Int) (a b : Nat) : Int := sgI (a + b) * detI (k - 1) (woI M a b)
def xcI (k : Nat) (M : Nat → Nat → Int) (a : Nat) : Int := sumI k (fun b => cofI k M a b)
def ycI (k : Nat) (M : Nat → Nat → Int) (b : Nat) : Int := sumI k (fun a => cofI k M a b)
def sumR (k : Nat) (f : Nat → Rat) : Rat := match k with
  | 0 => 0
  | k + 1 => sumR k f + f k
def sgR (k : Nat) : Rat := if k % 2 = 0 then 1 else -1
def woR (M : Nat → Nat → Rat) (a b : Nat) : Nat → Nat → Rat := fun i j => M (if i < a then i else i + 1) (if j < b then j else j + 1)
def detR : Nat → (Nat → Nat → Rat) → Rat
  | 0, _ => 1
  | k + 1, M => sumR (k + 1) (fun j => sgR j * M 0 j * detR k (woR M 0 j))
def cofR (k : Nat) (M : Nat → Nat → Rat) (a b : Nat) : Rat := sgR (a + b) * detR (k - 1) (woR M a b)
def xcR (k : Nat) (M : Nat → Nat → Rat) (a : Nat) : Rat := sumR k (fun b => cofR k M a b)
def ycR (k : Nat) (M : Nat → Nat → Rat) (b : Nat) : Rat := sumR k (fun a => cofR k M a b)
theorem rowI (k : Nat) (M : Nat → Nat → Int) (i a : Nat) (hk4 : k ≤ 4) (hi : i < k) (ha : a < k) : sumI k (fun b => M i b * cofI k M a b) = if i = a then detI k M else 0 := by
  have hk : k = 0 ∨ k = 1 ∨ k = 2 ∨ k = 3 ∨ k = 4 := by omega
  have qi : i = 0 ∨ i = 1 ∨ i = 2 ∨ i = 3 := by omega
  have qa : a = 0 ∨ a = 1 ∨ a = 2 ∨ a = 3 := by omega
  rcases hk with rfl | rfl | rfl | rfl | rfl <;> rcases qi with rfl | rfl | rfl | rfl <;> rcases qa with rfl | rfl | rfl | rfl <;> first | (exfalso; omega) | (simp [cofI, detI, sumI, sgI, woI]; try grind)
theorem colI (k : Nat) (M : Nat → Nat → Int) (j b : Nat) (hk4 : k ≤ 4) (hj : j < k) (hb : b < k) : sumI k (fun a => M a j * cofI k M a b) = if j = b then detI k M else 0 := by
  have hk : k = 0 ∨ k = 1 ∨ k = 2 ∨ k = 3 ∨ k = 4 := by omega
  have qj : j = 0 ∨ j = 1 ∨ j = 2 ∨ j = 3 := by omega
  have qb : b = 0 ∨ b = 1 ∨ b = 2 ∨ b = 3 := by omega
  rcases hk with rfl | rfl | rfl | rfl | rfl <;> rcases qj with rfl | rfl | rfl | rfl <;> rcases qb with rfl | rfl | rfl | rfl <;> first | (exfalso; omega) | (simp [cofI, detI, sumI, sgI, woI]; try grind)
theorem yshI (k : Nat) (M : Nat → Nat → Int) (c : Int) (b : Nat) (hk4 : k ≤ 4) (hb : b < k) : ycI k (fun i j => M i j + c) b = ycI k M b := by
  have hk : k = 0 ∨ k = 1 ∨ k = 2 ∨ k = 3 ∨ k = 4 := by omega
  have qb : b = 0 ∨ b = 1 ∨ b = 2 ∨ b = 3 := by omega
  rcases hk with rfl | rfl | rfl | rfl | rfl <;> rcases qb with rfl | rfl | rfl | rfl <;> first | (exfalso; omega) | (simp [ycI, cofI, detI, sumI, sgI, woI]; try grind)
theorem xshI (k : Nat) (M : Nat → Nat → Int) (c : Int) (a : Nat) (hk4 : k ≤ 4) (ha : a < k) : xcI k (fun i j => M i j + c) a = xcI k M a := by
  have hk : k = 0 ∨ k = 1 ∨ k = 2 ∨ k = 3 ∨ k = 4 := by omega
  have qa : a = 0 ∨ a = 1 ∨ a = 2 ∨ a = 3 := by omega
  rcases hk with rfl | rfl | rfl | rfl | rfl <;> rcases qa with rfl | rfl | rfl | rfl <;> first | (exfalso; omega) | (simp [xcI, cofI, detI, sumI, sgI, woI]; try grind)
theorem rowR (k : Nat) (M : Nat → Nat → Rat) (i a : Nat) (hk4 : k ≤ 4) (hi : i < k) (ha : a < k) : sumR k (fun b => M i b * cofR k M a b) = if i = a then detR k M else 0 := by
  have hk : k = 0 ∨ k = 1 ∨ k = 2 ∨ k = 3 ∨ k = 4 := by omega
  have qi : i = 0 ∨ i = 1 ∨ i = 2 ∨ i = 3 := by omega
  have qa : a = 0 ∨ a = 1 ∨ a = 2 ∨ a = 3 := by omega
  rcases hk with rfl | rfl | rfl | rfl | rfl <;> rcases qi with rfl | rfl | rfl | rfl <;> rcases qa with rfl | rfl | rfl | rfl <;> first | (exfalso; omega) | (simp [cofR, detR, sumR, sgR, woR]; try grind)
theorem colR (k : Nat) (M : Nat → Nat → Rat) (j b : Nat) (hk4 : k ≤ 4) (hj : j < k) (hb : b < k) : sumR k (fun a => M a j * cofR k M a b) = if j = b then detR k M else 0 := by
  have hk : k = 0 ∨ k = 1 ∨ k = 2 ∨ k = 3 ∨ k = 4 := by omega
  have qj : j = 0 ∨ j = 1 ∨ j = 2 ∨ j = 3 := by omega
  have qb : b = 0 ∨ b = 1 ∨ b = 2 ∨ b = 3 := by omega
  rcases hk with rfl | rfl | rfl | rfl | rfl <;> rcases qj with rfl | rfl | rfl | rfl <;> rcases qb with rfl | rfl | rfl | rfl <;> first | (exfalso; omega) | (simp [cofR, detR, sumR, sgR, woR]; try grind)
theorem ns2 (a0 a1 b0 b1 u0 u1 v0 v1 : Rat) (e1 : a0 * u0 + a1 * u1 = 1) (e2 : b0 * u0 + b1 * u1 = 0) (e4 : b0 * v0 + b1 * v1 = 1) (h : a0 * b1 - a1 * b0 = 0) : False := by
  grind
theorem ns3 (a0 a1 a2 b0 b1 b2 c0 c1 c2 u0 u1 u2 v0 v1 v2 w0 w1 w2 : Rat)
  (e1 : a0 * u0 + a1 * u1 + a2 * u2 = 1) 
  (e4 : a0 * v0 + a1 * v1 + a2 * v2 = 0) (e5 : b0 * v0 + b1 * v1 + b2 * v2 = 1)
  (e7 : a0 * w0 + a1 * w1 + a2 * w2 = 0) (e8 : b0 * w0 + b1 * w1 + b2 * w2 = 0) (e9 : c0 * w0 + c1 * w1 + c2 * w2 = 1)
  (h : a0 * (b1 * c2 - b2 * c1) - a1 * (b0 * c2 - b2 * c0) + a2 * (b0 * c1 - b1 * c0) = 0) : False := by
  have m01 : a0 * b1 - a1 * b0 = 0 := by grind
  have m02 : a0 * b2 - a2 * b0 = 0 := by grind
  have m12 : a1 * b2 - a2 * b1 = 0 := by grind
  have r0 : a0 = 0 := by grind
  have r1 : a1 = 0 := by grind
  have r2 : a2 = 0 := by grind
  grind
theorem ns4 (a0 a1 a2 a3 b0 b1 b2 b3 c0 c1 c2 c3 d0 d1 d2 d3 u0 u1 u2 u3 v0 v1 v2 v3 w0 w1 w2 w3 x0 x1 x2 x3 : Rat)
  (e1 : a0 * u0 + a1 * u1 + a2 * u2 + a3 * u3 = 1)
  (e4 : a0 * v0 + a1 * v1 + a2 * v2 + a3 * v3 = 0) (e5 : b0 * v0 + b1 * v1 + b2 * v2 + b3 * v3 = 1)
  (e7 : a0 * w0 + a1 * w1 + a2 * w2 + a3 * w3 = 0) (e8 : b0 * w0 + b1 * w1 + b2 * w2 + b3 * w3 = 0) (e9 : c0 * w0 + c1 * w1 + c2 * w2 + c3 * w3 = 1)
  (f7 : a0 * x0 + a1 * x1 + a2 * x2 + a3 * x3 = 0) (f8 : b0 * x0 + b1 * x1 + b2 * x2 + b3 * x3 = 0) (f9 : c0 * x0 + c1 * x1 + c2 * x2 + c3 * x3 = 0) (f10 : d0 * x0 + d1 * x1 + d2 * x2 + d3 * x3 = 1)
  (h : a0 * (b1 * (c2 * d3 - c3 * d2) - b2 * (c1 * d3 - c3 * d1) + b3 * (c1 * d2 - c2 * d1)) - a1 * (b0 * (c2 * d3 - c3 * d2) - b2 * (c0 * d3 - c3 * d0) + b3 * (c0 * d2 - c2 * d0)) + a2 * (b0 * (c1 * d3 - c3 * d1) - b1 * (c0 * d3 - c3 * d0) + b3 * (c0 * d1 - c1 * d0)) - a3 * (b0 * (c1 * d2 - c2 * d1) - b1 * (c0 * d2 - c2 * d0) + b2 * (c0 * d1 - c1 * d0)) = 0) : False := by
  have m012 : a0 * (b1 * c2 - b2 * c1) - a1 * (b0 * c2 - b2 * c0) + a2 * (b0 * c1 - b1 * c0) = 0 := by grind
  have m013 : a0 * (b1 * c3 - b3 * c1) - a1 * (b0 * c3 - b3 * c0) + a3 * (b0 * c1 - b1 * c0) = 0 := by grind
  have m023 : a0 * (b2 * c3 - b3 * c2) - a2 * (b0 * c3 - b3 * c0) + a3 * (b0 * c2 - b2 * c0) = 0 := by grind
  have m123 : a1 * (b2 * c3 - b3 * c2) - a2 * (b1 * c3 - b3 * c1) + a3 * (b1 * c2 - b2 * c1) = 0 := by grind
  have m01 : a0 * b1 - a1 * b0 = 0 := by grind
  have m02 : a0 * b2 - a2 * b0 = 0 := by grind
  have m03 : a0 * b3 - a3 * b0 = 0 := by grind
  have m12 : a1 * b2 - a2 * b1 = 0 := by grind
  have m13 : a1 * b3 - a3 * b1 = 0 := by grind
  have m23 : a2 * b3 - a3 * b2 = 0 := by grind
  clear h m012 m013 m023 m123 f7 f8 f9 f10 e7 e8 e9
  have r0 : a0 = 0 := by grind
  have r1 : a1 = 0 := by grind
  have r2 : a2 = 0 := by grind
  have r3 : a3 = 0 := by grind
  grind
theorem det_ne (k : Nat) (M : Nat → Nat → Rat) (hk1 : 1 ≤ k) (hk4 : k ≤ 4) (h : ∀ c, c < k → ∃ w : Nat → Rat, ∀ a, a < k → sumR k (fun b => M a b * w b) = if a = c then 1 else 0) : detR k M ≠ 0 := by
  intro h0
  have hk : k = 1 ∨ k = 2 ∨ k = 3 ∨ k = 4 := by omega
  rcases hk with rfl | rfl | rfl | rfl
  · obtain ⟨u, hu⟩ := h 0 (by omega)
    have e := hu 0 (by omega)
    simp [detR, sumR, sgR, woR] at e h0
    grind
  · obtain ⟨u, hu⟩ := h 0 (by omega)
    obtain ⟨v, hv⟩ := h 1 (by omega)
    have u0 := hu 0 (by omega)
    have u1 := hu 1 (by omega)
    have v0 := hv 0 (by omega)
    have v1 := hv 1 (by omega)
    simp [detR, sumR, sgR, woR] at u0 u1 v0 v1 h0
    refine ns2 (M 0 0) (M 0 1) (M 1 0) (M 1 1) (u 0) (u 1) (v 0) (v 1) ?_ ?_ ?_ ?_ <;> grind
  · obtain ⟨u, hu⟩ := h 0 (by omega)
    obtain ⟨v, hv⟩ := h 1 (by omega)
    obtain ⟨w, hw⟩ := h 2 (by omega)
    have u0 := hu 0 (by omega)
    have v0 := hv 0 (by omega)
    have v1 := hv 1 (by omega)
    have w0 := hw 0 (by omega)
    have w1 := hw 1 (by omega)
    have w2 := hw 2 (by omega)
    simp [detR, sumR, sgR, woR] at u0 v0 v1 w0 w1 w2 h0
    refine ns3 (M 0 0) (M 0 1) (M 0 2) (M 1 0) (M 1 1) (M 1 2) (M 2 0) (M 2 1) (M 2 2) (u 0) (u 1) (u 2) (v 0) (v 1) (v 2) (w 0) (w 1) (w 2) ?_ ?_ ?_ ?_ ?_ ?_ ?_ <;> grind
  · obtain ⟨u, hu⟩ := h 0 (by omega)
    obtain ⟨v, hv⟩ := h 1 (by omega)
    obtain ⟨w, hw⟩ := h 2 (by omega)
    obtain ⟨x, hx⟩ := h 3 (by omega)
    have u0 := hu 0 (by omega)
    have v0 := hv 0 (by omega)
    have v1 := hv 1 (by omega)
    have w0 := hw 0 (by omega)
    have w1 := hw 1 (by omega)
    have w2 := hw 2 (by omega)
    have x0 := hx 0 (by omega)
    have x1 := hx 1 (by omega)
    have x2 := hx 2 (by omega)
    have x3 := hx 3 (by omega)
    simp [detR, sumR, sgR, woR] at u0 v0 v1 w0 w1 w2 x0 x1 x2 x3 h0
    refine ns4 (M 0 0) (M 0 1) (M 0 2) (M 0 3) (M 1 0) (M 1 1) (M 1 2) (M 1 3) (M 2 0) (M 2 1) (M 2 2) (M 2 3) (M 3 0) (M 3 1) (M 3 2) (M 3 3) (u 0) (u 1) (u 2) (u 3) (v 0) (v 1) (v 2) (v 3) (w 0) (w 1) (w 2) (w 3) (x 0) (x 1) (x 2) (x 3) ?_ ?_ ?_ ?_ ?_ ?_ ?_ ?_ ?_ ?_ ?_ <;> grind
theorem sumR_congr {k : Nat} {f g : Nat → Rat} (h : ∀ a, a < k → f a = g a) : sumR k f = sumR k g := by
  induction k with
  | zero => rfl
  | succ k ih => simp only [sumR]; rw [ih (fun a ha => h a (by omega)), h k (by omega)]
theorem sumR_mul (k : Nat) (c : Rat) (f : Nat → Rat) : sumR k (fun a => c * f a) = c * sumR k f := by
  induction k with
  | zero => simp [sumR]
  | succ k ih => simp only [sumR, ih]; grind
theorem sumR_add (k : Nat) (f g : Nat → Rat) : sumR k (fun a => f a + g a) = sumR k f + sumR k g := by
  induction k with
  | zero => simp [sumR]; grind
  | succ k ih => simp only [sumR, ih]; grind
theorem sumR_swap (k l : Nat) (f : Nat → Nat → Rat) : sumR k (fun a => sumR l (fun b => f a b)) = sumR l (fun b => sumR k (fun a => f a b)) := by
  induction k with
  | zero =>
    simp only [sumR]
    induction l with
    | zero => rfl
    | succ l ih => simp only [sumR]; rw [← ih]; grind
  | succ k ih => simp only [sumR]; rw [ih, ← sumR_add]
theorem sumR_front (k : Nat) (f : Nat → Rat) : sumR (k + 1) f = f 0 + sumR k (fun a => f (a + 1)) := by
  induction k with
  | zero => simp [sumR]; grind
  | succ k ih =>
    have : sumR (k + 1 + 1) f = sumR (k + 1) f + f (k + 1) := rfl
    rw [this, ih]; simp only [sumR]; grind
theorem sumR_delta (k c : Nat) (hc : c < k) (f : Nat → Rat) : sumR k (fun a => if a = c then f a else 0) = f c := by
  induction k with
  | zero => omega
  | succ k ih =>
    simp only [sumR]
    by_cases h : k = c
    · subst h
      have : sumR k (fun a => if a = k then f a else 0) = 0 := by
        have e : sumR k (fun a => if a = k then f a else 0) = sumR k (fun _ => 0 * 0) := sumR_congr (fun a ha => by rw [if_neg (by omega)]; grind)
        rw [e, sumR_mul]; grind
      rw [this, if_pos rfl]; grind
    · rw [ih (by omega), if_neg h]; grind
theorem sumL_getD (l : List Nat) (f : Nat → Rat) : sumL l f = sumR l.length (fun a => f (l.getD a 0)) := by
  induction l with
  | nil => rfl
  | cons a l ih =>
    rw [sumL_cons, List.length_cons, sumR_front, ih]
    simp
theorem sumR_cast (k : Nat) (f : Nat → Int) : sumR k (fun a => ((f a : Int) : Rat)) = ((sumI k f : Int) : Rat) := by
  induction k with
  | zero => rfl
  | succ k ih => simp only [sumR, sumI, ih]; rw [Rat.intCast_add]
theorem sg_cast (k : Nat) : sgR k = ((sgI k : Int) : Rat) := by
  unfold sgR sgI; split <;> rfl
theorem det_cast (k : Nat) : ∀ M : Nat → Nat → Int, detR k (fun i j => ((M i j : Int) : Rat)) = ((detI k M : Int) : Rat) := by
  induction k with
  | zero => intro M; rfl
  | succ k ih =>
    intro M
    unfold detR detI
    rw [← sumR_cast]
    refine sumR_congr (fun j _ => ?_)
    have h : woR (fun i j => ((M i j : Int) : Rat)) 0 j = fun i b => ((woI M 0 j i b : Int) : Rat) := rfl
    rw [h, ih, sg_cast, Rat.intCast_mul, Rat.intCast_mul]
theorem cof_cast (k : Nat) (M : Nat → Nat → Int) (a b : Nat) : cofR k (fun i j => ((M i j : Int) : Rat)) a b = ((cofI k M a b : Int) : Rat) := by
  unfold cofR cofI
  have h : woR (fun i j => ((M i j : Int) : Rat)) a b = fun i c => ((woI M a b i c : Int) : Rat) := rfl
  rw [h, det_cast, sg_cast, Rat.intCast_mul]
theorem xc_cast (k : Nat) (M : Nat → Nat → Int) (a : Nat) : xcR k (fun i j => ((M i j : Int) : Rat)) a = ((xcI k M a : Int) : Rat) := by
  unfold xcR xcI; rw [← sumR_cast]; exact sumR_congr (fun b _ => cof_cast k M a b)
theorem yc_cast (k : Nat) (M : Nat → Nat → Int) (b : Nat) : ycR k (fun i j => ((M i j : Int) : Rat)) b = ((ycI k M b : Int) : Rat) := by
  unfold ycR ycI; rw [← sumR_cast]; exact sumR_congr (fun a _ => cof_cast k M a b)
theorem cramer_y {k : Nat} {M : Nat → Nat → Rat} {p : Nat → Rat} (hk : k ≤ 4) (h : ∀ a, a < k → sumR k (fun b => M a b * p b) = 1) (b : Nat) (hb : b < k) : ycR k M b = detR k M * p b := by
  have e1 : ycR k M b = sumR k (fun a => sumR k (fun c => p c * (M a c * cofR k M a b))) := by
    unfold ycR
    refine sumR_congr (fun a ha => ?_)
    have e : sumR k (fun c => p c * (M a c * cofR k M a b)) = cofR k M a b * sumR k (fun c => M a c * p c) := by
      rw [← sumR_mul]; exact sumR_congr (fun c _ => by grind)
    rw [e, h a ha]; grind
  rw [e1, sumR_swap]
  have e2 : sumR k (fun c => sumR k (fun a => p c * (M a c * cofR k M a b))) = sumR k (fun c => if c = b then detR k M * p c else 0) :=
    sumR_congr (fun c hc => by rw [sumR_mul, colR k M c b hk hc hb]; split <;> grind)
  rw [e2, sumR_delta k b hb]
theorem cramer_x {k : Nat} {M : Nat → Nat → Rat} {q : Nat → Rat} (hk : k ≤ 4) (h : ∀ b, b < k → sumR k (fun a => M a b * q a) = 1) (a : Nat) (ha : a < k) : xcR k M a = detR k M * q a := by
  have e1 : xcR k M a = sumR k (fun b => sumR k (fun c => q c * (M c b * cofR k M a b))) := by
    unfold xcR
    refine sumR_congr (fun b hb => ?_)
    have e : sumR k (fun c => q c * (M c b * cofR k M a b)) = cofR k M a b * sumR k (fun c => M c b * q c) := by
      rw [← sumR_mul]; exact sumR_congr (fun c _ => by grind)
    rw [e, h b hb]; grind
  rw [e1, sumR_swap]
  have e2 : sumR k (fun c => sumR k (fun b => q c * (M c b * cofR k M a b))) = sumR k (fun c => if c = a then detR k M * q c else 0) :=
    sumR_congr (fun c hc => by rw [sumR_mul, rowR k M c a hk hc ha]; split <;> grind)
  rw [e2, sumR_delta k a ha]
theorem sumR_nonneg (k : Nat) (f : Nat → Rat) (h : ∀ a, a < k → 0 ≤ f a) : 0 ≤ sumR k f := by
  induction k with
  | zero => simp [sumR]
  | succ k ih =>
    have h1 := ih (fun a ha => h a (by omega))
    have h2 := h k (by omega)
    simp only [sumR]; grind
theorem sumR_zero_of (k : Nat) (f : Nat → Rat) (h : ∀ a, a < k → 0 ≤ f a) (h0 : sumR k f ≤ 0) : ∀ a, a < k → f a = 0 := by
  induction k with
  | zero => intro a ha; omega
  | succ k ih =>
    have h1 := sumR_nonneg k f (fun a ha => h a (by omega))
    have h2 := h k (by omega)
    simp only [sumR] at h0
    intro a ha
    by_cases e : a = k
    · subst e; grind
    · exact ih (fun a ha => h a (by omega)) (by grind) a (by omega)
theorem sumI_swap (k l : Nat) (f : Nat → Nat → Int) : sumI k (fun a => sumI l (fun b => f a b)) = sumI l (fun b => sumI k (fun a => f a b)) := by
  induction k with
  | zero =>
    simp only [sumI]
    induction l with
    | zero => rfl
    | succ l ih => simp only [sumI]; rw [← ih]; rfl
  | succ k ih =>
    simp only [sumI]; rw [ih]
    have : ∀ (l : Nat) (f g : Nat → Int), sumI l (fun a => f a + g a) = sumI l f + sumI l g := fun l f g => by
      induction l with
      | zero => rfl
      | succ l ih => simp only [sumI, ih]; omega
    rw [this]
def partM (A : Nat → Nat → Int) (R C : List Nat) : Nat → Nat → Int := fun a b => A (R.getD a 0) (C.getD b 0)
theorem ex_part (A : Nat → Nat → Int) (m n : Nat) (hm : 0 < m) (hm4 : m ≤ 4) (hn : 0 < n) (hA : ∀ i j, i < m → j < n → -9 ≤ A i j) :
    ∃ (P Q : Nat → Bool) (k : Nat), ((List.range m).filter P).length = k ∧ ((List.range n).filter Q).length = k ∧ 0 < k ∧ k ≤ 4 ∧
      ∃ e D : Int, (e = 1 ∨ e = -1) ∧ 0 < e * sumI k (xcI k (partM A ((List.range m).filter P) ((List.range n).filter Q))) ∧
        (∀ a, a < k → 0 ≤ e * xcI k (partM A ((List.range m).filter P) ((List.range n).filter Q)) a) ∧
        (∀ b, b < k → 0 ≤ e * ycI k (partM A ((List.range m).filter P) ((List.range n).filter Q)) b) ∧
        (∀ j, j < n → D ≤ sumI k (fun a => A (((List.range m).filter P).getD a 0) j * (e * xcI k (partM A ((List.range m).filter P) ((List.range n).filter Q)) a))) ∧
        (∀ b, b < k → sumI k (fun a => A (((List.range m).filter P).getD a 0) (((List.range n).filter Q).getD b 0) * (e * xcI k (partM A ((List.range m).filter P) ((List.range n).filter Q)) a)) = D) ∧
        (∀ i, i < m → sumI k (fun b => A i (((List.range n).filter Q).getD b 0) * (e * ycI k (partM A ((List.range m).filter P) ((List.range n).filter Q)) b)) ≤ D) ∧
        (∀ a, a < k → sumI k (fun b => A (((List.range m).filter P).getD a 0) (((List.range n).filter Q).getD b 0) * (e * ycI k (partM A ((List.range m).filter P) ((List.range n).filter Q)) b)) = D) := by
  have hA' : ∀ i j, i < m → j < n → 0 < ((A i j + 10 : Int) : Rat) := fun i j hi hj => by
    have := hA i j hi hj
    have h : (0 : Int) < A i j + 10 := by omega
    exact_mod_cast h
  obtain ⟨P, Q, p, q, hl, hp, hq, h1, h2, h3, h4, h5⟩ := best_part (fun i j => ((A i j + 10 : Int) : Rat)) m n hm hA'
  refine ⟨P, Q, ((List.range m).filter P).length, rfl, hl.symm, ?_⟩
  have hRm : ∀ a, a < ((List.range m).filter P).length → ((List.range m).filter P).getD a 0 ∈ (List.range m).filter P := fun a ha => by
    simp [List.getD, ha]
  have hCm : ∀ b, b < ((List.range n).filter Q).length → ((List.range n).filter Q).getD b 0 ∈ (List.range n).filter Q := fun b hb => by
    simp [List.getD, hb]
  have hlt : ∀ (P : Nat → Bool) (m x : Nat), x ∈ (List.range m).filter P → x < m := fun P m x hx => by simp at hx; exact hx.1
  generalize hR : (List.range m).filter P = R at *
  generalize hC : (List.range n).filter Q = C at *
  have hRlt : ∀ x, x ∈ R → x < m := fun x hx => hlt P m x (by rw [hR]; exact hx)
  have hCn : ∀ x, x ∈ C → x < n := fun x hx => hlt Q n x (by rw [hC]; exact hx)
  have hk4 : R.length ≤ 4 := by
    have := List.length_filter_le P (List.range m)
    rw [hR, List.length_range] at this; omega
  simp only [sumL_getD, ← hl] at h1 h2 h3 h4 h5
  rw [← hl] at hCm
  have hk0 : 0 < R.length := by
    rcases Nat.eq_zero_or_pos R.length with h | h
    · have := h3 0 hn
      rw [h] at this
      simp [sumR] at this
      exact absurd this (by decide)
    · exact h
  generalize hk : R.length = k at *
  have hd : detR k (fun a b => ((partM A R C a b + 10 : Int) : Rat)) ≠ 0 := by
    refine det_ne k _ hk0 hk4 (fun c hc => ?_)
    obtain ⟨w, hw⟩ := h5 (R.getD c 0) (hRm c hc)
    refine ⟨fun b => w (C.getD b 0), fun a ha => ?_⟩
    have e := hw (R.getD a 0) (hRm a ha)
    have hnd : R.Nodup := by rw [← hR]; exact List.Pairwise.filter _ List.nodup_range
    have : (R.getD a 0 = R.getD c 0) ↔ a = c := by
      have ha' : a < R.length := by omega
      have hc' : c < R.length := by omega
      simp only [List.getD, List.getElem?_eq_getElem ha', List.getElem?_eq_getElem hc', Option.getD_some]
      exact List.getElem_inj hnd
    simp only [this] at e
    exact e
  have hy := fun b hb => cramer_y (M := fun a b => ((partM A R C a b + 10 : Int) : Rat)) (p := fun b => p (C.getD b 0)) hk4 (fun a ha => h2 (R.getD a 0) (hRm a ha)) b hb
  have hx := fun a ha => cramer_x (M := fun a b => ((partM A R C a b + 10 : Int) : Rat)) (q := fun a => q (R.getD a 0)) hk4 (fun b hb => h4 (C.getD b 0) (hCm b hb)) a ha
  rw [det_cast] at hd hy hx
  generalize hdi : detI k (fun a b => partM A R C a b + 10) = di at hd hy hx
  have hY : ∀ b, b < k → ((ycI k (partM A R C) b : Int) : Rat) = (di : Rat) * p (C.getD b 0) := fun b hb => by
    rw [← hy b hb, yc_cast, yshI k (partM A R C) 10 b hk4 hb]
  have hX : ∀ a, a < k → ((xcI k (partM A R C) a : Int) : Rat) = (di : Rat) * q (R.getD a 0) := fun a ha => by
    rw [← hx a ha, xc_cast, xshI k (partM A R C) 10 a hk4 ha]
  have hdi0 : di ≠ 0 := fun h => hd (by rw [h]; rfl)
  obtain ⟨e, he, hc⟩ : ∃ e : Int, (e = 1 ∨ e = -1) ∧ 0 < e * di := by
    by_cases h : 0 < di
    · exact ⟨1, Or.inl rfl, by omega⟩
    · exact ⟨-1, Or.inr rfl, by omega⟩
  have hcR : (0 : Rat) < ((e * di : Int) : Rat) := by exact_mod_cast hc
  have hY' : ∀ b, b < k → ((e * ycI k (partM A R C) b : Int) : Rat) = ((e * di : Int) : Rat) * p (C.getD b 0) := fun b hb => by
    rw [Rat.intCast_mul, hY b hb, Rat.intCast_mul]; grind
  have hX' : ∀ a, a < k → ((e * xcI k (partM A R C) a : Int) : Rat) = ((e * di : Int) : Rat) * q (R.getD a 0) := fun a ha => by
    rw [Rat.intCast_mul, hX a ha, Rat.intCast_mul]; grind
  have sumI_mul : ∀ (k : Nat) (c : Int) (f : Nat → Int), sumI k (fun a => c * f a) = c * sumI k f := fun k c f => by
    induction k with
    | zero => simp [sumI]
    | succ k ih => simp only [sumI, ih]; grind
  have hS : sumI k (fun b => e * ycI k (partM A R C) b) = sumI k (fun a => e * xcI k (partM A R C) a) := by
    rw [sumI_mul, sumI_mul]
    congr 1
    unfold ycI xcI
    exact sumI_swap k k _
  have hshift : ∀ (F X : Nat → Int), sumI k (fun a => (F a + 10) * X a) = sumI k (fun a => F a * X a) + 10 * sumI k X := fun F X => by
    have : ∀ k : Nat, sumI k (fun a => (F a + 10) * X a) = sumI k (fun a => F a * X a) + 10 * sumI k X := fun k => by
      induction k with
      | zero => simp [sumI]
      | succ k ih => simp only [sumI, ih]; grind
    exact this k
  have rowsum : ∀ i, ((sumI k (fun b => (A i (C.getD b 0) + 10) * (e * ycI k (partM A R C) b)) : Int) : Rat) = ((e * di : Int) : Rat) * sumR k (fun b => ((A i (C.getD b 0) + 10 : Int) : Rat) * p (C.getD b 0)) := fun i => by
    rw [← sumR_cast, ← sumR_mul]
    exact sumR_congr (fun b hb => by rw [Rat.intCast_mul, hY' b hb]; grind)
  have colsum : ∀ j, ((sumI k (fun a => (A (R.getD a 0) j + 10) * (e * xcI k (partM A R C) a)) : Int) : Rat) = ((e * di : Int) : Rat) * sumR k (fun a => ((A (R.getD a 0) j + 10 : Int) : Rat) * q (R.getD a 0)) := fun j => by
    rw [← sumR_cast, ← sumR_mul]
    exact sumR_congr (fun a ha => by rw [Rat.intCast_mul, hX' a ha]; grind)
  refine ⟨hk0, hk4, e, e * di - 10 * sumI k (fun a => e * xcI k (partM A R C) a), he, ?_, ?_, ?_, ?_, ?_, ?_, ?_⟩
  · rw [← sumI_mul]
    have hs : ((sumI k (fun a => e * xcI k (partM A R C) a) : Int) : Rat) = ((e * di : Int) : Rat) * sumR k (fun a => q (R.getD a 0)) := by
      rw [← sumR_cast, ← sumR_mul]; exact sumR_congr (fun a ha => hX' a ha)
    have hq0 : 0 < sumR k (fun a => q (R.getD a 0)) := by
      by_cases h : sumR k (fun a => q (R.getD a 0)) ≤ 0
      · have hz := sumR_zero_of k _ (fun a ha => hq _ (hRm a ha)) h
        have h30 := h3 0 hn
        have : sumR k (fun a => ((A (R.getD a 0) 0 + 10 : Int) : Rat) * q (R.getD a 0)) = 0 := by
          have e1 : sumR k (fun a => ((A (R.getD a 0) 0 + 10 : Int) : Rat) * q (R.getD a 0)) = sumR k (fun _ => 0 * 0) := sumR_congr (fun a ha => by rw [hz a ha]; grind)
          rw [e1, sumR_mul]; grind
        rw [this] at h30
        exact absurd h30 (by decide)
      · grind
    have : (0 : Rat) < ((sumI k (fun a => e * xcI k (partM A R C) a) : Int) : Rat) := by rw [hs]; exact Rat.mul_pos hcR hq0
    exact_mod_cast this
  · intro a ha
    have : (0 : Rat) ≤ ((e * xcI k (partM A R C) a : Int) : Rat) := by rw [hX' a ha]; exact Rat.mul_nonneg (Rat.le_of_lt hcR) (hq _ (hRm a ha))
    exact_mod_cast this
  · intro b hb
    have : (0 : Rat) ≤ ((e * ycI k (partM A R C) b : Int) : Rat) := by rw [hY' b hb]; exact Rat.mul_nonneg (Rat.le_of_lt hcR) (hp _ (hCm b hb))
    exact_mod_cast this
  · intro j hj
    have h := colsum j
    have h30 := h3 j hj
    have hle : ((e * di : Int) : Rat) ≤ ((sumI k (fun a => (A (R.getD a 0) j + 10) * (e * xcI k (partM A R C) a)) : Int) : Rat) := by
      rw [h]
      have := Rat.mul_le_mul_of_nonneg_left h30 (Rat.le_of_lt hcR)
      grind
    have hle' : e * di ≤ sumI k (fun a => (A (R.getD a 0) j + 10) * (e * xcI k (partM A R C) a)) := by exact_mod_cast hle
    rw [hshift] at hle'
    omega
  · intro b hb
    have h := colsum (C.getD b 0)
    have h40 := h4 (C.getD b 0) (hCm b hb)
    rw [h40] at h
    have h' : sumI k (fun a => (A (R.getD a 0) (C.getD b 0) + 10) * (e * xcI k (partM A R C) a)) = e * di := by
      have : ((sumI k (fun a => (A (R.getD a 0) (C.getD b 0) + 10) * (e * xcI k (partM A R C) a)) : Int) : Rat) = ((e * di : Int) : Rat) := by rw [h]; grind
      exact_mod_cast this
    rw [hshift] at h'
    omega
  · intro i hi
    have h := rowsum i
    have h10 := h1 i hi
    have hle : ((sumI k (fun b => (A i (C.getD b 0) + 10) * (e * ycI k (partM A R C) b)) : Int) : Rat) ≤ ((e * di : Int) : Rat) := by
      rw [h]
      have := Rat.mul_le_mul_of_nonneg_left h10 (Rat.le_of_lt hcR)
      grind
    have hle' : sumI k (fun b => (A i (C.getD b 0) + 10) * (e * ycI k (partM A R C) b)) ≤ e * di := by exact_mod_cast hle
    rw [hshift, hS] at hle'
    omega
  · intro a ha
    have h := rowsum (R.getD a 0)
    have h20 := h2 (R.getD a 0) (hRm a ha)
    rw [h20] at h
    have h' : sumI k (fun b => (A (R.getD a 0) (C.getD b 0) + 10) * (e * ycI k (partM A R C) b)) = e * di := by
      have : ((sumI k (fun b => (A (R.getD a 0) (C.getD b 0) + 10) * (e * ycI k (partM A R C) b)) : Int) : Rat) = ((e * di : Int) : Rat) := by rw [h]; grind
      exact_mod_cast this
    rw [hshift, hS] at h'
    omega
end Go.Proofs.YtlmaeadbomnhlaaGreat

namespace Go.Proofs.YtlmaeadbomnhlaaGreat
set_option linter.unusedSimpArgs false
set_option linter.unusedVariables false
def selRow (Q : Nat → Bool) (F : Nat → Int) : Nat → List Int
  | 0 => []
  | k + 1 => if Q k = true then selRow Q F k ++ [F k] else selRow Q F k
def selTab (P : Nat → Bool) (F : Nat → List Int) : Nat → List (List Int)
  | 0 => []
  | k + 1 => if P k = true then selTab P F k ++ [F k] else selTab P F k
def sel (P : Nat → Bool) (k : Nat) : List Nat := (List.range k).filter P
def cnt (P : Nat → Bool) : Nat → Nat
  | 0 => 0
  | k + 1 => if P k = true then cnt P k + 1 else cnt P k
theorem sel_succ (P : Nat → Bool) (k : Nat) : sel P (k + 1) = if P k = true then sel P k ++ [k] else sel P k := by
  unfold sel
  rw [List.range_succ, List.filter_append]
  by_cases h : P k = true
  · rw [if_pos h]; simp [h]
  · rw [if_neg h]; simp [h]
theorem sel_length (P : Nat → Bool) (k : Nat) : (sel P k).length = cnt P k := by
  induction k with
  | zero => rfl
  | succ k ih => rw [sel_succ]; simp only [cnt]; split <;> simp [ih]
theorem cnt_le (P : Nat → Bool) (k : Nat) : cnt P k ≤ k := by
  induction k with
  | zero => exact Nat.le_refl _
  | succ k ih => simp only [cnt]; split <;> omega
theorem selRow_map (Q : Nat → Bool) (F : Nat → Int) (k : Nat) : selRow Q F k = (sel Q k).map F := by
  induction k with
  | zero => rfl
  | succ k ih => rw [sel_succ]; simp only [selRow]; split <;> simp [ih]
theorem selTab_map (P : Nat → Bool) (F : Nat → List Int) (k : Nat) : selTab P F k = (sel P k).map F := by
  induction k with
  | zero => rfl
  | succ k ih => rw [sel_succ]; simp only [selTab]; split <;> simp [ih]
theorem selRow_length (Q : Nat → Bool) (F : Nat → Int) (k : Nat) : (selRow Q F k).length = cnt Q k := by rw [selRow_map, List.length_map, sel_length]
theorem selTab_length (P : Nat → Bool) (F : Nat → List Int) (k : Nat) : (selTab P F k).length = cnt P k := by rw [selTab_map, List.length_map, sel_length]
theorem selRow_yes {Q : Nat → Bool} {F : Nat → Int} {k : Nat} (h : Q k = true) : selRow Q F (k + 1) = selRow Q F k ++ [F k] := by simp [selRow, h]
theorem selRow_no {Q : Nat → Bool} {F : Nat → Int} {k : Nat} (h : Q k = false) : selRow Q F (k + 1) = selRow Q F k := by simp [selRow, h]
theorem selTab_yes {P : Nat → Bool} {F : Nat → List Int} {k : Nat} (h : P k = true) : selTab P F (k + 1) = selTab P F k ++ [F k] := by simp [selTab, h]
theorem selTab_no {P : Nat → Bool} {F : Nat → List Int} {k : Nat} (h : P k = false) : selTab P F (k + 1) = selTab P F k := by simp [selTab, h]
theorem cnt_yes {P : Nat → Bool} {k : Nat} (h : P k = true) : cnt P (k + 1) = cnt P k + 1 := by simp [cnt, h]
theorem cnt_no {P : Nat → Bool} {k : Nat} (h : P k = false) : cnt P (k + 1) = cnt P k := by simp [cnt, h]
theorem cnt_mono (P : Nat → Bool) {i k : Nat} (h : i ≤ k) : cnt P i ≤ cnt P k := by
  induction k with
  | zero => have : i = 0 := (by omega); rw [this]; exact Nat.le_refl _
  | succ k ih =>
    rcases Nat.lt_or_eq_of_le h with h1 | rfl
    · have := ih (by omega); simp only [cnt]; split <;> omega
    · exact Nat.le_refl _
theorem sel_cnt {P : Nat → Bool} {i k : Nat} (hi : i < k) (h : P i = true) : (sel P k).getD (cnt P i) 0 = i := by
  induction k with
  | zero => omega
  | succ k ih =>
    rw [sel_succ]
    by_cases e : i = k
    · subst e; rw [if_pos h]
      have : cnt P i = (sel P i).length := (sel_length P i).symm
      rw [this]; simp
    · have h1 := ih (by omega)
      have h2 : cnt P i < (sel P k).length := by
        rw [sel_length]
        have := cnt_mono P (i := i + 1) (k := k) (by omega)
        rw [cnt_yes h] at this; omega
      split
      · rw [List.getD_eq_getElem?_getD, List.getElem?_append_left h2, ← List.getD_eq_getElem?_getD]; exact h1
      · exact h1
theorem sel_mem {P : Nat → Bool} {k i : Nat} : i ∈ sel P k ↔ i < k ∧ P i = true := by simp [sel]
theorem sel_at {P : Nat → Bool} {k a : Nat} (ha : a < cnt P k) : (sel P k).getD a 0 < k ∧ P ((sel P k).getD a 0) = true ∧ cnt P ((sel P k).getD a 0) = a := by
  induction k with
  | zero => simp [cnt] at ha
  | succ k ih =>
    rw [sel_succ]
    by_cases h : P k = true
    · rw [cnt_yes h] at ha
      rw [if_pos h]
      by_cases e : a = cnt P k
      · have : a = (sel P k).length := by rw [sel_length]; exact e
        subst e
        rw [this]
        simp [h, sel_length]
      · have h2 : a < (sel P k).length := by rw [sel_length]; omega
        rw [List.getD_eq_getElem?_getD, List.getElem?_append_left h2, ← List.getD_eq_getElem?_getD]
        obtain ⟨h3, h4, h5⟩ := ih (by omega)
        exact ⟨by omega, h4, h5⟩
    · have h' : P k = false := by simpa using h
      rw [cnt_no h'] at ha
      rw [if_neg h]
      obtain ⟨h3, h4, h5⟩ := ih ha
      exact ⟨by omega, h4, h5⟩
def woL (m : List (List Int)) (a b : Nat) : List (List Int) := selTab (fun i => i != a) (fun i => selRow (fun j => j != b) (nth (rowAt m i)) m.length) m.length
theorem cnt_ne (a k : Nat) : cnt (fun i => i != a) k = if a < k then k - 1 else k := by
  induction k with
  | zero => rfl
  | succ k ih =>
    simp only [cnt, ih]
    by_cases h : k = a
    · subst h; simp
    · by_cases h2 : a < k
      · simp [h, h2, show a < k + 1 by omega]; omega
      · simp [h, h2, show ¬ a < k + 1 by omega]
theorem woL_length {m : List (List Int)} {a : Nat} (b : Nat) (h : a < m.length) : (woL m a b).length = m.length - 1 := by
  unfold woL; rw [selTab_length, cnt_ne, if_pos h]
theorem sel_ne {a k i : Nat} (ha : a < k) (hi : i < k - 1) : (sel (fun i => i != a) k).getD i 0 = if i < a then i else i + 1 := by
  have hc : cnt (fun i => i != a) (if i < a then i else i + 1) = i := by rw [cnt_ne]; split <;> split <;> omega
  have := sel_cnt (P := fun i => i != a) (k := k) (i := if i < a then i else i + 1) (by split <;> omega) (by split <;> simp <;> omega)
  rw [hc] at this; exact this
theorem rowAt_map (F : Nat → List Int) (l : List Nat) (i : Nat) (h : i < l.length) : rowAt (l.map F) i = F (l.getD i 0) := by
  rw [rowAt_eq _ _ (by simpa using h)]; simp [List.getD, h]
theorem nth_mapN (F : Nat → Int) (l : List Nat) (i : Nat) (h : i < l.length) : nth (l.map F) i = F (l.getD i 0) := by
  rw [nth_eq _ _ (by simpa using h)]; simp [List.getD, h]
theorem woL_row {m : List (List Int)} {a b i : Nat} (ha : a < m.length) (hi : i < m.length - 1) : rowAt (woL m a b) i = selRow (fun j => j != b) (nth (rowAt m (if i < a then i else i + 1))) m.length := by
  unfold woL
  rw [selTab_map, rowAt_map _ _ _ (by rw [sel_length, cnt_ne, if_pos ha]; exact hi), sel_ne ha hi]
theorem woL_row_length {m : List (List Int)} {a b i : Nat} (ha : a < m.length) (hb : b < m.length) (hi : i < m.length - 1) : (rowAt (woL m a b) i).length = m.length - 1 := by
  rw [woL_row ha hi, selRow_length, cnt_ne, if_pos hb]
theorem nth_woL {m : List (List Int)} {a b i j : Nat} (ha : a < m.length) (hb : b < m.length) (hi : i < m.length - 1) (hj : j < m.length - 1) : nth (rowAt (woL m a b) i) j = woI (fun i j => nth (rowAt m i) j) a b i j := by
  rw [woL_row ha hi, selRow_map, nth_mapN _ _ _ (by rw [sel_length, cnt_ne, if_pos hb]; exact hj), sel_ne hb hj]
  rfl
structure Square (m : List (List Int)) (k : Nat) : Prop where
  len : m.length = k
  row : ∀ i, i < k → (rowAt m i).length = k
  lo : ∀ i j, i < k → j < k → -9 ≤ nth (rowAt m i) j
  hi : ∀ i j, i < k → j < k → nth (rowAt m i) j ≤ 9
theorem Square.wo {m : List (List Int)} {k a b : Nat} (h : Square m (k + 1)) (ha : a < k + 1) (hb : b < k + 1) : Square (woL m a b) k := by
  have e := h.len
  have ha' : a < m.length := by omega
  have hb' : b < m.length := by omega
  refine ⟨by rw [woL_length b ha']; omega, fun i hi => by rw [woL_row_length ha' hb' (by omega)]; omega, fun i j hi hj => ?_, fun i j hi hj => ?_⟩ <;> rw [nth_woL ha' hb' (by omega) (by omega)] <;> unfold woI
  · exact h.lo _ _ (by split <;> omega) (by split <;> omega)
  · exact h.hi _ _ (by split <;> omega) (by split <;> omega)
theorem sumI_congr {k : Nat} {f g : Nat → Int} (h : ∀ a, a < k → f a = g a) : sumI k f = sumI k g := by
  induction k with
  | zero => rfl
  | succ k ih => simp only [sumI]; rw [ih (fun a ha => h a (by omega)), h k (by omega)]
theorem detI_congr {k : Nat} : ∀ {M M' : Nat → Nat → Int}, (∀ i j, i < k → j < k → M i j = M' i j) → detI k M = detI k M' := by
  induction k with
  | zero => intro M M' _; rfl
  | succ k ih =>
    intro M M' h
    unfold detI
    refine sumI_congr (fun j hj => ?_)
    rw [h 0 j (by omega) hj, ih (M := woI M 0 j) (M' := woI M' 0 j) (fun a b ha hb => by unfold woI; exact h _ _ (by split <;> omega) (by split <;> omega))]
theorem sumI_bd (k : Nat) (f : Nat → Int) (B : Int) (h : ∀ a, a < k → -B ≤ f a ∧ f a ≤ B) : -(B * k) ≤ sumI k f ∧ sumI k f ≤ B * k := by
  induction k with
  | zero => simp [sumI]
  | succ k ih =>
    have h1 := ih (fun a ha => h a (by omega))
    have h2 := h k (by omega)
    have e : B * ((k + 1 : Nat) : Int) = B * (k : Int) + B := by rw [Int.natCast_add, Int.mul_add]; simp
    simp only [sumI]; rw [e]; omega
def detB : Nat → Int
  | 0 => 1
  | k + 1 => 9 * detB k * ((k + 1 : Nat) : Int)
theorem detB_pos : ∀ k, 0 < detB k
  | 0 => by decide
  | k + 1 => by
    have h := detB_pos k
    unfold detB
    exact Int.mul_pos (Int.mul_pos (by decide) h) (by omega)
theorem detI_bd : ∀ (k : Nat) (M : Nat → Nat → Int), (∀ i j, i < k → j < k → -9 ≤ M i j ∧ M i j ≤ 9) → -(detB k) ≤ detI k M ∧ detI k M ≤ detB k
  | 0, M, _ => by simp [detI, detB]
  | k + 1, M, h => by
    unfold detI detB
    refine sumI_bd _ _ _ (fun j hj => ?_)
    have h1 := detI_bd k (woI M 0 j) (fun a b ha hb => by unfold woI; exact h _ _ (by split <;> omega) (by split <;> omega))
    have h2 := h 0 j (by omega) hj
    have hp := detB_pos k
    generalize detI k (woI M 0 j) = d at *
    generalize M 0 j = x at *
    generalize detB k = B at *
    have key : ∀ y : Int, -9 ≤ y → y ≤ 9 → -(9 * B) ≤ y * d ∧ y * d ≤ 9 * B := fun y y1 y2 => by
      by_cases hy : 0 ≤ y
      · have a1 : y * d ≤ y * B := Int.mul_le_mul_of_nonneg_left h1.2 hy
        have a2 : y * (-B) ≤ y * d := Int.mul_le_mul_of_nonneg_left h1.1 hy
        have a3 : y * B ≤ 9 * B := Int.mul_le_mul_of_nonneg_right y2 (by omega)
        rw [Int.mul_neg] at a2; omega
      · have a1 : (-y) * d ≤ (-y) * B := Int.mul_le_mul_of_nonneg_left h1.2 (by omega)
        have a2 : (-y) * (-B) ≤ (-y) * d := Int.mul_le_mul_of_nonneg_left h1.1 (by omega)
        have a3 : (-y) * B ≤ 9 * B := Int.mul_le_mul_of_nonneg_right (by omega) (by omega)
        rw [Int.mul_neg, Int.neg_mul, Int.neg_mul] at a2
        rw [Int.neg_mul] at a1 a3
        rw [Int.neg_mul] at a1
        omega
    unfold sgI
    split
    · rw [Int.one_mul]; exact key x h2.1 h2.2
    · have := key (-x) (by omega) (by omega)
      have e : -1 * x * d = (-x) * d := by rw [Int.neg_mul, Int.one_mul]
      rw [e]; exact this
def detL (m : List (List Int)) : Int := detI m.length (fun i j => nth (rowAt m i) j)
end Go.Proofs.YtlmaeadbomnhlaaGreat
