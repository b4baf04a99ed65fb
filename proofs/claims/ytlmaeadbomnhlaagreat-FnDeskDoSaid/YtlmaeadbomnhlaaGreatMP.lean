/- Texts in one: Worse, Wmath. -/
import Derived.Test.YtlmaeadbomnhlaaGreatMF
namespace Go.Proofs.YtlmaeadbomnhlaaGreat
set_option linter.unusedSimpArgs false
set_option linter.unusedVariables false
open Go.RowKit
def woRow (g : List (List Int)) (a : Nat) : List (List Int) := selTab (fun i => i != a) (rowAt g) g.length
theorem woRow_length {g : List (List Int)} {a : Nat} (ha : a < g.length) : (woRow g a).length = g.length - 1 := by
  unfold woRow; rw [selTab_length, cnt_ne, if_pos ha]
theorem woRow_row {g : List (List Int)} {a i : Nat} (ha : a < g.length) (hi : i < g.length - 1) : rowAt (woRow g a) i = rowAt g (if i < a then i else i + 1) := by
  unfold woRow
  rw [selTab_map, rowAt_map _ _ _ (by rw [sel_length, cnt_ne, if_pos ha]; exact hi), sel_ne ha hi]
theorem woRow_has {g : List (List Int)} {a i : Nat} (ha : a < g.length) (hi : i < g.length) (hne : i ≠ a) : ∃ k, k < (woRow g a).length ∧ rowAt (woRow g a) k = rowAt g i := by
  rw [woRow_length ha]
  by_cases h : i < a
  · exact ⟨i, by omega, by rw [woRow_row ha (by omega), if_pos h]⟩
  · exact ⟨i - 1, by omega, by rw [woRow_row ha (by omega), if_neg (by omega)]; congr 1; omega⟩
theorem woRow_game {g : List (List Int)} {m a : Nat} (hg : Game g m) (h2 : 2 ≤ g.length) (ha : a < g.length) : Game (woRow g a) m := by
  have hl := woRow_length ha
  have hi := hg.hi
  refine ⟨by omega, by omega, hg.mlo, hg.mhi, fun i hi => ?_, fun i hi j hj => ?_, fun i hi j hj => ?_⟩ <;> rw [woRow_row ha (by omega)]
  · exact hg.len _ (by split <;> omega)
  · exact hg.nlo _ (by split <;> omega) j hj
  · exact hg.nhi _ (by split <;> omega) j hj
theorem woRow_cols {g : List (List Int)} {a : Nat} (hg : Game g (rowAt g 0).length) (h2 : 2 ≤ g.length) (ha : a < g.length) : (rowAt (woRow g a) 0).length = (rowAt g 0).length :=
  (woRow_game hg h2 ha).len 0 (by rw [woRow_length ha]; omega)
theorem rowD_row {g h : List (List Int)} {i k : Nat} (y : List Int) (e : rowAt h k = rowAt g i) : rowD h y k = rowD g y i := by unfold rowD; rw [e]
theorem risk_wo_le {g : List (List Int)} {a : Nat} (y : List Int) (h2 : 2 ≤ g.length) (ha : a < g.length) : riskN (woRow g a) y ≤ riskN g y := by
  have hl := woRow_length ha
  obtain ⟨i, hi, e⟩ := highN_at (rowsD (woRow g a) y) (k := (woRow g a).length) (by omega)
  unfold riskN
  rw [e, nth_rowsD _ _ i hi, rowD_row (g := g) (i := if i < a then i else i + 1) y (woRow_row ha (by omega)), ← nth_rowsD g y _ (by split <;> omega)]
  exact le_highN _ (by split <;> omega)
theorem risk_le_wo {g : List (List Int)} {a b : Nat} {y : List Int} (hg : Game g (rowAt g 0).length) (hy : Mix y (rowAt g 0).length) (h2 : 2 ≤ g.length) (ha : a < g.length) (hb : b < g.length) (hne : b ≠ a) (hw : ∀ j, j < (rowAt g 0).length → nth (rowAt g a) j ≤ nth (rowAt g b) j) : riskN g y ≤ riskN (woRow g a) y := by
  have there : ∀ i, i < g.length → i ≠ a → rowD g y i ≤ riskN (woRow g a) y := fun i hi hi' => by
    obtain ⟨k, hk, e⟩ := woRow_has ha hi hi'
    rw [← rowD_row y e, ← nth_rowsD _ _ k hk]; exact le_highN _ hk
  obtain ⟨i, hi, e⟩ := highN_at (rowsD g y) (k := g.length) (by omega)
  show highN (rowsD g y) g.length ≤ _
  rw [e, nth_rowsD _ _ i hi]
  by_cases hia : i = a
  · subst hia
    refine Int.le_trans ?_ (there b hb hne)
    unfold rowD
    have key : ∀ k, k ≤ (rowAt g 0).length → dotW y (rowAt g i) k ≤ dotW y (rowAt g b) k := fun k => by
      induction k with
      | zero => intro _; exact Int.le_refl _
      | succ k ih =>
        intro hk
        have h1 := ih (by omega)
        have h3 := hw k (by omega)
        have h4 := hy.wlo k (by omega)
        have h5 := Int.mul_le_mul_of_nonneg_left h3 h4
        simp only [dotW]; omega
    exact key _ (by rw [hy.len]; exact Nat.le_refl _)
  · exact there i hi hia
theorem sol_wo_le {g : List (List Int)} {a : Nat} (h : solB g = true) (h2 : 2 ≤ g.length) (ha : a < g.length) : solB (woRow g a) = true ∧ solU (woRow g a) * solD g ≤ solU g * solD (woRow g a) := by
  obtain ⟨hb, h4, hn4, k, e1, e2⟩ := sol_parts h
  have hg := Game.of hb
  have hl := woRow_length ha
  have hg' := woRow_game hg h2 ha
  have hc := woRow_cols hg h2 ha
  have hs : solB (woRow g a) = true := sol_iff.2 ⟨by rw [← hc] at hg'; exact hg'.to.1, by omega, by rw [hc]; exact hn4⟩
  refine ⟨hs, ?_⟩
  obtain ⟨_, _, _, k', e1', e2'⟩ := sol_parts hs
  obtain ⟨s1, s2, s3, s4⟩ := set_of k
  obtain ⟨t1, _, _, _⟩ := set_of k'
  have my : Mix (solY g) (rowAt g 0).length := (risB_iff.1 s2).2
  have mx : Mix (solX (woRow g a)) (woRow g a).length := (safB_iff.1 t1).2
  have hw := weak hg' mx my
  have hr := risk_wo_le (a := a) (solY g) h2 ha
  rw [e1, e2, e1', e2', s3, s4]
  simp only [safU, safD, risU, risD, s2, t1, if_true]
  rw [my.len, mx.len]
  refine low_le my.sum_bd.1 mx.sum_bd.1 ?_
  exact Int.le_trans hw (Int.mul_le_mul_of_nonneg_right hr (by have := mx.sum_bd.1; omega))
theorem sol_wo_eq {g : List (List Int)} {a b : Nat} (h : solB g = true) (h2 : 2 ≤ g.length) (ha : a < g.length) (hb : b < g.length) (hne : b ≠ a) (hw : ∀ j, j < (rowAt g 0).length → nth (rowAt g a) j ≤ nth (rowAt g b) j) :
    solU (woRow g a) = solU g ∧ solD (woRow g a) = solD g := by
  obtain ⟨hs, hle⟩ := sol_wo_le h h2 ha
  have o1 := okB_iff.1 (sol_okB h)
  have o2 := okB_iff.1 (sol_okB hs)
  obtain ⟨hbb, h4, hn4, k, e1, e2⟩ := sol_parts h
  have hg := Game.of hbb
  have hc := woRow_cols hg h2 ha
  obtain ⟨_, _, _, k', e1', e2'⟩ := sol_parts hs
  obtain ⟨s1, _, _, _⟩ := set_of k
  obtain ⟨_, t2, t3, t4⟩ := set_of k'
  have mx : Mix (solX g) g.length := (safB_iff.1 s1).2
  have my : Mix (solY (woRow g a)) (rowAt g 0).length := by rw [← hc]; exact (risB_iff.1 t2).2
  have hwk := weak hg mx my
  have hr := risk_le_wo hg my h2 ha hb hne hw
  have hge : solU g * solD (woRow g a) ≤ solU (woRow g a) * solD g := by
    rw [e1, e2, e1', e2', t3, t4]
    simp only [safU, safD, risU, risD, s1, t2, if_true]
    rw [my.len, mx.len]
    refine low_le my.sum_bd.1 mx.sum_bd.1 ?_
    exact Int.le_trans hwk (Int.mul_le_mul_of_nonneg_right hr (by have := mx.sum_bd.1; omega))
  exact cross_eq o2.2.2.1 o1.2.2.1 o2.2.2.2.2 o1.2.2.2.2 (Int.le_antisymm hle hge)
def woCol (g : List (List Int)) (b : Nat) : List (List Int) := turned (woRow (turned g) b)
theorem turned_yes {g : List (List Int)} (h : gameB g = true) : turned g = turnedL g := by unfold turned; rw [if_pos h]
theorem turned_length {g : List (List Int)} (h : gameB g = true) : (turned g).length = (rowAt g 0).length := by rw [turned_yes h, turnedL_length]
theorem turned_cols {g : List (List Int)} (h : gameB g = true) : (rowAt (turned g) 0).length = g.length := by
  have hg := Game.of h
  rw [turned_yes h]; exact turnedL_row_length g 0 hg.mlo
theorem nth_turned {g : List (List Int)} (h : gameB g = true) {j i : Nat} (hj : j < (rowAt g 0).length) (hi : i < g.length) : nth (rowAt (turned g) j) i = -nth (rowAt g i) j := by rw [turned_yes h, nth_turnedL g j i hj hi]
theorem sol_woC_le {g : List (List Int)} {b : Nat} (h : solB g = true) (h2 : 2 ≤ (rowAt g 0).length) (hb : b < (rowAt g 0).length) : solB (woCol g b) = true ∧ solU g * solD (woCol g b) ≤ solU (woCol g b) * solD g := by
  have hbb := (sol_iff.1 h).1
  obtain ⟨t1, t2, t3⟩ := sol_turned h
  have hl := turned_length hbb
  obtain ⟨w1, w2⟩ := sol_wo_le (a := b) t1 (by rw [hl]; exact h2) (by rw [hl]; exact hb)
  obtain ⟨u1, u2, u3⟩ := sol_turned w1
  refine ⟨u1, ?_⟩
  show solU g * solD (turned (woRow (turned g) b)) ≤ solU (turned (woRow (turned g) b)) * solD g
  rw [u2, u3]
  rw [t2, t3] at w2
  rw [Int.neg_mul] at w2 ⊢
  omega
theorem sol_woC_eq {g : List (List Int)} {b c : Nat} (h : solB g = true) (h2 : 2 ≤ (rowAt g 0).length) (hb : b < (rowAt g 0).length) (hc : c < (rowAt g 0).length) (hne : c ≠ b) (hw : ∀ i, i < g.length → nth (rowAt g i) c ≤ nth (rowAt g i) b) :
    solU (woCol g b) = solU g ∧ solD (woCol g b) = solD g := by
  have hbb := (sol_iff.1 h).1
  obtain ⟨t1, t2, t3⟩ := sol_turned h
  have hl := turned_length hbb
  have hcl := turned_cols hbb
  obtain ⟨w1, _⟩ := sol_wo_le (a := b) t1 (by rw [hl]; exact h2) (by rw [hl]; exact hb)
  obtain ⟨e1, e2⟩ := sol_wo_eq (a := b) (b := c) t1 (by rw [hl]; exact h2) (by rw [hl]; exact hb) (by rw [hl]; exact hc) hne (fun i hi => by
    rw [hcl] at hi
    rw [nth_turned hbb hb hi, nth_turned hbb hc hi]; have := hw i hi; omega)
  obtain ⟨u1, u2, u3⟩ := sol_turned w1
  exact ⟨by show solU (turned (woRow (turned g) b)) = _; rw [u2, e1, t2]; omega, by show solD (turned (woRow (turned g) b)) = _; rw [u3, e2, t3]⟩
end Go.Proofs.YtlmaeadbomnhlaaGreat

namespace Go.Proofs.YtlmaeadbomnhlaaGreat
set_option linter.unusedSimpArgs false
set_option linter.unusedVariables false
open Go.RowKit
def inPl (a : Int) (n : Nat) : Bool := decide (0 ≤ a) && decide (a < (n : Int))
theorem inPl_iff {a : Int} {n : Nat} : inPl a n = true ↔ 0 ≤ a ∧ a < (n : Int) := by simp [inPl]
def noBet (bet : Int → Int → Bool) (x y : List Int) : Nat → Bool
  | 0 => true
  | k + 1 => noBet bet x y k && !bet (nth x k) (nth y k)
theorem noBet_iff {bet : Int → Int → Bool} {x y : List Int} {k : Nat} : noBet bet x y k = true ↔ ∀ i, i < k → bet (nth x i) (nth y i) = false := by
  induction k with
  | zero => simp [noBet]
  | succ k ih =>
    simp only [noBet, Bool.and_eq_true, ih]
    constructor
    · rintro ⟨h1, h2⟩ i hi
      by_cases e : i = k
      · subst e; cases hh : bet (nth x i) (nth y i) <;> simp_all
      · exact h1 i (by omega)
    · intro h
      exact ⟨fun i hi => h i (by omega), by rw [h k (by omega)]; rfl⟩
theorem noBet_no {bet : Int → Int → Bool} {x y : List Int} {k n : Nat} (h : bet (nth x k) (nth y k) = true) (hk : k < n) : noBet bet x y n = false := by
  cases e : noBet bet x y n with
  | false => rfl
  | true => rw [noBet_iff.1 e k hk] at h; cases h
def lineB (bet : Int → Int → Bool) (g : List (List Int)) (a b : Int) : Bool :=
  !decide (a = b) && inPl a g.length && inPl b g.length && noBet bet (rowAt g a.toNat) (rowAt g b.toNat) (rowAt g a.toNat).length
theorem lineB_iff {bet : Int → Int → Bool} {g : List (List Int)} {a b : Int} : lineB bet g a b = true ↔ a ≠ b ∧ (0 ≤ a ∧ a < (g.length : Int)) ∧ (0 ≤ b ∧ b < (g.length : Int)) ∧ ∀ i, i < (rowAt g a.toNat).length → bet (nth (rowAt g a.toNat) i) (nth (rowAt g b.toNat) i) = false := by
  unfold lineB
  rw [Bool.and_eq_true, Bool.and_eq_true, Bool.and_eq_true, inPl_iff, inPl_iff, noBet_iff]
  simp only [Bool.not_eq_true', decide_eq_false_iff_not, and_assoc, ne_eq]
theorem lineB_self (bet : Int → Int → Bool) (g : List (List Int)) (a : Int) : lineB bet g a a = false := by simp [lineB]
theorem lineB_out {bet : Int → Int → Bool} {g : List (List Int)} {a b : Int} (h : (!decide (a = b) && inPl a g.length && inPl b g.length) = false) : lineB bet g a b = false := by
  unfold lineB; rw [h]; rfl
theorem lineB_in {bet : Int → Int → Bool} {g : List (List Int)} {a b : Int} (h : (!decide (a = b) && inPl a g.length && inPl b g.length) = true) : lineB bet g a b = noBet bet (rowAt g a.toNat) (rowAt g b.toNat) (rowAt g a.toNat).length := by
  unfold lineB; rw [h]; rfl
theorem lineB_nat {bet : Int → Int → Bool} {g : List (List Int)} {a b : Nat} : lineB bet g (a : Int) (b : Int) = true ↔ a ≠ b ∧ a < g.length ∧ b < g.length ∧ ∀ i, i < (rowAt g a).length → bet (nth (rowAt g a) i) (nth (rowAt g b) i) = false := by
  rw [lineB_iff]
  simp only [Int.toNat_natCast]
  constructor
  · rintro ⟨h1, h2, h3, h4⟩; exact ⟨by omega, by omega, by omega, h4⟩
  · rintro ⟨h1, h2, h3, h4⟩; exact ⟨by omega, by omega, by omega, h4⟩
def wrB (g : List (List Int)) (a b : Int) : Bool := gameB g && lineB gtB g a b
def wcB (g : List (List Int)) (a b : Int) : Bool := gameB g && lineB ltB (cols g) a b
theorem gtB_false {x y : Int} : gtB x y = false ↔ x ≤ y := by simp [gtB]
theorem ltB_false {x y : Int} : ltB x y = false ↔ y ≤ x := by simp [ltB]
theorem wrB_iff {g : List (List Int)} {a b : Int} : wrB g a b = true ↔ gameB g = true ∧ a ≠ b ∧ (0 ≤ a ∧ a < (g.length : Int)) ∧ (0 ≤ b ∧ b < (g.length : Int)) ∧ ∀ i, i < (rowAt g 0).length → nth (rowAt g a.toNat) i ≤ nth (rowAt g b.toNat) i := by
  unfold wrB
  rw [Bool.and_eq_true, lineB_iff]
  simp only [gtB_false]
  constructor
  · rintro ⟨h0, h1, h2, h3, h4⟩
    rw [(Game.of h0).len a.toNat (by omega)] at h4
    exact ⟨h0, h1, h2, h3, h4⟩
  · rintro ⟨h0, h1, h2, h3, h4⟩
    rw [(Game.of h0).len a.toNat (by omega)]
    exact ⟨h0, h1, h2, h3, h4⟩
theorem wrB_line {g : List (List Int)} (h : gameB g = true) (a b : Int) : wrB g a b = lineB gtB g a b := by simp [wrB, h]
theorem wcB_line {g : List (List Int)} (h : gameB g = true) (a b : Int) : wcB g a b = lineB ltB (cols g) a b := by simp [wcB, h]
theorem wcB_iff {g : List (List Int)} {a b : Int} : wcB g a b = true ↔ gameB g = true ∧ a ≠ b ∧ (0 ≤ a ∧ a < ((rowAt g 0).length : Int)) ∧ (0 ≤ b ∧ b < ((rowAt g 0).length : Int)) ∧ ∀ i, i < g.length → nth (rowAt g i) b.toNat ≤ nth (rowAt g i) a.toNat := by
  unfold wcB
  rw [Bool.and_eq_true, lineB_iff, cols_length]
  simp only [ltB_false]
  constructor
  · rintro ⟨h0, h1, h2, h3, h4⟩
    rw [rowAt_cols g a.toNat (by omega), rowAt_cols g b.toNat (by omega), col_length] at h4
    exact ⟨h0, h1, h2, h3, fun i hi => by have := h4 i hi; rwa [nth_col g _ i hi, nth_col g _ i hi] at this⟩
  · rintro ⟨h0, h1, h2, h3, h4⟩
    rw [rowAt_cols g a.toNat (by omega), rowAt_cols g b.toNat (by omega), col_length]
    exact ⟨h0, h1, h2, h3, fun i hi => by rw [nth_col g _ i hi, nth_col g _ i hi]; exact h4 i hi⟩
theorem turned_gameB {g : List (List Int)} (h : gameB g = true) : gameB (turned g) = true := by
  rw [turned_yes h]; exact (turned_game (Game.of h)).to.1
theorem turned_no {g : List (List Int)} (h : gameB g = false) : turned g = [] := by unfold turned; rw [if_neg (by rw [h]; decide)]
theorem gameB_nil : gameB [] = false := rfl
theorem wcB_turned (g : List (List Int)) (a b : Int) : wcB g a b = wrB (turned g) a b := by
  rcases h : gameB g with _ | _
  · rw [turned_no h]; unfold wcB wrB; rw [h, gameB_nil]; rfl
  · rw [Bool.eq_iff_iff, wcB_iff, wrB_iff, turned_length h, turned_cols h]
    constructor
    · rintro ⟨_, h1, h2, h3, h4⟩
      exact ⟨turned_gameB h, h1, h2, h3, fun i hi => by rw [nth_turned h (by omega) hi, nth_turned h (by omega) hi]; have := h4 i hi; omega⟩
    · rintro ⟨_, h1, h2, h3, h4⟩
      exact ⟨h, h1, h2, h3, fun i hi => by have := h4 i hi; rw [nth_turned h (by omega) hi, nth_turned h (by omega) hi] at this; omega⟩
theorem wrB_self (g : List (List Int)) (a : Int) : wrB g a a = false := by unfold wrB; rw [lineB_self]; simp
theorem wrB_has {g : List (List Int)} {a b : Int} (h : wrB g a b = true) : ∃ i j : Nat, a = i ∧ b = j ∧ i < g.length ∧ j < g.length ∧ j ≠ i ∧ ∀ k, k < (rowAt g 0).length → nth (rowAt g i) k ≤ nth (rowAt g j) k := by
  obtain ⟨_, a1, a2, a3, a4⟩ := wrB_iff.1 h
  exact ⟨a.toNat, b.toNat, by omega, by omega, by omega, by omega, by omega, a4⟩
theorem wcB_has {g : List (List Int)} {a b : Int} (h : wcB g a b = true) : ∃ i j : Nat, a = i ∧ b = j ∧ i < (rowAt g 0).length ∧ j < (rowAt g 0).length ∧ j ≠ i ∧ ∀ k, k < g.length → nth (rowAt g k) j ≤ nth (rowAt g k) i := by
  obtain ⟨_, a1, a2, a3, a4⟩ := wcB_iff.1 h
  exact ⟨a.toNat, b.toNat, by omega, by omega, by omega, by omega, by omega, a4⟩
def woRB (g : List (List Int)) (a : Int) : Bool := gameB g && decide (2 ≤ g.length) && inPl a g.length
def woRT (g : List (List Int)) (a : Int) : List (List Int) := if woRB g a = true then woRow g a.toNat else []
def woCB (g : List (List Int)) (a : Int) : Bool := gameB g && decide (2 ≤ (rowAt g 0).length) && inPl a (rowAt g 0).length
def woCT (g : List (List Int)) (a : Int) : List (List Int) := if woCB g a = true then woCol g a.toNat else []
theorem woRB_iff {g : List (List Int)} {a : Int} : woRB g a = true ↔ gameB g = true ∧ 2 ≤ g.length ∧ 0 ≤ a ∧ a < (g.length : Int) := by
  unfold woRB; rw [Bool.and_eq_true, Bool.and_eq_true, inPl_iff, decide_eq_true_eq, and_assoc]
theorem woCB_iff {g : List (List Int)} {a : Int} : woCB g a = true ↔ gameB g = true ∧ 2 ≤ (rowAt g 0).length ∧ 0 ≤ a ∧ a < ((rowAt g 0).length : Int) := by
  unfold woCB; rw [Bool.and_eq_true, Bool.and_eq_true, inPl_iff, decide_eq_true_eq, and_assoc]
theorem woCB_turned (g : List (List Int)) (h : gameB g = true) (a : Int) : woCB g a = woRB (turned g) a := by
  rw [Bool.eq_iff_iff, woCB_iff, woRB_iff, turned_length h]; simp [h, turned_gameB h]
def woColL (g : List (List Int)) (b : Nat) : List (List Int) := g.map fun r => selRow (fun j => j != b) (nth r) r.length
theorem woColL_length (g : List (List Int)) (b : Nat) : (woColL g b).length = g.length := by simp [woColL]
theorem rowAt_woColL (g : List (List Int)) (b i : Nat) (h : i < g.length) : rowAt (woColL g b) i = selRow (fun j => j != b) (nth (rowAt g i)) (rowAt g i).length := by
  simp [woColL, rowAt, h]
theorem nth_selRow_ne {F : Nat → Int} {b n i : Nat} (hb : b < n) (hi : i < n - 1) : nth (selRow (fun j => j != b) F n) i = F (if i < b then i else i + 1) := by
  rw [selRow_map, nth_map _ _ _ (by rw [sel_length, cnt_ne, if_pos hb]; exact hi)]
  congr 1
  have := sel_ne hb hi
  rw [List.getD_eq_getElem?_getD, List.getElem?_eq_getElem (by rw [sel_length, cnt_ne, if_pos hb]; exact hi)] at this
  simpa using this
theorem woCol_game {g : List (List Int)} {b : Nat} (h : gameB g = true) (h2 : 2 ≤ (rowAt g 0).length) (hb : b < (rowAt g 0).length) : gameB (woCol g b) = true ∧ (woCol g b).length = g.length ∧ (rowAt (woCol g b) 0).length = (rowAt g 0).length - 1 := by
  have hg := Game.of h
  have hl := turned_length h
  have hc := turned_cols h
  have ht := turned_gameB h
  have hw := woRow_game (Game.of ht) (by rw [hl]; exact h2) (a := b) (by rw [hl]; exact hb)
  have hwl := woRow_length (g := turned g) (a := b) (by rw [hl]; exact hb)
  obtain ⟨e1, e2⟩ := hw.to
  rw [hc] at e2
  refine ⟨turned_gameB e1, ?_, ?_⟩
  · unfold woCol; rw [turned_length e1, ← e2]
  · unfold woCol; rw [turned_cols e1, hwl, hl]
theorem woCol_eq {g : List (List Int)} {b : Nat} (h : gameB g = true) (h2 : 2 ≤ (rowAt g 0).length) (hb : b < (rowAt g 0).length) : woCol g b = woColL g b := by
  have hg := Game.of h
  have hl := turned_length h
  have hc := turned_cols h
  have ht := turned_gameB h
  have hbl : b < (turned g).length := by rw [hl]; exact hb
  have hw := woRow_game (Game.of ht) (by rw [hl]; exact h2) hbl
  have hwl := woRow_length hbl
  obtain ⟨e1, e2⟩ := hw.to
  rw [hc] at e2
  obtain ⟨k1, k2, k3⟩ := woCol_game h h2 hb
  have kg := Game.of k1
  refine ext_rowAt (by rw [k2, woColL_length]) fun i hi => ?_
  rw [k2] at hi
  have hrl := hg.len i hi
  rw [rowAt_woColL g b i hi]
  have hlen : (selRow (fun j => j != b) (nth (rowAt g i)) (rowAt g i).length).length = (rowAt g 0).length - 1 := by
    rw [selRow_length, cnt_ne, hrl, if_pos hb]
  refine ext_nth (by rw [kg.len i (by rw [k2]; exact hi), k3, hlen]) fun j hj => ?_
  rw [kg.len i (by rw [k2]; exact hi), k3] at hj
  rw [nth_selRow_ne (by rw [hrl]; exact hb) (by rw [hrl]; exact hj)]
  show nth (rowAt (turned (woRow (turned g) b)) i) j = _
  rw [nth_turned e1 (by rw [← e2]; exact hi) (by rw [hwl, hl]; exact hj), woRow_row hbl (by rw [hl]; exact hj), nth_turned h (by split <;> omega) hi]
  omega
theorem woRT_yes {g : List (List Int)} {a : Int} (h : woRB g a = true) : woRT g a = woRow g a.toNat := by unfold woRT; rw [if_pos h]
theorem woCT_yes {g : List (List Int)} {a : Int} (h : woCB g a = true) : woCT g a = woCol g a.toNat := by unfold woCT; rw [if_pos h]
theorem woRT_no {g : List (List Int)} {a : Int} (h : woRB g a = false) : woRT g a = [] := by unfold woRT; rw [if_neg (by rw [h]; decide)]
theorem woCT_no {g : List (List Int)} {a : Int} (h : woCB g a = false) : woCT g a = [] := by unfold woCT; rw [if_neg (by rw [h]; decide)]
theorem woRT_game {g : List (List Int)} {a : Int} (h : woRB g a = true) : gameB (woRT g a) = true ∧ (woRT g a).length = g.length - 1 ∧ (rowAt (woRT g a) 0).length = (rowAt g 0).length := by
  obtain ⟨h1, h2, h3, h4⟩ := woRB_iff.1 h
  rw [woRT_yes h]
  have ha : a.toNat < g.length := by omega
  have hw := woRow_game (Game.of h1) h2 ha
  exact ⟨hw.to.1, woRow_length ha, hw.to.2.symm⟩
theorem woCT_game {g : List (List Int)} {a : Int} (h : woCB g a = true) : gameB (woCT g a) = true ∧ (woCT g a).length = g.length ∧ (rowAt (woCT g a) 0).length = (rowAt g 0).length - 1 := by
  obtain ⟨h1, h2, h3, h4⟩ := woCB_iff.1 h
  rw [woCT_yes h]
  exact woCol_game h1 h2 (by omega)
theorem gameB_len {g : List (List Int)} (h : gameB g = true) : g.length ≤ 16 ∧ ∀ i, i < g.length → (rowAt g i).length ≤ 16 := by
  have hg := Game.of h
  exact ⟨hg.hi, fun i hi => by rw [hg.len i hi]; exact hg.mhi⟩
theorem woRT_len (g : List (List Int)) (a : Int) : (woRT g a).length ≤ 16 ∧ ∀ i, i < (woRT g a).length → (rowAt (woRT g a) i).length ≤ 16 := by
  rcases h : woRB g a with _ | _
  · rw [woRT_no h]; exact ⟨by simp, fun i hi => by simp at hi⟩
  · exact gameB_len (woRT_game h).1
theorem sol_woRT {g : List (List Int)} {a : Int} (h : woRB g a = true) (hs : solB g = true) : solB (woRT g a) = true ∧ lessB (solU g) (solD g) (solU (woRT g a)) (solD (woRT g a)) = false := by
  obtain ⟨h1, h2, h3, h4⟩ := woRB_iff.1 h
  rw [woRT_yes h]
  obtain ⟨w1, w2⟩ := sol_wo_le hs h2 (a := a.toNat) (by omega)
  refine ⟨w1, ?_⟩
  unfold lessB; rw [sol_okB hs, sol_okB w1]; simp; exact w2
theorem sol_woRT_eq {g : List (List Int)} {a b : Int} (h : woRB g a = true) (hs : solB g = true) (hw : wrB g a b = true) : solU (woRT g a) = solU g ∧ solD (woRT g a) = solD g := by
  obtain ⟨h1, h2, h3, h4⟩ := woRB_iff.1 h
  rw [woRT_yes h]
  obtain ⟨i, j, rfl, rfl, hi, hj, hne, hle⟩ := wrB_has hw
  exact sol_wo_eq hs h2 hi hj hne hle
theorem sol_woCT {g : List (List Int)} {a : Int} (h : woCB g a = true) (hs : solB g = true) : solB (woCT g a) = true ∧ lessB (solU (woCT g a)) (solD (woCT g a)) (solU g) (solD g) = false := by
  obtain ⟨h1, h2, h3, h4⟩ := woCB_iff.1 h
  rw [woCT_yes h]
  obtain ⟨w1, w2⟩ := sol_woC_le hs h2 (b := a.toNat) (by omega)
  refine ⟨w1, ?_⟩
  unfold lessB; rw [sol_okB hs, sol_okB w1]; simp; exact w2
theorem sol_woCT_eq {g : List (List Int)} {a b : Int} (h : woCB g a = true) (hs : solB g = true) (hw : wcB g a b = true) : solU (woCT g a) = solU g ∧ solD (woCT g a) = solD g := by
  obtain ⟨h1, h2, h3, h4⟩ := woCB_iff.1 h
  rw [woCT_yes h]
  obtain ⟨i, j, rfl, rfl, hi, hj, hne, hle⟩ := wcB_has hw
  exact sol_woC_eq hs h2 hi hj hne hle
def anyN (P : Nat → Bool) : Nat → Bool
  | 0 => false
  | k + 1 => anyN P k || P k
def fstN (P : Nat → Bool) : Nat → Option Nat
  | 0 => none
  | k + 1 => match fstN P k with
    | some a => some a
    | none => if P k = true then some k else none
theorem anyN_iff {P : Nat → Bool} {n : Nat} : anyN P n = true ↔ ∃ i, i < n ∧ P i = true := by
  induction n with
  | zero => simp [anyN]
  | succ n ih =>
    simp only [anyN, Bool.or_eq_true, ih]
    constructor
    · rintro (⟨i, h1, h2⟩ | h)
      · exact ⟨i, by omega, h2⟩
      · exact ⟨n, by omega, h⟩
    · rintro ⟨i, h1, h2⟩
      by_cases e : i = n
      · subst e; exact .inr h2
      · exact .inl ⟨i, by omega, h2⟩
theorem anyN_false {P : Nat → Bool} {n : Nat} : anyN P n = false ↔ ∀ i, i < n → P i = false := by
  induction n with
  | zero => simp [anyN]
  | succ n ih =>
    simp only [anyN, Bool.or_eq_false_iff, ih]
    constructor
    · rintro ⟨h1, h2⟩ i hi
      by_cases e : i = n
      · subst e; exact h2
      · exact h1 i (by omega)
    · intro h; exact ⟨fun i hi => h i (by omega), h n (by omega)⟩
theorem fstN_none {P : Nat → Bool} {n : Nat} (h : ∀ i, i < n → P i = false) : fstN P n = none := by
  induction n with
  | zero => rfl
  | succ n ih => simp only [fstN]; rw [ih fun i hi => h i (by omega)]; simp [h n (by omega)]
theorem fstN_some {P : Nat → Bool} {n a : Nat} (ha : a < n) (hp : P a = true) (h : ∀ i, i < a → P i = false) : fstN P n = some a := by
  induction n with
  | zero => omega
  | succ n ih =>
    simp only [fstN]
    by_cases e : a = n
    · subst e; rw [fstN_none h]; simp [hp]
    · rw [ih (by omega)]
theorem fstN_is {P : Nat → Bool} {n a : Nat} (h : fstN P n = some a) : a < n ∧ P a = true := by
  induction n with
  | zero => cases h
  | succ n ih =>
    simp only [fstN] at h
    rcases e : fstN P n with _ | b
    · rw [e] at h
      dsimp only at h
      split at h
      · injection h with h; subst h; rename_i hp; exact ⟨by omega, hp⟩
      · cases h
    · rw [e] at h; injection h with h; subst h
      obtain ⟨h1, h2⟩ := ih e
      exact ⟨by omega, h2⟩
def anyW (bet : Int → Int → Bool) (t : List (List Int)) (a : Nat) : Bool := anyN (fun b => lineB bet t (a : Int) (b : Int)) t.length
def fstW (bet : Int → Int → Bool) (t : List (List Int)) : Option Nat := fstN (anyW bet t) t.length
def stepO (g : List (List Int)) : Option (List (List Int)) :=
  match fstW gtB g with
  | some a => some (woRow g a)
  | none => match fstW ltB (cols g) with
    | some b => some (woCol g b)
    | none => none
def szT (g : List (List Int)) : Nat := g.length + (rowAt g 0).length
def smN : Nat → List (List Int) → List (List Int)
  | 0, g => g
  | n + 1, g => match stepO g with
    | some h => smN n h
    | none => g
def smT (g : List (List Int)) : List (List Int) := smN (szT g) g
def small (g : List (List Int)) : List (List Int) := if gameB g = true then smT g else []
theorem fstW_has {bet : Int → Int → Bool} {t : List (List Int)} {a : Nat} (h : fstW bet t = some a) : a < t.length ∧ ∃ b : Nat, b < t.length ∧ lineB bet t (a : Int) (b : Int) = true := by
  obtain ⟨h1, h2⟩ := fstN_is h
  obtain ⟨b, h3, h4⟩ := anyN_iff.1 h2
  exact ⟨h1, b, h3, h4⟩
theorem fstW_row {g : List (List Int)} (h : gameB g = true) {a : Nat} (hf : fstW gtB g = some a) : woRB g (a : Int) = true ∧ woRT g (a : Int) = woRow g a ∧ ∃ b : Nat, wrB g (a : Int) (b : Int) = true := by
  obtain ⟨h1, b, h2, h3⟩ := fstW_has hf
  have hw : wrB g (a : Int) (b : Int) = true := by rw [wrB_line h]; exact h3
  obtain ⟨k1, k2, k3, k4⟩ := lineB_nat.1 h3
  have hr : woRB g (a : Int) = true := woRB_iff.2 ⟨h, by omega, by omega, by omega⟩
  exact ⟨hr, by rw [woRT_yes hr]; rfl, b, hw⟩
theorem fstW_col {g : List (List Int)} (h : gameB g = true) {a : Nat} (hf : fstW ltB (cols g) = some a) : woCB g (a : Int) = true ∧ woCT g (a : Int) = woCol g a ∧ ∃ b : Nat, wcB g (a : Int) (b : Int) = true := by
  obtain ⟨h1, b, h2, h3⟩ := fstW_has hf
  have hw : wcB g (a : Int) (b : Int) = true := by rw [wcB_line h]; exact h3
  obtain ⟨k1, k2, k3, k4⟩ := lineB_nat.1 h3
  rw [cols_length] at k2 k3
  have hr : woCB g (a : Int) = true := woCB_iff.2 ⟨h, by omega, by omega, by omega⟩
  exact ⟨hr, by rw [woCT_yes hr]; rfl, b, hw⟩
theorem stepO_row {g : List (List Int)} {a : Nat} (hf : fstW gtB g = some a) : stepO g = some (woRow g a) := by unfold stepO; rw [hf]
theorem stepO_col {g : List (List Int)} {a : Nat} (h0 : fstW gtB g = none) (hf : fstW ltB (cols g) = some a) : stepO g = some (woCol g a) := by unfold stepO; rw [h0]; dsimp only; rw [hf]
theorem stepO_none {g : List (List Int)} (h0 : fstW gtB g = none) (hf : fstW ltB (cols g) = none) : stepO g = none := by unfold stepO; rw [h0]; dsimp only; rw [hf]
theorem stepO_is {g t : List (List Int)} (h : stepO g = some t) : (∃ a, fstW gtB g = some a ∧ t = woRow g a) ∨ (fstW gtB g = none ∧ ∃ a, fstW ltB (cols g) = some a ∧ t = woCol g a) := by
  unfold stepO at h
  rcases e : fstW gtB g with _ | a
  · rw [e] at h; dsimp only at h
    rcases e' : fstW ltB (cols g) with _ | b
    · rw [e'] at h; cases h
    · rw [e'] at h; injection h with h; exact .inr ⟨rfl, b, rfl, h.symm⟩
  · rw [e] at h; injection h with h; exact .inl ⟨a, rfl, h.symm⟩
theorem stepO_game {g t : List (List Int)} (hg : gameB g = true) (h : stepO g = some t) : gameB t = true ∧ szT t + 1 = szT g ∧ t.length ≤ g.length ∧ (rowAt t 0).length ≤ (rowAt g 0).length ∧
    (solB g = true → solB t = true ∧ solU t = solU g ∧ solD t = solD g) := by
  have G := Game.of hg
  have hlo := G.lo
  have hmlo := G.mlo
  unfold szT
  rcases stepO_is h with ⟨a, hf, rfl⟩ | ⟨_, a, hf, rfl⟩
  · obtain ⟨w1, w2, b, w3⟩ := fstW_row hg hf
    obtain ⟨k1, k2, k3⟩ := woRT_game w1
    rw [← w2]
    exact ⟨k1, by omega, by omega, by omega, fun hs => ⟨(sol_woRT w1 hs).1, sol_woRT_eq w1 hs w3⟩⟩
  · obtain ⟨w1, w2, b, w3⟩ := fstW_col hg hf
    obtain ⟨k1, k2, k3⟩ := woCT_game w1
    rw [← w2]
    exact ⟨k1, by omega, by omega, by omega, fun hs => ⟨(sol_woCT w1 hs).1, sol_woCT_eq w1 hs w3⟩⟩
theorem smT_step {g t : List (List Int)} (hg : gameB g = true) (h : stepO g = some t) : smT g = smT t := by
  obtain ⟨_, h2, _⟩ := stepO_game hg h
  unfold smT; rw [← h2]; simp only [smN]; rw [h]
theorem smT_end {g : List (List Int)} (h : stepO g = none) : smT g = g := by
  unfold smT
  cases szT g with
  | zero => rfl
  | succ n => simp only [smN]; rw [h]
theorem smT_is : ∀ (n : Nat) (g : List (List Int)), szT g ≤ n → gameB g = true → gameB (smT g) = true ∧ stepO (smT g) = none ∧ (smT g).length ≤ g.length ∧ (rowAt (smT g) 0).length ≤ (rowAt g 0).length ∧
    (solB g = true → solB (smT g) = true ∧ solU (smT g) = solU g ∧ solD (smT g) = solD g) := by
  intro n
  induction n with
  | zero =>
    intro g hn hg
    have := (Game.of hg).lo
    unfold szT at hn; omega
  | succ n ih =>
    intro g hn hg
    rcases h : stepO g with _ | t
    · rw [smT_end h]; exact ⟨hg, h, Nat.le_refl _, Nat.le_refl _, fun hs => ⟨hs, rfl, rfl⟩⟩
    · obtain ⟨k1, k2, k3, k4, k5⟩ := stepO_game hg h
      rw [smT_step hg h]
      obtain ⟨m1, m2, m3, m4, m5⟩ := ih t (by omega) k1
      refine ⟨m1, m2, by omega, by omega, fun hs => ?_⟩
      obtain ⟨s1, s2, s3⟩ := k5 hs
      obtain ⟨t1, t2, t3⟩ := m5 s1
      exact ⟨t1, by rw [t2, s2], by rw [t3, s3]⟩
theorem small_yes {g : List (List Int)} (h : gameB g = true) : small g = smT g := by unfold small; rw [if_pos h]
theorem small_no {g : List (List Int)} (h : gameB g = false) : small g = [] := by unfold small; rw [if_neg (by rw [h]; decide)]
theorem small_sol {g : List (List Int)} (hs : solB g = true) : solB (small g) = true ∧ solU (small g) = solU g ∧ solD (small g) = solD g := by
  have h := (sol_iff.1 hs).1
  rw [small_yes h]; exact (smT_is _ g (Nat.le_refl _) h).2.2.2.2 hs
end Go.Proofs.YtlmaeadbomnhlaaGreat
