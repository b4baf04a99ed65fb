/- Texts in one: Fair, FairB, Sold, MixF. -/
import Derived.Test.YtlkjpmdnhccdpaaMF
import Derived.Test.YtlkjpmdnhccdpaaCast
namespace Go.Proofs.Ytlkjpmdnhccdpaa
set_option linter.unusedSimpArgs false
set_option linter.unusedVariables false
open Go.RowKit

def antiB (g : List (List Int)) (n : Nat) : Bool := (List.range n).all fun i => (List.range n).all fun j => nth (rowAt g i) j == -nth (rowAt g j) i

def fairB (g : List (List Int)) : Bool := gameB g && (decide (g.length = (rowAt g 0).length) && antiB g g.length)

structure Fair (g : List (List Int)) : Prop where
  game : gameB g = true
  sq : g.length = (rowAt g 0).length
  anti : ∀ i j, i < g.length → j < g.length → nth (rowAt g i) j = -nth (rowAt g j) i

theorem antiB_iff {g : List (List Int)} {n : Nat} : antiB g n = true ↔ ∀ i j, i < n → j < n → nth (rowAt g i) j = -nth (rowAt g j) i := by
  unfold antiB
  simp only [List.all_eq_true, List.mem_range, beq_iff_eq]
  exact ⟨fun h i j hi hj => h i hi j hj, fun h i hi j hj => h i j hi hj⟩

theorem fairB_iff {g : List (List Int)} : fairB g = true ↔ Fair g := by
  unfold fairB
  rw [Bool.and_eq_true, Bool.and_eq_true, decide_eq_true_eq, antiB_iff]
  exact ⟨fun ⟨a, b, c⟩ => ⟨a, b, c⟩, fun h => ⟨h.game, h.sq, h.anti⟩⟩

theorem fair_not_square {g : List (List Int)} (h : g.length ≠ (rowAt g 0).length) : fairB g = false := by
  unfold fairB; rw [decide_eq_false h, Bool.false_and, Bool.and_false]

theorem fair_not_anti {g : List (List Int)} {i j : Nat} (hi : i < g.length) (hj : j < g.length) (h : nth (rowAt g i) j ≠ -nth (rowAt g j) i) : fairB g = false := by
  rw [← Bool.not_eq_true]; intro hf; exact h ((fairB_iff.1 hf).anti i j hi hj)

theorem Fair.turned {g : List (List Int)} (h : Fair g) : turned g = g := by
  have hg := Game.of h.game
  have e : Go.Proofs.Ytlkjpmdnhccdpaa.turned g = turnedL g := by simp [Go.Proofs.Ytlkjpmdnhccdpaa.turned, h.game]
  rw [e]
  have hl : (turnedL g).length = g.length := by rw [turnedL_length, ← h.sq]
  refine List.ext_getElem hl fun j h1 h2 => ?_
  have hj : j < (rowAt g 0).length := by rw [← h.sq]; exact h2
  have e1 : (turnedL g)[j] = rowAt (turnedL g) j := by unfold rowAt; simp [h1]
  have e2 : g[j] = rowAt g j := by unfold rowAt; simp [h2]
  have hrl : (rowAt g j).length = g.length := by rw [hg.len j h2, h.sq]
  have htl : (rowAt (turnedL g) j).length = g.length := turnedL_row_length g j hj
  rw [e1, e2]
  refine List.ext_getElem (by rw [htl, hrl]) fun i h3 h4 => ?_
  have hi : i < g.length := by rw [htl] at h3; exact h3
  have e3 : (rowAt (turnedL g) j)[i] = nth (rowAt (turnedL g) j) i := by unfold nth; simp [h3]
  have e4 : (rowAt g j)[i] = nth (rowAt g j) i := by unfold nth; simp [h4]
  rw [e3, e4, nth_turnedL g j i hj hi, h.anti j i h2 hi]

theorem Fair.sol {g : List (List Int)} (h : Fair g) (hs : solB g = true) : solU g = 0 ∧ solD g = 1 := by
  obtain ⟨_, h2, _⟩ := sol_turned hs
  rw [h.turned] at h2
  have hu : solU g = 0 := by omega
  have ho := sol_okB hs
  have hok := okB_iff.1 ho
  refine ⟨hu, ?_⟩
  have hgcd := hok.2.2.2.2
  rw [hu] at hgcd
  have hp := hok.2.2.1
  unfold gcdI at hgcd
  simp at hgcd
  omega

theorem Fair.saf {g : List (List Int)} (h : Fair g) {y : List Int} (hy : risB g y = true) : safB g y = true ∧ safU g y = -risU g y ∧ safD g y = risD g y := by
  have := ris_turned hy
  rwa [h.turned] at this

/-- all alike -/
def onesL (n : Nat) : List Int := List.replicate n 1

theorem onesL_length (n : Nat) : (onesL n).length = n := by simp [onesL]

theorem nth_onesL {n i : Nat} (h : i < n) : nth (onesL n) i = 1 := by unfold onesL nth; simp [h]

theorem onesL_succ (n : Nat) : onesL (n + 1) = onesL n ++ [1] := by unfold onesL; rw [List.replicate_succ']

theorem sumW_ones {n : Nat} : ∀ k, k ≤ n → sumW (onesL n) k = k
  | 0, _ => rfl
  | k + 1, h => by simp only [sumW]; rw [sumW_ones k (by omega), nth_onesL (by omega)]; omega

theorem ones_mix {n : Nat} (h1 : 1 ≤ n) (h2 : n ≤ 16) : Mix (onesL n) n := by
  refine ⟨onesL_length n, h1, h2, fun i hi => ?_, fun i hi => ?_, by rw [sumW_ones n (Nat.le_refl _)]; omega⟩ <;> rw [nth_onesL hi] <;> omega

theorem Fair.alike {g : List (List Int)} (h : Fair g) : risB g (onesL g.length) = true := by
  have hg := Game.of h.game
  exact risB_iff.2 ⟨h.game, by rw [← h.sq]; exact ones_mix hg.lo hg.hi⟩

end Go.Proofs.Ytlkjpmdnhccdpaa

namespace Go.Proofs.Ytlkjpmdnhccdpaa
set_option linter.unusedSimpArgs false
set_option linter.unusedVariables false
open Go.RowKit

/-- a number of the fair game of a game of m rows and n columns -/
def fromI (g : List (List Int)) (m n i j : Nat) : Int :=
  if i < m ∧ m ≤ j ∧ j < m + n then nth (rowAt g i) (j - m)
  else if j < m ∧ m ≤ i ∧ i < m + n then -nth (rowAt g j) (i - m)
  else if i < m ∧ j = m + n then -1
  else if j < m ∧ i = m + n then 1
  else if m ≤ i ∧ i < m + n ∧ j = m + n then 1
  else if m ≤ j ∧ j < m + n ∧ i = m + n then -1
  else 0

def fromR (g : List (List Int)) (m n i : Nat) : List Int := (List.range (m + n + 1)).map fun j => fromI g m n i j

def fromT (g : List (List Int)) (m n : Nat) : List (List Int) := (List.range (m + n + 1)).map fun i => fromR g m n i

theorem fromR_length (g : List (List Int)) (m n i : Nat) : (fromR g m n i).length = m + n + 1 := by simp [fromR]

theorem nth_fromR (g : List (List Int)) (m n i : Nat) {j : Nat} (h : j < m + n + 1) : nth (fromR g m n i) j = fromI g m n i j := by unfold fromR nth; simp [h]

theorem fromT_length (g : List (List Int)) (m n : Nat) : (fromT g m n).length = m + n + 1 := by simp [fromT]

theorem rowAt_fromT (g : List (List Int)) (m n : Nat) {i : Nat} (h : i < m + n + 1) : rowAt (fromT g m n) i = fromR g m n i := by unfold fromT rowAt; simp [h]

theorem from_bd {g : List (List Int)} {n : Nat} (hg : Game g n) {i j : Nat} : -9 ≤ fromI g g.length n i j ∧ fromI g g.length n i j ≤ 9 := by
  unfold fromI
  split
  · rename_i h; exact ⟨hg.nlo i h.1 _ (by omega), hg.nhi i h.1 _ (by omega)⟩
  · split
    · rename_i h; have := hg.nlo j h.1 (i - g.length) (by omega); have := hg.nhi j h.1 (i - g.length) (by omega); omega
    · split
      · omega
      · split
        · omega
        · split
          · omega
          · split <;> omega

theorem from_anti (g : List (List Int)) (m n i j : Nat) : fromI g m n i j = -fromI g m n j i := by
  unfold fromI
  by_cases h1 : i < m ∧ m ≤ j ∧ j < m + n
  · have h1' : ¬ (j < m ∧ m ≤ i ∧ i < m + n) := by omega
    rw [if_pos h1, if_neg h1', if_pos h1]; omega
  · rw [if_neg h1]
    by_cases h2 : j < m ∧ m ≤ i ∧ i < m + n
    · rw [if_pos h2, if_pos h2]
    · rw [if_neg h2, if_neg h2, if_neg h1]
      by_cases h3 : i < m ∧ j = m + n
      · have a : ¬ (j < m ∧ i = m + n) := by omega
        rw [if_pos h3, if_neg a, if_pos h3]
      · rw [if_neg h3]
        by_cases h4 : j < m ∧ i = m + n
        · rw [if_pos h4, if_pos h4]; rfl
        · rw [if_neg h4, if_neg h4, if_neg h3]
          by_cases h5 : m ≤ i ∧ i < m + n ∧ j = m + n
          · have a : ¬ (m ≤ j ∧ j < m + n ∧ i = m + n) := by omega
            rw [if_pos h5, if_neg a, if_pos h5]; rfl
          · rw [if_neg h5]
            by_cases h6 : m ≤ j ∧ j < m + n ∧ i = m + n
            · rw [if_pos h6, if_pos h6]
            · rw [if_neg h6, if_neg h6, if_neg h5]; rfl

def frmB (g : List (List Int)) : Bool := gameB g && decide (g.length + (rowAt g 0).length ≤ 8)

def frmG (g : List (List Int)) : List (List Int) := if frmB g = true then fromT g g.length (rowAt g 0).length else []

theorem frm_no {g : List (List Int)} (h : frmB g = false) : frmG g = [] := by unfold frmG; rw [h]; rfl

theorem frm_yes {g : List (List Int)} (h : frmB g = true) : frmG g = fromT g g.length (rowAt g 0).length := by unfold frmG; rw [if_pos h]

theorem frmB_iff {g : List (List Int)} : frmB g = true ↔ gameB g = true ∧ g.length + (rowAt g 0).length ≤ 8 := by unfold frmB; rw [Bool.and_eq_true, decide_eq_true_eq]

theorem from_game {g : List (List Int)} {n : Nat} (hg : Game g n) (h8 : g.length + n ≤ 8) : Game (fromT g g.length n) (g.length + n + 1) := by
  have := hg.lo
  refine ⟨by rw [fromT_length]; omega, by rw [fromT_length]; omega, by omega, by omega, fun i hi => ?_, fun i hi j hj => ?_, fun i hi j hj => ?_⟩ <;> rw [fromT_length] at hi <;> rw [rowAt_fromT _ _ _ hi]
  · exact fromR_length _ _ _ _
  · rw [nth_fromR _ _ _ _ hj]; exact (from_bd hg).1
  · rw [nth_fromR _ _ _ _ hj]; exact (from_bd hg).2

theorem from_fair {g : List (List Int)} (h : frmB g = true) : Fair (frmG g) := by
  obtain ⟨h1, h2⟩ := frmB_iff.1 h
  have hg := Game.of h1
  obtain ⟨k1, k2⟩ := (from_game hg h2).to
  rw [frm_yes h]
  refine ⟨k1, by rw [← k2, fromT_length], fun i j hi hj => ?_⟩
  rw [fromT_length] at hi hj
  rw [rowAt_fromT _ _ _ hi, rowAt_fromT _ _ _ hj, nth_fromR _ _ _ _ hj, nth_fromR _ _ _ _ hi]
  exact from_anti _ _ _ _ _

/-! sums -/

def sF (f : Nat → Int) : Nat → Int
  | 0 => 0
  | k + 1 => sF f k + f k

theorem sF_congr {f h : Nat → Int} : ∀ {k : Nat}, (∀ i, i < k → f i = h i) → sF f k = sF h k
  | 0, _ => rfl
  | k + 1, H => by simp only [sF]; rw [sF_congr fun i hi => H i (by omega), H k (by omega)]

theorem sF_split (f : Nat → Int) (m : Nat) : ∀ n, sF f (m + n) = sF f m + sF (fun i => f (m + i)) n
  | 0 => by simp [sF]
  | n + 1 => by rw [← Nat.add_assoc]; simp only [sF]; rw [sF_split f m n]; omega

theorem sF_scale (f : Nat → Int) (c : Int) : ∀ k, sF (fun i => f i * c) k = sF f k * c
  | 0 => by simp [sF]
  | k + 1 => by simp only [sF]; rw [sF_scale f c k, Int.add_mul]

theorem sF_neg (f : Nat → Int) : ∀ k, sF (fun i => -f i) k = -sF f k
  | 0 => rfl
  | k + 1 => by simp only [sF]; rw [sF_neg f k]; omega

theorem sF_zero : ∀ k, sF (fun _ => 0) k = 0
  | 0 => rfl
  | k + 1 => by simp only [sF]; rw [sF_zero k]; rfl

theorem dotW_sF (x l : List Int) : ∀ k, dotW x l k = sF (fun i => nth x i * nth l i) k
  | 0 => rfl
  | k + 1 => by simp only [dotW, sF]; rw [dotW_sF x l k]

theorem sumW_sF (x : List Int) : ∀ k, sumW x k = sF (fun i => nth x i) k
  | 0 => rfl
  | k + 1 => by simp only [sumW, sF]; rw [sumW_sF x k]

/-- the weights of a solution, put together for the fair game -/
def mixF (x y : List Int) (a b u d : Int) : List Int := (x.map fun t => t * b * d) ++ ((y.map fun t => t * a * d) ++ [a * b * u])

theorem mixF_length (x y : List Int) (a b u d : Int) : (mixF x y a b u d).length = x.length + y.length + 1 := by simp [mixF]; omega

theorem mixF_x {x y : List Int} {a b u d : Int} {i : Nat} (h : i < x.length) : nth (mixF x y a b u d) i = nth x i * b * d := by
  unfold mixF nth
  rw [List.getD_eq_getElem?_getD, List.getElem?_append_left (by simpa using h)]; simp [h]

theorem mixF_y {x y : List Int} {a b u d : Int} {i : Nat} (h : i < y.length) : nth (mixF x y a b u d) (x.length + i) = nth y i * a * d := by
  unfold mixF nth
  rw [List.getD_eq_getElem?_getD, List.getElem?_append_right (by simp), List.length_map, Nat.add_sub_cancel_left, List.getElem?_append_left (by simpa using h)]; simp [h]

theorem mixF_z {x y : List Int} {a b u d : Int} : nth (mixF x y a b u d) (x.length + y.length) = a * b * u := by
  unfold mixF nth
  rw [List.getD_eq_getElem?_getD, List.getElem?_append_right (by simp), List.length_map, Nat.add_sub_cancel_left, List.getElem?_append_right (by simp), List.length_map, Nat.sub_self]; simp

theorem col_from {g : List (List Int)} {n i j : Nat} (hi : i < g.length + n + 1) (hj : j < g.length + n + 1) : nth (col (fromT g g.length n) j) i = fromI g g.length n i j := by
  rw [nth_col _ _ _ (by rw [fromT_length]; exact hi), rowAt_fromT _ _ _ hi, nth_fromR _ _ _ _ hj]

/-- what the mixture gets against each column -/
theorem mix_cols {g : List (List Int)} {n : Nat} {x y : List Int} {a b u d : Int} (hx : x.length = g.length) (hy : y.length = n) (ha : sumW x g.length = a) (hb : sumW y n = b) :
    (∀ j, j < g.length → colD (fromT g g.length n) (mixF x y a b u d) j = a * (b * u - d * rowD g y j)) ∧
    (∀ c, c < n → colD (fromT g g.length n) (mixF x y a b u d) (g.length + c) = b * (d * colD g x c - a * u)) ∧
    colD (fromT g g.length n) (mixF x y a b u d) (g.length + n) = 0 := by
  have key : ∀ j, j < g.length + n + 1 → colD (fromT g g.length n) (mixF x y a b u d) j =
      sF (fun i => nth x i * b * d * fromI g g.length n i j) g.length + sF (fun i => nth y i * a * d * fromI g g.length n (g.length + i) j) n + a * b * u * fromI g g.length n (g.length + n) j := fun j hj => by
    unfold colD
    rw [fromT_length, dotW_sF]
    show sF _ (g.length + n) + _ = _
    rw [sF_split]
    congr 1
    · congr 1
      · refine sF_congr fun i hi => ?_
        rw [mixF_x (by omega), col_from (by omega) hj]
      · refine sF_congr fun i hi => ?_
        rw [← hx, mixF_y (by omega), hx, col_from (by omega) hj]
    · have e := mixF_z (x := x) (y := y) (a := a) (b := b) (u := u) (d := d)
      rw [hx, hy] at e
      show nth (mixF x y a b u d) (g.length + n) * nth (col (fromT g g.length n) j) (g.length + n) = _
      rw [e, col_from (by omega) hj]
  refine ⟨fun j hj => ?_, fun c hc => ?_, ?_⟩
  · rw [key j (by omega)]
    have e1 : sF (fun i => nth x i * b * d * fromI g g.length n i j) g.length = 0 := by
      rw [sF_congr (h := fun _ => 0) fun i hi => ?_, sF_zero]
      have : fromI g g.length n i j = 0 := by
        unfold fromI
        rw [if_neg (by omega), if_neg (by omega), if_neg (by omega), if_neg (by omega), if_neg (by omega), if_neg (by omega)]
      rw [this, Int.mul_zero]
    have e2 : sF (fun i => nth y i * a * d * fromI g g.length n (g.length + i) j) n = rowD g y j * (-(a * d)) := by
      have : ∀ i, i < n → nth y i * a * d * fromI g g.length n (g.length + i) j = nth y i * nth (rowAt g j) i * (-(a * d)) := fun i hi => by
        have : fromI g g.length n (g.length + i) j = -nth (rowAt g j) i := by
          unfold fromI
          rw [if_neg (by omega), if_pos (by omega), show g.length + i - g.length = i by omega]
        rw [this]; grind
      rw [sF_congr this, sF_scale]
      unfold rowD
      rw [dotW_sF, hy]
    have e3 : fromI g g.length n (g.length + n) j = 1 := by
      unfold fromI
      rw [if_neg (by omega), if_neg (by omega), if_neg (by omega), if_pos (by omega)]
    rw [e1, e2, e3]; grind
  · rw [key (g.length + c) (by omega)]
    have e1 : sF (fun i => nth x i * b * d * fromI g g.length n i (g.length + c)) g.length = colD g x c * (b * d) := by
      have : ∀ i, i < g.length → nth x i * b * d * fromI g g.length n i (g.length + c) = nth x i * nth (col g c) i * (b * d) := fun i hi => by
        have : fromI g g.length n i (g.length + c) = nth (rowAt g i) c := by
          unfold fromI
          rw [if_pos (by omega), show g.length + c - g.length = c by omega]
        rw [this, nth_col _ _ _ hi]; grind
      rw [sF_congr this, sF_scale]
      unfold colD
      rw [dotW_sF]
    have e2 : sF (fun i => nth y i * a * d * fromI g g.length n (g.length + i) (g.length + c)) n = 0 := by
      rw [sF_congr (h := fun _ => 0) fun i hi => ?_, sF_zero]
      have : fromI g g.length n (g.length + i) (g.length + c) = 0 := by
        unfold fromI
        rw [if_neg (by omega), if_neg (by omega), if_neg (by omega), if_neg (by omega), if_neg (by omega), if_neg (by omega)]
      rw [this, Int.mul_zero]
    have e3 : fromI g g.length n (g.length + n) (g.length + c) = -1 := by
      unfold fromI
      rw [if_neg (by omega), if_neg (by omega), if_neg (by omega), if_neg (by omega), if_neg (by omega), if_pos (by omega)]
    rw [e1, e2, e3]; grind
  · rw [key (g.length + n) (by omega)]
    have e1 : sF (fun i => nth x i * b * d * fromI g g.length n i (g.length + n)) g.length = a * (-(b * d)) := by
      have : ∀ i, i < g.length → nth x i * b * d * fromI g g.length n i (g.length + n) = nth x i * (-(b * d)) := fun i hi => by
        have : fromI g g.length n i (g.length + n) = -1 := by
          unfold fromI
          rw [if_neg (by omega), if_neg (by omega), if_pos (by omega)]
        rw [this]; grind
      rw [sF_congr this, sF_scale, ← sumW_sF, ha]
    have e2 : sF (fun i => nth y i * a * d * fromI g g.length n (g.length + i) (g.length + n)) n = b * (a * d) := by
      have : ∀ i, i < n → nth y i * a * d * fromI g g.length n (g.length + i) (g.length + n) = nth y i * (a * d) := fun i hi => by
        have : fromI g g.length n (g.length + i) (g.length + n) = 1 := by
          unfold fromI
          rw [if_neg (by omega), if_neg (by omega), if_neg (by omega), if_neg (by omega), if_pos (by omega)]
        rw [this]; grind
      rw [sF_congr this, sF_scale, ← sumW_sF, hb]
    have e3 : fromI g g.length n (g.length + n) (g.length + n) = 0 := by
      unfold fromI
      rw [if_neg (by omega), if_neg (by omega), if_neg (by omega), if_neg (by omega), if_neg (by omega), if_neg (by omega)]
    rw [e1, e2, e3]; grind

/-- the mixture is safe for nothing -/
theorem mix_safe {g : List (List Int)} {x y : List Int} (hb : frmB g = true) (hs : setB g x y = true) (hm : safB (frmG g) (mixF x y (sumW x x.length) (sumW y y.length) (safU g x) (safD g x)) = true) :
    safU (frmG g) (mixF x y (sumW x x.length) (sumW y y.length) (safU g x) (safD g x)) = 0 ∧ safD (frmG g) (mixF x y (sumW x x.length) (sumW y y.length) (safU g x) (safD g x)) = 1 := by
  obtain ⟨h1, h2⟩ := frmB_iff.1 hb
  have hg := Game.of h1
  obtain ⟨sx, sy, u1, u2⟩ := set_of hs
  have mx := (safB_iff.1 sx).2
  have my := (risB_iff.1 sy).2
  obtain ⟨a, ha⟩ : ∃ a, sumW x x.length = a := ⟨_, rfl⟩
  obtain ⟨b, hb'⟩ : ∃ b, sumW y y.length = b := ⟨_, rfl⟩
  obtain ⟨u, hu⟩ : ∃ u, safU g x = u := ⟨_, rfl⟩
  obtain ⟨d, hd⟩ : ∃ d, safD g x = d := ⟨_, rfl⟩
  have hok := okB_iff.1 (saf_okB sx)
  rw [hu, hd] at hok
  have ca : u * a = safeN g x * d := by
    have := low_cross (safeN g x) (sumW x x.length) (by have := mx.pos; rw [← mx.len] at this; omega)
    have e1 : lowU (safeN g x) (sumW x x.length) = u := by rw [← hu]; unfold safU; rw [if_pos sx]
    have e2 : lowD (safeN g x) (sumW x x.length) = d := by rw [← hd]; unfold safD; rw [if_pos sx]
    rwa [e1, e2, ha] at this
  have cb : u * b = riskN g y * d := by
    have := low_cross (riskN g y) (sumW y y.length) (by have := my.pos; rw [← my.len] at this; omega)
    have e1 : lowU (riskN g y) (sumW y y.length) = u := by rw [← hu, u1]; unfold risU; rw [if_pos sy]
    have e2 : lowD (riskN g y) (sumW y y.length) = d := by rw [← hd, u2]; unfold risD; rw [if_pos sy]
    rwa [e1, e2, hb'] at this
  rw [ha, hb', hu, hd] at hm ⊢
  rw [frm_yes hb] at hm ⊢
  have ha0 : 0 < a := by rw [← ha, mx.len]; exact mx.pos
  have hb0 : 0 < b := by rw [← hb', my.len]; exact my.pos
  obtain ⟨c1, c2, c3⟩ := mix_cols (g := g) (n := (rowAt g 0).length) (x := x) (y := y) (a := a) (b := b) (u := u) (d := d) mx.len my.len (by rw [← mx.len]; exact ha) (by rw [← my.len]; exact hb')
  have hfg := from_game hg h2
  have hfm := hfg.to.2
  have hcols : ∀ j, j < g.length + (rowAt g 0).length + 1 → 0 ≤ colD (fromT g g.length (rowAt g 0).length) (mixF x y a b u d) j := fun j hj => by
    by_cases j1 : j < g.length
    · rw [c1 j j1]
      have hr : rowD g y j ≤ riskN g y := by
        rw [← nth_rowsD g y j j1]
        have : ∀ (l : List Int) {k i : Nat}, i < k → nth l i ≤ highN l k := fun l k i h => by
          induction k with
          | zero => omega
          | succ k ih =>
            simp only [highN]
            by_cases e : i = k
            · rw [e]; omega
            · have := ih (by omega); omega
        exact this _ j1
      have h3 : d * rowD g y j ≤ d * riskN g y := Int.mul_le_mul_of_nonneg_left hr (by omega)
      have h4 : 0 ≤ b * u - d * rowD g y j := by
        have : b * u = d * riskN g y := by rw [Int.mul_comm b u, cb, Int.mul_comm]
        omega
      exact Int.mul_nonneg (by omega) h4
    · by_cases j2 : j < g.length + (rowAt g 0).length
      · obtain ⟨c, rfl⟩ : ∃ c, j = g.length + c := ⟨j - g.length, by omega⟩
        rw [c2 c (by omega)]
        have hr : safeN g x ≤ colD g x c := by
          rw [← nth_colsD g x c (by omega)]
          exact lowN_le _ (by omega)
        have h3 : d * safeN g x ≤ d * colD g x c := Int.mul_le_mul_of_nonneg_left hr (by omega)
        have h4 : 0 ≤ d * colD g x c - a * u := by
          have : a * u = d * safeN g x := by rw [Int.mul_comm a u, ca, Int.mul_comm]
          omega
        exact Int.mul_nonneg (by omega) h4
      · obtain rfl : j = g.length + (rowAt g 0).length := by omega
        rw [c3]; omega
  have hz : safeN (fromT g g.length (rowAt g 0).length) (mixF x y a b u d) = 0 := by
    unfold safeN
    rw [← hfm]
    obtain ⟨j, hj, e⟩ := lowN_at (colsD (fromT g g.length (rowAt g 0).length) (mixF x y a b u d)) (k := g.length + (rowAt g 0).length + 1) (by omega)
    have h5 := lowN_le (colsD (fromT g g.length (rowAt g 0).length) (mixF x y a b u d)) (k := g.length + (rowAt g 0).length + 1) (i := g.length + (rowAt g 0).length) (by omega)
    rw [nth_colsD _ _ _ (by omega), c3] at h5
    have h6 := hcols j hj
    rw [nth_colsD _ _ _ (by omega)] at e
    omega
  have hmm := (safB_iff.1 hm).2
  have hp := hmm.pos
  rw [← hmm.len] at hp
  unfold safU safD
  rw [if_pos hm, if_pos hm, hz]
  have hl := low_cross 0 (sumW (mixF x y a b u d) (mixF x y a b u d).length) (by omega)
  have hg1 := low_gcd 0 (sumW (mixF x y a b u d) (mixF x y a b u d).length) (by omega)
  have hpd := lowD_pos 0 (sumW (mixF x y a b u d) (mixF x y a b u d).length) (by omega)
  have hu0 : lowU 0 (sumW (mixF x y a b u d) (mixF x y a b u d).length) = 0 := by
    rw [Int.zero_mul] at hl
    rcases Int.mul_eq_zero.1 hl with e | e
    · exact e
    · omega
  refine ⟨hu0, ?_⟩
  rw [hu0] at hg1
  unfold gcdI at hg1
  simp at hg1
  omega

end Go.Proofs.Ytlkjpmdnhccdpaa

namespace Go.Proofs.Ytlkjpmdnhccdpaa
set_option linter.unusedSimpArgs false
set_option linter.unusedVariables false
open Go.RowKit

/-- all rows of f + 1 numbers that are together s -/
def plaR : Nat → Nat → List (List Nat)
  | 0, s => [[s]]
  | f + 1, s => (List.range (s + 1)).flatMap fun k => (plaR f (s - k)).map fun r => k :: r

def plaT (s f : Nat) : List (List Int) := (plaR (f - 1) s).map castT

def plaB (s f : Int) : Bool := inR s 1 4 && inR f 1 3

def plaG (s f : Int) : List (List Int) := if plaB s f = true then plaT s.toNat f.toNat else []

/-- on how many of the first k fields the first row has more, less on how many the second one has -/
def moreT (x y : List Int) : Nat → Int
  | 0 => 0
  | k + 1 => if nth y k < nth x k then moreT x y k + 1 else if nth x k < nth y k then moreT x y k - 1 else moreT x y k

def sdrR (s f i : Nat) : List Int := (plaT s f).map fun y => moreT (rowAt (plaT s f) i) y f

def sdrT (s f : Nat) : List (List Int) := (List.range (plaT s f).length).map (sdrR s f)

def sdrG (s f : Int) : List (List Int) := if plaB s f = true then sdrT s.toNat f.toNat else []

/-- a ring of so many choices -/
def beatI (n i j : Nat) : Int := if (j + n - i) % n = 0 then 0 else if (j + n - i) % n ≤ n / 2 then 1 else -1

def beatR (n i : Nat) : List Int := (List.range n).map (beatI n i)

def beatT (n : Nat) : List (List Int) := (List.range n).map (beatR n)

def beatB (n : Int) : Bool := inR n 1 15 && (n.tmod 2 != 0)

def beatG (n : Int) : List (List Int) := if beatB n = true then beatT n.toNat else []

/-- the first number that is another one, of the first f - 1 -/
def farT (x y : List Int) (f : Nat) : Nat → Nat → Nat
  | 0, j => j
  | d + 1, j => if j + 1 < f ∧ nth x j = nth y j then farT x y f d (j + 1) else j

def lookP (s f : Nat) : Bool :=
  let l := plaT s f
  decide (1 ≤ l.length) && (decide (l.length ≤ 15) && (decide (l.length = if f = 1 then 1 else if f = 2 then s + 1 else (s + 1) * (s + 2) / 2) &&
    ((List.range l.length).all fun k => decide ((rowAt l k).length = f) && (decide (sumW (rowAt l k) f = s) && ((List.range f).all (fun j => decide (0 ≤ nth (rowAt l k) j ∧ nth (rowAt l k) j ≤ 4)) && (k == 0 || decide (nth (rowAt l (k - 1)) (farT (rowAt l k) (rowAt l (k - 1)) f f 0) < nth (rowAt l k) (farT (rowAt l k) (rowAt l (k - 1)) f f 0))))))))

def lookQ (s f : Nat) : Bool :=
  let g := sdrT s f
  fairB g && (decide (floV g ≤ 0) && (decide (0 ≤ rooV g) && (f == 3 || ((List.range g.length).all fun i => (List.range g.length).all fun j => nth (rowAt g i) j == 0))))

def lookR (n : Nat) : Bool :=
  let g := beatT n
  fairB g && (setB g (onesL n) (onesL n) && ((n == 1) == decide (0 < (saddles g).length)))

set_option maxRecDepth 100000 in
theorem sold_P : ((List.range 4).all fun s => (List.range 3).all fun f => lookP (s + 1) (f + 1)) = true := by decide +kernel

set_option maxRecDepth 100000 in
theorem sold_Q : ((List.range 4).all fun s => (List.range 3).all fun f => lookQ (s + 1) (f + 1)) = true := by decide +kernel

set_option maxRecDepth 100000 in
theorem ring_R : ((List.range 8).all fun k => lookR (2 * k + 1)) = true := by decide +kernel

end Go.Proofs.Ytlkjpmdnhccdpaa

namespace Go.Proofs.Ytlkjpmdnhccdpaa
set_option linter.unusedSimpArgs false
set_option linter.unusedVariables false
open Go.RowKit

theorem lowD_le (n d : Int) (hd : 0 < d) : lowD n d ≤ d := by
  unfold lowD
  rw [if_neg (by omega)]
  have h1 := gcdI_pos n d (by omega)
  exact Int.le_trans (Int.tdiv_le_self _ (by omega)) (Int.le_refl _)

theorem mul_bd {x y a b : Int} (hx : 0 ≤ x) (hxa : x ≤ a) (hy : 0 ≤ y) (hyb : y ≤ b) : 0 ≤ x * y ∧ x * y ≤ a * b :=
  ⟨Int.mul_nonneg hx hy, Int.mul_le_mul hxa hyb hy (by omega)⟩

theorem abs_le_of_cross {u a n d : Int} {N : Int} (ha : 0 < a) (hd : 0 ≤ d) (hda : d ≤ a) (hn : -N ≤ n ∧ n ≤ N) (e : u * a = n * d) : -N ≤ u ∧ u ≤ N := by
  have hN : 0 ≤ N := by omega
  have b1 : n * d ≤ N * a := Int.le_trans (Int.mul_le_mul_of_nonneg_right hn.2 hd) (Int.mul_le_mul_of_nonneg_left hda hN)
  have b2 : -(N * a) ≤ n * d := by
    have c1 : (-N) * d ≤ n * d := Int.mul_le_mul_of_nonneg_right hn.1 hd
    have c2 : N * d ≤ N * a := Int.mul_le_mul_of_nonneg_left hda hN
    have c3 : (-N) * d = -(N * d) := Int.neg_mul _ _
    omega
  rw [← e] at b1 b2
  constructor
  · have : (-N) * a ≤ u * a := by rw [Int.neg_mul]; exact b2
    exact Int.le_of_mul_le_mul_right this ha
  · exact Int.le_of_mul_le_mul_right b1 ha

/-- how great the weights are -/
structure MixBd (x y : List Int) (a b u d : Int) : Prop where
  xl : x.length ≤ 4
  yl : y.length ≤ 4
  xs : ∀ k, k ≤ x.length → 0 ≤ sumW x k ∧ sumW x k ≤ 400000
  ys : ∀ k, k ≤ y.length → 0 ≤ sumW y k ∧ sumW y k ≤ 400000
  xb : ∀ i, i < x.length → 0 ≤ nth x i * b ∧ nth x i * b ≤ 40000000000
  xbd : ∀ i, i < x.length → 0 ≤ nth x i * b * d ∧ nth x i * b * d ≤ 16000000000000000
  ya : ∀ i, i < y.length → 0 ≤ nth y i * a ∧ nth y i * a ≤ 40000000000
  yad : ∀ i, i < y.length → 0 ≤ nth y i * a * d ∧ nth y i * a * d ≤ 16000000000000000
  ab : 0 ≤ a * b ∧ a * b ≤ 160000000000
  abu : -2304000000000000000 ≤ a * b * u ∧ a * b * u ≤ 2304000000000000000

theorem mix_bd {g : List (List Int)} (h : solB g = true) : (solX g).length = g.length ∧ (solY g).length = (rowAt g 0).length ∧ MixBd (solX g) (solY g) (sumW (solX g) (solX g).length) (sumW (solY g) (solY g).length) (solU g) (solD g) := by
  obtain ⟨hgb, h4, h4', hset, eu, ed⟩ := sol_parts h
  have hg := Game.of hgb
  obtain ⟨sx, sy, _, _⟩ := set_of hset
  have mx := (safB_iff.1 sx).2
  have my := (risB_iff.1 sy).2
  have xl := mx.len
  have yl := my.len
  have xs : ∀ k, k ≤ (solX g).length → 0 ≤ sumW (solX g) k ∧ sumW (solX g) k ≤ 400000 := fun k hk => by
    have := sumW_bd (solX g) k (fun i hi => ⟨mx.wlo i (by omega), mx.whi i (by omega)⟩); omega
  have ys : ∀ k, k ≤ (solY g).length → 0 ≤ sumW (solY g) k ∧ sumW (solY g) k ≤ 400000 := fun k hk => by
    have := sumW_bd (solY g) k (fun i hi => ⟨my.wlo i (by omega), my.whi i (by omega)⟩); omega
  have ha := xs _ (Nat.le_refl _)
  have hb := ys _ (Nat.le_refl _)
  have hap : 0 < sumW (solX g) (solX g).length := by rw [xl]; exact mx.pos
  have hnn := safeN_bd hg mx
  have e1 : lowU (safeN g (solX g)) (sumW (solX g) (solX g).length) = solU g := by rw [eu]; unfold safU; rw [if_pos sx]
  have e2 : lowD (safeN g (solX g)) (sumW (solX g) (solX g).length) = solD g := by rw [ed]; unfold safD; rw [if_pos sx]
  have hc := low_cross (safeN g (solX g)) (sumW (solX g) (solX g).length) (by omega)
  have hd1 := lowD_pos (safeN g (solX g)) (sumW (solX g) (solX g).length) (by omega)
  have hd2 := lowD_le (safeN g (solX g)) (sumW (solX g) (solX g).length) hap
  rw [e1, e2] at hc
  rw [e2] at hd1 hd2
  have hu := abs_le_of_cross (N := 14400000) hap (by omega) hd2 hnn hc
  refine ⟨xl, yl, by omega, by omega, xs, ys, fun i hi => ?_, fun i hi => ?_, fun i hi => ?_, fun i hi => ?_, ?_, ?_⟩
  · have := mul_bd (mx.wlo i (by omega)) (mx.whi i (by omega)) hb.1 hb.2; omega
  · have h1 := mul_bd (mx.wlo i (by omega)) (mx.whi i (by omega)) hb.1 hb.2
    have h2 := mul_bd h1.1 h1.2 (show (0 : Int) ≤ solD g by omega) (show solD g ≤ 400000 by omega); omega
  · have := mul_bd (my.wlo i (by omega)) (my.whi i (by omega)) ha.1 ha.2; omega
  · have h1 := mul_bd (my.wlo i (by omega)) (my.whi i (by omega)) ha.1 ha.2
    have h2 := mul_bd h1.1 h1.2 (show (0 : Int) ≤ solD g by omega) (show solD g ≤ 400000 by omega); omega
  · have := mul_bd ha.1 ha.2 hb.1 hb.2; omega
  · have h1 := mul_bd ha.1 ha.2 hb.1 hb.2
    rcases Int.le_total 0 (solU g) with q | q
    · have h2 := mul_bd h1.1 h1.2 q hu.2; omega
    · have h2 := mul_bd h1.1 h1.2 (show (0 : Int) ≤ -solU g by omega) (show -solU g ≤ 14400000 by omega)
      rw [Int.mul_neg] at h2; omega

/-- the first k weights of the rows, of the columns -/
def mixX (x : List Int) (b d : Int) (k : Nat) : List Int := (x.take k).map fun t => t * b * d

def mixY (x y : List Int) (a b d : Int) (k : Nat) : List Int := mixX x b d x.length ++ (y.take k).map fun t => t * a * d

theorem mixX_length {x : List Int} {b d : Int} {k : Nat} (h : k ≤ x.length) : (mixX x b d k).length = k := by simp [mixX]; omega

theorem mixY_length {x y : List Int} {a b d : Int} {k : Nat} (h : k ≤ y.length) : (mixY x y a b d k).length = x.length + k := by simp [mixY, mixX]; omega

theorem mixX_zero (x : List Int) (b d : Int) : mixX x b d 0 = [] := by simp [mixX]

theorem take_next (x : List Int) {k : Nat} (h : k < x.length) : x.take (k + 1) = x.take k ++ [nth x k] := by
  rw [List.take_add_one]; unfold nth; simp [h]

theorem mixX_succ {x : List Int} {b d : Int} {k : Nat} (h : k < x.length) : mixX x b d (k + 1) = mixX x b d k ++ [nth x k * b * d] := by
  unfold mixX; rw [take_next x h]; simp

theorem mixY_zero (x y : List Int) (a b d : Int) : mixY x y a b d 0 = mixX x b d x.length := by simp [mixY]

theorem mixY_succ {x y : List Int} {a b d : Int} {k : Nat} (h : k < y.length) : mixY x y a b d (k + 1) = mixY x y a b d k ++ [nth y k * a * d] := by
  unfold mixY; rw [take_next y h]; simp

theorem mixY_all (x y : List Int) (a b u d : Int) : mixY x y a b d y.length ++ [a * b * u] = mixF x y a b u d := by
  unfold mixY mixX mixF; simp

end Go.Proofs.Ytlkjpmdnhccdpaa
