/- Texts in one: Boxm, BoxS, BoxT. -/
import Derived.Test.YtjmmkbhdldeciaaMF
import Derived.Test.YtjmmkbhdldeciaaMD
import Derived.Test.YtjmmkbhdldeciaaMQ
import Derived.Deep.AppendLies
import Derived.Deep.RegionLaw
namespace Go.Proofs.Ytjmmkbhdldeciaa
set_option linter.unusedSimpArgs false
set_option linter.unusedVariables false
open Go.RowKit

/-- are the first k numbers in 1..9 -/
def rngB (w : List Int) : Nat → Bool
  | 0 => true
  | k + 1 => rngB w k && inR (nth w k) 1 9

theorem rngB_iff {w : List Int} {k : Nat} : rngB w k = true ↔ ∀ i, i < k → 1 ≤ nth w i ∧ nth w i ≤ 9 := by
  induction k with
  | zero => simp [rngB]
  | succ k ih =>
    simp only [rngB, Bool.and_eq_true, ih, inR, decide_eq_true_eq]
    constructor
    · rintro ⟨h1, h2⟩ i hi
      by_cases e : i = k
      · subst e; exact h2
      · exact h1 i (by omega)
    · intro h; exact ⟨fun i hi => h i (by omega), h k (by omega)⟩

theorem rngB_no {w : List Int} {k n : Nat} (h : inR (nth w k) 1 9 = false) (hk : k < n) : rngB w n = false := by
  cases e : rngB w n with
  | false => rfl
  | true =>
    have := rngB_iff.1 e k hk
    unfold inR at h
    rw [decide_eq_false_iff_not] at h
    exact absurd this h

def fewB (n : Nat) : Bool := decide (1 ≤ n) && decide (n ≤ 6)

def boxesB (w : List Int) : Bool := fewB w.length && rngB w w.length

structure Boxes (w : List Int) : Prop where
  lo : 1 ≤ w.length
  hi : w.length ≤ 6
  vlo : ∀ i, i < w.length → 1 ≤ nth w i
  vhi : ∀ i, i < w.length → nth w i ≤ 9

theorem fewB_iff {n : Nat} : fewB n = true ↔ 1 ≤ n ∧ n ≤ 6 := by simp [fewB]

theorem boxesB_iff {w : List Int} : boxesB w = true ↔ Boxes w := by
  unfold boxesB
  rw [Bool.and_eq_true, fewB_iff, rngB_iff]
  exact ⟨fun ⟨⟨h1, h2⟩, h3⟩ => ⟨h1, h2, fun i hi => (h3 i hi).1, fun i hi => (h3 i hi).2⟩, fun h => ⟨⟨h.lo, h.hi⟩, fun i hi => ⟨h.vlo i hi, h.vhi i hi⟩⟩⟩

/-! the least common multiple of the first k -/

def ovN (w : List Int) : Nat → Int
  | 0 => 1
  | k + 1 => ovN w k / gcdI (ovN w k) (nth w k) * nth w k

/-- n by the common divisor, times v: it is a multiple of both, and divides each common multiple -/
theorem lcm_step {n v M : Int} (hn : 0 < n) (hv : 0 < v) (hnM : n ∣ M) (hvM : v ∣ M) : 0 < n / gcdI n v * v ∧ n ∣ n / gcdI n v * v ∧ v ∣ n / gcdI n v * v ∧ n / gcdI n v * v ∣ M := by
  have hg : 1 ≤ gcdI n v := gcdI_pos n v (by omega)
  obtain ⟨a, ha⟩ := gcdI_dvd_left n v
  obtain ⟨b, hb⟩ := gcdI_dvd_right n v
  obtain ⟨d, hd⟩ : ∃ d, gcdI n v = d := ⟨_, rfl⟩
  have hcop : Int.gcd a b = 1 := by
    have h1 : Int.gcd n v = Int.gcd (d * a) (d * b) := by rw [← hd, ← ha, ← hb]
    rw [Int.gcd_mul_left] at h1
    have h2 : (Int.gcd n v : Int) = d := hd
    have h3 : d.natAbs = Int.gcd n v := by omega
    rw [h3] at h1
    have h4 : 0 < Int.gcd n v := by omega
    have h5 : Int.gcd n v * Int.gcd a b = Int.gcd n v * 1 := by omega
    exact Nat.eq_of_mul_eq_mul_left h4 h5
  rw [hd] at ha hb hg ⊢
  have e1 : n / d = a := by rw [ha]; exact Int.mul_ediv_cancel_left a (by omega)
  rw [e1]
  have ha0 : 0 < a := by
    rcases Int.lt_or_le 0 a with h | h
    · exact h
    · have : d * a ≤ 0 := Int.mul_nonpos_of_nonneg_of_nonpos (by omega) h
      omega
  refine ⟨Int.mul_pos ha0 hv, ⟨b, by rw [ha, hb]; grind⟩, ⟨a, Int.mul_comm _ _⟩, ?_⟩
  -- a * v divides M: v = d b, n = d a, both divide M, a and b have no common divisor
  obtain ⟨x, hx⟩ := hnM
  obtain ⟨y, hy⟩ := hvM
  have h1 : d * (a * x) = d * (b * y) := by rw [← Int.mul_assoc, ← Int.mul_assoc, ← ha, ← hb, ← hx, ← hy]
  have h2 : a * x = b * y := Int.eq_of_mul_eq_mul_left (by omega) h1
  have h3 : a ∣ b * y := ⟨x, h2.symm⟩
  have h4 : a ∣ y := by
    have k1 : a.natAbs ∣ b.natAbs * y.natAbs := by rw [← Int.natAbs_mul]; exact Int.natAbs_dvd_natAbs.2 h3
    exact Int.natAbs_dvd_natAbs.1 (Nat.Coprime.dvd_of_dvd_mul_left (show Nat.Coprime a.natAbs b.natAbs from hcop) k1)
  obtain ⟨z, hz⟩ := h4
  exact ⟨z, by rw [hy, hz]; grind⟩

theorem dvd_2520 {v : Int} (h1 : 1 ≤ v) (h2 : v ≤ 9) : v ∣ 2520 := by
  have : v = 1 ∨ v = 2 ∨ v = 3 ∨ v = 4 ∨ v = 5 ∨ v = 6 ∨ v = 7 ∨ v = 8 ∨ v = 9 := by omega
  rcases this with rfl | rfl | rfl | rfl | rfl | rfl | rfl | rfl | rfl <;> decide

theorem ov_facts {w : List Int} (k : Nat) (h : ∀ i, i < k → 1 ≤ nth w i ∧ nth w i ≤ 9) : 0 < ovN w k ∧ ovN w k ∣ 2520 ∧ ∀ i, i < k → nth w i ∣ ovN w k := by
  induction k with
  | zero => exact ⟨by show (0 : Int) < 1; decide, ⟨2520, rfl⟩, fun i hi => absurd hi (Nat.not_lt_zero _)⟩
  | succ k ih =>
    obtain ⟨h1, h2, h3⟩ := ih fun i hi => h i (by omega)
    obtain ⟨v1, v2⟩ := h k (by omega)
    obtain ⟨k1, k2, k3, k4⟩ := lcm_step h1 (by omega) h2 (dvd_2520 v1 v2)
    refine ⟨k1, k4, fun i hi => ?_⟩
    by_cases e : i = k
    · subst e; exact k3
    · exact Int.dvd_trans (h3 i (by omega)) k2

theorem ov_le {w : List Int} {k : Nat} (h : ∀ i, i < k → 1 ≤ nth w i ∧ nth w i ≤ 9) : 1 ≤ ovN w k ∧ ovN w k ≤ 2520 := by
  obtain ⟨h1, h2, _⟩ := ov_facts k h
  exact ⟨by omega, Int.le_of_dvd (by decide) h2⟩

theorem ov_next {w : List Int} {k : Nat} (h : ∀ i, i < k + 1 → 1 ≤ nth w i ∧ nth w i ≤ 9) : ovN w k ∣ ovN w (k + 1) := by
  obtain ⟨h1, h2, _⟩ := ov_facts k fun i hi => h i (by omega)
  obtain ⟨v1, v2⟩ := h k (by omega)
  exact (lcm_step h1 (by omega) h2 (dvd_2520 v1 v2)).2.1

theorem ov_congr {w u : List Int} {k : Nat} (h : ∀ i, i < k → nth w i = nth u i) : ovN w k = ovN u k := by
  induction k with
  | zero => rfl
  | succ k ih => simp only [ovN]; rw [ih fun i hi => h i (by omega), h k (by omega)]

/-- the multiple of all -/
def ovW (w : List Int) : Int := ovN w w.length

def wtN (w : List Int) (i : Nat) : Int := ovW w / nth w i

def wts (w : List Int) : List Int := (List.range w.length).map (wtN w)

theorem wts_length (w : List Int) : (wts w).length = w.length := by simp [wts]

theorem nth_wts (w : List Int) (i : Nat) (h : i < w.length) : nth (wts w) i = wtN w i := by unfold wts nth; simp [h]

theorem Boxes.rng {w : List Int} (h : Boxes w) : ∀ i, i < w.length → 1 ≤ nth w i ∧ nth w i ≤ 9 := fun i hi => ⟨h.vlo i hi, h.vhi i hi⟩

theorem Boxes.ov {w : List Int} (h : Boxes w) : 1 ≤ ovW w ∧ ovW w ≤ 2520 := ov_le h.rng

/-- all boxes are as good -/
theorem wt_mul {w : List Int} (h : Boxes w) {i : Nat} (hi : i < w.length) : wtN w i * nth w i = ovW w := Int.ediv_mul_cancel ((ov_facts _ h.rng).2.2 i hi)

theorem wt_bd {w : List Int} (h : Boxes w) {i : Nat} (hi : i < w.length) : 1 ≤ wtN w i ∧ wtN w i ≤ 2520 := by
  have e := wt_mul h hi
  obtain ⟨o1, o2⟩ := h.ov
  have v1 := h.vlo i hi
  constructor
  · rcases Int.lt_or_le 0 (wtN w i) with hp | hp
    · omega
    · have : wtN w i * nth w i ≤ 0 := Int.mul_nonpos_of_nonpos_of_nonneg hp (by omega)
      omega
  · rcases Int.lt_or_le 2520 (wtN w i) with hp | hp
    · have : wtN w i * 1 ≤ wtN w i * nth w i := Int.mul_le_mul_of_nonneg_left v1 (by omega)
      omega
    · exact hp

/-- the sum of the weights -/
def smW (w : List Int) : Int := sumW (wts w) w.length

theorem sumW_gek {x : List Int} {k i : Nat} (h : ∀ j, j < k → 0 ≤ nth x j) (hi : i < k) : nth x i ≤ sumW x k := by
  induction k with
  | zero => omega
  | succ k ih =>
    simp only [sumW]
    have hk := h k (by omega)
    have hs : ∀ m, m ≤ k → 0 ≤ sumW x m := fun m hm => by
      induction m with
      | zero => exact Int.le_refl _
      | succ m ihm => simp only [sumW]; have := ihm (by omega); have := h m (by omega); omega
    by_cases e : i = k
    · subst e; have := hs i (Nat.le_refl _); omega
    · have := ih (fun j hj => h j (by omega)) (by omega); omega

theorem sumW_up {x : List Int} {k : Nat} {B : Int} (h : ∀ j, j < k → nth x j ≤ B) : sumW x k ≤ B * (k : Int) := by
  induction k with
  | zero => simp [sumW]
  | succ k ih =>
    simp only [sumW]
    have h1 := ih fun j hj => h j (by omega)
    have h2 := h k (by omega)
    have e : B * ((k + 1 : Nat) : Int) = B * (k : Int) + B := by rw [Int.natCast_succ, Int.mul_add, Int.mul_one]
    omega

theorem wts_bd {w : List Int} (h : Boxes w) : ∀ j, j < w.length → 1 ≤ nth (wts w) j ∧ nth (wts w) j ≤ 2520 := fun j hj => by rw [nth_wts w j hj]; exact wt_bd h hj

theorem sm_bd {w : List Int} (h : Boxes w) : 1 ≤ smW w ∧ smW w ≤ 15120 := by
  have h1 := wts_bd h
  have h2 := sumW_gek (x := wts w) (k := w.length) (i := 0) (fun j hj => by have := h1 j hj; omega) (by have := h.lo; omega)
  have h3 := sumW_up (x := wts w) (k := w.length) (B := 2520) fun j hj => (h1 j hj).2
  have h4 := (h1 0 (by have := h.lo; omega)).1
  have h5 := h.hi
  unfold smW
  refine ⟨by omega, ?_⟩
  have : (2520 : Int) * (w.length : Int) ≤ 2520 * 6 := Int.mul_le_mul_of_nonneg_left (by omega) (by decide)
  omega

/-! the game of boxes -/

def boxRow (w : List Int) (i : Nat) : List Int := (List.range w.length).map fun j => if j = i then nth w i else 0

def boxT (w : List Int) : List (List Int) := (List.range w.length).map (boxRow w)

def boxG (w : List Int) : List (List Int) := if boxesB w = true then boxT w else []

theorem boxRow_length (w : List Int) (i : Nat) : (boxRow w i).length = w.length := by simp [boxRow]

theorem nth_boxRow (w : List Int) (i j : Nat) (h : j < w.length) : nth (boxRow w i) j = if j = i then nth w i else 0 := by unfold boxRow nth; simp [h]

theorem boxT_length (w : List Int) : (boxT w).length = w.length := by simp [boxT]

theorem rowAt_boxT (w : List Int) (i : Nat) (h : i < w.length) : rowAt (boxT w) i = boxRow w i := by unfold boxT rowAt; simp [h]

theorem box_game {w : List Int} (h : Boxes w) : Game (boxT w) w.length := by
  have h1 := h.lo
  have h2 := h.hi
  refine ⟨by rw [boxT_length]; exact h1, by rw [boxT_length]; omega, h1, by omega, fun i hi => ?_, fun i hi j hj => ?_, fun i hi j hj => ?_⟩ <;> rw [boxT_length] at hi <;> rw [rowAt_boxT w i hi]
  · exact boxRow_length w i
  · rw [nth_boxRow w i j hj]; have := h.vlo i hi; split <;> omega
  · rw [nth_boxRow w i j hj]; have := h.vhi i hi; split <;> omega

theorem boxG_yes {w : List Int} (h : boxesB w = true) : boxG w = boxT w := by unfold boxG; rw [if_pos h]

theorem boxG_no {w : List Int} (h : boxesB w = false) : boxG w = [] := by unfold boxG; rw [if_neg (by rw [h]; decide)]

theorem boxG_gameB (w : List Int) : gameB (boxG w) = boxesB w := by
  rcases h : boxesB w with _ | _
  · rw [boxG_no h]; rfl
  · rw [boxG_yes h]; exact (box_game (boxesB_iff.1 h)).to.1

theorem boxG_len (w : List Int) : (boxG w).length ≤ 16 ∧ ∀ i, i < (boxG w).length → (rowAt (boxG w) i).length ≤ 16 := by
  rcases h : boxesB w with _ | _
  · rw [boxG_no h]; exact ⟨by simp, fun i hi => by simp at hi⟩
  · have hg := box_game (boxesB_iff.1 h)
    rw [boxG_yes h]; exact ⟨hg.hi, fun i hi => by rw [hg.len i hi]; exact hg.mhi⟩

theorem boxT_cols {w : List Int} (h : Boxes w) : (rowAt (boxT w) 0).length = w.length := by rw [rowAt_boxT w 0 (by have := h.lo; omega), boxRow_length]

theorem wts_mix {w : List Int} (h : Boxes w) : Mix (wts w) w.length := by
  have h1 := wts_bd h
  have h2 := h.lo
  have h3 := h.hi
  exact ⟨wts_length w, h2, by omega, fun i hi => by have := h1 i hi; omega, fun i hi => by have := h1 i hi; omega, by have := (sm_bd h).1; unfold smW at this; omega⟩

theorem dot_one (x l : List Int) (i : Nat) (v : Int) (k : Nat) (h : ∀ j, j < k → nth l j = if j = i then v else 0) : dotW x l k = if i < k then nth x i * v else 0 := by
  induction k with
  | zero => rfl
  | succ k ih =>
    simp only [dotW]
    rw [ih fun j hj => h j (by omega), h k (by omega)]
    by_cases e : k = i
    · subst e; rw [if_neg (Nat.lt_irrefl _), if_pos rfl, if_pos (Nat.lt_succ_self _)]; omega
    · rw [if_neg e]
      by_cases h1 : i < k
      · rw [if_pos h1, if_pos (by omega)]; omega
      · rw [if_neg h1, if_neg (by omega)]; omega

theorem box_col {w : List Int} (h : Boxes w) {j : Nat} (hj : j < w.length) : colD (boxT w) (wts w) j = ovW w := by
  unfold colD
  rw [boxT_length, dot_one (wts w) _ j (nth w j) w.length (fun i hi => by
    rw [nth_col _ _ _ (by rw [boxT_length]; exact hi), rowAt_boxT w i hi, nth_boxRow w i j hj]
    by_cases e : i = j
    · subst e; rfl
    · rw [if_neg (fun e' => e e'.symm), if_neg e]), if_pos hj, nth_wts w j hj]
  exact wt_mul h hj

theorem box_row {w : List Int} (h : Boxes w) {i : Nat} (hi : i < w.length) : rowD (boxT w) (wts w) i = ovW w := by
  unfold rowD
  rw [wts_length, dot_one (wts w) _ i (nth w i) w.length (fun j hj => by rw [rowAt_boxT w i hi, nth_boxRow w i j hj]), if_pos hi, nth_wts w i hi]
  exact wt_mul h hi

theorem box_safe {w : List Int} (h : Boxes w) : safeN (boxT w) (wts w) = ovW w := by
  have hc := boxT_cols h
  unfold safeN
  obtain ⟨j, hj, e⟩ := lowN_at (colsD (boxT w) (wts w)) (k := (rowAt (boxT w) 0).length) (by rw [hc]; have := h.lo; omega)
  rw [e, nth_colsD _ _ _ hj]; rw [hc] at hj; exact box_col h hj

theorem box_risk {w : List Int} (h : Boxes w) : riskN (boxT w) (wts w) = ovW w := by
  unfold riskN
  obtain ⟨i, hi, e⟩ := highN_at (rowsD (boxT w) (wts w)) (k := (boxT w).length) (by rw [boxT_length]; have := h.lo; omega)
  rw [e, nth_rowsD _ _ _ hi]; rw [boxT_length] at hi; exact box_row h hi

/-- the weights are settled -/
theorem box_saf {w : List Int} (h : Boxes w) : safB (boxT w) (wts w) = true ∧ safU (boxT w) (wts w) = lowU (ovW w) (smW w) ∧ safD (boxT w) (wts w) = lowD (ovW w) (smW w) := by
  have hb : safB (boxT w) (wts w) = true := safB_iff.2 ⟨(box_game h).to.1, by rw [boxT_length]; exact wts_mix h⟩
  refine ⟨hb, ?_, ?_⟩
  · unfold safU; rw [if_pos hb, box_safe h, wts_length]; rfl
  · unfold safD; rw [if_pos hb, box_safe h, wts_length]; rfl

theorem box_ris {w : List Int} (h : Boxes w) : risB (boxT w) (wts w) = true ∧ risU (boxT w) (wts w) = lowU (ovW w) (smW w) ∧ risD (boxT w) (wts w) = lowD (ovW w) (smW w) := by
  have hb : risB (boxT w) (wts w) = true := risB_iff.2 ⟨(box_game h).to.1, by rw [boxT_cols h]; exact wts_mix h⟩
  refine ⟨hb, ?_, ?_⟩
  · unfold risU; rw [if_pos hb, box_risk h, wts_length]; rfl
  · unfold risD; rw [if_pos hb, box_risk h, wts_length]; rfl

theorem box_set {w : List Int} (h : Boxes w) : setB (boxT w) (wts w) (wts w) = true := by
  obtain ⟨s1, s2, s3⟩ := box_saf h
  obtain ⟨r1, r2, r3⟩ := box_ris h
  unfold setB; rw [s1, r1, s2, s3, r2, r3]; simp

/-! what boxes are worth -/

def bxU (w : List Int) : Int := if boxesB w = true then lowU (ovW w) (smW w) else 0

def bxD (w : List Int) : Int := if boxesB w = true then lowD (ovW w) (smW w) else 0

def boxWts (w : List Int) : List Int := if boxesB w = true then wts w else []

theorem bxU_yes {w : List Int} (h : boxesB w = true) : bxU w = lowU (ovW w) (smW w) := by unfold bxU; rw [if_pos h]

theorem bxD_yes {w : List Int} (h : boxesB w = true) : bxD w = lowD (ovW w) (smW w) := by unfold bxD; rw [if_pos h]

theorem bx_no {w : List Int} (h : boxesB w = false) : bxU w = 0 ∧ bxD w = 0 ∧ boxWts w = [] := by
  have e : ¬ boxesB w = true := by rw [h]; decide
  unfold bxU bxD boxWts; rw [if_neg e, if_neg e, if_neg e]; exact ⟨rfl, rfl, rfl⟩

theorem boxWts_yes {w : List Int} (h : boxesB w = true) : boxWts w = wts w := by unfold boxWts; rw [if_pos h]

theorem boxWts_len (w : List Int) : (boxWts w).length ≤ 6 := by
  rcases h : boxesB w with _ | _
  · rw [(bx_no h).2.2]; simp
  · rw [boxWts_yes h, wts_length]; exact (boxesB_iff.1 h).hi

theorem bx_okB {w : List Int} (h : boxesB w = true) : okB (bxU w) (bxD w) = true := by
  have hb := boxesB_iff.1 h
  obtain ⟨o1, o2⟩ := hb.ov
  obtain ⟨s1, s2⟩ := sm_bd hb
  rw [bxU_yes h, bxD_yes h]; exact low_okB (by omega) (by omega) (by omega) (by omega)

/-- boxes are worth one by the sum -/
theorem bx_sol {w : List Int} (h : boxesB w = true) : solB (boxG w) = decide (w.length ≤ 4) ∧ (w.length ≤ 4 → solU (boxG w) = bxU w ∧ solD (boxG w) = bxD w) := by
  have hb := boxesB_iff.1 h
  rw [boxG_yes h, bxU_yes h, bxD_yes h]
  have key : w.length ≤ 4 → solB (boxT w) = true ∧ solU (boxT w) = lowU (ovW w) (smW w) ∧ solD (boxT w) = lowD (ovW w) (smW w) := fun h4 => by
    obtain ⟨a1, a2, a3⟩ := sol_val (box_set hb) (by rw [boxT_length]; exact h4) (by rw [boxT_cols hb]; exact h4)
    obtain ⟨_, s2, s3⟩ := box_saf hb
    exact ⟨a1, a2.trans s2, a3.trans s3⟩
  refine ⟨?_, fun h4 => ⟨(key h4).2.1, (key h4).2.2⟩⟩
  by_cases h4 : w.length ≤ 4
  · rw [decide_eq_true h4]; exact (key h4).1
  · rw [decide_eq_false h4, Bool.eq_false_iff]
    intro e; have := (sol_iff.1 e).2.1; rw [boxT_length] at this; exact h4 this

/-- at most what each box is worth -/
theorem bx_less {w : List Int} (h : boxesB w = true) {k : Nat} (hk : k < w.length) : lessB (nth w k) 1 (bxU w) (bxD w) = false := by
  have hb := boxesB_iff.1 h
  obtain ⟨s1, s2⟩ := sm_bd hb
  have hok := bx_okB h
  have v1 := hb.vlo k hk
  have v2 := hb.vhi k hk
  have hkk : okB (nth w k) 1 = true := okB_iff.2 ⟨by omega, by omega, by omega, by omega, by unfold gcdI; simp⟩
  rw [lessB_ok hkk hok]
  refine decide_eq_false (Int.not_lt.2 ?_)
  -- U * 1 ≤ w_k * D
  have h1 : ovW w * 1 ≤ nth w k * smW w := by
    have e := wt_mul hb hk
    have hs : wtN w k ≤ smW w := by
      have := sumW_gek (x := wts w) (k := w.length) (i := k) (fun j hj => by have := wts_bd hb j hj; omega) hk
      rw [nth_wts w k hk] at this; exact this
    have := Int.mul_le_mul_of_nonneg_left hs (show 0 ≤ nth w k by omega)
    rw [Int.mul_comm (nth w k) (wtN w k)] at this
    omega
  have h2 := low_le (a := nth w k) (b := ovW w) (s := 1) (t := smW w) (by omega) (by omega) h1
  rw [(low_one (nth w k)).1, (low_one (nth w k)).2, ← bxU_yes h, ← bxD_yes h] at h2
  exact h2

theorem cross4 {O o S s U u D d : Int} (c1 : u * s = o * d) (c2 : U * S = O * D) (g : U * d = u * D) : (O * s) * (D * d) = (o * S) * (D * d) := by
  have e1 : (O * s) * (D * d) = (O * D) * (s * d) := by grind
  have e2 : (U * S) * (s * d) = (U * d) * (S * s) := by grind
  have e3 : (u * D) * (S * s) = (u * s) * (S * D) := by grind
  have e4 : (o * d) * (S * D) = (o * S) * (D * d) := by grind
  rw [e1, ← c2, e2, g, e3, c1, e4]

/-! a further box -/

def wbB (w : List Int) (v : Int) : Bool := boxesB w && boxesB (w ++ [v])

def wbL (w : List Int) (v : Int) : List Int := if wbB w v = true then w ++ [v] else []

theorem wb_no {w : List Int} {v : Int} (h : wbB w v = false) : wbL w v = [] := by unfold wbL; rw [if_neg (by rw [h]; decide)]

theorem wb_yes {w : List Int} {v : Int} (h : wbB w v = true) : wbL w v = w ++ [v] ∧ boxesB w = true ∧ boxesB (w ++ [v]) = true := by
  have h' := h
  unfold wbB at h'; rw [Bool.and_eq_true] at h'
  exact ⟨by unfold wbL; rw [if_pos h], h'.1, h'.2⟩

theorem wb_len (w : List Int) (v : Int) : (wbL w v).length ≤ 6 := by
  rcases h : wbB w v with _ | _
  · rw [wb_no h]; simp
  · rw [(wb_yes h).1]; exact (boxesB_iff.1 (wb_yes h).2.2).hi

theorem sumW_scale {x y : List Int} {c : Int} {k : Nat} (h : ∀ j, j < k → nth y j = c * nth x j) : sumW y k = c * sumW x k := by
  induction k with
  | zero => simp [sumW]
  | succ k ih => simp only [sumW]; rw [ih fun j hj => h j (by omega), h k (by omega), Int.mul_add]

/-- with a further box it is worth less -/
theorem wb_less {w : List Int} {v : Int} (h : wbB w v = true) : lessB (bxU (wbL w v)) (bxD (wbL w v)) (bxU w) (bxD w) = true := by
  obtain ⟨e, b1, b2⟩ := wb_yes h
  rw [e]
  have hw := boxesB_iff.1 b1
  have hu := boxesB_iff.1 b2
  obtain ⟨u, hu'⟩ : ∃ u, w ++ [v] = u := ⟨_, rfl⟩
  have hlen : u.length = w.length + 1 := by rw [← hu']; simp
  have hold : ∀ i, i < w.length → nth u i = nth w i := fun i hi => by rw [← hu']; exact nth_snoc_lt w v i hi
  rw [hu'] at hu b2 ⊢
  have ho : ovN u w.length = ovW w := ov_congr hold
  have hd : ovW w ∣ ovW u := by
    have := ov_next (w := u) (k := w.length) (by rw [← hlen]; exact hu.rng)
    rw [ho] at this
    unfold ovW at this ⊢; rw [hlen]; exact this
  obtain ⟨c, hc⟩ := hd
  obtain ⟨o1, o2⟩ := hw.ov
  obtain ⟨p1, p2⟩ := hu.ov
  obtain ⟨s1, s2⟩ := sm_bd hw
  obtain ⟨t1, t2⟩ := sm_bd hu
  have hwt : ∀ j, j < w.length → nth (wts u) j = c * nth (wts w) j := fun j hj => by
    rw [nth_wts u j (by omega), nth_wts w j hj]
    have e1 := wt_mul hu (i := j) (by omega)
    have e2 := wt_mul hw hj
    rw [hold j hj] at e1
    have hv := hw.vlo j hj
    have e3 : wtN u j * nth w j = (c * wtN w j) * nth w j := by rw [e1, hc, ← e2]; grind
    exact Int.eq_of_mul_eq_mul_right (by omega) e3
  have hsm : smW u = c * smW w + wtN u w.length := by
    unfold smW
    rw [hlen]; simp only [sumW]
    rw [sumW_scale hwt, nth_wts u w.length (by omega)]
  have hlast := (wt_bd hu (i := w.length) (by omega)).1
  -- ov' * sm < ov * sm'
  have key : ovW u * smW w < ovW w * smW u := by
    rw [hsm, hc]
    have : 0 < ovW w * wtN u w.length := Int.mul_pos (by omega) (by omega)
    have e : ovW w * (c * smW w + wtN u w.length) = ovW w * c * smW w + ovW w * wtN u w.length := by rw [Int.mul_add, Int.mul_assoc]
    omega
  have k1 := bx_okB b1
  have k2 := bx_okB b2
  rw [lessB_ok k2 k1]
  refine decide_eq_true ?_
  rcases Int.lt_or_le (bxU u * bxD w) (bxU w * bxD u) with hlt | hle
  · exact hlt
  · exfalso
    -- the other way round would say so of the numbers themselves
    have g1 := low_le (a := ovW w) (b := ovW u) (s := smW w) (t := smW u) (by omega) (by omega) (by omega)
    rw [← bxU_yes b1, ← bxD_yes b1, ← bxU_yes b2, ← bxD_yes b2] at g1
    have g2 : bxU u * bxD w = bxU w * bxD u := by omega
    have c1 := low_cross (ovW w) (smW w) (by omega)
    have c2 := low_cross (ovW u) (smW u) (by omega)
    rw [← bxU_yes b1, ← bxD_yes b1] at c1
    rw [← bxU_yes b2, ← bxD_yes b2] at c2
    obtain ⟨_, _, d1, _⟩ := okB_iff.1 k1
    obtain ⟨_, _, d2, _⟩ := okB_iff.1 k2
    -- ov * D = U * sm for both
    have f := cross4 c1 c2 g2
    have hp : 0 < bxD u * bxD w := Int.mul_pos (by omega) (by omega)
    have := Int.eq_of_mul_eq_mul_right (by omega) f
    omega

/-! floor and roof -/

def minN (w : List Int) : Nat → Int
  | 0 => 9
  | k + 1 => if nth w k < minN w k then nth w k else minN w k

theorem minN_le {w : List Int} {k i : Nat} (hi : i < k) : minN w k ≤ nth w i := by
  induction k with
  | zero => omega
  | succ k ih =>
    simp only [minN]
    by_cases e : i = k
    · subst e; split <;> omega
    · have := ih (by omega); split <;> omega

theorem minN_at {w : List Int} {k : Nat} (hk : 0 < k) (h : ∀ i, i < k → nth w i ≤ 9) : ∃ i, i < k ∧ minN w k = nth w i := by
  induction k with
  | zero => omega
  | succ k ih =>
    simp only [minN]
    by_cases e : nth w k < minN w k
    · rw [if_pos e]; exact ⟨k, by omega, rfl⟩
    · rw [if_neg e]
      by_cases hk0 : k = 0
      · subst hk0; simp only [minN] at e ⊢; exact ⟨0, by omega, by have := h 0 (by omega); omega⟩
      · obtain ⟨i, h1, h2⟩ := ih (by omega) fun i hi => h i (by omega)
        exact ⟨i, by omega, h2⟩

theorem box_roof {w : List Int} (h : boxesB w = true) : rooV (boxG w) = minN w w.length := by
  have hb := boxesB_iff.1 h
  have hlo := hb.lo
  rw [boxG_yes h]
  have hg := (box_game hb).to.1
  have hc := boxT_cols hb
  have high : ∀ j, j < w.length → nth (highs (boxT w)) j = nth w j := fun j hj => by
    rw [nth_highs _ _ (by rw [hc]; exact hj), boxT_length]
    have hcol : ∀ i, i < w.length → nth (col (boxT w) j) i = if i = j then nth w j else 0 := fun i hi => by
      rw [nth_col _ _ _ (by rw [boxT_length]; exact hi), rowAt_boxT w i hi, nth_boxRow w i j hj]
      by_cases e : i = j
      · subst e; rfl
      · rw [if_neg (fun e' => e e'.symm), if_neg e]
    obtain ⟨i, hi, e⟩ := highN_at (col (boxT w) j) (k := w.length) (by omega)
    have h1 := le_highN (col (boxT w) j) (k := w.length) hj
    rw [hcol j hj, if_pos rfl] at h1
    have v1 := hb.vlo j hj
    rw [e, hcol i hi] at h1 ⊢
    split at h1 <;> omega
  obtain ⟨j, hj, e⟩ := roof_at hg
  rw [hc] at hj
  obtain ⟨i, hi, e2⟩ := minN_at (w := w) (k := w.length) (by omega) fun i hi => hb.vhi i hi
  have h1 := roof_le_high hg i (by rw [hc]; exact hi)
  rw [high i hi] at h1
  have h2 := minN_le (w := w) hj
  rw [e, high j hj] at h1 ⊢
  omega

theorem box_floor {w : List Int} (h : boxesB w = true) (h2 : 2 ≤ w.length) : floV (boxG w) = 0 := by
  have hb := boxesB_iff.1 h
  rw [boxG_yes h]
  have hg := (box_game hb).to.1
  have hc := boxT_cols hb
  have low : ∀ i, i < w.length → nth (lows (boxT w)) i = 0 := fun i hi => by
    rw [nth_lows _ _ (by rw [boxT_length]; exact hi), rowAt_boxT w i hi, boxRow_length]
    obtain ⟨j, hj, e⟩ := lowN_at (boxRow w i) (k := w.length) (by omega)
    have ho : (if i = 0 then 1 else 0) < w.length := by split <;> omega
    have h1 := lowN_le (boxRow w i) ho
    rw [nth_boxRow w i _ ho, if_neg (by split <;> omega)] at h1
    rw [e, nth_boxRow w i j hj] at h1 ⊢
    have v1 := hb.vlo i hi
    split at h1 <;> simp_all <;> omega
  obtain ⟨i, hi, _, e⟩ := floor_at hg
  rw [boxT_length] at hi
  rw [e, low i hi]

/-! boxes in the order from the last one to the first one -/

theorem box_rev (w : List Int) : boxesB (revW w) = boxesB w := by
  have hl := revW_length w
  rw [Bool.eq_iff_iff, boxesB_iff, boxesB_iff]
  constructor
  · intro h
    have := h.lo
    have := h.hi
    refine ⟨by omega, by omega, fun i hi => ?_, fun i hi => ?_⟩
    · have := h.vlo (w.length - 1 - i) (by omega); rw [nth_revW w _ (by omega)] at this; rwa [show w.length - 1 - (w.length - 1 - i) = i from by omega] at this
    · have := h.vhi (w.length - 1 - i) (by omega); rw [nth_revW w _ (by omega)] at this; rwa [show w.length - 1 - (w.length - 1 - i) = i from by omega] at this
  · intro h
    have := h.lo
    have := h.hi
    exact ⟨by omega, by omega, fun i hi => by rw [nth_revW w i (by omega)]; exact h.vlo _ (by omega), fun i hi => by rw [nth_revW w i (by omega)]; exact h.vhi _ (by omega)⟩

end Go.Proofs.Ytjmmkbhdldeciaa

namespace Go.Proofs.Ytjmmkbhdldeciaa
set_option linter.unusedSimpArgs false
set_option linter.unusedVariables false
open Go.RowKit

/-- what a call leaves that hands back a list of its own, and a truth -/
def ListRes (w : World) (l : List Int) (b : Bool) (e : Ending) (w' : World) : Prop :=
  ∃ (A : Option Addr) (c : Nat), e = .returned (.tuple #[.slice A l.length c, .bool b]) ∧ Below w.heap.size w w' ∧ OwnI w' w.heap.size w'.heap.size A l

theorem ListRes.of {w w' : World} {v x : Value} {l : List Int} {b : Bool} (hx : x = .tuple #[v, .bool b]) (h : Grows w' w.heap.size v l) (hb : Below w.heap.size w w') : ListRes w l b (.returned x) w' := by
  obtain ⟨A, c, rfl, _, ho⟩ := h.own
  exact ⟨A, c, by rw [hx], hb, ho⟩

theorem fewB_in (n : Nat) : inR (n : Int) 1 6 = fewB n := by
  rw [Bool.eq_iff_iff]; simp [inR, fewB]; omega

set_option maxHeartbeats 1000000 in
theorem boxes_spec (A : Option Addr) (c : Nat) (l : List Int) (S : Nat → Prop) (hl : l.length ≤ maxLen) (w : World) (h : Ints w S A l) :
    Calls Try.prog 15 #[.slice A l.length c] w (Same (.bool (boxesB l)) w) := by
  unfold maxLen at hl
  have HH := Lib.hid h
  clear h
  go_enter Try.func15, Try.ntmps15
  go_wp2_with fail
  go_loop [3] (fun i => ∃ k : Nat, k ≤ l.length ∧ i = .int .i64 k ∧ Hid (rngB l k = true)) (fun i => l.length - (intOf i).toNat)
  case atStart => exact ⟨0, Nat.zero_le _, rfl, rfl⟩
  case round =>
    obtain ⟨k, hk, rfl, H⟩ := hrel
    by_cases hlt : k < l.length
    · obtain ⟨b, off, rfl, hS, hc⟩ := HH.out.at_ hlt
      have hck := hc k hlt
      clear hc
      rcases hb : inR (nth l k) 1 9 with _ | _
      · have hno : Hid (boxesB l = false) := by show boxesB l = false; unfold boxesB; rw [rngB_no hb hlt]; simp
        have HB := Lib.hid hb
        clear hb
        go_wp2_with (go_at_call 48; refine (in_spec _ _ _ _).mono ?_; rintro e w1 ⟨rfl, rfl⟩; rw [HB.out])
        go_ret
        exact Same.of (by rw [hno.out]; rfl)
      · have hy : Hid (rngB l (k + 1) = true) := by show (rngB l k && _) = true; rw [H.out, hb]; rfl
        have HB := Lib.hid hb
        clear hb
        go_wp2_with (go_at_call 48; refine (in_spec _ _ _ _).mono ?_; rintro e w1 ⟨rfl, rfl⟩; rw [HB.out])
        go_round
        case rel => exact ⟨k + 1, by omega, by go_num, hy⟩
        case measure => simp [intOf]; omega
    · obtain rfl : k = l.length := by omega
      have hy : Hid (boxesB l = fewB l.length) := by show boxesB l = _; unfold boxesB; rw [H.out]; simp
      go_wp2_with fail
      refine (in_spec _ _ _ _).mono ?_
      rintro e w1 ⟨rfl, rfl⟩
      rw [fewB_in, ← hy.out]
      go_wp2_with fail
      go_ret
      exact Same.of rfl

/-- what a step of the fold does, in Go's own operations -/
structure OvStep (w : List Int) (k : Nat) (q : Int) : Prop where
  quo : (ovN w k).tdiv (gcdI (ovN w k) (nth w k)) = q
  wq : IntKind.i64.wrap q = q
  mul : q * nth w k = ovN w (k + 1)
  wm : IntKind.i64.wrap (q * nth w k) = q * nth w k
  nz : gcdI (ovN w k) (nth w k) ≠ 0
  lo : 1 ≤ ovN w k
  hi : ovN w k ≤ 2520

theorem ov_step {w : List Int} (h : Boxes w) {k : Nat} (hk : k < w.length) : ∃ q, OvStep w k q := by
  have hr : ∀ i, i < k → 1 ≤ nth w i ∧ nth w i ≤ 9 := fun i hi => h.rng i (by omega)
  have hr2 : ∀ i, i < k + 1 → 1 ≤ nth w i ∧ nth w i ≤ 9 := fun i hi => h.rng i (by omega)
  obtain ⟨o1, o2⟩ := ov_le hr
  obtain ⟨p1, p2⟩ := ov_le hr2
  have v1 := h.vlo k hk
  have hg := gcdI_pos (ovN w k) (nth w k) (by omega)
  have e : (ovN w k).tdiv (gcdI (ovN w k) (nth w k)) = ovN w k / gcdI (ovN w k) (nth w k) := Int.tdiv_eq_ediv_of_nonneg (by omega)
  have q0 : 0 ≤ ovN w k / gcdI (ovN w k) (nth w k) := Int.ediv_nonneg (by omega) (by omega)
  have q1 : ovN w k / gcdI (ovN w k) (nth w k) ≤ ovN w k := Int.ediv_le_self _ (by omega)
  have em : ovN w k / gcdI (ovN w k) (nth w k) * nth w k = ovN w (k + 1) := rfl
  exact ⟨_, e, IntWalk.i64_in _ ⟨by omega, by omega⟩, em, IntWalk.i64_in _ ⟨by omega, by omega⟩, by omega, o1, o2⟩

set_option maxHeartbeats 400000 in
theorem common_same (a b : Int) (ha : -4611686018427387904 ≤ a) (ha' : a ≤ 4611686018427387904) (hb : -4611686018427387904 ≤ b) (hb' : b ≤ 4611686018427387904) (w : World) :
    Calls Try.prog 75 #[.int .i64 a, .int .i64 b] w (Same (.int .i64 (gcdI a b)) w) := by
  have H0 : Hid (gcdI (max a (-a)) (max b (-b)) = gcdI a b) := gcdI_abs a b
  obtain ⟨m, hm⟩ : ∃ m : Int, m = max a (-a) := ⟨_, rfl⟩
  obtain ⟨n, hn⟩ : ∃ n : Int, n = max b (-b) := ⟨_, rfl⟩
  have hm1 : 0 ≤ m := by omega
  have hm2 : m ≤ 4611686018427387904 := by omega
  have hn1 : 0 ≤ n := by omega
  have hn2 : n ≤ 4611686018427387904 := by omega
  rw [← hm, ← hn] at H0
  have Hm := Lib.hid hm
  have Hn := Lib.hid hn
  clear hm hn
  go_enter Try.func75, Try.ntmps75
  go_wp2_with fail
  refine (size_spec a ha ha' _).mono ?_
  rintro e w' ⟨rfl, rfl⟩
  rw [← Hm.out]
  go_wp2_with fail
  refine (size_spec b hb hb' _).mono ?_
  rintro e w' ⟨rfl, rfl⟩
  rw [← Hn.out]
  go_wp2_with fail
  go_loop [0, 1] (fun x y => ∃ a' b' : Int, 0 ≤ a' ∧ a' ≤ 4611686018427387904 ∧ 0 ≤ b' ∧ b' ≤ 4611686018427387904 ∧ x = .int .i64 a' ∧ y = .int .i64 b' ∧ Hid (gcdI a' b' = gcdI a b)) (fun _ y => (intOf y).natAbs)
  case atStart => exact ⟨m, n, hm1, hm2, hn1, hn2, rfl, rfl, H0.out⟩
  case round =>
    obtain ⟨a', b', h1, h2, h3, h4, rfl, rfl, H⟩ := hrel
    by_cases hz : b' = 0
    · subst hz
      have hm := gcdI_zero a'
      rw [H.out] at hm
      have HM : Hid (gcdI a b = max a' (-a')) := hm
      clear hm H
      go_wp2
      go_ret
      exact Same.of (congrArg (Value.int .i64) (by rw [HM.out]; omega))
    · have hz1 : 0 < b' := by omega
      have hm1 : a' % b' < b' := Int.emod_lt_of_pos _ hz1
      have hm2 : 0 ≤ a' % b' := Int.emod_nonneg _ hz
      go_wp2
      go_round
      case rel => exact ⟨b', a' % b', h3, h4, hm2, by omega, rfl, rfl, (gcdI_emod a' b' h1).trans H.out⟩
      case measure => simp [intOf]; omega

set_option maxHeartbeats 1000000 in
theorem over_spec (A : Option Addr) (c : Nat) (l : List Int) (hx : Boxes l) (S : Nat → Prop) (w : World) (h : Ints w S A l) :
    Calls Try.prog 60 #[.slice A l.length c] w (Quiet (.int .i64 (ovW l)) w) := by
  have hl := hx.hi
  have HX := Lib.hid hx
  have HH := Lib.hid h
  clear h hx
  go_enter Try.func60, Try.ntmps60
  go_wp2_with fail
  go_loopw [3, 4] (fun v i wr => ∃ k : Nat, k ≤ l.length ∧ i = .int .i64 k ∧ v = .int .i64 (ovN l k) ∧ ∃ n, wr = w.drewN n) (fun _ i _ => l.length - (intOf i).toNat)
  case atStart => exact ⟨0, Nat.zero_le _, rfl, rfl, (by first | exact ⟨0, rfl⟩ | exact ⟨_, rfl⟩ | exact ⟨_, World.drewN_drewN _ _ _⟩ | (simp only [World.drewN_drewN]; exact ⟨_, rfl⟩))⟩
  case round =>
    obtain ⟨k, hk, rfl, rfl, n, rfl⟩ := hrel
    by_cases hlt : k < l.length
    · obtain ⟨q, hq1, hq2, hq3, hq4, hq5, hq6, hq7⟩ := ov_step HX.out hlt
      have v1 := HX.out.vlo k hlt
      have v2 := HX.out.vhi k hlt
      obtain ⟨b, off, rfl, hS, hc⟩ := HH.out.at_ hlt
      have hck := hc k hlt
      have HQ3 := Lib.hid hq3
      have HC : Hid (∀ w', Calls Try.prog 75 #[.int .i64 (ovN l k), .int .i64 (nth l k)] w' (Quiet (.int .i64 (gcdI (ovN l k) (nth l k))) w')) := fun w' => (common_same (ovN l k) (nth l k) (by omega) (by omega) (by omega) (by omega) w').mono fun _ _ => Same.quiet
      clear hc hq3
      go_wp2_with fail
      go_quiet ((go_at_call 75; exact quietAdd (HC.out _)))
      rw [HQ3.out]
      go_wp2_with fail
      go_roundw
      all_goals first | (simp [intOf]; omega) | exact ⟨k + 1, by omega, by go_num, rfl, (by first | exact ⟨0, rfl⟩ | exact ⟨_, rfl⟩ | exact ⟨_, World.drewN_drewN _ _ _⟩ | (simp only [World.drewN_drewN]; exact ⟨_, rfl⟩))⟩
    · obtain rfl : k = l.length := by omega
      go_wp2_with fail
      go_ret
      exact Quiet.ofD rfl (by first | exact ⟨0, rfl⟩ | exact ⟨_, rfl⟩ | exact ⟨_, World.drewN_drewN _ _ _⟩ | (simp only [World.drewN_drewN]; exact ⟨_, rfl⟩))

/-- the sum of the weights as far as it is added -/
theorem wtN_quo {w : List Int} (h : Boxes w) {k : Nat} (hk : k < w.length) : (ovW w).tdiv (nth w k) = wtN w k := Int.tdiv_eq_ediv_of_nonneg (by have := h.ov; omega)

set_option maxHeartbeats 2000000 in
theorem boxWorth_spec (A : Option Addr) (c : Nat) (l : List Int) (hl : l.length ≤ maxLen) (w : World) (h : Ints w (· < w.heap.size) A l) :
    Calls Try.prog 26 #[.slice A l.length c] w (Adds (FracRes (bxU l) (bxD l) (boxesB l)) w) := by
  have HH := Lib.hid h
  clear h
  obtain ⟨W, hW⟩ : ∃ W : World, W = (w.alloc (.cells #[(Value.int .i64 0), (Value.int .i64 0)] 35)) := ⟨_, rfl⟩
  have hzW : W.heap.size = w.heap.size + 1 := by rw [hW]; simp
  have hbW : Below w.heap.size w W := by rw [hW]; exact (Below.refl _ _).alloc (Nat.le_refl _) _
  have r00 := stays (p := w.heap.size) (o := 0) (by omega) (show W.cell? ⟨w.heap.size, 0, none⟩ = some ((Value.int .i64 0)) from by rw [hW]; simp [go_sem])
  have g00 := staysF (p := w.heap.size) (o := 0) (by omega) (show W.frozen? ⟨w.heap.size, 0, none⟩ = false from by rw [hW]; simp [go_sem])
  have r01 := stays (p := w.heap.size) (o := 1) (by omega) (show W.cell? ⟨w.heap.size, 1, none⟩ = some ((Value.int .i64 0)) from by rw [hW]; simp [go_sem])
  have g01 := staysF (p := w.heap.size) (o := 1) (by omega) (show W.frozen? ⟨w.heap.size, 1, none⟩ = false from by rw [hW]; simp [go_sem])
  have HW : Hid (Ints W (· < W.heap.size) A l) := (keepInts hbW HH.out).lt hbW.size
  have HOK : Hid (∀ c, Calls Try.prog 15 #[.slice A l.length c] W (Same (.bool (boxesB l)) W)) := fun c => boxes_spec A c l _ hl W HW.out
  have HzW := Lib.hid hzW
  have HBW := Lib.hid hbW
  have HEQ := Lib.hid hW
  rcases hb : boxesB l with _ | _
  · have hno := Lib.hid (bx_no hb)
    rw [hb] at HOK
    clear hb hW hzW hbW
    rw [hno.out.1, hno.out.2.1]
    have e00 := r00 W (Below.refl _ _)
    have e01 := r01 W (Below.refl _ _)
    have f00 := g00 W (Below.refl _ _)
    have f01 := g01 W (Below.refl _ _)
    have hlt : w.heap.size < W.heap.size := by have := HzW.out; omega
    clear r00 r01 g00 g01
    go_enter Try.func26, Try.ntmps26
    go_wp2_with fail
    rw [← HEQ.out]
    refine (HOK.out _).mono ?_
    rintro e w1 ⟨rfl, rfl⟩
    go_wp2_with fail
    refine bodyPost_ret (v := FracRes 0 0 false) (by simp [results, Try.results26, go_sem, FracRes, e00, e01, hlt, Nat.ne_of_lt hlt, Nat.ne_of_gt hlt]) rfl ⟨rfl, ?_⟩
    exact ((HBW.out.setCell (Nat.le_refl _) _).setCell (Nat.le_refl _) _)
  · have hx := boxesB_iff.1 hb
    have HX := Lib.hid hx
    have hlen := hx.hi
    obtain ⟨o1, o2⟩ := hx.ov
    obtain ⟨s1, s2⟩ := sm_bd hx
    have hU := Lib.hid (bxU_yes hb)
    have hD := Lib.hid (bxD_yes hb)
    have HSB : Hid (∀ k, k ≤ l.length → 0 ≤ sumW (wts l) k ∧ sumW (wts l) k ≤ 15120) := fun k hk => by
      have h1 := wts_bd hx
      have h2 := sumW_up (x := wts l) (k := k) (B := 2520) fun j hj => (h1 j (by omega)).2
      have h3 : (2520 : Int) * (k : Int) ≤ 2520 * 6 := Int.mul_le_mul_of_nonneg_left (by omega) (by decide)
      refine ⟨?_, by omega⟩
      clear h2 h3
      induction k with
      | zero => exact Int.le_refl _
      | succ k ih => simp only [sumW]; have := ih (by omega); have := h1 k (by omega); omega
    have HSW : Hid (sumW (wts l) l.length = smW l) := rfl
    have HO : Hid (∀ (w' : World), Below W.heap.size W w' → ∀ c, Calls Try.prog 60 #[.slice A l.length c] w' (Adds (.int .i64 (ovW l)) w')) := fun w' hb' c => (over_spec A c l hx _ w' (keepInts hb' HW.out)).mono fun _ _ => Quiet.adds
    rw [hb] at HOK
    clear hb hW hzW hbW hx
    rw [hU.out, hD.out]
    go_enter Try.func26, Try.ntmps26
    go_wp2_with fail
    rw [← HEQ.out]
    refine (HOK.out _).mono ?_
    rintro e w1 ⟨rfl, rfl⟩
    go_wp2_with fail
    refine (HO.out _ (Below.refl _ _) _).mono ?_
    rintro e w1 ⟨rfl, hb1⟩
    have HB1 := Lib.hid hb1
    clear hb1
    go_wp2_with fail
    go_loop [5, 6] (fun v i => ∃ k : Nat, k ≤ l.length ∧ i = .int .i64 k ∧ v = .int .i64 (sumW (wts l) k)) (fun _ i => l.length - (intOf i).toNat)
    case atStart => exact ⟨0, Nat.zero_le _, rfl, rfl⟩
    case round =>
      obtain ⟨k, hk, rfl, rfl⟩ := hrel
      by_cases hlt : k < l.length
      · have v1 := HX.out.vlo k hlt
        have e1 := wtN_quo HX.out hlt
        obtain ⟨t1, t2⟩ := wt_bd HX.out hlt
        obtain ⟨u1, u2⟩ := HSB.out k hk
        have w1' : IntKind.i64.wrap (wtN l k) = wtN l k := IntWalk.i64_in _ ⟨by omega, by omega⟩
        have w2' : IntKind.i64.wrap (sumW (wts l) k + wtN l k) = sumW (wts l) k + wtN l k := IntWalk.i64_in _ ⟨by omega, by omega⟩
        have HS : Hid (sumW (wts l) k + wtN l k = sumW (wts l) (k + 1)) := by show _ = sumW (wts l) k + nth (wts l) k; rw [nth_wts l k hlt]
        obtain ⟨b, off, rfl, hS, hc⟩ := (keepInts HB1.out HW.out).at_ hlt
        have hck := hc k hlt
        clear hc
        go_wp2_with fail
        go_round
        case rel => exact ⟨k + 1, by omega, by go_num, by first | rw [HS.out] | (simp only [HS.out])⟩
        case measure => simp [intOf]; omega
      · obtain rfl : k = l.length := by omega
        rw [HSW.out]
        go_wp2_with fail
        refine (l1frac (ovW l) (smW l) (by omega) (by omega) (by omega) (by omega) (by omega) _).mono ?_
        rintro e w2 ⟨rfl, hb2⟩
        have hb12 := belT HB1.out hb2
        have e00 := r00 _ hb12
        have e01 := r01 _ hb12
        have f00 := g00 _ hb12
        have f01 := g01 _ hb12
        have hlt : w.heap.size < w2.heap.size := by have := hb12.size; have := HzW.out; omega
        have HB := Lib.hid (belT HBW.out hb12)
        clear r00 r01 g00 g01 hb12 hb2
        go_wp2_with fail
        refine bodyPost_ret (v := FracRes (lowU (ovW l) (smW l)) (lowD (ovW l) (smW l)) true) (by simp [results, Try.results26, go_sem, FracRes, e00, e01, hlt, Nat.ne_of_lt hlt, Nat.ne_of_gt hlt]) rfl ⟨rfl, ?_⟩
        exact ((HB.out.setCell (Nat.le_refl _) _).setCell (Nat.le_refl _) _)

end Go.Proofs.Ytjmmkbhdldeciaa

namespace Go.Proofs.Ytjmmkbhdldeciaa
set_option linter.unusedSimpArgs false
set_option linter.unusedVariables false
open Go.RowKit

/-- the first k weights -/
def wtsTo (w : List Int) : Nat → List Int
  | 0 => []
  | k + 1 => wtsTo w k ++ [wtN w k]

theorem wtsTo_length (w : List Int) (k : Nat) : (wtsTo w k).length = k := by
  induction k with
  | zero => rfl
  | succ k ih => simp [wtsTo, ih]

theorem wtsTo_all (w : List Int) : wtsTo w w.length = wts w := by
  have key : ∀ k, wtsTo w k = (List.range k).map (wtN w) := fun k => by
    induction k with
    | zero => rfl
    | succ k ih => rw [List.range_succ, List.map_append]; simp only [wtsTo, ih]; rfl
  exact key _

/-- the first k rows -/
def boxTo (w : List Int) : Nat → List (List Int)
  | 0 => []
  | k + 1 => boxTo w k ++ [boxRow w k]

theorem boxTo_length (w : List Int) (k : Nat) : (boxTo w k).length = k := by
  induction k with
  | zero => rfl
  | succ k ih => simp [boxTo, ih]

theorem boxTo_all (w : List Int) : boxTo w w.length = boxT w := by
  have key : ∀ k, boxTo w k = (List.range k).map (boxRow w) := fun k => by
    induction k with
    | zero => rfl
    | succ k ih => rw [List.range_succ, List.map_append]; simp only [boxTo, ih]; rfl
  exact key _

set_option maxHeartbeats 2000000 in
set_option maxRecDepth 100000 in
theorem boxWts_spec (A : Option Addr) (c : Nat) (l : List Int) (hl : l.length ≤ maxLen) (w : World) (h : Ints w (· < w.heap.size) A l) :
    Calls Try.prog 32 #[.slice A l.length c] w (NewList w (boxWts l)) := by
  have HH := Lib.hid h
  have G0 := Lib.hid (Grows.lit w (base := w.heap.size) (Nat.le_refl _))
  have hb0 : Below w.heap.size w (w.alloc (.cells #[] 3)) := (Below.refl _ _).alloc (Nat.le_refl _) _
  have HB0 := Lib.hid hb0
  have hl' := hl
  unfold maxLen at hl'
  clear h
  rcases hb : boxesB l with _ | _
  · have hno := Lib.hid (bx_no hb).2.2
    have HOK : Hid (∀ (w' : World), Below w.heap.size w w' → Calls Try.prog 15 #[.slice A l.length c] w' (Same (.bool false) w')) := fun w' hb' => by have := boxes_spec A c l _ hl w' (keepInts hb' HH.out); rwa [hb] at this
    clear hb hb0
    go_enter Try.func32, Try.ntmps32
    go_wp2_with fail
    go_loopw [3, 4] (fun v i wr => i = .int .i64 (0 : Nat) ∧ v = .slice (some ⟨w.heap.size, 0, none⟩) 0 0 ∧ Hid (wr = w.alloc (.cells #[] 3))) (fun _ _ _ => 0)
    case atStart => exact ⟨rfl, rfl, rfl⟩
    case round =>
      obtain ⟨rfl, rfl, HW⟩ := hrel
      have HBW : Hid (Below w.heap.size w wr) := by rw [HW.out]; exact HB0.out
      have HGW : Hid (Grows wr w.heap.size (.slice (some ⟨w.heap.size, 0, none⟩) 0 0) []) := by rw [HW.out]; exact G0.out
      by_cases h0 : 0 < l.length
      · go_wp2_with fail
        refine (HOK.out _ HBW.out).mono ?_
        rintro e w1 ⟨rfl, rfl⟩
        go_wp2_with fail
        go_ret
        rw [hno.out]
        exact NewList.of rfl HGW.out HBW.out
      · go_wp2_with fail
        go_ret
        rw [hno.out]
        exact NewList.of rfl HGW.out HBW.out
  · have hx := boxesB_iff.1 hb
    have HX := Lib.hid hx
    have hlen := hx.hi
    obtain ⟨o1, o2⟩ := hx.ov
    have hyes := Lib.hid ((boxWts_yes hb).trans (wtsTo_all l).symm)
    have HOK : Hid (∀ (w' : World), Below w.heap.size w w' → Calls Try.prog 15 #[.slice A l.length c] w' (Same (.bool true) w')) := fun w' hb' => by have := boxes_spec A c l _ hl w' (keepInts hb' HH.out); rwa [hb] at this
    have HOV : Hid (∀ (w' : World), Below w.heap.size w w' → Calls Try.prog 60 #[.slice A l.length c] w' (Quiet (.int .i64 (ovW l)) w')) := fun w' hb' => over_spec A c l hx _ w' (keepInts hb' HH.out)
    obtain ⟨i0, hi0, hz0, hz1, hz2⟩ := info_parts infoI
    have HI0 := Lib.hid hi0
    have HZ0 := Lib.hid hz0
    have HZ1 := Lib.hid hz1
    have HZ2 := Lib.hid hz2
    clear hb hb0 hx hi0 hz0 hz1 hz2
    go_enter Try.func32, Try.ntmps32
    go_wp2_with fail
    go_loopw [3, 4] (fun v i wr => ∃ k : Nat, k ≤ l.length ∧ i = .int .i64 k ∧ Hid (Grows wr w.heap.size v (wtsTo l k)) ∧ Hid (Below w.heap.size w wr)) (fun _ i _ => l.length - (intOf i).toNat)
    case atStart => exact ⟨0, Nat.zero_le _, rfl, G0, HB0⟩
    case round =>
      obtain ⟨k, hk, rfl, HO, HV⟩ := hrel
      have hlk := wtsTo_length l k
      by_cases hlt : k < l.length
      · have e1 := wtN_quo HX.out hlt
        obtain ⟨t1, t2⟩ := wt_bd HX.out hlt
        have v1 := HX.out.vlo k hlt
        have w1' : IntKind.i64.wrap (wtN l k) = wtN l k := IntWalk.i64_in _ ⟨by omega, by omega⟩
        obtain ⟨b, off, rfl, hS, hc⟩ := (keepInts HV.out HH.out).at_ hlt
        have hck := hc k hlt
        have hbw : b < wr.heap.size := Nat.lt_of_lt_of_le hS HV.out.size
        clear hc
        have nz : nth l k ≠ 0 := by omega
        have HBD : Hid (Below w.heap.size w wr.drew) := HV.out.drew
        go_wp2_with fail
        refine (HOK.out _ HV.out).mono ?_
        rintro e w1 ⟨rfl, rfl⟩
        go_wp2_with fail
        go_region_law (first | (go_simp; go_at_call 60; refine (HOV.out _ HBD.out).mono ?_; rintro e w5 ⟨rfl, n5, rfl⟩) | (refine step_append_lies _ rfl (.tmp 16) (.tmp 24) _ rfl w.heap.size 3 i0 (.int .i64 0) 1 8 Try.underlying23 HI0.out HZ0.out HZ1.out HZ2.out rfl (by decide) _ (wtsTo l k).length (vals (wtsTo l k)) rfl ?own ⟨wr.heap.size, 0, none⟩ 1 1 [.int .i64 (wtN l k)] rfl rfl ?news ?one (by decide) ?h63 ?hb ?base _ rfl ?_; (case own => exact Grows.alloc (show Grows (wr.drew.drewN n5) _ _ _ from HO.out) _); (case news => exact cell_one_new _ _ _); (case one => intro u hu; simp at hu; subst hu; rfl); (case h63 => rw [hlk]; unfold maxLen; omega); (case hb => rw [hlk]; omega); (case base => have := HV.out.size; simp; omega); intro gb cap w6 hown hgrow hat hlt6))
        all_goals
          have HN : Hid (Grows w6 w.heap.size (.slice (some ⟨gb, 0, none⟩) (k + 1) cap) (wtsTo l (k + 1))) := by have e := Grows.snoc hown; rw [hlk] at e; exact e
          have HV2 : Hid (Below w.heap.size w w6) := Grows.below (w := wr.drewN (1 + n5)) HO.out hgrow (below_drewN HV.out _) (Nat.le_refl _) HV.out.size
          clear hown hgrow hat hlt6
          go_wp2_with fail
          go_roundw
        all_goals first | (simp [intOf]; omega) | exact ⟨k + 1, by omega, by go_num, HN, HV2⟩
      · obtain rfl : k = l.length := by omega
        go_wp2_with fail
        go_ret
        rw [hyes.out]
        exact NewList.of rfl HO.out HV.out

set_option maxHeartbeats 2000000 in
set_option maxRecDepth 100000 in
theorem boxGame_spec (A : Option Addr) (c : Nat) (l : List Int) (hl : l.length ≤ maxLen) (w : World) (h : Ints w (· < w.heap.size) A l) :
    Calls Try.prog 20 #[.slice A l.length c] w (NewTable w (boxG l)) := by
  have HH := Lib.hid h
  have hb0 : Below w.heap.size w (w.alloc (.cells #[] 23)) := (Below.refl _ _).alloc (Nat.le_refl _) _
  have G0 := Lib.hid (GrowsR.lit w (base := w.heap.size) (Nat.le_refl _) (fun _ => none) (fun _ => 0))
  have HB0 := Lib.hid hb0
  have hl' := hl
  unfold maxLen at hl'
  clear h
  rcases hb : boxesB l with _ | _
  · have hno := Lib.hid (boxG_no hb)
    have HOK : Hid (∀ (w' : World), Below w.heap.size w w' → Calls Try.prog 15 #[.slice A l.length c] w' (Same (.bool false) w')) := fun w' hb' => by have := boxes_spec A c l _ hl w' (keepInts hb' HH.out); rwa [hb] at this
    clear hb hb0
    go_enter Try.func20, Try.ntmps20
    go_wp2_with fail
    go_loopw [3, 4] (fun v i wr => i = .int .i64 (0 : Nat) ∧ v = .slice (some ⟨w.heap.size, 0, none⟩) 0 0 ∧ Hid (wr = w.alloc (.cells #[] 23))) (fun _ _ _ => 0)
    case atStart => exact ⟨rfl, rfl, rfl⟩
    case round =>
      obtain ⟨rfl, rfl, HW⟩ := hrel
      have HBW : Hid (Below w.heap.size w wr) := by rw [HW.out]; exact HB0.out
      by_cases h0 : 0 < l.length
      · go_wp2_with fail
        refine (HOK.out _ HBW.out).mono ?_
        rintro e w1 ⟨rfl, rfl⟩
        go_wp2_with fail
        go_ret
        rw [hno.out]
        exact ⟨_, 0, rfl, HBW.out, fun h0 => absurd h0 (by simp)⟩
      · go_wp2_with fail
        go_ret
        rw [hno.out]
        exact ⟨_, 0, rfl, HBW.out, fun h0 => absurd h0 (by simp)⟩
  · have hx := boxesB_iff.1 hb
    have HX := Lib.hid hx
    have hlen := hx.hi
    have hlen1 := hx.lo
    have hyes := Lib.hid ((boxG_yes hb).trans (boxTo_all l).symm)
    have HOK : Hid (∀ (w' : World), Below w.heap.size w w' → Calls Try.prog 15 #[.slice A l.length c] w' (Same (.bool true) w')) := fun w' hb' => by have := boxes_spec A c l _ hl w' (keepInts hb' HH.out); rwa [hb] at this
    obtain ⟨i1, hi1, hy0, hy1, hy2⟩ := info_parts infoR
    have HI1 := Lib.hid hi1
    have HY0 := Lib.hid hy0
    have HY1 := Lib.hid hy1
    have HY2 := Lib.hid hy2
    have hmk := run_make_row' (P := Try.prog) 23 3 _ 8 Try.underlying23 infoI rfl .i64 .i64 l.length (by omega) (by omega)
    clear hb hb0 hx hi1 hy0 hy1 hy2
    go_enter Try.func20, Try.ntmps20
    go_wp2_with fail
    go_loopw [3, 4] (fun v i wr => ∃ k : Nat, k ≤ l.length ∧ i = .int .i64 k ∧ Hid (∃ (A : Nat → Option Addr) (C : Nat → Nat), GrowsR wr w.heap.size wr.heap.size v A C (boxTo l k)) ∧ Hid (Below w.heap.size w wr)) (fun _ i _ => l.length - (intOf i).toNat)
    case atStart => exact ⟨0, Nat.zero_le _, rfl, ⟨_, _, G0.out.up (by simp) (Nat.le_refl _)⟩, HB0⟩
    case round =>
      obtain ⟨k, hk, rfl, HT, HV⟩ := hrel
      have hlk := boxTo_length l k
      by_cases hlt : k < l.length
      · obtain ⟨b, off, rfl, hS, hc⟩ := (keepInts HV.out HH.out).at_ hlt
        have hck := hc k hlt
        have hbw : b < wr.heap.size := Nat.lt_of_lt_of_le hS HV.out.size
        have hcko : ∀ o, (wr.alloc o).cell? ⟨b, off + k, none⟩ = some (.int .i64 (nth l k)) := fun o => (((Below.refl wr.heap.size wr).alloc (Nat.le_refl _) o).cell (p := ⟨b, off + k, none⟩) hbw).trans hck
        obtain ⟨AA, CC, hgr⟩ := HT.out
        have HGR := Lib.hid hgr
        have hws := HV.out.size
        -- the row as it is made, and as it is behind the store
        obtain ⟨wm, hwm⟩ : ∃ wm : World, wm = wr.alloc (.cells (madeCells #[.int .i64 0] l.length) 3) := ⟨_, rfl⟩
        have hrm : wm.rowIs wr.heap.size 3 l.length (fun _ => .int .i64 0) := by rw [hwm]; exact World.rowIs_made wr _ _ _
        have hzm : wm.heap.size = wr.heap.size + 1 := by rw [hwm]; simp
        have hbm : Below wr.heap.size wr wm := by rw [hwm]; exact (Below.refl _ _).alloc (Nat.le_refl _) _
        have hcm : wm.cell? ⟨b, off + k, none⟩ = some (.int .i64 (nth l k)) := by rw [hwm]; exact hcko _
        have hc0 := hrm.cell (i := k) hlt
        have hf0 := hrm.frozen k
        have HROW : Hid (IntRow (wm.setCell ⟨wr.heap.size, k, none⟩ (.int .i64 (nth l k))) wr.heap.size (boxRow l k)) := by
          show (wm.setCell _ _).rowIs _ _ _ _
          rw [boxRow_length]
          refine (hrm.set k _).congr fun j hj => ?_
          rw [nth_boxRow l k j hj]
          by_cases e : j = k
          · rw [if_pos e, if_pos e]
          · rw [if_neg e, if_neg e]
        have hbs : Below wr.heap.size wr (wm.setCell ⟨wr.heap.size, k, none⟩ (.int .i64 (nth l k))) := hbm.setCell (Nat.le_refl _) _
        have HBS := Lib.hid hbs
        have hzs : (wm.setCell ⟨wr.heap.size, k, none⟩ (.int .i64 (nth l k))).heap.size = wr.heap.size + 1 := by simp [World.setCell, hzm]
        have HZS := Lib.hid hzs
        have HGS : Hid (GrowsR (wm.setCell ⟨wr.heap.size, k, none⟩ (.int .i64 (nth l k))) w.heap.size wr.heap.size _ AA CC (boxTo l k)) := HGR.out.keep hbs
        have HON : Hid (OwnI (wm.setCell ⟨wr.heap.size, k, none⟩ (.int .i64 (nth l k))) wr.heap.size (wr.heap.size + 1) (some ⟨wr.heap.size, 0, none⟩) (boxRow l k)) := fun _ => ⟨wr.heap.size, (boxRow l k).length, _, rfl, Nat.le_refl _, by omega, HROW.out, Nat.le_refl _, fun _ _ => rfl⟩
        have HBL := Lib.hid (boxRow_length l k)
        subst hwm
        have hweq : ((wr.alloc (.cells (madeCells #[.int .i64 0] l.length) 3)).setCell ⟨wr.heap.size, k, none⟩ (.int .i64 (nth l k))) = wr.alloc (.cells ((madeCells #[.int .i64 0] l.length).setIfInBounds k (.int .i64 (nth l k))) 3) := by simp [go_sem]
        rw [hweq] at HBS HZS HGS HON
        obtain ⟨ws, hws2⟩ : ∃ ws, ws = wr.alloc (.cells ((madeCells #[.int .i64 0] l.length).setIfInBounds k (.int .i64 (nth l k))) 3) := ⟨_, rfl⟩
        have HWS := Lib.hid hws2
        rw [← hws2] at HBS HZS HGS HON
        clear hc hck hgr HT hrm hbm hbs hzs hcm hweq hws2 HROW
        go_wp2_with fail
        refine (HOK.out _ HV.out).mono ?_
        rintro e w1 ⟨rfl, rfl⟩
        have hzz := HZS.out
        go_wp2_with (at_builtin; rw [← HWS.out]; refine wpList_append_own_at _ rfl (.tmp 27) (.tmp 29) _ rfl w.heap.size 23 i1 (.slice none 0 0) 1 24 Try.underlying28 HI1.out HY0.out HY1.out HY2.out rfl (by decide) _ _ _ rfl (HGS.out.alloc _) ⟨wr.heap.size + 1, 0, none⟩ 1 1 [.slice (some ⟨wr.heap.size, 0, none⟩) l.length l.length] rfl rfl ?c1 ?c2 ?c3 ?c4 ?c5 ?_)
        case c1 => rw [← hzz]; exact cell_one_new _ _ _
        case c2 => first | rfl | (intro u hu; simp at hu; subst hu; rfl)
        case c3 => rw [hlk]; unfold maxLen; omega
        case c4 => rw [hlk]; omega
        case c5 => first | omega | (simp; omega)
        intro v' w5 hown hgrow _ hat
        have HN : Hid (∃ (A : Nat → Option Addr) (C : Nat → Nat), GrowsR w5 w.heap.size w5.heap.size v' A C (boxTo l (k + 1))) := by
          exact HGS.out.snoc (l := boxRow l k) (An := some ⟨wr.heap.size, 0, none⟩) (cn := l.length) (HON.out.more (Nat.le_refl _) (by omega)) (by rw [HBL.out]; exact Nat.le_refl _) hl hws (by rw [hlk, HBL.out]; exact hown) hgrow (by rcases hat with e | e; exact .inl e; exact .inr (by rw [e]; first | (simp; done) | (simp; omega)))
        have HW2 : Hid (Below w.heap.size w w5) := HGS.out.below hgrow (belT HV.out HBS.out) (Nat.le_refl _) (by omega)
        clear hown hgrow hat
        go_wp2_with fail
        go_roundw
        case rel => exact ⟨k + 1, by omega, by go_num, HN, HW2⟩
        case measure => simp [intOf]; omega
      · obtain rfl : k = l.length := by omega
        obtain ⟨AA, CC, hgr⟩ := HT.out
        rw [← hyes.out] at hgr
        obtain ⟨T1, c1, hv1, hcl1, hcl2, hot⟩ := hgr.table
        subst hv1
        have HOT := Lib.hid hot
        clear hgr hot HT
        go_wp2_with fail
        go_ret
        exact ⟨T1, c1, rfl, HV.out, HOT.out⟩

/-- a further box, behind a copy of the list -/
theorem with_tail (l : List Int) (v : Int) (w w5 : World) (V : Value) (hl : l.length ≤ 1048576) (hg : Grows w5 w.heap.size V (l ++ [v])) (hb5 : Below w.heap.size w w5) :
    ∃ (B : Option Addr) (d : Nat), V = .slice B (l.length + 1) d ∧ Hid (Ints w5 (fun b => w.heap.size ≤ b ∧ b < w5.heap.size) B (l ++ [v])) ∧ Hid (Grows w5 w.heap.size (.slice B (l.length + 1) d) (l ++ [v])) := by
  obtain ⟨B, d, hv, h1, h2⟩ := hg.own
  have e : (l ++ [v]).length = l.length + 1 := by simp
  rw [e] at hv
  exact ⟨B, d, hv, h2.ints, by rw [← hv]; exact hg⟩

set_option maxHeartbeats 2000000 in
set_option maxRecDepth 100000 in
theorem withBox_spec (A : Option Addr) (c : Nat) (l : List Int) (v : Int) (hl : l.length ≤ 1048576) (w : World) (h : Ints w (· < w.heap.size) A l) :
    Calls Try.prog 36 #[.slice A l.length c, .int .i64 v] w (ListRes w (wbL l v) (wbB l v)) := by
  have HH := Lib.hid h
  have hlm : l.length ≤ maxLen := by unfold maxLen; omega
  obtain ⟨i0, hi0, hz0, hz1, hz2⟩ := info_parts infoI
  have HI0 := Lib.hid hi0
  have HZ0 := Lib.hid hz0
  have HZ1 := Lib.hid hz1
  have HZ2 := Lib.hid hz2
  have GL := Lib.hid (Grows.lit w (base := w.heap.size) (Nat.le_refl _))
  have HOK : Hid (∀ (w' : World), Below w.heap.size w w' → Calls Try.prog 15 #[.slice A l.length c] w' (Same (.bool (boxesB l)) w')) := fun w' hb' => boxes_spec A c l _ hlm w' (keepInts hb' HH.out)
  have hlv : (l ++ [v]).length = l.length + 1 := by simp
  have HLV := Lib.hid hlv
  -- the first append, whatever the slice
  have FIRST : Hid (∀ (ty : TypeId), ∃ v' w', (Builtin.append_ #[23, 23] ty #[.slice (some ⟨w.heap.size, 0, none⟩) 0 0, .slice A l.length c]).run Try.prog (w.alloc (.cells #[] 3)) = .ok v' w' ∧ Grows w' w.heap.size v' l ∧ Below w.heap.size w w') := fun ty => by
    have hb0 : Below w.heap.size w (w.alloc (.cells #[] 3)) := (Below.refl _ _).alloc (Nat.le_refl _) _
    cases A with
    | none =>
      have h0 : l.length = 0 := by
        rcases Nat.eq_zero_or_pos l.length with e | e
        · exact e
        · obtain ⟨b, off, e', _⟩ := h e; cases e'
      have hl0 : l = [] := List.eq_nil_of_length_eq_zero h0
      subst hl0
      refine ⟨.slice (some ⟨w.heap.size, 0, none⟩) 0 0, _, ?_, GL.out, hb0⟩
      simp [Builtin.append_, run_underlying Try.underlying23, sizeOf, typeInfo, hi0, Builtin.lenOf, Builtin.firstCells, loadCells, loadCellsFrom, storeCells]
    | some ad =>
      have hnews : ∀ j u, (vals l)[j]? = some u → (w.alloc (.cells #[] 3)).cell? (ad.add j) = some u := by
        rcases Nat.eq_zero_or_pos l.length with e | e
        · intro j u hj
          have : l = [] := List.eq_nil_of_length_eq_zero e
          subst this; simp [vals] at hj
        · obtain ⟨b, off, e', hS, hc⟩ := h e
          injection e' with e'; subst e'
          exact news_of fun i hi => (hb0.cell (p := ⟨b, off + i, none⟩) hS).trans (hc i hi)
      obtain ⟨v', w', hr, h2, h3, h4, h5⟩ := run_append_own_at (P := Try.prog) (w.alloc (.cells #[] 3)) w.heap.size 23 ty 3 i0 (.int .i64 0) 1 8 Try.underlying23 hi0 hz0 hz1 hz2 rfl (by decide) _ 0 [] GL.out ad l.length c (vals l) (by rw [vals_length]; omega) hnews vals_one (by unfold maxLen; omega) (by omega) (by simp)
      refine ⟨v', w', hr, by unfold Grows; simpa using h2, ((Below.refl w.heap.size w).alloc (Nat.le_refl _) _).grown h3 (by simp) (fun k hk => by simp [Value.ownBlock] at hk; omega)⟩
  clear hi0 hz0 hz1 hz2 h
  obtain ⟨v1, w1, hrun, hg1, hb1⟩ := FIRST.out 23
  have hr1 : ∀ ty, ty = 23 → (Builtin.append_ #[23, 23] ty #[.slice (some ⟨w.heap.size, 0, none⟩) 0 0, .slice A l.length c]).run Try.prog (w.alloc (.cells #[] 3)) = .ok v1 w1 := fun ty e => by rw [e]; exact hrun
  have HG1 := Lib.hid hg1
  have HB1 := Lib.hid hb1
  clear FIRST hrun hg1 hb1
  go_enter Try.func36, Try.ntmps36
  have hbase := HB1.out.size
  go_wp2_with (first | (at_builtin; refine Lib.wpList_append_run _ rfl _ _ _ _ rfl _ _ rfl rfl _ _ (hr1 _ rfl) ?_) | (at_builtin; refine wpList_append_own_at _ rfl (.tmp 9) (.tmp 11) _ rfl w.heap.size 3 i0 (.int .i64 0) 1 8 Try.underlying23 HI0.out HZ0.out HZ1.out HZ2.out rfl (by decide) _ l.length (vals l) rfl (HG1.out.alloc _) ⟨w1.heap.size, 0, none⟩ 1 1 [.int .i64 v] rfl rfl (cell_one_new _ _ _) ?c2 ?c3 ?c4 ?c5 ?_))
  case c2 => first | rfl | (intro u hu; simp at hu; subst hu; rfl)
  case c3 => unfold maxLen; omega
  case c4 => omega
  case c5 => first | omega | (simp; omega)
  intro v2 w5 hown hgrow _ _
  have hg5 : Grows w5 w.heap.size v2 (l ++ [v]) := Grows.snoc hown
  have hb5 : Below w.heap.size w w5 := HG1.out.below hgrow HB1.out (Nat.le_refl _) hbase
  obtain ⟨B, d, hv2, HI, HG5⟩ := with_tail l v w w5 v2 hl hg5 hb5
  subst hv2
  have HB5 := Lib.hid hb5
  have hlm2 : (l ++ [v]).length ≤ maxLen := by rw [hlv]; unfold maxLen; omega
  have HOK2 : Hid (Calls Try.prog 15 #[.slice B (l.length + 1) d] w5 (Same (.bool (boxesB (l ++ [v]))) w5)) := by have := boxes_spec B d (l ++ [v]) _ hlm2 w5 HI.out; rw [hlv] at this; exact this
  have hw5 := hb5.size
  clear hown hgrow hg5 hb5 hlv hr1 hlm2
  go_wp2_with fail
  refine (HOK.out _ HB5.out).mono ?_
  rintro e w6 ⟨rfl, rfl⟩
  rcases e1 : boxesB l with _ | _
  · have e : wbB l v = false := by unfold wbB; rw [e1]; rfl
    have H : Hid (wbL l v = [] ∧ wbB l v = false) := ⟨wb_no e, e⟩
    clear e1 e
    go_wp2_with fail
    go_ret2
    rw [H.out.1, H.out.2]
    exact ⟨_, 0, rfl, HB5.out.alloc hw5 _, fun h => absurd h (by simp)⟩
  · rcases e2 : boxesB (l ++ [v]) with _ | _
    · have e : wbB l v = false := by unfold wbB; rw [e1, e2]; rfl
      have H : Hid (wbL l v = [] ∧ wbB l v = false) := ⟨wb_no e, e⟩
      rw [e2] at HOK2
      clear e1 e2 e
      go_wp2_with fail
      refine HOK2.out.mono ?_
      rintro e w6 ⟨rfl, rfl⟩
      go_wp2_with fail
      go_ret2
      rw [H.out.1, H.out.2]
      exact ⟨_, 0, rfl, HB5.out.alloc hw5 _, fun h => absurd h (by simp)⟩
    · have e : wbB l v = true := by unfold wbB; rw [e1, e2]; rfl
      have H : Hid (wbL l v = l ++ [v] ∧ wbB l v = true) := ⟨(wb_yes e).1, e⟩
      rw [e2] at HOK2
      clear e1 e2 e
      go_wp2_with fail
      refine HOK2.out.mono ?_
      rintro e w6 ⟨rfl, rfl⟩
      go_wp2_with fail
      go_ret2
      rw [H.out.1, H.out.2]
      exact ListRes.of rfl HG5.out HB5.out

end Go.Proofs.Ytjmmkbhdldeciaa
