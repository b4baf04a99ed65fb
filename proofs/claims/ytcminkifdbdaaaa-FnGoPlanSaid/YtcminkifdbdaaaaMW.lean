/- Texts in one: Konig, Field, FieldB, FieldC. -/
import Derived.Test.YtcminkifdbdaaaaMA
import Derived.Test.YtcminkifdbdaaaaMP
import Derived.Test.YtcminkifdbdaaaaMF
namespace Go.Proofs.Ytcminkifdbdaaaa
set_option linter.unusedSimpArgs false
set_option linter.unusedVariables false
open Go.RowKit

/-! counting -/

theorem cnt_step (P : Nat → Bool) (k : Nat) : cnt P (k + 1) = cnt P k + (P k).toNat := by
  simp only [cnt]; cases h : P k <;> simp

theorem cnt_sub {P Q : Nat → Bool} {k : Nat} (h : ∀ i, i < k → P i = true → Q i = true) : cnt P k ≤ cnt Q k := by
  induction k with
  | zero => exact Nat.le_refl _
  | succ k ih =>
    have h1 := ih fun i hi => h i (by omega)
    simp only [cnt]
    by_cases e : P k = true
    · rw [if_pos e, if_pos (h k (by omega) e)]; omega
    · rw [if_neg e]; split <;> omega

theorem cnt_two (P Q : Nat → Bool) (k : Nat) : cnt P k + cnt Q k = cnt (fun i => P i || Q i) k + cnt (fun i => P i && Q i) k := by
  induction k with
  | zero => rfl
  | succ k ih =>
    simp only [cnt_step]
    cases P k <;> cases Q k <;> simp <;> omega

theorem cnt_none {P : Nat → Bool} {k : Nat} (h : ∀ i, i < k → P i = false) : cnt P k = 0 := by
  induction k with
  | zero => rfl
  | succ k ih => simp only [cnt]; rw [ih fun i hi => h i (by omega), h k (by omega)]; simp

theorem cnt_full {P : Nat → Bool} {k : Nat} (h : ∀ i, i < k → P i = true) : cnt P k = k := by
  induction k with
  | zero => rfl
  | succ k ih => simp only [cnt]; rw [ih fun i hi => h i (by omega), h k (by omega)]; simp

/-- one less -/
theorem cnt_less {P : Nat → Bool} {k a : Nat} (ha : a < k) (hp : P a = true) : cnt P k = cnt (fun i => P i && i != a) k + 1 := by
  induction k with
  | zero => omega
  | succ k ih =>
    simp only [cnt_step]
    by_cases e : a = k
    · subst e
      have : cnt (fun i => P i && i != a) a = cnt P a := cnt_congr fun i hi => by
        have : (i != a) = true := by simp; omega
        rw [this, Bool.and_true]
      rw [this, hp]; simp
    · rw [ih (by omega)]
      have : (k != a) = true := by simp; omega
      rw [this]
      cases P k <;> simp <;> omega

theorem cnt_pos {P : Nat → Bool} {k a : Nat} (ha : a < k) (hp : P a = true) : 0 < cnt P k := by rw [cnt_less ha hp]; omega

theorem cnt_some {P : Nat → Bool} {k : Nat} (h : 0 < cnt P k) : ∃ a, a < k ∧ P a = true := by
  induction k with
  | zero => simp [cnt] at h
  | succ k ih =>
    by_cases e : P k = true
    · exact ⟨k, by omega, e⟩
    · simp only [cnt, if_neg e] at h
      obtain ⟨a, h1, h2⟩ := ih h
      exact ⟨a, by omega, h2⟩

/-- what goes into other places, no two into one, is no more than these -/
theorem cnt_into {P Q : Nat → Bool} {n m : Nat} (f : Nat → Nat) (h1 : ∀ i, i < n → P i = true → f i < m ∧ Q (f i) = true) (h2 : ∀ i j, i < n → j < n → P i = true → P j = true → f i = f j → i = j) : cnt P n ≤ cnt Q m := by
  induction n generalizing Q with
  | zero => exact Nat.zero_le _
  | succ n ih =>
    by_cases e : P n = true
    · obtain ⟨a1, a2⟩ := h1 n (by omega) e
      rw [cnt_yes e, cnt_less a1 a2]
      have := ih (Q := fun i => Q i && i != f n) (fun i hi hp => by
        obtain ⟨b1, b2⟩ := h1 i (by omega) hp
        refine ⟨b1, ?_⟩
        simp only [b2, Bool.true_and, bne_iff_ne, ne_eq]
        intro e2; have := h2 i n (by omega) (by omega) hp e e2; omega) (fun i j hi hj => h2 i j (by omega) (by omega))
      omega
    · rw [cnt_no (by simpa using e)]
      exact ih (fun i hi => h1 i (by omega)) (fun i j hi hj => h2 i j (by omega) (by omega))

/-- pairs that are apart: row i goes with column f i, or with none, if that is c or more -/
structure Pairs (e : Nat → Nat → Bool) (r c : Nat) (f : Nat → Nat) : Prop where
  go : ∀ i, i < r → f i < c → e i (f i) = true
  ap : ∀ i j, i < r → j < r → f i < c → f i = f j → i = j

def szF (r c : Nat) (f : Nat → Nat) : Nat := cnt (fun i => decide (f i < c)) r

/-- the columns that go with some row of a set -/
def nbr (e : Nat → Nat → Bool) (r : Nat) (X : Nat → Bool) (j : Nat) : Bool := anyN (fun i => X i && e i j) r

theorem nbr_iff {e : Nat → Nat → Bool} {r : Nat} {X : Nat → Bool} {j : Nat} : nbr e r X j = true ↔ ∃ i, i < r ∧ X i = true ∧ e i j = true := by
  unfold nbr; rw [anyN_iff]; simp only [Bool.and_eq_true]

/-- how many pairs there are -/
def edg (e : Nat → Nat → Bool) (c : Nat) : Nat → Nat
  | 0 => 0
  | r + 1 => edg e c r + cnt (e r) c

def cutE (e : Nat → Nat → Bool) (a b : Nat) : Nat → Nat → Bool := fun i j => e i j && !(i == a && j == b)

theorem edg_congr {e e' : Nat → Nat → Bool} {c r : Nat} (h : ∀ i, i < r → ∀ j, j < c → e i j = e' i j) : edg e c r = edg e' c r := by
  induction r with
  | zero => rfl
  | succ r ih => simp only [edg]; rw [ih fun i hi => h i (by omega), cnt_congr (h r (by omega))]

theorem edg_cut {e : Nat → Nat → Bool} {a b c r : Nat} (ha : a < r) (hb : b < c) (h : e a b = true) : edg (cutE e a b) c r + 1 = edg e c r := by
  induction r with
  | zero => omega
  | succ r ih =>
    simp only [edg]
    by_cases e1 : a = r
    · subst e1
      have h1 : edg (cutE e a b) c a = edg e c a := edg_congr fun i hi j _ => by
        have : (i == a) = false := by rw [beq_eq_false_iff_ne]; omega
        simp [cutE, this]
      have h2 : cnt (cutE e a b a) c + 1 = cnt (e a) c := by
        rw [cnt_less hb h]
        rw [cnt_congr (Q := fun i => e a i && i != b) fun j _ => by simp [cutE, bne]]
      omega
    · have := ih (by omega)
      have h2 : cnt (cutE e a b r) c = cnt (e r) c := cnt_congr fun j _ => by
        have : (r == a) = false := by rw [beq_eq_false_iff_ne]; omega
        simp [cutE, this]
      omega

theorem cutE_sub {e : Nat → Nat → Bool} {a b i j : Nat} (h : cutE e a b i j = true) : e i j = true := by
  unfold cutE at h; rw [Bool.and_eq_true] at h; exact h.1

theorem cutE_keep {e : Nat → Nat → Bool} {a b i j : Nat} (h : e i j = true) (hn : i ≠ a ∨ j ≠ b) : cutE e a b i j = true := by
  unfold cutE; rw [h, Bool.true_and]
  rcases hn with hn | hn
  · have : (i == a) = false := by rwa [beq_eq_false_iff_ne]
    rw [this]; rfl
  · have : (j == b) = false := by rwa [beq_eq_false_iff_ne]
    rw [this, Bool.and_false]; rfl

/-- if no set of rows has more than d rows beyond its columns, all rows but d go with columns apart (Hall; the proof: Rado) -/
theorem hall (n : Nat) : ∀ (e : Nat → Nat → Bool) (r c d : Nat), edg e c r ≤ n → (∀ X : Nat → Bool, cnt X r ≤ cnt (nbr e r X) c + d) → ∃ f, Pairs e r c f ∧ r ≤ szF r c f + d := by
  induction n with
  | zero =>
    intro e r c d hn H
    have no : ∀ i, i < r → ∀ j, j < c → e i j = false := by
      intro i hi j hj
      cases h : e i j with
      | false => rfl
      | true => have := edg_cut hi hj h; omega
    refine ⟨fun _ => c, ⟨fun i _ h => absurd h (Nat.lt_irrefl _), fun i j _ _ h => absurd h (Nat.lt_irrefl _)⟩, ?_⟩
    have h1 := H (fun _ => true)
    rw [cnt_full (fun _ _ => rfl)] at h1
    have h2 : cnt (nbr e r fun _ => true) c = 0 := cnt_none fun j hj => by
      cases h : nbr e r (fun _ => true) j with
      | false => rfl
      | true =>
        obtain ⟨i, hi, _, h3⟩ := nbr_iff.1 h
        rw [no i hi j hj] at h3; cases h3
    omega
  | succ n ih =>
    intro e r c d hn H
    by_cases two : ∃ i j1 j2, i < r ∧ j1 < c ∧ j2 < c ∧ j1 ≠ j2 ∧ e i j1 = true ∧ e i j2 = true
    · obtain ⟨i, j1, j2, hi, hj1, hj2, hne, he1, he2⟩ := two
      have c1 := edg_cut hi hj1 he1
      have c2 := edg_cut hi hj2 he2
      by_cases H1 : ∀ X : Nat → Bool, cnt X r ≤ cnt (nbr (cutE e i j1) r X) c + d
      · obtain ⟨f, hf, hs⟩ := ih (cutE e i j1) r c d (by omega) H1
        exact ⟨f, ⟨fun i hi h => cutE_sub (hf.go i hi h), hf.ap⟩, hs⟩
      by_cases H2 : ∀ X : Nat → Bool, cnt X r ≤ cnt (nbr (cutE e i j2) r X) c + d
      · obtain ⟨f, hf, hs⟩ := ih (cutE e i j2) r c d (by omega) H2
        exact ⟨f, ⟨fun i hi h => cutE_sub (hf.go i hi h), hf.ap⟩, hs⟩
      exfalso
      obtain ⟨X1, h1⟩ := Classical.not_forall.1 H1
      obtain ⟨X2, h2⟩ := Classical.not_forall.1 H2
      have has : ∀ (X : Nat → Bool) (b : Nat), ¬ cnt X r ≤ cnt (nbr (cutE e i b) r X) c + d → X i = true := by
        intro X b hX
        cases hx : X i with
        | true => rfl
        | false =>
          exfalso; apply hX
          refine Nat.le_trans (H X) (Nat.add_le_add_right (cnt_sub fun j hj hh => ?_) d)
          obtain ⟨a, ha, hxa, hea⟩ := nbr_iff.1 hh
          refine nbr_iff.2 ⟨a, ha, hxa, cutE_keep hea (.inl ?_)⟩
          intro e3; subst e3; rw [hx] at hxa; cases hxa
      have x1 := has X1 j1 h1
      have x2 := has X2 j2 h2
      have s1 := cnt_two X1 X2 r
      have s2 := cnt_two (nbr (cutE e i j1) r X1) (nbr (cutE e i j2) r X2) c
      have s3 := H (fun a => X1 a || X2 a)
      have s4 := H (fun a => (X1 a && X2 a) && a != i)
      have s5 := cnt_less (P := fun a => X1 a && X2 a) hi (by simp [x1, x2])
      have s6 : cnt (nbr e r fun a => X1 a || X2 a) c ≤ cnt (fun j => nbr (cutE e i j1) r X1 j || nbr (cutE e i j2) r X2 j) c := cnt_sub fun j hj hh => by
        obtain ⟨a, ha, hxa, hea⟩ := nbr_iff.1 hh
        rw [Bool.or_eq_true]
        by_cases e3 : a = i
        · by_cases e4 : j = j1
          · exact .inr (nbr_iff.2 ⟨a, ha, by rw [e3]; exact x2, cutE_keep hea (.inr (by rw [e4]; exact hne))⟩)
          · exact .inl (nbr_iff.2 ⟨a, ha, by rw [e3]; exact x1, cutE_keep hea (.inr e4)⟩)
        · rw [Bool.or_eq_true] at hxa
          rcases hxa with hxa | hxa
          · exact .inl (nbr_iff.2 ⟨a, ha, hxa, cutE_keep hea (.inl e3)⟩)
          · exact .inr (nbr_iff.2 ⟨a, ha, hxa, cutE_keep hea (.inl e3)⟩)
      have s7 : cnt (nbr e r fun a => (X1 a && X2 a) && a != i) c ≤ cnt (fun j => nbr (cutE e i j1) r X1 j && nbr (cutE e i j2) r X2 j) c := cnt_sub fun j hj hh => by
        obtain ⟨a, ha, hxa, hea⟩ := nbr_iff.1 hh
        simp only [Bool.and_eq_true, bne_iff_ne, ne_eq] at hxa
        rw [Bool.and_eq_true]
        exact ⟨nbr_iff.2 ⟨a, ha, hxa.1.1, cutE_keep hea (.inl hxa.2)⟩, nbr_iff.2 ⟨a, ha, hxa.1.2, cutE_keep hea (.inl hxa.2)⟩⟩
      omega
    · -- each row goes with one column at most
      have one : ∀ i j1 j2, i < r → j1 < c → j2 < c → e i j1 = true → e i j2 = true → j1 = j2 := fun i j1 j2 hi h1 h2 h3 h4 =>
        Classical.byContradiction fun hne => two ⟨i, j1, j2, hi, h1, h2, hne, h3, h4⟩
      -- row i goes with column j, if it is the first that does
      have G : ∀ i, ∃ v, (v < c ∧ e i v = true ∧ (∀ a, a < i → e a v = false)) ∨ (v = c ∧ ¬ ∃ j, j < c ∧ e i j = true ∧ ∀ a, a < i → e a j = false) := fun i => by
        by_cases h : ∃ j, j < c ∧ e i j = true ∧ ∀ a, a < i → e a j = false
        · obtain ⟨j, h1, h2, h3⟩ := h; exact ⟨j, .inl ⟨h1, h2, h3⟩⟩
        · exact ⟨c, .inr ⟨rfl, h⟩⟩
      obtain ⟨f, hf⟩ := Classical.axiomOfChoice G
      refine ⟨f, ⟨fun i hi h => ?_, fun i j hi hj h he => ?_⟩, ?_⟩
      · rcases hf i with ⟨_, h2, _⟩ | ⟨h1, _⟩
        · exact h2
        · omega
      · rcases hf i with ⟨_, h2, h3⟩ | ⟨h1, _⟩
        · rcases hf j with ⟨_, k2, k3⟩ | ⟨k1, _⟩
          · rw [← he] at k2 k3
            rcases Nat.lt_trichotomy i j with hl | hl | hl
            · have := k3 i hl; rw [h2] at this; cases this
            · exact hl
            · have := h3 j hl; rw [k2] at this; cases this
          · omega
        · omega
      · have h1 := H (fun _ => true)
        rw [cnt_full (fun _ _ => rfl)] at h1
        have first : ∀ j, ∃ a, nbr e r (fun _ => true) j = true → a < r ∧ e a j = true ∧ ∀ b, b < a → e b j = false := fun j => by
          by_cases h : nbr e r (fun _ => true) j = true
          · obtain ⟨i, hi, _, h3⟩ := nbr_iff.1 h
            have key : ∀ n, n ≤ r → (∃ i, i < n ∧ e i j = true) → ∃ a, a < n ∧ e a j = true ∧ ∀ b, b < a → e b j = false := by
              intro n
              induction n with
              | zero => rintro _ ⟨i, h1, _⟩; omega
              | succ n ihn =>
                rintro hnr ⟨i, h1, h2⟩
                by_cases e4 : ∃ i, i < n ∧ e i j = true
                · obtain ⟨a, k1, k2⟩ := ihn (by omega) e4; exact ⟨a, by omega, k2⟩
                · refine ⟨n, by omega, ?_, fun b hb => ?_⟩
                  · by_cases e5 : i = n
                    · subst e5; exact h2
                    · exact absurd ⟨i, by omega, h2⟩ e4
                  · cases h5 : e b j with
                    | false => rfl
                    | true => exact absurd ⟨b, hb, h5⟩ e4
            obtain ⟨a, k1, k2⟩ := key r (Nat.le_refl _) ⟨i, hi, h3⟩
            exact ⟨a, fun _ => ⟨k1, k2⟩⟩
          · exact ⟨0, fun h' => absurd h' h⟩
        obtain ⟨g, hg⟩ := Classical.axiomOfChoice first
        have h2 : cnt (nbr e r fun _ => true) c ≤ szF r c f := cnt_into g (fun j hj hp => by
          obtain ⟨k1, k2, k3⟩ := hg j hp
          refine ⟨k1, decide_eq_true ?_⟩
          rcases hf (g j) with ⟨m1, _⟩ | ⟨_, m2⟩
          · exact m1
          · exact absurd ⟨j, hj, k2, k3⟩ m2) (fun i j hi hj hp hq he => by
          obtain ⟨k1, k2, _⟩ := hg i hp
          obtain ⟨_, m2, _⟩ := hg j hq
          rw [← he] at m2
          exact one (g i) i j k1 hi hj k2 m2)
        omega

end Go.Proofs.Ytcminkifdbdaaaa

namespace Go.Proofs.Ytcminkifdbdaaaa
set_option linter.unusedSimpArgs false
set_option linter.unusedVariables false
open Go.RowKit

/-! two sides of a game of 0 and 1 -/

theorem low_unit {n : Int} (h : 1 ≤ n) : lowU 1 n = 1 ∧ lowD 1 n = n := by
  have hg : gcdI 1 n = 1 := by unfold gcdI; simp
  exact low_of_ok (by omega) hg

/-- lines that show all, and places of which no line shows two, as many of both: they are settled, and worth one by their number -/
structure Duel (g : List (List Int)) (x y : List Int) (n : Int) : Prop where
  set : setB g x y = true
  saf : safB g x = true
  ris : risB g y = true
  up : safU g x = 1
  down : safD g x = n
  rup : risU g y = 1
  rdown : risD g y = n

theorem duel {g : List (List Int)} {m : Nat} {x y : List Int} {n : Int} (hg : Game g m) (hx : Mix x g.length) (hy : Mix y m) (hsx : sumW x g.length = n) (hsy : sumW y m = n) (hn : 1 ≤ n)
    (hc : ∀ j, j < m → 1 ≤ colD g x j) (hr : ∀ i, i < g.length → rowD g y i ≤ 1) : Duel g x y n := by
  have hm := hg.to.2
  have h1 : 1 ≤ safeN g x := by
    unfold safeN
    obtain ⟨j, hj, e⟩ := lowN_at (colsD g x) (k := (rowAt g 0).length) (by have := hg.mlo; omega)
    rw [e, nth_colsD g x j hj]; exact hc j (by omega)
  have h2 : riskN g y ≤ 1 := by
    unfold riskN
    obtain ⟨i, hi, e⟩ := highN_at (rowsD g y) (k := g.length) (by have := hg.lo; omega)
    rw [e, nth_rowsD g y i hi]; exact hr i hi
  have hw := weak hg hx hy
  rw [hsx, hsy] at hw
  have h3 : safeN g x ≤ riskN g y := Int.le_of_mul_le_mul_right hw (by omega)
  have e1 : safeN g x = 1 := by omega
  have e2 : riskN g y = 1 := by omega
  have b1 : safB g x = true := safB_iff.2 ⟨hg.to.1, hx⟩
  have b2 : risB g y = true := risB_iff.2 ⟨hg.to.1, by rw [← hm]; exact hy⟩
  obtain ⟨l1, l2⟩ := low_unit hn
  have c1 : safU g x = 1 := by unfold safU; rw [if_pos b1, e1, hx.len, hsx]; exact l1
  have c2 : safD g x = n := by unfold safD; rw [if_pos b1, e1, hx.len, hsx]; exact l2
  have c3 : risU g y = 1 := by unfold risU; rw [if_pos b2, e2, hy.len, hsy]; exact l1
  have c4 : risD g y = n := by unfold risD; rw [if_pos b2, e2, hy.len, hsy]; exact l2
  refine ⟨?_, b1, b2, c1, c2, c3, c4⟩
  unfold setB; rw [b1, b2, c1, c2, c3, c4]; simp

/-! bits -/

theorem bP_zero (k : Nat) : bP 0 k = false := by unfold bP; simp

/-! a field -/

def fldB (R C S : Int) : Bool := inR R 1 4 && (inR C 1 4 && inR S 1 (pw (R.toNat * C.toNat)))

structure Fld (r c s : Nat) : Prop where
  rlo : 1 ≤ r
  rhi : r ≤ 4
  clo : 1 ≤ c
  chi : c ≤ 4
  slo : 1 ≤ s
  shi : s < 2 ^ (r * c)

theorem pw_in {s k : Nat} (h1 : 1 ≤ s) (h2 : s < 2 ^ k) : inR (s : Int) 1 (pw k) = true := by
  unfold inR pw
  rw [decide_eq_true_eq]
  have e : ((2 ^ k : Nat) : Int) = (2 : Int) ^ k := by simp
  rw [← e]
  generalize 2 ^ k = t at h2 ⊢
  omega

theorem Fld.to {r c s : Nat} (h : Fld r c s) : fldB r c s = true := by
  obtain ⟨h1, h2, h3, h4, h5, h6⟩ := h
  unfold fldB
  rw [Bool.and_eq_true, Bool.and_eq_true]
  refine ⟨?_, ?_, pw_in h5 (by simpa using h6)⟩ <;> (unfold inR; rw [decide_eq_true_eq]; omega)

theorem Fld.rc {r c s : Nat} (h : Fld r c s) : 1 ≤ r * c ∧ r * c ≤ 16 := by
  obtain ⟨h1, h2, h3, h4, _, _⟩ := h
  have a := Nat.mul_le_mul h1 h3
  have b := Nat.mul_le_mul h2 h4
  omega

theorem cellF_of {r c k : Nat} (hk : k < r * c) (hc : 1 ≤ c) : k / c < r ∧ k % c < c ∧ k / c * c + k % c = k :=
  ⟨(Nat.div_lt_iff_lt_mul (by omega)).2 hk, Nat.mod_lt _ (by omega), by rw [Nat.mul_comm]; exact Nat.div_add_mod k c⟩

/-! the most cells apart -/

def mstJ (m : Nat → Nat) (c s row T b : Nat) : Nat → Nat
  | 0 => b
  | j + 1 => if (bP s (row * c + j) && !bP T j) = true then max (mstJ m c s row T b j) (m (T + 2 ^ j) + 1) else mstJ m c s row T b j

def mst (r c s : Nat) : Nat → Nat → Nat
  | 0, _ => 0
  | k + 1, T => mstJ (mst r c s k) c s (r - (k + 1)) T (mst r c s k T) c

end Go.Proofs.Ytcminkifdbdaaaa

namespace Go.Proofs.Ytcminkifdbdaaaa
set_option linter.unusedSimpArgs false
set_option linter.unusedVariables false
open Go.RowKit

/-! counting -/

theorem sumW_bits {x : List Int} {P : Nat → Bool} {k : Nat} (h : ∀ i, i < k → nth x i = if P i = true then 1 else 0) : sumW x k = (cnt P k : Int) := by
  induction k with
  | zero => rfl
  | succ k ih => simp only [sumW, cnt]; rw [ih fun i hi => h i (by omega), h k (by omega)]; split <;> omega

theorem dotW_bits {x l : List Int} {P Q : Nat → Bool} {k : Nat} (h : ∀ i, i < k → nth x i = if P i = true then 1 else 0) (h' : ∀ i, i < k → nth l i = if Q i = true then 1 else 0) : dotW x l k = (cnt (fun i => P i && Q i) k : Int) := by
  induction k with
  | zero => rfl
  | succ k ih =>
    simp only [dotW, cnt_step]; rw [ih (fun i hi => h i (by omega)) (fun i hi => h' i (by omega)), h k (by omega), h' k (by omega)]
    cases P k <;> cases Q k <;> simp

theorem Fld.one {r c s : Nat} (h : Fld r c s) : ∃ k, k < r * c ∧ bP s k = true := by
  have h1 := cnt_pop (r * c) s h.shi
  have h2 := popN_pos (r := s) (by have := h.slo; omega)
  exact cnt_some (by omega)

def cellsL (r c s : Nat) : List Nat := sel (bP s) (r * c)

def cellA (r c s a : Nat) : Nat := (cellsL r c s).getD a 0

theorem cellsL_length (r c s : Nat) : (cellsL r c s).length = cnt (bP s) (r * c) := sel_length _ _

theorem Fld.many {r c s : Nat} (h : Fld r c s) : 1 ≤ (cellsL r c s).length ∧ (cellsL r c s).length ≤ 16 := by
  rw [cellsL_length]
  obtain ⟨k, hk, hb⟩ := h.one
  have h1 := cnt_pos hk hb
  have h2 := cnt_le (bP s) (r * c)
  have := h.rc
  omega

def apB (c : Nat) (l : List Nat) (x : Nat) : Bool := l.all fun y => (y / c != x / c) && (y % c != x % c)

def fL (c many : Nat) : List Nat → List Nat → List Nat
  | [], l => if l.length = many then l else []
  | x :: xs, l => if l.length = many then l else if (apB c l x && (fL c many xs (l ++ [x])).length == many) = true then fL c many xs (l ++ [x]) else fL c many xs l

def ApL (c : Nat) (l : List Nat) : Prop := l.Pairwise fun y x => y / c ≠ x / c ∧ y % c ≠ x % c

theorem apB_iff {c : Nat} {l : List Nat} {x : Nat} : apB c l x = true ↔ ∀ y, y ∈ l → y / c ≠ x / c ∧ y % c ≠ x % c := by
  unfold apB; rw [List.all_eq_true]; simp only [Bool.and_eq_true, bne_iff_ne, ne_eq]

theorem ApL.snoc {c : Nat} {l : List Nat} {x : Nat} (h : ApL c l) (hx : apB c l x = true) : ApL c (l ++ [x]) :=
  List.pairwise_append.2 ⟨h, List.pairwise_singleton _ _, fun y hy z hz => by rw [List.mem_singleton] at hz; subst hz; exact apB_iff.1 hx y hy⟩

theorem ApL.apart {c : Nat} {l : List Nat} (h : ApL c l) : ∀ x y, x ∈ l → y ∈ l → x ≠ y → x / c ≠ y / c ∧ x % c ≠ y % c := by
  unfold ApL at h
  induction l with
  | nil => intro x y hx; cases hx
  | cons z l ih =>
    rw [List.pairwise_cons] at h
    intro x y hx hy hne
    rcases List.mem_cons.1 hx with e | hx2
    · rcases List.mem_cons.1 hy with e2 | hy2
      · exact absurd (e.trans e2.symm) hne
      · rw [e]; exact h.1 y hy2
    · rcases List.mem_cons.1 hy with e2 | hy2
      · have := h.1 x hx2; rw [e2]; exact ⟨fun e => this.1 e.symm, fun e => this.2 e.symm⟩
      · exact ih h.2 x y hx2 hy2 hne

def bestC (r c s : Nat) : List Nat := fL c (mst r c s r 0) (cellsL r c s) []

def lit (r c i k : Nat) : Bool := (decide (i < r) && (k / c == i)) || (decide (r ≤ i) && (k % c == i - r))

end Go.Proofs.Ytcminkifdbdaaaa

namespace Go.Proofs.Ytcminkifdbdaaaa
set_option linter.unusedSimpArgs false
set_option linter.unusedVariables false
open Go.RowKit

/-! one line that shows all -/

theorem bP_plus {s k i : Nat} (h : bP s k = false) : bP (s + 2 ^ k) i = (bP s i || i == k) := by
  unfold bP at *
  rw [beq_eq_false_iff_ne] at h
  have hk : s / 2 ^ k % 2 = 0 := by omega
  rcases Nat.lt_trichotomy i k with hl | hl | hl
  · have e : (s + 2 ^ k) / 2 ^ i = s / 2 ^ i + 2 ^ (k - i) := by
      have : 2 ^ k = 2 ^ i * 2 ^ (k - i) := by rw [← Nat.pow_add]; congr 1; omega
      rw [this, Nat.add_mul_div_left _ _ (Nat.two_pow_pos i)]
    have e2 : 2 ^ (k - i) = 2 * 2 ^ (k - i - 1) := by
      have : k - i = (k - i - 1) + 1 := by omega
      rw [this, Nat.pow_succ]; simp; omega
    have e3 : (i == k) = false := by rw [beq_eq_false_iff_ne]; omega
    rw [e, e3, Bool.or_false, e2]
    congr 1; omega
  · subst hl
    have e : (s + 2 ^ i) / 2 ^ i = s / 2 ^ i + 1 := Nat.add_div_right _ (Nat.two_pow_pos i)
    rw [e]; simp; omega
  · have e3 : (i == k) = false := by rw [beq_eq_false_iff_ne]; omega
    rw [e3, Bool.or_false]
    have e : (s + 2 ^ k) / 2 ^ i = s / 2 ^ i := by
      have h1 : 2 ^ i = 2 ^ (k + 1) * 2 ^ (i - k - 1) := by rw [← Nat.pow_add]; congr 1; omega
      rw [h1, ← Nat.div_div_eq_div_mul, ← Nat.div_div_eq_div_mul]
      congr 1
      rw [Nat.pow_succ, ← Nat.div_div_eq_div_mul, ← Nat.div_div_eq_div_mul, Nat.add_div_right _ (Nat.two_pow_pos k)]
      omega
    rw [e]

/-- a set with a place -/
def orB (s k : Nat) : Nat := if bP s k = true then s else s + 2 ^ k

theorem bP_orB (s k i : Nat) : bP (orB s k) i = (bP s i || i == k) := by
  unfold orB
  by_cases h : bP s k = true
  · rw [if_pos h]
    by_cases e : i = k
    · subst e; rw [h]; rfl
    · have : (i == k) = false := by rwa [beq_eq_false_iff_ne]
      rw [this, Bool.or_false]
  · rw [if_neg h]; exact bP_plus (by simpa using h)

theorem bP_high {s n i : Nat} (h : s < 2 ^ n) (hi : n ≤ i) : bP s i = false := by
  unfold bP
  have : s / 2 ^ i = 0 := Nat.div_eq_of_lt (Nat.lt_of_lt_of_le h (Nat.pow_le_pow_right (by omega) hi))
  rw [this]; rfl

theorem num_lt : ∀ (n s : Nat), (∀ i, n ≤ i → bP s i = false) → s < 2 ^ n
  | 0, s, h => by
    have : ∀ s : Nat, (∀ i, 0 ≤ i → bP s i = false) → s = 0 := fun s => by
      induction s using Nat.strongRecOn with
      | _ s ih =>
        intro h
        by_cases e : s = 0
        · exact e
        · have h1 := ih (s / 2) (by omega) fun i _ => by rw [← bP_succ]; exact h (i + 1) (by omega)
          have h2 := h 0 (by omega)
          unfold bP at h2; rw [beq_eq_false_iff_ne] at h2; simp at h2; omega
    rw [this s h]; decide
  | n + 1, s, h => by
    have := num_lt n (s / 2) fun i hi => by rw [← bP_succ]; exact h (i + 1) (by omega)
    rw [Nat.pow_succ]; omega

theorem orB_lt {s k n : Nat} (h : s < 2 ^ n) (hk : k < n) : orB s k < 2 ^ n :=
  num_lt n _ fun i hi => by rw [bP_orB, bP_high h hi, Bool.false_or, beq_eq_false_iff_ne]; omega

theorem orB_pos (s k : Nat) : 1 ≤ orB s k := by
  unfold orB
  by_cases h : bP s k = true
  · rw [if_pos h]
    refine Nat.one_le_iff_ne_zero.2 fun e => ?_
    rw [e, bP_zero] at h; cases h
  · rw [if_neg h]; have := Nat.two_pow_pos k; omega

theorem Fld.orB {r c s k : Nat} (h : Fld r c s) (hk : k < r * c) : Fld r c (Go.Proofs.Ytcminkifdbdaaaa.orB s k) :=
  ⟨h.rlo, h.rhi, h.clo, h.chi, orB_pos s k, orB_lt h.shi hk⟩

end Go.Proofs.Ytcminkifdbdaaaa
