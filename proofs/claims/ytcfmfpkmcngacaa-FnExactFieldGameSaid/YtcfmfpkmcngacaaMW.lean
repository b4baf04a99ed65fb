/- Texts in one: Konig, Field, FieldB, FieldC. -/
import Derived.Test.YtcfmfpkmcngacaaMA
import Derived.Test.YtcfmfpkmcngacaaMP
import Derived.Test.YtcfmfpkmcngacaaMF
namespace Go.Proofs.Ytcfmfpkmcngacaa
set_option linter.unusedSimpArgs false
set_option linter.unusedVariables false
open Go.RowKit

/-! counting -/

theorem cnt_step (P : Nat → Bool) (k : Nat) : cnt P (k + 1) = cnt P k + (P k).toNat := by
  simp only [cnt]; cases h : P k <;> simp

theorem cnt_sub {P Q : Nat → Bool} {k : Nat} (h : ∀ i, i < k → P i = true → Q i = true) : cnt P k ≤ cnt Q k := by
  induction k with
  | zero => exact Nat.le_refl _
  | succ k ih =>
    have h1 := ih fun i hi => h i (by omega)
    simp only [cnt]
    by_cases e : P k = true
    · rw [if_pos e, if_pos (h k (by omega) e)]; omega
    · rw [if_neg e]; split <;> omega

theorem cnt_two (P Q : Nat → Bool) (k : Nat) : cnt P k + cnt Q k = cnt (fun i => P i || Q i) k + cnt (fun i => P i && Q i) k := by
  induction k with
  | zero => rfl
  | succ k ih =>
    simp only [cnt_step]
    cases P k <;> cases Q k <;> simp <;> omega

theorem cnt_none {P : Nat → Bool} {k : Nat} (h : ∀ i, i < k → P i = false) : cnt P k = 0 := by
  induction k with
  | zero => rfl
  | succ k ih => simp only [cnt]; rw [ih fun i hi => h i (by omega), h k (by omega)]; simp

theorem cnt_full {P : Nat → Bool} {k : Nat} (h : ∀ i, i < k → P i = true) : cnt P k = k := by
  induction k with
  | zero => rfl
  | succ k ih => simp only [cnt]; rw [ih fun i hi => h i (by omega), h k (by omega)]; simp

theorem cnt_not (P : Nat → Bool) (k : Nat) : cnt (fun i => !P i) k + cnt P k = k := by
  induction k with
  | zero => rfl
  | succ k ih => simp only [cnt_step]; cases P k <;> simp <;> omega

/-- one less -/
theorem cnt_less {P : Nat → Bool} {k a : Nat} (ha : a < k) (hp : P a = true) : cnt P k = cnt (fun i => P i && i != a) k + 1 := by
  induction k with
  | zero => omega
  | succ k ih =>
    simp only [cnt_step]
    by_cases e : a = k
    · subst e
      have : cnt (fun i => P i && i != a) a = cnt P a := cnt_congr fun i hi => by
        have : (i != a) = true := by simp; omega
        rw [this, Bool.and_true]
      rw [this, hp]; simp
    · rw [ih (by omega)]
      have : (k != a) = true := by simp; omega
      rw [this]
      cases P k <;> simp <;> omega

theorem cnt_pos {P : Nat → Bool} {k a : Nat} (ha : a < k) (hp : P a = true) : 0 < cnt P k := by rw [cnt_less ha hp]; omega

theorem cnt_some {P : Nat → Bool} {k : Nat} (h : 0 < cnt P k) : ∃ a, a < k ∧ P a = true := by
  induction k with
  | zero => simp [cnt] at h
  | succ k ih =>
    by_cases e : P k = true
    · exact ⟨k, by omega, e⟩
    · simp only [cnt, if_neg e] at h
      obtain ⟨a, h1, h2⟩ := ih h
      exact ⟨a, by omega, h2⟩

/-- what goes into other places, no two into one, is no more than these -/
theorem cnt_into {P Q : Nat → Bool} {n m : Nat} (f : Nat → Nat) (h1 : ∀ i, i < n → P i = true → f i < m ∧ Q (f i) = true) (h2 : ∀ i j, i < n → j < n → P i = true → P j = true → f i = f j → i = j) : cnt P n ≤ cnt Q m := by
  induction n generalizing Q with
  | zero => exact Nat.zero_le _
  | succ n ih =>
    by_cases e : P n = true
    · obtain ⟨a1, a2⟩ := h1 n (by omega) e
      rw [cnt_yes e, cnt_less a1 a2]
      have := ih (Q := fun i => Q i && i != f n) (fun i hi hp => by
        obtain ⟨b1, b2⟩ := h1 i (by omega) hp
        refine ⟨b1, ?_⟩
        simp only [b2, Bool.true_and, bne_iff_ne, ne_eq]
        intro e2; have := h2 i n (by omega) (by omega) hp e e2; omega) (fun i j hi hj => h2 i j (by omega) (by omega))
      omega
    · rw [cnt_no (by simpa using e)]
      exact ih (fun i hi => h1 i (by omega)) (fun i j hi hj => h2 i j (by omega) (by omega))

/-- pairs that are apart: row i goes with column f i, or with none, if that is c or more -/
structure Pairs (e : Nat → Nat → Bool) (r c : Nat) (f : Nat → Nat) : Prop where
  go : ∀ i, i < r → f i < c → e i (f i) = true
  ap : ∀ i j, i < r → j < r → f i < c → f i = f j → i = j

def szF (r c : Nat) (f : Nat → Nat) : Nat := cnt (fun i => decide (f i < c)) r

/-- rows and columns that show all -/
def Shows (e : Nat → Nat → Bool) (r c : Nat) (A B : Nat → Bool) : Prop := ∀ i j, i < r → j < c → e i j = true → A i = true ∨ B j = true

/-- pairs that are apart are no more than lines that show all -/
theorem pairs_le {e : Nat → Nat → Bool} {r c : Nat} {f : Nat → Nat} {A B : Nat → Bool} (hf : Pairs e r c f) (hs : Shows e r c A B) : szF r c f ≤ cnt A r + cnt B c := by
  have h1 : szF r c f ≤ cnt A r + cnt (fun i => decide (f i < c) && !A i) r := by
    unfold szF
    have := cnt_two (fun i => decide (f i < c) && A i) (fun i => decide (f i < c) && !A i) r
    have h2 : cnt (fun i => (decide (f i < c) && A i) || (decide (f i < c) && !A i)) r = cnt (fun i => decide (f i < c)) r := cnt_congr fun i _ => by cases A i <;> simp
    have h3 : cnt (fun i => decide (f i < c) && A i) r ≤ cnt A r := cnt_sub fun i _ h => by rw [Bool.and_eq_true] at h; exact h.2
    simp only [h2] at this
    omega
  have h2 : cnt (fun i => decide (f i < c) && !A i) r ≤ cnt B c := cnt_into f (fun i hi hp => by
    rw [Bool.and_eq_true, decide_eq_true_eq] at hp
    refine ⟨hp.1, ?_⟩
    rcases hs i (f i) hi hp.1 (hf.go i hi hp.1) with h | h
    · rw [h] at hp; exact absurd hp.2 (by decide)
    · exact h) (fun i j hi hj hp hq he => by
    rw [Bool.and_eq_true, decide_eq_true_eq] at hp
    exact hf.ap i j hi hj hp.1 he)
  omega

/-- the columns that go with some row of a set -/
def nbr (e : Nat → Nat → Bool) (r : Nat) (X : Nat → Bool) (j : Nat) : Bool := anyN (fun i => X i && e i j) r

theorem nbr_iff {e : Nat → Nat → Bool} {r : Nat} {X : Nat → Bool} {j : Nat} : nbr e r X j = true ↔ ∃ i, i < r ∧ X i = true ∧ e i j = true := by
  unfold nbr; rw [anyN_iff]; simp only [Bool.and_eq_true]

/-- how many pairs there are -/
def edg (e : Nat → Nat → Bool) (c : Nat) : Nat → Nat
  | 0 => 0
  | r + 1 => edg e c r + cnt (e r) c

def cutE (e : Nat → Nat → Bool) (a b : Nat) : Nat → Nat → Bool := fun i j => e i j && !(i == a && j == b)

theorem edg_congr {e e' : Nat → Nat → Bool} {c r : Nat} (h : ∀ i, i < r → ∀ j, j < c → e i j = e' i j) : edg e c r = edg e' c r := by
  induction r with
  | zero => rfl
  | succ r ih => simp only [edg]; rw [ih fun i hi => h i (by omega), cnt_congr (h r (by omega))]

theorem edg_cut {e : Nat → Nat → Bool} {a b c r : Nat} (ha : a < r) (hb : b < c) (h : e a b = true) : edg (cutE e a b) c r + 1 = edg e c r := by
  induction r with
  | zero => omega
  | succ r ih =>
    simp only [edg]
    by_cases e1 : a = r
    · subst e1
      have h1 : edg (cutE e a b) c a = edg e c a := edg_congr fun i hi j _ => by
        have : (i == a) = false := by rw [beq_eq_false_iff_ne]; omega
        simp [cutE, this]
      have h2 : cnt (cutE e a b a) c + 1 = cnt (e a) c := by
        rw [cnt_less hb h]
        rw [cnt_congr (Q := fun i => e a i && i != b) fun j _ => by simp [cutE, bne]]
      omega
    · have := ih (by omega)
      have h2 : cnt (cutE e a b r) c = cnt (e r) c := cnt_congr fun j _ => by
        have : (r == a) = false := by rw [beq_eq_false_iff_ne]; omega
        simp [cutE, this]
      omega

theorem cutE_sub {e : Nat → Nat → Bool} {a b i j : Nat} (h : cutE e a b i j = true) : e i j = true := by
  unfold cutE at h; rw [Bool.and_eq_true] at h; exact h.1

theorem cutE_keep {e : Nat → Nat → Bool} {a b i j : Nat} (h : e i j = true) (hn : i ≠ a ∨ j ≠ b) : cutE e a b i j = true := by
  unfold cutE; rw [h, Bool.true_and]
  rcases hn with hn | hn
  · have : (i == a) = false := by rwa [beq_eq_false_iff_ne]
    rw [this]; rfl
  · have : (j == b) = false := by rwa [beq_eq_false_iff_ne]
    rw [this, Bool.and_false]; rfl

/-- if no set of rows has more than d rows beyond its columns, all rows but d go with columns apart (Hall; the proof: Rado) -/
theorem hall (n : Nat) : ∀ (e : Nat → Nat → Bool) (r c d : Nat), edg e c r ≤ n → (∀ X : Nat → Bool, cnt X r ≤ cnt (nbr e r X) c + d) → ∃ f, Pairs e r c f ∧ r ≤ szF r c f + d := by
  induction n with
  | zero =>
    intro e r c d hn H
    have no : ∀ i, i < r → ∀ j, j < c → e i j = false := by
      intro i hi j hj
      cases h : e i j with
      | false => rfl
      | true => have := edg_cut hi hj h; omega
    refine ⟨fun _ => c, ⟨fun i _ h => absurd h (Nat.lt_irrefl _), fun i j _ _ h => absurd h (Nat.lt_irrefl _)⟩, ?_⟩
    have h1 := H (fun _ => true)
    rw [cnt_full (fun _ _ => rfl)] at h1
    have h2 : cnt (nbr e r fun _ => true) c = 0 := cnt_none fun j hj => by
      cases h : nbr e r (fun _ => true) j with
      | false => rfl
      | true =>
        obtain ⟨i, hi, _, h3⟩ := nbr_iff.1 h
        rw [no i hi j hj] at h3; cases h3
    omega
  | succ n ih =>
    intro e r c d hn H
    by_cases two : ∃ i j1 j2, i < r ∧ j1 < c ∧ j2 < c ∧ j1 ≠ j2 ∧ e i j1 = true ∧ e i j2 = true
    · obtain ⟨i, j1, j2, hi, hj1, hj2, hne, he1, he2⟩ := two
      have c1 := edg_cut hi hj1 he1
      have c2 := edg_cut hi hj2 he2
      by_cases H1 : ∀ X : Nat → Bool, cnt X r ≤ cnt (nbr (cutE e i j1) r X) c + d
      · obtain ⟨f, hf, hs⟩ := ih (cutE e i j1) r c d (by omega) H1
        exact ⟨f, ⟨fun i hi h => cutE_sub (hf.go i hi h), hf.ap⟩, hs⟩
      by_cases H2 : ∀ X : Nat → Bool, cnt X r ≤ cnt (nbr (cutE e i j2) r X) c + d
      · obtain ⟨f, hf, hs⟩ := ih (cutE e i j2) r c d (by omega) H2
        exact ⟨f, ⟨fun i hi h => cutE_sub (hf.go i hi h), hf.ap⟩, hs⟩
      exfalso
      obtain ⟨X1, h1⟩ := Classical.not_forall.1 H1
      obtain ⟨X2, h2⟩ := Classical.not_forall.1 H2
      have has : ∀ (X : Nat → Bool) (b : Nat), ¬ cnt X r ≤ cnt (nbr (cutE e i b) r X) c + d → X i = true := by
        intro X b hX
        cases hx : X i with
        | true => rfl
        | false =>
          exfalso; apply hX
          refine Nat.le_trans (H X) (Nat.add_le_add_right (cnt_sub fun j hj hh => ?_) d)
          obtain ⟨a, ha, hxa, hea⟩ := nbr_iff.1 hh
          refine nbr_iff.2 ⟨a, ha, hxa, cutE_keep hea (.inl ?_)⟩
          intro e3; subst e3; rw [hx] at hxa; cases hxa
      have x1 := has X1 j1 h1
      have x2 := has X2 j2 h2
      have s1 := cnt_two X1 X2 r
      have s2 := cnt_two (nbr (cutE e i j1) r X1) (nbr (cutE e i j2) r X2) c
      have s3 := H (fun a => X1 a || X2 a)
      have s4 := H (fun a => (X1 a && X2 a) && a != i)
      have s5 := cnt_less (P := fun a => X1 a && X2 a) hi (by simp [x1, x2])
      have s6 : cnt (nbr e r fun a => X1 a || X2 a) c ≤ cnt (fun j => nbr (cutE e i j1) r X1 j || nbr (cutE e i j2) r X2 j) c := cnt_sub fun j hj hh => by
        obtain ⟨a, ha, hxa, hea⟩ := nbr_iff.1 hh
        rw [Bool.or_eq_true]
        by_cases e3 : a = i
        · by_cases e4 : j = j1
          · exact .inr (nbr_iff.2 ⟨a, ha, by rw [e3]; exact x2, cutE_keep hea (.inr (by rw [e4]; exact hne))⟩)
          · exact .inl (nbr_iff.2 ⟨a, ha, by rw [e3]; exact x1, cutE_keep hea (.inr e4)⟩)
        · rw [Bool.or_eq_true] at hxa
          rcases hxa with hxa | hxa
          · exact .inl (nbr_iff.2 ⟨a, ha, hxa, cutE_keep hea (.inl e3)⟩)
          · exact .inr (nbr_iff.2 ⟨a, ha, hxa, cutE_keep hea (.inl e3)⟩)
      have s7 : cnt (nbr e r fun a => (X1 a && X2 a) && a != i) c ≤ cnt (fun j => nbr (cutE e i j1) r X1 j && nbr (cutE e i j2) r X2 j) c := cnt_sub fun j hj hh => by
        obtain ⟨a, ha, hxa, hea⟩ := nbr_iff.1 hh
        simp only [Bool.and_eq_true, bne_iff_ne, ne_eq] at hxa
        rw [Bool.and_eq_true]
        exact ⟨nbr_iff.2 ⟨a, ha, hxa.1.1, cutE_keep hea (.inl hxa.2)⟩, nbr_iff.2 ⟨a, ha, hxa.1.2, cutE_keep hea (.inl hxa.2)⟩⟩
      omega
    · -- each row goes with one column at most
      have one : ∀ i j1 j2, i < r → j1 < c → j2 < c → e i j1 = true → e i j2 = true → j1 = j2 := fun i j1 j2 hi h1 h2 h3 h4 =>
        Classical.byContradiction fun hne => two ⟨i, j1, j2, hi, h1, h2, hne, h3, h4⟩
      -- row i goes with column j, if it is the first that does
      have G : ∀ i, ∃ v, (v < c ∧ e i v = true ∧ (∀ a, a < i → e a v = false)) ∨ (v = c ∧ ¬ ∃ j, j < c ∧ e i j = true ∧ ∀ a, a < i → e a j = false) := fun i => by
        by_cases h : ∃ j, j < c ∧ e i j = true ∧ ∀ a, a < i → e a j = false
        · obtain ⟨j, h1, h2, h3⟩ := h; exact ⟨j, .inl ⟨h1, h2, h3⟩⟩
        · exact ⟨c, .inr ⟨rfl, h⟩⟩
      obtain ⟨f, hf⟩ := Classical.axiomOfChoice G
      refine ⟨f, ⟨fun i hi h => ?_, fun i j hi hj h he => ?_⟩, ?_⟩
      · rcases hf i with ⟨_, h2, _⟩ | ⟨h1, _⟩
        · exact h2
        · omega
      · rcases hf i with ⟨_, h2, h3⟩ | ⟨h1, _⟩
        · rcases hf j with ⟨_, k2, k3⟩ | ⟨k1, _⟩
          · rw [← he] at k2 k3
            rcases Nat.lt_trichotomy i j with hl | hl | hl
            · have := k3 i hl; rw [h2] at this; cases this
            · exact hl
            · have := h3 j hl; rw [k2] at this; cases this
          · omega
        · omega
      · have h1 := H (fun _ => true)
        rw [cnt_full (fun _ _ => rfl)] at h1
        have first : ∀ j, ∃ a, nbr e r (fun _ => true) j = true → a < r ∧ e a j = true ∧ ∀ b, b < a → e b j = false := fun j => by
          by_cases h : nbr e r (fun _ => true) j = true
          · obtain ⟨i, hi, _, h3⟩ := nbr_iff.1 h
            have key : ∀ n, n ≤ r → (∃ i, i < n ∧ e i j = true) → ∃ a, a < n ∧ e a j = true ∧ ∀ b, b < a → e b j = false := by
              intro n
              induction n with
              | zero => rintro _ ⟨i, h1, _⟩; omega
              | succ n ihn =>
                rintro hnr ⟨i, h1, h2⟩
                by_cases e4 : ∃ i, i < n ∧ e i j = true
                · obtain ⟨a, k1, k2⟩ := ihn (by omega) e4; exact ⟨a, by omega, k2⟩
                · refine ⟨n, by omega, ?_, fun b hb => ?_⟩
                  · by_cases e5 : i = n
                    · subst e5; exact h2
                    · exact absurd ⟨i, by omega, h2⟩ e4
                  · cases h5 : e b j with
                    | false => rfl
                    | true => exact absurd ⟨b, hb, h5⟩ e4
            obtain ⟨a, k1, k2⟩ := key r (Nat.le_refl _) ⟨i, hi, h3⟩
            exact ⟨a, fun _ => ⟨k1, k2⟩⟩
          · exact ⟨0, fun h' => absurd h' h⟩
        obtain ⟨g, hg⟩ := Classical.axiomOfChoice first
        have h2 : cnt (nbr e r fun _ => true) c ≤ szF r c f := cnt_into g (fun j hj hp => by
          obtain ⟨k1, k2, k3⟩ := hg j hp
          refine ⟨k1, decide_eq_true ?_⟩
          rcases hf (g j) with ⟨m1, _⟩ | ⟨_, m2⟩
          · exact m1
          · exact absurd ⟨j, hj, k2, k3⟩ m2) (fun i j hi hj hp hq he => by
          obtain ⟨k1, k2, _⟩ := hg i hp
          obtain ⟨_, m2, _⟩ := hg j hq
          rw [← he] at m2
          exact one (g i) i j k1 hi hj k2 m2)
        omega

theorem least_of {p : Nat → Prop} {n : Nat} (h : p n) : ∃ m, p m ∧ ∀ k, p k → m ≤ k := by
  induction n using Nat.strongRecOn with
  | _ n ih =>
    by_cases e : ∃ k, k < n ∧ p k
    · obtain ⟨k, h1, h2⟩ := e; exact ih k h1 h2
    · exact ⟨n, h, fun k hk => Nat.le_of_not_lt fun hl => e ⟨k, hl, hk⟩⟩

/-- as many pairs apart as lines that show all -/
theorem konig (e : Nat → Nat → Bool) (r c : Nat) : ∃ f A B, Pairs e r c f ∧ Shows e r c A B ∧ szF r c f = cnt A r + cnt B c := by
  obtain ⟨m, ⟨X, hX⟩, hm⟩ := least_of (p := fun n => ∃ X : Nat → Bool, cnt (nbr e r X) c + (r - cnt X r) = n) ⟨fun _ => false, rfl⟩
  have hr : m ≤ r := by
    have := hm _ ⟨fun _ => false, rfl⟩
    have h1 : cnt (nbr e r fun _ => false) c = 0 := cnt_none fun j _ => by
      cases h : nbr e r (fun _ => false) j with
      | false => rfl
      | true => obtain ⟨i, _, h2, _⟩ := nbr_iff.1 h; cases h2
    omega
  obtain ⟨f, hf, hs⟩ := hall _ e r c (r - m) (Nat.le_refl _) fun Y => by
    have := hm _ ⟨Y, rfl⟩
    have := cnt_le Y r
    omega
  have hsh : Shows e r c (fun i => !X i) (nbr e r X) := fun i j hi hj h => by
    cases hx : X i with
    | false => exact .inl (by simp [hx])
    | true => exact .inr (nbr_iff.2 ⟨i, hi, hx, h⟩)
  refine ⟨f, _, _, hf, hsh, ?_⟩
  have h1 := pairs_le hf hsh
  have h2 := cnt_not X r
  have h3 := cnt_le X r
  omega

end Go.Proofs.Ytcfmfpkmcngacaa

namespace Go.Proofs.Ytcfmfpkmcngacaa
set_option linter.unusedSimpArgs false
set_option linter.unusedVariables false
open Go.RowKit

/-! two sides of a game of 0 and 1 -/

theorem low_unit {n : Int} (h : 1 ≤ n) : lowU 1 n = 1 ∧ lowD 1 n = n := by
  have hg : gcdI 1 n = 1 := by unfold gcdI; simp
  exact low_of_ok (by omega) hg

/-- lines that show all, and places of which no line shows two, as many of both: they are settled, and worth one by their number -/
structure Duel (g : List (List Int)) (x y : List Int) (n : Int) : Prop where
  set : setB g x y = true
  saf : safB g x = true
  ris : risB g y = true
  up : safU g x = 1
  down : safD g x = n
  rup : risU g y = 1
  rdown : risD g y = n

theorem duel {g : List (List Int)} {m : Nat} {x y : List Int} {n : Int} (hg : Game g m) (hx : Mix x g.length) (hy : Mix y m) (hsx : sumW x g.length = n) (hsy : sumW y m = n) (hn : 1 ≤ n)
    (hc : ∀ j, j < m → 1 ≤ colD g x j) (hr : ∀ i, i < g.length → rowD g y i ≤ 1) : Duel g x y n := by
  have hm := hg.to.2
  have h1 : 1 ≤ safeN g x := by
    unfold safeN
    obtain ⟨j, hj, e⟩ := lowN_at (colsD g x) (k := (rowAt g 0).length) (by have := hg.mlo; omega)
    rw [e, nth_colsD g x j hj]; exact hc j (by omega)
  have h2 : riskN g y ≤ 1 := by
    unfold riskN
    obtain ⟨i, hi, e⟩ := highN_at (rowsD g y) (k := g.length) (by have := hg.lo; omega)
    rw [e, nth_rowsD g y i hi]; exact hr i hi
  have hw := weak hg hx hy
  rw [hsx, hsy] at hw
  have h3 : safeN g x ≤ riskN g y := Int.le_of_mul_le_mul_right hw (by omega)
  have e1 : safeN g x = 1 := by omega
  have e2 : riskN g y = 1 := by omega
  have b1 : safB g x = true := safB_iff.2 ⟨hg.to.1, hx⟩
  have b2 : risB g y = true := risB_iff.2 ⟨hg.to.1, by rw [← hm]; exact hy⟩
  obtain ⟨l1, l2⟩ := low_unit hn
  have c1 : safU g x = 1 := by unfold safU; rw [if_pos b1, e1, hx.len, hsx]; exact l1
  have c2 : safD g x = n := by unfold safD; rw [if_pos b1, e1, hx.len, hsx]; exact l2
  have c3 : risU g y = 1 := by unfold risU; rw [if_pos b2, e2, hy.len, hsy]; exact l1
  have c4 : risD g y = n := by unfold risD; rw [if_pos b2, e2, hy.len, hsy]; exact l2
  refine ⟨?_, b1, b2, c1, c2, c3, c4⟩
  unfold setB; rw [b1, b2, c1, c2, c3, c4]; simp

/-! bits -/

theorem bP_iff {r k : Nat} : bP r k = true ↔ r / 2 ^ k % 2 = 1 := by unfold bP; rw [beq_iff_eq]

theorem bit_set : ∀ T : Fin 16, ∀ j : Fin 4, bP T.val j.val = false → T.val + 2 ^ j.val < 16 ∧ ∀ i : Fin 4, bP (T.val + 2 ^ j.val) i.val = (bP T.val i.val || i.val == j.val) := by decide +kernel

theorem bit_add {T j : Nat} (hT : T < 16) (hj : j < 4) (h : bP T j = false) : T + 2 ^ j < 16 ∧ ∀ i, i < 4 → bP (T + 2 ^ j) i = (bP T i || i == j) := by
  obtain ⟨h1, h2⟩ := bit_set ⟨T, hT⟩ ⟨j, hj⟩ h
  exact ⟨h1, fun i hi => h2 ⟨i, hi⟩⟩

theorem bP_zero (k : Nat) : bP 0 k = false := by unfold bP; simp

/-! a field -/

def fldB (R C S : Int) : Bool := inR R 1 4 && (inR C 1 4 && inR S 1 (pw (R.toNat * C.toNat)))

structure Fld (r c s : Nat) : Prop where
  rlo : 1 ≤ r
  rhi : r ≤ 4
  clo : 1 ≤ c
  chi : c ≤ 4
  slo : 1 ≤ s
  shi : s < 2 ^ (r * c)

theorem fld_nat {R C S : Int} (h : fldB R C S = true) : ∃ r c s : Nat, R = r ∧ C = c ∧ S = s ∧ Fld r c s := by
  unfold fldB at h
  rw [Bool.and_eq_true, Bool.and_eq_true] at h
  obtain ⟨h1, h2, h3⟩ := h
  unfold inR at h1 h2
  rw [decide_eq_true_eq] at h1 h2
  have h0 : 1 ≤ S := by unfold inR at h3; rw [decide_eq_true_eq] at h3; exact h3.1
  obtain ⟨s, rfl⟩ : ∃ s : Nat, S = s := ⟨S.toNat, by omega⟩
  obtain ⟨a, b⟩ := pw_lt h3
  exact ⟨R.toNat, C.toNat, s, by omega, by omega, rfl, by omega, by omega, by omega, by omega, a, b⟩

theorem pw_in {s k : Nat} (h1 : 1 ≤ s) (h2 : s < 2 ^ k) : inR (s : Int) 1 (pw k) = true := by
  unfold inR pw
  rw [decide_eq_true_eq]
  have e : ((2 ^ k : Nat) : Int) = (2 : Int) ^ k := by simp
  rw [← e]
  generalize 2 ^ k = t at h2 ⊢
  omega

theorem Fld.to {r c s : Nat} (h : Fld r c s) : fldB r c s = true := by
  obtain ⟨h1, h2, h3, h4, h5, h6⟩ := h
  unfold fldB
  rw [Bool.and_eq_true, Bool.and_eq_true]
  refine ⟨?_, ?_, pw_in h5 (by simpa using h6)⟩ <;> (unfold inR; rw [decide_eq_true_eq]; omega)

theorem Fld.rc {r c s : Nat} (h : Fld r c s) : 1 ≤ r * c ∧ r * c ≤ 16 := by
  obtain ⟨h1, h2, h3, h4, _, _⟩ := h
  have a := Nat.mul_le_mul h1 h3
  have b := Nat.mul_le_mul h2 h4
  omega

def eF (c s : Nat) (i j : Nat) : Bool := bP s (i * c + j)

theorem cell_div {c i j : Nat} (hj : j < c) : (i * c + j) / c = i ∧ (i * c + j) % c = j := by
  constructor
  · rw [Nat.mul_comm, Nat.mul_add_div (by omega), Nat.div_eq_of_lt hj, Nat.add_zero]
  · rw [Nat.mul_comm, Nat.mul_add_mod, Nat.mod_eq_of_lt hj]

theorem cell_lt {r c i j : Nat} (hi : i < r) (hj : j < c) : i * c + j < r * c := by
  have : (i + 1) * c ≤ r * c := Nat.mul_le_mul_right c hi
  rw [Nat.add_mul, Nat.one_mul] at this
  omega

theorem cellF_of {r c k : Nat} (hk : k < r * c) (hc : 1 ≤ c) : k / c < r ∧ k % c < c ∧ k / c * c + k % c = k :=
  ⟨(Nat.div_lt_iff_lt_mul (by omega)).2 hk, Nat.mod_lt _ (by omega), by rw [Nat.mul_comm]; exact Nat.div_add_mod k c⟩

/-! the most cells apart -/

def mstJ (m : Nat → Nat) (c s row T b : Nat) : Nat → Nat
  | 0 => b
  | j + 1 => if (bP s (row * c + j) && !bP T j) = true then max (mstJ m c s row T b j) (m (T + 2 ^ j) + 1) else mstJ m c s row T b j

def mst (r c s : Nat) : Nat → Nat → Nat
  | 0, _ => 0
  | k + 1, T => mstJ (mst r c s k) c s (r - (k + 1)) T (mst r c s k T) c

theorem mstJ_base (m : Nat → Nat) (c s row T b : Nat) (n : Nat) : b ≤ mstJ m c s row T b n := by
  induction n with
  | zero => exact Nat.le_refl _
  | succ n ih => simp only [mstJ]; split <;> omega

theorem mstJ_ge (m : Nat → Nat) (c s row T b : Nat) {n j : Nat} (hj : j < n) (h1 : bP s (row * c + j) = true) (h2 : bP T j = false) : m (T + 2 ^ j) + 1 ≤ mstJ m c s row T b n := by
  induction n with
  | zero => omega
  | succ n ih =>
    simp only [mstJ]
    by_cases e : j = n
    · subst e; rw [h1, h2]; simp; omega
    · have := ih (by omega); split <;> omega

theorem mstJ_at (m : Nat → Nat) (c s row T b : Nat) (n : Nat) : mstJ m c s row T b n = b ∨ ∃ j, j < n ∧ bP s (row * c + j) = true ∧ bP T j = false ∧ mstJ m c s row T b n = m (T + 2 ^ j) + 1 := by
  induction n with
  | zero => exact .inl rfl
  | succ n ih =>
    simp only [mstJ]
    by_cases e : (bP s (row * c + n) && !bP T n) = true
    · rw [if_pos e]
      rw [Bool.and_eq_true, Bool.not_eq_true'] at e
      by_cases hl : mstJ m c s row T b n ≤ m (T + 2 ^ n) + 1
      · exact .inr ⟨n, by omega, e.1, e.2, by omega⟩
      · rcases ih with h | ⟨j, h1, h2, h3, h4⟩
        · exact .inl (by omega)
        · exact .inr ⟨j, by omega, h2, h3, by omega⟩
    · rw [if_neg e]
      rcases ih with h | ⟨j, h1, h2, h3, h4⟩
      · exact .inl h
      · exact .inr ⟨j, by omega, h2, h3, h4⟩

theorem mst_le (r c s : Nat) : ∀ k T, mst r c s k T ≤ k := by
  intro k
  induction k with
  | zero => intro T; exact Nat.le_refl _
  | succ k ih =>
    intro T
    rcases mstJ_at (mst r c s k) c s (r - (k + 1)) T (mst r c s k T) c with h | ⟨j, _, _, _, h⟩
    · show mstJ _ _ _ _ _ _ _ ≤ _; rw [h]; have := ih T; omega
    · show mstJ _ _ _ _ _ _ _ ≤ _; rw [h]; have := ih (T + 2 ^ j); omega

/-- pairs in the last k rows, in columns that are not taken -/
structure Late (r c s k T : Nat) (f : Nat → Nat) : Prop extends Pairs (eF c s) r c f where
  late : ∀ i, i < r - k → ¬ f i < c
  free : ∀ i, i < r → f i < c → bP T (f i) = false

theorem mst_up {r c s : Nat} (hc : c ≤ 4) : ∀ k, k ≤ r → ∀ T, T < 16 → ∀ f, Late r c s k T f → szF r c f ≤ mst r c s k T := by
  intro k
  induction k with
  | zero =>
    intro _ T _ f h
    have : szF r c f = 0 := cnt_none fun i hi => decide_eq_false (h.late i (by omega))
    omega
  | succ k ih =>
    intro hk T hT f h
    show _ ≤ mstJ _ _ _ _ _ _ _
    by_cases hr : f (r - (k + 1)) < c
    · have hrow : r - (k + 1) < r := by omega
      have hfr := h.free _ hrow hr
      obtain ⟨hT2, hbit⟩ := bit_add hT (show f (r - (k + 1)) < 4 by omega) hfr
      have hs : szF r c f = szF r c (fun i => if i = r - (k + 1) then c else f i) + 1 := by
        unfold szF
        rw [cnt_less (P := fun i => decide (f i < c)) hrow (decide_eq_true hr)]
        congr 1
        refine cnt_congr fun i _ => ?_
        by_cases e : i = r - (k + 1)
        · simp [e]
        · simp [e]
      have hlate : Late r c s k (T + 2 ^ f (r - (k + 1))) (fun i => if i = r - (k + 1) then c else f i) := by
        refine ⟨⟨fun i hi hl => ?_, fun i j hi hj hl he => ?_⟩, fun i hi => ?_, fun i hi hl => ?_⟩
        · by_cases e : i = r - (k + 1)
          · rw [if_pos e] at hl; omega
          · rw [if_neg e] at hl ⊢; exact h.go i hi hl
        · try dsimp only at hl he
          by_cases e : i = r - (k + 1)
          · rw [if_pos e] at hl; omega
          · rw [if_neg e] at hl he
            by_cases e2 : j = r - (k + 1)
            · rw [if_pos e2] at he; omega
            · rw [if_neg e2] at he; exact h.ap i j hi hj hl he
        · by_cases e : i = r - (k + 1)
          · rw [if_pos e]; omega
          · rw [if_neg e]; exact h.late i (by omega)
        · try dsimp only at hl ⊢
          by_cases e : i = r - (k + 1)
          · rw [if_pos e] at hl; omega
          · rw [if_neg e] at hl ⊢
            rw [hbit _ (by omega), h.free i hi hl, Bool.false_or, beq_eq_false_iff_ne]
            intro e2; exact e (h.ap i _ hi hrow hl e2)
      have h1 := ih (by omega) _ hT2 _ hlate
      have h2 := mstJ_ge (mst r c s k) c s (r - (k + 1)) T (mst r c s k T) hr (h.go _ hrow hr) hfr
      omega
    · have h1 := ih (by omega) T hT f ⟨h.toPairs, fun i hi => by
        by_cases e : i = r - (k + 1)
        · rw [e]; exact hr
        · exact h.late i (by omega), h.free⟩
      have h2 := mstJ_base (mst r c s k) c s (r - (k + 1)) T (mst r c s k T) c
      omega

theorem mst_is {r c s : Nat} (hc : c ≤ 4) : ∀ k, k ≤ r → ∀ T, T < 16 → ∃ f, Late r c s k T f ∧ szF r c f = mst r c s k T := by
  intro k
  induction k with
  | zero =>
    intro _ T _
    exact ⟨fun _ => c, ⟨⟨fun i _ h => absurd h (Nat.lt_irrefl _), fun i j _ _ h => absurd h (Nat.lt_irrefl _)⟩, fun i _ h => absurd h (Nat.lt_irrefl _), fun i _ h => absurd h (Nat.lt_irrefl _)⟩, cnt_none fun i _ => by simp⟩
  | succ k ih =>
    intro hk T hT
    rcases mstJ_at (mst r c s k) c s (r - (k + 1)) T (mst r c s k T) c with h | ⟨j, hj, h1, h2, h⟩
    · obtain ⟨f, hf, hs⟩ := ih (by omega) T hT
      exact ⟨f, ⟨hf.toPairs, fun i hi => hf.late i (by omega), hf.free⟩, by rw [hs]; exact h.symm⟩
    · obtain ⟨hT2, hbit⟩ := bit_add hT (show j < 4 by omega) h2
      obtain ⟨f, hf, hs⟩ := ih (by omega) _ hT2
      have hrow : r - (k + 1) < r := by omega
      have hno : ∀ i, i < r → f i < c → f i ≠ j := fun i hi hl e => by
        have := hf.free i hi hl
        rw [hbit _ (by omega), e, h2] at this; simp at this
      refine ⟨fun i => if i = r - (k + 1) then j else f i, ⟨⟨fun i hi hl => ?_, fun a b ha hb hl he => ?_⟩, fun i hi => ?_, fun i hi hl => ?_⟩, ?_⟩
      · try dsimp only at hl ⊢
        by_cases e : i = r - (k + 1)
        · rw [if_pos e, e]; exact h1
        · rw [if_neg e] at hl ⊢; exact hf.go i hi hl
      · try dsimp only at hl he
        by_cases e : a = r - (k + 1)
        · rw [if_pos e] at hl he
          by_cases e2 : b = r - (k + 1)
          · omega
          · rw [if_neg e2] at he; exact absurd he.symm (hno b hb (by omega))
        · rw [if_neg e] at hl he
          by_cases e2 : b = r - (k + 1)
          · rw [if_pos e2] at he; exact absurd he (hno a ha hl)
          · rw [if_neg e2] at he; exact hf.ap a b ha hb hl he
      · by_cases e : i = r - (k + 1)
        · omega
        · (try dsimp only); rw [if_neg e]; exact hf.late i (by omega)
      · try dsimp only at hl ⊢
        by_cases e : i = r - (k + 1)
        · rw [if_pos e]; exact h2
        · rw [if_neg e] at hl ⊢
          have := hf.free i hi hl
          rw [hbit _ (by omega), Bool.or_eq_false_iff] at this
          exact this.1
      · show _ = mstJ _ _ _ _ _ _ _
        rw [h, ← hs]
        unfold szF
        rw [cnt_less (P := fun i => decide ((if i = r - (k + 1) then j else f i) < c)) hrow (by simp [hj])]
        congr 1
        refine cnt_congr fun i _ => ?_
        by_cases e : i = r - (k + 1)
        · subst e
          have : ¬ f (r - (k + 1)) < c := hf.late _ (by omega)
          simp [this]
        · simp [e]

/-- the most cells apart: as many as lines that show all -/
theorem mst_konig {r c s : Nat} (hc : c ≤ 4) : ∃ f A B, Pairs (eF c s) r c f ∧ Shows (eF c s) r c A B ∧ szF r c f = mst r c s r 0 ∧ cnt A r + cnt B c = mst r c s r 0 := by
  obtain ⟨f, A, B, hf, hs, e⟩ := konig (eF c s) r c
  have h1 := mst_up (s := s) hc r (Nat.le_refl _) 0 (by omega) f ⟨hf, fun i hi => by omega, fun i _ _ => bP_zero _⟩
  obtain ⟨f2, hf2, e2⟩ := mst_is (s := s) hc r (Nat.le_refl _) 0 (by omega)
  have h2 := pairs_le hf2.toPairs hs
  exact ⟨f, A, B, hf, hs, by omega, by omega⟩

theorem mst_ge {r c s : Nat} (hc : c ≤ 4) {f : Nat → Nat} (hf : Pairs (eF c s) r c f) : szF r c f ≤ mst r c s r 0 :=
  mst_up (s := s) hc r (Nat.le_refl _) 0 (by omega) f ⟨hf, fun i hi => by omega, fun i _ _ => bP_zero _⟩

theorem mst_lines {r c s : Nat} (hc : c ≤ 4) {A B : Nat → Bool} (hs : Shows (eF c s) r c A B) : mst r c s r 0 ≤ cnt A r + cnt B c := by
  obtain ⟨f, _, _, hf, _, e, _⟩ := mst_konig (r := r) (s := s) hc
  rw [← e]; exact pairs_le hf hs

end Go.Proofs.Ytcfmfpkmcngacaa

namespace Go.Proofs.Ytcfmfpkmcngacaa
set_option linter.unusedSimpArgs false
set_option linter.unusedVariables false
open Go.RowKit

/-! counting -/

theorem cnt_split (P : Nat → Bool) (r c : Nat) : cnt P (r + c) = cnt P r + cnt (fun j => P (r + j)) c := by
  induction c with
  | zero => rfl
  | succ c ih => rw [← Nat.add_assoc, cnt_step, cnt_step, ih]; omega

theorem sumW_bits {x : List Int} {P : Nat → Bool} {k : Nat} (h : ∀ i, i < k → nth x i = if P i = true then 1 else 0) : sumW x k = (cnt P k : Int) := by
  induction k with
  | zero => rfl
  | succ k ih => simp only [sumW, cnt]; rw [ih fun i hi => h i (by omega), h k (by omega)]; split <;> omega

theorem dotW_bits {x l : List Int} {P Q : Nat → Bool} {k : Nat} (h : ∀ i, i < k → nth x i = if P i = true then 1 else 0) (h' : ∀ i, i < k → nth l i = if Q i = true then 1 else 0) : dotW x l k = (cnt (fun i => P i && Q i) k : Int) := by
  induction k with
  | zero => rfl
  | succ k ih =>
    simp only [dotW, cnt_step]; rw [ih (fun i hi => h i (by omega)) (fun i hi => h' i (by omega)), h k (by omega), h' k (by omega)]
    cases P k <;> cases Q k <;> simp

theorem cnt_one {P : Nat → Bool} {k : Nat} (h : ∀ i j, i < k → j < k → P i = true → P j = true → i = j) : cnt P k ≤ 1 :=
  cnt_into (Q := fun _ => true) (m := 1) (fun _ => 0) (fun _ _ _ => ⟨by omega, rfl⟩) (fun i j hi hj hp hq _ => h i j hi hj hp hq)

theorem cnt_getD (Q : Nat → Bool) (l : List Nat) : cnt (fun a => Q (l.getD a 0)) l.length = (l.filter Q).length := by
  induction l with
  | nil => rfl
  | cons x l ih =>
    rw [List.length_cons, cnt_front]
    have e : (fun i => (fun a => Q ((x :: l).getD a 0)) (i + 1)) = fun a => Q (l.getD a 0) := by funext i; simp
    rw [e, ih, List.filter_cons]
    have e0 : (x :: l).getD 0 0 = x := rfl
    rw [e0]
    split <;> simp <;> omega

/-! sets of lines -/

def shwN (r c s set : Nat) : Nat → Bool
  | 0 => true
  | k + 1 => shwN r c s set k && (!bP s k || (bP set (k / c) || bP set (r + k % c)))

theorem shwN_iff {r c s set n : Nat} : shwN r c s set n = true ↔ ∀ k, k < n → bP s k = true → bP set (k / c) = true ∨ bP set (r + k % c) = true := by
  induction n with
  | zero => simp [shwN]
  | succ n ih =>
    simp only [shwN, Bool.and_eq_true, ih, Bool.or_eq_true, Bool.not_eq_true']
    constructor
    · rintro ⟨h1, h2⟩ k hk hb
      by_cases e : k = n
      · subst e; rcases h2 with h2 | h2
        · rw [hb] at h2; cases h2
        · exact h2
      · exact h1 k (by omega) hb
    · intro h
      refine ⟨fun k hk => h k (by omega), ?_⟩
      cases hb : bP s n with
      | false => exact .inl rfl
      | true => exact .inr (h n (by omega) hb)

theorem shwN_no {r c s set n k : Nat} (hk : k < n) (hb : bP s k = true) (h1 : bP set (k / c) = false) (h2 : bP set (r + k % c) = false) : shwN r c s set n = false := by
  cases h : shwN r c s set n with
  | false => rfl
  | true =>
    rcases shwN_iff.1 h k hk hb with e | e
    · rw [h1] at e; cases e
    · rw [h2] at e; cases e

def shwB (r c s set : Nat) : Bool := shwN r c s set (r * c)

theorem shwB_iff {r c s set : Nat} (hc : 1 ≤ c) : shwB r c s set = true ↔ Shows (eF c s) r c (bP set) (fun j => bP set (r + j)) := by
  unfold shwB
  rw [shwN_iff]
  constructor
  · intro h i j hi hj he
    have := h (i * c + j) (cell_lt hi hj) he
    rw [(cell_div hj).1, (cell_div hj).2] at this; exact this
  · intro h k hk hb
    obtain ⟨h1, h2, h3⟩ := cellF_of hk hc
    exact h (k / c) (k % c) h1 h2 (by unfold eF; rw [h3]; exact hb)

/-- the first of the least sets of 1 to n that show all; 0, if there is none -/
def bst (r c s : Nat) : Nat → Nat
  | 0 => 0
  | n + 1 => if (shwB r c s (n + 1) && (bst r c s n == 0 || decide (popN (n + 1) < popN (bst r c s n)))) = true then n + 1 else bst r c s n

structure BstIs (r c s n b : Nat) : Prop where
  lo : 1 ≤ b
  hi : b ≤ n
  shw : shwB r c s b = true
  least : ∀ t, 1 ≤ t → t ≤ n → shwB r c s t = true → popN b ≤ popN t
  first : ∀ t, 1 ≤ t → t ≤ n → shwB r c s t = true → popN t = popN b → b ≤ t

theorem bst_is (r c s : Nat) : ∀ n, (bst r c s n = 0 ∧ ∀ t, 1 ≤ t → t ≤ n → shwB r c s t = false) ∨ BstIs r c s n (bst r c s n) := by
  intro n
  induction n with
  | zero => exact .inl ⟨rfl, fun t h1 h2 => by omega⟩
  | succ n ih =>
    simp only [bst]
    by_cases e : (shwB r c s (n + 1) && (bst r c s n == 0 || decide (popN (n + 1) < popN (bst r c s n)))) = true
    · rw [if_pos e]
      rw [Bool.and_eq_true, Bool.or_eq_true, beq_iff_eq, decide_eq_true_eq] at e
      obtain ⟨e1, e2⟩ := e
      right
      rcases ih with ⟨h0, h⟩ | h
      · refine ⟨by omega, Nat.le_refl _, e1, fun t h1 h2 h3 => ?_, fun t h1 h2 h3 _ => ?_⟩ <;>
        · by_cases e : t = n + 1
          · subst e; exact Nat.le_refl _
          · rw [h t h1 (by omega)] at h3; cases h3
      · have hp : popN (n + 1) < popN (bst r c s n) := by rcases e2 with e2 | e2; have := h.lo; omega; exact e2
        refine ⟨by omega, Nat.le_refl _, e1, fun t h1 h2 h3 => ?_, fun t h1 h2 h3 h4 => ?_⟩ <;>
        · by_cases e : t = n + 1
          · subst e; exact Nat.le_refl _
          · have := h.least t h1 (by omega) h3; omega
    · rw [if_neg e]
      rcases ih with ⟨h0, h⟩ | h
      · left
        refine ⟨h0, fun t h1 h2 => ?_⟩
        by_cases e2 : t = n + 1
        · subst e2; rw [h0] at e; simpa using e
        · exact h t h1 (by omega)
      · right
        refine ⟨h.lo, by have := h.hi; omega, h.shw, fun t h1 h2 h3 => ?_, fun t h1 h2 h3 h4 => ?_⟩
        · by_cases e2 : t = n + 1
          · subst e2; rw [h3] at e; simp only [Bool.true_and, Bool.or_eq_true, decide_eq_true_eq, not_or] at e; omega
          · exact h.least t h1 (by omega) h3
        · by_cases e2 : t = n + 1
          · have := h.hi; omega
          · exact h.first t h1 (by omega) h3 h4

def allL (r c : Nat) : Nat := 2 ^ (r + c) - 1

def bstL (r c s : Nat) : Nat := bst r c s (allL r c)

theorem Fld.one {r c s : Nat} (h : Fld r c s) : ∃ k, k < r * c ∧ bP s k = true := by
  have h1 := cnt_pop (r * c) s h.shi
  have h2 := popN_pos (r := s) (by have := h.slo; omega)
  exact cnt_some (by omega)

/-- the set: it shows all, and has as many lines as there are cells apart -/
theorem bstL_is {r c s : Nat} (h : Fld r c s) : BstIs r c s (allL r c) (bstL r c s) ∧ popN (bstL r c s) = mst r c s r 0 ∧ bstL r c s < 2 ^ (r + c) := by
  obtain ⟨f, A, B, hf, hs, _, e2⟩ := mst_konig (r := r) (s := s) h.chi
  obtain ⟨P, hP⟩ : ∃ P : Nat → Bool, P = fun i => if i < r then A i else B (i - r) := ⟨_, rfl⟩
  have hlt := numS_lt (r + c) P
  have hbit := bP_numS (r + c) P
  obtain ⟨t, ht⟩ : ∃ t, numS P (r + c) = t := ⟨_, rfl⟩
  rw [ht] at hlt hbit
  have hshow : shwB r c s t = true := (shwB_iff h.clo).2 fun i j hi hj he => by
    dsimp only
    rw [hbit i (by omega), hbit (r + j) (by omega), hP]
    dsimp only
    rw [if_pos hi, if_neg (by omega), show r + j - r = j from by omega]
    exact hs i j hi hj he
  have h0 : 1 ≤ t := by
    obtain ⟨k, hk, hb⟩ := h.one
    refine Nat.one_le_iff_ne_zero.2 fun e => ?_
    subst e
    rcases shwN_iff.1 hshow k hk hb with e | e <;> (rw [bP_zero] at e; cases e)
  have hpop : popN t = mst r c s r 0 := by
    rw [← cnt_pop (r + c) t hlt, cnt_split, ← e2]
    congr 1
    · refine cnt_congr fun i hi => ?_
      rw [hbit i (by omega), hP]; dsimp only; rw [if_pos hi]
    · refine cnt_congr fun j hj => ?_
      rw [hbit (r + j) (by omega), hP]; dsimp only; rw [if_neg (by omega), show r + j - r = j from by omega]
  have htop : t ≤ allL r c := by unfold allL; omega
  rcases bst_is r c s (allL r c) with ⟨_, hno⟩ | hb
  · rw [hno t h0 htop] at hshow; cases hshow
  · have hlt2 : bstL r c s < 2 ^ (r + c) := by have := hb.hi; have := Nat.two_pow_pos (r + c); unfold allL at this; unfold bstL; unfold allL at *; omega
    refine ⟨hb, ?_, hlt2⟩
    have h1 := hb.least t h0 htop hshow
    have h2 := mst_lines h.chi ((shwB_iff h.clo).1 (show shwB r c s (bstL r c s) = true from hb.shw))
    rw [← cnt_split, cnt_pop (r + c) _ hlt2] at h2
    show popN (bst r c s (allL r c)) = _
    have : popN (bstL r c s) = popN (bst r c s (allL r c)) := rfl
    omega

def lokT (r c s : Nat) : List Int := (List.range (r + c)).map fun i => if bP (bstL r c s) i = true then 1 else 0

theorem lokT_length (r c s : Nat) : (lokT r c s).length = r + c := by simp [lokT]

theorem nth_lokT (r c s : Nat) {i : Nat} (h : i < r + c) : nth (lokT r c s) i = if bP (bstL r c s) i = true then 1 else 0 := by unfold lokT nth; simp [h]

theorem look_sum {r c s : Nat} (h : Fld r c s) : sumW (lokT r c s) (r + c) = (mst r c s r 0 : Int) := by
  obtain ⟨_, h2, h3⟩ := bstL_is h
  rw [sumW_bits (P := bP (bstL r c s)) fun i hi => nth_lokT r c s hi, cnt_pop (r + c) _ h3, h2]

/-! the allowed cells -/

def cellsL (r c s : Nat) : List Nat := sel (bP s) (r * c)

def cellA (r c s a : Nat) : Nat := (cellsL r c s).getD a 0

theorem cellsL_length (r c s : Nat) : (cellsL r c s).length = cnt (bP s) (r * c) := sel_length _ _

theorem Fld.many {r c s : Nat} (h : Fld r c s) : 1 ≤ (cellsL r c s).length ∧ (cellsL r c s).length ≤ 16 := by
  rw [cellsL_length]
  obtain ⟨k, hk, hb⟩ := h.one
  have h1 := cnt_pos hk hb
  have h2 := cnt_le (bP s) (r * c)
  have := h.rc
  omega

theorem cellA_at {r c s a : Nat} (h : a < (cellsL r c s).length) : cellA r c s a < r * c ∧ bP s (cellA r c s a) = true := by
  rw [cellsL_length] at h
  obtain ⟨h1, h2, _⟩ := sel_at h
  exact ⟨h1, h2⟩

theorem cellA_inj {r c s a b : Nat} (ha : a < (cellsL r c s).length) (hb : b < (cellsL r c s).length) (h : cellA r c s a = cellA r c s b) : a = b := by
  rw [cellsL_length] at ha hb
  obtain ⟨_, _, h1⟩ := sel_at ha
  obtain ⟨_, _, h2⟩ := sel_at hb
  unfold cellA cellsL at h
  rw [← h1, ← h2, h]

theorem cellA_has {r c s k : Nat} (hk : k < r * c) (hb : bP s k = true) : ∃ a, a < (cellsL r c s).length ∧ cellA r c s a = k :=
  ⟨cnt (bP s) k, by rw [cellsL_length]; have := cnt_mono (bP s) (i := k + 1) (k := r * c) (by omega); rw [cnt_yes hb] at this; omega, sel_cnt hk hb⟩

theorem cellA_mem {r c s a : Nat} (h : a < (cellsL r c s).length) : cellA r c s a ∈ cellsL r c s := by
  unfold cellA; rw [List.getD_eq_getElem?_getD, List.getElem?_eq_getElem h]; exact List.getElem_mem h

/-! the first list of cells apart -/

def apB (c : Nat) (l : List Nat) (x : Nat) : Bool := l.all fun y => (y / c != x / c) && (y % c != x % c)

def fL (c many : Nat) : List Nat → List Nat → List Nat
  | [], l => if l.length = many then l else []
  | x :: xs, l => if l.length = many then l else if (apB c l x && (fL c many xs (l ++ [x])).length == many) = true then fL c many xs (l ++ [x]) else fL c many xs l

def ApL (c : Nat) (l : List Nat) : Prop := l.Pairwise fun y x => y / c ≠ x / c ∧ y % c ≠ x % c

theorem apB_iff {c : Nat} {l : List Nat} {x : Nat} : apB c l x = true ↔ ∀ y, y ∈ l → y / c ≠ x / c ∧ y % c ≠ x % c := by
  unfold apB; rw [List.all_eq_true]; simp only [Bool.and_eq_true, bne_iff_ne, ne_eq]

theorem ApL.snoc {c : Nat} {l : List Nat} {x : Nat} (h : ApL c l) (hx : apB c l x = true) : ApL c (l ++ [x]) :=
  List.pairwise_append.2 ⟨h, List.pairwise_singleton _ _, fun y hy z hz => by rw [List.mem_singleton] at hz; subst hz; exact apB_iff.1 hx y hy⟩

theorem fL_sound {c many : Nat} (hm : 1 ≤ many) : ∀ (xs l : List Nat), (fL c many xs l).length = many → ApL c l → ∃ m, m.Sublist xs ∧ fL c many xs l = l ++ m ∧ ApL c (l ++ m) := by
  intro xs
  induction xs with
  | nil =>
    intro l h hl
    simp only [fL] at h ⊢
    by_cases e : l.length = many
    · rw [if_pos e]; exact ⟨[], .slnil, by simp, by simpa using hl⟩
    · rw [if_neg e] at h; simp at h; omega
  | cons x xs ih =>
    intro l h hl
    simp only [fL] at h ⊢
    by_cases e : l.length = many
    · rw [if_pos e]; exact ⟨[], List.nil_sublist _, by simp, by simpa using hl⟩
    · rw [if_neg e] at h ⊢
      by_cases e2 : (apB c l x && (fL c many xs (l ++ [x])).length == many) = true
      · rw [if_pos e2] at h ⊢
        rw [Bool.and_eq_true] at e2
        obtain ⟨m, h1, h2, h3⟩ := ih (l ++ [x]) h (hl.snoc e2.1)
        exact ⟨x :: m, h1.cons_cons x, by rw [h2]; simp, by simpa using h3⟩
      · rw [if_neg e2] at h ⊢
        obtain ⟨m, h1, h2, h3⟩ := ih l h hl
        exact ⟨m, h1.cons x, h2, h3⟩

theorem fL_complete {c many : Nat} : ∀ (xs l m : List Nat), m.Sublist xs → ApL c (l ++ m) → (l ++ m).length = many → (fL c many xs l).length = many := by
  intro xs
  induction xs with
  | nil =>
    intro l m hm _ hl
    have : m = [] := List.sublist_nil.1 hm
    subst this
    simp only [List.append_nil] at hl
    simp only [fL, if_pos hl]; exact hl
  | cons x xs ih =>
    intro l m hm ha hl
    simp only [fL]
    by_cases e : l.length = many
    · rw [if_pos e]; exact e
    · rw [if_neg e]
      by_cases e2 : (apB c l x && (fL c many xs (l ++ [x])).length == many) = true
      · rw [if_pos e2]; rw [Bool.and_eq_true, beq_iff_eq] at e2; exact e2.2
      · rw [if_neg e2]
        cases hm with
        | cons _ hm' => exact ih l m hm' ha hl
        | cons_cons _ hm' =>
          rename_i m'
          exfalso; apply e2
          rw [Bool.and_eq_true, beq_iff_eq]
          refine ⟨apB_iff.2 fun y hy => (List.pairwise_append.1 ha).2.2 y hy x (by simp), ih (l ++ [x]) m' hm' (by simpa using ha) (by simpa using hl)⟩

theorem ApL.apart {c : Nat} {l : List Nat} (h : ApL c l) : ∀ x y, x ∈ l → y ∈ l → x ≠ y → x / c ≠ y / c ∧ x % c ≠ y % c := by
  unfold ApL at h
  induction l with
  | nil => intro x y hx; cases hx
  | cons z l ih =>
    rw [List.pairwise_cons] at h
    intro x y hx hy hne
    rcases List.mem_cons.1 hx with e | hx2
    · rcases List.mem_cons.1 hy with e2 | hy2
      · exact absurd (e.trans e2.symm) hne
      · rw [e]; exact h.1 y hy2
    · rcases List.mem_cons.1 hy with e2 | hy2
      · have := h.1 x hx2; rw [e2]; exact ⟨fun e => this.1 e.symm, fun e => this.2 e.symm⟩
      · exact ih h.2 x y hx2 hy2 hne

theorem filter_sub {l : List Nat} (hn : l.Pairwise (· < ·)) {m : List Nat} (h : m.Sublist l) : l.filter (fun k => decide (k ∈ m)) = m := by
  induction h with
  | slnil => rfl
  | cons x h ih =>
    rw [List.pairwise_cons] at hn
    rename_i m l
    have hx : x ∉ m := fun hm => by have := hn.1 x (h.subset hm); omega
    rw [List.filter_cons, if_neg (by simpa using hx)]; exact ih hn.2
  | cons_cons x h ih =>
    rw [List.pairwise_cons] at hn
    rename_i m l
    rw [List.filter_cons, if_pos (by simp)]
    congr 1
    rw [← ih hn.2]
    refine List.filter_congr fun k hk => ?_
    have : k ≠ x := by have := hn.1 k hk; omega
    rw [ih hn.2]; simp [this]

theorem cellsL_lt (r c s : Nat) : (cellsL r c s).Pairwise (· < ·) := List.Pairwise.filter _ List.pairwise_lt_range

def bestC (r c s : Nat) : List Nat := fL c (mst r c s r 0) (cellsL r c s) []

theorem mst_pos {r c s : Nat} (h : Fld r c s) : 1 ≤ mst r c s r 0 := by
  obtain ⟨h1, h2, _⟩ := bstL_is h
  rw [← h2]; exact popN_pos h1.lo

theorem bestC_is {r c s : Nat} (h : Fld r c s) : (bestC r c s).Sublist (cellsL r c s) ∧ (bestC r c s).length = mst r c s r 0 ∧ ApL c (bestC r c s) := by
  obtain ⟨f, _, _, hf, _, e, _⟩ := mst_konig (r := r) (s := s) h.chi
  obtain ⟨q, hq⟩ : ∃ q : Nat → Bool, q = fun k => bP s k && (f (k / c) == k % c) := ⟨_, rfl⟩
  have hqi : ∀ k, q k = true ↔ bP s k = true ∧ f (k / c) = k % c := fun k => by rw [hq]; simp
  have hsub : (sel q (r * c)).Sublist (cellsL r c s) := by
    have : sel q (r * c) = (cellsL r c s).filter (fun k => f (k / c) == k % c) := by
      unfold sel cellsL sel; rw [List.filter_filter]; rw [hq]; congr 1; funext k; rw [Bool.and_comm]
    rw [this]; exact List.filter_sublist
  have hc := h.clo
  have key : ∀ x y, x < r * c → y < r * c → q x = true → q y = true → x ≠ y → x / c ≠ y / c ∧ x % c ≠ y % c := fun x y hx hy h1 h2 hne => by
    obtain ⟨a1, a2, a3⟩ := cellF_of hx hc
    obtain ⟨b1, b2, b3⟩ := cellF_of hy hc
    have e1 := ((hqi x).1 h1).2
    have e2 := ((hqi y).1 h2).2
    refine ⟨fun e => hne ?_, fun e => hne ?_⟩
    · rw [← a3, ← b3, ← e1, ← e2, e]
    · have := hf.ap (x / c) (y / c) a1 b1 (by omega) (by omega)
      rw [← a3, ← b3, this, e]
  have hap : ApL c (sel q (r * c)) := by
    have h1 : (sel q (r * c)).Pairwise (· < ·) := List.Pairwise.filter _ List.pairwise_lt_range
    refine List.Pairwise.imp_of_mem (fun {a b} ha hb hl => ?_) h1
    unfold sel at ha hb
    rw [List.mem_filter, List.mem_range] at ha hb
    exact key a b ha.1 hb.1 ha.2 hb.2 (by omega)
  have hlen : (sel q (r * c)).length = mst r c s r 0 := by
    rw [sel_length, ← e]
    refine Nat.le_antisymm (cnt_into (fun k => k / c) (fun k hk hqk => ?_) (fun x y hx hy h1 h2 he => ?_)) (cnt_into (fun i => i * c + f i) (fun i hi hp => ?_) (fun i j hi hj hp hq he => ?_))
    · obtain ⟨a1, a2, a3⟩ := cellF_of hk hc
      exact ⟨a1, decide_eq_true (by rw [((hqi k).1 hqk).2]; exact a2)⟩
    · exact Classical.byContradiction fun hne => (key x y hx hy h1 h2 hne).1 he
    · rw [decide_eq_true_eq] at hp
      refine ⟨cell_lt hi hp, (hqi _).2 ⟨hf.go i hi hp, ?_⟩⟩
      rw [(cell_div hp).1, (cell_div hp).2]
    · rw [decide_eq_true_eq] at hp hq
      have := congrArg (· / c) he
      try dsimp only at this
      rw [(cell_div hp).1, (cell_div hq).1] at this; exact this
  have hl := fL_complete (c := c) (many := mst r c s r 0) (cellsL r c s) [] _ hsub (by simpa using hap) (by simpa using hlen)
  obtain ⟨m, h1, h2, h3⟩ := fL_sound (mst_pos h) (cellsL r c s) [] hl List.Pairwise.nil
  have e3 : bestC r c s = m := by unfold bestC; rw [h2]; simp
  rw [e3]
  exact ⟨h1, by rw [← e3]; exact hl, by simpa using h3⟩

def hidB (r c s a : Nat) : Bool := decide (cellA r c s a ∈ bestC r c s)

def hidT (r c s : Nat) : List Int := (List.range (cellsL r c s).length).map fun a => if hidB r c s a = true then 1 else 0

theorem hidT_len (r c s : Nat) : (hidT r c s).length = (cellsL r c s).length := by simp [hidT]

theorem nth_hidT (r c s : Nat) {a : Nat} (h : a < (cellsL r c s).length) : nth (hidT r c s) a = if hidB r c s a = true then 1 else 0 := by unfold hidT nth; simp [h]

theorem hide_sum {r c s : Nat} (h : Fld r c s) : sumW (hidT r c s) (cellsL r c s).length = (mst r c s r 0 : Int) := by
  obtain ⟨h1, h2, _⟩ := bestC_is h
  rw [sumW_bits (P := hidB r c s) fun i hi => nth_hidT r c s hi]
  have := cnt_getD (fun k => decide (k ∈ bestC r c s)) (cellsL r c s)
  rw [filter_sub (cellsL_lt r c s) h1, h2] at this
  rw [← this]; rfl

/-! the game of a field -/

def lit (r c i k : Nat) : Bool := (decide (i < r) && (k / c == i)) || (decide (r ≤ i) && (k % c == i - r))

def fldRow (r c s i : Nat) : List Int := (List.range (cellsL r c s).length).map fun a => if lit r c i (cellA r c s a) = true then 1 else 0

def fldT (r c s : Nat) : List (List Int) := (List.range (r + c)).map (fldRow r c s)

theorem fldRow_length (r c s i : Nat) : (fldRow r c s i).length = (cellsL r c s).length := by simp [fldRow]

theorem nth_fldRow (r c s i : Nat) {a : Nat} (h : a < (cellsL r c s).length) : nth (fldRow r c s i) a = if lit r c i (cellA r c s a) = true then 1 else 0 := by unfold fldRow nth; simp [h]

theorem fldT_length (r c s : Nat) : (fldT r c s).length = r + c := by simp [fldT]

theorem rowAt_fldT (r c s : Nat) {i : Nat} (h : i < r + c) : rowAt (fldT r c s) i = fldRow r c s i := by unfold fldT rowAt; simp [h]

theorem fld_game {r c s : Nat} (h : Fld r c s) : Game (fldT r c s) (cellsL r c s).length := by
  obtain ⟨m1, m2⟩ := h.many
  obtain ⟨h1, h2, h3, h4, _, _⟩ := h
  refine ⟨by rw [fldT_length]; omega, by rw [fldT_length]; omega, m1, m2, fun i hi => ?_, fun i hi j hj => ?_, fun i hi j hj => ?_⟩ <;> rw [fldT_length] at hi <;> rw [rowAt_fldT r c s hi]
  · exact fldRow_length r c s i
  · rw [nth_fldRow r c s i hj]; split <;> omega
  · rw [nth_fldRow r c s i hj]; split <;> omega

theorem fldT_cols {r c s : Nat} (h : Fld r c s) : (rowAt (fldT r c s) 0).length = (cellsL r c s).length := (fld_game h).to.2.symm

theorem nth_fldCol {r c s : Nat} {i a : Nat} (hi : i < r + c) (ha : a < (cellsL r c s).length) : nth (col (fldT r c s) a) i = if lit r c i (cellA r c s a) = true then 1 else 0 := by
  rw [nth_col _ _ _ (by rw [fldT_length]; exact hi), rowAt_fldT r c s hi, nth_fldRow r c s i ha]

theorem litF_row {r c k : Nat} (hk : k / c < r) : lit r c (k / c) k = true := by simp [lit, hk]

theorem lit_col {r c k : Nat} : lit r c (r + k % c) k = true := by simp [lit]

theorem lit_one {r c i x y : Nat} (h1 : lit r c i x = true) (h2 : lit r c i y = true) : x / c = y / c ∨ x % c = y % c := by
  simp only [lit, Bool.or_eq_true, Bool.and_eq_true, decide_eq_true_eq, beq_iff_eq] at h1 h2
  omega

theorem lit_cnt {r c k : Nat} (hr : k / c < r) (hc : k % c < c) : cnt (fun i => lit r c i k) (r + c) = 2 := by
  rw [cnt_split]
  have h1 : cnt (fun i => lit r c i k) r = 1 := by
    rw [cnt_less (P := fun i => lit r c i k) hr (litF_row hr)]
    have : cnt (fun i => lit r c i k && i != k / c) r = 0 := cnt_none fun i hi => by
      simp only [lit, Bool.and_eq_false_iff, bne_eq_false_iff_eq]
      by_cases e : i = k / c
      · exact .inr e
      · left; rw [Bool.or_eq_false_iff]; refine ⟨?_, ?_⟩
        · simp; omega
        · simp; omega
    omega
  have h2 : cnt (fun j => lit r c (r + j) k) c = 1 := by
    rw [cnt_less (P := fun j => lit r c (r + j) k) hc lit_col]
    have : cnt (fun i => lit r c (r + i) k && i != k % c) c = 0 := cnt_none fun i hi => by
      simp only [lit, Bool.and_eq_false_iff, bne_eq_false_iff_eq]
      by_cases e : i = k % c
      · exact .inr e
      · left; rw [Bool.or_eq_false_iff]; refine ⟨?_, ?_⟩
        · simp; intro h; omega
        · simp; omega
    omega
  omega

theorem look_mix {r c s : Nat} (h : Fld r c s) : Mix (lokT r c s) (fldT r c s).length := by
  have h1 := look_sum h
  have h2 := mst_pos h
  rw [fldT_length]
  obtain ⟨a, b, d, e, _, _⟩ := h
  refine ⟨lokT_length r c s, by omega, by omega, fun i hi => ?_, fun i hi => ?_, by omega⟩ <;> rw [nth_lokT r c s hi] <;> split <;> omega

theorem hide_mix {r c s : Nat} (h : Fld r c s) : Mix (hidT r c s) (cellsL r c s).length := by
  have h1 := hide_sum h
  have h2 := mst_pos h
  obtain ⟨m1, m2⟩ := h.many
  refine ⟨hidT_len r c s, m1, m2, fun i hi => ?_, fun i hi => ?_, by omega⟩ <;> rw [nth_hidT r c s hi] <;> split <;> omega

/-- the plans of a field are settled, and the field is worth one by the most cells apart -/
theorem fld_duel {r c s : Nat} (h : Fld r c s) : Duel (fldT r c s) (lokT r c s) (hidT r c s) (mst r c s r 0 : Int) := by
  have hp := mst_pos h
  refine duel (fld_game h) (look_mix h) (hide_mix h) (by rw [fldT_length]; exact look_sum h) (hide_sum h) (by omega) (fun a ha => ?_) (fun i hi => ?_)
  · unfold colD
    rw [fldT_length, dotW_bits (P := bP (bstL r c s)) (Q := fun i => lit r c i (cellA r c s a)) (fun i hi => nth_lokT r c s hi) (fun i hi => nth_fldCol hi ha)]
    obtain ⟨k1, k2⟩ := cellA_at ha
    obtain ⟨d1, d2, _⟩ := cellF_of k1 h.clo
    have := (bstL_is h).1.shw
    have : 0 < cnt (fun i => bP (bstL r c s) i && lit r c i (cellA r c s a)) (r + c) := by
      rcases shwN_iff.1 this _ k1 k2 with e | e
      · exact cnt_pos (a := cellA r c s a / c) (by omega) (by rw [litF_row d1, Bool.and_true]; exact e)
      · exact cnt_pos (a := r + cellA r c s a % c) (by omega) (by rw [lit_col, Bool.and_true]; exact e)
    omega
  · rw [fldT_length] at hi
    unfold rowD
    rw [rowAt_fldT r c s hi, hidT_len, dotW_bits (P := hidB r c s) (Q := fun a => lit r c i (cellA r c s a)) (fun a ha => nth_hidT r c s ha) (fun a ha => nth_fldRow r c s i ha)]
    have : cnt (fun a => hidB r c s a && lit r c i (cellA r c s a)) (cellsL r c s).length ≤ 1 := cnt_one fun a b ha hb h1 h2 => by
      try dsimp only at h1 h2
      rw [Bool.and_eq_true] at h1 h2
      unfold hidB at h1 h2
      rw [decide_eq_true_eq] at h1 h2
      refine cellA_inj ha hb (Classical.byContradiction fun hne => ?_)
      have := (bestC_is h).2.2.apart _ _ h1.1 h2.1 hne
      rcases lit_one h1.2 h2.2 with e | e
      · exact this.1 e
      · exact this.2 e
    omega

end Go.Proofs.Ytcfmfpkmcngacaa

namespace Go.Proofs.Ytcfmfpkmcngacaa
set_option linter.unusedSimpArgs false
set_option linter.unusedVariables false
open Go.RowKit

/-! one line that shows all -/

theorem line_shows {r c s i : Nat} (hc : 1 ≤ c) (_ : i < r + c) (h : ∀ k, k < r * c → bP s k = true → lit r c i k = true) : mst r c s r 0 ≤ 1 ∨ 4 < c := by
  by_cases h4 : 4 < c
  · exact .inr h4
  left
  have hs : Shows (eF c s) r c (fun a => a == i) (fun b => r + b == i) := fun a b ha hb he => by
    have := h (a * c + b) (cell_lt ha hb) he
    simp only [lit, (cell_div hb).1, (cell_div hb).2, Bool.or_eq_true, Bool.and_eq_true, decide_eq_true_eq, beq_iff_eq] at this
    rcases this with ⟨_, e⟩ | ⟨_, e⟩
    · left; simp [e]
    · right; simp; omega
  have h1 := mst_lines (by omega) hs
  have h2 : cnt (fun a => a == i) (r + c) ≤ 1 := cnt_one fun a b _ _ p q => by simp only [beq_iff_eq] at p q; omega
  rw [cnt_split] at h2
  omega

theorem one_line {r c s : Nat} (h : Fld r c s) (h1 : mst r c s r 0 ≤ 1) : ∃ i, i < r + c ∧ ∀ k, k < r * c → bP s k = true → lit r c i k = true := by
  obtain ⟨hb, hp, hlt⟩ := bstL_is h
  have hpos : 0 < cnt (bP (bstL r c s)) (r + c) := by rw [cnt_pop _ _ hlt]; exact popN_pos hb.lo
  obtain ⟨i, hi, hbi⟩ := cnt_some hpos
  have hone : cnt (bP (bstL r c s)) (r + c) ≤ 1 := by rw [cnt_pop _ _ hlt, hp]; exact h1
  have uniq : ∀ j, j < r + c → bP (bstL r c s) j = true → j = i := fun j hj hbj => Classical.byContradiction fun hne => by
    have e1 := cnt_less hi hbi
    have e2 : 0 < cnt (fun a => bP (bstL r c s) a && a != i) (r + c) := cnt_pos hj (by simp [hbj, hne])
    omega
  refine ⟨i, hi, fun k hk hbk => ?_⟩
  obtain ⟨d1, d2, _⟩ := cellF_of hk h.clo
  rcases shwN_iff.1 hb.shw k hk hbk with e | e
  · rw [← uniq _ (by omega) e]; exact litF_row d1
  · rw [← uniq _ (by omega) e]; exact lit_col

/-- the floor is 0 from two cells that are apart on -/
theorem fld_floor {r c s : Nat} (h : Fld r c s) : (floV (fldT r c s) == 0) = decide (2 ≤ mst r c s r 0) := by
  have hg := (fld_game h).to.1
  have hc := fldT_cols h
  obtain ⟨m1, m2⟩ := h.many
  have low : ∀ i, i < r + c → nth (lows (fldT r c s)) i = lowN (fldRow r c s i) (cellsL r c s).length := fun i hi => by
    rw [nth_lows _ _ (by rw [fldT_length]; exact hi), rowAt_fldT r c s hi, fldRow_length]
  have val : ∀ i, i < r + c → ∃ a, a < (cellsL r c s).length ∧ nth (lows (fldT r c s)) i = if lit r c i (cellA r c s a) = true then 1 else 0 := fun i hi => by
    obtain ⟨a, ha, e⟩ := lowN_at (fldRow r c s i) (k := (cellsL r c s).length) (by omega)
    exact ⟨a, ha, by rw [low i hi, e, nth_fldRow r c s i ha]⟩
  obtain ⟨i, hi, _, ef⟩ := floor_at hg
  rw [fldT_length] at hi
  by_cases h2 : 2 ≤ mst r c s r 0
  · rw [decide_eq_true h2, beq_iff_eq, ef]
    obtain ⟨a, ha, e⟩ := val i hi
    rw [e]
    by_cases hl : lit r c i (cellA r c s a) = true
    · exfalso
      rw [if_pos hl] at e
      have := line_shows (r := r) (s := s) h.clo hi fun k hk hb => by
        obtain ⟨a', ha', ek⟩ := cellA_has hk hb
        have hle := lowN_le (fldRow r c s i) ha'
        rw [← low i hi, e, nth_fldRow r c s i ha', ek] at hle
        by_cases hl2 : lit r c i k = true
        · exact hl2
        · rw [if_neg hl2] at hle; omega
      have := h.chi
      omega
    · rw [if_neg hl]
  · rw [decide_eq_false h2, beq_eq_false_iff_ne]
    intro e0
    obtain ⟨i', hi', hall⟩ := one_line h (by omega)
    have hle := low_le_floor hg i' (by rw [fldT_length]; exact hi')
    obtain ⟨a, ha, e⟩ := val i' hi'
    obtain ⟨k1, k2⟩ := cellA_at ha
    rw [e, if_pos (hall _ k1 k2)] at hle
    omega

/-! with a further cell -/

theorem mst_more {r c s t k : Nat} (hc : 1 ≤ c) (hc4 : c ≤ 4) (hk : k < r * c) (h : ∀ i, i < r * c → bP t i = (bP s i || i == k)) : mst r c t r 0 = mst r c s r 0 ∨ mst r c t r 0 = mst r c s r 0 + 1 := by
  obtain ⟨_, A, B, _, hs, _, e⟩ := mst_konig (r := r) (s := t) hc4
  have h1 : mst r c s r 0 ≤ mst r c t r 0 := by
    rw [← e]
    exact mst_lines hc4 fun i j hi hj he => hs i j hi hj (by unfold eF at he ⊢; rw [h _ (cell_lt hi hj), he]; rfl)
  obtain ⟨_, A', B', _, hs', _, e'⟩ := mst_konig (r := r) (s := s) hc4
  obtain ⟨k1, k2, k3⟩ := cellF_of hk hc
  have h2 : mst r c t r 0 ≤ mst r c s r 0 + 1 := by
    have h3 := mst_lines (r := r) (s := t) (A := fun i => A' i || i == k / c) (B := B') hc4 fun i j hi hj he => by
      unfold eF at he
      rw [h _ (cell_lt hi hj), Bool.or_eq_true, beq_iff_eq] at he
      rcases he with he | he
      · rcases hs' i j hi hj he with e | e
        · exact .inl (by simp [e])
        · exact .inr e
      · left; rw [← he, (cell_div hj).1]; simp
    have h4 : cnt (fun i => A' i || i == k / c) r ≤ cnt A' r + 1 := by
      have := cnt_two A' (fun i => i == k / c) r
      have h5 : cnt (fun i => i == k / c) r ≤ 1 := cnt_one fun a b _ _ p q => by simp only [beq_iff_eq] at p q; omega
      omega
    omega
  omega

theorem bP_plus {s k i : Nat} (h : bP s k = false) : bP (s + 2 ^ k) i = (bP s i || i == k) := by
  unfold bP at *
  rw [beq_eq_false_iff_ne] at h
  have hk : s / 2 ^ k % 2 = 0 := by omega
  rcases Nat.lt_trichotomy i k with hl | hl | hl
  · have e : (s + 2 ^ k) / 2 ^ i = s / 2 ^ i + 2 ^ (k - i) := by
      have : 2 ^ k = 2 ^ i * 2 ^ (k - i) := by rw [← Nat.pow_add]; congr 1; omega
      rw [this, Nat.add_mul_div_left _ _ (Nat.two_pow_pos i)]
    have e2 : 2 ^ (k - i) = 2 * 2 ^ (k - i - 1) := by
      have : k - i = (k - i - 1) + 1 := by omega
      rw [this, Nat.pow_succ]; simp; omega
    have e3 : (i == k) = false := by rw [beq_eq_false_iff_ne]; omega
    rw [e, e3, Bool.or_false, e2]
    congr 1; omega
  · subst hl
    have e : (s + 2 ^ i) / 2 ^ i = s / 2 ^ i + 1 := Nat.add_div_right _ (Nat.two_pow_pos i)
    rw [e]; simp; omega
  · have e3 : (i == k) = false := by rw [beq_eq_false_iff_ne]; omega
    rw [e3, Bool.or_false]
    have e : (s + 2 ^ k) / 2 ^ i = s / 2 ^ i := by
      have h1 : 2 ^ i = 2 ^ (k + 1) * 2 ^ (i - k - 1) := by rw [← Nat.pow_add]; congr 1; omega
      rw [h1, ← Nat.div_div_eq_div_mul, ← Nat.div_div_eq_div_mul]
      congr 1
      rw [Nat.pow_succ, ← Nat.div_div_eq_div_mul, ← Nat.div_div_eq_div_mul, Nat.add_div_right _ (Nat.two_pow_pos k)]
      omega
    rw [e]

/-- a set with a place -/
def orB (s k : Nat) : Nat := if bP s k = true then s else s + 2 ^ k

theorem bP_orB (s k i : Nat) : bP (orB s k) i = (bP s i || i == k) := by
  unfold orB
  by_cases h : bP s k = true
  · rw [if_pos h]
    by_cases e : i = k
    · subst e; rw [h]; rfl
    · have : (i == k) = false := by rwa [beq_eq_false_iff_ne]
      rw [this, Bool.or_false]
  · rw [if_neg h]; exact bP_plus (by simpa using h)

theorem bP_high {s n i : Nat} (h : s < 2 ^ n) (hi : n ≤ i) : bP s i = false := by
  unfold bP
  have : s / 2 ^ i = 0 := Nat.div_eq_of_lt (Nat.lt_of_lt_of_le h (Nat.pow_le_pow_right (by omega) hi))
  rw [this]; rfl

theorem num_lt : ∀ (n s : Nat), (∀ i, n ≤ i → bP s i = false) → s < 2 ^ n
  | 0, s, h => by
    have : ∀ s : Nat, (∀ i, 0 ≤ i → bP s i = false) → s = 0 := fun s => by
      induction s using Nat.strongRecOn with
      | _ s ih =>
        intro h
        by_cases e : s = 0
        · exact e
        · have h1 := ih (s / 2) (by omega) fun i _ => by rw [← bP_succ]; exact h (i + 1) (by omega)
          have h2 := h 0 (by omega)
          unfold bP at h2; rw [beq_eq_false_iff_ne] at h2; simp at h2; omega
    rw [this s h]; decide
  | n + 1, s, h => by
    have := num_lt n (s / 2) fun i hi => by rw [← bP_succ]; exact h (i + 1) (by omega)
    rw [Nat.pow_succ]; omega

theorem orB_lt {s k n : Nat} (h : s < 2 ^ n) (hk : k < n) : orB s k < 2 ^ n :=
  num_lt n _ fun i hi => by rw [bP_orB, bP_high h hi, Bool.false_or, beq_eq_false_iff_ne]; omega

theorem orB_pos (s k : Nat) : 1 ≤ orB s k := by
  unfold orB
  by_cases h : bP s k = true
  · rw [if_pos h]
    refine Nat.one_le_iff_ne_zero.2 fun e => ?_
    rw [e, bP_zero] at h; cases h
  · rw [if_neg h]; have := Nat.two_pow_pos k; omega

theorem Fld.orB {r c s k : Nat} (h : Fld r c s) (hk : k < r * c) : Fld r c (Go.Proofs.Ytcfmfpkmcngacaa.orB s k) :=
  ⟨h.rlo, h.rhi, h.clo, h.chi, orB_pos s k, orB_lt h.shi hk⟩

theorem fld_more {r c s k : Nat} (h : Fld r c s) (hk : k < r * c) : mst r c (orB s k) r 0 = mst r c s r 0 ∨ mst r c (orB s k) r 0 = mst r c s r 0 + 1 :=
  mst_more h.clo h.chi hk fun i _ => bP_orB s k i

/-! rows for columns -/

def trn (r c s : Nat) : Nat → Nat
  | 0 => 0
  | k + 1 => if bP s k = true then orB (trn r c s k) (k % c * r + k / c) else trn r c s k

theorem bP_trn {r c s : Nat} (n i : Nat) : bP (trn r c s n) i = true ↔ ∃ k, k < n ∧ bP s k = true ∧ k % c * r + k / c = i := by
  induction n with
  | zero => simp [trn, bP_zero]
  | succ n ih =>
    simp only [trn]
    by_cases e : bP s n = true
    · rw [if_pos e, bP_orB, Bool.or_eq_true, ih, beq_iff_eq]
      constructor
      · rintro (⟨k, h1, h2, h3⟩ | h)
        · exact ⟨k, by omega, h2, h3⟩
        · exact ⟨n, by omega, e, h.symm⟩
      · rintro ⟨k, h1, h2, h3⟩
        by_cases e2 : k = n
        · subst e2; exact .inr h3.symm
        · exact .inl ⟨k, by omega, h2, h3⟩
    · rw [if_neg e, ih]
      constructor
      · rintro ⟨k, h1, h2, h3⟩; exact ⟨k, by omega, h2, h3⟩
      · rintro ⟨k, h1, h2, h3⟩
        by_cases e2 : k = n
        · subst e2; exact absurd h2 e
        · exact ⟨k, by omega, h2, h3⟩

theorem trn_lt {r c s : Nat} (_ : 1 ≤ r) (hc : 1 ≤ c) (n : Nat) (hn : n ≤ r * c) : trn r c s n < 2 ^ (c * r) :=
  num_lt _ _ fun i hi => by
    cases h : bP (trn r c s n) i with
    | false => rfl
    | true =>
      obtain ⟨k, h1, _, h3⟩ := (bP_trn n i).1 h
      obtain ⟨k1, k2, _⟩ := cellF_of (show k < r * c by omega) hc
      have := cell_lt k2 k1
      omega

theorem Fld.trn {r c s : Nat} (h : Fld r c s) : Fld c r (Go.Proofs.Ytcfmfpkmcngacaa.trn r c s (r * c)) := by
  refine ⟨h.clo, h.chi, h.rlo, h.rhi, ?_, trn_lt h.rlo h.clo _ (Nat.le_refl _)⟩
  obtain ⟨k, hk, hb⟩ := h.one
  refine Nat.one_le_iff_ne_zero.2 fun e => ?_
  have := (bP_trn (r := r) (c := c) (s := s) (r * c) (k % c * r + k / c)).2 ⟨k, hk, hb, rfl⟩
  rw [e, bP_zero] at this; cases this

theorem trn_edge {r c s i j : Nat} (hi : i < r) (hj : j < c) : eF r (trn r c s (r * c)) j i = eF c s i j := by
  unfold eF
  rw [Bool.eq_iff_iff, bP_trn]
  constructor
  · rintro ⟨k, h1, h2, h3⟩
    obtain ⟨k1, k2, k3⟩ := cellF_of h1 (by omega)
    have e1 : k % c = j := by rw [← (cell_div (c := r) (i := k % c) k1).1, h3, (cell_div hi).1]
    have e2 : k / c = i := by rw [← (cell_div (c := r) (i := k % c) k1).2, h3, (cell_div hi).2]
    rw [← e1, ← e2, k3]; exact h2
  · intro h
    exact ⟨i * c + j, cell_lt hi hj, h, by rw [(cell_div hj).1, (cell_div hj).2]⟩

theorem fld_trn {r c s : Nat} (h : Fld r c s) : mst c r (trn r c s (r * c)) c 0 = mst r c s r 0 := by
  obtain ⟨_, A, B, _, hs, _, e⟩ := mst_konig (r := r) (s := s) h.chi
  obtain ⟨_, A', B', _, hs', _, e'⟩ := mst_konig (r := c) (s := trn r c s (r * c)) h.rhi
  refine Nat.le_antisymm ?_ ?_
  · rw [← e]
    have := mst_lines (r := c) (c := r) (s := trn r c s (r * c)) (A := B) (B := A) h.rhi fun j i hj hi he => (hs i j hi hj (by rw [← trn_edge hi hj]; exact he)).symm
    omega
  · rw [← e']
    have := mst_lines (r := r) (c := c) (s := s) (A := B') (B := A') h.chi fun i j hi hj he => (hs' j i hj hi (by rw [trn_edge hi hj]; exact he)).symm
    omega

/-! what the functions answer -/

def mosV (R C S : Int) : Int := if fldB R C S = true then (mst R.toNat C.toNat S.toNat R.toNat 0 : Int) else -1

def fldG (R C S : Int) : List (List Int) := if fldB R C S = true then fldT R.toNat C.toNat S.toNat else []

def hidL (R C S : Int) : List Int := if fldB R C S = true then hidT R.toNat C.toNat S.toNat else []

def lokL (R C S : Int) : List Int := if fldB R C S = true then lokT R.toNat C.toNat S.toNat else []

def fwU (R C S : Int) : Int := if fldB R C S = true then 1 else 0

def fwD (R C S : Int) : Int := if fldB R C S = true then mosV R C S else 0

theorem fld_no {R C S : Int} (h : fldB R C S = false) : mosV R C S = -1 ∧ fldG R C S = [] ∧ hidL R C S = [] ∧ lokL R C S = [] ∧ fwU R C S = 0 ∧ fwD R C S = 0 := by
  have e : ¬ fldB R C S = true := by rw [h]; decide
  unfold mosV fldG hidL lokL fwU fwD
  rw [if_neg e, if_neg e, if_neg e, if_neg e, if_neg e, if_neg e]; exact ⟨rfl, rfl, rfl, rfl, rfl, rfl⟩

theorem fld_yes {r c s : Nat} (h : Fld r c s) : mosV r c s = (mst r c s r 0 : Int) ∧ fldG r c s = fldT r c s ∧ hidL r c s = hidT r c s ∧ lokL r c s = lokT r c s ∧ fwU r c s = 1 ∧ fwD r c s = (mst r c s r 0 : Int) := by
  have e := h.to
  have e1 : mosV r c s = (mst r c s r 0 : Int) := by unfold mosV; rw [if_pos e]; rfl
  refine ⟨e1, ?_, ?_, ?_, ?_, ?_⟩
  · unfold fldG; rw [if_pos e]; rfl
  · unfold hidL; rw [if_pos e]; rfl
  · unfold lokL; rw [if_pos e]; rfl
  · unfold fwU; rw [if_pos e]
  · unfold fwD; rw [if_pos e]; exact e1

end Go.Proofs.Ytcfmfpkmcngacaa
