/- Plain mathematics of fractions: greatest common divisors, lowest terms. It imports nothing of the program. -/
namespace Go.Proofs.Ytjojilimdhekfaa
set_option linter.unusedSimpArgs false
set_option linter.unusedVariables false

/-- the greatest common divisor, as an integer -/
def gcdI (a b : Int) : Int := ((Int.gcd a b : Nat) : Int)

theorem gcdI_nonneg (a b : Int) : 0 ≤ gcdI a b := by unfold gcdI; omega

theorem gcdI_tmod (a b : Int) : gcdI b (a.tmod b) = gcdI a b := by
  unfold gcdI
  rw [Int.gcd_eq_natAbs_gcd_natAbs, Int.natAbs_tmod, Int.gcd_eq_natAbs_gcd_natAbs, Nat.gcd_comm b.natAbs, ← Nat.gcd_rec, Nat.gcd_comm]

theorem gcdI_emod (a b : Int) (h : 0 ≤ a) : gcdI b (a % b) = gcdI a b := by
  have := gcdI_tmod a b; rwa [Int.tmod_eq_emod_of_nonneg h] at this

theorem gcdI_zero (a : Int) : gcdI a 0 = max a (-a) := by
  unfold gcdI; rw [Int.gcd_zero_right]; omega

theorem gcdI_abs (a b : Int) : gcdI (max a (-a)) (max b (-b)) = gcdI a b := by
  unfold gcdI
  rw [Int.gcd_eq_natAbs_gcd_natAbs, Int.gcd_eq_natAbs_gcd_natAbs]
  have h1 : (max a (-a)).natAbs = a.natAbs := by omega
  have h2 : (max b (-b)).natAbs = b.natAbs := by omega
  rw [h1, h2]

theorem gcdI_le_left (a b : Int) (h : a ≠ 0) : gcdI a b ≤ max a (-a) := by
  unfold gcdI; rw [Int.gcd_eq_natAbs_gcd_natAbs]
  have := Nat.gcd_le_left b.natAbs (Nat.pos_of_ne_zero (Int.natAbs_ne_zero.2 h)); omega

theorem gcdI_le_right (a b : Int) (h : b ≠ 0) : gcdI a b ≤ max b (-b) := by
  unfold gcdI; rw [Int.gcd_comm]; exact gcdI_le_left b a h

theorem gcdI_pos (a b : Int) (h : b ≠ 0) : 1 ≤ gcdI a b := by
  unfold gcdI
  have := Int.gcd_pos_of_ne_zero_right a h; omega

theorem gcdI_dvd_left (a b : Int) : gcdI a b ∣ a := Int.gcd_dvd_left a b

theorem gcdI_dvd_right (a b : Int) : gcdI a b ∣ b := Int.gcd_dvd_right a b

theorem tmod_in (a b : Int) {M : Int} (h1 : -M ≤ a) (h2 : a ≤ M) : -M ≤ a.tmod b ∧ a.tmod b ≤ M := by
  have h : (a.tmod b).natAbs = a.natAbs % b.natAbs := Int.natAbs_tmod ..
  have h2 : a.natAbs % b.natAbs ≤ a.natAbs := Nat.mod_le ..
  omega

theorem tmod_lt (a b : Int) (h : b ≠ 0) : (a.tmod b).natAbs < b.natAbs := by
  rw [Int.natAbs_tmod]; exact Nat.mod_lt _ (by omega)

theorem tdiv_in (a b : Int) {M : Int} (h1 : -M ≤ a) (h2 : a ≤ M) : -M ≤ a.tdiv b ∧ a.tdiv b ≤ M := by
  have h : (a.tdiv b).natAbs = a.natAbs / b.natAbs := Int.natAbs_tdiv ..
  have h2 : a.natAbs / b.natAbs ≤ a.natAbs := Nat.div_le_self ..
  omega

/-- is it between both? -/
def inR (n lo hi : Int) : Bool := decide (lo ≤ n ∧ n ≤ hi)

theorem inR_yes {n lo hi : Int} (h : inR n lo hi = true) : lo ≤ n ∧ n ≤ hi := by simpa [inR] using h

theorem inR_no {n lo hi : Int} (h : inR n lo hi = false) : ¬ (lo ≤ n ∧ n ≤ hi) := by simpa [inR] using h

/-- is it a fraction? -/
def okB (u d : Int) : Bool := decide (-1000000000 ≤ u ∧ u ≤ 1000000000 ∧ 1 ≤ d ∧ d ≤ 1000000000 ∧ gcdI u d = 1)

/-- lowest terms -/
def lowU (u d : Int) : Int := u.tdiv (if d < 0 then -gcdI u d else gcdI u d)

def lowD (u d : Int) : Int := d.tdiv (if d < 0 then -gcdI u d else gcdI u d)

theorem okB_no {u d : Int} (h : ¬ (-1000000000 ≤ u ∧ u ≤ 1000000000 ∧ 1 ≤ d ∧ d ≤ 1000000000 ∧ gcdI u d = 1)) : okB u d = false := by
  unfold okB; exact decide_eq_false h

theorem low_neg {u d : Int} (h : d < 0) : lowU u d = u.tdiv (-gcdI u d) ∧ lowD u d = d.tdiv (-gcdI u d) := by
  unfold lowU lowD; rw [if_pos h]; exact ⟨rfl, rfl⟩

theorem low_pos {u d : Int} (h : ¬ d < 0) : lowU u d = u.tdiv (gcdI u d) ∧ lowD u d = d.tdiv (gcdI u d) := by
  unfold lowU lowD; rw [if_neg h]; exact ⟨rfl, rfl⟩

theorem lowU_in (u d : Int) {M : Int} (h1 : -M ≤ u) (h2 : u ≤ M) : -M ≤ lowU u d ∧ lowU u d ≤ M := tdiv_in _ _ h1 h2

theorem lowD_in (u d : Int) {M : Int} (h1 : -M ≤ d) (h2 : d ≤ M) : -M ≤ lowD u d ∧ lowD u d ≤ M := tdiv_in _ _ h1 h2

theorem okB_iff {u d : Int} : okB u d = true ↔ (-1000000000 ≤ u ∧ u ≤ 1000000000 ∧ 1 ≤ d ∧ d ≤ 1000000000 ∧ gcdI u d = 1) := by
  unfold okB; simp

theorem abs_tdiv_le (u g : Int) : max (u.tdiv g) (-(u.tdiv g)) ≤ max u (-u) := by
  have h : (u.tdiv g).natAbs = u.natAbs / g.natAbs := Int.natAbs_tdiv ..
  have h2 : u.natAbs / g.natAbs ≤ u.natAbs := Nat.div_le_self ..
  omega

theorem low_gcd (u d : Int) (hd : d ≠ 0) : gcdI (lowU u d) (lowD u d) = 1 := by
  unfold lowU lowD gcdI
  rw [Int.gcd_eq_natAbs_gcd_natAbs]
  rw [Int.natAbs_tdiv, Int.natAbs_tdiv]
  have hp := Int.gcd_pos_of_ne_zero_right u hd
  have e : (if d < 0 then -((Int.gcd u d : Nat) : Int) else ((Int.gcd u d : Nat) : Int)).natAbs = Nat.gcd u.natAbs d.natAbs := by
    have : Int.gcd u d = Nat.gcd u.natAbs d.natAbs := Int.gcd_eq_natAbs_gcd_natAbs ..
    split <;> omega
  rw [e]
  have := Nat.coprime_div_gcd_div_gcd (m := u.natAbs) (n := d.natAbs) (by rw [← Int.gcd_eq_natAbs_gcd_natAbs]; exact hp)
  have h2 : Nat.gcd (u.natAbs / Nat.gcd u.natAbs d.natAbs) (d.natAbs / Nat.gcd u.natAbs d.natAbs) = 1 := this
  exact congrArg (fun n : Nat => (n : Int)) h2

theorem lowD_pos (u d : Int) (hd : d ≠ 0) : 1 ≤ lowD u d := by
  unfold lowD
  have h1 := gcdI_pos u d hd
  have h2 := gcdI_dvd_right u d
  obtain ⟨k, hk⟩ := h2
  generalize hg : gcdI u d = g at *
  by_cases hn : d < 0
  · rw [if_pos hn]
    have e : d = (-k) * (-g) := by rw [Int.neg_mul_neg, Int.mul_comm]; exact hk
    rw [e, Int.mul_tdiv_cancel _ (by omega)]
    have : k < 0 := by
      by_cases hk0 : 0 ≤ k
      · have := Int.mul_nonneg (show (0:Int) ≤ g by omega) hk0; omega
      · omega
    omega
  · rw [if_neg hn]
    have e : d = k * g := by rw [hk, Int.mul_comm]
    rw [e, Int.mul_tdiv_cancel _ (by omega)]
    by_cases hk0 : k ≤ 0
    · have := Int.mul_nonneg (show (0:Int) ≤ g by omega) (show (0:Int) ≤ -k by omega)
      rw [Int.mul_neg] at this; omega
    · omega

/-- crosswise multiplied both are the same -/
theorem low_cross (u d : Int) (hd : d ≠ 0) : lowU u d * d = u * lowD u d := by
  unfold lowU lowD
  have h1 := gcdI_pos u d hd
  obtain ⟨k, hk⟩ := gcdI_dvd_right u d
  obtain ⟨l, hl⟩ := gcdI_dvd_left u d
  generalize hg : (if d < 0 then -gcdI u d else gcdI u d) = s at *
  have hs : s ≠ 0 := by subst hg; split <;> omega
  have ed : ∃ k, d = k * s := by
    subst hg; split
    · exact ⟨-k, by rw [Int.neg_mul_neg, Int.mul_comm]; exact hk⟩
    · exact ⟨k, by rw [Int.mul_comm]; exact hk⟩
  have eu : ∃ k, u = k * s := by
    subst hg; split
    · exact ⟨-l, by rw [Int.neg_mul_neg, Int.mul_comm]; exact hl⟩
    · exact ⟨l, by rw [Int.mul_comm]; exact hl⟩
  clear hk hl hg
  obtain ⟨a, rfl⟩ := ed
  obtain ⟨b, rfl⟩ := eu
  rw [Int.mul_tdiv_cancel _ hs, Int.mul_tdiv_cancel _ hs, Int.mul_assoc, Int.mul_comm s]

/-- fractions in lowest terms that are the same crosswise are the same -/
theorem cross_eq {a b c d : Int} (hb : 1 ≤ b) (hd : 1 ≤ d) (h1 : gcdI a b = 1) (h2 : gcdI c d = 1) (h : a * d = c * b) : a = c ∧ b = d := by
  have c1 : Nat.Coprime a.natAbs b.natAbs := by
    have : Int.gcd a b = 1 := by unfold gcdI at h1; omega
    rwa [Int.gcd_eq_natAbs_gcd_natAbs] at this
  have c2 : Nat.Coprime c.natAbs d.natAbs := by
    have : Int.gcd c d = 1 := by unfold gcdI at h2; omega
    rwa [Int.gcd_eq_natAbs_gcd_natAbs] at this
  have hn : a.natAbs * d.natAbs = c.natAbs * b.natAbs := by rw [← Int.natAbs_mul, ← Int.natAbs_mul, h]
  have e1 : b.natAbs ∣ d.natAbs := c1.symm.dvd_of_dvd_mul_left (by rw [hn]; exact Nat.dvd_mul_left ..)
  have e2 : d.natAbs ∣ b.natAbs := c2.symm.dvd_of_dvd_mul_left (by rw [← hn]; exact Nat.dvd_mul_left ..)
  have e : b.natAbs = d.natAbs := Nat.dvd_antisymm e1 e2
  have ebd : b = d := by omega
  subst ebd
  exact ⟨Int.eq_of_mul_eq_mul_right (by omega) h, rfl⟩

theorem mul_in {a b : Int} (h1 : -1000000000 ≤ a) (h2 : a ≤ 1000000000) (h3 : 0 ≤ b) (h4 : b ≤ 1000000000) : -1000000000000000000 ≤ a * b ∧ a * b ≤ 1000000000000000000 := by
  have e1 : a * b ≤ 1000000000 * b := Int.mul_le_mul_of_nonneg_right h2 h3
  have e2 : -1000000000 * b ≤ a * b := Int.mul_le_mul_of_nonneg_right h1 h3
  omega

theorem mul_pos {a b : Int} (h1 : 1 ≤ a) (h2 : 1 ≤ b) : 1 ≤ a * b := by
  have := Int.mul_pos (show 0 < a by omega) (show 0 < b by omega); omega

/-- a sum -/
def plU (fu fd gu gd : Int) : Int := lowU (fu * gd + gu * fd) (fd * gd)

def plD (fu fd gu gd : Int) : Int := lowD (fu * gd + gu * fd) (fd * gd)

def plB (fu fd gu gd : Int) : Bool := inR (plU fu fd gu gd) (-1000000000) 1000000000 && inR (plD fu fd gu gd) (-1000000000) 1000000000

theorem plB_iff {fu fd gu gd : Int} : plB fu fd gu gd = true ↔ (-1000000000 ≤ plU fu fd gu gd ∧ plU fu fd gu gd ≤ 1000000000 ∧ plD fu fd gu gd ≤ 1000000000 ∧ -1000000000 ≤ plD fu fd gu gd) := by
  unfold plB inR; simp; omega

theorem plB_ok {fu fd gu gd : Int} (hf : okB fu fd = true) (hg : okB gu gd = true) : okB (plU fu fd gu gd) (plD fu fd gu gd) = plB fu fd gu gd := by
  obtain ⟨a1, a2, a3, a4, a5⟩ := okB_iff.1 hf
  obtain ⟨b1, b2, b3, b4, b5⟩ := okB_iff.1 hg
  have hd := mul_pos a3 b3
  have h1 := lowD_pos (fu * gd + gu * fd) (fd * gd) (by omega)
  have h2 := low_gcd (fu * gd + gu * fd) (fd * gd) (by omega)
  rw [Bool.eq_iff_iff, okB_iff, plB_iff]
  unfold plU plD
  omega

theorem low_of_ok {u d : Int} (h1 : 1 ≤ d) (h : gcdI u d = 1) : lowU u d = u ∧ lowD u d = d := by
  unfold lowU lowD
  rw [if_neg (by omega), h]
  exact ⟨Int.tdiv_one .., Int.tdiv_one ..⟩

end Go.Proofs.Ytjojilimdhekfaa
