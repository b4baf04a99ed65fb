/- Plain facts of the texts of fractions: when a text is empty, what its first byte tells, which fraction has the text 3/2. -/
import Derived.Test.YtijlednmagdpgaaDoorTextLaws
namespace Go.Proofs.YtijlednmagdpgaaDoor
set_option linter.unusedSimpArgs false
set_option linter.unusedVariables false
open Go.RowKit

theorem dig_ne (n : Nat) (h : n < 10) : (UInt8.ofNat (48 + n)).toNat = 48 + n := by rw [UInt8.toNat_ofNat']; omega
theorem dec_bytes : ∀ (k u : Nat), u ≤ k → ∀ b ∈ Lib.decDigits u, 48 ≤ b.toNat := by
  intro k
  induction k with
  | zero => intro u hu b hb; rw [Lib.decDigits_one (by omega)] at hb; simp only [List.mem_singleton] at hb; subst hb; rw [dig_ne _ (by omega)]; omega
  | succ k ih =>
    intro u hu b hb
    by_cases h : u < 10
    · rw [Lib.decDigits_one h] at hb; simp only [List.mem_singleton] at hb; subst hb; rw [dig_ne _ h]; omega
    · rw [Lib.decDigits, dif_neg h, List.mem_append] at hb
      rcases hb with hb | hb
      · exact ih (u / 10) (by omega) b hb
      · simp only [List.mem_singleton] at hb; subst hb; rw [dig_ne _ (by omega)]; omega
theorem dec_ne (u : Nat) : ∃ c l, Lib.decDigits u = c :: l ∧ 48 ≤ c.toNat := by
  rcases h : Lib.decDigits u with _ | ⟨c, l⟩
  · have := Lib.decDigits_length u
    rw [h] at this
    by_cases hu : u < 10
    · rw [Lib.nDigits_small hu] at this; simp at this
    · rw [Lib.nDigits_big hu] at this; simp at this
  · exact ⟨c, l, rfl, dec_bytes u u (Nat.le_refl _) c (by rw [h]; exact List.mem_cons_self ..)⟩
theorem itoa_head (n : Int) : ∃ c l, Lib.itoa n = c :: l ∧ (c.toNat = 45 ↔ n < 0) := by
  unfold Lib.itoa
  split
  · next h => exact ⟨45, _, rfl, by simpa using h⟩
  · next h =>
    obtain ⟨c, l, h1, h2⟩ := dec_ne n.toNat
    exact ⟨c, l, h1, by omega⟩
theorem itoa_no47 (n : Int) : ∀ b ∈ Lib.itoa n, b ≠ 47 := by
  intro b hb
  unfold Lib.itoa at hb
  split at hb
  · rcases List.mem_cons.1 hb with rfl | hb
    · decide
    · intro e; subst e; have := dec_bytes _ _ (Nat.le_refl _) _ hb; revert this; decide
  · intro e; subst e; have := dec_bytes _ _ (Nat.le_refl _) _ hb; revert this; decide
theorem itoa_one {n : Int} {k : Nat} (hk : k < 10) (h : Lib.itoa n = [UInt8.ofNat (48 + k)]) : n = k := by
  unfold Lib.itoa at h
  split at h
  · have := List.cons.inj h
    have e := congrArg UInt8.toNat this.1
    rw [dig_ne k hk] at e
    have : (45 : UInt8).toNat = 45 := rfl
    omega
  · next h0 =>
    by_cases hn : n.toNat < 10
    · rw [Lib.decDigits_one hn] at h
      have e := congrArg UInt8.toNat (List.cons.inj h).1
      rw [dig_ne k hk, dig_ne _ hn] at e
      omega
    · have h1 := congrArg List.length h
      have h2 := Lib.decDigits_length n.toNat
      rw [Lib.nDigits_big hn] at h2
      have : 0 < Lib.nDigits (n.toNat / 10) := by
        obtain ⟨c, l, hc, _⟩ := dec_ne (n.toNat / 10)
        have := Lib.decDigits_length (n.toNat / 10)
        rw [hc] at this; simp at this; omega
      simp at h1; omega
/-- the text of a fraction begins with a byte, which is a minus sign if the number above is below 0 -/
theorem txt_head {u d : Int} (h : okB u d = true) : ∃ c l, txt u d = c :: l ∧ (c.toNat = 45 ↔ u < 0) := by
  obtain ⟨c, l, h1, h2⟩ := itoa_head u
  unfold txt
  rw [if_pos h, h1]
  split
  · exact ⟨c, l, rfl, h2⟩
  · exact ⟨c, _, rfl, h2⟩
theorem txt_none {u d : Int} (h : okB u d = false) : txt u d = [] := by simp [txt, h]
theorem txt_32 : txt 3 2 = [51, 47, 50] := by
  have h : okB 3 2 = true := by decide
  unfold txt
  rw [if_pos h, if_neg (by decide), itoa_small (by decide) (by decide), itoa_small (by decide) (by decide)]; rfl
theorem txt_is32 {u d : Int} (h : txt u d = [51, 47, 50]) : u = 3 ∧ d = 2 := by
  have hN := itoa_no47 u
  unfold txt at h
  split at h
  · split at h
    · rw [h] at hN; exact absurd rfl (hN 47 (by simp))
    · rcases hu : Lib.itoa u with _ | ⟨a, _ | ⟨b, l⟩⟩
      · rw [hu] at h; simp at h
      · rw [hu] at h
        simp only [List.cons_append, List.nil_append, List.cons.injEq, true_and] at h
        obtain ⟨rfl, h2⟩ := h
        exact ⟨itoa_one (k := 3) (by decide) hu, itoa_one (k := 2) (by decide) h2⟩
      · rw [hu] at h hN
        simp only [List.cons_append, List.cons.injEq] at h
        obtain ⟨_, rfl, _⟩ := h
        exact absurd rfl (hN 47 (by simp))
  · simp at h
theorem txt_eq32 (u d : Int) : (u = 3 ∧ d = 2) ↔ txt u d = [51, 47, 50] :=
  ⟨fun ⟨h1, h2⟩ => by subst h1 h2; exact txt_32, txt_is32⟩

end Go.Proofs.YtijlednmagdpgaaDoor
