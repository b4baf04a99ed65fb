/- Plain mathematics of mixtures, third part: what the laws of stage 3 say of the answers. It imports nothing of the program. -/
import Derived.Test.YtjojilimdhekfaaMmath2
namespace Go.Proofs.Ytjojilimdhekfaa
set_option linter.unusedSimpArgs false
set_option linter.unusedVariables false

theorem safB_iff {g : List (List Int)} {x : List Int} : safB g x = true ↔ gameB g = true ∧ Mix x g.length := by
  simp only [safB, Bool.and_eq_true]
  exact ⟨fun ⟨h1, h2⟩ => ⟨h1, Mix.of h2⟩, fun ⟨h1, h2⟩ => ⟨h1, h2.to⟩⟩

theorem risB_iff {g : List (List Int)} {y : List Int} : risB g y = true ↔ gameB g = true ∧ Mix y (rowAt g 0).length := by
  simp only [risB, Bool.and_eq_true]
  exact ⟨fun ⟨h1, h2⟩ => ⟨h1, Mix.of h2⟩, fun ⟨h1, h2⟩ => ⟨h1, h2.to⟩⟩

theorem avgB_iff {g : List (List Int)} {x y : List Int} : avgB g x y = true ↔ safB g x = true ∧ risB g y = true ∧ okB (avN g x y) (avM g x y) = true := by
  simp only [avgB, fitB, safB, risB, Bool.and_eq_true]
  exact ⟨fun ⟨⟨⟨h1, h2⟩, h3⟩, h4⟩ => ⟨⟨h1, h2⟩, ⟨h1, h3⟩, h4⟩, fun ⟨⟨h1, h2⟩, ⟨_, h3⟩, h4⟩ => ⟨⟨⟨h1, h2⟩, h3⟩, h4⟩⟩

theorem saf_okB {g : List (List Int)} {x : List Int} (h : safB g x = true) : okB (safU g x) (safD g x) = true := by
  obtain ⟨h1, h2⟩ := safB_iff.1 h
  have b := safeN_bd (Game.of h1) h2
  have s := h2.sum_bd
  simp only [safU, safD, h, if_true]
  rw [h2.len]
  exact low_okB (by omega) (by omega) (by omega) (by omega)

theorem ris_okB {g : List (List Int)} {y : List Int} (h : risB g y = true) : okB (risU g y) (risD g y) = true := by
  obtain ⟨h1, h2⟩ := risB_iff.1 h
  have b := riskN_bd (Game.of h1) h2
  have s := h2.sum_bd
  simp only [risU, risD, h, if_true]
  rw [h2.len]
  exact low_okB (by omega) (by omega) (by omega) (by omega)

theorem avg_okB {g : List (List Int)} {x y : List Int} (h : avgB g x y = true) : okB (avgU g x y) (avgD g x y) = true := by
  simp only [avgU, avgD, h, if_true]
  exact (avgB_iff.1 h).2.2

theorem ris_turned {g : List (List Int)} {y : List Int} (h : risB g y = true) : safB (turned g) y = true ∧ safU (turned g) y = -risU g y ∧ safD (turned g) y = risD g y := by
  obtain ⟨h1, h2⟩ := risB_iff.1 h
  have hg := Game.of h1
  have e : turned g = turnedL g := by simp [turned, h1]
  have hs : safB (turnedL g) y = true := safB_iff.2 ⟨(turned_game hg).to.1, by rw [turnedL_length]; exact h2⟩
  have p := h2.pos
  rw [e]
  refine ⟨hs, ?_⟩
  simp only [safU, safD, risU, risD, h, hs, if_true]
  rw [safe_turned hg h2, h2.len]
  exact low_negU _ _ p

/-- what is safe is at most what is risked; the average lies between -/
theorem saf_ris {g : List (List Int)} {x y : List Int} (hx : safB g x = true) (hy : risB g y = true) : safU g x * risD g y ≤ risU g y * safD g x := by
  obtain ⟨h1, h2⟩ := safB_iff.1 hx
  obtain ⟨_, h3⟩ := risB_iff.1 hy
  simp only [safU, safD, risU, risD, hx, hy, if_true]
  rw [h2.len, h3.len]
  exact low_le h3.pos h2.pos (weak (Game.of h1) h2 h3)

theorem saf_avg {g : List (List Int)} {x y : List Int} (h : avgB g x y = true) : safU g x * avgD g x y ≤ avgU g x y * safD g x := by
  obtain ⟨hx, hy, _⟩ := avgB_iff.1 h
  obtain ⟨h1, h2⟩ := safB_iff.1 hx
  obtain ⟨_, h3⟩ := risB_iff.1 hy
  simp only [safU, safD, avgU, avgD, hx, h, if_true, avN, avM]
  rw [h2.len, h3.len]
  refine low_le (Int.mul_pos h2.pos h3.pos) h2.pos ?_
  have k := Int.mul_le_mul_of_nonneg_right (safe_le_tot (x := x) (Game.of h1) h3) (Int.le_of_lt h2.pos)
  have e : safeN g x * (sumW x g.length * sumW y (rowAt g 0).length) = safeN g x * sumW y (rowAt g 0).length * sumW x g.length := by ac_rfl
  rw [e]; exact k

theorem avg_ris {g : List (List Int)} {x y : List Int} (h : avgB g x y = true) : avgU g x y * risD g y ≤ risU g y * avgD g x y := by
  obtain ⟨hx, hy, _⟩ := avgB_iff.1 h
  obtain ⟨h1, h2⟩ := safB_iff.1 hx
  obtain ⟨_, h3⟩ := risB_iff.1 hy
  simp only [risU, risD, avgU, avgD, hy, h, if_true, avN, avM]
  rw [h2.len, h3.len]
  refine low_le h3.pos (Int.mul_pos h2.pos h3.pos) ?_
  have k := Int.mul_le_mul_of_nonneg_right (tot_le_risk (y := y) h2 (Game.of h1)) (Int.le_of_lt h3.pos)
  have e : riskN g y * (sumW x g.length * sumW y (rowAt g 0).length) = riskN g y * sumW x g.length * sumW y (rowAt g 0).length := by ac_rfl
  rw [e]; exact k

theorem avg_dbl {g : List (List Int)} {x y : List Int} (h : avgB g x y = true) (h' : avgB g (dbl x) y = true) : avgU g (dbl x) y = avgU g x y ∧ avgD g (dbl x) y = avgD g x y := by
  obtain ⟨hx, hy, _⟩ := avgB_iff.1 h
  obtain ⟨h1, h2⟩ := safB_iff.1 hx
  obtain ⟨_, h3⟩ := risB_iff.1 hy
  simp only [avgU, avgD, h, h', if_true, avN, avM]
  have e1 : totN g (dbl x) y x.length = 2 * totN g x y x.length := dotW_dbl _ _ _ (Nat.le_refl _)
  rw [dbl_length, sumW_dbl _ _ (Nat.le_refl _), e1, h2.len, h3.len]
  have p := h2.pos
  refine low_eq (Int.mul_pos (by omega) h3.pos) (Int.mul_pos h2.pos h3.pos) ?_
  generalize totN g x y g.length = t
  generalize sumW x g.length = s
  generalize sumW y (rowAt g 0).length = q
  have : 2 * t * (s * q) = t * (2 * s * q) := by
    rw [Int.mul_assoc 2 t, Int.mul_assoc 2 s, ← Int.mul_assoc t 2, Int.mul_comm t 2, Int.mul_assoc 2 t]
  exact this

theorem set_of {g : List (List Int)} {x y : List Int} (h : setB g x y = true) : safB g x = true ∧ risB g y = true ∧ safU g x = risU g y ∧ safD g x = risD g y := by
  simp only [setB, Bool.and_eq_true, beq_iff_eq] at h
  exact ⟨h.1.1, h.1.2, h.2.1, h.2.2⟩

theorem tot_le_all {a b t s q : Int} (_ : 0 < s) (_ : 0 < q) (h1 : a * q ≤ t) (h2 : t ≤ b * s) (h3 : a * q = b * s) : t = a * q := by omega

theorem set_avg {g : List (List Int)} {x y : List Int} (h : setB g x y = true) : avgB g x y = true ∧ avgU g x y = safU g x ∧ avgD g x y = safD g x := by
  obtain ⟨hx, hy, e1, e2⟩ := set_of h
  have ok := saf_okB hx
  obtain ⟨h1, h2⟩ := safB_iff.1 hx
  obtain ⟨_, h3⟩ := risB_iff.1 hy
  have hg := Game.of h1
  have k1 := safe_le_tot (x := x) hg h3
  have k2 := tot_le_risk (y := y) h2 hg
  have p := h2.pos
  have q := h3.pos
  simp only [safU, safD, risU, risD, hx, hy, if_true] at e1 e2 ok ⊢
  rw [h2.len] at e1 e2 ok
  rw [h3.len] at e1 e2
  have c1 := low_cross (safeN g x) (sumW x g.length) (by omega)
  have c2 := low_cross (riskN g y) (sumW y (rowAt g 0).length) (by omega)
  have d := lowD_pos (riskN g y) (sumW y (rowAt g 0).length) (by omega)
  rw [e1, e2] at c1
  have e3 : safeN g x * sumW y (rowAt g 0).length = riskN g y * sumW x g.length := by
    generalize lowU (riskN g y) (sumW y (rowAt g 0).length) = U at *
    generalize lowD (riskN g y) (sumW y (rowAt g 0).length) = D at *
    generalize safeN g x = a at *
    generalize riskN g y = b at *
    generalize sumW x g.length = s at *
    generalize sumW y (rowAt g 0).length = t at *
    have f1 : a * t * D = U * s * t := by rw [c1]; ac_rfl
    have f2 : b * s * D = U * s * t := by
      have : b * s * D = b * D * s := by ac_rfl
      rw [this, ← c2]; ac_rfl
    exact Int.eq_of_mul_eq_mul_right (by omega) (f1.trans f2.symm)
  have e4 := tot_le_all p q k1 k2 e3
  have e5 : avN g x y = lowU (safeN g x) (sumW x g.length) ∧ avM g x y = lowD (safeN g x) (sumW x g.length) := by
    unfold avN avM
    rw [h2.len, h3.len, e4]
    refine low_eq (Int.mul_pos p q) p ?_
    ac_rfl
  have hb : avgB g x y = true := avgB_iff.2 ⟨hx, hy, by rw [e5.1, e5.2]; exact ok⟩
  refine ⟨hb, ?_⟩
  simp only [avgU, avgD, hb, if_true]
  rw [h2.len]; exact e5

/-- no mixture of rows is safer, none of columns risks less -/
theorem set_rows {g : List (List Int)} {x y p : List Int} (h : setB g x y = true) (hp : safB g p = true) : safU g p * safD g x ≤ safU g x * safD g p := by
  obtain ⟨hx, hy, e1, e2⟩ := set_of h
  rw [e1, e2]; exact saf_ris hp hy

theorem set_cols {g : List (List Int)} {x y q : List Int} (h : setB g x y = true) (hq : risB g q = true) : safU g x * risD g q ≤ risU g q * safD g x :=
  saf_ris (set_of h).1 hq

/-- twice the first k weights -/
def dblTo (x : List Int) : Nat → List Int
  | 0 => []
  | k + 1 => dblTo x k ++ [2 * nth x k]

theorem dblTo_length (x : List Int) (k : Nat) : (dblTo x k).length = k := by
  induction k with
  | zero => rfl
  | succ k ih => simp [dblTo, ih]

theorem dblTo_eq (x : List Int) (k : Nat) (h : k ≤ x.length) : dblTo x k = dbl (x.take k) := by
  induction k with
  | zero => rfl
  | succ k ih =>
    have e : x.take (k + 1) = x.take k ++ [nth x k] := by rw [nth_eq x k (by omega), List.take_append_getElem (by omega)]
    simp only [dblTo]; rw [ih (by omega), e]; simp [dbl]

theorem dblTo_all (x : List Int) : dblTo x x.length = dbl x := by rw [dblTo_eq x _ (Nat.le_refl _), List.take_length]

end Go.Proofs.Ytjojilimdhekfaa
