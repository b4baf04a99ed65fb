/- One row, one column alone: plain. -/
import Derived.Test.YtjojilimdhekfaaDrawZ
import Derived.Test.YtjojilimdhekfaaMmath3
namespace Go.Proofs.Ytjojilimdhekfaa
set_option linter.unusedSimpArgs false
set_option linter.unusedVariables false

theorem mix_one {m i : Nat} (hi : i < m) (hm : m ≤ 16) : Mix (oneAt m i 1) m := by
  refine ⟨oneAt_length _ _ _, by omega, hm, fun k hk => ?_, fun k hk => ?_, ?_⟩
  · rw [nth_oneAt m i k 1 hk]; split <;> omega
  · rw [nth_oneAt m i k 1 hk]; split <;> omega
  · rw [sumW_unit _ i 1 m (fun r hr => nth_oneAt m i r 1 hr), if_pos hi]; omega

theorem ris_one {g : List (List Int)} (h : gameB g = true) {j : Nat} (hj : j < (rowAt g 0).length) : risB g (oneAt (rowAt g 0).length j 1) = true :=
  risB_iff.2 ⟨h, mix_one hj (Game.of h).mhi⟩

theorem saf_one {g : List (List Int)} (h : gameB g = true) {i : Nat} (hi : i < g.length) (hf : floV g = nth (lows g) i) : safB g (oneAt g.length i 1) = true ∧ safU g (oneAt g.length i 1) = floV g ∧ safD g (oneAt g.length i 1) = 1 := by
  have hg := Game.of h
  have hm := mix_one hi hg.hi
  have hb : safB g (oneAt g.length i 1) = true := safB_iff.2 ⟨h, hm⟩
  refine ⟨hb, ?_⟩
  have hs : sumW (oneAt g.length i 1) g.length = 1 := by rw [sumW_unit _ i 1 _ (fun r hr => nth_oneAt _ i r 1 hr), if_pos hi]
  have hn : safeN g (oneAt g.length i 1) = floV g := by
    rw [hf, nth_lows g i hi, hg.len i hi]
    unfold safeN
    have e : ∀ j, j < (rowAt g 0).length → nth (colsD g (oneAt g.length i 1)) j = nth (rowAt g i) j := fun j hj => by
      rw [nth_colsD _ _ j hj]; unfold colD
      rw [dotW_unit _ _ i _ (fun r hr => nth_oneAt _ i r 1 hr), if_pos hi, nth_col g j i hi]
    have : ∀ k, k ≤ (rowAt g 0).length → 0 < (rowAt g 0).length → lowN (colsD g (oneAt g.length i 1)) k = lowN (rowAt g i) k := fun k => by
      induction k with
      | zero => intro _ h0; exact e 0 h0
      | succ k ih => intro hk h0; simp only [lowN]; rw [ih (by omega) h0, e k (by omega)]
    exact this _ (Nat.le_refl _) hg.mlo
  simp only [safU, safD, hb, if_true]
  rw [oneAt_length, hs, hn]
  exact low_one _

end Go.Proofs.Ytjojilimdhekfaa
