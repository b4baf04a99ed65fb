/- The walks of the laws on fractions: each returns true, and writes nothing that was there. (Written by wip/gen/lawsf.py.) -/
import Derived.Test.YtpkdmilbppipmaaDrawB
import Derived.Test.YtpkdmilbppipmaaExact
namespace Go.Proofs.Ytpkdmilbppipmaa
set_option linter.unusedSimpArgs false
set_option linter.unusedVariables false
open Go.RowKit

theorem okB_neg (u d : Int) : okB (-u) d = okB u d := by
  rw [Bool.eq_iff_iff, okB_iff, okB_iff]
  have : gcdI (-u) d = gcdI u d := by unfold gcdI; rw [Int.gcd_eq_natAbs_gcd_natAbs, Int.gcd_eq_natAbs_gcd_natAbs, Int.natAbs_neg]
  rw [this]; omega

theorem mul_in2 {a b : Int} (h1 : -1000000000 ≤ a) (h2 : a ≤ 1000000000) (h3 : -1000000000 ≤ b) (h4 : b ≤ 1000000000) : -1000000000000000000 ≤ a * b ∧ a * b ≤ 1000000000000000000 := by
  by_cases hb : 0 ≤ b
  · exact mul_in h1 h2 hb h4
  · have := mul_in (a := a) (b := -b) h1 h2 (by omega) (by omega)
    rw [Int.mul_neg] at this; omega

theorem low_ok {u d : Int} (h : ofB u d = true) : okB (lowU u d) (lowD u d) = true := by
  obtain ⟨a1, a2, a3, a4, a5⟩ := ofB_iff.1 h
  have h1 := lowD_pos u d a5
  have h2 := low_gcd u d a5
  have h3 := lowU_in u d (M := 1000000000) a1 a2
  have h4 := lowD_in u d (M := 1000000000) a3 a4
  rw [okB_iff]; omega

end Go.Proofs.Ytpkdmilbppipmaa
