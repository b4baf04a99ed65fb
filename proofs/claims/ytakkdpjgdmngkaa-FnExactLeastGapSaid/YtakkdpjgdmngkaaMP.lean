/- Texts in one: Worse, Wmath. -/
import Derived.Test.YtakkdpjgdmngkaaMF
namespace Go.Proofs.Ytakkdpjgdmngkaa
set_option linter.unusedSimpArgs false
set_option linter.unusedVariables false
open Go.RowKit



end Go.Proofs.Ytakkdpjgdmngkaa

namespace Go.Proofs.Ytakkdpjgdmngkaa
set_option linter.unusedSimpArgs false
set_option linter.unusedVariables false
open Go.RowKit

def anyN (P : Nat → Bool) : Nat → Bool
  | 0 => false
  | k + 1 => anyN P k || P k

theorem anyN_iff {P : Nat → Bool} {n : Nat} : anyN P n = true ↔ ∃ i, i < n ∧ P i = true := by
  induction n with
  | zero => simp [anyN]
  | succ n ih =>
    simp only [anyN, Bool.or_eq_true, ih]
    constructor
    · rintro (⟨i, h1, h2⟩ | h)
      · exact ⟨i, by omega, h2⟩
      · exact ⟨n, by omega, h⟩
    · rintro ⟨i, h1, h2⟩
      by_cases e : i = n
      · subst e; exact .inr h2
      · exact .inl ⟨i, by omega, h2⟩

end Go.Proofs.Ytakkdpjgdmngkaa
