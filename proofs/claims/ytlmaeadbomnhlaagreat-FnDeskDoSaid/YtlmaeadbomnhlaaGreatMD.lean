/- Texts in one: MixS, MixT, MixU, Mone, Mind. -/
import Derived.Test.YtlmaeadbomnhlaaGreatMB
import Derived.Test.YtlmaeadbomnhlaaGreatMA
import Derived.Test.YtlmaeadbomnhlaaGreatMC
import Derived.Deep.RegionHeld3
import Derived.Test.YtlmaeadbomnhlaaGreatMH
namespace Go.Proofs.YtlmaeadbomnhlaaGreat
set_option linter.unusedSimpArgs false
set_option linter.unusedVariables false
open Go.RowKit
end Go.Proofs.YtlmaeadbomnhlaaGreat

namespace Go.Proofs.YtlmaeadbomnhlaaGreat
set_option linter.unusedSimpArgs false
set_option linter.unusedVariables false
open Go.RowKit
abbrev FracRes (u d : Int) (b : Bool) : Value := .tuple #[.agg #[.int .i64 u, .int .i64 d], .bool b]
end Go.Proofs.YtlmaeadbomnhlaaGreat

namespace Go.Proofs.YtlmaeadbomnhlaaGreat
set_option linter.unusedSimpArgs false
set_option linter.unusedVariables false
open Go.RowKit
theorem Grows.ne {w : World} {base B N : Nat} {v : Value} {l : List Int} {f : Nat → Value} (h : Grows w base v l) (h' : w.rowIs B 37 N f) : v.ownBlock ≠ some B := by
  obtain ⟨_, ⟨rfl, _⟩ | ⟨b, cap, cur, rfl, _, h4, _⟩⟩ := h
  · simp [Value.ownBlock]
  · intro e
    simp [Value.ownBlock] at e
    subst e
    obtain ⟨c', h2, _, _⟩ := h'
    rw [h4] at h2
    injection h2 with h2
    injection h2 with _ e
    exact absurd e (by decide)
end Go.Proofs.YtlmaeadbomnhlaaGreat

namespace Go.Proofs.YtlmaeadbomnhlaaGreat
set_option linter.unusedSimpArgs false
set_option linter.unusedVariables false
end Go.Proofs.YtlmaeadbomnhlaaGreat

namespace Go.Proofs.YtlmaeadbomnhlaaGreat
set_option linter.unusedSimpArgs false
set_option linter.unusedVariables false
end Go.Proofs.YtlmaeadbomnhlaaGreat
