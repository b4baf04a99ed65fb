/- Texts in one: Fair, FairB, Sold, MixF. -/
import Derived.Test.YtlmaeadbomnhlaaGreatMF
import Derived.Test.YtlmaeadbomnhlaaGreatCast
namespace Go.Proofs.YtlmaeadbomnhlaaGreat
set_option linter.unusedSimpArgs false
set_option linter.unusedVariables false
open Go.RowKit
structure Fair (g : List (List Int)) : Prop where
  game : gameB g = true
  sq : g.length = (rowAt g 0).length
  anti : ∀ i j, i < g.length → j < g.length → nth (rowAt g i) j = -nth (rowAt g j) i
theorem Fair.turned {g : List (List Int)} (h : Fair g) : turned g = g := by
  have hg := Game.of h.game
  have e : Go.Proofs.YtlmaeadbomnhlaaGreat.turned g = turnedL g := by simp [Go.Proofs.YtlmaeadbomnhlaaGreat.turned, h.game]
  rw [e]
  have hl : (turnedL g).length = g.length := by rw [turnedL_length, ← h.sq]
  refine List.ext_getElem hl fun j h1 h2 => ?_
  have hj : j < (rowAt g 0).length := by rw [← h.sq]; exact h2
  have e1 : (turnedL g)[j] = rowAt (turnedL g) j := by unfold rowAt; simp [h1]
  have e2 : g[j] = rowAt g j := by unfold rowAt; simp [h2]
  have hrl : (rowAt g j).length = g.length := by rw [hg.len j h2, h.sq]
  have htl : (rowAt (turnedL g) j).length = g.length := turnedL_row_length g j hj
  rw [e1, e2]
  refine List.ext_getElem (by rw [htl, hrl]) fun i h3 h4 => ?_
  have hi : i < g.length := by rw [htl] at h3; exact h3
  have e3 : (rowAt (turnedL g) j)[i] = nth (rowAt (turnedL g) j) i := by unfold nth; simp [h3]
  have e4 : (rowAt g j)[i] = nth (rowAt g j) i := by unfold nth; simp [h4]
  rw [e3, e4, nth_turnedL g j i hj hi, h.anti j i h2 hi]
end Go.Proofs.YtlmaeadbomnhlaaGreat

namespace Go.Proofs.YtlmaeadbomnhlaaGreat
set_option linter.unusedSimpArgs false
set_option linter.unusedVariables false
open Go.RowKit
end Go.Proofs.YtlmaeadbomnhlaaGreat

namespace Go.Proofs.YtlmaeadbomnhlaaGreat
set_option linter.unusedSimpArgs false
set_option linter.unusedVariables false
open Go.RowKit
end Go.Proofs.YtlmaeadbomnhlaaGreat

namespace Go.Proofs.YtlmaeadbomnhlaaGreat
set_option linter.unusedSimpArgs false
set_option linter.unusedVariables false
open Go.RowKit
end Go.Proofs.YtlmaeadbomnhlaaGreat
