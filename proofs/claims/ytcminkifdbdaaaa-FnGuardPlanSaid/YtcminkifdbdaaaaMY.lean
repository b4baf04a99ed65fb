/- Texts in one: FieldW, FieldX, FieldY, FieldZ, FieldZb. -/
import Derived.Test.YtcminkifdbdaaaaMX
import Derived.Test.YtcminkifdbdaaaaMQ
import Derived.Test.YtcminkifdbdaaaaMD
import Derived.Deep.AppendLies
import Derived.Deep.RegionHeldLaw
import Derived.Deep.RegionHeld3
namespace Go.Proofs.Ytcminkifdbdaaaa
set_option linter.unusedSimpArgs false
set_option linter.unusedVariables false
open Go.RowKit



end Go.Proofs.Ytcminkifdbdaaaa

namespace Go.Proofs.Ytcminkifdbdaaaa
set_option linter.unusedSimpArgs false
set_option linter.unusedVariables false
open Go.RowKit

theorem Grows.at_ {w : World} {base : Nat} {v : Value} {l : List Int} (h : Grows w base v l) (h0 : 0 < l.length) : ∃ b cap, v = .slice (some ⟨b, 0, none⟩) l.length cap := by
  obtain ⟨h1, ⟨h2, h3⟩ | ⟨b, cap, cur, h2, h3⟩⟩ := h
  · omega
  · exact ⟨b, cap, h2⟩

/-- one number, written out -/
theorem Grows.one (w : World) (q : Int) {base : Nat} (hb : base ≤ w.heap.size) : Grows (w.alloc (.cells #[.int .i64 q] 3)) base (.slice (some ⟨w.heap.size, 0, none⟩) 1 1) [q] :=
  ⟨rfl, .inr ⟨w.heap.size, 1, _, rfl, hb, heap_alloc_new w _, Nat.le_refl _, by unfold maxLen; omega, by simp, by simp [vals]⟩⟩

theorem Grows.cells {w : World} {base b n cap : Nat} {l : List Int} (h : Grows w base (.slice (some ⟨b, 0, none⟩) n cap) l) : ∀ j u, (vals l)[j]? = some u → w.cell? ((⟨b, 0, none⟩ : Addr).add j) = some u := by
  obtain ⟨A, c, e, _, ho⟩ := h.own
  injection e with e1 e2 e3
  refine news_of fun i hi => ?_
  obtain ⟨b', o', e', _, hc⟩ := ho.ints (by omega)
  rw [← e1] at e'
  injection e' with e'
  injection e' with e4 e5
  subst e4
  subst e5
  exact hc i hi

end Go.Proofs.Ytcminkifdbdaaaa

namespace Go.Proofs.Ytcminkifdbdaaaa
set_option linter.unusedSimpArgs false
set_option linter.unusedVariables false
open Go.RowKit



end Go.Proofs.Ytcminkifdbdaaaa

namespace Go.Proofs.Ytcminkifdbdaaaa
set_option linter.unusedSimpArgs false
set_option linter.unusedVariables false
open Go.RowKit



end Go.Proofs.Ytcminkifdbdaaaa

namespace Go.Proofs.Ytcminkifdbdaaaa
set_option linter.unusedSimpArgs false
set_option linter.unusedVariables false
open Go.RowKit

/-- is a cell among the first ones of the list -/
def hsB (r c s k : Nat) : Nat → Bool
  | 0 => false
  | m + 1 => hsB r c s k m || ((bestC r c s).getD m 0 == cellA r c s k)

end Go.Proofs.Ytcminkifdbdaaaa
