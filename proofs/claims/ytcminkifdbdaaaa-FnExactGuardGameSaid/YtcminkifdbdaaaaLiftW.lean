/- What the walk is told of a slice of integers that came in: its numbers are machine integers. -/
import Derived.Test.YtcminkifdbdaaaaLiftR
import Derived.Test.YtcminkifdbdaaaaNF
namespace Go.Proofs.Ytcminkifdbdaaaa
set_option linter.unusedSimpArgs false
set_option linter.unusedVariables false
open Go.RowKit

theorem wints_of {w : World} {x : Addr} {len cap : Nat} {zs : List Int} (hl : len ≤ cap) (hm : cap ≤ maxLen) (hz : zs.length = cap) (hc : ∀ i, i < zs.length → w.cell? (x.add i) = some (.int .i64 (zs.getD i 0))) (hw : ∀ n ∈ zs, (Lit.int .i64 n).wf = true) :
    ∃ l : List Int, l.length = len ∧ l.length ≤ maxLen ∧ WfL l ∧ Ints w (· < w.heap.size) (some x) l := by
  have hlen : (zs.take len).length = len := by simp; omega
  refine ⟨zs.take len, hlen, by omega, WfL.take hw len, ints_at hl hz (fun h => by cases h) fun a' e c hcc => ?_⟩
  cases e
  exact hc c (by omega)

end Go.Proofs.Ytcminkifdbdaaaa
