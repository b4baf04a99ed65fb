/- What the laws ask of solutions: are two alike, numbered through, held. (Written by wip/gen/solx.py.) -/
import Derived.Test.YtanfefgigepdcaaExactU
namespace Go.Proofs.Ytanfefgigepdcaa
set_option linter.unusedSimpArgs false
set_option linter.unusedVariables false
open Go.RowKit

/-- blocks are added, and nothing that was there has turned but, perhaps, the blocks of lo .. hi - 1 -/
structure OffB (lo hi : Nat) (w w' : World) : Prop where
  os : w'.os = w.os
  tape : w'.tape = w.tape
  output : w'.output = w.output
  size : w.heap.size ≤ w'.heap.size
  block : ∀ b, b < w.heap.size → ¬ (lo ≤ b ∧ b < hi) → w'.heap[b]? = w.heap[b]?

theorem OffB.below {lo hi B : Nat} {w w' : World} (h : OffB lo hi w w') (hB : B ≤ lo) (hw : lo ≤ w.heap.size) : Below B w w' := ⟨h.os, h.tape, h.output, h.size, fun k hk => h.block k (by omega) (by omega)⟩

end Go.Proofs.Ytanfefgigepdcaa
