/- Texts in one: ExactU, SolX, CntX, ExactIa, ExactIb. -/
import Derived.Test.YtlmaeadbomnhlaaGreatMG
import Derived.Test.YtlmaeadbomnhlaaGreatPB
namespace Go.Proofs.YtlmaeadbomnhlaaGreat
set_option linter.unusedSimpArgs false
set_option linter.unusedVariables false
open Go.RowKit
theorem OwnI.touch {w w' : World} {lo hi n : Nat} {A B : Option Addr} {m : List Int} (h : OwnI w lo hi B m) (ht : Touch n A w w') (hd : 0 < n → 0 < m.length → A.map (·.block) ≠ B.map (·.block)) : OwnI w' lo hi B m := by
  intro h0
  obtain ⟨b, N, f, e, h1, h2, h3, h4, h5⟩ := h h0
  exact ⟨b, N, f, e, h1, h2, h3.of_block (ht.block b (fun hn ea => hd hn h0 (by rw [ea, e]))), h4, h5⟩
end Go.Proofs.YtlmaeadbomnhlaaGreat

namespace Go.Proofs.YtlmaeadbomnhlaaGreat
set_option linter.unusedSimpArgs false
set_option linter.unusedVariables false
open Go.RowKit
structure OffB (lo hi : Nat) (w w' : World) : Prop where
  os : w'.os = w.os
  tape : w'.tape = w.tape
  output : w'.output = w.output
  size : w.heap.size ≤ w'.heap.size
  block : ∀ b, b < w.heap.size → ¬ (lo ≤ b ∧ b < hi) → w'.heap[b]? = w.heap[b]?
theorem OffB.below {lo hi B : Nat} {w w' : World} (h : OffB lo hi w w') (hB : B ≤ lo) (hw : lo ≤ w.heap.size) : Below B w w' := ⟨h.os, h.tape, h.output, h.size, fun k hk => h.block k (by omega) (by omega)⟩
end Go.Proofs.YtlmaeadbomnhlaaGreat

namespace Go.Proofs.YtlmaeadbomnhlaaGreat
set_option linter.unusedSimpArgs false
set_option linter.unusedVariables false
open Go.RowKit
end Go.Proofs.YtlmaeadbomnhlaaGreat

namespace Go.Proofs.YtlmaeadbomnhlaaGreat
set_option linter.unusedSimpArgs false
set_option linter.unusedVariables false
open Go.RowKit
end Go.Proofs.YtlmaeadbomnhlaaGreat

namespace Go.Proofs.YtlmaeadbomnhlaaGreat
set_option linter.unusedSimpArgs false
set_option linter.unusedVariables false
open Go.RowKit
structure BoxC (w : World) (b : Nat) (v0 v1 : Value) : Prop where
  lt : b < w.heap.size
  c0 : w.cell? ⟨b, 0, none⟩ = some v0
  c1 : w.cell? ⟨b, 1, none⟩ = some v1
theorem BoxC.keep {w w' : World} {b : Nat} {v0 v1 : Value} (h : BoxC w b v0 v1) (hs : w.heap.size ≤ w'.heap.size) (hb : w'.heap[b]? = w.heap[b]?) : BoxC w' b v0 v1 :=
  ⟨Nat.lt_of_lt_of_le h.lt hs, (World.cell?_of_block (w := w) hb).trans h.c0, (World.cell?_of_block (w := w) hb).trans h.c1⟩
theorem BoxC.still {w w' : World} {b : Nat} {v0 v1 : Value} (h : BoxC w b v0 v1) (hb : Below w.heap.size w w') : BoxC w' b v0 v1 := h.keep hb.size (hb.block b h.lt)
theorem BoxC.off {w w' : World} {b lo hi : Nat} {v0 v1 : Value} (h : BoxC w b v0 v1) (hf : Off lo hi w w') (ho : ¬ (lo ≤ b ∧ b < hi)) : BoxC w' b v0 v1 := h.keep (Nat.le_of_eq hf.size.symm) (hf.block b ho)
end Go.Proofs.YtlmaeadbomnhlaaGreat
