/- The walk of the exact law of DeskDo, over contracts of the program's functions. (Written by wip/gen/ex12e.py.) -/
import Derived.Test.YtlmaeadbomnhlaaGreatQK
namespace Go.Proofs.YtlmaeadbomnhlaaGreat
set_option linter.unusedSimpArgs false
set_option linter.unusedVariables false
open Go.RowKit

/-- a deed in a box -/
structure BoxA (w : World) (b : Nat) (v0 v1 v2 v3 : Value) : Prop where
  lt : b < w.heap.size
  c0 : w.cell? ⟨b, 0, none⟩ = some v0
  c1 : w.cell? ⟨b, 1, none⟩ = some v1
  c2 : w.cell? ⟨b, 2, none⟩ = some v2
  c3 : w.cell? ⟨b, 3, none⟩ = some v3

theorem BoxA.keep {w w' : World} {b : Nat} {v0 v1 v2 v3 : Value} (h : BoxA w b v0 v1 v2 v3) (hs : w.heap.size ≤ w'.heap.size) (hb : w'.heap[b]? = w.heap[b]?) : BoxA w' b v0 v1 v2 v3 :=
  ⟨Nat.lt_of_lt_of_le h.lt hs, (World.cell?_of_block (w := w) hb).trans h.c0, (World.cell?_of_block (w := w) hb).trans h.c1, (World.cell?_of_block (w := w) hb).trans h.c2, (World.cell?_of_block (w := w) hb).trans h.c3⟩

theorem BoxA.still {w w' : World} {b : Nat} {v0 v1 v2 v3 : Value} (h : BoxA w b v0 v1 v2 v3) (hb : Below w.heap.size w w') : BoxA w' b v0 v1 v2 v3 := h.keep hb.size (hb.block b h.lt)

theorem BoxA.off {w w' : World} {b lo hi : Nat} {v0 v1 v2 v3 : Value} (h : BoxA w b v0 v1 v2 v3) (hf : Off lo hi w w') (ho : ¬ (lo ≤ b ∧ b < hi)) : BoxA w' b v0 v1 v2 v3 := h.keep (Nat.le_of_eq hf.size.symm) (hf.block b ho)

theorem do_smallD (d : Dk) (a : Dd) : SmallD (doD d a) := by
  rcases h : dkB d with _ | _
  · rw [(do_no h a).1]; exact small_zero
  · exact small_ok (do_ok h a)

/-- what is asked of the program's DeskDo -/
structure Impl12D : Prop where
  do_ : ∀ (A B : Option Addr) (c k : Nat) (d : Dk) (a : Dd) (_ : d.now.length ≤ maxLen) (_ : d.past.length ≤ maxLen) (_ : d.past.length ≤ k ∧ k ≤ maxLen) (w : World) (_ : Rows2 w (fun b => b < w.heap.size) A d.now) (_ : Rows3 w (fun b => b < w.heap.size) B d.past), Calls Tryz.prog 5 #[dskV A d.now.length c B d.past.length k, ddV a] w (DeskRes w (doD d a) (.bool (canB d a)))

end Go.Proofs.YtlmaeadbomnhlaaGreat
