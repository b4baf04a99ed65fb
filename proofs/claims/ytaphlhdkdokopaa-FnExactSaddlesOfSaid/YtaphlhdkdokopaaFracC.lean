/- The walks of the functions on fractions, third part: a fraction of two numbers, sums, order. (Written by wip/gen/fracn.py.) -/
import Derived.Test.YtaphlhdkdokopaaFracB
import Derived.Deep.OwnRows
namespace Go.Proofs.Ytaphlhdkdokopaa
set_option linter.unusedSimpArgs false
set_option linter.unusedVariables false
open Go.RowKit

/-- a cell that stays through whatever only adds blocks: a rule for the walk -/
theorem stays {W : World} {p o : Nat} {a : Value} (hp : p < W.heap.size) (h : W.cell? ⟨p, o, none⟩ = some a) : ∀ w1, Below W.heap.size W w1 → w1.cell? ⟨p, o, none⟩ = some a :=
  fun _ hb => (hb.cell (p := ⟨p, o, none⟩) hp).trans h

theorem staysF {W : World} {p o : Nat} {b : Bool} (hp : p < W.heap.size) (h : W.frozen? ⟨p, o, none⟩ = b) : ∀ w1, Below W.heap.size W w1 → w1.frozen? ⟨p, o, none⟩ = b :=
  fun _ hb => (hb.frozen (p := ⟨p, o, none⟩) hp).trans h

/-- what a cell holds -/
def held (w : World) (p o : Nat) : Value := (w.cell? ⟨p, o, none⟩).getD .nilFunc

/-- all blocks of W but p, a fraction, are as they were; none below w is touched -/
structure Boxed (w W : World) (p : Nat) (w' : World) : Prop where
  bel : Below w.heap.size w w'
  size : W.heap.size ≤ w'.heap.size
  block : ∀ b, b < W.heap.size → b ≠ p → w'.heap[b]? = W.heap[b]?
  row : ∃ f, w'.rowIs p 45 2 f

theorem Boxed.cell {w W w' : World} {p : Nat} (h : Boxed w W p w') {o : Nat} (ho : o < 2) : w'.cell? ⟨p, o, none⟩ = some (held w' p o) := by
  obtain ⟨f, hf⟩ := h.row
  unfold held; rw [hf.cell ho]; rfl

theorem Boxed.frozen {w W w' : World} {p : Nat} (h : Boxed w W p w') (o : Nat) : w'.frozen? ⟨p, o, none⟩ = false := by
  obtain ⟨f, hf⟩ := h.row
  exact hf.frozen o

theorem Boxed.drew {w W w' : World} {p : Nat} (h : Boxed w W p w') : Boxed w W p w'.drew := ⟨h.bel.drew, h.size, h.block, h.row⟩

theorem Boxed.call {w W w1 w2 : World} {p : Nat} (hb : Below w1.heap.size w1 w2) (hp : p < W.heap.size) (h : Boxed w W p w1) : Boxed w W p w2 := by
  obtain ⟨f, hf⟩ := h.row
  have hs := h.size
  exact ⟨belT h.bel hb, Nat.le_trans h.size hb.size, fun b hlt hne => (hb.block b (by omega)).trans (h.block b hlt hne), f, hf.of_block (hb.block p (by omega))⟩

theorem Boxed.store {w W w1 : World} {p : Nat} (a b : Value) (hp : w.heap.size ≤ p) (h : Boxed w W p w1) : Boxed w W p ((w1.setCell ⟨p, 0, none⟩ a).setCell ⟨p, 1, none⟩ b) := by
  obtain ⟨f, hf⟩ := h.row
  refine ⟨(h.bel.setCell hp _).setCell hp _, by simpa [World.setCell] using h.size, fun b hlt hne => ?_, _, (hf.set 0 a).set 1 b⟩
  rw [Deep.blk_setCell_other _ _ _ _ (by simpa using hne), Deep.blk_setCell_other _ _ _ _ (by simpa using hne)]
  exact h.block b hlt hne

theorem staysB {w W : World} {p b o : Nat} {a : Value} (hb : b < W.heap.size) (hne : b ≠ p) (h : W.cell? ⟨b, o, none⟩ = some a) : ∀ w1, Boxed w W p w1 → w1.cell? ⟨b, o, none⟩ = some a :=
  fun _ k => (World.cell?_of_block (w := W) (k.block b hb hne)).trans h

/-- are lowest terms small enough -/
def ovB (a b : Int) : Bool := inR (lowU a b) (-1000000000) 1000000000 && inR (lowD a b) (-1000000000) 1000000000

end Go.Proofs.Ytaphlhdkdokopaa
