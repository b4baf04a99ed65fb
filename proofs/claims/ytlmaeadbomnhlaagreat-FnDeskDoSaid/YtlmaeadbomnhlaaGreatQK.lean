/- Texts in one: RunS, ExactJe. -/
import Derived.Test.YtlmaeadbomnhlaaGreatQD
import Derived.Test.YtlmaeadbomnhlaaGreatStrM
import Derived.Test.YtlmaeadbomnhlaaGreatQJ
namespace Go.Proofs.YtlmaeadbomnhlaaGreat
set_option linter.unusedSimpArgs false
set_option linter.unusedVariables false
open Go.RowKit
theorem do_stay {d : Dk} (h : dkB d = true) {a : Dd} (hc : canB d a = false) : doD d a = d := by
  by_cases hb : backB a = true ∧ 0 < d.past.length
  · rw [(do_back h hb.1 hb.2).2] at hc; cases hc
  by_cases hm : laidB (madeT d.now a) = true ∧ madeT d.now a ≠ d.now
  · rw [(do_made h hb hm.1 hm.2).2] at hc; cases hc
  · exact (do_none h hb hm).1
def DeskOwn (w : World) (lo hi : Nat) (TN : Option Addr) (TP : Option Addr) (d : Dk) : Prop := ∃ A C TT CC, OwnDk w lo hi TN TP d A C TT CC
theorem DeskOwn.keep {w w' : World} {lo hi : Nat} {TN TP : Option Addr} {d : Dk} (h : DeskOwn w lo hi TN TP d) (hk : ∀ b, lo ≤ b → b < hi → w'.heap[b]? = w.heap[b]?) : DeskOwn w' lo hi TN TP d := by
  obtain ⟨A, C, TT, CC, h⟩ := h; exact ⟨A, C, TT, CC, h.keep hk⟩
theorem DeskOwn.more {w : World} {lo hi lo' hi' : Nat} {TN TP : Option Addr} {d : Dk} (h : DeskOwn w lo hi TN TP d) (h1 : lo' ≤ lo) (h2 : hi ≤ hi') : DeskOwn w lo' hi' TN TP d := by
  obtain ⟨A, C, TT, CC, h⟩ := h; exact ⟨A, C, TT, CC, h.more h1 h2⟩
theorem DeskOwn.two {w : World} {lo hi : Nat} {TN TP : Option Addr} {d : Dk} (h : DeskOwn w lo hi TN TP d) (hh : hi ≤ w.heap.size) : Rows2 w (· < w.heap.size) TN d.now ∧ Rows3 w (· < w.heap.size) TP d.past := by
  obtain ⟨A, C, TT, CC, h⟩ := h
  exact ⟨h.rows2.mono fun b hb => by show b < _; omega, h.rows3.mono fun b hb => by show b < _; omega⟩
theorem desk_row {w : World} {p : Nat} {f : Nat → Value} (h : w.rowIs p 26 2 f) (s0 s1 : Value) : ((w.setCell ⟨p, 0, none⟩ s0).setCell ⟨p, 1, none⟩ s1).rowIs p 26 2 (fun i => if i = 0 then s0 else s1) :=
  ((h.set 0 s0).set 1 s1).congr fun i hi => by
    have : i = 0 ∨ i = 1 := by omega
    rcases this with rfl | rfl <;> rfl
theorem far2 {w : World} {p b : Nat} (h : b ≠ p) (s0 s1 : Value) : ((w.setCell ⟨p, 0, none⟩ s0).setCell ⟨p, 1, none⟩ s1).heap[b]? = w.heap[b]? := by
  rw [Below.heap_setCell _ _ _ _ h, Below.heap_setCell _ _ _ _ h]
end Go.Proofs.YtlmaeadbomnhlaaGreat

namespace Go.Proofs.YtlmaeadbomnhlaaGreat
set_option linter.unusedSimpArgs false
set_option linter.unusedVariables false
open Go.RowKit
theorem OwnDd.keepB {w w' : World} {lo hi : Nat} {A : Option Addr} {l : List Dd} (h : OwnDd w lo hi A l) (hk : ∀ b, lo ≤ b → b < hi → w'.heap[b]? = w.heap[b]?) : OwnDd w' lo hi A l := by
  intro h0
  obtain ⟨b, N, f, e, h1, h2, h3, h4, h5⟩ := h h0
  exact ⟨b, N, f, e, h1, h2, h3.of_block (hk b h1 h2), h4, h5⟩
theorem OwnDd.below {w w' : World} {lo hi : Nat} {A : Option Addr} {l : List Dd} (h : OwnDd w lo hi A l) (hb : Below hi w w') : OwnDd w' lo hi A l := h.keepB fun b _ h2 => hb.block b h2
theorem OwnDd.off {w w' : World} {lo hi lo' hi' : Nat} {A : Option Addr} {l : List Dd} (h : OwnDd w lo hi A l) (ho : Off lo' hi' w w') (hd : hi ≤ lo' ∨ hi' ≤ lo) : OwnDd w' lo hi A l := h.keepB fun b h1 h2 => ho.block b (by omega)
theorem OwnDd.lt {w : World} {lo hi : Nat} {A : Option Addr} {l : List Dd} (h : OwnDd w lo hi A l) : Deeds w (· < hi) A l := h.deeds.mono fun _ h => h.2
theorem RdD.two {w : World} {B : Nat} {TN TP : Option Addr} {d : Dk} (h : RdD w B TN TP d) (hB : B ≤ w.heap.size) : Rows2 w (· < w.heap.size) TN d.now ∧ Rows3 w (· < w.heap.size) TP d.past := ⟨(h.lt hB).n, (h.lt hB).p⟩
theorem RdD.keepB {w w' : World} {B : Nat} {TN TP : Option Addr} {d : Dk} (h : RdD w B TN TP d) (hb : Below B w w') : RdD w' B TN TP d := keepDk hb h
end Go.Proofs.YtlmaeadbomnhlaaGreat
