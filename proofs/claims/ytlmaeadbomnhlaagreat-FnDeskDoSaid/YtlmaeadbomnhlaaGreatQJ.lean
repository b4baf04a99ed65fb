/- Texts in one: DeedC, DeedN, NumS, DeedS, CutS, DigS, ReadS, ReadJ, DeedH, JouS, ExactJd. -/
import Derived.Test.YtlmaeadbomnhlaaGreatQE
import Derived.Test.YtlmaeadbomnhlaaGreatQD
import Derived.Test.YtlmaeadbomnhlaaGreatMC
import Derived.Lib.ItoaNum
import Derived.Lib.ItoaMem
import Derived.Lib.SmallJoins
import Derived.Laws.IdiomStrings
import Derived.Deep.DeepMust
import Derived.Deep.DeepFit
import Derived.Lib.AppendIntMem
import Derived.Test.YtlmaeadbomnhlaaGreatStrM
import Derived.Laws.Concat
import Derived.Laws.Strings3
namespace Go.Proofs.YtlmaeadbomnhlaaGreat
set_option linter.unusedSimpArgs false
set_option linter.unusedVariables false
open Go.RowKit
end Go.Proofs.YtlmaeadbomnhlaaGreat

namespace Go.Proofs.YtlmaeadbomnhlaaGreat
set_option linter.unusedSimpArgs false
set_option linter.unusedVariables false
open Go.RowKit
end Go.Proofs.YtlmaeadbomnhlaaGreat

namespace Go.Proofs.YtlmaeadbomnhlaaGreat
set_option linter.unusedSimpArgs false
set_option linter.unusedVariables false
open Go.RowKit
end Go.Proofs.YtlmaeadbomnhlaaGreat

namespace Go.Proofs.YtlmaeadbomnhlaaGreat
set_option linter.unusedSimpArgs false
set_option linter.unusedVariables false
open Go.RowKit
end Go.Proofs.YtlmaeadbomnhlaaGreat

namespace Go.Proofs.YtlmaeadbomnhlaaGreat
set_option linter.unusedSimpArgs false
set_option linter.unusedVariables false
open Go.RowKit
end Go.Proofs.YtlmaeadbomnhlaaGreat

namespace Go.Proofs.YtlmaeadbomnhlaaGreat
set_option linter.unusedSimpArgs false
set_option linter.unusedVariables false
open Go.RowKit
end Go.Proofs.YtlmaeadbomnhlaaGreat

namespace Go.Proofs.YtlmaeadbomnhlaaGreat
set_option linter.unusedSimpArgs false
set_option linter.unusedVariables false
open Go.RowKit
theorem OwnS.at_ {w : World} {lo hi : Nat} {A : Option Addr} {L : List (List UInt8)} (h : OwnS w lo hi A L) (h0 : 0 < L.length) : ∃ b, A = some ⟨b, 0, none⟩ ∧ b < hi ∧ ∀ i, i < L.length → w.cell? ⟨b, i, none⟩ = some (strV (strAt L i)) := by
  obtain ⟨b, off, e, ⟨_, h2⟩, h3⟩ := h.strs h0
  obtain ⟨b', N, f, e', _⟩ := h h0
  rw [e'] at e
  injection e with e; injection e with e1 e2
  subst e1 e2
  exact ⟨b', e', h2, fun i hi => by have := h3 i hi; rwa [Nat.zero_add] at this⟩
theorem GrowsD.cells {w : World} {base : Nat} {v : Value} {l : List Dd} (h : GrowsD w base v l) (h0 : 0 < l.length) : ∃ b cap, v = .slice (some ⟨b, 0, none⟩) l.length cap ∧ base ≤ b ∧ b < w.heap.size ∧
    ∀ w' : World, w'.heap[b]? = w.heap[b]? → ∀ i, i < l.length → w'.cell? ⟨b, i * 4, none⟩ = some (.int .i64 (ddAt l i).kind) ∧ w'.cell? ⟨b, i * 4 + 1, none⟩ = some (.int .i64 (ddAt l i).row) ∧ w'.cell? ⟨b, i * 4 + 2, none⟩ = some (.int .i64 (ddAt l i).col) ∧ w'.cell? ⟨b, i * 4 + 3, none⟩ = some (.int .i64 (ddAt l i).num) := by
  have h' := h
  obtain ⟨h1, ⟨rfl, h2⟩ | ⟨b, cap, cur, rfl, h3, h4, h5⟩⟩ := h'
  · omega
  · refine ⟨b, cap, rfl, h3, (Array.getElem?_eq_some_iff.1 h4).1, fun w' hw i hi => ?_⟩
    obtain ⟨e0, e1, e2, e3⟩ := ddVals_at l i hi
    have hh : ∀ j, j < l.length * 4 → w'.cell? ⟨b, j, none⟩ = (ddVals l)[j]? := fun j hj => by
      rw [World.cell?_of_block (w := w) (a := ⟨b, j, none⟩) hw]; exact World.ownsRow.cellAt h j hj
    exact ⟨(hh _ (by omega)).trans e0, (hh _ (by omega)).trans e1, (hh _ (by omega)).trans e2, (hh _ (by omega)).trans e3⟩
end Go.Proofs.YtlmaeadbomnhlaaGreat

namespace Go.Proofs.YtlmaeadbomnhlaaGreat
set_option linter.unusedSimpArgs false
set_option linter.unusedVariables false
open Go.RowKit
end Go.Proofs.YtlmaeadbomnhlaaGreat

namespace Go.Proofs.YtlmaeadbomnhlaaGreat
set_option linter.unusedSimpArgs false
set_option linter.unusedVariables false
open Go.RowKit
structure DeedFill (w wr : World) (b : Nat) (l : List Dd) (k : Nat) : Prop where
  bel : Below w.heap.size w wr
  lo : w.heap.size ≤ b
  row : wr.rowIs b 28 (l.length * 4) (fun i => if i < k * 4 then ((ddVals l)[i]?).getD undef else .int .i64 0)
theorem DeedFill.call {w wr w1 : World} {b : Nat} {l : List Dd} {k : Nat} (h : DeedFill w wr b l k) (hb : Below wr.heap.size wr w1) : DeedFill w w1 b l k :=
  ⟨belT h.bel hb, h.lo, h.row.of_block (hb.block _ h.row.lt)⟩
theorem DeedFill.step {w wr : World} {b : Nat} {l : List Dd} {k : Nat} (h : DeedFill w wr b l k) (hk : k < l.length) :
    DeedFill w ((((wr.setCell ⟨b, k * 4, none⟩ (.int .i64 (ddAt l k).kind)).setCell ⟨b, k * 4 + 1, none⟩ (.int .i64 (ddAt l k).row)).setCell ⟨b, k * 4 + 2, none⟩ (.int .i64 (ddAt l k).col)).setCell ⟨b, k * 4 + 3, none⟩ (.int .i64 (ddAt l k).num)) b l (k + 1) := by
  obtain ⟨e0, e1, e2, e3⟩ := ddVals_at l k hk
  refine ⟨(((h.bel.setCell h.lo _).setCell h.lo _).setCell h.lo _).setCell h.lo _, h.lo, ((((h.row.set (k * 4) _).set (k * 4 + 1) _).set (k * 4 + 2) _).set (k * 4 + 3) _).congr (fun i _ => ?_)⟩
  by_cases q3 : i = k * 4 + 3
  · subst q3; simp [e3]; try omega
  by_cases q2 : i = k * 4 + 2
  · subst q2; simp [e2]; try omega
  by_cases q1 : i = k * 4 + 1
  · subst q1; simp [e1]; try omega
  by_cases q0 : i = k * 4
  · subst q0; simp [e0]; try omega
  simp only [q3, q2, q1, q0, if_false]
  by_cases hlt : i < k * 4
  · rw [if_pos hlt, if_pos (by omega)]
  · rw [if_neg hlt, if_neg (by omega)]
end Go.Proofs.YtlmaeadbomnhlaaGreat

namespace Go.Proofs.YtlmaeadbomnhlaaGreat
set_option linter.unusedSimpArgs false
set_option linter.unusedVariables false
open Go.RowKit
end Go.Proofs.YtlmaeadbomnhlaaGreat

namespace Go.Proofs.YtlmaeadbomnhlaaGreat
set_option linter.unusedSimpArgs false
set_option linter.unusedVariables false
open Go.RowKit
end Go.Proofs.YtlmaeadbomnhlaaGreat
