/- Texts in one: Concat, WithI, WithJ, WithK. -/
import Derived.Test.YtcminkifdbdaaaaMQ
import Derived.Lib.AppendZerosOnto
import Derived.Lib.Walk
import Derived.Deep.LoopGhost
namespace Go.Proofs.Ytcminkifdbdaaaa
set_option linter.unusedSimpArgs false
set_option linter.unusedVariables false
open Go.RowKit



end Go.Proofs.Ytcminkifdbdaaaa

namespace Go.Proofs.Ytcminkifdbdaaaa
set_option linter.unusedSimpArgs false
set_option linter.unusedVariables false
open Go.RowKit

/-- the cells from an address on hold the values -/
def CellsV (w : World) (b off : Nat) (xs : List Value) : Prop := ∀ (j : Nat) (u : Value), xs[j]? = some u → w.cell? ⟨b, off + j, none⟩ = some u

theorem CellsV.keep {w w' : World} {b off B : Nat} {xs : List Value} (h : CellsV w b off xs) (hb : b < B) (hw : Below B w w') : CellsV w' b off xs :=
  fun j u hj => (hw.cell (p := ⟨b, off + j, none⟩) hb).trans (h j u hj)

theorem CellsV.take {w : World} {b off : Nat} {xs : List Value} (h : CellsV w b off xs) (a : Nat) : CellsV w b off (xs.take a) := fun j u hj => h j u (by
  rw [List.getElem?_take] at hj
  split at hj
  · exact hj
  · cases hj)

theorem CellsV.drop {w : World} {b off : Nat} {xs : List Value} (h : CellsV w b off xs) (k : Nat) : CellsV w b (off + k) (xs.drop k) := fun j u hj => by
  rw [List.getElem?_drop] at hj
  rw [Nat.add_assoc]; exact h _ u hj

theorem CellsV.nil (w : World) (b off : Nat) : CellsV w b off [] := fun j u hj => by simp at hj

end Go.Proofs.Ytcminkifdbdaaaa

namespace Go.Proofs.Ytcminkifdbdaaaa
set_option linter.unusedSimpArgs false
set_option linter.unusedVariables false
open Go.RowKit

/-- while rows are stored that calls have made: the first k are there -/
structure Copying (w wr : World) (g : List (List Int)) (A : Nat → Option Addr) (C : Nat → Nat) (k : Nat) : Prop where
  bel : Below w.heap.size w wr
  size : w.heap.size < wr.heap.size
  top : wr.rowIs w.heap.size 23 g.length (fun j => if j < k then .slice (A j) (rowAt g j).length (C j) else .slice none 0 0)
  cap : ∀ i, i < k → (rowAt g i).length ≤ C i ∧ C i ≤ maxLen
  own : ∀ i, i < k → OwnI wr (w.heap.size + 1) wr.heap.size (A i) (rowAt g i)
  apart : ∀ i j, i < k → j < k → i ≠ j → 0 < (rowAt g i).length → 0 < (rowAt g j).length → A i ≠ A j

theorem Copying.start (w : World) (g : List (List Int)) (A : Nat → Option Addr) (C : Nat → Nat) : Copying w (w.alloc (.cells (madeCells #[.slice none 0 0] g.length) 23)) g A C 0 :=
  ⟨(Below.refl _ _).alloc (Nat.le_refl _) _, by simp, (World.rowIs_made w _ _ _).congr (fun j _ => by simp), fun i hi => absurd hi (Nat.not_lt_zero _), fun i hi => absurd hi (Nat.not_lt_zero _), fun i j hi => absurd hi (Nat.not_lt_zero _)⟩

theorem OwnI.setCell {w : World} {lo hi p o : Nat} {A : Option Addr} {l : List Int} (h : OwnI w lo hi A l) (hp : p < lo) (v : Value) : OwnI (w.setCell ⟨p, o, none⟩ v) lo hi A l := by
  intro h0
  obtain ⟨b, N, f, e, h1, h2, h3, h4, h5⟩ := h h0
  exact ⟨b, N, f, e, h1, h2, h3.setOther (by show b ≠ p; omega) _, h4, h5⟩

theorem Copying.next {w wr w2 : World} {g : List (List Int)} {A : Nat → Option Addr} {C : Nat → Nat} {k cn : Nat} {An : Option Addr} (h : Copying w wr g A C k) (hb : Below wr.heap.size wr w2)
    (ho : OwnI w2 wr.heap.size w2.heap.size An (rowAt g k)) (c1 : (rowAt g k).length ≤ cn) (c2 : cn ≤ maxLen) :
    ∃ (A' : Nat → Option Addr) (C' : Nat → Nat), Copying w (w2.setCell ⟨w.heap.size, k, none⟩ (.slice An (rowAt g k).length cn)) g A' C' (k + 1) := by
  have hs := hb.size
  have hz := h.size
  have hss : (w2.setCell ⟨w.heap.size, k, none⟩ (.slice An (rowAt g k).length cn)).heap.size = w2.heap.size := by simp [World.setCell]
  refine ⟨fun i => if i < k then A i else An, fun i => if i < k then C i else cn, (h.bel.trans (hb.mono (by omega))).setCell (Nat.le_refl _) _, by rw [hss]; omega, ((h.top.of_block (hb.block _ hz)).set k _).congr (fun j _ => ?_), fun i hi => ?_, fun i hi => ?_, fun i j hi hj hne p q => ?_⟩
  · by_cases e : j = k
    · subst e; rw [if_pos rfl, if_pos (Nat.lt_succ_self _), if_neg (Nat.lt_irrefl _), if_neg (Nat.lt_irrefl _)]
    · rw [if_neg e]
      by_cases hlt : j < k
      · rw [if_pos hlt, if_pos (by omega), if_pos hlt, if_pos hlt]
      · rw [if_neg hlt, if_neg (by omega)]
  · by_cases e : i < k
    · rw [if_pos e]; exact h.cap i e
    · obtain rfl : i = k := by omega
      rw [if_neg e]; exact ⟨c1, c2⟩
  · rw [hss]
    refine OwnI.setCell ?_ (by omega) _
    by_cases e : i < k
    · rw [if_pos e]; exact ((h.own i e).keep fun b _ h2 => hb.block b h2).more (Nat.le_refl _) hs
    · obtain rfl : i = k := by omega
      rw [if_neg e]; exact ho.more (by omega) (Nat.le_refl _)
  · by_cases ei : i < k
    · by_cases ej : j < k
      · rw [if_pos ei, if_pos ej]; exact h.apart i j ei ej hne p q
      · obtain rfl : j = k := by omega
        rw [if_pos ei, if_neg ej]
        obtain ⟨b1, _, _, e1, _, k1, _⟩ := h.own i ei p
        obtain ⟨b2, _, _, e2, k2, _, _⟩ := ho q
        rw [e1, e2]; intro e; injection e with e; injection e with e; omega
    · obtain rfl : i = k := by omega
      have ej : j < i := by omega
      rw [if_neg ei, if_pos ej]
      obtain ⟨b1, _, _, e1, _, k1, _⟩ := h.own j ej q
      obtain ⟨b2, _, _, e2, k2, _, _⟩ := ho p
      rw [e1, e2]; intro e; injection e with e; injection e with e; omega

theorem Copying.done {w wr : World} {g : List (List Int)} {A : Nat → Option Addr} {C : Nat → Nat} (h : Copying w wr g A C g.length) : OwnR wr w.heap.size wr.heap.size (some ⟨w.heap.size, 0, none⟩) g :=
  fun _ => ⟨w.heap.size, g.length, _, A, C, rfl, Nat.le_refl _, h.size, Nat.le_refl _, h.top, fun i hi => by rw [if_pos hi], ⟨h.cap, fun i hi => (h.own i hi).more (by omega) (Nat.le_refl _), h.apart⟩⟩

/-- a table of the call's own, its capacity that of a slice -/
def NewTableC (w : World) (g : List (List Int)) (e : Ending) (w' : World) : Prop :=
  ∃ (T : Option Addr) (c : Nat), e = .returned (.slice T g.length c) ∧ g.length ≤ c ∧ c ≤ maxLen ∧ Below w.heap.size w w' ∧ OwnR w' w.heap.size w'.heap.size T g

def TabResC (w : World) (g : List (List Int)) (b : Bool) (e : Ending) (w' : World) : Prop :=
  ∃ (T : Option Addr) (c : Nat), e = .returned (.tuple #[.slice T g.length c, .bool b]) ∧ g.length ≤ c ∧ c ≤ maxLen ∧ Below w.heap.size w w' ∧ OwnR w' w.heap.size w'.heap.size T g

theorem NewTableC.plain {w w' : World} {g : List (List Int)} {e : Ending} (h : NewTableC w g e w') : NewTable w g e w' := by
  obtain ⟨T, c, he, _, _, hb, ho⟩ := h; exact ⟨T, c, he, hb, ho⟩

theorem TabResC.plain {w w' : World} {g : List (List Int)} {b : Bool} {e : Ending} (h : TabResC w g b e w') : TabRes w g b e w' := by
  obtain ⟨T, c, he, _, _, hb, ho⟩ := h; exact ⟨T, c, he, hb, ho⟩

theorem TabResC.none {w w' : World} {b : Bool} {x : Value} (hx : x = .tuple #[.slice none 0 0, .bool b]) (hb : Below w.heap.size w w') : TabResC w [] b (.returned x) w' :=
  ⟨Option.none, 0, by rw [hx]; rfl, Nat.le_refl _, Nat.zero_le _, hb, fun h => absurd h (by simp)⟩

end Go.Proofs.Ytcminkifdbdaaaa

namespace Go.Proofs.Ytcminkifdbdaaaa
set_option linter.unusedSimpArgs false
set_option linter.unusedVariables false
open Go.RowKit



end Go.Proofs.Ytcminkifdbdaaaa
