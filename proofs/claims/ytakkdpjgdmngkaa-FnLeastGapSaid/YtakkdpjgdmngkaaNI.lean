/- Texts in one: Concat, WithI, WithJ, WithK. -/
import Derived.Test.YtakkdpjgdmngkaaMQ
import Derived.Lib.AppendZerosOnto
import Derived.Lib.Walk
import Derived.Deep.LoopGhost
namespace Go.Proofs.Ytakkdpjgdmngkaa
set_option linter.unusedSimpArgs false
set_option linter.unusedVariables false
open Go.RowKit

set_option maxHeartbeats 2000000 in
set_option maxRecDepth 100000 in
theorem cloneI (b off c : Nat) (l : List Int) (hl : l.length ≤ 1000) (w : World) (hc : ∀ i, i < l.length → w.cell? ⟨b, off + i, none⟩ = some (.int .i64 (nth l i))) (hb : b < w.heap.size) :
    Calls Try.prog 91 #[.slice (some ⟨b, off, none⟩) l.length c] w fun e w' => ∃ v, e = .returned v ∧ Below w.heap.size w w' ∧ Grows w' w.heap.size v l := by
  obtain ⟨i0, hi0, hz0, hz1, hz2⟩ := info_parts infoI
  have HI0 := Lib.hid hi0
  have HZ0 := Lib.hid hz0
  have HZ1 := Lib.hid hz1
  have HZ2 := Lib.hid hz2
  have HN : Hid (∀ j u, (vals l)[j]? = some u → (w.alloc (.cells #[] 3)).cell? ((⟨b, off, none⟩ : Addr).add j) = some u) := news_of fun i hi => (((Below.refl w.heap.size w).alloc (Nat.le_refl _) _).cell (p := ⟨b, off + i, none⟩) hb).trans (hc i hi)
  have GL := Lib.hid (Grows.lit w (base := w.heap.size) (Nat.le_refl _))
  have qn : ∀ w : World, (binOp .eql 26 (.slice (some ⟨b, off, none⟩) l.length c) (.slice none 0 0)).run Try.prog w = .ok (.bool false) w := fun w => Lib.run_eql_slice_nil w _ _ (some ⟨b, off, none⟩) l.length c 0 0 Try.underlying26
  clear hi0 hz0 hz1 hz2 hc
  go_enter Try.func91, Try.ntmps91
  go_wp2_with (at_builtin; refine wpList_append_own_at _ rfl (.tmp 5) (.tmp 6) _ rfl w.heap.size 3 i0 (.int .i64 0) 1 8 Try.underlying26 HI0.out HZ0.out HZ1.out HZ2.out rfl (by decide) _ _ _ rfl GL.out ⟨b, off, none⟩ l.length c (vals l) rfl (by rw [vals_length]; omega) HN.out vals_one (by unfold maxLen; simp; omega) (by simp; omega) (by simp) ?_)
  intro v' w4 hown hgrow _ _
  have HG : Hid (Grows w4 w.heap.size v' l) := by show Grows _ _ _ _; unfold Grows; simpa [vals] using hown
  have HB : Hid (Below w.heap.size w w4) := ((Below.refl w.heap.size w).alloc (Nat.le_refl _) _).grown hgrow (by simp) (fun k hk => by simp [Value.ownBlock] at hk; omega)
  clear hown hgrow
  go_wp2_with fail
  go_ret
  exact ⟨_, rfl, HB.out, HG.out⟩

end Go.Proofs.Ytakkdpjgdmngkaa

namespace Go.Proofs.Ytakkdpjgdmngkaa
set_option linter.unusedSimpArgs false
set_option linter.unusedVariables false
open Go.RowKit

/-- the cells from an address on hold the values -/
def CellsV (w : World) (b off : Nat) (xs : List Value) : Prop := ∀ (j : Nat) (u : Value), xs[j]? = some u → w.cell? ⟨b, off + j, none⟩ = some u

theorem CellsV.keep {w w' : World} {b off B : Nat} {xs : List Value} (h : CellsV w b off xs) (hb : b < B) (hw : Below B w w') : CellsV w' b off xs :=
  fun j u hj => (hw.cell (p := ⟨b, off + j, none⟩) hb).trans (h j u hj)

theorem CellsV.take {w : World} {b off : Nat} {xs : List Value} (h : CellsV w b off xs) (a : Nat) : CellsV w b off (xs.take a) := fun j u hj => h j u (by
  rw [List.getElem?_take] at hj
  split at hj
  · exact hj
  · cases hj)

theorem CellsV.nil (w : World) (b off : Nat) : CellsV w b off [] := fun j u hj => by simp at hj

theorem ownsRow_base {w : World} {b b' : Nat} {e : TypeId} {s n : Nat} {v : Value} {xs : List Value} (h : w.ownsRow b e s v n xs) (hb : b' ≤ b) : w.ownsRow b' e s v n xs := by
  obtain ⟨h1, h2 | ⟨g, cap, cur, k1, k2, k3⟩⟩ := h
  · exact ⟨h1, .inl h2⟩
  · exact ⟨h1, .inr ⟨g, cap, cur, k1, by omega, k3⟩⟩

end Go.Proofs.Ytakkdpjgdmngkaa

namespace Go.Proofs.Ytakkdpjgdmngkaa
set_option linter.unusedSimpArgs false
set_option linter.unusedVariables false
open Go.RowKit

/-- while rows are stored that calls have made: the first k are there -/
structure Copying (w wr : World) (g : List (List Int)) (A : Nat → Option Addr) (C : Nat → Nat) (k : Nat) : Prop where
  bel : Below w.heap.size w wr
  size : w.heap.size < wr.heap.size
  top : wr.rowIs w.heap.size 26 g.length (fun j => if j < k then .slice (A j) (rowAt g j).length (C j) else .slice none 0 0)
  cap : ∀ i, i < k → (rowAt g i).length ≤ C i ∧ C i ≤ maxLen
  own : ∀ i, i < k → OwnI wr (w.heap.size + 1) wr.heap.size (A i) (rowAt g i)
  apart : ∀ i j, i < k → j < k → i ≠ j → 0 < (rowAt g i).length → 0 < (rowAt g j).length → A i ≠ A j

theorem Copying.start (w : World) (g : List (List Int)) (A : Nat → Option Addr) (C : Nat → Nat) : Copying w (w.alloc (.cells (madeCells #[.slice none 0 0] g.length) 26)) g A C 0 :=
  ⟨(Below.refl _ _).alloc (Nat.le_refl _) _, by simp, (World.rowIs_made w _ _ _).congr (fun j _ => by simp), fun i hi => absurd hi (Nat.not_lt_zero _), fun i hi => absurd hi (Nat.not_lt_zero _), fun i j hi => absurd hi (Nat.not_lt_zero _)⟩

theorem OwnI.setCell {w : World} {lo hi p o : Nat} {A : Option Addr} {l : List Int} (h : OwnI w lo hi A l) (hp : p < lo) (v : Value) : OwnI (w.setCell ⟨p, o, none⟩ v) lo hi A l := by
  intro h0
  obtain ⟨b, N, f, e, h1, h2, h3, h4, h5⟩ := h h0
  exact ⟨b, N, f, e, h1, h2, h3.setOther (by show b ≠ p; omega) _, h4, h5⟩

theorem Copying.next {w wr w2 : World} {g : List (List Int)} {A : Nat → Option Addr} {C : Nat → Nat} {k cn : Nat} {An : Option Addr} (h : Copying w wr g A C k) (hb : Below wr.heap.size wr w2)
    (ho : OwnI w2 wr.heap.size w2.heap.size An (rowAt g k)) (c1 : (rowAt g k).length ≤ cn) (c2 : cn ≤ maxLen) :
    ∃ (A' : Nat → Option Addr) (C' : Nat → Nat), Copying w (w2.setCell ⟨w.heap.size, k, none⟩ (.slice An (rowAt g k).length cn)) g A' C' (k + 1) := by
  have hs := hb.size
  have hz := h.size
  have hss : (w2.setCell ⟨w.heap.size, k, none⟩ (.slice An (rowAt g k).length cn)).heap.size = w2.heap.size := by simp [World.setCell]
  refine ⟨fun i => if i < k then A i else An, fun i => if i < k then C i else cn, (h.bel.trans (hb.mono (by omega))).setCell (Nat.le_refl _) _, by rw [hss]; omega, ((h.top.of_block (hb.block _ hz)).set k _).congr (fun j _ => ?_), fun i hi => ?_, fun i hi => ?_, fun i j hi hj hne p q => ?_⟩
  · by_cases e : j = k
    · subst e; rw [if_pos rfl, if_pos (Nat.lt_succ_self _), if_neg (Nat.lt_irrefl _), if_neg (Nat.lt_irrefl _)]
    · rw [if_neg e]
      by_cases hlt : j < k
      · rw [if_pos hlt, if_pos (by omega), if_pos hlt, if_pos hlt]
      · rw [if_neg hlt, if_neg (by omega)]
  · by_cases e : i < k
    · rw [if_pos e]; exact h.cap i e
    · obtain rfl : i = k := by omega
      rw [if_neg e]; exact ⟨c1, c2⟩
  · rw [hss]
    refine OwnI.setCell ?_ (by omega) _
    by_cases e : i < k
    · rw [if_pos e]; exact ((h.own i e).keep fun b _ h2 => hb.block b h2).more (Nat.le_refl _) hs
    · obtain rfl : i = k := by omega
      rw [if_neg e]; exact ho.more (by omega) (Nat.le_refl _)
  · by_cases ei : i < k
    · by_cases ej : j < k
      · rw [if_pos ei, if_pos ej]; exact h.apart i j ei ej hne p q
      · obtain rfl : j = k := by omega
        rw [if_pos ei, if_neg ej]
        obtain ⟨b1, _, _, e1, _, k1, _⟩ := h.own i ei p
        obtain ⟨b2, _, _, e2, k2, _, _⟩ := ho q
        rw [e1, e2]; intro e; injection e with e; injection e with e; omega
    · obtain rfl : i = k := by omega
      have ej : j < i := by omega
      rw [if_neg ei, if_pos ej]
      obtain ⟨b1, _, _, e1, _, k1, _⟩ := h.own j ej q
      obtain ⟨b2, _, _, e2, k2, _, _⟩ := ho p
      rw [e1, e2]; intro e; injection e with e; injection e with e; omega

theorem Copying.done {w wr : World} {g : List (List Int)} {A : Nat → Option Addr} {C : Nat → Nat} (h : Copying w wr g A C g.length) : OwnR wr w.heap.size wr.heap.size (some ⟨w.heap.size, 0, none⟩) g :=
  fun _ => ⟨w.heap.size, g.length, _, A, C, rfl, Nat.le_refl _, h.size, Nat.le_refl _, h.top, fun i hi => by rw [if_pos hi], ⟨h.cap, fun i hi => (h.own i hi).more (by omega) (Nat.le_refl _), h.apart⟩⟩

def TabResC (w : World) (g : List (List Int)) (b : Bool) (e : Ending) (w' : World) : Prop :=
  ∃ (T : Option Addr) (c : Nat), e = .returned (.tuple #[.slice T g.length c, .bool b]) ∧ g.length ≤ c ∧ c ≤ maxLen ∧ Below w.heap.size w w' ∧ OwnR w' w.heap.size w'.heap.size T g

theorem TabResC.none {w w' : World} {b : Bool} {x : Value} (hx : x = .tuple #[.slice none 0 0, .bool b]) (hb : Below w.heap.size w w') : TabResC w [] b (.returned x) w' :=
  ⟨Option.none, 0, by rw [hx]; rfl, Nat.le_refl _, Nat.zero_le _, hb, fun h => absurd h (by simp)⟩

end Go.Proofs.Ytakkdpjgdmngkaa

namespace Go.Proofs.Ytakkdpjgdmngkaa
set_option linter.unusedSimpArgs false
set_option linter.unusedVariables false
open Go.RowKit



end Go.Proofs.Ytakkdpjgdmngkaa
