/- Texts in one: Draw, DrawB, DrawW, DrawG, DrawM, DrawT, DrawX, DrawY, DrawZ, DrawF. -/
import Derived.Test.YtlmaeadbomnhlabDoorMB
import Derived.Test.YtlmaeadbomnhlabDoorLiftK
import Derived.Laws.Bits64
import Derived.Test.YtlmaeadbomnhlabDoorMC
import Derived.Deep.RegionWith
import Derived.Deep.DeepCutAuto
import Derived.Test.YtlmaeadbomnhlabDoorMA
namespace Go.Proofs.YtlmaeadbomnhlabDoor
set_option linter.unusedSimpArgs false
set_option linter.unusedVariables false
open Go.RowKit

/-- all blocks but block n are as they were; none has gone -/
structure Kept (n : Nat) (w w' : World) : Prop where
  os : w'.os = w.os
  tape : w'.tape = w.tape
  output : w'.output = w.output
  size : w.heap.size ≤ w'.heap.size
  block : ∀ k, k < w.heap.size → k ≠ n → w'.heap[k]? = w.heap[k]?

theorem Kept.refl (n : Nat) (w : World) : Kept n w w := ⟨rfl, rfl, rfl, Nat.le_refl _, fun _ _ _ => rfl⟩

theorem Kept.trans {n : Nat} {a b c : World} (h : Kept n a b) (k : Kept n b c) : Kept n a c :=
  ⟨k.os.trans h.os, k.tape.trans h.tape, k.output.trans h.output, Nat.le_trans h.size k.size, fun i hi hn => (k.block i (Nat.lt_of_lt_of_le hi h.size) hn).trans (h.block i hi hn)⟩

theorem Kept.of_below {n : Nat} {w w' : World} (h : Below w.heap.size w w') : Kept n w w' := ⟨h.os, h.tape, h.output, h.size, fun k hk _ => h.block k hk⟩

theorem Kept.setCell {n : Nat} {a w : World} (h : Kept n a w) (o : Nat) (s : _) (u : Value) : Kept n a (w.setCell ⟨n, o, s⟩ u) :=
  h.trans ⟨rfl, rfl, rfl, by simp [World.setCell], fun k _ hn => Below.heap_setCell _ _ _ _ hn⟩

theorem Kept.drewN {n : Nat} {a w : World} (h : Kept n a w) (k : Nat) : Kept n a (w.drewN k) := h.trans ⟨rfl, rfl, rfl, Nat.le_refl _, fun _ _ _ => rfl⟩

theorem Kept.drew {n : Nat} {a w : World} (h : Kept n a w) : Kept n a w.drew := h.trans ⟨rfl, rfl, rfl, Nat.le_refl _, fun _ _ _ => rfl⟩

theorem Kept.alloc {n : Nat} {a w : World} (h : Kept n a w) (o : Obj) : Kept n a (w.alloc o) := h.trans (Kept.of_below ((Below.refl _ _).alloc (Nat.le_refl _) _))

theorem Kept.cell {n : Nat} {w w' : World} (h : Kept n w w') {p o : Nat} (hp : p < w.heap.size) (hn : p ≠ n) : w'.cell? ⟨p, o, none⟩ = w.cell? ⟨p, o, none⟩ := World.cell?_of_block (w := w) (h.block p hp hn)

theorem Kept.frozen {n : Nat} {w w' : World} (h : Kept n w w') {p o : Nat} (hp : p < w.heap.size) (hn : p ≠ n) : w'.frozen? ⟨p, o, none⟩ = w.frozen? ⟨p, o, none⟩ := World.frozen?_of_block (w := w) (h.block p hp hn)

/-- a block that is the call's own may be written -/
theorem Kept.below {n B : Nat} {w w' : World} (h : Kept n w w') (hB : B ≤ n) (hw : B ≤ w.heap.size) : Below B w w' := ⟨h.os, h.tape, h.output, h.size, fun k hk => h.block k (by omega) (by omega)⟩

/-- the bytes that a reader reads -/
def Bytes (n : Nat) (w : World) (a : Option Addr) (len : Nat) (zs : List Int) : Prop :=
  len = 0 ∨ ∃ b off : Nat, a = some ⟨b, off, none⟩ ∧ b < n ∧ ∀ i, i < len → w.cell? ⟨b, off + i, none⟩ = some (.int .u8 (zs.getD i 0)) ∧ 0 ≤ zs.getD i 0 ∧ zs.getD i 0 ≤ 255

/-- block n is a reader at place p -/
structure Reader (n : Nat) (w : World) (a : Option Addr) (len cap : Nat) (zs : List Int) (p : Int) : Prop where
  code : w.cell? ⟨n, 0, none⟩ = some (.slice a len cap)
  place : w.cell? ⟨n, 1, none⟩ = some (.int .i64 p)
  free : w.frozen? ⟨n, 1, none⟩ = false
  lt : n < w.heap.size
  len_le : len ≤ 2000
  p_lo : 0 ≤ p
  p_hi : p ≤ 30000
  bytes : Bytes n w a len zs

theorem Bytes.of_below {n : Nat} {w w' : World} {a : Option Addr} {len : Nat} {zs : List Int} (h : Bytes n w a len zs) (hn : n ≤ w.heap.size) (hb : Below w.heap.size w w') : Bytes n w' a len zs := by
  rcases h with h | ⟨b, off, ha, hlt, hc⟩
  · exact .inl h
  · exact .inr ⟨b, off, ha, hlt, fun i hi => ⟨(hb.cell (p := ⟨b, off + i, none⟩) (show b < _ by omega)).trans (hc i hi).1, (hc i hi).2⟩⟩

theorem Reader.of_below {n : Nat} {w w' : World} {a : Option Addr} {len cap : Nat} {zs : List Int} {p : Int} (h : Reader n w a len cap zs p) (hb : Below w.heap.size w w') : Reader n w' a len cap zs p :=
  ⟨(hb.cell (p := ⟨n, 0, none⟩) h.lt).trans h.code, (hb.cell (p := ⟨n, 1, none⟩) h.lt).trans h.place, (hb.frozen (p := ⟨n, 1, none⟩) h.lt).trans h.free, Nat.lt_of_lt_of_le h.lt hb.size, h.len_le, h.p_lo, h.p_hi, h.bytes.of_below (Nat.le_of_lt h.lt) hb⟩

end Go.Proofs.YtlmaeadbomnhlabDoor

namespace Go.Proofs.YtlmaeadbomnhlabDoor
set_option linter.unusedSimpArgs false
set_option linter.unusedVariables false
open Go.RowKit

theorem IsRow.below {k : IntKind} {w w' : World} {a : Option Addr} {len cap : Nat} {zs : List Int} (h : IsRow k w a len cap zs) (hb : Below w.heap.size w w') : IsRow k w' a len cap zs := by
  rcases h with h | ⟨x, h1, h2, h3, h4, h5, h6⟩
  · exact .inl h
  · exact .inr ⟨x, h1, h2, h3, h4, fun i hi => (hb.cell (World.block_lt_of_cell? w _ (h5 i hi))).trans (h5 i hi), h6⟩

end Go.Proofs.YtlmaeadbomnhlabDoor

namespace Go.Proofs.YtlmaeadbomnhlabDoor
set_option linter.unusedSimpArgs false
set_option linter.unusedVariables false
open Go.RowKit

/-- a reader stays where its block and what lies before it stay -/
theorem Reader.of_blocks {n : Nat} {w w' : World} {a : Option Addr} {len cap : Nat} {zs : List Int} {p : Int} (h : Reader n w a len cap zs p) (hk : ∀ b, b ≤ n → w'.heap[b]? = w.heap[b]?) (hs : w.heap.size ≤ w'.heap.size) : Reader n w' a len cap zs p :=
  ⟨(World.cell?_of_block (w := w) (hk n (Nat.le_refl _))).trans h.code, (World.cell?_of_block (w := w) (hk n (Nat.le_refl _))).trans h.place, (World.frozen?_of_block (w := w) (hk n (Nat.le_refl _))).trans h.free,
    Nat.lt_of_lt_of_le h.lt hs, h.len_le, h.p_lo, h.p_hi, by
      rcases h.bytes with h | ⟨b, off, ha, hlt, hc⟩
      · exact .inl h
      · exact .inr ⟨b, off, ha, hlt, fun i hi => ⟨(World.cell?_of_block (w := w) (hk b (Nat.le_of_lt hlt))).trans (hc i hi).1, (hc i hi).2⟩⟩⟩

theorem Reader.below {n B : Nat} {w w' : World} {a : Option Addr} {len cap : Nat} {zs : List Int} {p : Int} (h : Reader n w a len cap zs p) (hb : Below B w w') (hn : n < B) : Reader n w' a len cap zs p :=
  h.of_blocks (fun b hb' => hb.block b (by omega)) hb.size

/-- what a call owns from lo on stays where only block n < lo may turn -/
theorem Grows.kept {n : Nat} {w w' : World} {base : Nat} {v : Value} {l : List Int} (h : Grows w base v l) (hk : Kept n w w') (hn : n < base) : Grows w' base v l :=
  ownsRow_of_block h fun k hk' => hk.block k (World.ownsRow.lt h k hk').2 (by have := (World.ownsRow.lt h k hk').1; omega)

theorem OwnI.kept {n : Nat} {w w' : World} {lo hi : Nat} {A : Option Addr} {l : List Int} (h : OwnI w lo hi A l) (hk : Kept n w w') (hn : n < lo) (hh : hi ≤ w.heap.size) : OwnI w' lo hi A l := h.keep fun b h1 h2 => hk.block b (by omega) (by omega)

theorem OwnR.kept {n : Nat} {w w' : World} {lo hi : Nat} {A : Option Addr} {g : List (List Int)} (h : OwnR w lo hi A g) (hk : Kept n w w') (hn : n < lo) (hh : hi ≤ w.heap.size) : OwnR w' lo hi A g := h.keep fun b h1 h2 => hk.block b (by omega) (by omega)

theorem GrowsR.kept {n : Nat} {w w' : World} {base hi : Nat} {v : Value} {A : Nat → Option Addr} {C : Nat → Nat} {g : List (List Int)} (h : GrowsR w base hi v A C g) (hk : Kept n w w') (hn : n < base) : GrowsR w' base hi v A C g :=
  ⟨ownsRow_of_block h.top fun k hk' => hk.block k (World.ownsRow.lt h.top k hk').2 (by have := (World.ownsRow.lt h.top k hk').1; omega),
    h.rows.keep fun b h1 h2 => hk.block b (by have := h.hile; omega) (by omega), h.hib, Nat.le_trans h.hile hk.size⟩

theorem Grows.lo {w : World} {base : Nat} {v : Value} {l : List Int} (h : Grows w base v l) : ∀ k, v.ownBlock = some k → base ≤ k := fun k hk => (World.ownsRow.lt h k hk).1

theorem GrowsR.lo {w : World} {base hi : Nat} {v : Value} {A : Nat → Option Addr} {C : Nat → Nat} {g : List (List Int)} (h : GrowsR w base hi v A C g) : ∀ k, v.ownBlock = some k → base ≤ k := fun k hk => (World.ownsRow.lt h.top k hk).1

/-- what a table drawn is -/
def DrawnG (n : Nat) (w : World) (a : Option Addr) (len cap : Nat) (zs : List Int) (p : Int) (e : Ending) (w' : World) : Prop :=
  ∃ (g : List (List Int)) (T : Option Addr) (c : Nat) (p' : Int), e = .returned (.slice T g.length c) ∧ g.length ≤ c ∧ c ≤ maxLen ∧ g.length ≤ 17 ∧ (∀ i, i < g.length → (rowAt g i).length ≤ 16) ∧
    Kept n w w' ∧ Reader n w' a len cap zs p' ∧ p ≤ p' ∧ p' ≤ p + 600 ∧ OwnR w' w.heap.size w'.heap.size T g

end Go.Proofs.YtlmaeadbomnhlabDoor

namespace Go.Proofs.YtlmaeadbomnhlabDoor
set_option linter.unusedSimpArgs false
set_option linter.unusedVariables false
open Go.RowKit



end Go.Proofs.YtlmaeadbomnhlabDoor

namespace Go.Proofs.YtlmaeadbomnhlabDoor
set_option linter.unusedSimpArgs false
set_option linter.unusedVariables false
open Go.RowKit



end Go.Proofs.YtlmaeadbomnhlabDoor

namespace Go.Proofs.YtlmaeadbomnhlabDoor
set_option linter.unusedSimpArgs false
set_option linter.unusedVariables false
open Go.RowKit

/-- what a drawn table is -/
def DrawnT (w : World) (e : Ending) (w' : World) : Prop :=
  ∃ (g : List (List Int)) (T : Option Addr) (c : Nat), e = .returned (.slice T g.length c) ∧ g.length ≤ c ∧ c ≤ maxLen ∧ g.length ≤ 17 ∧ (∀ i, i < g.length → (rowAt g i).length ≤ 16) ∧ Below w.heap.size w w' ∧ OwnR w' w.heap.size w'.heap.size T g

theorem DrawnT.of {w w1 : World} {a : Option Addr} {len cap : Nat} {zs : List Int} {e : Ending} {w' : World} (hb : Below w.heap.size w w1) (hR : Reader w.heap.size w1 a len cap zs 0) (h : DrawnG w.heap.size w1 a len cap zs 0 e w') : DrawnT w e w' := by
  obtain ⟨g, T, c, p', he, h1, h2, h3, h4, hK, _, _, _, ho⟩ := h
  exact ⟨g, T, c, he, h1, h2, h3, h4, hb.trans (hK.below (Nat.le_refl _) hb.size), ho.more hb.size (Nat.le_refl _)⟩

end Go.Proofs.YtlmaeadbomnhlabDoor

namespace Go.Proofs.YtlmaeadbomnhlabDoor
set_option linter.unusedSimpArgs false
set_option linter.unusedVariables false
open Go.RowKit



end Go.Proofs.YtlmaeadbomnhlabDoor

namespace Go.Proofs.YtlmaeadbomnhlabDoor
set_option linter.unusedSimpArgs false
set_option linter.unusedVariables false
open Go.RowKit



end Go.Proofs.YtlmaeadbomnhlabDoor

namespace Go.Proofs.YtlmaeadbomnhlabDoor
set_option linter.unusedSimpArgs false
set_option linter.unusedVariables false
open Go.RowKit

/-- two rows of 0, of the call's own; the first one, then both with one number set -/
structure SetSt (W wx : World) (n m : Nat) (f h : Nat → Value) : Prop where
  bel : Below W.heap.size W wx
  size : wx.heap.size = W.heap.size + 2
  one : wx.rowIs W.heap.size 3 n f
  two : wx.rowIs (W.heap.size + 1) 3 m h

theorem SetSt.drew {W wx : World} {n m : Nat} {f h : Nat → Value} (s : SetSt W wx n m f h) : SetSt W wx.drew n m f h := ⟨s.bel.drew, s.size, s.one, s.two⟩

end Go.Proofs.YtlmaeadbomnhlabDoor

namespace Go.Proofs.YtlmaeadbomnhlabDoor
set_option linter.unusedSimpArgs false
set_option linter.unusedVariables false
open Go.RowKit



end Go.Proofs.YtlmaeadbomnhlabDoor
