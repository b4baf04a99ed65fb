/- Texts in one: Draw, DrawB, DrawW, DrawG, DrawM, DrawT, DrawX, DrawY, DrawZ, DrawF. -/
import Derived.Test.YtlkjpmdnhccdpabMB
import Derived.Test.YtlkjpmdnhccdpabLiftK
import Derived.Laws.Bits64
import Derived.Test.YtlkjpmdnhccdpabMC
import Derived.Deep.RegionWith
import Derived.Deep.DeepCutAuto
import Derived.Test.YtlkjpmdnhccdpabMA
namespace Go.Proofs.Ytlkjpmdnhccdpab
set_option linter.unusedSimpArgs false
set_option linter.unusedVariables false
open Go.RowKit

theorem xor_i64 (a b : Int) (h1 : 0 ≤ a) (h2 : a < 4611686018427387904) (h3 : 0 ≤ b) (h4 : b < 4611686018427387904) : 0 ≤ bits .xor .i64 a b ∧ bits .xor .i64 a b < 4611686018427387904 := by
  obtain ⟨x, rfl⟩ := Int.eq_ofNat_of_zero_le h1
  obtain ⟨y, rfl⟩ := Int.eq_ofNat_of_zero_le h3
  have hx : x ^^^ y < 2 ^ 62 := Nat.xor_lt_two_pow (by omega) (by omega)
  have e1 : (BitVec.ofInt 64 (x : Int)).toNat = x := by
    rw [BitVec.ofInt_natCast, BitVec.toNat_ofNat]; exact Nat.mod_eq_of_lt (by omega)
  have e2 : (BitVec.ofInt 64 (y : Int)).toNat = y := by
    rw [BitVec.ofInt_natCast, BitVec.toNat_ofNat]; exact Nat.mod_eq_of_lt (by omega)
  show 0 ≤ IntKind.i64.wrap ((BitVec.ofInt 64 (x : Int) ^^^ BitVec.ofInt 64 (y : Int)).toNat : Int) ∧ IntKind.i64.wrap ((BitVec.ofInt 64 (x : Int) ^^^ BitVec.ofInt 64 (y : Int)).toNat : Int) < 4611686018427387904
  rw [BitVec.toNat_xor, e1, e2, IntKind.wrap_i64]
  omega

/-- all blocks but block n are as they were; none has gone -/
structure Kept (n : Nat) (w w' : World) : Prop where
  os : w'.os = w.os
  tape : w'.tape = w.tape
  output : w'.output = w.output
  size : w.heap.size ≤ w'.heap.size
  block : ∀ k, k < w.heap.size → k ≠ n → w'.heap[k]? = w.heap[k]?

theorem Kept.refl (n : Nat) (w : World) : Kept n w w := ⟨rfl, rfl, rfl, Nat.le_refl _, fun _ _ _ => rfl⟩

theorem Kept.trans {n : Nat} {a b c : World} (h : Kept n a b) (k : Kept n b c) : Kept n a c :=
  ⟨k.os.trans h.os, k.tape.trans h.tape, k.output.trans h.output, Nat.le_trans h.size k.size, fun i hi hn => (k.block i (Nat.lt_of_lt_of_le hi h.size) hn).trans (h.block i hi hn)⟩

theorem Kept.of_below {n : Nat} {w w' : World} (h : Below w.heap.size w w') : Kept n w w' := ⟨h.os, h.tape, h.output, h.size, fun k hk _ => h.block k hk⟩

theorem Kept.setCell {n : Nat} {a w : World} (h : Kept n a w) (o : Nat) (s : _) (u : Value) : Kept n a (w.setCell ⟨n, o, s⟩ u) :=
  h.trans ⟨rfl, rfl, rfl, by simp [World.setCell], fun k _ hn => Below.heap_setCell _ _ _ _ hn⟩

theorem Kept.drewN {n : Nat} {a w : World} (h : Kept n a w) (k : Nat) : Kept n a (w.drewN k) := h.trans ⟨rfl, rfl, rfl, Nat.le_refl _, fun _ _ _ => rfl⟩

theorem Kept.drew {n : Nat} {a w : World} (h : Kept n a w) : Kept n a w.drew := h.trans ⟨rfl, rfl, rfl, Nat.le_refl _, fun _ _ _ => rfl⟩

theorem Kept.alloc {n : Nat} {a w : World} (h : Kept n a w) (o : Obj) : Kept n a (w.alloc o) := h.trans (Kept.of_below ((Below.refl _ _).alloc (Nat.le_refl _) _))

theorem Kept.cell {n : Nat} {w w' : World} (h : Kept n w w') {p o : Nat} (hp : p < w.heap.size) (hn : p ≠ n) : w'.cell? ⟨p, o, none⟩ = w.cell? ⟨p, o, none⟩ := World.cell?_of_block (w := w) (h.block p hp hn)

theorem Kept.frozen {n : Nat} {w w' : World} (h : Kept n w w') {p o : Nat} (hp : p < w.heap.size) (hn : p ≠ n) : w'.frozen? ⟨p, o, none⟩ = w.frozen? ⟨p, o, none⟩ := World.frozen?_of_block (w := w) (h.block p hp hn)

/-- a block that is the call's own may be written -/
theorem Kept.below {n B : Nat} {w w' : World} (h : Kept n w w') (hB : B ≤ n) (hw : B ≤ w.heap.size) : Below B w w' := ⟨h.os, h.tape, h.output, h.size, fun k hk => h.block k (by omega) (by omega)⟩

/-- the bytes that a reader reads -/
def Bytes (n : Nat) (w : World) (a : Option Addr) (len : Nat) (zs : List Int) : Prop :=
  len = 0 ∨ ∃ b off : Nat, a = some ⟨b, off, none⟩ ∧ b < n ∧ ∀ i, i < len → w.cell? ⟨b, off + i, none⟩ = some (.int .u8 (zs.getD i 0)) ∧ 0 ≤ zs.getD i 0 ∧ zs.getD i 0 ≤ 255

/-- block n is a reader at place p -/
structure Reader (n : Nat) (w : World) (a : Option Addr) (len cap : Nat) (zs : List Int) (p : Int) : Prop where
  code : w.cell? ⟨n, 0, none⟩ = some (.slice a len cap)
  place : w.cell? ⟨n, 1, none⟩ = some (.int .i64 p)
  free : w.frozen? ⟨n, 1, none⟩ = false
  lt : n < w.heap.size
  len_le : len ≤ 2000
  p_lo : 0 ≤ p
  p_hi : p ≤ 30000
  bytes : Bytes n w a len zs

theorem Bytes.of_below {n : Nat} {w w' : World} {a : Option Addr} {len : Nat} {zs : List Int} (h : Bytes n w a len zs) (hn : n ≤ w.heap.size) (hb : Below w.heap.size w w') : Bytes n w' a len zs := by
  rcases h with h | ⟨b, off, ha, hlt, hc⟩
  · exact .inl h
  · exact .inr ⟨b, off, ha, hlt, fun i hi => ⟨(hb.cell (p := ⟨b, off + i, none⟩) (show b < _ by omega)).trans (hc i hi).1, (hc i hi).2⟩⟩

theorem Bytes.of_kept {n : Nat} {w w' : World} {a : Option Addr} {len : Nat} {zs : List Int} (h : Bytes n w a len zs) (hn : n ≤ w.heap.size) (hb : Kept n w w') : Bytes n w' a len zs := by
  rcases h with h | ⟨b, off, ha, hlt, hc⟩
  · exact .inl h
  · exact .inr ⟨b, off, ha, hlt, fun i hi => ⟨(hb.cell (by omega) (by omega)).trans (hc i hi).1, (hc i hi).2⟩⟩

theorem Reader.of_below {n : Nat} {w w' : World} {a : Option Addr} {len cap : Nat} {zs : List Int} {p : Int} (h : Reader n w a len cap zs p) (hb : Below w.heap.size w w') : Reader n w' a len cap zs p :=
  ⟨(hb.cell (p := ⟨n, 0, none⟩) h.lt).trans h.code, (hb.cell (p := ⟨n, 1, none⟩) h.lt).trans h.place, (hb.frozen (p := ⟨n, 1, none⟩) h.lt).trans h.free, Nat.lt_of_lt_of_le h.lt hb.size, h.len_le, h.p_lo, h.p_hi, h.bytes.of_below (Nat.le_of_lt h.lt) hb⟩

/-- what a number drawn leaves: it is in 0 .. m - 1; the reader is one place further; nothing else has turned -/
def Picked (n : Nat) (w : World) (a : Option Addr) (len cap : Nat) (zs : List Int) (p m : Int) (e : Ending) (w' : World) : Prop :=
  ∃ v : Int, e = .returned (.int .i64 v) ∧ 0 ≤ v ∧ v < m ∧ Kept n w w' ∧ Reader n w' a len cap zs (p + 1)

/-- one place further -/
theorem Reader.next {n : Nat} {w : World} {a : Option Addr} {len cap : Nat} {zs : List Int} {p : Int} (h : Reader n w a len cap zs p) (hp : p < 30000) (k : Nat) : Reader n ((w.setCell ⟨n, 1, none⟩ (.int .i64 (p + 1))).drewN k) a len cap zs (p + 1) :=
  ⟨by
      show (w.setCell ⟨n, 1, none⟩ _).cell? _ = _
      rw [World.cell?_setCell_other _ _ _ _ (by simp)]; exact h.code,
    by show (w.setCell ⟨n, 1, none⟩ _).cell? _ = _; exact World.cell?_setCell_same' _ _ _ (by rw [h.place]; rfl),
    by show (w.setCell ⟨n, 1, none⟩ _).frozen? _ = _; rw [World.frozen?_setCell]; exact h.free,
    by show n < (w.setCell ⟨n, 1, none⟩ _).heap.size; simpa [World.setCell] using h.lt,
    h.len_le, by have := h.p_lo; omega, by omega,
    h.bytes.of_kept (Nat.le_of_lt h.lt) (((Kept.refl n w).setCell 1 none _).drewN k)⟩

theorem kept_next {n : Nat} {w : World} (p : Int) (k : Nat) : Kept n w ((w.setCell ⟨n, 1, none⟩ (.int .i64 p)).drewN k) := ((Kept.refl n w).setCell 1 none _).drewN k

/-- what a truth drawn leaves -/
def Odd (n : Nat) (w : World) (a : Option Addr) (len cap : Nat) (zs : List Int) (p : Int) (e : Ending) (w' : World) : Prop :=
  ∃ v : Bool, e = .returned (.bool v) ∧ Kept n w w' ∧ Reader n w' a len cap zs (p + 1)

theorem staysK {W : World} {n p o : Nat} {a : Value} (hp : p < W.heap.size) (hn : p ≠ n) (h : W.cell? ⟨p, o, none⟩ = some a) : ∀ w1, Kept n W w1 → w1.cell? ⟨p, o, none⟩ = some a :=
  fun _ hb => (hb.cell hp hn).trans h

theorem staysKF {W : World} {n p o : Nat} {b : Bool} (hp : p < W.heap.size) (hn : p ≠ n) (h : W.frozen? ⟨p, o, none⟩ = b) : ∀ w1, Kept n W w1 → w1.frozen? ⟨p, o, none⟩ = b :=
  fun _ hb => (hb.frozen hp hn).trans h

theorem Kept.setNew {n : Nat} {a w : World} (h : Kept n a w) {q : Addr} (hq : a.heap.size ≤ q.block) (u : Value) : Kept n a (w.setCell q u) :=
  ⟨h.os, h.tape, h.output, by have := h.size; simpa [World.setCell] using this, fun k hk hn => by rw [Below.heap_setCell _ _ _ _ (by omega)]; exact h.block k hk hn⟩

theorem Reader.setFar {n : Nat} {w : World} {a : Option Addr} {len cap : Nat} {zs : List Int} {p : Int} (h : Reader n w a len cap zs p) {q : Addr} (hq : n < q.block) (u : Value) : Reader n (w.setCell q u) a len cap zs p :=
  ⟨(World.cell?_of_block (w := w) (Below.heap_setCell w q u n (by omega))).trans h.code, (World.cell?_of_block (w := w) (Below.heap_setCell w q u n (by omega))).trans h.place,
    by rw [World.frozen?_setCell]; exact h.free, by simpa [World.setCell] using h.lt, h.len_le, h.p_lo, h.p_hi, by
      rcases h.bytes with h | ⟨b, off, ha, hlt, hc⟩
      · exact .inl h
      · exact .inr ⟨b, off, ha, hlt, fun i hi => ⟨(World.cell?_of_block (w := w) (Below.heap_setCell w q u b (by omega))).trans (hc i hi).1, (hc i hi).2⟩⟩⟩

theorem tab3 {w1 : World} {k : Nat} {v : Int} (h0 : w1.cell? ⟨k, 0, none⟩ = some (.int .i64 4)) (h1 : w1.cell? ⟨k, 1, none⟩ = some (.int .i64 20)) (h2 : w1.cell? ⟨k, 2, none⟩ = some (.int .i64 250)) (hv0 : 0 ≤ v) (hv1 : v < 3) :
    ∃ high : Int, 1 ≤ high ∧ high ≤ 250 ∧ w1.cell? ⟨k, v.toNat, none⟩ = some (.int .i64 high) := by
  have : v = 0 ∨ v = 1 ∨ v = 2 := by omega
  rcases this with rfl | rfl | rfl
  · exact ⟨4, by omega, by omega, h0⟩
  · exact ⟨20, by omega, by omega, h1⟩
  · exact ⟨250, by omega, by omega, h2⟩

/-- what a fraction drawn leaves -/
def Fracd (n : Nat) (w : World) (a : Option Addr) (len cap : Nat) (zs : List Int) (p : Int) (e : Ending) (w' : World) : Prop :=
  ∃ u d p' : Int, e = .returned (.agg #[.int .i64 u, .int .i64 d]) ∧ -1000000001 ≤ u ∧ u ≤ 1000000001 ∧ -1000000001 ≤ d ∧ d ≤ 1000000001 ∧ p ≤ p' ∧ p' ≤ p + 10 ∧ Kept n w w' ∧ Reader n w' a len cap zs p'

end Go.Proofs.Ytlkjpmdnhccdpab

namespace Go.Proofs.Ytlkjpmdnhccdpab
set_option linter.unusedSimpArgs false
set_option linter.unusedVariables false
open Go.RowKit

/-- what an opened code leaves: a reader at place 0, in a new block -/
def Opened (w : World) (e : Ending) (w' : World) : Prop :=
  e = .returned (.pointer (some ⟨w.heap.size, 0, none⟩)) ∧ Below w.heap.size w w' ∧ ∃ (a : Option Addr) (len cap : Nat) (zs : List Int), Reader w.heap.size w' a len cap zs 0

theorem u8_in {z : Int} (h : (Lit.int .u8 z).wf = true) : 0 ≤ z ∧ z ≤ 255 := by simpa [Lit.wf, IntKind.min, IntKind.max, IntKind.signed, IntKind.bits] using h

theorem bytes_of {w : World} {x : Addr} {len cap : Nat} {zs : List Int} (hl : len ≤ cap) (hz : zs.length = cap) (h0 : 0 < len)
    (hcell : ∀ i, i < zs.length → w.cell? (x.add i) = some (.int .u8 (zs.getD i 0))) (hwz : ∀ n ∈ zs, (Lit.int .u8 n).wf = true) : ∃ b off, x = ⟨b, off, none⟩ ∧ ∀ k, k ≤ len → Bytes w.heap.size w (some ⟨b, off, none⟩) k zs := by
  obtain ⟨b, off, spot⟩ := x
  have hc := hcell 0 (by omega)
  have hspot : spot = none := by simpa [Addr.add] using World.cell?_spot hc
  subst hspot
  refine ⟨b, off, rfl, fun k hk => ?_⟩
  refine .inr ⟨b, off, rfl, ?_, fun i hi => ?_⟩
  · have := World.block_lt_of_cell? w _ hc; simpa [Addr.add] using this
  · have h1 := hcell i (by omega)
    have h2 : zs.getD i 0 ∈ zs := by
      rw [List.getD_eq_getElem?_getD, List.getElem?_eq_getElem (by omega)]; exact List.getElem_mem _
    have e : (Addr.add ⟨b, off, none⟩ i) = ⟨b, off + i, none⟩ := by
      by_cases hi0 : i = 0
      · subst hi0; simp [Addr.add]
      · simp [Addr.add, hi0]
    rw [e] at h1
    exact ⟨h1, u8_in (hwz _ h2)⟩

/-- what a drawn fraction is -/
def Drawn1 (w : World) (e : Ending) (w' : World) : Prop :=
  ∃ u d : Int, e = .returned (.agg #[.int .i64 u, .int .i64 d]) ∧ -1000000001 ≤ u ∧ u ≤ 1000000001 ∧ -1000000001 ≤ d ∧ d ≤ 1000000001 ∧ Below w.heap.size w w'

/-- what two drawn fractions are -/
def Drawn2 (w : World) (e : Ending) (w' : World) : Prop :=
  ∃ u d u' d' : Int, e = .returned (.tuple #[.agg #[.int .i64 u, .int .i64 d], .agg #[.int .i64 u', .int .i64 d']]) ∧ -1000000001 ≤ u ∧ u ≤ 1000000001 ∧ -1000000001 ≤ d ∧ d ≤ 1000000001 ∧ -1000000001 ≤ u' ∧ u' ≤ 1000000001 ∧ -1000000001 ≤ d' ∧ d' ≤ 1000000001 ∧ Below w.heap.size w w'

/-- what two drawn numbers are -/
def DrawnN (w : World) (e : Ending) (w' : World) : Prop :=
  ∃ u d : Int, e = .returned (.tuple #[.int .i64 u, .int .i64 d]) ∧ -1000 ≤ u ∧ u ≤ 1000 ∧ -1000 ≤ d ∧ d ≤ 2000001000 ∧ Below w.heap.size w w'

theorem IsRow.below {k : IntKind} {w w' : World} {a : Option Addr} {len cap : Nat} {zs : List Int} (h : IsRow k w a len cap zs) (hb : Below w.heap.size w w') : IsRow k w' a len cap zs := by
  rcases h with h | ⟨x, h1, h2, h3, h4, h5, h6⟩
  · exact .inl h
  · exact .inr ⟨x, h1, h2, h3, h4, fun i hi => (hb.cell (World.block_lt_of_cell? w _ (h5 i hi))).trans (h5 i hi), h6⟩

theorem stays2 {W w1 w2 : World} {p o : Nat} {a : Value} (hp : p < W.heap.size) (h : W.cell? ⟨p, o, none⟩ = some a) (hb : Below W.heap.size W w1) (hk : Kept W.heap.size w1 w2) : w2.cell? ⟨p, o, none⟩ = some a :=
  (hk.cell (Nat.lt_of_lt_of_le hp hb.size) (Nat.ne_of_lt hp)).trans ((hb.cell (p := ⟨p, o, none⟩) hp).trans h)

theorem stays2F {W w1 w2 : World} {p o : Nat} {b : Bool} (hp : p < W.heap.size) (h : W.frozen? ⟨p, o, none⟩ = b) (hb : Below W.heap.size W w1) (hk : Kept W.heap.size w1 w2) : w2.frozen? ⟨p, o, none⟩ = b :=
  (hk.frozen (Nat.lt_of_lt_of_le hp hb.size) (Nat.ne_of_lt hp)).trans ((hb.frozen (p := ⟨p, o, none⟩) hp).trans h)

theorem times01 {x t : Int} (h : t = 0 ∨ t = 1) (h1 : -39 ≤ x) (h2 : x ≤ 39) : -39 ≤ x * t ∧ x * t ≤ 39 := by
  rcases h with rfl | rfl <;> omega

end Go.Proofs.Ytlkjpmdnhccdpab

namespace Go.Proofs.Ytlkjpmdnhccdpab
set_option linter.unusedSimpArgs false
set_option linter.unusedVariables false
open Go.RowKit

theorem Reader.lt_ {n : Nat} {w : World} {a : Option Addr} {len cap : Nat} {zs : List Int} {p : Int} (h : Reader n w a len cap zs p) : n < w.heap.size := h.lt

/-- a reader stays where its block and what lies before it stay -/
theorem Reader.of_blocks {n : Nat} {w w' : World} {a : Option Addr} {len cap : Nat} {zs : List Int} {p : Int} (h : Reader n w a len cap zs p) (hk : ∀ b, b ≤ n → w'.heap[b]? = w.heap[b]?) (hs : w.heap.size ≤ w'.heap.size) : Reader n w' a len cap zs p :=
  ⟨(World.cell?_of_block (w := w) (hk n (Nat.le_refl _))).trans h.code, (World.cell?_of_block (w := w) (hk n (Nat.le_refl _))).trans h.place, (World.frozen?_of_block (w := w) (hk n (Nat.le_refl _))).trans h.free,
    Nat.lt_of_lt_of_le h.lt hs, h.len_le, h.p_lo, h.p_hi, by
      rcases h.bytes with h | ⟨b, off, ha, hlt, hc⟩
      · exact .inl h
      · exact .inr ⟨b, off, ha, hlt, fun i hi => ⟨(World.cell?_of_block (w := w) (hk b (Nat.le_of_lt hlt))).trans (hc i hi).1, (hc i hi).2⟩⟩⟩

theorem Reader.below {n B : Nat} {w w' : World} {a : Option Addr} {len cap : Nat} {zs : List Int} {p : Int} (h : Reader n w a len cap zs p) (hb : Below B w w') (hn : n < B) : Reader n w' a len cap zs p :=
  h.of_blocks (fun b hb' => hb.block b (by omega)) hb.size

theorem Kept.of_lo {n B : Nat} {w w' : World} (h : Below B w w') (hB : w.heap.size ≤ B) : Kept n w w' := ⟨h.os, h.tape, h.output, h.size, fun k hk _ => h.block k (by omega)⟩

/-- what a call owns from lo on stays where only block n < lo may turn -/
theorem Grows.kept {n : Nat} {w w' : World} {base : Nat} {v : Value} {l : List Int} (h : Grows w base v l) (hk : Kept n w w') (hn : n < base) : Grows w' base v l :=
  ownsRow_of_block h fun k hk' => hk.block k (World.ownsRow.lt h k hk').2 (by have := (World.ownsRow.lt h k hk').1; omega)

theorem OwnI.kept {n : Nat} {w w' : World} {lo hi : Nat} {A : Option Addr} {l : List Int} (h : OwnI w lo hi A l) (hk : Kept n w w') (hn : n < lo) (hh : hi ≤ w.heap.size) : OwnI w' lo hi A l := h.keep fun b h1 h2 => hk.block b (by omega) (by omega)

theorem OwnR.kept {n : Nat} {w w' : World} {lo hi : Nat} {A : Option Addr} {g : List (List Int)} (h : OwnR w lo hi A g) (hk : Kept n w w') (hn : n < lo) (hh : hi ≤ w.heap.size) : OwnR w' lo hi A g := h.keep fun b h1 h2 => hk.block b (by omega) (by omega)

theorem GrowsR.kept {n : Nat} {w w' : World} {base hi : Nat} {v : Value} {A : Nat → Option Addr} {C : Nat → Nat} {g : List (List Int)} (h : GrowsR w base hi v A C g) (hk : Kept n w w') (hn : n < base) : GrowsR w' base hi v A C g :=
  ⟨ownsRow_of_block h.top fun k hk' => hk.block k (World.ownsRow.lt h.top k hk').2 (by have := (World.ownsRow.lt h.top k hk').1; omega),
    h.rows.keep fun b h1 h2 => hk.block b (by have := h.hile; omega) (by omega), h.hib, Nat.le_trans h.hile hk.size⟩

/-- behind an append to what the call owns -/
theorem Kept.appended {n : Nat} {a w w1 : World} {v : Value} {o : Obj} (h : Kept n a w) (hg : (w.alloc o).grownBy w1 v.ownBlock) (hv : ∀ k, v.ownBlock = some k → a.heap.size ≤ k) : Kept n a w1 :=
  ⟨hg.os.trans h.os, hg.tape.trans h.tape, hg.output.trans h.output, Nat.le_trans h.size (Nat.le_trans (by simp) hg.size), fun k hk hn => by
    have hs := h.size
    rw [hg.block k (by simp; omega) (fun e => by have := hv k e.symm; omega), Below.heap_alloc _ _ _ (by omega)]; exact h.block k hk hn⟩

theorem Reader.appended {n : Nat} {w w1 : World} {v : Value} {o : Obj} {a : Option Addr} {len cap : Nat} {zs : List Int} {p : Int} (h : Reader n w a len cap zs p) (hg : (w.alloc o).grownBy w1 v.ownBlock) (hv : ∀ k, v.ownBlock = some k → n < k) : Reader n w1 a len cap zs p :=
  h.of_blocks (fun b hb => by
    have := h.lt
    rw [hg.block b (by simp; omega) (fun e => by have := hv b e.symm; omega), Below.heap_alloc _ _ _ (by omega)]) (Nat.le_trans (by simp) hg.size)

theorem Grows.lo {w : World} {base : Nat} {v : Value} {l : List Int} (h : Grows w base v l) : ∀ k, v.ownBlock = some k → base ≤ k := fun k hk => (World.ownsRow.lt h k hk).1

theorem GrowsR.lo {w : World} {base hi : Nat} {v : Value} {A : Nat → Option Addr} {C : Nat → Nat} {g : List (List Int)} (h : GrowsR w base hi v A C g) : ∀ k, v.ownBlock = some k → base ≤ k := fun k hk => (World.ownsRow.lt h.top k hk).1

/-- while a table is drawn: k rows of so many numbers are there -/
def TabSt (n : Nat) (w : World) (a : Option Addr) (len cap : Nat) (zs : List Int) (p : Int) (cols : Nat) (v : Value) (k : Nat) (wr : World) : Prop :=
  ∃ (g : List (List Int)) (A : Nat → Option Addr) (C : Nat → Nat) (p' : Int), g.length = k ∧ (∀ i, i < k → (rowAt g i).length = cols) ∧ GrowsR wr w.heap.size wr.heap.size v A C g ∧ Kept n w wr ∧ Reader n wr a len cap zs p' ∧ p ≤ p' ∧ p' ≤ p + 32 * (k : Int)

/-- while a row is drawn -/
def RowSt (n : Nat) (wo : World) (a : Option Addr) (len cap : Nat) (zs : List Int) (p : Int) (v : Value) (m : Nat) (wr : World) : Prop :=
  ∃ (l : List Int) (p' : Int), l.length = m ∧ Grows wr wo.heap.size v l ∧ Kept n wo wr ∧ Reader n wr a len cap zs p' ∧ p ≤ p' ∧ p' ≤ p + 2 * (m : Int)

/-- what a table drawn is -/
def DrawnG (n : Nat) (w : World) (a : Option Addr) (len cap : Nat) (zs : List Int) (p : Int) (e : Ending) (w' : World) : Prop :=
  ∃ (g : List (List Int)) (T : Option Addr) (c : Nat) (p' : Int), e = .returned (.slice T g.length c) ∧ g.length ≤ c ∧ c ≤ maxLen ∧ g.length ≤ 17 ∧ (∀ i, i < g.length → (rowAt g i).length ≤ 16) ∧
    Kept n w w' ∧ Reader n w' a len cap zs p' ∧ p ≤ p' ∧ p' ≤ p + 600 ∧ OwnR w' w.heap.size w'.heap.size T g

/-- one of three numbers -/
theorem tab3' {w1 : World} {k : Nat} {v : Int} (h0 : w1.cell? ⟨k, 0, none⟩ = some (.int .i64 2)) (h1 : w1.cell? ⟨k, 1, none⟩ = some (.int .i64 3)) (h2 : w1.cell? ⟨k, 2, none⟩ = some (.int .i64 10)) (hv0 : 0 ≤ v) (hv1 : v < 3) :
    ∃ high : Int, 1 ≤ high ∧ high ≤ 10 ∧ w1.cell? ⟨k, v.toNat, none⟩ = some (.int .i64 high) := by
  have : v = 0 ∨ v = 1 ∨ v = 2 := by omega
  rcases this with rfl | rfl | rfl
  · exact ⟨2, by omega, by omega, h0⟩
  · exact ⟨3, by omega, by omega, h1⟩
  · exact ⟨10, by omega, by omega, h2⟩

theorem tab2 {v : Int} (h0 : 0 ≤ v) (h1 : v < 2) : ∃ y : Int, (∀ (w : World) (k : Nat), w.cell? ⟨k, 0, none⟩ = some (.int .i64 (-10)) → w.cell? ⟨k, 1, none⟩ = some (.int .i64 10) → w.cell? ⟨k, v.toNat, none⟩ = some (.int .i64 y)) ∧
    ([Value.int .i64 (-10), Value.int .i64 10] : List Value)[v.toNat]? = some (.int .i64 y) := by
  have : v = 0 ∨ v = 1 := by omega
  rcases this with rfl | rfl
  · exact ⟨-10, fun w k h _ => h, rfl⟩
  · exact ⟨10, fun w k _ h => h, rfl⟩

/-- the first number of a table is written over -/
def poke (g : List (List Int)) (x : Int) : List (List Int) := g.set 0 ((rowAt g 0).set 0 x)

theorem poke_length (g : List (List Int)) (x : Int) : (poke g x).length = g.length := by simp [poke]

theorem rowAt_poke (g : List (List Int)) (x : Int) (i : Nat) (h : i < g.length) : rowAt (poke g x) i = if i = 0 then (rowAt g 0).set 0 x else rowAt g i := by
  unfold poke
  by_cases e : i = 0
  · subst e; rw [if_pos rfl, rowAt_eq _ _ (by simpa using h)]; simp
  · rw [if_neg e, rowAt_eq _ _ (by simpa using h), rowAt_eq _ _ h]; simp [List.getElem_set, Ne.symm e]

theorem nth_set (l : List Int) (x : Int) (i : Nat) (h : i < l.length) : nth (l.set 0 x) i = if i = 0 then x else nth l i := by
  by_cases e : i = 0
  · subst e; rw [if_pos rfl, nth_eq _ _ (by simpa using h)]; simp
  · rw [if_neg e, nth_eq _ _ (by simpa using h), nth_eq _ _ h]; simp [List.getElem_set, Ne.symm e]

theorem poke_row_length (g : List (List Int)) (x : Int) (i : Nat) (h : i < g.length) : (rowAt (poke g x) i).length = (rowAt g i).length := by
  rw [rowAt_poke g x i h]
  split
  · rename_i e; subst e; simp
  · rfl

theorem OwnR.poke {w : World} {lo hi : Nat} {b0 : Nat} {T : Option Addr} {g : List (List Int)} {c : Nat} (h : OwnR w lo hi T g) (h0 : 0 < g.length) (hr : 0 < (rowAt g 0).length) (x : Int)
    (hT : ∀ b, T = some ⟨b, 0, none⟩ → w.cell? ⟨b, 0, none⟩ = some (.slice (some ⟨b0, 0, none⟩) (rowAt g 0).length c)) : OwnR (w.setCell ⟨b0, 0, none⟩ (.int .i64 x)) lo hi T (poke g x) := by
  obtain ⟨b, N, f, A, C, rfl, h1, h2, h3, h4, h5, h6⟩ := h h0
  have hA0 : A 0 = some ⟨b0, 0, none⟩ := by
    have e1 := hT b rfl
    rw [h4.cell (by omega), h5 0 h0] at e1
    injection e1 with e1; injection e1
  obtain ⟨b0', N0, f0, e0, k1, k2, k3, k4, k5⟩ := h6.own 0 h0 hr
  rw [hA0] at e0; injection e0 with e0; injection e0 with e0; subst e0
  intro _
  refine ⟨b, N, f, A, C, rfl, h1, h2, by rw [poke_length]; exact h3, h4.setOther (Ne.symm (rowIs_ne' k3 h4)) _, fun i hi => ?_, ⟨fun i hi => ?_, fun i hi => ?_, fun i j hi hj hne p q => ?_⟩⟩
  · rw [poke_length] at hi; rw [poke_row_length g x i hi]; exact h5 i hi
  · rw [poke_length] at hi; rw [poke_row_length g x i hi]; exact h6.cap i hi
  · rw [poke_length] at hi
    by_cases e : i = 0
    · subst e
      intro _
      refine ⟨b0, N0, _, hA0, k1, k2, k3.set 0 _, by rw [poke_row_length g x 0 hi]; exact k4, fun j hj => ?_⟩
      rw [poke_row_length g x 0 hi] at hj
      rw [rowAt_poke g x 0 hi, if_pos rfl, nth_set _ _ _ hj]
      by_cases ej : j = 0
      · rw [if_pos ej, if_pos ej]
      · rw [if_neg ej, if_neg ej]; exact k5 j hj
    · rw [rowAt_poke g x i hi, if_neg e]
      intro hp
      obtain ⟨bi, Ni, fi, ei, m1, m2, m3, m4, m5⟩ := h6.own i hi hp
      refine ⟨bi, Ni, fi, ei, m1, m2, m3.setOther (fun e' => ?_) _, m4, m5⟩
      exact h6.apart i 0 hi h0 e hp hr (by rw [ei, hA0, show bi = b0 from e'])
  · rw [poke_length] at hi hj
    rw [poke_row_length g x i hi] at p
    rw [poke_row_length g x j hj] at q
    exact h6.apart i j hi hj hne p q

end Go.Proofs.Ytlkjpmdnhccdpab

namespace Go.Proofs.Ytlkjpmdnhccdpab
set_option linter.unusedSimpArgs false
set_option linter.unusedVariables false
open Go.RowKit



end Go.Proofs.Ytlkjpmdnhccdpab

namespace Go.Proofs.Ytlkjpmdnhccdpab
set_option linter.unusedSimpArgs false
set_option linter.unusedVariables false
open Go.RowKit

/-- what a drawn list is -/
def DrawnM (n : Nat) (w : World) (a : Option Addr) (len cap : Nat) (zs : List Int) (p : Int) (M : Nat) (e : Ending) (w' : World) : Prop :=
  ∃ (l : List Int) (A : Option Addr) (c : Nat) (p' : Int), e = .returned (.slice A l.length c) ∧ l.length ≤ M + 1 ∧ Kept n w w' ∧ Reader n w' a len cap zs p' ∧ p ≤ p' ∧ p' ≤ p + 2 * (M : Int) + 5 ∧ OwnI w' w.heap.size w'.heap.size A l

/-- while a list is drawn -/
def MixSt (n : Nat) (w : World) (a : Option Addr) (len cap : Nat) (zs : List Int) (p : Int) (v : Value) (k : Nat) (wr : World) : Prop :=
  ∃ (l : List Int) (p' : Int), l.length = k ∧ Grows wr w.heap.size v l ∧ Kept n w wr ∧ Reader n wr a len cap zs p' ∧ p ≤ p' ∧ p' ≤ p + 2 * (k : Int)

theorem vals_set (l : List Int) (i : Nat) (x : Int) : vals (l.set i x) = (vals l).set i (.int .i64 x) := by simp [vals, List.map_set]

theorem Grows.stored {w : World} {base b cap : Nat} {l : List Int} (h : Grows w base (.slice (some ⟨b, 0, none⟩) l.length cap) l) (i : Nat) (x : Int) :
    Grows (w.setCell ⟨b, i, none⟩ (.int .i64 x)) base (.slice (some ⟨b, 0, none⟩) (l.set i x).length cap) (l.set i x) := by
  have := (World.ownsRow.stored h i (.int .i64 x)).1
  unfold Grows
  rw [List.length_set, vals_set]
  exact this

end Go.Proofs.Ytlkjpmdnhccdpab

namespace Go.Proofs.Ytlkjpmdnhccdpab
set_option linter.unusedSimpArgs false
set_option linter.unusedVariables false
open Go.RowKit

/-- what a drawn table is -/
def DrawnT (w : World) (e : Ending) (w' : World) : Prop :=
  ∃ (g : List (List Int)) (T : Option Addr) (c : Nat), e = .returned (.slice T g.length c) ∧ g.length ≤ c ∧ c ≤ maxLen ∧ g.length ≤ 17 ∧ (∀ i, i < g.length → (rowAt g i).length ≤ 16) ∧ Below w.heap.size w w' ∧ OwnR w' w.heap.size w'.heap.size T g

theorem DrawnT.of {w w1 : World} {a : Option Addr} {len cap : Nat} {zs : List Int} {e : Ending} {w' : World} (hb : Below w.heap.size w w1) (hR : Reader w.heap.size w1 a len cap zs 0) (h : DrawnG w.heap.size w1 a len cap zs 0 e w') : DrawnT w e w' := by
  obtain ⟨g, T, c, p', he, h1, h2, h3, h4, hK, _, _, _, ho⟩ := h
  exact ⟨g, T, c, he, h1, h2, h3, h4, hb.trans (hK.below (Nat.le_refl _) hb.size), ho.more hb.size (Nat.le_refl _)⟩

end Go.Proofs.Ytlkjpmdnhccdpab

namespace Go.Proofs.Ytlkjpmdnhccdpab
set_option linter.unusedSimpArgs false
set_option linter.unusedVariables false
open Go.RowKit

/-- what a table and two lists drawn by a reader are -/
def DrawnX (n : Nat) (w : World) (a : Option Addr) (len cap : Nat) (zs : List Int) (p : Int) (e : Ending) (w' : World) : Prop :=
  ∃ (g : List (List Int)) (x y : List Int) (T A B : Option Addr) (c d f : Nat) (p' : Int), e = .returned (.tuple #[.slice T g.length c, .slice A x.length d, .slice B y.length f]) ∧ g.length ≤ 17 ∧ (∀ i, i < g.length → (rowAt g i).length ≤ 16) ∧ x.length ≤ 18 ∧ y.length ≤ 18 ∧
    Kept n w w' ∧ Reader n w' a len cap zs p' ∧ p ≤ p' ∧ p' ≤ p + 700 ∧ OwnR w' w.heap.size w'.heap.size T g ∧ OwnI w' w.heap.size w'.heap.size A x ∧ OwnI w' w.heap.size w'.heap.size B y

end Go.Proofs.Ytlkjpmdnhccdpab

namespace Go.Proofs.Ytlkjpmdnhccdpab
set_option linter.unusedSimpArgs false
set_option linter.unusedVariables false
open Go.RowKit

/-- what is drawn: a table and two lists -/
def DrawnXT (w : World) (e : Ending) (w' : World) : Prop :=
  ∃ (g : List (List Int)) (x y : List Int) (T A B : Option Addr) (c d f : Nat), e = .returned (.tuple #[.slice T g.length c, .slice A x.length d, .slice B y.length f]) ∧ g.length ≤ 17 ∧ (∀ i, i < g.length → (rowAt g i).length ≤ 16) ∧ x.length ≤ 18 ∧ y.length ≤ 18 ∧
    Below w.heap.size w w' ∧ Rows2 w' (· < w'.heap.size) T g ∧ Ints w' (· < w'.heap.size) A x ∧ Ints w' (· < w'.heap.size) B y

/-- a table and one list -/
def DrawnXO (w : World) (e : Ending) (w' : World) : Prop :=
  ∃ (g : List (List Int)) (x : List Int) (T A : Option Addr) (c d : Nat), e = .returned (.tuple #[.slice T g.length c, .slice A x.length d]) ∧ g.length ≤ 17 ∧ (∀ i, i < g.length → (rowAt g i).length ≤ 16) ∧ x.length ≤ 18 ∧
    Below w.heap.size w w' ∧ Rows2 w' (· < w'.heap.size) T g ∧ Ints w' (· < w'.heap.size) A x

/-- a list and a number -/
def DrawnXM (w : World) (e : Ending) (w' : World) : Prop :=
  ∃ (x : List Int) (A : Option Addr) (d : Nat) (m : Int), e = .returned (.tuple #[.slice A x.length d, .int .i64 m]) ∧ x.length ≤ 18 ∧ Below w.heap.size w w' ∧ Ints w' (· < w'.heap.size) A x

theorem own_lt {w : World} {lo hi : Nat} {A : Option Addr} {l : List Int} (h : OwnI w lo hi A l) : Ints w (· < hi) A l := h.ints.mono fun _ h => h.2

theorem ownR_lt {w : World} {lo hi : Nat} {A : Option Addr} {g : List (List Int)} (h : OwnR w lo hi A g) : Rows2 w (· < hi) A g := h.rows2.mono fun _ h => h.2

end Go.Proofs.Ytlkjpmdnhccdpab

namespace Go.Proofs.Ytlkjpmdnhccdpab
set_option linter.unusedSimpArgs false
set_option linter.unusedVariables false
open Go.RowKit

/-- a row of numbers with one of them set -/
theorem rowIs_ints {w : World} {b N : Nat} {l : List Int} (h : w.rowIs b 3 N (fun i => .int .i64 (nth l i))) (hl : l.length ≤ N) : Ints w (fun k => k = b) (some ⟨b, 0, none⟩) l :=
  fun _ => ⟨b, 0, rfl, rfl, fun i hi => by rw [Nat.zero_add]; exact h.cell (by omega)⟩

/-- all 0 but one -/
def oneAt (m i : Nat) (x : Int) : List Int := (List.replicate m 0).set i x

theorem oneAt_length (m i : Nat) (x : Int) : (oneAt m i x).length = m := by simp [oneAt]

theorem nth_oneAt (m i k : Nat) (x : Int) (h : k < m) : nth (oneAt m i x) k = if k = i then x else 0 := by
  rw [nth_eq _ _ (by rw [oneAt_length]; exact h)]
  unfold oneAt
  rw [List.getElem_set]
  by_cases e : i = k
  · subst e; simp
  · rw [if_neg e, if_neg (fun e' => e e'.symm)]; simp

theorem oneAt_row {w : World} {b m i : Nat} {x : Int} (h : w.rowIs b 3 m (fun _ => .int .i64 0)) : (w.setCell ⟨b, i, none⟩ (.int .i64 x)).rowIs b 3 m (fun k => .int .i64 (nth (oneAt m i x) k)) :=
  (h.set i _).congr (fun k hk => by
    rw [nth_oneAt m i k x hk]
    by_cases e : k = i
    · rw [if_pos e, if_pos e]
    · rw [if_neg e, if_neg e])

/-- two rows of 0, of the call's own; the first one, then both with one number set -/
structure SetSt (W wx : World) (n m : Nat) (f h : Nat → Value) : Prop where
  bel : Below W.heap.size W wx
  size : wx.heap.size = W.heap.size + 2
  one : wx.rowIs W.heap.size 3 n f
  two : wx.rowIs (W.heap.size + 1) 3 m h

theorem SetSt.start (W : World) (n m : Nat) : SetSt W ((W.alloc (.cells (madeCells #[.int .i64 0] n) 3)).alloc (.cells (madeCells #[.int .i64 0] m) 3)) n m (fun _ => .int .i64 0) (fun _ => .int .i64 0) := by
  refine ⟨((Below.refl _ _).alloc (Nat.le_refl _) _).alloc (by simp) _, by simp, (World.rowIs_made W _ n _).alloc _, ?_⟩
  have := World.rowIs_made (W.alloc (.cells (madeCells #[.int .i64 0] n) 3)) (.int .i64 0) m 3
  simpa using this

theorem SetSt.set1 {W wx : World} {n m : Nat} {h : Nat → Value} (s : SetSt W wx n m (fun _ => .int .i64 0) h) (i : Nat) (x : Int) : SetSt W (wx.setCell ⟨W.heap.size, i, none⟩ (.int .i64 x)) n m (fun k => .int .i64 (nth (oneAt n i x) k)) h :=
  ⟨s.bel.setCell (Nat.le_refl _) _, by simp [World.setCell, s.size], oneAt_row s.one, s.two.setOther (by show W.heap.size + 1 ≠ W.heap.size; omega) _⟩

theorem SetSt.set2 {W wx : World} {n m : Nat} {f : Nat → Value} (s : SetSt W wx n m f (fun _ => .int .i64 0)) (i : Nat) (x : Int) : SetSt W (wx.setCell ⟨W.heap.size + 1, i, none⟩ (.int .i64 x)) n m f (fun k => .int .i64 (nth (oneAt m i x) k)) :=
  ⟨s.bel.setCell (by show W.heap.size ≤ W.heap.size + 1; omega) _, by simp [World.setCell, s.size], s.one.setOther (by show W.heap.size ≠ W.heap.size + 1; omega) _, oneAt_row s.two⟩

theorem SetSt.drew {W wx : World} {n m : Nat} {f h : Nat → Value} (s : SetSt W wx n m f h) : SetSt W wx.drew n m f h := ⟨s.bel.drew, s.size, s.one, s.two⟩

end Go.Proofs.Ytlkjpmdnhccdpab

namespace Go.Proofs.Ytlkjpmdnhccdpab
set_option linter.unusedSimpArgs false
set_option linter.unusedVariables false
open Go.RowKit

theorem lit_row (w : World) (x y z : Int) : IntRow (w.alloc (.cells #[.int .i64 x, .int .i64 y, .int .i64 z] 3)) w.heap.size [x, y, z] :=
  World.rowIs_alloc w #[.int .i64 x, .int .i64 y, .int .i64 z] _ _ (fun i hi => by
    have : i = 0 ∨ i = 1 ∨ i = 2 := by simp at hi; omega
    rcases this with rfl | rfl | rfl <;> rfl)

theorem own3 {W : World} {lo hi b0 b1 b2 bt : Nat} {r0 r1 r2 : List Int} (h0 : IntRow W b0 r0) (h1 : IntRow W b1 r1) (h2 : IntRow W b2 r2) (l0 : r0.length = 3) (l1 : r1.length = 3) (l2 : r2.length = 3)
    (k0 : lo ≤ b0 ∧ b0 < hi) (k1 : lo ≤ b1 ∧ b1 < hi) (k2 : lo ≤ b2 ∧ b2 < hi) (kt : lo ≤ bt ∧ bt < hi) (d1 : b0 ≠ b1) (d2 : b0 ≠ b2) (d3 : b1 ≠ b2)
    (ht : W.rowIs bt 61 3 (fun i => if i = 0 then .slice (some ⟨b0, 0, none⟩) 3 3 else if i = 1 then .slice (some ⟨b1, 0, none⟩) 3 3 else .slice (some ⟨b2, 0, none⟩) 3 3)) :
    OwnR W lo hi (some ⟨bt, 0, none⟩) [r0, r1, r2] := by
  have own : ∀ {b : Nat} {r : List Int}, IntRow W b r → lo ≤ b ∧ b < hi → OwnI W lo hi (some ⟨b, 0, none⟩) r := fun {b r} h hk _ => ⟨b, r.length, _, rfl, hk.1, hk.2, h, Nat.le_refl _, fun _ _ => rfl⟩
  intro _
  refine ⟨bt, 3, _, fun i => if i = 0 then some ⟨b0, 0, none⟩ else if i = 1 then some ⟨b1, 0, none⟩ else some ⟨b2, 0, none⟩, fun _ => 3, rfl, kt.1, kt.2, by simp, ht, fun i hi => ?_, ⟨fun i hi => ?_, fun i hi => ?_, fun i j hi hj hne _ _ => ?_⟩⟩
  · have : i = 0 ∨ i = 1 ∨ i = 2 := by simp at hi; omega
    rcases this with rfl | rfl | rfl
    · show _ = Value.slice _ r0.length 3; rw [l0]; rfl
    · show _ = Value.slice _ r1.length 3; rw [l1]; rfl
    · show _ = Value.slice _ r2.length 3; rw [l2]; rfl
  · have : i = 0 ∨ i = 1 ∨ i = 2 := by simp at hi; omega
    rcases this with rfl | rfl | rfl
    · exact ⟨Nat.le_of_eq l0, by decide⟩
    · exact ⟨Nat.le_of_eq l1, by decide⟩
    · exact ⟨Nat.le_of_eq l2, by decide⟩
  · have : i = 0 ∨ i = 1 ∨ i = 2 := by simp at hi; omega
    rcases this with rfl | rfl | rfl
    · exact own h0 k0
    · exact own h1 k1
    · exact own h2 k2
  · have hi' : i = 0 ∨ i = 1 ∨ i = 2 := by simp at hi; omega
    have hj' : j = 0 ∨ j = 1 ∨ j = 2 := by simp at hj; omega
    rcases hi' with rfl | rfl | rfl <;> rcases hj' with rfl | rfl | rfl <;> first | exact absurd rfl hne | (simp; done) | (simp; omega)

theorem top3 (w : World) (v0 v1 v2 : Value) : (w.alloc (.cells #[v0, v1, v2] 61)).rowIs w.heap.size 61 3 (fun i => if i = 0 then v0 else if i = 1 then v1 else v2) :=
  World.rowIs_alloc w #[v0, v1, v2] _ _ (fun i hi => by
    have : i = 0 ∨ i = 1 ∨ i = 2 := by simp at hi; omega
    rcases this with rfl | rfl | rfl <;> rfl)

/-- what a drawn table is, one place more of the reader -/
def DrawnF (n : Nat) (w : World) (a : Option Addr) (len cap : Nat) (zs : List Int) (p : Int) (e : Ending) (w' : World) : Prop :=
  ∃ (g : List (List Int)) (T : Option Addr) (c : Nat) (p' : Int), e = .returned (.slice T g.length c) ∧ g.length ≤ c ∧ c ≤ maxLen ∧ g.length ≤ 17 ∧ (∀ i, i < g.length → (rowAt g i).length ≤ 16) ∧
    Kept n w w' ∧ Reader n w' a len cap zs p' ∧ p ≤ p' ∧ p' ≤ p + 700 ∧ OwnR w' w.heap.size w'.heap.size T g

theorem len3 {r0 r1 r2 : List Int} (l0 : r0.length = 3) (l1 : r1.length = 3) (l2 : r2.length = 3) : ∀ i, i < [r0, r1, r2].length → (rowAt [r0, r1, r2] i).length ≤ 16 := fun i hi => by
  have : i = 0 ∨ i = 1 ∨ i = 2 := by simp at hi; omega
  rcases this with rfl | rfl | rfl
  · show r0.length ≤ 16; omega
  · show r1.length ≤ 16; omega
  · show r2.length ≤ 16; omega

theorem szA (w : World) (o : Obj) : (w.alloc o).heap.size = w.heap.size + 1 := by simp

theorem DrawnT.ofF {w w1 : World} {a : Option Addr} {len cap : Nat} {zs : List Int} {e : Ending} {w' : World} (hb : Below w.heap.size w w1) (h : DrawnF w.heap.size w1 a len cap zs 0 e w') : DrawnT w e w' := by
  obtain ⟨g, T, c, p', he, h1, h2, h3, h4, hK, _, _, _, ho⟩ := h
  exact ⟨g, T, c, he, h1, h2, h3, h4, hb.trans (hK.below (Nat.le_refl _) hb.size), ho.more hb.size (Nat.le_refl _)⟩

/-- a drawn table and a number -/
def DrawnTI (w : World) (e : Ending) (w' : World) : Prop :=
  ∃ (g : List (List Int)) (T : Option Addr) (c : Nat) (b : Int), e = .returned (.tuple #[.slice T g.length c, .int .i64 b]) ∧ g.length ≤ c ∧ c ≤ maxLen ∧ g.length ≤ 17 ∧ (∀ i, i < g.length → (rowAt g i).length ≤ 16) ∧ -4 ≤ b ∧ b ≤ 14 ∧ Below w.heap.size w w' ∧ OwnR w' w.heap.size w'.heap.size T g

/-- a drawn table and two numbers -/
def DrawnTII (w : World) (e : Ending) (w' : World) : Prop :=
  ∃ (g : List (List Int)) (T : Option Addr) (c : Nat) (r q : Int), e = .returned (.tuple #[.slice T g.length c, .int .i64 r, .int .i64 q]) ∧ g.length ≤ c ∧ c ≤ maxLen ∧ g.length ≤ 17 ∧ (∀ i, i < g.length → (rowAt g i).length ≤ 16) ∧ Below w.heap.size w w' ∧ OwnR w' w.heap.size w'.heap.size T g

end Go.Proofs.Ytlkjpmdnhccdpab
