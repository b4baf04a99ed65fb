/- The walks of what draws: the reader of a code, its numbers. (Written by wip/gen/draw.py.) -/
import Derived.Test.YtjojilimdhekfaaAll
import Derived.Test.YtjojilimdhekfaaLiftK
import Derived.Laws.Bits64
namespace Go.Proofs.Ytjojilimdhekfaa
set_option linter.unusedSimpArgs false
set_option linter.unusedVariables false
open Go.RowKit

theorem xor_i64 (a b : Int) (h1 : 0 ≤ a) (h2 : a < 4611686018427387904) (h3 : 0 ≤ b) (h4 : b < 4611686018427387904) : 0 ≤ bits .xor .i64 a b ∧ bits .xor .i64 a b < 4611686018427387904 := by
  obtain ⟨x, rfl⟩ := Int.eq_ofNat_of_zero_le h1
  obtain ⟨y, rfl⟩ := Int.eq_ofNat_of_zero_le h3
  have hx : x ^^^ y < 2 ^ 62 := Nat.xor_lt_two_pow (by omega) (by omega)
  have e1 : (BitVec.ofInt 64 (x : Int)).toNat = x := by
    rw [BitVec.ofInt_natCast, BitVec.toNat_ofNat]; exact Nat.mod_eq_of_lt (by omega)
  have e2 : (BitVec.ofInt 64 (y : Int)).toNat = y := by
    rw [BitVec.ofInt_natCast, BitVec.toNat_ofNat]; exact Nat.mod_eq_of_lt (by omega)
  show 0 ≤ IntKind.i64.wrap ((BitVec.ofInt 64 (x : Int) ^^^ BitVec.ofInt 64 (y : Int)).toNat : Int) ∧ IntKind.i64.wrap ((BitVec.ofInt 64 (x : Int) ^^^ BitVec.ofInt 64 (y : Int)).toNat : Int) < 4611686018427387904
  rw [BitVec.toNat_xor, e1, e2, IntKind.wrap_i64]
  omega

/-- all blocks but block n are as they were; none has gone -/
structure Kept (n : Nat) (w w' : World) : Prop where
  os : w'.os = w.os
  tape : w'.tape = w.tape
  output : w'.output = w.output
  size : w.heap.size ≤ w'.heap.size
  block : ∀ k, k < w.heap.size → k ≠ n → w'.heap[k]? = w.heap[k]?

theorem Kept.refl (n : Nat) (w : World) : Kept n w w := ⟨rfl, rfl, rfl, Nat.le_refl _, fun _ _ _ => rfl⟩

theorem Kept.trans {n : Nat} {a b c : World} (h : Kept n a b) (k : Kept n b c) : Kept n a c :=
  ⟨k.os.trans h.os, k.tape.trans h.tape, k.output.trans h.output, Nat.le_trans h.size k.size, fun i hi hn => (k.block i (Nat.lt_of_lt_of_le hi h.size) hn).trans (h.block i hi hn)⟩

theorem Kept.of_below {n : Nat} {w w' : World} (h : Below w.heap.size w w') : Kept n w w' := ⟨h.os, h.tape, h.output, h.size, fun k hk _ => h.block k hk⟩

theorem Kept.setCell {n : Nat} {a w : World} (h : Kept n a w) (o : Nat) (s : _) (u : Value) : Kept n a (w.setCell ⟨n, o, s⟩ u) :=
  h.trans ⟨rfl, rfl, rfl, by simp [World.setCell], fun k _ hn => Below.heap_setCell _ _ _ _ hn⟩

theorem Kept.drewN {n : Nat} {a w : World} (h : Kept n a w) (k : Nat) : Kept n a (w.drewN k) := h.trans ⟨rfl, rfl, rfl, Nat.le_refl _, fun _ _ _ => rfl⟩

theorem Kept.drew {n : Nat} {a w : World} (h : Kept n a w) : Kept n a w.drew := h.trans ⟨rfl, rfl, rfl, Nat.le_refl _, fun _ _ _ => rfl⟩

theorem Kept.alloc {n : Nat} {a w : World} (h : Kept n a w) (o : Obj) : Kept n a (w.alloc o) := h.trans (Kept.of_below ((Below.refl _ _).alloc (Nat.le_refl _) _))

theorem Kept.cell {n : Nat} {w w' : World} (h : Kept n w w') {p o : Nat} (hp : p < w.heap.size) (hn : p ≠ n) : w'.cell? ⟨p, o, none⟩ = w.cell? ⟨p, o, none⟩ := World.cell?_of_block (w := w) (h.block p hp hn)

theorem Kept.frozen {n : Nat} {w w' : World} (h : Kept n w w') {p o : Nat} (hp : p < w.heap.size) (hn : p ≠ n) : w'.frozen? ⟨p, o, none⟩ = w.frozen? ⟨p, o, none⟩ := World.frozen?_of_block (w := w) (h.block p hp hn)

/-- a block that is the call's own may be written -/
theorem Kept.below {n B : Nat} {w w' : World} (h : Kept n w w') (hB : B ≤ n) (hw : B ≤ w.heap.size) : Below B w w' := ⟨h.os, h.tape, h.output, h.size, fun k hk => h.block k (by omega) (by omega)⟩

/-- the bytes that a reader reads -/
def Bytes (n : Nat) (w : World) (a : Option Addr) (len : Nat) (zs : List Int) : Prop :=
  len = 0 ∨ ∃ b off : Nat, a = some ⟨b, off, none⟩ ∧ b < n ∧ ∀ i, i < len → w.cell? ⟨b, off + i, none⟩ = some (.int .u8 (zs.getD i 0)) ∧ 0 ≤ zs.getD i 0 ∧ zs.getD i 0 ≤ 255

/-- block n is a reader at place p -/
structure Reader (n : Nat) (w : World) (a : Option Addr) (len cap : Nat) (zs : List Int) (p : Int) : Prop where
  code : w.cell? ⟨n, 0, none⟩ = some (.slice a len cap)
  place : w.cell? ⟨n, 1, none⟩ = some (.int .i64 p)
  free : w.frozen? ⟨n, 1, none⟩ = false
  lt : n < w.heap.size
  len_le : len ≤ 2000
  p_lo : 0 ≤ p
  p_hi : p ≤ 30000
  bytes : Bytes n w a len zs

theorem Bytes.of_below {n : Nat} {w w' : World} {a : Option Addr} {len : Nat} {zs : List Int} (h : Bytes n w a len zs) (hn : n ≤ w.heap.size) (hb : Below w.heap.size w w') : Bytes n w' a len zs := by
  rcases h with h | ⟨b, off, ha, hlt, hc⟩
  · exact .inl h
  · exact .inr ⟨b, off, ha, hlt, fun i hi => ⟨(hb.cell (p := ⟨b, off + i, none⟩) (show b < _ by omega)).trans (hc i hi).1, (hc i hi).2⟩⟩

theorem Bytes.of_kept {n : Nat} {w w' : World} {a : Option Addr} {len : Nat} {zs : List Int} (h : Bytes n w a len zs) (hn : n ≤ w.heap.size) (hb : Kept n w w') : Bytes n w' a len zs := by
  rcases h with h | ⟨b, off, ha, hlt, hc⟩
  · exact .inl h
  · exact .inr ⟨b, off, ha, hlt, fun i hi => ⟨(hb.cell (by omega) (by omega)).trans (hc i hi).1, (hc i hi).2⟩⟩

theorem Reader.of_below {n : Nat} {w w' : World} {a : Option Addr} {len cap : Nat} {zs : List Int} {p : Int} (h : Reader n w a len cap zs p) (hb : Below w.heap.size w w') : Reader n w' a len cap zs p :=
  ⟨(hb.cell (p := ⟨n, 0, none⟩) h.lt).trans h.code, (hb.cell (p := ⟨n, 1, none⟩) h.lt).trans h.place, (hb.frozen (p := ⟨n, 1, none⟩) h.lt).trans h.free, Nat.lt_of_lt_of_le h.lt hb.size, h.len_le, h.p_lo, h.p_hi, h.bytes.of_below (Nat.le_of_lt h.lt) hb⟩

/-- what a number drawn leaves: it is in 0 .. m - 1; the reader is one place further; nothing else has turned -/
def Picked (n : Nat) (w : World) (a : Option Addr) (len cap : Nat) (zs : List Int) (p m : Int) (e : Ending) (w' : World) : Prop :=
  ∃ v : Int, e = .returned (.int .i64 v) ∧ 0 ≤ v ∧ v < m ∧ Kept n w w' ∧ Reader n w' a len cap zs (p + 1)

/-- one place further -/
theorem Reader.next {n : Nat} {w : World} {a : Option Addr} {len cap : Nat} {zs : List Int} {p : Int} (h : Reader n w a len cap zs p) (hp : p < 30000) (k : Nat) : Reader n ((w.setCell ⟨n, 1, none⟩ (.int .i64 (p + 1))).drewN k) a len cap zs (p + 1) :=
  ⟨by
      show (w.setCell ⟨n, 1, none⟩ _).cell? _ = _
      rw [World.cell?_setCell_other _ _ _ _ (by simp)]; exact h.code,
    by show (w.setCell ⟨n, 1, none⟩ _).cell? _ = _; exact World.cell?_setCell_same' _ _ _ (by rw [h.place]; rfl),
    by show (w.setCell ⟨n, 1, none⟩ _).frozen? _ = _; rw [World.frozen?_setCell]; exact h.free,
    by show n < (w.setCell ⟨n, 1, none⟩ _).heap.size; simpa [World.setCell] using h.lt,
    h.len_le, by have := h.p_lo; omega, by omega,
    h.bytes.of_kept (Nat.le_of_lt h.lt) (((Kept.refl n w).setCell 1 none _).drewN k)⟩

theorem kept_next {n : Nat} {w : World} (p : Int) (k : Nat) : Kept n w ((w.setCell ⟨n, 1, none⟩ (.int .i64 p)).drewN k) := ((Kept.refl n w).setCell 1 none _).drewN k

set_option maxHeartbeats 1000000 in
set_option maxRecDepth 100000 in
theorem pick (n : Nat) (w : World) (a : Option Addr) (len cap : Nat) (zs : List Int) (p m : Int) (h : Reader n w a len cap zs p) (hp : p < 30000) (hm : 1 ≤ m) (hm' : m ≤ 30000) :
    Calls Try.prog 69 #[.pointer (some ⟨n, 0, none⟩), .int .i64 m] w (Picked n w a len cap zs p m) := by
  have c0 := h.code
  have c1 := h.place
  have c2 := h.free
  have p0 := h.p_lo
  have l0 := h.len_le
  have R0 := h.next hp 0
  by_cases hl : len = 0
  · subst hl
    have hd : ((0 : Nat) : Int) = 0 := rfl
    go_enter Try.func69, Try.ntmps69
    go_wp2
    go_ret
    exact ⟨0, rfl, by omega, by omega, kept_next _ 0, R0⟩
  obtain ⟨b, off, rfl, hb, hc⟩ := h.bytes.resolve_left hl
  have hne : b ≠ n := by omega
  have hne' : n ≠ b := by omega
  have hl0 : ((len : Int) == 0) = false := by simp; omega
  by_cases hlt : p < (len : Int)
  · obtain ⟨hz, hz0, hz1⟩ := hc p.toNat (by omega)
    generalize zs.getD p.toNat 0 = z at hz hz0 hz1
    have e1 : z % m < m := Int.emod_lt_of_pos _ (by omega)
    have e2 : 0 ≤ z % m := Int.emod_nonneg _ (by omega)
    clear hc
    go_enter Try.func69, Try.ntmps69
    go_wp2
    go_ret
    exact ⟨_, rfl, e2, e1, kept_next _ 0, R0⟩
  · have f1 : p % (len : Int) < (len : Int) := Int.emod_lt_of_pos _ (by omega)
    have f2 : 0 ≤ p % (len : Int) := Int.emod_nonneg _ (by omega)
    have f3 : (p * 7 + 3) % (len : Int) < (len : Int) := Int.emod_lt_of_pos _ (by omega)
    have f4 : 0 ≤ (p * 7 + 3) % (len : Int) := Int.emod_nonneg _ (by omega)
    have f5 : 0 ≤ p / (len : Int) := Int.ediv_nonneg (by omega) (by omega)
    have f6 : p / (len : Int) ≤ p := Int.ediv_le_self _ (by omega)
    obtain ⟨hx, hx0, hx1⟩ := hc (p % (len : Int)).toNat (by omega)
    obtain ⟨hy, hy0, hy1⟩ := hc ((p * 7 + 3) % (len : Int)).toNat (by omega)
    generalize zs.getD (p % (len : Int)).toNat 0 = x at hx hx0 hx1
    generalize zs.getD ((p * 7 + 3) % (len : Int)).toNat 0 = y at hy hy0 hy1
    have hlp : 0 < (len : Int) := by omega
    clear hc
    go_enter Try.func69, Try.ntmps69
    go_wp2
    go_quiet (fail)
    go_wp2
    go_ret
    have X0 : 0 ≤ x * 131 + y * 1117 + p * 29 + p / (len : Int) * 53 := by omega
    have X1 : x * 131 + y * 1117 + p * 29 + p / (len : Int) * 53 < 4611686018427387904 := by omega
    have hb := xor_i64 (x * 131 + y * 1117 + p * 29 + p / (len : Int) * 53) ((x * 131 + y * 1117 + p * 29 + p / (len : Int) * 53) / 64) X0 X1 (by omega) (by omega)
    exact ⟨_, rfl, by rw [Int.tmod_eq_emod_of_nonneg hb.1]; exact Int.emod_nonneg _ (by omega), by rw [Int.tmod_eq_emod_of_nonneg hb.1]; exact Int.emod_lt_of_pos _ (by omega), kept_next _ _, h.next hp _⟩

/-- what a truth drawn leaves -/
def Odd (n : Nat) (w : World) (a : Option Addr) (len cap : Nat) (zs : List Int) (p : Int) (e : Ending) (w' : World) : Prop :=
  ∃ v : Bool, e = .returned (.bool v) ∧ Kept n w w' ∧ Reader n w' a len cap zs (p + 1)

set_option maxHeartbeats 400000 in
theorem odd (n : Nat) (w : World) (a : Option Addr) (len cap : Nat) (zs : List Int) (p m : Int) (h : Reader n w a len cap zs p) (hp : p < 30000) (hm : 1 ≤ m) (hm' : m ≤ 30000) :
    Calls Try.prog 87 #[.pointer (some ⟨n, 0, none⟩), .int .i64 m] w (Odd n w a len cap zs p) := by
  have p0 : 0 < m := by omega
  go_enter Try.func87, Try.ntmps87
  go_wp2_with fail
  refine (pick n _ a len cap zs p m h hp hm hm').mono ?_
  intro e w1 hP
  obtain ⟨v, rfl, hv0, hv1, k1, R1⟩ := hP
  go_wp2_with fail
  go_ret
  exact ⟨_, rfl, k1, R1⟩

theorem staysK {W : World} {n p o : Nat} {a : Value} (hp : p < W.heap.size) (hn : p ≠ n) (h : W.cell? ⟨p, o, none⟩ = some a) : ∀ w1, Kept n W w1 → w1.cell? ⟨p, o, none⟩ = some a :=
  fun _ hb => (hb.cell hp hn).trans h

theorem staysKF {W : World} {n p o : Nat} {b : Bool} (hp : p < W.heap.size) (hn : p ≠ n) (h : W.frozen? ⟨p, o, none⟩ = b) : ∀ w1, Kept n W w1 → w1.frozen? ⟨p, o, none⟩ = b :=
  fun _ hb => (hb.frozen hp hn).trans h

theorem Kept.setNew {n : Nat} {a w : World} (h : Kept n a w) {q : Addr} (hq : a.heap.size ≤ q.block) (u : Value) : Kept n a (w.setCell q u) :=
  ⟨h.os, h.tape, h.output, by have := h.size; simpa [World.setCell] using this, fun k hk hn => by rw [Below.heap_setCell _ _ _ _ (by omega)]; exact h.block k hk hn⟩

theorem Reader.setFar {n : Nat} {w : World} {a : Option Addr} {len cap : Nat} {zs : List Int} {p : Int} (h : Reader n w a len cap zs p) {q : Addr} (hq : n < q.block) (u : Value) : Reader n (w.setCell q u) a len cap zs p :=
  ⟨(World.cell?_of_block (w := w) (Below.heap_setCell w q u n (by omega))).trans h.code, (World.cell?_of_block (w := w) (Below.heap_setCell w q u n (by omega))).trans h.place,
    by rw [World.frozen?_setCell]; exact h.free, by simpa [World.setCell] using h.lt, h.len_le, h.p_lo, h.p_hi, by
      rcases h.bytes with h | ⟨b, off, ha, hlt, hc⟩
      · exact .inl h
      · exact .inr ⟨b, off, ha, hlt, fun i hi => ⟨(World.cell?_of_block (w := w) (Below.heap_setCell w q u b (by omega))).trans (hc i hi).1, (hc i hi).2⟩⟩⟩

theorem tab3 {w1 : World} {k : Nat} {v : Int} (h0 : w1.cell? ⟨k, 0, none⟩ = some (.int .i64 4)) (h1 : w1.cell? ⟨k, 1, none⟩ = some (.int .i64 20)) (h2 : w1.cell? ⟨k, 2, none⟩ = some (.int .i64 250)) (hv0 : 0 ≤ v) (hv1 : v < 3) :
    ∃ high : Int, 1 ≤ high ∧ high ≤ 250 ∧ w1.cell? ⟨k, v.toNat, none⟩ = some (.int .i64 high) := by
  have : v = 0 ∨ v = 1 ∨ v = 2 := by omega
  rcases this with rfl | rfl | rfl
  · exact ⟨4, by omega, by omega, h0⟩
  · exact ⟨20, by omega, by omega, h1⟩
  · exact ⟨250, by omega, by omega, h2⟩

/-- what a fraction drawn leaves -/
def Fracd (n : Nat) (w : World) (a : Option Addr) (len cap : Nat) (zs : List Int) (p : Int) (e : Ending) (w' : World) : Prop :=
  ∃ u d p' : Int, e = .returned (.agg #[.int .i64 u, .int .i64 d]) ∧ -1000000001 ≤ u ∧ u ≤ 1000000001 ∧ -1000000001 ≤ d ∧ d ≤ 1000000001 ∧ p ≤ p' ∧ p' ≤ p + 10 ∧ Kept n w w' ∧ Reader n w' a len cap zs p'

end Go.Proofs.Ytjojilimdhekfaa
