/- Texts in one: Draw, DrawB, DrawW, DrawG, DrawM, DrawT, DrawX, DrawY, DrawZ, DrawF. -/
import Derived.Test.YtcminkifdbdaaaaMB
import Derived.Test.YtcminkifdbdaaaaLiftK
import Derived.Laws.Bits64
import Derived.Test.YtcminkifdbdaaaaMC
import Derived.Deep.RegionWith
import Derived.Deep.DeepCutAuto
import Derived.Test.YtcminkifdbdaaaaMA
namespace Go.Proofs.Ytcminkifdbdaaaa
set_option linter.unusedSimpArgs false
set_option linter.unusedVariables false
open Go.RowKit

theorem xor_i64 (a b : Int) (h1 : 0 ≤ a) (h2 : a < 4611686018427387904) (h3 : 0 ≤ b) (h4 : b < 4611686018427387904) : 0 ≤ bits .xor .i64 a b ∧ bits .xor .i64 a b < 4611686018427387904 := by
  obtain ⟨x, rfl⟩ := Int.eq_ofNat_of_zero_le h1
  obtain ⟨y, rfl⟩ := Int.eq_ofNat_of_zero_le h3
  have hx : x ^^^ y < 2 ^ 62 := Nat.xor_lt_two_pow (by omega) (by omega)
  have e1 : (BitVec.ofInt 64 (x : Int)).toNat = x := by
    rw [BitVec.ofInt_natCast, BitVec.toNat_ofNat]; exact Nat.mod_eq_of_lt (by omega)
  have e2 : (BitVec.ofInt 64 (y : Int)).toNat = y := by
    rw [BitVec.ofInt_natCast, BitVec.toNat_ofNat]; exact Nat.mod_eq_of_lt (by omega)
  show 0 ≤ IntKind.i64.wrap ((BitVec.ofInt 64 (x : Int) ^^^ BitVec.ofInt 64 (y : Int)).toNat : Int) ∧ IntKind.i64.wrap ((BitVec.ofInt 64 (x : Int) ^^^ BitVec.ofInt 64 (y : Int)).toNat : Int) < 4611686018427387904
  rw [BitVec.toNat_xor, e1, e2, IntKind.wrap_i64]
  omega

/-- all blocks but block n are as they were; none has gone -/
structure Kept (n : Nat) (w w' : World) : Prop where
  os : w'.os = w.os
  tape : w'.tape = w.tape
  output : w'.output = w.output
  size : w.heap.size ≤ w'.heap.size
  block : ∀ k, k < w.heap.size → k ≠ n → w'.heap[k]? = w.heap[k]?

theorem Kept.refl (n : Nat) (w : World) : Kept n w w := ⟨rfl, rfl, rfl, Nat.le_refl _, fun _ _ _ => rfl⟩

theorem Kept.trans {n : Nat} {a b c : World} (h : Kept n a b) (k : Kept n b c) : Kept n a c :=
  ⟨k.os.trans h.os, k.tape.trans h.tape, k.output.trans h.output, Nat.le_trans h.size k.size, fun i hi hn => (k.block i (Nat.lt_of_lt_of_le hi h.size) hn).trans (h.block i hi hn)⟩

theorem Kept.of_below {n : Nat} {w w' : World} (h : Below w.heap.size w w') : Kept n w w' := ⟨h.os, h.tape, h.output, h.size, fun k hk _ => h.block k hk⟩

theorem Kept.setCell {n : Nat} {a w : World} (h : Kept n a w) (o : Nat) (s : _) (u : Value) : Kept n a (w.setCell ⟨n, o, s⟩ u) :=
  h.trans ⟨rfl, rfl, rfl, by simp [World.setCell], fun k _ hn => Below.heap_setCell _ _ _ _ hn⟩

theorem Kept.drewN {n : Nat} {a w : World} (h : Kept n a w) (k : Nat) : Kept n a (w.drewN k) := h.trans ⟨rfl, rfl, rfl, Nat.le_refl _, fun _ _ _ => rfl⟩

theorem Kept.drew {n : Nat} {a w : World} (h : Kept n a w) : Kept n a w.drew := h.trans ⟨rfl, rfl, rfl, Nat.le_refl _, fun _ _ _ => rfl⟩

theorem Kept.alloc {n : Nat} {a w : World} (h : Kept n a w) (o : Obj) : Kept n a (w.alloc o) := h.trans (Kept.of_below ((Below.refl _ _).alloc (Nat.le_refl _) _))

theorem Kept.cell {n : Nat} {w w' : World} (h : Kept n w w') {p o : Nat} (hp : p < w.heap.size) (hn : p ≠ n) : w'.cell? ⟨p, o, none⟩ = w.cell? ⟨p, o, none⟩ := World.cell?_of_block (w := w) (h.block p hp hn)

theorem Kept.frozen {n : Nat} {w w' : World} (h : Kept n w w') {p o : Nat} (hp : p < w.heap.size) (hn : p ≠ n) : w'.frozen? ⟨p, o, none⟩ = w.frozen? ⟨p, o, none⟩ := World.frozen?_of_block (w := w) (h.block p hp hn)

/-- a block that is the call's own may be written -/
theorem Kept.below {n B : Nat} {w w' : World} (h : Kept n w w') (hB : B ≤ n) (hw : B ≤ w.heap.size) : Below B w w' := ⟨h.os, h.tape, h.output, h.size, fun k hk => h.block k (by omega) (by omega)⟩

/-- the bytes that a reader reads -/
def Bytes (n : Nat) (w : World) (a : Option Addr) (len : Nat) (zs : List Int) : Prop :=
  len = 0 ∨ ∃ b off : Nat, a = some ⟨b, off, none⟩ ∧ b < n ∧ ∀ i, i < len → w.cell? ⟨b, off + i, none⟩ = some (.int .u8 (zs.getD i 0)) ∧ 0 ≤ zs.getD i 0 ∧ zs.getD i 0 ≤ 255

/-- block n is a reader at place p -/
structure Reader (n : Nat) (w : World) (a : Option Addr) (len cap : Nat) (zs : List Int) (p : Int) : Prop where
  code : w.cell? ⟨n, 0, none⟩ = some (.slice a len cap)
  place : w.cell? ⟨n, 1, none⟩ = some (.int .i64 p)
  free : w.frozen? ⟨n, 1, none⟩ = false
  lt : n < w.heap.size
  len_le : len ≤ 2000
  p_lo : 0 ≤ p
  p_hi : p ≤ 30000
  bytes : Bytes n w a len zs

theorem Bytes.of_below {n : Nat} {w w' : World} {a : Option Addr} {len : Nat} {zs : List Int} (h : Bytes n w a len zs) (hn : n ≤ w.heap.size) (hb : Below w.heap.size w w') : Bytes n w' a len zs := by
  rcases h with h | ⟨b, off, ha, hlt, hc⟩
  · exact .inl h
  · exact .inr ⟨b, off, ha, hlt, fun i hi => ⟨(hb.cell (p := ⟨b, off + i, none⟩) (show b < _ by omega)).trans (hc i hi).1, (hc i hi).2⟩⟩

theorem Bytes.of_kept {n : Nat} {w w' : World} {a : Option Addr} {len : Nat} {zs : List Int} (h : Bytes n w a len zs) (hn : n ≤ w.heap.size) (hb : Kept n w w') : Bytes n w' a len zs := by
  rcases h with h | ⟨b, off, ha, hlt, hc⟩
  · exact .inl h
  · exact .inr ⟨b, off, ha, hlt, fun i hi => ⟨(hb.cell (by omega) (by omega)).trans (hc i hi).1, (hc i hi).2⟩⟩

theorem Reader.of_below {n : Nat} {w w' : World} {a : Option Addr} {len cap : Nat} {zs : List Int} {p : Int} (h : Reader n w a len cap zs p) (hb : Below w.heap.size w w') : Reader n w' a len cap zs p :=
  ⟨(hb.cell (p := ⟨n, 0, none⟩) h.lt).trans h.code, (hb.cell (p := ⟨n, 1, none⟩) h.lt).trans h.place, (hb.frozen (p := ⟨n, 1, none⟩) h.lt).trans h.free, Nat.lt_of_lt_of_le h.lt hb.size, h.len_le, h.p_lo, h.p_hi, h.bytes.of_below (Nat.le_of_lt h.lt) hb⟩

/-- what a number drawn leaves: it is in 0 .. m - 1; the reader is one place further; nothing else has turned -/
def Picked (n : Nat) (w : World) (a : Option Addr) (len cap : Nat) (zs : List Int) (p m : Int) (e : Ending) (w' : World) : Prop :=
  ∃ v : Int, e = .returned (.int .i64 v) ∧ 0 ≤ v ∧ v < m ∧ Kept n w w' ∧ Reader n w' a len cap zs (p + 1)

/-- one place further -/
theorem Reader.next {n : Nat} {w : World} {a : Option Addr} {len cap : Nat} {zs : List Int} {p : Int} (h : Reader n w a len cap zs p) (hp : p < 30000) (k : Nat) : Reader n ((w.setCell ⟨n, 1, none⟩ (.int .i64 (p + 1))).drewN k) a len cap zs (p + 1) :=
  ⟨by
      show (w.setCell ⟨n, 1, none⟩ _).cell? _ = _
      rw [World.cell?_setCell_other _ _ _ _ (by simp)]; exact h.code,
    by show (w.setCell ⟨n, 1, none⟩ _).cell? _ = _; exact World.cell?_setCell_same' _ _ _ (by rw [h.place]; rfl),
    by show (w.setCell ⟨n, 1, none⟩ _).frozen? _ = _; rw [World.frozen?_setCell]; exact h.free,
    by show n < (w.setCell ⟨n, 1, none⟩ _).heap.size; simpa [World.setCell] using h.lt,
    h.len_le, by have := h.p_lo; omega, by omega,
    h.bytes.of_kept (Nat.le_of_lt h.lt) (((Kept.refl n w).setCell 1 none _).drewN k)⟩

theorem kept_next {n : Nat} {w : World} (p : Int) (k : Nat) : Kept n w ((w.setCell ⟨n, 1, none⟩ (.int .i64 p)).drewN k) := ((Kept.refl n w).setCell 1 none _).drewN k

set_option maxHeartbeats 1000000 in
set_option maxRecDepth 100000 in
theorem pick (n : Nat) (w : World) (a : Option Addr) (len cap : Nat) (zs : List Int) (p m : Int) (h : Reader n w a len cap zs p) (hp : p < 30000) (hm : 1 ≤ m) (hm' : m ≤ 30000) :
    Calls Try.prog 79 #[.pointer (some ⟨n, 0, none⟩), .int .i64 m] w (Picked n w a len cap zs p m) := by
  have c0 := h.code
  have c1 := h.place
  have c2 := h.free
  have p0 := h.p_lo
  have l0 := h.len_le
  have R0 := h.next hp 0
  by_cases hl : len = 0
  · subst hl
    have hd : ((0 : Nat) : Int) = 0 := rfl
    go_enter Try.func79, Try.ntmps79
    go_wp2
    go_ret
    exact ⟨0, rfl, by omega, by omega, kept_next _ 0, R0⟩
  obtain ⟨b, off, rfl, hb, hc⟩ := h.bytes.resolve_left hl
  have hne : b ≠ n := by omega
  have hne' : n ≠ b := by omega
  have hl0 : ((len : Int) == 0) = false := by simp; omega
  by_cases hlt : p < (len : Int)
  · obtain ⟨hz, hz0, hz1⟩ := hc p.toNat (by omega)
    generalize zs.getD p.toNat 0 = z at hz hz0 hz1
    have e1 : z % m < m := Int.emod_lt_of_pos _ (by omega)
    have e2 : 0 ≤ z % m := Int.emod_nonneg _ (by omega)
    clear hc
    go_enter Try.func79, Try.ntmps79
    go_wp2
    go_ret
    exact ⟨_, rfl, e2, e1, kept_next _ 0, R0⟩
  · have f1 : p % (len : Int) < (len : Int) := Int.emod_lt_of_pos _ (by omega)
    have f2 : 0 ≤ p % (len : Int) := Int.emod_nonneg _ (by omega)
    have f3 : (p * 7 + 3) % (len : Int) < (len : Int) := Int.emod_lt_of_pos _ (by omega)
    have f4 : 0 ≤ (p * 7 + 3) % (len : Int) := Int.emod_nonneg _ (by omega)
    have f5 : 0 ≤ p / (len : Int) := Int.ediv_nonneg (by omega) (by omega)
    have f6 : p / (len : Int) ≤ p := Int.ediv_le_self _ (by omega)
    obtain ⟨hx, hx0, hx1⟩ := hc (p % (len : Int)).toNat (by omega)
    obtain ⟨hy, hy0, hy1⟩ := hc ((p * 7 + 3) % (len : Int)).toNat (by omega)
    generalize zs.getD (p % (len : Int)).toNat 0 = x at hx hx0 hx1
    generalize zs.getD ((p * 7 + 3) % (len : Int)).toNat 0 = y at hy hy0 hy1
    have hlp : 0 < (len : Int) := by omega
    clear hc
    go_enter Try.func79, Try.ntmps79
    go_wp2
    go_quiet (fail)
    go_wp2
    go_ret
    have X0 : 0 ≤ x * 131 + y * 1117 + p * 29 + p / (len : Int) * 53 := by omega
    have X1 : x * 131 + y * 1117 + p * 29 + p / (len : Int) * 53 < 4611686018427387904 := by omega
    have hb := xor_i64 (x * 131 + y * 1117 + p * 29 + p / (len : Int) * 53) ((x * 131 + y * 1117 + p * 29 + p / (len : Int) * 53) / 64) X0 X1 (by omega) (by omega)
    exact ⟨_, rfl, by rw [Int.tmod_eq_emod_of_nonneg hb.1]; exact Int.emod_nonneg _ (by omega), by rw [Int.tmod_eq_emod_of_nonneg hb.1]; exact Int.emod_lt_of_pos _ (by omega), kept_next _ _, h.next hp _⟩

/-- what a truth drawn leaves -/
def Odd (n : Nat) (w : World) (a : Option Addr) (len cap : Nat) (zs : List Int) (p : Int) (e : Ending) (w' : World) : Prop :=
  ∃ v : Bool, e = .returned (.bool v) ∧ Kept n w w' ∧ Reader n w' a len cap zs (p + 1)

set_option maxHeartbeats 400000 in
theorem odd (n : Nat) (w : World) (a : Option Addr) (len cap : Nat) (zs : List Int) (p m : Int) (h : Reader n w a len cap zs p) (hp : p < 30000) (hm : 1 ≤ m) (hm' : m ≤ 30000) :
    Calls Try.prog 80 #[.pointer (some ⟨n, 0, none⟩), .int .i64 m] w (Odd n w a len cap zs p) := by
  have p0 : 0 < m := by omega
  go_enter Try.func80, Try.ntmps80
  go_wp2_with fail
  refine (pick n _ a len cap zs p m h hp hm hm').mono ?_
  intro e w1 hP
  obtain ⟨v, rfl, hv0, hv1, k1, R1⟩ := hP
  go_wp2_with fail
  go_ret
  exact ⟨_, rfl, k1, R1⟩

theorem Kept.setNew {n : Nat} {a w : World} (h : Kept n a w) {q : Addr} (hq : a.heap.size ≤ q.block) (u : Value) : Kept n a (w.setCell q u) :=
  ⟨h.os, h.tape, h.output, by have := h.size; simpa [World.setCell] using this, fun k hk hn => by rw [Below.heap_setCell _ _ _ _ (by omega)]; exact h.block k hk hn⟩

theorem Reader.setFar {n : Nat} {w : World} {a : Option Addr} {len cap : Nat} {zs : List Int} {p : Int} (h : Reader n w a len cap zs p) {q : Addr} (hq : n < q.block) (u : Value) : Reader n (w.setCell q u) a len cap zs p :=
  ⟨(World.cell?_of_block (w := w) (Below.heap_setCell w q u n (by omega))).trans h.code, (World.cell?_of_block (w := w) (Below.heap_setCell w q u n (by omega))).trans h.place,
    by rw [World.frozen?_setCell]; exact h.free, by simpa [World.setCell] using h.lt, h.len_le, h.p_lo, h.p_hi, by
      rcases h.bytes with h | ⟨b, off, ha, hlt, hc⟩
      · exact .inl h
      · exact .inr ⟨b, off, ha, hlt, fun i hi => ⟨(World.cell?_of_block (w := w) (Below.heap_setCell w q u b (by omega))).trans (hc i hi).1, (hc i hi).2⟩⟩⟩

end Go.Proofs.Ytcminkifdbdaaaa

namespace Go.Proofs.Ytcminkifdbdaaaa
set_option linter.unusedSimpArgs false
set_option linter.unusedVariables false
open Go.RowKit

/-- what an opened code leaves: a reader at place 0, in a new block -/
def Opened (w : World) (e : Ending) (w' : World) : Prop :=
  e = .returned (.pointer (some ⟨w.heap.size, 0, none⟩)) ∧ Below w.heap.size w w' ∧ ∃ (a : Option Addr) (len cap : Nat) (zs : List Int), Reader w.heap.size w' a len cap zs 0

theorem opened_of {w : World} {a : Option Addr} {len cap : Nat} {zs : List Int} (hl : len ≤ 2000) (hb : Bytes w.heap.size w a len zs) :
    Opened w (.returned (.pointer (some ⟨w.heap.size, 0, none⟩))) (w.alloc (.cells #[.slice a len cap, .int .i64 0] 83)) := by
  have hB : Below w.heap.size w (w.alloc (.cells #[.slice a len cap, .int .i64 0] 83)) := (Below.refl _ _).alloc (Nat.le_refl _) _
  exact ⟨rfl, hB, a, len, cap, zs, by simp [go_sem], by simp [go_sem], by simp [go_sem], by simp, hl, by omega, by omega, hb.of_below (Nat.le_refl _) hB⟩

theorem u8_in {z : Int} (h : (Lit.int .u8 z).wf = true) : 0 ≤ z ∧ z ≤ 255 := by simpa [Lit.wf, IntKind.min, IntKind.max, IntKind.signed, IntKind.bits] using h

theorem bytes_of {w : World} {x : Addr} {len cap : Nat} {zs : List Int} (hl : len ≤ cap) (hz : zs.length = cap) (h0 : 0 < len)
    (hcell : ∀ i, i < zs.length → w.cell? (x.add i) = some (.int .u8 (zs.getD i 0))) (hwz : ∀ n ∈ zs, (Lit.int .u8 n).wf = true) : ∃ b off, x = ⟨b, off, none⟩ ∧ ∀ k, k ≤ len → Bytes w.heap.size w (some ⟨b, off, none⟩) k zs := by
  obtain ⟨b, off, spot⟩ := x
  have hc := hcell 0 (by omega)
  have hspot : spot = none := by simpa [Addr.add] using World.cell?_spot hc
  subst hspot
  refine ⟨b, off, rfl, fun k hk => ?_⟩
  refine .inr ⟨b, off, rfl, ?_, fun i hi => ?_⟩
  · have := World.block_lt_of_cell? w _ hc; simpa [Addr.add] using this
  · have h1 := hcell i (by omega)
    have h2 : zs.getD i 0 ∈ zs := by
      rw [List.getD_eq_getElem?_getD, List.getElem?_eq_getElem (by omega)]; exact List.getElem_mem _
    have e : (Addr.add ⟨b, off, none⟩ i) = ⟨b, off + i, none⟩ := by
      by_cases hi0 : i = 0
      · subst hi0; simp [Addr.add]
      · simp [Addr.add, hi0]
    rw [e] at h1
    exact ⟨h1, u8_in (hwz _ h2)⟩

set_option maxHeartbeats 400000 in
theorem l20Open (a : Option Addr) (len cap : Nat) (zs : List Int) (w : World) (h : IsRow .u8 w a len cap zs) :
    Calls Try.prog 53 #[.slice a len cap] w (Opened w) := by
  rcases h with ⟨rfl, rfl, rfl, rfl⟩ | ⟨x, rfl, hl, hm, hz, hcell, hwz⟩
  · go_enter Try.func53, Try.ntmps53
    go_wp2
    go_ret
    exact opened_of (zs := []) (by omega) (.inl rfl)
  · by_cases h0 : len = 0
    · subst h0
      go_enter Try.func53, Try.ntmps53
      go_wp2
      go_ret
      exact opened_of (zs := zs) (by omega) (.inl rfl)
    · obtain ⟨b, off, rfl, hB⟩ := bytes_of hl hz (by omega) hcell hwz
      clear hcell hwz hz
      unfold maxLen at hm
      by_cases hc : 2000 < len
      · have b1 := hB 2000 (by omega)
        have hc1 : (2000 : Int) < (len : Int) := by omega
        have hc2 : ¬ cap < 2000 := by omega
        clear hB
        go_enter Try.func53, Try.ntmps53
        go_wp2
        go_ret
        exact opened_of (by omega) b1
      · have b1 := hB len (by omega)
        have hc1 : ¬ (2000 : Int) < (len : Int) := by omega
        clear hB
        go_enter Try.func53, Try.ntmps53
        go_wp2
        go_ret
        exact opened_of (by omega) b1

theorem IsRow.below {k : IntKind} {w w' : World} {a : Option Addr} {len cap : Nat} {zs : List Int} (h : IsRow k w a len cap zs) (hb : Below w.heap.size w w') : IsRow k w' a len cap zs := by
  rcases h with h | ⟨x, h1, h2, h3, h4, h5, h6⟩
  · exact .inl h
  · exact .inr ⟨x, h1, h2, h3, h4, fun i hi => (hb.cell (World.block_lt_of_cell? w _ (h5 i hi))).trans (h5 i hi), h6⟩

end Go.Proofs.Ytcminkifdbdaaaa

namespace Go.Proofs.Ytcminkifdbdaaaa
set_option linter.unusedSimpArgs false
set_option linter.unusedVariables false
open Go.RowKit

/-- a reader stays where its block and what lies before it stay -/
theorem Reader.of_blocks {n : Nat} {w w' : World} {a : Option Addr} {len cap : Nat} {zs : List Int} {p : Int} (h : Reader n w a len cap zs p) (hk : ∀ b, b ≤ n → w'.heap[b]? = w.heap[b]?) (hs : w.heap.size ≤ w'.heap.size) : Reader n w' a len cap zs p :=
  ⟨(World.cell?_of_block (w := w) (hk n (Nat.le_refl _))).trans h.code, (World.cell?_of_block (w := w) (hk n (Nat.le_refl _))).trans h.place, (World.frozen?_of_block (w := w) (hk n (Nat.le_refl _))).trans h.free,
    Nat.lt_of_lt_of_le h.lt hs, h.len_le, h.p_lo, h.p_hi, by
      rcases h.bytes with h | ⟨b, off, ha, hlt, hc⟩
      · exact .inl h
      · exact .inr ⟨b, off, ha, hlt, fun i hi => ⟨(World.cell?_of_block (w := w) (hk b (Nat.le_of_lt hlt))).trans (hc i hi).1, (hc i hi).2⟩⟩⟩

theorem Reader.below {n B : Nat} {w w' : World} {a : Option Addr} {len cap : Nat} {zs : List Int} {p : Int} (h : Reader n w a len cap zs p) (hb : Below B w w') (hn : n < B) : Reader n w' a len cap zs p :=
  h.of_blocks (fun b hb' => hb.block b (by omega)) hb.size

/-- what a call owns from lo on stays where only block n < lo may turn -/
theorem Grows.kept {n : Nat} {w w' : World} {base : Nat} {v : Value} {l : List Int} (h : Grows w base v l) (hk : Kept n w w') (hn : n < base) : Grows w' base v l :=
  ownsRow_of_block h fun k hk' => hk.block k (World.ownsRow.lt h k hk').2 (by have := (World.ownsRow.lt h k hk').1; omega)

theorem OwnI.kept {n : Nat} {w w' : World} {lo hi : Nat} {A : Option Addr} {l : List Int} (h : OwnI w lo hi A l) (hk : Kept n w w') (hn : n < lo) (hh : hi ≤ w.heap.size) : OwnI w' lo hi A l := h.keep fun b h1 h2 => hk.block b (by omega) (by omega)

theorem OwnR.kept {n : Nat} {w w' : World} {lo hi : Nat} {A : Option Addr} {g : List (List Int)} (h : OwnR w lo hi A g) (hk : Kept n w w') (hn : n < lo) (hh : hi ≤ w.heap.size) : OwnR w' lo hi A g := h.keep fun b h1 h2 => hk.block b (by omega) (by omega)

theorem GrowsR.kept {n : Nat} {w w' : World} {base hi : Nat} {v : Value} {A : Nat → Option Addr} {C : Nat → Nat} {g : List (List Int)} (h : GrowsR w base hi v A C g) (hk : Kept n w w') (hn : n < base) : GrowsR w' base hi v A C g :=
  ⟨ownsRow_of_block h.top fun k hk' => hk.block k (World.ownsRow.lt h.top k hk').2 (by have := (World.ownsRow.lt h.top k hk').1; omega),
    h.rows.keep fun b h1 h2 => hk.block b (by have := h.hile; omega) (by omega), h.hib, Nat.le_trans h.hile hk.size⟩

/-- behind an append to what the call owns -/
theorem Kept.appended {n : Nat} {a w w1 : World} {v : Value} {o : Obj} (h : Kept n a w) (hg : (w.alloc o).grownBy w1 v.ownBlock) (hv : ∀ k, v.ownBlock = some k → a.heap.size ≤ k) : Kept n a w1 :=
  ⟨hg.os.trans h.os, hg.tape.trans h.tape, hg.output.trans h.output, Nat.le_trans h.size (Nat.le_trans (by simp) hg.size), fun k hk hn => by
    have hs := h.size
    rw [hg.block k (by simp; omega) (fun e => by have := hv k e.symm; omega), Below.heap_alloc _ _ _ (by omega)]; exact h.block k hk hn⟩

theorem Reader.appended {n : Nat} {w w1 : World} {v : Value} {o : Obj} {a : Option Addr} {len cap : Nat} {zs : List Int} {p : Int} (h : Reader n w a len cap zs p) (hg : (w.alloc o).grownBy w1 v.ownBlock) (hv : ∀ k, v.ownBlock = some k → n < k) : Reader n w1 a len cap zs p :=
  h.of_blocks (fun b hb => by
    have := h.lt
    rw [hg.block b (by simp; omega) (fun e => by have := hv b e.symm; omega), Below.heap_alloc _ _ _ (by omega)]) (Nat.le_trans (by simp) hg.size)

theorem Grows.lo {w : World} {base : Nat} {v : Value} {l : List Int} (h : Grows w base v l) : ∀ k, v.ownBlock = some k → base ≤ k := fun k hk => (World.ownsRow.lt h k hk).1

theorem GrowsR.lo {w : World} {base hi : Nat} {v : Value} {A : Nat → Option Addr} {C : Nat → Nat} {g : List (List Int)} (h : GrowsR w base hi v A C g) : ∀ k, v.ownBlock = some k → base ≤ k := fun k hk => (World.ownsRow.lt h.top k hk).1

/-- what a table drawn is -/
def DrawnG (n : Nat) (w : World) (a : Option Addr) (len cap : Nat) (zs : List Int) (p : Int) (e : Ending) (w' : World) : Prop :=
  ∃ (g : List (List Int)) (T : Option Addr) (c : Nat) (p' : Int), e = .returned (.slice T g.length c) ∧ g.length ≤ c ∧ c ≤ maxLen ∧ g.length ≤ 17 ∧ (∀ i, i < g.length → (rowAt g i).length ≤ 16) ∧
    Kept n w w' ∧ Reader n w' a len cap zs p' ∧ p ≤ p' ∧ p' ≤ p + 600 ∧ OwnR w' w.heap.size w'.heap.size T g

/-- the first number of a table is written over -/
def poke (g : List (List Int)) (x : Int) : List (List Int) := g.set 0 ((rowAt g 0).set 0 x)

theorem poke_length (g : List (List Int)) (x : Int) : (poke g x).length = g.length := by simp [poke]

theorem rowAt_poke (g : List (List Int)) (x : Int) (i : Nat) (h : i < g.length) : rowAt (poke g x) i = if i = 0 then (rowAt g 0).set 0 x else rowAt g i := by
  unfold poke
  by_cases e : i = 0
  · subst e; rw [if_pos rfl, rowAt_eq _ _ (by simpa using h)]; simp
  · rw [if_neg e, rowAt_eq _ _ (by simpa using h), rowAt_eq _ _ h]; simp [List.getElem_set, Ne.symm e]

theorem nth_set (l : List Int) (x : Int) (i : Nat) (h : i < l.length) : nth (l.set 0 x) i = if i = 0 then x else nth l i := by
  by_cases e : i = 0
  · subst e; rw [if_pos rfl, nth_eq _ _ (by simpa using h)]; simp
  · rw [if_neg e, nth_eq _ _ (by simpa using h), nth_eq _ _ h]; simp [List.getElem_set, Ne.symm e]

theorem poke_row_length (g : List (List Int)) (x : Int) (i : Nat) (h : i < g.length) : (rowAt (poke g x) i).length = (rowAt g i).length := by
  rw [rowAt_poke g x i h]
  split
  · rename_i e; subst e; simp
  · rfl

theorem OwnR.poke {w : World} {lo hi : Nat} {b0 : Nat} {T : Option Addr} {g : List (List Int)} {c : Nat} (h : OwnR w lo hi T g) (h0 : 0 < g.length) (hr : 0 < (rowAt g 0).length) (x : Int)
    (hT : ∀ b, T = some ⟨b, 0, none⟩ → w.cell? ⟨b, 0, none⟩ = some (.slice (some ⟨b0, 0, none⟩) (rowAt g 0).length c)) : OwnR (w.setCell ⟨b0, 0, none⟩ (.int .i64 x)) lo hi T (poke g x) := by
  obtain ⟨b, N, f, A, C, rfl, h1, h2, h3, h4, h5, h6⟩ := h h0
  have hA0 : A 0 = some ⟨b0, 0, none⟩ := by
    have e1 := hT b rfl
    rw [h4.cell (by omega), h5 0 h0] at e1
    injection e1 with e1; injection e1
  obtain ⟨b0', N0, f0, e0, k1, k2, k3, k4, k5⟩ := h6.own 0 h0 hr
  rw [hA0] at e0; injection e0 with e0; injection e0 with e0; subst e0
  intro _
  refine ⟨b, N, f, A, C, rfl, h1, h2, by rw [poke_length]; exact h3, h4.setOther (Ne.symm (rowIs_ne' k3 h4)) _, fun i hi => ?_, ⟨fun i hi => ?_, fun i hi => ?_, fun i j hi hj hne p q => ?_⟩⟩
  · rw [poke_length] at hi; rw [poke_row_length g x i hi]; exact h5 i hi
  · rw [poke_length] at hi; rw [poke_row_length g x i hi]; exact h6.cap i hi
  · rw [poke_length] at hi
    by_cases e : i = 0
    · subst e
      intro _
      refine ⟨b0, N0, _, hA0, k1, k2, k3.set 0 _, by rw [poke_row_length g x 0 hi]; exact k4, fun j hj => ?_⟩
      rw [poke_row_length g x 0 hi] at hj
      rw [rowAt_poke g x 0 hi, if_pos rfl, nth_set _ _ _ hj]
      by_cases ej : j = 0
      · rw [if_pos ej, if_pos ej]
      · rw [if_neg ej, if_neg ej]; exact k5 j hj
    · rw [rowAt_poke g x i hi, if_neg e]
      intro hp
      obtain ⟨bi, Ni, fi, ei, m1, m2, m3, m4, m5⟩ := h6.own i hi hp
      refine ⟨bi, Ni, fi, ei, m1, m2, m3.setOther (fun e' => ?_) _, m4, m5⟩
      exact h6.apart i 0 hi h0 e hp hr (by rw [ei, hA0, show bi = b0 from e'])
  · rw [poke_length] at hi hj
    rw [poke_row_length g x i hi] at p
    rw [poke_row_length g x j hj] at q
    exact h6.apart i j hi hj hne p q

end Go.Proofs.Ytcminkifdbdaaaa

namespace Go.Proofs.Ytcminkifdbdaaaa
set_option linter.unusedSimpArgs false
set_option linter.unusedVariables false
open Go.RowKit



end Go.Proofs.Ytcminkifdbdaaaa

namespace Go.Proofs.Ytcminkifdbdaaaa
set_option linter.unusedSimpArgs false
set_option linter.unusedVariables false
open Go.RowKit



end Go.Proofs.Ytcminkifdbdaaaa

namespace Go.Proofs.Ytcminkifdbdaaaa
set_option linter.unusedSimpArgs false
set_option linter.unusedVariables false
open Go.RowKit

/-- what a drawn table is -/
def DrawnT (w : World) (e : Ending) (w' : World) : Prop :=
  ∃ (g : List (List Int)) (T : Option Addr) (c : Nat), e = .returned (.slice T g.length c) ∧ g.length ≤ c ∧ c ≤ maxLen ∧ g.length ≤ 17 ∧ (∀ i, i < g.length → (rowAt g i).length ≤ 16) ∧ Below w.heap.size w w' ∧ OwnR w' w.heap.size w'.heap.size T g

theorem DrawnT.of {w w1 : World} {a : Option Addr} {len cap : Nat} {zs : List Int} {e : Ending} {w' : World} (hb : Below w.heap.size w w1) (hR : Reader w.heap.size w1 a len cap zs 0) (h : DrawnG w.heap.size w1 a len cap zs 0 e w') : DrawnT w e w' := by
  obtain ⟨g, T, c, p', he, h1, h2, h3, h4, hK, _, _, _, ho⟩ := h
  exact ⟨g, T, c, he, h1, h2, h3, h4, hb.trans (hK.below (Nat.le_refl _) hb.size), ho.more hb.size (Nat.le_refl _)⟩

set_option maxHeartbeats 1000000 in
theorem sameInts (A B : Option Addr) (c d : Nat) (l : List Int) (S T : Nat → Prop) (hl : l.length ≤ maxLen) (w : World) (h : Ints w S A l) (h' : Ints w T B l) :
    Calls Try.prog 21 #[.slice A l.length c, .slice B l.length d] w (Quiet (.bool true) w) := by
  unfold maxLen at hl
  have z1 : ((l.length : Int) != (l.length : Int)) = false := by simp
  have HH := Lib.hid h
  have HK := Lib.hid h'
  clear h h'
  go_enter Try.func21, Try.ntmps21
  go_wp2_with fail
  go_loopw [5] (fun i wr => ∃ k : Nat, k ≤ l.length ∧ i = .int .i64 k ∧ ∃ n, wr = w.drewN n) (fun i _ => l.length - (intOf i).toNat)
  case atStart => exact ⟨0, Nat.zero_le _, rfl, (by first | exact ⟨0, rfl⟩ | exact ⟨_, rfl⟩ | exact ⟨_, World.drewN_drewN _ _ _⟩ | (simp only [World.drewN_drewN]; exact ⟨_, rfl⟩))⟩
  case round =>
    obtain ⟨k, hk, rfl, n, rfl⟩ := hrel
    by_cases hlt : k < l.length
    · obtain ⟨b, off, rfl, hS, hc⟩ := HH.out.at_ hlt
      obtain ⟨b', off', rfl, hS', hc'⟩ := HK.out.at_ hlt
      have hck := hc k hlt
      have hck' := hc' k hlt
      have z2 : (nth l k != nth l k) = false := by simp
      clear hc hc'
      go_wp2_with fail
      go_quiet (fail)
      go_wp2_with fail
      go_roundw
      case rel => exact ⟨k + 1, by omega, by go_num, (by first | exact ⟨0, rfl⟩ | exact ⟨_, rfl⟩ | exact ⟨_, World.drewN_drewN _ _ _⟩ | (simp only [World.drewN_drewN]; exact ⟨_, rfl⟩))⟩
      case measure => simp [intOf]; omega
    · obtain rfl : k = l.length := by omega
      go_wp2_with fail
      go_ret
      exact Quiet.ofD rfl (by first | exact ⟨0, rfl⟩ | exact ⟨_, rfl⟩ | exact ⟨_, World.drewN_drewN _ _ _⟩ | (simp only [World.drewN_drewN]; exact ⟨_, rfl⟩))

set_option maxHeartbeats 1000000 in
theorem sameRows (A B : Option Addr) (c d : Nat) (g : List (List Int)) (S T : Nat → Prop) (hl : g.length ≤ maxLen) (w : World) (h : Rows2 w S A g) (h' : Rows2 w T B g) :
    Calls Try.prog 26 #[.slice A g.length c, .slice B g.length d] w (Quiet (.bool true) w) := by
  unfold maxLen at hl
  have z1 : ((g.length : Int) != (g.length : Int)) = false := by simp
  have HH := Lib.hid h
  have HK := Lib.hid h'
  clear h h'
  go_enter Try.func26, Try.ntmps26
  go_wp2_with fail
  go_loopw [5] (fun i wr => ∃ k : Nat, k ≤ g.length ∧ i = .int .i64 k ∧ ∃ n, wr = w.drewN n) (fun i _ => g.length - (intOf i).toNat)
  case atStart => exact ⟨0, Nat.zero_le _, rfl, (by first | exact ⟨0, rfl⟩ | exact ⟨_, rfl⟩ | exact ⟨_, World.drewN_drewN _ _ _⟩ | (simp only [World.drewN_drewN]; exact ⟨_, rfl⟩))⟩
  case round =>
    obtain ⟨k, hk, rfl, n, rfl⟩ := hrel
    by_cases hlt : k < g.length
    · obtain ⟨b, off, rfl⟩ := HH.out.some (by omega)
      obtain ⟨b', off', rfl⟩ := HK.out.some (by omega)
      obtain ⟨hS, Ak, ck, hck, hlk, hmk, hik⟩ := HH.out.row hlt
      obtain ⟨hS', Bk, dk, hdk, hlk', hmk', hik'⟩ := HK.out.row hlt
      have HI := Lib.hid hik
      have HJ := Lib.hid hik'
      clear hik hik'
      have hmk2 := hmk
      unfold maxLen at hmk hmk'
      go_wp2_with fail
      go_quiet ((go_at_call 21; exact quietAdd (sameInts _ _ _ _ (rowAt g k) S T (Nat.le_trans hlk hmk2) _ (HI.out.drewN _) (HJ.out.drewN _))))
      go_wp2_with fail
      go_roundw
      case rel => exact ⟨k + 1, by omega, by go_num, (by first | exact ⟨0, rfl⟩ | exact ⟨_, rfl⟩ | exact ⟨_, World.drewN_drewN _ _ _⟩ | (simp only [World.drewN_drewN]; exact ⟨_, rfl⟩))⟩
      case measure => simp [intOf]; omega
    · obtain rfl : k = g.length := by omega
      go_wp2_with fail
      go_ret
      exact Quiet.ofD rfl (by first | exact ⟨0, rfl⟩ | exact ⟨_, rfl⟩ | exact ⟨_, World.drewN_drewN _ _ _⟩ | (simp only [World.drewN_drewN]; exact ⟨_, rfl⟩))

set_option maxHeartbeats 1000000 in
theorem ascend (A : Option Addr) (c : Nat) (l : List Int) (S : Nat → Prop) (hl : l.length ≤ 4294967296) (hs : l.Pairwise (· < ·)) (w : World) (h : Ints w S A l) :
    Calls Try.prog 23 #[.slice A l.length c] w (Quiet (.bool true) w) := by
  have HH := Lib.hid h
  have HS := Lib.hid hs
  clear h hs
  go_enter Try.func23, Try.ntmps23
  go_wp2_with fail
  go_loopw [3] (fun i wr => ∃ k : Nat, (1 : Int) ≤ k ∧ i = .int .i64 k ∧ ∃ n, wr = w.drewN n) (fun i _ => l.length - (intOf i).toNat)
  case atStart => exact ⟨1, by omega, rfl, (by first | exact ⟨0, rfl⟩ | exact ⟨_, rfl⟩ | exact ⟨_, World.drewN_drewN _ _ _⟩ | (simp only [World.drewN_drewN]; exact ⟨_, rfl⟩))⟩
  case round =>
    obtain ⟨k, hk, rfl, n, rfl⟩ := hrel
    by_cases hlt : k < l.length
    · obtain ⟨b, off, rfl, hS, hc⟩ := HH.out.at_ hlt
      have hck := hc k hlt
      have hck' := hc (k - 1) (by omega)
      have hlt' := sorted_nth HS.out (i := k - 1) (j := k) (by omega) hlt
      have z : decide (nth l k ≤ nth l (k - 1)) = false := decide_eq_false (by omega)
      have q1 : IntKind.i64.wrap ((k : Int) - 1) = (k : Int) - 1 := IntWalk.i64_in _ (by omega)
      have q2 : ((k : Int) - 1).toNat = k - 1 := by omega
      have q3 : (0 : Int) ≤ (k : Int) - 1 := by omega
      have q4 : (k : Int) - 1 < (l.length : Int) := by omega
      clear hc hlt'
      go_wp2_with fail
      go_quiet (fail)
      clear q1 q2
      go_wp2_with fail
      go_roundw
      case rel => exact ⟨k + 1, by omega, by go_num, (by first | exact ⟨0, rfl⟩ | exact ⟨_, rfl⟩ | exact ⟨_, World.drewN_drewN _ _ _⟩ | (simp only [World.drewN_drewN]; exact ⟨_, rfl⟩))⟩
      case measure => simp [intOf]; omega
    · go_wp2_with fail
      go_ret
      exact Quiet.ofD rfl (by first | exact ⟨0, rfl⟩ | exact ⟨_, rfl⟩ | exact ⟨_, World.drewN_drewN _ _ _⟩ | (simp only [World.drewN_drewN]; exact ⟨_, rfl⟩))

end Go.Proofs.Ytcminkifdbdaaaa

namespace Go.Proofs.Ytcminkifdbdaaaa
set_option linter.unusedSimpArgs false
set_option linter.unusedVariables false
open Go.RowKit



end Go.Proofs.Ytcminkifdbdaaaa

namespace Go.Proofs.Ytcminkifdbdaaaa
set_option linter.unusedSimpArgs false
set_option linter.unusedVariables false
open Go.RowKit

theorem own_lt {w : World} {lo hi : Nat} {A : Option Addr} {l : List Int} (h : OwnI w lo hi A l) : Ints w (· < hi) A l := h.ints.mono fun _ h => h.2

end Go.Proofs.Ytcminkifdbdaaaa

namespace Go.Proofs.Ytcminkifdbdaaaa
set_option linter.unusedSimpArgs false
set_option linter.unusedVariables false
open Go.RowKit

/-- two rows of 0, of the call's own; the first one, then both with one number set -/
structure SetSt (W wx : World) (n m : Nat) (f h : Nat → Value) : Prop where
  bel : Below W.heap.size W wx
  size : wx.heap.size = W.heap.size + 2
  one : wx.rowIs W.heap.size 3 n f
  two : wx.rowIs (W.heap.size + 1) 3 m h

theorem SetSt.start (W : World) (n m : Nat) : SetSt W ((W.alloc (.cells (madeCells #[.int .i64 0] n) 3)).alloc (.cells (madeCells #[.int .i64 0] m) 3)) n m (fun _ => .int .i64 0) (fun _ => .int .i64 0) := by
  refine ⟨((Below.refl _ _).alloc (Nat.le_refl _) _).alloc (by simp) _, by simp, (World.rowIs_made W _ n _).alloc _, ?_⟩
  have := World.rowIs_made (W.alloc (.cells (madeCells #[.int .i64 0] n) 3)) (.int .i64 0) m 3
  simpa using this

theorem SetSt.drew {W wx : World} {n m : Nat} {f h : Nat → Value} (s : SetSt W wx n m f h) : SetSt W wx.drew n m f h := ⟨s.bel.drew, s.size, s.one, s.two⟩

end Go.Proofs.Ytcminkifdbdaaaa

namespace Go.Proofs.Ytcminkifdbdaaaa
set_option linter.unusedSimpArgs false
set_option linter.unusedVariables false
open Go.RowKit



end Go.Proofs.Ytcminkifdbdaaaa
