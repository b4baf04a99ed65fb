/- Texts in one: Draw, DrawB, DrawW, DrawG, DrawM, DrawT, DrawX, DrawY, DrawZ, DrawF. -/
import Derived.Test.YtlmaeadbomnhlaaGreatMB
import Derived.Test.YtlmaeadbomnhlaaGreatLiftK
import Derived.Laws.Bits64
import Derived.Test.YtlmaeadbomnhlaaGreatMC
import Derived.Deep.RegionWith
import Derived.Deep.DeepCutAuto
import Derived.Test.YtlmaeadbomnhlaaGreatMA
namespace Go.Proofs.YtlmaeadbomnhlaaGreat
set_option linter.unusedSimpArgs false
set_option linter.unusedVariables false
open Go.RowKit
theorem xor_i64 (a b : Int) (h1 : 0 ≤ a) (h2 : a < 4611686018427387904) (h3 : 0 ≤ b) (h4 : b < 4611686018427387904) : 0 ≤ bits .xor .i64 a b ∧ bits .xor .i64 a b < 4611686018427387904 := by
  obtain ⟨x, rfl⟩ := Int.eq_ofNat_of_zero_le h1
  obtain ⟨y, rfl⟩ := Int.eq_ofNat_of_zero_le h3
  have hx : x ^^^ y < 2 ^ 62 := Nat.xor_lt_two_pow (by omega) (by omega)
  have e1 : (BitVec.ofInt 64 (x : Int)).toNat = x := by
    rw [BitVec.ofInt_natCast, BitVec.toNat_ofNat]; exact Nat.mod_eq_of_lt (by omega)
  have e2 : (BitVec.ofInt 64 (y : Int)).toNat = y := by
    rw [BitVec.ofInt_natCast, BitVec.toNat_ofNat]; exact Nat.mod_eq_of_lt (by omega)
  show 0 ≤ IntKind.i64.wrap ((BitVec.ofInt 64 (x : Int) ^^^ BitVec.ofInt 64 (y : Int)).toNat : Int) ∧ IntKind.i64.wrap ((BitVec.ofInt 64 (x : Int) ^^^ BitVec.ofInt 64 (y : Int)).toNat : Int) < 4611686018427387904
  rw [BitVec.toNat_xor, e1, e2, IntKind.wrap_i64]
  omega
structure Kept (n : Nat) (w w' : World) : Prop where
  os : w'.os = w.os
  tape : w'.tape = w.tape
  output : w'.output = w.output
  size : w.heap.size ≤ w'.heap.size
  block : ∀ k, k < w.heap.size → k ≠ n → w'.heap[k]? = w.heap[k]?
theorem Kept.refl (n : Nat) (w : World) : Kept n w w := ⟨rfl, rfl, rfl, Nat.le_refl _, fun _ _ _ => rfl⟩
theorem Kept.trans {n : Nat} {a b c : World} (h : Kept n a b) (k : Kept n b c) : Kept n a c :=
  ⟨k.os.trans h.os, k.tape.trans h.tape, k.output.trans h.output, Nat.le_trans h.size k.size, fun i hi hn => (k.block i (Nat.lt_of_lt_of_le hi h.size) hn).trans (h.block i hi hn)⟩
theorem Kept.of_below {n : Nat} {w w' : World} (h : Below w.heap.size w w') : Kept n w w' := ⟨h.os, h.tape, h.output, h.size, fun k hk _ => h.block k hk⟩
theorem Kept.setCell {n : Nat} {a w : World} (h : Kept n a w) (o : Nat) (s : _) (u : Value) : Kept n a (w.setCell ⟨n, o, s⟩ u) :=
  h.trans ⟨rfl, rfl, rfl, by simp [World.setCell], fun k _ hn => Below.heap_setCell _ _ _ _ hn⟩
theorem Kept.drewN {n : Nat} {a w : World} (h : Kept n a w) (k : Nat) : Kept n a (w.drewN k) := h.trans ⟨rfl, rfl, rfl, Nat.le_refl _, fun _ _ _ => rfl⟩
theorem Kept.drew {n : Nat} {a w : World} (h : Kept n a w) : Kept n a w.drew := h.trans ⟨rfl, rfl, rfl, Nat.le_refl _, fun _ _ _ => rfl⟩
theorem Kept.alloc {n : Nat} {a w : World} (h : Kept n a w) (o : Obj) : Kept n a (w.alloc o) := h.trans (Kept.of_below ((Below.refl _ _).alloc (Nat.le_refl _) _))
theorem Kept.cell {n : Nat} {w w' : World} (h : Kept n w w') {p o : Nat} (hp : p < w.heap.size) (hn : p ≠ n) : w'.cell? ⟨p, o, none⟩ = w.cell? ⟨p, o, none⟩ := World.cell?_of_block (w := w) (h.block p hp hn)
theorem Kept.frozen {n : Nat} {w w' : World} (h : Kept n w w') {p o : Nat} (hp : p < w.heap.size) (hn : p ≠ n) : w'.frozen? ⟨p, o, none⟩ = w.frozen? ⟨p, o, none⟩ := World.frozen?_of_block (w := w) (h.block p hp hn)
theorem Kept.below {n B : Nat} {w w' : World} (h : Kept n w w') (hB : B ≤ n) (hw : B ≤ w.heap.size) : Below B w w' := ⟨h.os, h.tape, h.output, h.size, fun k hk => h.block k (by omega) (by omega)⟩
def Bytes (n : Nat) (w : World) (a : Option Addr) (len : Nat) (zs : List Int) : Prop :=
  len = 0 ∨ ∃ b off : Nat, a = some ⟨b, off, none⟩ ∧ b < n ∧ ∀ i, i < len → w.cell? ⟨b, off + i, none⟩ = some (.int .u8 (zs.getD i 0)) ∧ 0 ≤ zs.getD i 0 ∧ zs.getD i 0 ≤ 255
structure Reader (n : Nat) (w : World) (a : Option Addr) (len cap : Nat) (zs : List Int) (p : Int) : Prop where
  code : w.cell? ⟨n, 0, none⟩ = some (.slice a len cap)
  place : w.cell? ⟨n, 1, none⟩ = some (.int .i64 p)
  free : w.frozen? ⟨n, 1, none⟩ = false
  lt : n < w.heap.size
  len_le : len ≤ 2000
  p_lo : 0 ≤ p
  p_hi : p ≤ 30000
  bytes : Bytes n w a len zs
theorem Bytes.of_below {n : Nat} {w w' : World} {a : Option Addr} {len : Nat} {zs : List Int} (h : Bytes n w a len zs) (hn : n ≤ w.heap.size) (hb : Below w.heap.size w w') : Bytes n w' a len zs := by
  rcases h with h | ⟨b, off, ha, hlt, hc⟩
  · exact .inl h
  · exact .inr ⟨b, off, ha, hlt, fun i hi => ⟨(hb.cell (p := ⟨b, off + i, none⟩) (show b < _ by omega)).trans (hc i hi).1, (hc i hi).2⟩⟩
theorem Bytes.of_kept {n : Nat} {w w' : World} {a : Option Addr} {len : Nat} {zs : List Int} (h : Bytes n w a len zs) (hn : n ≤ w.heap.size) (hb : Kept n w w') : Bytes n w' a len zs := by
  rcases h with h | ⟨b, off, ha, hlt, hc⟩
  · exact .inl h
  · exact .inr ⟨b, off, ha, hlt, fun i hi => ⟨(hb.cell (by omega) (by omega)).trans (hc i hi).1, (hc i hi).2⟩⟩
theorem Reader.of_below {n : Nat} {w w' : World} {a : Option Addr} {len cap : Nat} {zs : List Int} {p : Int} (h : Reader n w a len cap zs p) (hb : Below w.heap.size w w') : Reader n w' a len cap zs p :=
  ⟨(hb.cell (p := ⟨n, 0, none⟩) h.lt).trans h.code, (hb.cell (p := ⟨n, 1, none⟩) h.lt).trans h.place, (hb.frozen (p := ⟨n, 1, none⟩) h.lt).trans h.free, Nat.lt_of_lt_of_le h.lt hb.size, h.len_le, h.p_lo, h.p_hi, h.bytes.of_below (Nat.le_of_lt h.lt) hb⟩
def Picked (n : Nat) (w : World) (a : Option Addr) (len cap : Nat) (zs : List Int) (p m : Int) (e : Ending) (w' : World) : Prop :=
  ∃ v : Int, e = .returned (.int .i64 v) ∧ 0 ≤ v ∧ v < m ∧ Kept n w w' ∧ Reader n w' a len cap zs (p + 1)
theorem Reader.next {n : Nat} {w : World} {a : Option Addr} {len cap : Nat} {zs : List Int} {p : Int} (h : Reader n w a len cap zs p) (hp : p < 30000) (k : Nat) : Reader n ((w.setCell ⟨n, 1, none⟩ (.int .i64 (p + 1))).drewN k) a len cap zs (p + 1) :=
  ⟨by
      show (w.setCell ⟨n, 1, none⟩ _).cell? _ = _
      rw [World.cell?_setCell_other _ _ _ _ (by simp)]; exact h.code,
    by show (w.setCell ⟨n, 1, none⟩ _).cell? _ = _; exact World.cell?_setCell_same' _ _ _ (by rw [h.place]; rfl),
    by show (w.setCell ⟨n, 1, none⟩ _).frozen? _ = _; rw [World.frozen?_setCell]; exact h.free,
    by show n < (w.setCell ⟨n, 1, none⟩ _).heap.size; simpa [World.setCell] using h.lt,
    h.len_le, by have := h.p_lo; omega, by omega,
    h.bytes.of_kept (Nat.le_of_lt h.lt) (((Kept.refl n w).setCell 1 none _).drewN k)⟩
theorem kept_next {n : Nat} {w : World} (p : Int) (k : Nat) : Kept n w ((w.setCell ⟨n, 1, none⟩ (.int .i64 p)).drewN k) := ((Kept.refl n w).setCell 1 none _).drewN k
set_option maxHeartbeats 1000000 in
set_option maxRecDepth 100000 in
theorem pick (n : Nat) (w : World) (a : Option Addr) (len cap : Nat) (zs : List Int) (p m : Int) (h : Reader n w a len cap zs p) (hp : p < 30000) (hm : 1 ≤ m) (hm' : m ≤ 30000) :
    Calls Tryz.prog 27 #[.pointer (some ⟨n, 0, none⟩), .int .i64 m] w (Picked n w a len cap zs p m) := by
  have c0 := h.code
  have c1 := h.place
  have c2 := h.free
  have p0 := h.p_lo
  have l0 := h.len_le
  have R0 := h.next hp 0
  by_cases hl : len = 0
  · subst hl
    have hd : ((0 : Nat) : Int) = 0 := rfl
    go_enter Tryz.func27, Tryz.ntmps27
    go_wp2
    go_ret
    exact ⟨0, rfl, by omega, by omega, kept_next _ 0, R0⟩
  obtain ⟨b, off, rfl, hb, hc⟩ := h.bytes.resolve_left hl
  have hne : b ≠ n := by omega
  have hne' : n ≠ b := by omega
  have hl0 : ((len : Int) == 0) = false := by simp; omega
  by_cases hlt : p < (len : Int)
  · obtain ⟨hz, hz0, hz1⟩ := hc p.toNat (by omega)
    generalize zs.getD p.toNat 0 = z at hz hz0 hz1
    have e1 : z % m < m := Int.emod_lt_of_pos _ (by omega)
    have e2 : 0 ≤ z % m := Int.emod_nonneg _ (by omega)
    clear hc
    go_enter Tryz.func27, Tryz.ntmps27
    go_wp2
    go_ret
    exact ⟨_, rfl, e2, e1, kept_next _ 0, R0⟩
  · have f1 : p % (len : Int) < (len : Int) := Int.emod_lt_of_pos _ (by omega)
    have f2 : 0 ≤ p % (len : Int) := Int.emod_nonneg _ (by omega)
    have f3 : (p * 7 + 3) % (len : Int) < (len : Int) := Int.emod_lt_of_pos _ (by omega)
    have f4 : 0 ≤ (p * 7 + 3) % (len : Int) := Int.emod_nonneg _ (by omega)
    have f5 : 0 ≤ p / (len : Int) := Int.ediv_nonneg (by omega) (by omega)
    have f6 : p / (len : Int) ≤ p := Int.ediv_le_self _ (by omega)
    obtain ⟨hx, hx0, hx1⟩ := hc (p % (len : Int)).toNat (by omega)
    obtain ⟨hy, hy0, hy1⟩ := hc ((p * 7 + 3) % (len : Int)).toNat (by omega)
    generalize zs.getD (p % (len : Int)).toNat 0 = x at hx hx0 hx1
    generalize zs.getD ((p * 7 + 3) % (len : Int)).toNat 0 = y at hy hy0 hy1
    have hlp : 0 < (len : Int) := by omega
    clear hc
    go_enter Tryz.func27, Tryz.ntmps27
    go_wp2
    go_quiet (fail)
    go_wp2
    go_ret
    have X0 : 0 ≤ x * 131 + y * 1117 + p * 29 + p / (len : Int) * 53 := by omega
    have X1 : x * 131 + y * 1117 + p * 29 + p / (len : Int) * 53 < 4611686018427387904 := by omega
    have hb := xor_i64 (x * 131 + y * 1117 + p * 29 + p / (len : Int) * 53) ((x * 131 + y * 1117 + p * 29 + p / (len : Int) * 53) / 64) X0 X1 (by omega) (by omega)
    exact ⟨_, rfl, by rw [Int.tmod_eq_emod_of_nonneg hb.1]; exact Int.emod_nonneg _ (by omega), by rw [Int.tmod_eq_emod_of_nonneg hb.1]; exact Int.emod_lt_of_pos _ (by omega), kept_next _ _, h.next hp _⟩
def Odd (n : Nat) (w : World) (a : Option Addr) (len cap : Nat) (zs : List Int) (p : Int) (e : Ending) (w' : World) : Prop :=
  ∃ v : Bool, e = .returned (.bool v) ∧ Kept n w w' ∧ Reader n w' a len cap zs (p + 1)
set_option maxHeartbeats 400000 in
theorem odd (n : Nat) (w : World) (a : Option Addr) (len cap : Nat) (zs : List Int) (p m : Int) (h : Reader n w a len cap zs p) (hp : p < 30000) (hm : 1 ≤ m) (hm' : m ≤ 30000) :
    Calls Tryz.prog 28 #[.pointer (some ⟨n, 0, none⟩), .int .i64 m] w (Odd n w a len cap zs p) := by
  have p0 : 0 < m := by omega
  go_enter Tryz.func28, Tryz.ntmps28
  go_wp2_with fail
  refine (pick n _ a len cap zs p m h hp hm hm').mono ?_
  intro e w1 hP
  obtain ⟨v, rfl, hv0, hv1, k1, R1⟩ := hP
  go_wp2_with fail
  go_ret
  exact ⟨_, rfl, k1, R1⟩
theorem staysK {W : World} {n p o : Nat} {a : Value} (hp : p < W.heap.size) (hn : p ≠ n) (h : W.cell? ⟨p, o, none⟩ = some a) : ∀ w1, Kept n W w1 → w1.cell? ⟨p, o, none⟩ = some a :=
  fun _ hb => (hb.cell hp hn).trans h
theorem staysKF {W : World} {n p o : Nat} {b : Bool} (hp : p < W.heap.size) (hn : p ≠ n) (h : W.frozen? ⟨p, o, none⟩ = b) : ∀ w1, Kept n W w1 → w1.frozen? ⟨p, o, none⟩ = b :=
  fun _ hb => (hb.frozen hp hn).trans h
theorem Kept.setNew {n : Nat} {a w : World} (h : Kept n a w) {q : Addr} (hq : a.heap.size ≤ q.block) (u : Value) : Kept n a (w.setCell q u) :=
  ⟨h.os, h.tape, h.output, by have := h.size; simpa [World.setCell] using this, fun k hk hn => by rw [Below.heap_setCell _ _ _ _ (by omega)]; exact h.block k hk hn⟩
theorem Reader.setFar {n : Nat} {w : World} {a : Option Addr} {len cap : Nat} {zs : List Int} {p : Int} (h : Reader n w a len cap zs p) {q : Addr} (hq : n < q.block) (u : Value) : Reader n (w.setCell q u) a len cap zs p :=
  ⟨(World.cell?_of_block (w := w) (Below.heap_setCell w q u n (by omega))).trans h.code, (World.cell?_of_block (w := w) (Below.heap_setCell w q u n (by omega))).trans h.place,
    by rw [World.frozen?_setCell]; exact h.free, by simpa [World.setCell] using h.lt, h.len_le, h.p_lo, h.p_hi, by
      rcases h.bytes with h | ⟨b, off, ha, hlt, hc⟩
      · exact .inl h
      · exact .inr ⟨b, off, ha, hlt, fun i hi => ⟨(World.cell?_of_block (w := w) (Below.heap_setCell w q u b (by omega))).trans (hc i hi).1, (hc i hi).2⟩⟩⟩
end Go.Proofs.YtlmaeadbomnhlaaGreat

namespace Go.Proofs.YtlmaeadbomnhlaaGreat
set_option linter.unusedSimpArgs false
set_option linter.unusedVariables false
open Go.RowKit
def Opened (w : World) (e : Ending) (w' : World) : Prop :=
  e = .returned (.pointer (some ⟨w.heap.size, 0, none⟩)) ∧ Below w.heap.size w w' ∧ ∃ (a : Option Addr) (len cap : Nat) (zs : List Int), Reader w.heap.size w' a len cap zs 0
theorem opened_of {w : World} {a : Option Addr} {len cap : Nat} {zs : List Int} (hl : len ≤ 2000) (hb : Bytes w.heap.size w a len zs) :
    Opened w (.returned (.pointer (some ⟨w.heap.size, 0, none⟩))) (w.alloc (.cells #[.slice a len cap, .int .i64 0] 58)) := by
  have hB : Below w.heap.size w (w.alloc (.cells #[.slice a len cap, .int .i64 0] 58)) := (Below.refl _ _).alloc (Nat.le_refl _) _
  exact ⟨rfl, hB, a, len, cap, zs, by simp [go_sem], by simp [go_sem], by simp [go_sem], by simp, hl, by omega, by omega, hb.of_below (Nat.le_refl _) hB⟩
theorem u8_in {z : Int} (h : (Lit.int .u8 z).wf = true) : 0 ≤ z ∧ z ≤ 255 := by simpa [Lit.wf, IntKind.min, IntKind.max, IntKind.signed, IntKind.bits] using h
theorem bytes_of {w : World} {x : Addr} {len cap : Nat} {zs : List Int} (hl : len ≤ cap) (hz : zs.length = cap) (h0 : 0 < len)
    (hcell : ∀ i, i < zs.length → w.cell? (x.add i) = some (.int .u8 (zs.getD i 0))) (hwz : ∀ n ∈ zs, (Lit.int .u8 n).wf = true) : ∃ b off, x = ⟨b, off, none⟩ ∧ ∀ k, k ≤ len → Bytes w.heap.size w (some ⟨b, off, none⟩) k zs := by
  obtain ⟨b, off, spot⟩ := x
  have hc := hcell 0 (by omega)
  have hspot : spot = none := by simpa [Addr.add] using World.cell?_spot hc
  subst hspot
  refine ⟨b, off, rfl, fun k hk => ?_⟩
  refine .inr ⟨b, off, rfl, ?_, fun i hi => ?_⟩
  · have := World.block_lt_of_cell? w _ hc; simpa [Addr.add] using this
  · have h1 := hcell i (by omega)
    have h2 : zs.getD i 0 ∈ zs := by
      rw [List.getD_eq_getElem?_getD, List.getElem?_eq_getElem (by omega)]; exact List.getElem_mem _
    have e : (Addr.add ⟨b, off, none⟩ i) = ⟨b, off + i, none⟩ := by
      by_cases hi0 : i = 0
      · subst hi0; simp [Addr.add]
      · simp [Addr.add, hi0]
    rw [e] at h1
    exact ⟨h1, u8_in (hwz _ h2)⟩
set_option maxHeartbeats 400000 in
theorem l20Open (a : Option Addr) (len cap : Nat) (zs : List Int) (w : World) (h : IsRow .u8 w a len cap zs) :
    Calls Tryz.prog 11 #[.slice a len cap] w (Opened w) := by
  rcases h with ⟨rfl, rfl, rfl, rfl⟩ | ⟨x, rfl, hl, hm, hz, hcell, hwz⟩
  · go_enter Tryz.func11, Tryz.ntmps11
    go_wp2
    go_ret
    exact opened_of (zs := []) (by omega) (.inl rfl)
  · by_cases h0 : len = 0
    · subst h0
      go_enter Tryz.func11, Tryz.ntmps11
      go_wp2
      go_ret
      exact opened_of (zs := zs) (by omega) (.inl rfl)
    · obtain ⟨b, off, rfl, hB⟩ := bytes_of hl hz (by omega) hcell hwz
      clear hcell hwz hz
      unfold maxLen at hm
      by_cases hc : 2000 < len
      · have b1 := hB 2000 (by omega)
        have hc1 : (2000 : Int) < (len : Int) := by omega
        have hc2 : ¬ cap < 2000 := by omega
        clear hB
        go_enter Tryz.func11, Tryz.ntmps11
        go_wp2
        go_ret
        exact opened_of (by omega) b1
      · have b1 := hB len (by omega)
        have hc1 : ¬ (2000 : Int) < (len : Int) := by omega
        clear hB
        go_enter Tryz.func11, Tryz.ntmps11
        go_wp2
        go_ret
        exact opened_of (by omega) b1
theorem IsRow.below {k : IntKind} {w w' : World} {a : Option Addr} {len cap : Nat} {zs : List Int} (h : IsRow k w a len cap zs) (hb : Below w.heap.size w w') : IsRow k w' a len cap zs := by
  rcases h with h | ⟨x, h1, h2, h3, h4, h5, h6⟩
  · exact .inl h
  · exact .inr ⟨x, h1, h2, h3, h4, fun i hi => (hb.cell (World.block_lt_of_cell? w _ (h5 i hi))).trans (h5 i hi), h6⟩
end Go.Proofs.YtlmaeadbomnhlaaGreat

namespace Go.Proofs.YtlmaeadbomnhlaaGreat
set_option linter.unusedSimpArgs false
set_option linter.unusedVariables false
open Go.RowKit
theorem Reader.of_blocks {n : Nat} {w w' : World} {a : Option Addr} {len cap : Nat} {zs : List Int} {p : Int} (h : Reader n w a len cap zs p) (hk : ∀ b, b ≤ n → w'.heap[b]? = w.heap[b]?) (hs : w.heap.size ≤ w'.heap.size) : Reader n w' a len cap zs p :=
  ⟨(World.cell?_of_block (w := w) (hk n (Nat.le_refl _))).trans h.code, (World.cell?_of_block (w := w) (hk n (Nat.le_refl _))).trans h.place, (World.frozen?_of_block (w := w) (hk n (Nat.le_refl _))).trans h.free,
    Nat.lt_of_lt_of_le h.lt hs, h.len_le, h.p_lo, h.p_hi, by
      rcases h.bytes with h | ⟨b, off, ha, hlt, hc⟩
      · exact .inl h
      · exact .inr ⟨b, off, ha, hlt, fun i hi => ⟨(World.cell?_of_block (w := w) (hk b (Nat.le_of_lt hlt))).trans (hc i hi).1, (hc i hi).2⟩⟩⟩
theorem Reader.below {n B : Nat} {w w' : World} {a : Option Addr} {len cap : Nat} {zs : List Int} {p : Int} (h : Reader n w a len cap zs p) (hb : Below B w w') (hn : n < B) : Reader n w' a len cap zs p :=
  h.of_blocks (fun b hb' => hb.block b (by omega)) hb.size
theorem Grows.kept {n : Nat} {w w' : World} {base : Nat} {v : Value} {l : List Int} (h : Grows w base v l) (hk : Kept n w w') (hn : n < base) : Grows w' base v l :=
  ownsRow_of_block h fun k hk' => hk.block k (World.ownsRow.lt h k hk').2 (by have := (World.ownsRow.lt h k hk').1; omega)
theorem OwnI.kept {n : Nat} {w w' : World} {lo hi : Nat} {A : Option Addr} {l : List Int} (h : OwnI w lo hi A l) (hk : Kept n w w') (hn : n < lo) (hh : hi ≤ w.heap.size) : OwnI w' lo hi A l := h.keep fun b h1 h2 => hk.block b (by omega) (by omega)
theorem OwnR.kept {n : Nat} {w w' : World} {lo hi : Nat} {A : Option Addr} {g : List (List Int)} (h : OwnR w lo hi A g) (hk : Kept n w w') (hn : n < lo) (hh : hi ≤ w.heap.size) : OwnR w' lo hi A g := h.keep fun b h1 h2 => hk.block b (by omega) (by omega)
theorem GrowsR.kept {n : Nat} {w w' : World} {base hi : Nat} {v : Value} {A : Nat → Option Addr} {C : Nat → Nat} {g : List (List Int)} (h : GrowsR w base hi v A C g) (hk : Kept n w w') (hn : n < base) : GrowsR w' base hi v A C g :=
  ⟨ownsRow_of_block h.top fun k hk' => hk.block k (World.ownsRow.lt h.top k hk').2 (by have := (World.ownsRow.lt h.top k hk').1; omega),
    h.rows.keep fun b h1 h2 => hk.block b (by have := h.hile; omega) (by omega), h.hib, Nat.le_trans h.hile hk.size⟩
theorem Kept.appended {n : Nat} {a w w1 : World} {v : Value} {o : Obj} (h : Kept n a w) (hg : (w.alloc o).grownBy w1 v.ownBlock) (hv : ∀ k, v.ownBlock = some k → a.heap.size ≤ k) : Kept n a w1 :=
  ⟨hg.os.trans h.os, hg.tape.trans h.tape, hg.output.trans h.output, Nat.le_trans h.size (Nat.le_trans (by simp) hg.size), fun k hk hn => by
    have hs := h.size
    rw [hg.block k (by simp; omega) (fun e => by have := hv k e.symm; omega), Below.heap_alloc _ _ _ (by omega)]; exact h.block k hk hn⟩
theorem Reader.appended {n : Nat} {w w1 : World} {v : Value} {o : Obj} {a : Option Addr} {len cap : Nat} {zs : List Int} {p : Int} (h : Reader n w a len cap zs p) (hg : (w.alloc o).grownBy w1 v.ownBlock) (hv : ∀ k, v.ownBlock = some k → n < k) : Reader n w1 a len cap zs p :=
  h.of_blocks (fun b hb => by
    have := h.lt
    rw [hg.block b (by simp; omega) (fun e => by have := hv b e.symm; omega), Below.heap_alloc _ _ _ (by omega)]) (Nat.le_trans (by simp) hg.size)
theorem Grows.lo {w : World} {base : Nat} {v : Value} {l : List Int} (h : Grows w base v l) : ∀ k, v.ownBlock = some k → base ≤ k := fun k hk => (World.ownsRow.lt h k hk).1
theorem GrowsR.lo {w : World} {base hi : Nat} {v : Value} {A : Nat → Option Addr} {C : Nat → Nat} {g : List (List Int)} (h : GrowsR w base hi v A C g) : ∀ k, v.ownBlock = some k → base ≤ k := fun k hk => (World.ownsRow.lt h.top k hk).1
def TabSt (n : Nat) (w : World) (a : Option Addr) (len cap : Nat) (zs : List Int) (p : Int) (cols : Nat) (v : Value) (k : Nat) (wr : World) : Prop :=
  ∃ (g : List (List Int)) (A : Nat → Option Addr) (C : Nat → Nat) (p' : Int), g.length = k ∧ (∀ i, i < k → (rowAt g i).length = cols) ∧ GrowsR wr w.heap.size wr.heap.size v A C g ∧ Kept n w wr ∧ Reader n wr a len cap zs p' ∧ p ≤ p' ∧ p' ≤ p + 32 * (k : Int)
def RowSt (n : Nat) (wo : World) (a : Option Addr) (len cap : Nat) (zs : List Int) (p : Int) (v : Value) (m : Nat) (wr : World) : Prop :=
  ∃ (l : List Int) (p' : Int), l.length = m ∧ Grows wr wo.heap.size v l ∧ Kept n wo wr ∧ Reader n wr a len cap zs p' ∧ p ≤ p' ∧ p' ≤ p + 2 * (m : Int)
def DrawnG (n : Nat) (w : World) (a : Option Addr) (len cap : Nat) (zs : List Int) (p : Int) (e : Ending) (w' : World) : Prop :=
  ∃ (g : List (List Int)) (T : Option Addr) (c : Nat) (p' : Int), e = .returned (.slice T g.length c) ∧ g.length ≤ c ∧ c ≤ maxLen ∧ g.length ≤ 17 ∧ (∀ i, i < g.length → (rowAt g i).length ≤ 16) ∧
    Kept n w w' ∧ Reader n w' a len cap zs p' ∧ p ≤ p' ∧ p' ≤ p + 600 ∧ OwnR w' w.heap.size w'.heap.size T g
theorem tab3' {w1 : World} {k : Nat} {v : Int} (h0 : w1.cell? ⟨k, 0, none⟩ = some (.int .i64 2)) (h1 : w1.cell? ⟨k, 1, none⟩ = some (.int .i64 3)) (h2 : w1.cell? ⟨k, 2, none⟩ = some (.int .i64 10)) (hv0 : 0 ≤ v) (hv1 : v < 3) :
    ∃ high : Int, 1 ≤ high ∧ high ≤ 10 ∧ w1.cell? ⟨k, v.toNat, none⟩ = some (.int .i64 high) := by
  have : v = 0 ∨ v = 1 ∨ v = 2 := by omega
  rcases this with rfl | rfl | rfl
  · exact ⟨2, by omega, by omega, h0⟩
  · exact ⟨3, by omega, by omega, h1⟩
  · exact ⟨10, by omega, by omega, h2⟩
theorem tab2 {v : Int} (h0 : 0 ≤ v) (h1 : v < 2) : ∃ y : Int, (∀ (w : World) (k : Nat), w.cell? ⟨k, 0, none⟩ = some (.int .i64 (-10)) → w.cell? ⟨k, 1, none⟩ = some (.int .i64 10) → w.cell? ⟨k, v.toNat, none⟩ = some (.int .i64 y)) ∧
    ([Value.int .i64 (-10), Value.int .i64 10] : List Value)[v.toNat]? = some (.int .i64 y) := by
  have : v = 0 ∨ v = 1 := by omega
  rcases this with rfl | rfl
  · exact ⟨-10, fun w k h _ => h, rfl⟩
  · exact ⟨10, fun w k _ h => h, rfl⟩
def poke (g : List (List Int)) (x : Int) : List (List Int) := g.set 0 ((rowAt g 0).set 0 x)
theorem poke_length (g : List (List Int)) (x : Int) : (poke g x).length = g.length := by simp [poke]
theorem rowAt_poke (g : List (List Int)) (x : Int) (i : Nat) (h : i < g.length) : rowAt (poke g x) i = if i = 0 then (rowAt g 0).set 0 x else rowAt g i := by
  unfold poke
  by_cases e : i = 0
  · subst e; rw [if_pos rfl, rowAt_eq _ _ (by simpa using h)]; simp
  · rw [if_neg e, rowAt_eq _ _ (by simpa using h), rowAt_eq _ _ h]; simp [List.getElem_set, Ne.symm e]
theorem nth_set (l : List Int) (x : Int) (i : Nat) (h : i < l.length) : nth (l.set 0 x) i = if i = 0 then x else nth l i := by
  by_cases e : i = 0
  · subst e; rw [if_pos rfl, nth_eq _ _ (by simpa using h)]; simp
  · rw [if_neg e, nth_eq _ _ (by simpa using h), nth_eq _ _ h]; simp [List.getElem_set, Ne.symm e]
theorem poke_row_length (g : List (List Int)) (x : Int) (i : Nat) (h : i < g.length) : (rowAt (poke g x) i).length = (rowAt g i).length := by
  rw [rowAt_poke g x i h]
  split
  · rename_i e; subst e; simp
  · rfl
theorem OwnR.poke {w : World} {lo hi : Nat} {b0 : Nat} {T : Option Addr} {g : List (List Int)} {c : Nat} (h : OwnR w lo hi T g) (h0 : 0 < g.length) (hr : 0 < (rowAt g 0).length) (x : Int)
    (hT : ∀ b, T = some ⟨b, 0, none⟩ → w.cell? ⟨b, 0, none⟩ = some (.slice (some ⟨b0, 0, none⟩) (rowAt g 0).length c)) : OwnR (w.setCell ⟨b0, 0, none⟩ (.int .i64 x)) lo hi T (poke g x) := by
  obtain ⟨b, N, f, A, C, rfl, h1, h2, h3, h4, h5, h6⟩ := h h0
  have hA0 : A 0 = some ⟨b0, 0, none⟩ := by
    have e1 := hT b rfl
    rw [h4.cell (by omega), h5 0 h0] at e1
    injection e1 with e1; injection e1
  obtain ⟨b0', N0, f0, e0, k1, k2, k3, k4, k5⟩ := h6.own 0 h0 hr
  rw [hA0] at e0; injection e0 with e0; injection e0 with e0; subst e0
  intro _
  refine ⟨b, N, f, A, C, rfl, h1, h2, by rw [poke_length]; exact h3, h4.setOther (Ne.symm (rowIs_ne' k3 h4)) _, fun i hi => ?_, ⟨fun i hi => ?_, fun i hi => ?_, fun i j hi hj hne p q => ?_⟩⟩
  · rw [poke_length] at hi; rw [poke_row_length g x i hi]; exact h5 i hi
  · rw [poke_length] at hi; rw [poke_row_length g x i hi]; exact h6.cap i hi
  · rw [poke_length] at hi
    by_cases e : i = 0
    · subst e
      intro _
      refine ⟨b0, N0, _, hA0, k1, k2, k3.set 0 _, by rw [poke_row_length g x 0 hi]; exact k4, fun j hj => ?_⟩
      rw [poke_row_length g x 0 hi] at hj
      rw [rowAt_poke g x 0 hi, if_pos rfl, nth_set _ _ _ hj]
      by_cases ej : j = 0
      · rw [if_pos ej, if_pos ej]
      · rw [if_neg ej, if_neg ej]; exact k5 j hj
    · rw [rowAt_poke g x i hi, if_neg e]
      intro hp
      obtain ⟨bi, Ni, fi, ei, m1, m2, m3, m4, m5⟩ := h6.own i hi hp
      refine ⟨bi, Ni, fi, ei, m1, m2, m3.setOther (fun e' => ?_) _, m4, m5⟩
      exact h6.apart i 0 hi h0 e hp hr (by rw [ei, hA0, show bi = b0 from e'])
  · rw [poke_length] at hi hj
    rw [poke_row_length g x i hi] at p
    rw [poke_row_length g x j hj] at q
    exact h6.apart i j hi hj hne p q
end Go.Proofs.YtlmaeadbomnhlaaGreat

namespace Go.Proofs.YtlmaeadbomnhlaaGreat
set_option linter.unusedSimpArgs false
set_option linter.unusedVariables false
open Go.RowKit
set_option maxHeartbeats 4000000 in
set_option maxRecDepth 100000 in
theorem l20Game (n : Nat) (w : World) (a : Option Addr) (len cap : Nat) (zs : List Int) (p most m : Int) (h : Reader n w a len cap zs p) (hp : p < 20000) (hq1 : 1 ≤ most) (hq2 : most ≤ 16) (hm : 1 ≤ m) (hm' : m ≤ 30000) :
    Calls Tryz.prog 50 #[.pointer (some ⟨n, 0, none⟩), .int .i64 most, .int .i64 m] w (DrawnG n w a len cap zs p) := by
  have hn := h.lt
  have p0 := h.p_lo
  obtain ⟨i0, hi0, hz0, hz1, hz2⟩ := info_parts infoI
  obtain ⟨i1, hi1, hy0, hy1, hy2⟩ := info_parts infoR
  have HI0 := Lib.hid hi0
  have HZ0 := Lib.hid hz0
  have HZ1 := Lib.hid hz1
  have HZ2 := Lib.hid hz2
  have HI1 := Lib.hid hi1
  have HY0 := Lib.hid hy0
  have HY1 := Lib.hid hy1
  have HY2 := Lib.hid hy2
  clear hi0 hz0 hz1 hz2 hi1 hy0 hy1 hy2
  go_enter Tryz.func50, Tryz.ntmps50
  go_wp2_with fail
  refine (pick n _ a len cap zs p most h (by omega) (by omega) (by omega)).mono ?_
  intro e w1 hP
  obtain ⟨v1, rfl, v10, v11, k1, R1⟩ := hP
  go_wp2_with fail
  refine (pick n _ a len cap zs (p + 1) most R1 (by omega) (by omega) (by omega)).mono ?_
  intro e w2 hP
  obtain ⟨v2, rfl, v20, v21, k2, R2⟩ := hP
  have K2 := k1.trans k2
  clear k1 k2 R1 h
  go_wp2_with fail
  have R2' := R2.of_below ((Below.refl w2.heap.size w2).alloc (Nat.le_refl _) (.cells #[.int .i64 2, .int .i64 3, .int .i64 10] 3))
  refine (pick n _ a len cap zs (p + 1 + 1) 3 R2' (by omega) (by omega) (by omega)).mono ?_
  intro e w3 hP
  obtain ⟨v3, rfl, v30, v31, k3, R3⟩ := hP
  have hn2 := R2.lt
  have K3 := (K2.alloc (.cells #[.int .i64 2, .int .i64 3, .int .i64 10] 3)).trans k3
  obtain ⟨high, hh0, hh1, hhc⟩ := tab3' (w1 := w3) (k := w2.heap.size) ((k3.cell (p := w2.heap.size) (o := 0) (by simp) (by omega)).trans (by simp [go_sem])) ((k3.cell (p := w2.heap.size) (o := 1) (by simp) (by omega)).trans (by simp [go_sem])) ((k3.cell (p := w2.heap.size) (o := 2) (by simp) (by omega)).trans (by simp [go_sem])) v30 v31
  clear k3 R2 R2' K2
  have hs3 := K3.size
  have T0 : Hid (TabSt n w a len cap zs (p + 3) (1 + v2).toNat (.slice (some ⟨w3.heap.size, 0, none⟩) 0 0) 0 (w3.alloc (.cells #[] 52))) :=
    ⟨[], fun _ => none, fun _ => 0, p + 1 + 1 + 1, rfl, fun i hi => by omega, (GrowsR.lit w3 hs3 _ _).up (by simp) (Nat.le_refl _), K3.alloc _, R3.of_below ((Below.refl _ _).alloc (Nat.le_refl _) _), by omega, by omega⟩
  go_wp2_with fail
  clear hhc R3 K3
  go_loopw [10, 11] (fun v i wr => ∃ k : Nat, (k : Int) ≤ 1 + v1 ∧ i = .int .i64 k ∧ Hid (TabSt n w a len cap zs (p + 3) (1 + v2).toNat v k wr)) (fun _ i _ => (1 + v1).toNat - (intOf i).toNat)
  case atStart => exact ⟨0, by omega, rfl, T0⟩
  case round =>
    clear T0 hs3
    obtain ⟨k, hk, rfl, HT⟩ := hrel
    obtain ⟨g, AA, CC, p', hgl, hgr, hG, hK, hR, hp1, hp2⟩ := HT.out
    have HGL := Lib.hid hgl
    have HGR := Lib.hid hgr
    have HG := Lib.hid hG
    have HKp := Lib.hid hK
    have HRd := Lib.hid hR
    have hws := hK.size
    have hnw := hR.lt
    clear hgl hgr hG hK hR HT
    by_cases hlt : (k : Int) < 1 + v1
    · obtain ⟨wo, rfl⟩ : ∃ wo : World, wo = wr := ⟨_, rfl⟩
      have S0 : Hid (RowSt n wo a len cap zs p' (.slice (some ⟨wo.heap.size, 0, none⟩) 0 0) 0 (wo.alloc (.cells #[] 3))) :=
        ⟨[], p', rfl, Grows.lit wo (Nat.le_refl _), (Kept.refl _ _).alloc _, HRd.out.of_below ((Below.refl _ _).alloc (Nat.le_refl _) _), Int.le_refl _, by omega⟩
      go_wp2_with fail
      go_loopw [12, 13] (fun v i wr => ∃ x : Nat, (x : Int) ≤ 1 + v2 ∧ i = .int .i64 x ∧ Hid (RowSt n wo a len cap zs p' v x wr)) (fun _ i _ => (1 + v2).toNat - (intOf i).toNat)
      case atStart => exact ⟨0, by omega, rfl, S0⟩
      case round =>
        clear S0
        obtain ⟨x, hx, rfl, HS⟩ := hrel
        obtain ⟨l, q, hll, hO, hK, hR, hq3, hq4⟩ := HS.out
        have HLL := Lib.hid hll
        have HO := Lib.hid hO
        have HK := Lib.hid hK
        clear hll hO hK HS
        have hos := HK.out.size
        by_cases hlx : (x : Int) < 1 + v2
        · go_wp2_with fail
          refine (pick n _ a len cap zs q high hR (by omega) (by omega) (by omega)).mono ?_
          intro e w4 hP
          obtain ⟨v4, rfl, v40, v41, k4, R4⟩ := hP
          go_wp2_with fail
          refine (pick n _ a len cap zs (q + 1) high R4 (by omega) (by omega) (by omega)).mono ?_
          intro e w5 hP
          obtain ⟨v5, rfl, v50, v51, k5, R5⟩ := hP
          have K5 := Lib.hid (HK.out.trans (k4.trans k5))
          have O5 := Lib.hid (HO.out.kept (k4.trans k5) hnw)
          have hos5 := K5.out.size
          clear k4 k5 R4
          go_wp2_with (at_builtin; refine wpList_append_own_at _ rfl (.tmp 39) (.tmp 47) _ rfl wo.heap.size 3 i0 (.int .i64 0) 1 8 Tryz.underlying52 HI0.out HZ0.out HZ1.out HZ2.out rfl (by decide) _ _ _ rfl (O5.out.alloc _) ⟨w5.heap.size, 0, none⟩ 1 1 [.int .i64 (v4 - v5)] rfl rfl (cell_one_new _ _ _) ?c2 ?c3 ?c4 ?c5 ?_)
          case c2 => first | rfl | (intro u hu; simp at hu; subst hu; rfl)
          case c3 => rw [HLL.out]; unfold maxLen; omega
          case c4 => rw [HLL.out]; omega
          case c5 => first | omega | (simp; omega)
          intro v' w6 hown hgrow _ _
          have HN : Hid (RowSt n wo a len cap zs p' v' (x + 1) w6) :=
            ⟨l ++ [v4 - v5], q + 1 + 1, by rw [List.length_append, HLL.out]; rfl, Grows.snoc hown, K5.out.appended hgrow O5.out.lo, R5.appended hgrow (fun k hk => by have := O5.out.lo k hk; omega), by omega, by omega⟩
          clear hown hgrow
          go_wp2_with fail
          go_roundw
          case rel => exact ⟨x + 1, by omega, by go_num, HN⟩
          case measure => simp [intOf]; omega
        · have hx2 : x = (1 + v2).toNat := by omega
          obtain ⟨An, cn, hv, hcn1, hcn2, hon⟩ := HO.out.own'
          have HX := Lib.hid hx2
          have HGV := Lib.hid (HG.out.kept HK.out (by omega))
          have HON := Lib.hid hon
          have hnl := hR.lt
          subst hv
          clear hon hx2
          go_wp2_with (at_builtin; refine wpList_append_own_at _ rfl (.tmp 49) (.tmp 51) _ rfl w.heap.size 52 i1 (.slice none 0 0) 1 24 Tryz.underlying23 HI1.out HY0.out HY1.out HY2.out rfl (by decide) _ _ _ rfl (HGV.out.alloc _) ⟨wr.heap.size, 0, none⟩ 1 1 [.slice An l.length cn] rfl rfl (cell_one_new _ _ _) ?c2 ?c3 ?c4 ?c5 ?_)
          case c2 => first | rfl | (intro u hu; simp at hu; subst hu; rfl)
          case c3 => rw [HGL.out]; unfold maxLen; omega
          case c4 => rw [HGL.out]; omega
          case c5 => first | omega | (simp; omega)
          intro v' w4 hown hgrow _ hat
          have HN : Hid (TabSt n w a len cap zs (p + 3) (1 + v2).toNat v' (k + 1) w4) := by
            obtain ⟨A', C', hg'⟩ := HGV.out.snoc HON.out hcn1 hcn2 hws hown hgrow (by rcases hat with e | e; exact .inl e; exact .inr (by rw [e]; try simp))
            refine ⟨g ++ [l], A', C', q, by rw [List.length_append, HGL.out]; rfl, fun i hi => ?_, hg', (HKp.out.trans HK.out).appended hgrow HGV.out.lo, hR.appended hgrow (fun k hk => by have := HGV.out.lo k hk; omega), by omega, by omega⟩
            by_cases e : i < k
            · rw [rowAt_snoc_lt _ _ _ (by rw [HGL.out]; exact e)]; exact HGR.out i e
            · have e2 : i = g.length := by rw [HGL.out]; omega
              rw [e2, rowAt_snoc_eq, HLL.out, HX.out]
          clear hown hgrow hat
          go_wp2_with fail
          go_roundw
          case rel => exact ⟨k + 1, by omega, by go_num, HN⟩
          case measure => simp [intOf]; omega
    · -- all rows are there
      go_wp2_with fail
      refine (odd n _ a len cap zs p' m HRd.out (by omega) (by omega) (by omega)).mono ?_
      intro e w4 hP
      obtain ⟨b, rfl, k4, R4⟩ := hP
      have hG4 := HG.out.kept k4 (by omega)
      have K4 := HKp.out.trans k4
      have hk0 : k = g.length := HGL.out.symm
      have hrl : ∀ i, i < g.length → (rowAt g i).length ≤ 16 := fun i hi => by rw [HGR.out i (by omega)]; omega
      have hgl17 : g.length ≤ 17 := by omega
      cases b with
      | false =>
        have HG4 := Lib.hid hG4
        have HK4 := Lib.hid K4
        have HRL := Lib.hid hrl
        have HR4 := Lib.hid R4
        clear hG4 K4 hk0 hrl R4
        go_wp2_with fail
        go_ret
        obtain ⟨T, c, hv, hc1, hc2, hown⟩ := HG4.out.table
        exact ⟨g, T, c, _, by rw [← hv]; rfl, hc1, hc2, hgl17, HRL.out, HK4.out, HR4.out, by omega, by omega, hown.more (Nat.le_refl _) HG4.out.hile⟩
      | true =>
        have HG4 := Lib.hid hG4
        have HK4 := Lib.hid K4
        have HRL := Lib.hid hrl
        have hR4 := R4.lt
        have hg0 : 0 < g.length := by omega
        have hr0 : 0 < (rowAt g 0).length := by rw [HGR.out 0 (by omega)]; omega
        clear hG4 K4 hk0 hrl k4
        go_wp2_with fail
        refine (pick n _ a len cap zs (p' + 1) 3 R4 (by omega) (by omega) (by omega)).mono ?_
        intro e w5 hP
        obtain ⟨v5, rfl, v50, v51, k5, R5⟩ := hP
        have HG5 := Lib.hid (HG4.out.kept k5 (by omega))
        have HK5 := Lib.hid (HK4.out.trans k5)
        have hs5 := HK5.out.size
        have hR5 := R5.lt
        have hs45 := k5.size
        clear HG4 HK4 k5 R4
        have hv5 : v5 = 0 ∨ v5 = 1 ∨ v5 = 2 := by omega
        rcases hv5 with rfl | rfl | rfl
        · go_wp2_with fail
          go_ret
          exact ⟨[], some ⟨w5.heap.size, 0, none⟩, 0, p' + 1 + 1, rfl, Nat.le_refl _, Nat.zero_le _, by simp, fun i hi => by simp at hi, HK5.out.alloc _, R5.of_below ((Below.refl _ _).alloc (Nat.le_refl _) _), by omega, by omega, fun h0 => absurd h0 (by simp)⟩
        · obtain ⟨bt, capt, f, hv, hbt, hct, hcm, hrow, hfr⟩ := HG5.out.top_row.resolve_left (fun hh => by have := hh.2; subst this; simp at hg0)
          obtain ⟨b0, N0, f0, hA0, hb1, hb2, hrw0, hN0, hf0⟩ := HG5.out.rows.own 0 hg0 hr0
          have hx1 := hrow.cell (i := 0) (by omega)
          rw [hfr 0 hg0, hA0] at hx1
          have hx2 := hrw0.cell (i := 0) (by omega)
          rw [hf0 0 hr0] at hx2
          have hx3 := hrw0.frozen 0
          subst hv
          unfold maxLen at hcm
          clear hrow hfr hrw0 hf0 hA0
          have RA : Reader n w5.drew a len cap zs (p' + 1 + 1) := R5.of_blocks (fun _ _ => rfl) (Nat.le_refl _)
          have RB : ∀ o, Reader n (w5.alloc o).drew a len cap zs (p' + 1 + 1) := fun o => (R5.of_below ((Below.refl _ _).alloc (Nat.le_refl _) o)).of_blocks (fun _ _ => rfl) (Nat.le_refl _)
          have hbt5 : bt < w5.heap.size := World.block_lt_of_cell? _ _ hx1
          have hb05 : b0 < w5.heap.size := World.block_lt_of_cell? _ _ hx2
          go_wp2_with fail
          have HX := Lib.hid hx1
          have E1 := staysK (n := n) hbt5 (by omega) hx1
          have E2 := staysK (n := n) hb05 (by omega) hx2
          have E3 := staysKF (n := n) hb05 (by omega) hx3
          go_region_with (first | (go_at_call 27; refine (pick n _ a len cap zs (p' + 1 + 1) 2 (RB _) (by omega) (by omega) (by omega)).mono ?_; intro e w6 hP; obtain ⟨v6, rfl, v60, v61, k6, R6⟩ := hP; obtain ⟨y, hy1, hy2⟩ := tab2 v60 v61; have k6' : Kept n w5 w6 := Kept.trans (((Kept.refl n w5).alloc _).drew) k6; have hs6 := k6'.size; have hb6 : bt < w6.heap.size := (by omega); have hb7 : b0 < w6.heap.size := (by omega); have hz1 : w6.cell? ⟨w5.heap.size, v6.toNat, none⟩ = some (.int .i64 y) := hy1 _ _ ((k6.cell (p := w5.heap.size) (o := 0) (by simp) (by omega)).trans (by simp [go_sem])) ((k6.cell (p := w5.heap.size) (o := 1) (by simp) (by omega)).trans (by simp [go_sem])); clear k6) | (go_at_call 27; refine (pick n _ a len cap zs (p' + 1 + 1) 2 RA (by omega) (by omega) (by omega)).mono ?_; intro e w6 hP; obtain ⟨v6, rfl, v60, v61, k6, R6⟩ := hP; obtain ⟨y, hy1, hy2⟩ := tab2 v60 v61; have k6' : Kept n w5 w6 := Kept.trans ((Kept.refl n w5).drew) k6; have hs6 := k6'.size; have hb6 : bt < w6.heap.size := (by omega); have hb7 : b0 < w6.heap.size := (by omega); clear k6))
          all_goals
            clear hy1 hy2 E1 E2 E3 RA RB hx1 hx2 hx3
            try clear hz1
            have HG6 := Lib.hid ((HG5.out.kept k6' (by omega)))
            have HX1 : Hid (w6.cell? ⟨bt, 0, none⟩ = some (.slice (some ⟨b0, 0, none⟩) (rowAt g 0).length (CC 0))) := (k6'.cell hbt5 (by omega)).trans HX.out
            have HK6 := Lib.hid (HK5.out.trans k6')
            have HR6 := Lib.hid R6
            clear k6' R6
            go_wp2_with fail
            go_ret
            obtain ⟨T, c, hv, hc1, hc2, hown⟩ := HG6.out.table
            injection hv with hv1 hv2 hv3
            subst hv1 hv3
            have hown2 := hown.poke (b0 := b0) (c := CC 0) hg0 hr0 y (fun b e => by injection e with e; injection e with e; subst e; exact HX1.out)
            have hle := HG6.out.hile
            have hown3 := hown2.more (Nat.le_refl _) hle
            have hK7 := (HK6.out.setNew (q := ⟨b0, 0, none⟩) (show w.heap.size ≤ b0 from hb1) (.int .i64 y))
            have hR7 := HR6.out.setFar (q := ⟨b0, 0, none⟩) (show n < b0 by omega) (.int .i64 y)
            have hsz : (w6.setCell ⟨b0, 0, none⟩ (.int .i64 y)).heap.size = w6.heap.size := by simp [World.setCell]
            have hpl : ∀ i, i < (poke g y).length → (rowAt (poke g y) i).length ≤ 16 := fun i hi => by
              rw [poke_length] at hi; rw [poke_row_length g y i hi]; exact HRL.out i hi
            first
              | exact ⟨poke g y, _, _, p' + 1 + 1 + 1, by rw [poke_length]; rfl, by rw [poke_length]; exact hc1, hc2, by rw [poke_length]; exact hgl17, hpl, hK7, hR7, by omega, by omega, by rw [hsz]; exact hown3⟩
              | exact ⟨poke g y, _, _, p' + 1 + 1 + 1, by rw [poke_length]; rfl, by rw [poke_length]; exact hc1, hc2, by rw [poke_length]; exact hgl17, hpl, hK7.alloc _, hR7.of_below ((Below.refl _ _).alloc (Nat.le_refl _) _), by omega, by omega, (hown3.keep (fun b _ h2 => Below.heap_alloc _ _ _ (by rw [hsz]; exact h2))).more (Nat.le_refl _) (by simp [hsz])⟩
        · have HGA := Lib.hid ((HG5.out.keep (Below.refl _ _)).keep (w' := w5.alloc (.cells #[] 3)) ((Below.refl _ _).alloc (HG5.out.hile) _))
          have hib := HG5.out.hile
          go_wp2_with (at_builtin; refine wpList_append_own_at _ rfl (.tmp 58) (.tmp 60) _ rfl w.heap.size 52 i1 (.slice none 0 0) 1 24 Tryz.underlying23 HI1.out HY0.out HY1.out HY2.out rfl (by decide) _ _ _ rfl (HGA.out.alloc _) ⟨w5.heap.size + 1, 0, none⟩ 1 1 [.slice (some ⟨w5.heap.size, 0, none⟩) ([] : List Int).length 0] rfl rfl ?c1 ?c2 ?c3 ?c4 ?c5 ?_)
          case c1 => intro j u hj; have := cell_one_new (w5.alloc (.cells #[] 3)) (.slice (some ⟨w5.heap.size, 0, none⟩) 0 0) 52 j u hj; simpa using this
          case c2 => first | rfl | (intro u hu; simp at hu; subst hu; rfl)
          case c3 => unfold maxLen; omega
          case c4 => omega
          case c5 => first | omega | (simp; omega)
          intro v' w6 hown hgrow _ hat
          have HN : Hid (∃ (A' : Nat → Option Addr) (C' : Nat → Nat), GrowsR w6 w.heap.size w6.heap.size v' A' C' (g ++ [[]])) :=
            HGA.out.snoc (l := []) (An := some ⟨w5.heap.size, 0, none⟩) (fun h0 => absurd h0 (by simp)) (Nat.le_refl _) (Nat.zero_le _) (by omega) hown hgrow (by rcases hat with e | e; exact .inl e; exact .inr (by rw [e]; try simp))
          have HK6 := Lib.hid ((HK5.out.alloc _).appended hgrow HGA.out.lo)
          have HR6 := Lib.hid ((R5.of_below ((Below.refl _ _).alloc (Nat.le_refl _) _)).appended hgrow (fun k hk => by have := HGA.out.lo k hk; omega))
          clear hown hgrow hat
          go_wp2_with fail
          go_ret
          obtain ⟨A', C', hg'⟩ := HN.out
          obtain ⟨T, c, hv, hc1, hc2, hown⟩ := hg'.table
          exact ⟨g ++ [[]], T, c, _, by rw [← hv]; rfl, hc1, hc2, by rw [List.length_append, List.length_singleton]; have := HGL.out; omega, fun i hi => by
            rw [List.length_append, List.length_singleton] at hi
            by_cases e : i < g.length
            · rw [rowAt_snoc_lt _ _ _ e]; exact HRL.out i e
            · obtain rfl : i = g.length := by omega
              rw [rowAt_snoc_eq]; simp, HK6.out, HR6.out, by omega, by omega, hown⟩
end Go.Proofs.YtlmaeadbomnhlaaGreat

namespace Go.Proofs.YtlmaeadbomnhlaaGreat
set_option linter.unusedSimpArgs false
set_option linter.unusedVariables false
open Go.RowKit
theorem vals_set (l : List Int) (i : Nat) (x : Int) : vals (l.set i x) = (vals l).set i (.int .i64 x) := by simp [vals, List.map_set]
theorem Grows.stored {w : World} {base b cap : Nat} {l : List Int} (h : Grows w base (.slice (some ⟨b, 0, none⟩) l.length cap) l) (i : Nat) (x : Int) :
    Grows (w.setCell ⟨b, i, none⟩ (.int .i64 x)) base (.slice (some ⟨b, 0, none⟩) (l.set i x).length cap) (l.set i x) := by
  have := (World.ownsRow.stored h i (.int .i64 x)).1
  unfold Grows
  rw [List.length_set, vals_set]
  exact this
end Go.Proofs.YtlmaeadbomnhlaaGreat

namespace Go.Proofs.YtlmaeadbomnhlaaGreat
set_option linter.unusedSimpArgs false
set_option linter.unusedVariables false
open Go.RowKit
def DrawnT (w : World) (e : Ending) (w' : World) : Prop :=
  ∃ (g : List (List Int)) (T : Option Addr) (c : Nat), e = .returned (.slice T g.length c) ∧ g.length ≤ c ∧ c ≤ maxLen ∧ g.length ≤ 17 ∧ (∀ i, i < g.length → (rowAt g i).length ≤ 16) ∧ Below w.heap.size w w' ∧ OwnR w' w.heap.size w'.heap.size T g
theorem DrawnT.of {w w1 : World} {a : Option Addr} {len cap : Nat} {zs : List Int} {e : Ending} {w' : World} (hb : Below w.heap.size w w1) (hR : Reader w.heap.size w1 a len cap zs 0) (h : DrawnG w.heap.size w1 a len cap zs 0 e w') : DrawnT w e w' := by
  obtain ⟨g, T, c, p', he, h1, h2, h3, h4, hK, _, _, _, ho⟩ := h
  exact ⟨g, T, c, he, h1, h2, h3, h4, hb.trans (hK.below (Nat.le_refl _) hb.size), ho.more hb.size (Nat.le_refl _)⟩
set_option maxHeartbeats 1000000 in
theorem sameInts (A B : Option Addr) (c d : Nat) (l : List Int) (S T : Nat → Prop) (hl : l.length ≤ maxLen) (w : World) (h : Ints w S A l) (h' : Ints w T B l) :
    Calls Tryz.prog 42 #[.slice A l.length c, .slice B l.length d] w (Quiet (.bool true) w) := by
  unfold maxLen at hl
  have z1 : ((l.length : Int) != (l.length : Int)) = false := by simp
  have HH := Lib.hid h
  have HK := Lib.hid h'
  clear h h'
  go_enter Tryz.func42, Tryz.ntmps42
  go_wp2_with fail
  go_loopw [5] (fun i wr => ∃ k : Nat, k ≤ l.length ∧ i = .int .i64 k ∧ ∃ n, wr = w.drewN n) (fun i _ => l.length - (intOf i).toNat)
  case atStart => exact ⟨0, Nat.zero_le _, rfl, (by first | exact ⟨0, rfl⟩ | exact ⟨_, rfl⟩ | exact ⟨_, World.drewN_drewN _ _ _⟩ | (simp only [World.drewN_drewN]; exact ⟨_, rfl⟩))⟩
  case round =>
    obtain ⟨k, hk, rfl, n, rfl⟩ := hrel
    by_cases hlt : k < l.length
    · obtain ⟨b, off, rfl, hS, hc⟩ := HH.out.at_ hlt
      obtain ⟨b', off', rfl, hS', hc'⟩ := HK.out.at_ hlt
      have hck := hc k hlt
      have hck' := hc' k hlt
      have z2 : (nth l k != nth l k) = false := by simp
      clear hc hc'
      go_wp2_with fail
      go_quiet (fail)
      go_wp2_with fail
      go_roundw
      case rel => exact ⟨k + 1, by omega, by go_num, (by first | exact ⟨0, rfl⟩ | exact ⟨_, rfl⟩ | exact ⟨_, World.drewN_drewN _ _ _⟩ | (simp only [World.drewN_drewN]; exact ⟨_, rfl⟩))⟩
      case measure => simp [intOf]; omega
    · obtain rfl : k = l.length := by omega
      go_wp2_with fail
      go_ret
      exact Quiet.ofD rfl (by first | exact ⟨0, rfl⟩ | exact ⟨_, rfl⟩ | exact ⟨_, World.drewN_drewN _ _ _⟩ | (simp only [World.drewN_drewN]; exact ⟨_, rfl⟩))
set_option maxHeartbeats 1000000 in
theorem sameRows (A B : Option Addr) (c d : Nat) (g : List (List Int)) (S T : Nat → Prop) (hl : g.length ≤ maxLen) (w : World) (h : Rows2 w S A g) (h' : Rows2 w T B g) :
    Calls Tryz.prog 21 #[.slice A g.length c, .slice B g.length d] w (Quiet (.bool true) w) := by
  unfold maxLen at hl
  have z1 : ((g.length : Int) != (g.length : Int)) = false := by simp
  have HH := Lib.hid h
  have HK := Lib.hid h'
  clear h h'
  go_enter Tryz.func21, Tryz.ntmps21
  go_wp2_with fail
  go_loopw [5] (fun i wr => ∃ k : Nat, k ≤ g.length ∧ i = .int .i64 k ∧ ∃ n, wr = w.drewN n) (fun i _ => g.length - (intOf i).toNat)
  case atStart => exact ⟨0, Nat.zero_le _, rfl, (by first | exact ⟨0, rfl⟩ | exact ⟨_, rfl⟩ | exact ⟨_, World.drewN_drewN _ _ _⟩ | (simp only [World.drewN_drewN]; exact ⟨_, rfl⟩))⟩
  case round =>
    obtain ⟨k, hk, rfl, n, rfl⟩ := hrel
    by_cases hlt : k < g.length
    · obtain ⟨b, off, rfl⟩ := HH.out.some (by omega)
      obtain ⟨b', off', rfl⟩ := HK.out.some (by omega)
      obtain ⟨hS, Ak, ck, hck, hlk, hmk, hik⟩ := HH.out.row hlt
      obtain ⟨hS', Bk, dk, hdk, hlk', hmk', hik'⟩ := HK.out.row hlt
      have HI := Lib.hid hik
      have HJ := Lib.hid hik'
      clear hik hik'
      have hmk2 := hmk
      unfold maxLen at hmk hmk'
      go_wp2_with fail
      go_quiet ((go_at_call 42; exact quietAdd (sameInts _ _ _ _ (rowAt g k) S T (Nat.le_trans hlk hmk2) _ (HI.out.drewN _) (HJ.out.drewN _))))
      go_wp2_with fail
      go_roundw
      case rel => exact ⟨k + 1, by omega, by go_num, (by first | exact ⟨0, rfl⟩ | exact ⟨_, rfl⟩ | exact ⟨_, World.drewN_drewN _ _ _⟩ | (simp only [World.drewN_drewN]; exact ⟨_, rfl⟩))⟩
      case measure => simp [intOf]; omega
    · obtain rfl : k = g.length := by omega
      go_wp2_with fail
      go_ret
      exact Quiet.ofD rfl (by first | exact ⟨0, rfl⟩ | exact ⟨_, rfl⟩ | exact ⟨_, World.drewN_drewN _ _ _⟩ | (simp only [World.drewN_drewN]; exact ⟨_, rfl⟩))
end Go.Proofs.YtlmaeadbomnhlaaGreat

namespace Go.Proofs.YtlmaeadbomnhlaaGreat
set_option linter.unusedSimpArgs false
set_option linter.unusedVariables false
open Go.RowKit
end Go.Proofs.YtlmaeadbomnhlaaGreat

namespace Go.Proofs.YtlmaeadbomnhlaaGreat
set_option linter.unusedSimpArgs false
set_option linter.unusedVariables false
open Go.RowKit
end Go.Proofs.YtlmaeadbomnhlaaGreat

namespace Go.Proofs.YtlmaeadbomnhlaaGreat
set_option linter.unusedSimpArgs false
set_option linter.unusedVariables false
open Go.RowKit
def oneAt (m i : Nat) (x : Int) : List Int := (List.replicate m 0).set i x
theorem oneAt_length (m i : Nat) (x : Int) : (oneAt m i x).length = m := by simp [oneAt]
theorem nth_oneAt (m i k : Nat) (x : Int) (h : k < m) : nth (oneAt m i x) k = if k = i then x else 0 := by
  rw [nth_eq _ _ (by rw [oneAt_length]; exact h)]
  unfold oneAt
  rw [List.getElem_set]
  by_cases e : i = k
  · subst e; simp
  · rw [if_neg e, if_neg (fun e' => e e'.symm)]; simp
theorem oneAt_row {w : World} {b m i : Nat} {x : Int} (h : w.rowIs b 3 m (fun _ => .int .i64 0)) : (w.setCell ⟨b, i, none⟩ (.int .i64 x)).rowIs b 3 m (fun k => .int .i64 (nth (oneAt m i x) k)) :=
  (h.set i _).congr (fun k hk => by
    rw [nth_oneAt m i k x hk]
    by_cases e : k = i
    · rw [if_pos e, if_pos e]
    · rw [if_neg e, if_neg e])
structure SetSt (W wx : World) (n m : Nat) (f h : Nat → Value) : Prop where
  bel : Below W.heap.size W wx
  size : wx.heap.size = W.heap.size + 2
  one : wx.rowIs W.heap.size 3 n f
  two : wx.rowIs (W.heap.size + 1) 3 m h
theorem SetSt.start (W : World) (n m : Nat) : SetSt W ((W.alloc (.cells (madeCells #[.int .i64 0] n) 3)).alloc (.cells (madeCells #[.int .i64 0] m) 3)) n m (fun _ => .int .i64 0) (fun _ => .int .i64 0) := by
  refine ⟨((Below.refl _ _).alloc (Nat.le_refl _) _).alloc (by simp) _, by simp, (World.rowIs_made W _ n _).alloc _, ?_⟩
  have := World.rowIs_made (W.alloc (.cells (madeCells #[.int .i64 0] n) 3)) (.int .i64 0) m 3
  simpa using this
theorem SetSt.drew {W wx : World} {n m : Nat} {f h : Nat → Value} (s : SetSt W wx n m f h) : SetSt W wx.drew n m f h := ⟨s.bel.drew, s.size, s.one, s.two⟩
end Go.Proofs.YtlmaeadbomnhlaaGreat

namespace Go.Proofs.YtlmaeadbomnhlaaGreat
set_option linter.unusedSimpArgs false
set_option linter.unusedVariables false
open Go.RowKit
theorem lit_row (w : World) (x y z : Int) : IntRow (w.alloc (.cells #[.int .i64 x, .int .i64 y, .int .i64 z] 3)) w.heap.size [x, y, z] :=
  World.rowIs_alloc w #[.int .i64 x, .int .i64 y, .int .i64 z] _ _ (fun i hi => by
    have : i = 0 ∨ i = 1 ∨ i = 2 := by simp at hi; omega
    rcases this with rfl | rfl | rfl <;> rfl)
theorem own3 {W : World} {lo hi b0 b1 b2 bt : Nat} {r0 r1 r2 : List Int} (h0 : IntRow W b0 r0) (h1 : IntRow W b1 r1) (h2 : IntRow W b2 r2) (l0 : r0.length = 3) (l1 : r1.length = 3) (l2 : r2.length = 3)
    (k0 : lo ≤ b0 ∧ b0 < hi) (k1 : lo ≤ b1 ∧ b1 < hi) (k2 : lo ≤ b2 ∧ b2 < hi) (kt : lo ≤ bt ∧ bt < hi) (d1 : b0 ≠ b1) (d2 : b0 ≠ b2) (d3 : b1 ≠ b2)
    (ht : W.rowIs bt 52 3 (fun i => if i = 0 then .slice (some ⟨b0, 0, none⟩) 3 3 else if i = 1 then .slice (some ⟨b1, 0, none⟩) 3 3 else .slice (some ⟨b2, 0, none⟩) 3 3)) :
    OwnR W lo hi (some ⟨bt, 0, none⟩) [r0, r1, r2] := by
  have own : ∀ {b : Nat} {r : List Int}, IntRow W b r → lo ≤ b ∧ b < hi → OwnI W lo hi (some ⟨b, 0, none⟩) r := fun {b r} h hk _ => ⟨b, r.length, _, rfl, hk.1, hk.2, h, Nat.le_refl _, fun _ _ => rfl⟩
  intro _
  refine ⟨bt, 3, _, fun i => if i = 0 then some ⟨b0, 0, none⟩ else if i = 1 then some ⟨b1, 0, none⟩ else some ⟨b2, 0, none⟩, fun _ => 3, rfl, kt.1, kt.2, by simp, ht, fun i hi => ?_, ⟨fun i hi => ?_, fun i hi => ?_, fun i j hi hj hne _ _ => ?_⟩⟩
  · have : i = 0 ∨ i = 1 ∨ i = 2 := by simp at hi; omega
    rcases this with rfl | rfl | rfl
    · show _ = Value.slice _ r0.length 3; rw [l0]; rfl
    · show _ = Value.slice _ r1.length 3; rw [l1]; rfl
    · show _ = Value.slice _ r2.length 3; rw [l2]; rfl
  · have : i = 0 ∨ i = 1 ∨ i = 2 := by simp at hi; omega
    rcases this with rfl | rfl | rfl
    · exact ⟨Nat.le_of_eq l0, by decide⟩
    · exact ⟨Nat.le_of_eq l1, by decide⟩
    · exact ⟨Nat.le_of_eq l2, by decide⟩
  · have : i = 0 ∨ i = 1 ∨ i = 2 := by simp at hi; omega
    rcases this with rfl | rfl | rfl
    · exact own h0 k0
    · exact own h1 k1
    · exact own h2 k2
  · have hi' : i = 0 ∨ i = 1 ∨ i = 2 := by simp at hi; omega
    have hj' : j = 0 ∨ j = 1 ∨ j = 2 := by simp at hj; omega
    rcases hi' with rfl | rfl | rfl <;> rcases hj' with rfl | rfl | rfl <;> first | exact absurd rfl hne | (simp; done) | (simp; omega)
theorem top3 (w : World) (v0 v1 v2 : Value) : (w.alloc (.cells #[v0, v1, v2] 52)).rowIs w.heap.size 52 3 (fun i => if i = 0 then v0 else if i = 1 then v1 else v2) :=
  World.rowIs_alloc w #[v0, v1, v2] _ _ (fun i hi => by
    have : i = 0 ∨ i = 1 ∨ i = 2 := by simp at hi; omega
    rcases this with rfl | rfl | rfl <;> rfl)
def DrawnF (n : Nat) (w : World) (a : Option Addr) (len cap : Nat) (zs : List Int) (p : Int) (e : Ending) (w' : World) : Prop :=
  ∃ (g : List (List Int)) (T : Option Addr) (c : Nat) (p' : Int), e = .returned (.slice T g.length c) ∧ g.length ≤ c ∧ c ≤ maxLen ∧ g.length ≤ 17 ∧ (∀ i, i < g.length → (rowAt g i).length ≤ 16) ∧
    Kept n w w' ∧ Reader n w' a len cap zs p' ∧ p ≤ p' ∧ p' ≤ p + 700 ∧ OwnR w' w.heap.size w'.heap.size T g
theorem len3 {r0 r1 r2 : List Int} (l0 : r0.length = 3) (l1 : r1.length = 3) (l2 : r2.length = 3) : ∀ i, i < [r0, r1, r2].length → (rowAt [r0, r1, r2] i).length ≤ 16 := fun i hi => by
  have : i = 0 ∨ i = 1 ∨ i = 2 := by simp at hi; omega
  rcases this with rfl | rfl | rfl
  · show r0.length ≤ 16; omega
  · show r1.length ≤ 16; omega
  · show r2.length ≤ 16; omega
theorem szA (w : World) (o : Obj) : (w.alloc o).heap.size = w.heap.size + 1 := by simp
set_option maxHeartbeats 2000000 in
theorem l20Fair (n : Nat) (w : World) (a : Option Addr) (len cap : Nat) (zs : List Int) (p m : Int) (h : Reader n w a len cap zs p) (hp : p < 19000) (hm : 1 ≤ m) (hm' : m ≤ 30000) :
    Calls Tryz.prog 26 #[.pointer (some ⟨n, 0, none⟩), .int .i64 m] w (DrawnF n w a len cap zs p) := by
  have hnw := h.lt
  go_enter Tryz.func26, Tryz.ntmps26
  go_wp2_with fail
  refine (pick n w a len cap zs p 6 h (by omega) (by omega) (by omega)).mono ?_
  intro e w1 hP
  obtain ⟨v, rfl, v0, v1, k1, R1⟩ := hP
  have hs1 := k1.size
  have h3 : v = 0 ∨ v = 1 ∨ 2 ≤ v := by omega
  rcases h3 with rfl | rfl | hv
  · clear v0 v1
    have A0 := ((lit_row w1 0 1 (-1)).alloc (.cells #[.int .i64 (-1), .int .i64 0, .int .i64 1] 3)).alloc (.cells #[.int .i64 1, .int .i64 (-1), .int .i64 0] 3)
    have A1 := (lit_row (w1.alloc (.cells #[.int .i64 0, .int .i64 1, .int .i64 (-1)] 3)) (-1) 0 1).alloc (.cells #[.int .i64 1, .int .i64 (-1), .int .i64 0] 3)
    have A2 := lit_row ((w1.alloc (.cells #[.int .i64 0, .int .i64 1, .int .i64 (-1)] 3)).alloc (.cells #[.int .i64 (-1), .int .i64 0, .int .i64 1] 3)) 1 (-1) 0
    rw [szA] at A1 A2
    rw [szA] at A2
    have AT := top3 (((w1.alloc (.cells #[.int .i64 0, .int .i64 1, .int .i64 (-1)] 3)).alloc (.cells #[.int .i64 (-1), .int .i64 0, .int .i64 1] 3)).alloc (.cells #[.int .i64 1, .int .i64 (-1), .int .i64 0] 3))
      (.slice (some ⟨w1.heap.size, 0, none⟩) 3 3) (.slice (some ⟨w1.heap.size + 1, 0, none⟩) 3 3) (.slice (some ⟨w1.heap.size + 1 + 1, 0, none⟩) 3 3)
    rw [szA, szA, szA] at AT
    have HO := Lib.hid (own3 (lo := w.heap.size) (hi := w1.heap.size + 1 + 1 + 1 + 1) (A0.alloc _) (A1.alloc _) (A2.alloc _) rfl rfl rfl (by omega) (by omega) (by omega) (by omega) (by omega) (by omega) (by omega) AT)
    have HK := Lib.hid (((k1.alloc (.cells #[.int .i64 0, .int .i64 1, .int .i64 (-1)] 3)).alloc (.cells #[.int .i64 (-1), .int .i64 0, .int .i64 1] 3)).alloc (.cells #[.int .i64 1, .int .i64 (-1), .int .i64 0] 3))
    have HR := Lib.hid R1
    clear A0 A1 A2 AT R1 k1 h
    go_wp2_with fail
    go_ret
    exact ⟨[[0, 1, -1], [-1, 0, 1], [1, -1, 0]], _, 3, p + 1, rfl, Nat.le_refl _, by decide, by decide, len3 rfl rfl rfl, HK.out.alloc _, HR.out.of_below (by exact (by repeat (first | exact Below.refl _ _ | assumption | exact bel1 (by assumption) | exact bel2 (by assumption) | exact bel3 (by assumption) | exact bel4 (by assumption) | refine Below.drew ?_ | refine below_drewN ?_ _ | refine Below.setCell ?_ (by first | (simp; done) | (simp; omega)) _ | refine Below.alloc ?_ (by first | (simp; done) | (simp; omega)) _))), by omega, by omega, by
      have := HO.out
      rw [show ((((w1.alloc (.cells #[.int .i64 0, .int .i64 1, .int .i64 (-1)] 3)).alloc (.cells #[.int .i64 (-1), .int .i64 0, .int .i64 1] 3)).alloc (.cells #[.int .i64 1, .int .i64 (-1), .int .i64 0] 3)).alloc (.cells #[.slice (some ⟨w1.heap.size, 0, none⟩) 3 3, .slice (some ⟨w1.heap.size + 1, 0, none⟩) 3 3, .slice (some ⟨w1.heap.size + 1 + 1, 0, none⟩) 3 3] 52)).heap.size = w1.heap.size + 1 + 1 + 1 + 1 from by rw [szA, szA, szA, szA]]
      exact this⟩
  · clear v0 v1
    go_wp2_with fail
    refine (pick n w1 a len cap zs (p + 1) 9 R1 (by omega) (by omega) (by omega)).mono ?_
    intro e w2 hP2
    obtain ⟨x, rfl, x0, x1, k2, R2⟩ := hP2
    have hs2 := k2.size
    have hn2 := R2.lt
    have RA := R2.of_below ((Below.refl _ _).alloc (Nat.le_refl _) (.cells #[.int .i64 x, .int .i64 0, .int .i64 0] 3))
    have A0 := lit_row w2 x 0 0
    go_wp2_with fail
    refine (pick n _ a len cap zs (p + 1 + 1) 8 RA (by omega) (by omega) (by omega)).mono ?_
    intro e w3 hP3
    obtain ⟨y, rfl, y0, y1, k3, R3⟩ := hP3
    have hs3 := k3.size
    rw [szA] at hs3
    have hn3 := R3.lt
    have B0 : IntRow w3 w2.heap.size [x, 0, 0] := World.rowIs.of_block A0 (k3.block _ (by rw [szA]; omega) (by omega))
    have RB := R3.of_below ((Below.refl _ _).alloc (Nat.le_refl _) (.cells #[.int .i64 0, .int .i64 (1 + y), .int .i64 0] 3))
    have B1 := lit_row w3 0 (1 + y) 0
    have B0' := B0.alloc (.cells #[.int .i64 0, .int .i64 (1 + y), .int .i64 0] 3)
    clear A0 B0
    go_wp2_with fail
    refine (pick n _ a len cap zs (p + 1 + 1 + 1) 8 RB (by omega) (by omega) (by omega)).mono ?_
    intro e w4 hP4
    obtain ⟨z, rfl, z0, z1, k4, R4⟩ := hP4
    have hs4 := k4.size
    rw [szA] at hs4
    have C0 : IntRow w4 w2.heap.size [x, 0, 0] := World.rowIs.of_block B0' (k4.block _ (by rw [szA]; omega) (by omega))
    have C1 : IntRow w4 w3.heap.size [0, 1 + y, 0] := World.rowIs.of_block B1 (k4.block _ (by rw [szA]; omega) (by omega))
    have C2 := lit_row w4 0 0 (1 + z)
    have AT := top3 (w4.alloc (.cells #[.int .i64 0, .int .i64 0, .int .i64 (1 + z)] 3)) (.slice (some ⟨w2.heap.size, 0, none⟩) 3 3) (.slice (some ⟨w3.heap.size, 0, none⟩) 3 3) (.slice (some ⟨w4.heap.size, 0, none⟩) 3 3)
    rw [szA] at AT
    have HO := Lib.hid (own3 (lo := w.heap.size) (hi := w4.heap.size + 1 + 1) ((C0.alloc _).alloc _) ((C1.alloc _).alloc _) (C2.alloc _) rfl rfl rfl (by omega) (by omega) (by omega) (by omega) (by omega) (by omega) (by omega) AT)
    have HK := Lib.hid ((((k1.trans k2).alloc (.cells #[.int .i64 x, .int .i64 0, .int .i64 0] 3)).trans k3 |>.alloc (.cells #[.int .i64 0, .int .i64 (1 + y), .int .i64 0] 3)).trans k4)
    have HR := Lib.hid R4
    clear C0 C1 C2 AT B0' B1 RA RB R1 R2 R3 R4 k1 k2 k3 k4 h
    go_wp2_with fail
    go_ret
    exact ⟨[[x, 0, 0], [0, 1 + y, 0], [0, 0, 1 + z]], _, 3, p + 1 + 1 + 1 + 1, rfl, Nat.le_refl _, by decide, by show 3 ≤ 17; omega, len3 rfl rfl rfl, (HK.out.alloc _).alloc _, HR.out.of_below (by exact (by repeat (first | exact Below.refl _ _ | assumption | exact bel1 (by assumption) | exact bel2 (by assumption) | exact bel3 (by assumption) | exact bel4 (by assumption) | refine Below.drew ?_ | refine below_drewN ?_ _ | refine Below.setCell ?_ (by first | (simp; done) | (simp; omega)) _ | refine Below.alloc ?_ (by first | (simp; done) | (simp; omega)) _))), by omega, by omega, by
      have := HO.out
      rw [show ((w4.alloc (.cells #[.int .i64 0, .int .i64 0, .int .i64 (1 + z)] 3)).alloc (.cells #[.slice (some ⟨w2.heap.size, 0, none⟩) 3 3, .slice (some ⟨w3.heap.size, 0, none⟩) 3 3, .slice (some ⟨w4.heap.size, 0, none⟩) 3 3] 52)).heap.size = w4.heap.size + 1 + 1 from by rw [szA, szA]]
      exact this⟩
  · have e0 : (v == 0) = false := beq_eq_false_iff_ne.2 (by omega)
    have e1 : (v == 1) = false := beq_eq_false_iff_ne.2 (by omega)
    go_wp2_with fail
    refine (l20Game n w1 a len cap zs (p + 1) 4 m R1 (by omega) (by omega) (by omega) hm hm').mono ?_
    rintro e w2 ⟨g, T, c, p', rfl, h1, h2, h3, h4, hK, hR, hp1, hp2, ho⟩
    have HK := Lib.hid (k1.trans hK)
    have HR := Lib.hid hR
    have HO := Lib.hid ho
    have H2 := Lib.hid h2
    have H4 := Lib.hid h4
    clear hK hR ho h2 h4
    go_wp2_with fail
    go_ret
    exact ⟨g, T, c, p', rfl, h1, H2.out, h3, H4.out, HK.out, HR.out, by omega, by omega, HO.out.more hs1 (Nat.le_refl _)⟩
end Go.Proofs.YtlmaeadbomnhlaaGreat
