/- The walks of the program's sums by a function value, and of the averages of lines. -/
import Derived.Test.YtjojilimdhekfaaMixT
import Derived.Test.YtjojilimdhekfaaMmath2
import Derived.Laws.MakeOwn
namespace Go.Proofs.Ytjojilimdhekfaa
set_option linter.unusedSimpArgs false
set_option linter.unusedVariables false
open Go.RowKit

/-- a function value that tells a number for each place, whatever was added to the world since -/
structure Tells (w : World) (f : FuncId) (caps : Array Value) (n : Nat) (num : Nat → Int) : Prop where
  enters : ∀ (args : Array Value) (w : World), (callFunc f args).run Try.prog w = .ok (.enter f args) w
  calls : ∀ k : Nat, k < n → ∀ w1 : World, Below w.heap.size w w1 → Calls Try.prog f (#[.int .i64 (k : Nat)] ++ caps) w1 (Adds (.int .i64 (num k)) w1)

set_option maxHeartbeats 1000000 in
theorem weighted (A : Option Addr) (c : Nat) (x : List Int) (f : FuncId) (caps : Array Value) (num : Nat → Int) (hl : x.length ≤ 4294967296) (w : World) (h : Ints w (· < w.heap.size) A x) (hT : Tells w f caps x.length num)
    (h1 : ∀ k, k < x.length → -4611686018427387904 ≤ nth x k * num k ∧ nth x k * num k ≤ 4611686018427387904)
    (h2 : ∀ k, k ≤ x.length → -4611686018427387904 ≤ dotF x num k ∧ dotF x num k ≤ 4611686018427387904) :
    Calls Try.prog 48 #[.slice A x.length c, .func (.func f) #[] caps] w (Adds (.int .i64 (dotF x num x.length)) w) := by
  have HX := Lib.hid h
  have HT := Lib.hid hT.calls
  have hE := hT.enters
  have H1 := Lib.hid h1
  have H2 := Lib.hid h2
  clear h hT h1 h2
  go_enter Try.func48, Try.ntmps48
  go_wp2_with fail
  go_loopw [5, 10] (fun v i wr => ∃ k : Nat, k ≤ x.length ∧ i = .int .i64 k ∧ v = .int .i64 (dotF x num k) ∧ Hid (Below w.heap.size w wr)) (fun _ i _ => x.length - (intOf i).toNat)
  case atStart => exact ⟨0, Nat.zero_le _, rfl, rfl, Below.refl _ _⟩
  case round =>
    obtain ⟨k, hk, rfl, rfl, HB⟩ := hrel
    by_cases hlt : k < x.length
    · obtain ⟨b, off, rfl, hS, hcell⟩ := (keepInts HB.out HX.out).at_ hlt
      have hck := hcell k hlt
      clear hcell
      have e1 : IntKind.i64.wrap (nth x k * num k) = nth x k * num k := IntWalk.i64_in _ (by have := H1.out k hlt; omega)
      have e2 : IntKind.i64.wrap (dotF x num k + nth x k * num k) = dotF x num k + nth x k * num k := IntWalk.i64_in _ (by have := H2.out (k + 1) (by omega); simp only [dotF] at this; omega)
      go_wp2_with fail
      refine (HT.out k hlt _ HB.out).mono ?_
      rintro e w1 ⟨rfl, hb1⟩
      have HB' : Hid (Below w.heap.size w w1) := belT HB.out hb1
      clear hb1
      go_wp2_with fail
      go_roundw
      case rel => exact ⟨k + 1, by omega, by go_num, rfl, HB'⟩
      case measure => simp [intOf]; omega
    · obtain rfl : k = x.length := by omega
      go_wp2_with fail
      go_ret
      exact Adds.of rfl HB.out

theorem tells_one (w : World) (n : Nat) : Tells w 77 #[] n (fun _ => 1) := by
  refine ⟨enters_of Try.func77 (by kernel_rfl) rfl, fun k hk w1 hb => ?_⟩
  show Calls Try.prog 77 #[.int .i64 (k : Nat)] w1 _
  go_enter Try.func77, Try.ntmps77
  go_wp2
  go_ret
  exact Adds.of rfl (Below.refl _ _)

theorem dotF_one (x : List Int) (k : Nat) : dotF x (fun _ => 1) k = sumW x k := by
  induction k with
  | zero => rfl
  | succ k ih => simp only [dotF, sumW, ih, Int.mul_one]

theorem together (A : Option Addr) (c : Nat) (x : List Int) (hM : Mix x x.length) (w : World) (h : Ints w (· < w.heap.size) A x) :
    Calls Try.prog 52 #[.slice A x.length c] w (Adds (.int .i64 (sumW x x.length)) w) := by
  have hhi := hM.hi
  have HX := Lib.hid h
  have HM := Lib.hid hM
  clear h hM
  go_enter Try.func52, Try.ntmps52
  go_wp2_with fail
  refine (weighted _ _ x _ #[] (fun _ => 1) (by omega) _ HX.out (tells_one _ _) (fun k hk => ?_) (fun k hk => ?_)).mono ?_
  · have := HM.out.wlo k hk; have := HM.out.whi k hk; omega
  · rw [dotF_one]; have := sumW_bd x k (fun i hi => ⟨HM.out.wlo i (by omega), HM.out.whi i (by omega)⟩); omega
  rintro e w1 ⟨rfl, hb1⟩
  rw [dotF_one]
  go_wp2_with fail
  go_ret
  exact Adds.of rfl hb1

/-- the numbers of a line that a variable holds -/
theorem tells_line (w : World) (p : Nat) (B : Option Addr) (c : Nat) (l : List Int) (n : Nat) (hn : n ≤ l.length) (hl : l.length ≤ c) (hc1 : c ≤ maxLen) (hp : p < w.heap.size) (hc : w.cell? ⟨p, 0, none⟩ = some (.slice B l.length c)) (hi : Ints w (· < w.heap.size) B l) :
    Tells w 82 #[.pointer (some ⟨p, 0, none⟩)] n (nth l) := by
  refine ⟨enters_of Try.func82 (by kernel_rfl) rfl, fun k hk w1 hb => ?_⟩
  show Calls Try.prog 82 #[.int .i64 (k : Nat), .pointer (some ⟨p, 0, none⟩)] w1 _
  have hcp : w1.cell? ⟨p, 0, none⟩ = some (.slice B l.length c) := (hb.cell (p := ⟨p, 0, none⟩) hp).trans hc
  obtain ⟨b, off, rfl, hS, hcell⟩ := (keepInts hb hi).at_ (i := k) (by omega)
  have hkl : k < l.length := by omega
  have hck := hcell k hkl
  unfold maxLen at hc1
  clear hcell hc hi
  go_enter Try.func82, Try.ntmps82
  go_wp2
  go_ret
  exact Adds.of rfl (Below.refl _ _)

/-! fractions over one number, in a row of the call's own -/

theorem infoF : (Try.prog.info? 28).map (fun i => (i.zero, i.size, i.bytes)) = some (some (.agg #[.int .i64 0, .int .i64 0]), 2, 16) := by kernel_rfl

theorem make_frac (n : Nat) (hn : n ≤ 16) (w : World) :
    (Instr.makeSlice 64 (.int .i64 (n : Int)) (.int .i64 (n : Int))).run Try.prog w = .ok (.slice (some ⟨w.heap.size, 0, none⟩) n n) (w.alloc (.cells (madeCells #[.int .i64 0, .int .i64 0] (n * 2)) 28)) := by
  obtain ⟨i, hi, hzz⟩ := Option.map_eq_some_iff.1 infoF
  simp only [Prod.mk.injEq] at hzz
  obtain ⟨hz, hs, hb⟩ := hzz
  have hr := run_make (P := Try.prog) w 64 28 i _ Try.underlying64 hi hz .i64 .i64 n n (by omega) (Int.le_refl _) (by rw [hb]; omega) (by omega)
  simp only [Int.toNat_natCast, hs] at hr
  exact hr

def fCell (l : List Int) (s : Int) (k i : Nat) : Value := .int .i64 (if i / 2 < k then (if i % 2 = 0 then lowU (nth l (i / 2)) s else lowD (nth l (i / 2)) s) else 0)

theorem made_fracs (w : World) (l : List Int) (s : Int) : (w.alloc (.cells (madeCells #[.int .i64 0, .int .i64 0] (l.length * 2)) 28)).rowIs w.heap.size 28 (l.length * 2) (fCell l s 0) := by
  refine ⟨_, Deep.blk_alloc_new _ _, size_madeCells _ _, fun i hi => ?_⟩
  have h : i % 2 = 0 ∨ i % 2 = 1 := by omega
  rcases h with h | h <;> simp [madeCells, hi, h, fCell]

/-- while fractions are filled: the first k of l over s -/
structure FracFill (w wr : World) (b : Nat) (l : List Int) (s : Int) (k : Nat) : Prop where
  bel : Below w.heap.size w wr
  lo : w.heap.size ≤ b
  row : wr.rowIs b 28 (l.length * 2) (fCell l s k)

theorem FracFill.call {w wr w1 : World} {b : Nat} {l : List Int} {s : Int} {k : Nat} (h : FracFill w wr b l s k) (hb : Below wr.heap.size wr w1) : FracFill w w1 b l s k :=
  ⟨belT h.bel hb, h.lo, h.row.of_block (hb.block _ h.row.lt)⟩

theorem FracFill.step {w wr : World} {b : Nat} {l : List Int} {s : Int} {k : Nat} (h : FracFill w wr b l s k) :
    FracFill w ((wr.setCell ⟨b, k * 2, none⟩ (.int .i64 (lowU (nth l k) s))).setCell ⟨b, k * 2 + 1, none⟩ (.int .i64 (lowD (nth l k) s))) b l s (k + 1) := by
  refine ⟨(h.bel.setCell h.lo _).setCell h.lo _, h.lo, ((h.row.set (k * 2) _).set (k * 2 + 1) _).congr (fun i _ => ?_)⟩
  by_cases e1 : i = k * 2 + 1
  · subst e1; simp [fCell, show (k * 2 + 1) / 2 = k by omega, show (k * 2 + 1) % 2 = 1 by omega]
  by_cases e0 : i = k * 2
  · subst e0; simp [fCell]
  simp only [e1, e0, if_false, fCell]
  have : i / 2 ≠ k := by omega
  by_cases hlt : i / 2 < k
  · simp [hlt, show i / 2 < k + 1 by omega]
  · simp [hlt, show ¬ i / 2 < k + 1 by omega]

/-- a row of fractions -/
def FracRow (w : World) (b : Nat) (l : List Int) (s : Int) : Prop := w.rowIs b 28 (l.length * 2) (fCell l s l.length)

theorem FracRow.up {w : World} {b : Nat} {l : List Int} {s : Int} (h : FracRow w b l s) {k : Nat} (hk : k < l.length) : w.cell? ⟨b, k * 2, none⟩ = some (.int .i64 (lowU (nth l k) s)) := by
  have := h.cell (i := k * 2) (by omega)
  simpa [fCell, hk] using this

theorem FracRow.down {w : World} {b : Nat} {l : List Int} {s : Int} (h : FracRow w b l s) {k : Nat} (hk : k < l.length) : w.cell? ⟨b, k * 2 + 1, none⟩ = some (.int .i64 (lowD (nth l k) s)) := by
  have := h.cell (i := k * 2 + 1) (by omega)
  simpa [fCell, hk, show (k * 2 + 1) / 2 = k by omega, show (k * 2 + 1) % 2 = 1 by omega] using this

/-- what a call leaves that hands back new fractions -/
def NewFracs (w : World) (l : List Int) (s : Int) (e : Ending) (w' : World) : Prop :=
  ∃ b : Nat, e = .returned (.slice (some ⟨b, 0, none⟩) l.length l.length) ∧ Below w.heap.size w w' ∧ w.heap.size ≤ b ∧ FracRow w' b l s

end Go.Proofs.Ytjojilimdhekfaa
