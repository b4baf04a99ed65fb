/- Texts in one: Weigh, WeighB, ImplA, ImplB, ImplC. -/
import Derived.Test.YtlmaeadbomnhlaaGreatMD
import Derived.Test.YtlmaeadbomnhlaaGreatMA
import Derived.Laws.MakeOwn
namespace Go.Proofs.YtlmaeadbomnhlaaGreat
set_option linter.unusedSimpArgs false
set_option linter.unusedVariables false
open Go.RowKit
structure Tells (w : World) (f : FuncId) (caps : Array Value) (n : Nat) (num : Nat → Int) : Prop where
  enters : ∀ (args : Array Value) (w : World), (callFunc f args).run Tryz.prog w = .ok (.enter f args) w
  calls : ∀ k : Nat, k < n → ∀ w1 : World, Below w.heap.size w w1 → Calls Tryz.prog f (#[.int .i64 (k : Nat)] ++ caps) w1 (Adds (.int .i64 (num k)) w1)
set_option maxHeartbeats 1000000 in
theorem weighted (A : Option Addr) (c : Nat) (x : List Int) (f : FuncId) (caps : Array Value) (num : Nat → Int) (hl : x.length ≤ 4294967296) (w : World) (h : Ints w (· < w.heap.size) A x) (hT : Tells w f caps x.length num)
    (h1 : ∀ k, k < x.length → -4611686018427387904 ≤ nth x k * num k ∧ nth x k * num k ≤ 4611686018427387904)
    (h2 : ∀ k, k ≤ x.length → -4611686018427387904 ≤ dotF x num k ∧ dotF x num k ≤ 4611686018427387904) :
    Calls Tryz.prog 93 #[.slice A x.length c, .func (.func f) #[] caps] w (Adds (.int .i64 (dotF x num x.length)) w) := by
  have HX := Lib.hid h
  have HT := Lib.hid hT.calls
  have hE := hT.enters
  have H1 := Lib.hid h1
  have H2 := Lib.hid h2
  clear h hT h1 h2
  go_enter Tryz.func93, Tryz.ntmps93
  go_wp2_with fail
  go_loopw [5, 10] (fun v i wr => ∃ k : Nat, k ≤ x.length ∧ i = .int .i64 k ∧ v = .int .i64 (dotF x num k) ∧ Hid (Below w.heap.size w wr)) (fun _ i _ => x.length - (intOf i).toNat)
  case atStart => exact ⟨0, Nat.zero_le _, rfl, rfl, Below.refl _ _⟩
  case round =>
    obtain ⟨k, hk, rfl, rfl, HB⟩ := hrel
    by_cases hlt : k < x.length
    · obtain ⟨b, off, rfl, hS, hcell⟩ := (keepInts HB.out HX.out).at_ hlt
      have hck := hcell k hlt
      clear hcell
      have e1 : IntKind.i64.wrap (nth x k * num k) = nth x k * num k := IntWalk.i64_in _ (by have := H1.out k hlt; omega)
      have e2 : IntKind.i64.wrap (dotF x num k + nth x k * num k) = dotF x num k + nth x k * num k := IntWalk.i64_in _ (by have := H2.out (k + 1) (by omega); simp only [dotF] at this; omega)
      go_wp2_with fail
      refine (HT.out k hlt _ HB.out).mono ?_
      rintro e w1 ⟨rfl, hb1⟩
      have HB' : Hid (Below w.heap.size w w1) := belT HB.out hb1
      clear hb1
      go_wp2_with fail
      go_roundw
      case rel => exact ⟨k + 1, by omega, by go_num, rfl, HB'⟩
      case measure => simp [intOf]; omega
    · obtain rfl : k = x.length := by omega
      go_wp2_with fail
      go_ret
      exact Adds.of rfl HB.out
theorem tells_one (w : World) (n : Nat) : Tells w 104 #[] n (fun _ => 1) := by
  refine ⟨enters_of Tryz.func104 (by kernel_rfl) rfl, fun k hk w1 hb => ?_⟩
  show Calls Tryz.prog 104 #[.int .i64 (k : Nat)] w1 _
  go_enter Tryz.func104, Tryz.ntmps104
  go_wp2
  go_ret
  exact Adds.of rfl (Below.refl _ _)
theorem dotF_one (x : List Int) (k : Nat) : dotF x (fun _ => 1) k = sumW x k := by
  induction k with
  | zero => rfl
  | succ k ih => simp only [dotF, sumW, ih, Int.mul_one]
theorem together (A : Option Addr) (c : Nat) (x : List Int) (hM : Mix x x.length) (w : World) (h : Ints w (· < w.heap.size) A x) :
    Calls Tryz.prog 91 #[.slice A x.length c] w (Adds (.int .i64 (sumW x x.length)) w) := by
  have hhi := hM.hi
  have HX := Lib.hid h
  have HM := Lib.hid hM
  clear h hM
  go_enter Tryz.func91, Tryz.ntmps91
  go_wp2_with fail
  refine (weighted _ _ x _ #[] (fun _ => 1) (by omega) _ HX.out (tells_one _ _) (fun k hk => ?_) (fun k hk => ?_)).mono ?_
  · have := HM.out.wlo k hk; have := HM.out.whi k hk; omega
  · rw [dotF_one]; have := sumW_bd x k (fun i hi => ⟨HM.out.wlo i (by omega), HM.out.whi i (by omega)⟩); omega
  rintro e w1 ⟨rfl, hb1⟩
  rw [dotF_one]
  go_wp2_with fail
  go_ret
  exact Adds.of rfl hb1
theorem tells_line (w : World) (p : Nat) (B : Option Addr) (c : Nat) (l : List Int) (n : Nat) (hn : n ≤ l.length) (hl : l.length ≤ c) (hc1 : c ≤ maxLen) (hp : p < w.heap.size) (hc : w.cell? ⟨p, 0, none⟩ = some (.slice B l.length c)) (hi : Ints w (· < w.heap.size) B l) :
    Tells w 94 #[.pointer (some ⟨p, 0, none⟩)] n (nth l) := by
  refine ⟨enters_of Tryz.func94 (by kernel_rfl) rfl, fun k hk w1 hb => ?_⟩
  show Calls Tryz.prog 94 #[.int .i64 (k : Nat), .pointer (some ⟨p, 0, none⟩)] w1 _
  have hcp : w1.cell? ⟨p, 0, none⟩ = some (.slice B l.length c) := (hb.cell (p := ⟨p, 0, none⟩) hp).trans hc
  obtain ⟨b, off, rfl, hS, hcell⟩ := (keepInts hb hi).at_ (i := k) (by omega)
  have hkl : k < l.length := by omega
  have hck := hcell k hkl
  unfold maxLen at hc1
  clear hcell hc hi
  go_enter Tryz.func94, Tryz.ntmps94
  go_wp2
  go_ret
  exact Adds.of rfl (Below.refl _ _)
theorem infoF : (Tryz.prog.info? 37).map (fun i => (i.zero, i.size, i.bytes)) = some (some (.agg #[.int .i64 0, .int .i64 0]), 2, 16) := by kernel_rfl
theorem make_frac (n : Nat) (hn : n ≤ 16) (w : World) :
    (Instr.makeSlice 99 (.int .i64 (n : Int)) (.int .i64 (n : Int))).run Tryz.prog w = .ok (.slice (some ⟨w.heap.size, 0, none⟩) n n) (w.alloc (.cells (madeCells #[.int .i64 0, .int .i64 0] (n * 2)) 37)) := by
  obtain ⟨i, hi, hzz⟩ := Option.map_eq_some_iff.1 infoF
  simp only [Prod.mk.injEq] at hzz
  obtain ⟨hz, hs, hb⟩ := hzz
  have hr := run_make (P := Tryz.prog) w 99 37 i _ Tryz.underlying99 hi hz .i64 .i64 n n (by omega) (Int.le_refl _) (by rw [hb]; omega) (by omega)
  simp only [Int.toNat_natCast, hs] at hr
  exact hr
def fCell (l : List Int) (s : Int) (k i : Nat) : Value := .int .i64 (if i / 2 < k then (if i % 2 = 0 then lowU (nth l (i / 2)) s else lowD (nth l (i / 2)) s) else 0)
theorem made_fracs (w : World) (l : List Int) (s : Int) : (w.alloc (.cells (madeCells #[.int .i64 0, .int .i64 0] (l.length * 2)) 37)).rowIs w.heap.size 37 (l.length * 2) (fCell l s 0) := by
  refine ⟨_, Deep.blk_alloc_new _ _, size_madeCells _ _, fun i hi => ?_⟩
  have h : i % 2 = 0 ∨ i % 2 = 1 := by omega
  rcases h with h | h <;> simp [madeCells, hi, h, fCell]
structure FracFill (w wr : World) (b : Nat) (l : List Int) (s : Int) (k : Nat) : Prop where
  bel : Below w.heap.size w wr
  lo : w.heap.size ≤ b
  row : wr.rowIs b 37 (l.length * 2) (fCell l s k)
theorem FracFill.call {w wr w1 : World} {b : Nat} {l : List Int} {s : Int} {k : Nat} (h : FracFill w wr b l s k) (hb : Below wr.heap.size wr w1) : FracFill w w1 b l s k :=
  ⟨belT h.bel hb, h.lo, h.row.of_block (hb.block _ h.row.lt)⟩
theorem FracFill.step {w wr : World} {b : Nat} {l : List Int} {s : Int} {k : Nat} (h : FracFill w wr b l s k) :
    FracFill w ((wr.setCell ⟨b, k * 2, none⟩ (.int .i64 (lowU (nth l k) s))).setCell ⟨b, k * 2 + 1, none⟩ (.int .i64 (lowD (nth l k) s))) b l s (k + 1) := by
  refine ⟨(h.bel.setCell h.lo _).setCell h.lo _, h.lo, ((h.row.set (k * 2) _).set (k * 2 + 1) _).congr (fun i _ => ?_)⟩
  by_cases e1 : i = k * 2 + 1
  · subst e1; simp [fCell, show (k * 2 + 1) / 2 = k by omega, show (k * 2 + 1) % 2 = 1 by omega]
  by_cases e0 : i = k * 2
  · subst e0; simp [fCell]
  simp only [e1, e0, if_false, fCell]
  have : i / 2 ≠ k := by omega
  by_cases hlt : i / 2 < k
  · simp [hlt, show i / 2 < k + 1 by omega]
  · simp [hlt, show ¬ i / 2 < k + 1 by omega]
def FracRow (w : World) (b : Nat) (l : List Int) (s : Int) : Prop := w.rowIs b 37 (l.length * 2) (fCell l s l.length)
theorem FracRow.up {w : World} {b : Nat} {l : List Int} {s : Int} (h : FracRow w b l s) {k : Nat} (hk : k < l.length) : w.cell? ⟨b, k * 2, none⟩ = some (.int .i64 (lowU (nth l k) s)) := by
  have := h.cell (i := k * 2) (by omega)
  simpa [fCell, hk] using this
theorem FracRow.down {w : World} {b : Nat} {l : List Int} {s : Int} (h : FracRow w b l s) {k : Nat} (hk : k < l.length) : w.cell? ⟨b, k * 2 + 1, none⟩ = some (.int .i64 (lowD (nth l k) s)) := by
  have := h.cell (i := k * 2 + 1) (by omega)
  simpa [fCell, hk, show (k * 2 + 1) / 2 = k by omega, show (k * 2 + 1) % 2 = 1 by omega] using this
def NewFracs (w : World) (l : List Int) (s : Int) (e : Ending) (w' : World) : Prop :=
  ∃ b : Nat, e = .returned (.slice (some ⟨b, 0, none⟩) l.length l.length) ∧ Below w.heap.size w w' ∧ w.heap.size ≤ b ∧ FracRow w' b l s
end Go.Proofs.YtlmaeadbomnhlaaGreat

namespace Go.Proofs.YtlmaeadbomnhlaaGreat
set_option linter.unusedSimpArgs false
set_option linter.unusedVariables false
open Go.RowKit
theorem dotW_part {g : List (List Int)} {y : List Int} (hG : Game g y.length) (hM : Mix y y.length) (i : Nat) (hi : i < g.length) (k : Nat) (hk : k ≤ y.length) : -14400000 ≤ dotW y (rowAt g i) k ∧ dotW y (rowAt g i) k ≤ 14400000 := by
  have h := dotW_bd y (rowAt g i) 9 (by omega) k (fun j hj => ⟨hM.wlo j (by omega), hM.whi j (by omega)⟩) (fun j hj => ⟨hG.nlo i hi j (by omega), hG.nhi i hi j (by omega)⟩)
  have := hM.hi
  omega
theorem ov_small {a s : Int} (h1 : -14400000 ≤ a) (h2 : a ≤ 14400000) (h3 : 1 ≤ s) (h4 : s ≤ 1600000) : ovB a s = true := by
  have h := low_okB (a := a) (s := s) (by omega) (by omega) (by omega) (by omega)
  rw [okB_iff] at h
  obtain ⟨p1, p2, p3, p4, _⟩ := h
  simp only [ovB, inR, Bool.and_eq_true, decide_eq_true_eq]
  omega
set_option maxHeartbeats 2000000 in
theorem averagesOf (T A : Option Addr) (c d : Nat) (g : List (List Int)) (y : List Int) (hG : Game g y.length) (hM : Mix y y.length) (w : World) (h : Rows2 w (· < w.heap.size) T g) (h' : Ints w (· < w.heap.size) A y) :
    Calls Tryz.prog 71 #[.slice T g.length c, .slice A y.length d] w (NewFracs w (rowsD g y) (sumW y y.length)) := by
  have hg1 := hG.lo
  have hg2 := hG.hi
  have hm2 := hM.hi
  obtain ⟨sb1, sb2⟩ := hM.sum_bd
  have hmk := make_frac g.length hg2
  have hmf : ∀ (fn : Fn) (first cap : Array Value) (w : World), (Instr.makeFunc fn first cap).run Tryz.prog w = .ok (.func fn first cap) w := fun _ _ _ _ => rfl
  obtain ⟨bt, ot, rfl⟩ := h.some (by omega)
  have HL := Lib.hid (rowsD_length g y)
  have HG := Lib.hid hG
  have HM := Lib.hid hM
  have HR := Lib.hid h
  have HY := Lib.hid h'
  clear h h' hG hM
  go_enter Tryz.func71, Tryz.ntmps71
  go_wp2_with fail
  refine (together _ _ y HM.out _ HY.out).mono ?_
  rintro e w1 ⟨rfl, hb1⟩
  have HB1 := Lib.hid hb1
  have F0 : Hid (FracFill w (w1.alloc (.cells (madeCells #[.int .i64 0, .int .i64 0] (g.length * 2)) 37)) w1.heap.size (rowsD g y) (sumW y y.length) 0) := by
    have hr := made_fracs w1 (rowsD g y) (sumW y y.length)
    rw [HL.out] at hr
    exact ⟨hb1.alloc hb1.size _, hb1.size, by rw [HL.out]; exact hr⟩
  clear hb1
  go_wp2_with fail
  go_loopw [16] (fun i wr => ∃ k : Nat, k ≤ g.length ∧ i = .int .i64 k ∧ Hid (FracFill w wr w1.heap.size (rowsD g y) (sumW y y.length) k)) (fun i _ => g.length - (intOf i).toNat)
  case atStart => exact ⟨0, Nat.zero_le _, rfl, F0⟩
  case round =>
    clear F0
    obtain ⟨k, hk, rfl, HF⟩ := hrel
    by_cases hlt : k < g.length
    · have R := keepRows HF.out.bel HR.out
      obtain ⟨hS, Ak, ck, hck, hlk, hmk2, hik⟩ := R.row hlt
      have hlen : (rowAt g k).length = y.length := HG.out.len k hlt
      have HB2 : Below w.heap.size w (wr.alloc (.cells #[.slice Ak (rowAt g k).length ck] 52)) := HF.out.bel.alloc HF.out.bel.size _
      have HY2 := Lib.hid ((keepInts HB2 HY.out).lt HB2.size)
      have hT : Tells (wr.alloc (.cells #[.slice Ak (rowAt g k).length ck] 52)) 94 #[.pointer (some ⟨wr.heap.size, 0, none⟩)] y.length (nth (rowAt g k)) :=
        tells_line _ _ Ak ck _ _ (Nat.le_of_eq hlen.symm) hlk hmk2 (by simp) (by simp [go_sem]) ((hik.keep fun b hb => Below.heap_alloc _ _ _ (by have := HF.out.bel.size; omega)).lt HB2.size)
      have HT := Lib.hid hT
      have HF2 : Hid (FracFill w (wr.alloc (.cells #[.slice Ak (rowAt g k).length ck] 52)) w1.heap.size (rowsD g y) (sumW y y.length) k) := HF.out.call ((Below.refl _ _).alloc (Nat.le_refl _) _)
      have HD : Hid (nth (rowsD g y) k = dotW y (rowAt g k) y.length) := nth_rowsD g y k hlt
      have HP := Lib.hid (dotW_part HG.out HM.out k hlt)
      have hP := HP.out y.length (Nat.le_refl _)
      unfold maxLen at hmk2
      clear R hik hT HB2 hlen
      go_wp2_with fail
      refine (weighted _ _ y _ _ (nth (rowAt g k)) (by omega) _ HY2.out HT.out (fun j hj => ?_) (fun j hj => ?_)).mono ?_
      · have h1 := HM.out.wlo j hj
        have h2 := HM.out.whi j hj
        have h3 := HG.out.nlo k hlt j hj
        have h4 := HG.out.nhi k hlt j hj
        have := prod_bd h1 h2 h3 h4 (by omega)
        omega
      · rw [← dotW_F]; have := HP.out j hj; omega
      rintro e w2 ⟨rfl, hb2⟩
      have HF3 := Lib.hid (HF2.out.call hb2)
      clear hb2 HF2
      rw [← dotW_F]
      go_wp2_with fail
      refine (over_yes _ _ (by omega) (by omega) (by omega) (by omega) (by omega) (ov_small hP.1 hP.2 sb1 sb2) _).mono ?_
      rintro e w3 ⟨rfl, hb3⟩
      have HF4 := Lib.hid (HF3.out.call hb3)
      have cf0 := HF4.out.row.cell (i := k * 2) (by rw [HL.out]; omega)
      have cf1 := HF4.out.row.cell (i := k * 2 + 1) (by rw [HL.out]; omega)
      have ff0 := HF4.out.row.frozen (k * 2)
      have ff1 := HF4.out.row.frozen (k * 2 + 1)
      have HN := HF4.out.step
      rw [HD.out] at HN
      have HN2 := Lib.hid HN
      clear hb3 HF3 HN
      go_wp2_with fail
      go_roundw
      case rel => exact ⟨k + 1, by omega, by go_num, HN2.out⟩
      case measure => simp [intOf]; omega
    · obtain rfl : k = g.length := by omega
      go_wp2_with fail
      go_ret
      refine ⟨_, by rw [HL.out]; rfl, HF.out.bel, HF.out.lo, ?_⟩
      have := HF.out.row
      unfold FracRow
      rw [HL.out] at this ⊢
      exact this
theorem low_lt {a b s : Int} (hs : 0 < s) : lowU a s * lowD b s < lowU b s * lowD a s ↔ a < b := by
  constructor
  · intro h
    by_cases hab : a < b
    · exact hab
    · have := low_le (a := a) (b := b) hs hs (Int.mul_le_mul_of_nonneg_right (by omega) (by omega)); omega
  · intro h
    have h1 := low_le (a := b) (b := a) hs hs (Int.mul_le_mul_of_nonneg_right (by omega) (by omega))
    have p1 := lowD_pos a s (by omega)
    have p2 := lowD_pos b s (by omega)
    rcases Int.lt_or_eq_of_le h1 with h2 | h2
    · exact h2
    · exfalso
      obtain ⟨e1, e2⟩ := cross_eq p1 p2 (low_gcd a s (by omega)) (low_gcd b s (by omega)) h2
      have := low_inj hs e1 e2
      omega
theorem low_bd {a s : Int} (h1 : -14400000 ≤ a) (h2 : a ≤ 14400000) (h3 : 1 ≤ s) (h4 : s ≤ 1600000) : -14400000 ≤ lowU a s ∧ lowU a s ≤ 14400000 ∧ 1 ≤ lowD a s ∧ lowD a s ≤ 14400000 := by
  have b1 := lowU_in a s (M := 14400000) h1 h2
  have b2 := lowD_in a s (M := 14400000) (by omega) (by omega)
  have p := lowD_pos a s (by omega)
  omega
structure BetterF (f : FuncId) (s : Int) (bet : Int → Int → Bool) : Prop where
  enters : ∀ (args : Array Value) (w : World), (callFunc f args).run Tryz.prog w = .ok (.enter f args) w
  calls : ∀ a b : Int, -14400000 ≤ a → a ≤ 14400000 → -14400000 ≤ b → b ≤ 14400000 → ∀ w : World,
    Calls Tryz.prog f #[.agg #[.int .i64 (lowU a s), .int .i64 (lowD a s)], .agg #[.int .i64 (lowU b s), .int .i64 (lowD b s)]] w (Adds (.bool (bet a b)) w)
theorem lessF {s : Int} (h3 : 1 ≤ s) (h4 : s ≤ 1600000) : BetterF 72 s ltB := by
  refine ⟨enters_of Tryz.func72 (by kernel_rfl) rfl, fun a b a1 a2 b1 b2 w => ?_⟩
  obtain ⟨p1, p2, p3, p4⟩ := low_bd a1 a2 h3 h4
  obtain ⟨q1, q2, q3, q4⟩ := low_bd b1 b2 h3 h4
  have m1 := mul_in (a := lowU a s) (b := lowD b s) (by omega) (by omega) (by omega) (by omega)
  have m2 := mul_in (a := lowU b s) (b := lowD a s) (by omega) (by omega) (by omega) (by omega)
  have e : decide (lowU a s * lowD b s < lowU b s * lowD a s) = ltB a b := by unfold ltB; rw [decide_eq_decide]; exact low_lt (by omega)
  refine (less _ _ _ _ (by omega) (by omega) (by omega) (by omega) w).mono ?_
  rintro _ w1 ⟨rfl, hb1⟩
  exact Adds.of (by rw [e]) hb1
theorem moreF {s : Int} (h3 : 1 ≤ s) (h4 : s ≤ 1600000) : BetterF 89 s gtB := by
  refine ⟨enters_of Tryz.func89 (by kernel_rfl) rfl, fun a b a1 a2 b1 b2 w => ?_⟩
  obtain ⟨p1, p2, p3, p4⟩ := low_bd a1 a2 h3 h4
  obtain ⟨q1, q2, q3, q4⟩ := low_bd b1 b2 h3 h4
  have m1 := mul_in (a := lowU a s) (b := lowD b s) (by omega) (by omega) (by omega) (by omega)
  have m2 := mul_in (a := lowU b s) (b := lowD a s) (by omega) (by omega) (by omega) (by omega)
  have e : decide (lowU b s * lowD a s < lowU a s * lowD b s) = gtB a b := by unfold gtB; rw [decide_eq_decide]; exact low_lt (by omega)
  refine (more _ _ _ _ (by omega) (by omega) (by omega) (by omega) w).mono ?_
  rintro _ w1 ⟨rfl, hb1⟩
  exact Adds.of (by rw [e]) hb1
set_option maxHeartbeats 2000000 in
set_option maxRecDepth 100000 in
theorem bestOfF (f : FuncId) (s : Int) (bet : Int → Int → Bool) (hf : BetterF f s bet) (b c : Nat) (l : List Int) (h0 : 0 < l.length) (hl : l.length ≤ 16) (hbd : ∀ i, i < l.length → -14400000 ≤ nth l i ∧ nth l i ≤ 14400000) (w : World) (h : FracRow w b l s) :
    Calls Tryz.prog 70 #[.slice (some ⟨b, 0, none⟩) l.length c, .func (.func f) #[] #[]] w
      (Adds (.tuple #[.agg #[.int .i64 (lowU (nth l (bestN bet l l.length)) s), .int .i64 (lowD (nth l (bestN bet l l.length)) s)], .int .i64 (bestN bet l l.length : Nat)]) w) := by
  have hbw : b < w.heap.size := World.rowIs.lt h
  have HF := Lib.hid hf.calls
  have hE := hf.enters
  have HB := Lib.hid hbd
  have HR := Lib.hid h
  clear hf hbd h
  go_enter Tryz.func70, Tryz.ntmps70
  go_wp2_with fail
  obtain ⟨W, hW⟩ : ∃ W : World, W = (w.alloc (.cells #[(Value.int .i64 0), (Value.int .i64 0)] 37)) := ⟨_, rfl⟩
  have hzW : W.heap.size = w.heap.size + 1 := by rw [hW]; simp
  have hbW : Below w.heap.size w W := by rw [hW]; exact (by repeat (first | exact Below.refl _ _ | assumption | exact bel1 (by assumption) | exact bel2 (by assumption) | exact bel3 (by assumption) | exact bel4 (by assumption) | refine Below.drew ?_ | refine below_drewN ?_ _ | refine Below.setCell ?_ (by first | (simp; done) | (simp; omega)) _ | refine Below.alloc ?_ (by first | (simp; done) | (simp; omega)) _))
  have r00 := stays (p := w.heap.size) (o := 0) (by omega) (show W.cell? ⟨w.heap.size, 0, none⟩ = some ((Value.int .i64 0)) from by rw [hW]; simp [go_sem])
  have g00 := staysF (p := w.heap.size) (o := 0) (by omega) (show W.frozen? ⟨w.heap.size, 0, none⟩ = false from by rw [hW]; simp [go_sem])
  have r01 := stays (p := w.heap.size) (o := 1) (by omega) (show W.cell? ⟨w.heap.size, 1, none⟩ = some ((Value.int .i64 0)) from by rw [hW]; simp [go_sem])
  have g01 := staysF (p := w.heap.size) (o := 1) (by omega) (show W.frozen? ⟨w.heap.size, 1, none⟩ = false from by rw [hW]; simp [go_sem])
  rw [← hW]
  clear hW
  have HRW : Hid (FracRow W b l s) := World.rowIs.of_block HR.out (hbW.block b hbw)
  have hbW2 : b < W.heap.size := by omega
  clear hzW
  go_loopw [6, 11] (fun v i wr => ∃ k : Nat, k ≤ l.length ∧ i = .int .i64 k ∧ v = .int .i64 (bestN bet l k : Nat) ∧ Hid (Below W.heap.size W wr)) (fun _ i _ => l.length - (intOf i).toNat)
  case atStart => exact ⟨0, Nat.zero_le _, rfl, rfl, Below.refl _ _⟩
  case round =>
    obtain ⟨k, hk, rfl, rfl, HV⟩ := hrel
    have hbl : bestN bet l k < l.length := bestN_lt _ _ h0 hk
    have R : FracRow wr b l s := World.rowIs.of_block HRW.out (HV.out.block b hbW2)
    by_cases hlt : k < l.length
    · have cu := R.up hlt
      have cd := R.down hlt
      have hbk := Lib.hid (HB.out k hlt)
      have bu := R.up hbl
      have bd := R.down hbl
      have hbk := Lib.hid (HB.out k hlt)
      have hbb := Lib.hid (HB.out _ hbl)
      have hbr : b < wr.heap.size := Nat.lt_of_lt_of_le hbW2 HV.out.size
      clear R r00 r01 g00 g01
      go_wp2_with fail
      obtain ⟨X, hX⟩ : ∃ X : World, X = (wr.alloc (.cells #[(Value.int .i64 (lowU (nth l k) s)), (Value.int .i64 (lowD (nth l k) s))] 37)) := ⟨_, rfl⟩
      have hzX : X.heap.size = wr.heap.size + 1 := by rw [hX]; simp
      have hbX : Below wr.heap.size wr X := by rw [hX]; exact (by repeat (first | exact Below.refl _ _ | assumption | exact bel1 (by assumption) | exact bel2 (by assumption) | exact bel3 (by assumption) | exact bel4 (by assumption) | refine Below.drew ?_ | refine below_drewN ?_ _ | refine Below.setCell ?_ (by first | (simp; done) | (simp; omega)) _ | refine Below.alloc ?_ (by first | (simp; done) | (simp; omega)) _))
      have s00 := stays (p := wr.heap.size) (o := 0) (by omega) (show X.cell? ⟨wr.heap.size, 0, none⟩ = some ((Value.int .i64 (lowU (nth l k) s))) from by rw [hX]; simp [go_sem])
      have s01 := stays (p := wr.heap.size) (o := 1) (by omega) (show X.cell? ⟨wr.heap.size, 1, none⟩ = some ((Value.int .i64 (lowD (nth l k) s))) from by rw [hX]; simp [go_sem])
      have t00 := stays (p := b) (o := bestN bet l k * 2) (by omega) ((hbX.cell (p := ⟨b, bestN bet l k * 2, none⟩) hbr).trans bu)
      have t01 := stays (p := b) (o := bestN bet l k * 2 + 1) (by omega) ((hbX.cell (p := ⟨b, bestN bet l k * 2 + 1, none⟩) hbr).trans bd)
      rw [← hX]
      have HVX : Hid (Below W.heap.size W X) := belT HV.out hbX
      clear hX cu cd bu bd hbX hzX hbr
      go_region_held3 (fun w' => Below X.heap.size X w')
        (first | exact Below.refl _ _ | exact Below.drew (Below.refl _ _) | (refine Below.drew ?_; assumption) | exact belT (by assumption) (by assumption) | assumption)
        (first | (refine (HF.out (nth l k) (nth l (bestN bet l k)) hbk.out.1 hbk.out.2 hbb.out.1 hbb.out.2 _).mono ?_; rintro e w1 ⟨rfl, hb1⟩))
      have HV2 : Hid (Below W.heap.size W w1) := belT HVX.out (by assumption)
      rcases hb : bet (nth l k) (nth l (bestN bet l k)) with _ | _
      · have HS : Hid (bestN bet l (k + 1) = bestN bet l k) := by show bestN _ _ _ = _; simp [bestN, hb]
        clear hb
        go_wp2_with fail
        go_roundw
        case rel => exact ⟨k + 1, by omega, by go_num, by rw [HS.out], HV2⟩
        case measure => simp [intOf]; omega
      · have HS : Hid (bestN bet l (k + 1) = k) := by show bestN _ _ _ = _; simp [bestN, hb]
        clear hb
        go_wp2_with fail
        go_roundw
        case rel => exact ⟨k + 1, by omega, by go_num, by rw [HS.out], HV2⟩
        case measure => simp [intOf]; omega
    · obtain rfl : k = l.length := by omega
      have cu := R.up hbl
      have cd := R.down hbl
      have hk2 := HV.out
      have e00 := r00 _ hk2
      have e01 := r01 _ hk2
      have f00 := g00 _ hk2
      have f01 := g01 _ hk2
      clear R r00 r01 g00 g01
      go_wp2_with fail
      refine bodyPost_ret (v := .tuple #[.agg #[.int .i64 (lowU (nth l (bestN bet l l.length)) s), .int .i64 (lowD (nth l (bestN bet l l.length)) s)], .int .i64 (bestN bet l l.length : Nat)]) (by simp [results, Tryz.results70, go_sem, e00, e01]) rfl ⟨rfl, ?_⟩
      exact ((belT hbW hk2).setCell (Nat.le_refl _) _).setCell (Nat.le_refl _) _
end Go.Proofs.YtlmaeadbomnhlaaGreat

namespace Go.Proofs.YtlmaeadbomnhlaaGreat
set_option linter.unusedSimpArgs false
set_option linter.unusedVariables false
open Go.RowKit
set_option maxHeartbeats 400000 in
theorem sideOkI (n : Int) (w : World) :
    Calls Tryz.prog 80 #[.int .i64 n] w (Same (.bool (inR n 1 16)) w) := by
  by_cases h1 : 1 ≤ n
  · by_cases h2 : n ≤ 16
    · have hf : inR n 1 16 = true := by simp [inR, h1, h2]
      rw [hf]
      go_enter Tryz.func80, Tryz.ntmps80
      go_wp2
      go_ret
      exact Same.of (by simp; try omega)
    · have hf : inR n 1 16 = false := by simp [inR, h2]
      rw [hf]
      go_enter Tryz.func80, Tryz.ntmps80
      go_wp2
      go_ret
      exact Same.of (by simp; try omega)
  · have hf : inR n 1 16 = false := by simp [inR, h1]
    rw [hf]
    have hd : decide ((1 : Int) ≤ n) = false := by simp; omega
    go_enter Tryz.func80, Tryz.ntmps80
    go_wp2
    go_ret
    exact Same.of (by simp; try omega)
set_option maxHeartbeats 1000000 in
theorem mixOk_impl (A : Option Addr) (c : Nat) (l : List Int) (many : Int) (S : Nat → Prop) (hl : l.length ≤ 4294967296) (w : World) (h : Ints w S A l) :
    Calls Tryz.prog 90 #[.slice A l.length c, .int .i64 many] w (Same (.bool (mixB l many)) w) := by
  have HH := Lib.hid h
  clear h
  rcases h4 : inR many 1 16 with _ | _
  · have hno : Hid (mixB l many = false) := by simp [Hid, mixB, h4]
    have H4 := Lib.hid h4
    clear h4
    go_enter Tryz.func90, Tryz.ntmps90
    go_wp2_with (go_at_call 80; refine (sideOkI _ _).mono ?_; rintro e w1 ⟨rfl, rfl⟩; rw [H4.out])
    go_ret
    exact Same.of (by rw [hno.out]; rfl)
  have H4 := Lib.hid h4
  clear h4
  rcases h5 : ((l.length : Int) == many) with _ | _
  · have hno : Hid (mixB l many = false) := by simp only [Hid, mixB, h5]; simp
    have h6 : ((l.length : Int) != many) = true := by simp [bne, h5]
    clear h5
    go_enter Tryz.func90, Tryz.ntmps90
    go_wp2_with (go_at_call 80; refine (sideOkI _ _).mono ?_; rintro e w1 ⟨rfl, rfl⟩; rw [H4.out])
    all_goals
      go_ret
      exact Same.of (by rw [hno.out]; rfl)
  have H5 := Lib.hid h5
  have h6 : ((l.length : Int) != many) = false := by simp [bne, h5]
  clear h5
  go_enter Tryz.func90, Tryz.ntmps90
  go_wp2_with (go_at_call 80; refine (sideOkI _ _).mono ?_; rintro e w1 ⟨rfl, rfl⟩; rw [H4.out])
  go_loop [5, 19] (fun v i => ∃ k : Nat, k ≤ l.length ∧ i = .int .i64 k ∧ v = .bool (decide (0 < sumW l k)) ∧ Hid (wsB l k = true)) (fun _ i => l.length - (intOf i).toNat)
  case atStart => exact ⟨0, Nat.zero_le _, rfl, by simp [sumW], rfl⟩
  case round =>
    obtain ⟨k, hk, rfl, rfl, H⟩ := hrel
    obtain ⟨b1, b2⟩ := sumW_bd l k (wsB_iff.1 H.out)
    by_cases hlt : k < l.length
    · obtain ⟨b, off, rfl, hS, hc⟩ := HH.out.at_ hlt
      have hck := hc k hlt
      clear hc
      rcases h3 : wB (nth l k) with _ | _
      · have hno : Hid (mixB l many = false) := by simp [Hid, mixB, wsB_no h3 hlt]
        rcases wB_false.1 h3 with h7 | h7
        · have d1 : decide (nth l k < 0) = true := by simp [h7]
          clear h3 h7
          go_wp2_with fail
          go_ret
          exact Same.of (by rw [hno.out]; rfl)
        · have d1 : decide (nth l k < 0) = false := by simp; omega
          have d2 : decide (100000 < nth l k) = true := by simp [h7]
          clear h3 h7
          go_wp2_with fail
          go_ret
          exact Same.of (by rw [hno.out]; rfl)
      · have hy : Hid (wsB l (k + 1) = true) := by show (wsB _ k && _) = true; rw [H.out, h3]; rfl
        obtain ⟨hw1, hw2⟩ := wB_iff.1 h3
        have d1 : decide (nth l k < 0) = false := by simp; omega
        have d2 : decide (100000 < nth l k) = false := by simp; omega
        have HS : Hid (decide (0 < sumW l (k + 1)) = (decide (0 < sumW l k) || decide (0 < nth l k))) := by
          show _ = _
          rw [← Bool.decide_or, decide_eq_decide]
          simp only [sumW]; omega
        generalize decide (0 < sumW l k) = p at HS ⊢
        rcases h8 : decide (0 < nth l k) with _ | _
        · rw [h8] at HS
          clear h3 hw1 hw2 b1 b2
          cases p <;>
            (go_wp2_with fail
             go_round
             case rel => exact ⟨k + 1, by omega, by go_num, by rw [HS.out]; rfl, hy⟩
             case measure => simp [intOf]; omega)
        · rw [h8] at HS
          clear h3 hw1 hw2 b1 b2
          cases p <;>
            (go_wp2_with fail
             go_round
             case rel => exact ⟨k + 1, by omega, by go_num, by rw [HS.out]; rfl, hy⟩
             case measure => simp [intOf]; omega)
    · obtain rfl : k = l.length := by omega
      have hy : Hid (mixB l many = decide (0 < sumW l l.length)) := by show mixB l many = _; simp only [mixB, H.out, H4.out, H5.out]; simp
      generalize decide (0 < sumW l l.length) = p at hy ⊢
      go_wp2_with fail
      go_ret
      exact Same.of (by rw [hy.out]; rfl)
set_option maxHeartbeats 1000000 in
theorem rowsMixed (T A : Option Addr) (c d : Nat) (g : List (List Int)) (x : List Int) (S R : Nat → Prop) (hl : g.length ≤ maxLen) (hx : x.length ≤ 4294967296) (w : World) (h : Rows2 w S T g) (h' : Ints w R A x) :
    Calls Tryz.prog 69 #[.slice T g.length c, .slice A x.length d] w (Same (.bool (safB g x)) w) := by
  have HR := Lib.hid h
  have HX := Lib.hid h'
  clear h h'
  rcases hb : gameB g with _ | _
  · have HG := Lib.hid hb
    have HS : Hid (safB g x = false) := by simp [Hid, safB, hb]
    clear hb
    go_enter Tryz.func69, Tryz.ntmps69
    go_wp2_with fail
    refine (game_impl _ _ _ _ hl _ HR.out).mono ?_
    rintro e w1 ⟨rfl, rfl⟩
    rw [HG.out]
    go_wp2_with fail
    go_ret
    exact Same.of (by rw [HS.out]; rfl)
  · have HG := Lib.hid hb
    have HS : Hid (safB g x = mixB x (g.length : Int)) := by simp [Hid, safB, hb]
    clear hb
    go_enter Tryz.func69, Tryz.ntmps69
    go_wp2_with fail
    refine (game_impl _ _ _ _ hl _ HR.out).mono ?_
    rintro e w1 ⟨rfl, rfl⟩
    rw [HG.out]
    go_wp2_with fail
    refine (mixOk_impl _ _ x _ _ hx _ HX.out).mono ?_
    rintro e w1 ⟨rfl, rfl⟩
    go_wp2_with fail
    go_ret
    exact Same.of (by rw [HS.out]; rfl)
set_option maxHeartbeats 1000000 in
theorem columnsMixed (T A : Option Addr) (c d : Nat) (g : List (List Int)) (y : List Int) (S R : Nat → Prop) (hl : g.length ≤ maxLen) (hx : y.length ≤ 4294967296) (w : World) (h : Rows2 w S T g) (h' : Ints w R A y) :
    Calls Tryz.prog 88 #[.slice T g.length c, .slice A y.length d] w (Same (.bool (risB g y)) w) := by
  rcases hb : gameB g with _ | _
  · have HR := Lib.hid h
    have HG := Lib.hid hb
    have HS : Hid (risB g y = false) := by simp [Hid, risB, hb]
    clear hb h h'
    go_enter Tryz.func88, Tryz.ntmps88
    go_wp2_with fail
    refine (game_impl _ _ _ _ hl _ HR.out).mono ?_
    rintro e w1 ⟨rfl, rfl⟩
    rw [HG.out]
    go_wp2_with fail
    go_ret
    exact Same.of (by rw [HS.out]; rfl)
  · have HG := Lib.hid hb
    have HS : Hid (risB g y = mixB y ((rowAt g 0).length : Int)) := by simp [Hid, risB, hb]
    have hg1 := (Game.of hb).lo
    obtain ⟨bt, ot, rfl⟩ := h.some (by omega)
    obtain ⟨hS, A0, c0, hc0, hl0, hm0, _⟩ := h.row (i := 0) (by omega)
    rw [Nat.add_zero] at hc0
    unfold maxLen at hm0
    have HR := Lib.hid h
    have HX := Lib.hid h'
    clear hb h h'
    go_enter Tryz.func88, Tryz.ntmps88
    go_wp2_with fail
    refine (game_impl _ _ _ _ hl _ HR.out).mono ?_
    rintro e w1 ⟨rfl, rfl⟩
    rw [HG.out]
    go_wp2_with fail
    refine (mixOk_impl _ _ y _ _ hx _ HX.out).mono ?_
    rintro e w1 ⟨rfl, rfl⟩
    go_wp2_with fail
    go_ret
    exact Same.of (by rw [HS.out]; rfl)
theorem cols_game {g : List (List Int)} {m : Nat} (hg : Game g m) : Game (cols g) g.length := by
  have hm := hg.to.2
  subst hm
  refine ⟨by rw [cols_length]; exact hg.mlo, by rw [cols_length]; exact hg.mhi, hg.lo, hg.hi, fun i hi => rowAt_cols_length g i (by rwa [cols_length] at hi), fun i hi j hj => ?_, fun i hi j hj => ?_⟩ <;>
    rw [cols_length] at hi <;> rw [nth_cols g i j hi hj]
  · exact hg.nlo j hj i hi
  · exact hg.nhi j hj i hi
theorem rowsD_cols {g : List (List Int)} {x : List Int} (hx : x.length = g.length) : rowsD (cols g) x = colsD g x := by
  refine ext_nth (by rw [rowsD_length, cols_length, colsD_length]) (fun i hi => ?_)
  rw [rowsD_length] at hi
  have hi' : i < (rowAt g 0).length := by rwa [cols_length] at hi
  rw [nth_rowsD _ _ i hi, nth_colsD _ _ i hi']
  unfold rowD colD
  rw [rowAt_cols g i hi', hx]
theorem safe_at {g : List (List Int)} {x : List Int} (hx : x.length = g.length) : nth (rowsD (cols g) x) (bestN ltB (rowsD (cols g) x) (rowsD (cols g) x).length) = safeN g x := by
  rw [rowsD_cols hx, bestN_low, colsD_length]; rfl
theorem risk_at (g : List (List Int)) (y : List Int) : nth (rowsD g y) (bestN gtB (rowsD g y) (rowsD g y).length) = riskN g y := by
  rw [bestN_high, rowsD_length]; rfl
theorem Mix.self {x : List Int} {m : Nat} (h : Mix x m) : Mix x x.length := by rw [h.len]; exact h
set_option maxHeartbeats 2000000 in
theorem safe_impl (T A : Option Addr) (c d : Nat) (g : List (List Int)) (x : List Int) (hl : g.length ≤ maxLen) (hx : x.length ≤ 4294967296) (w : World) (h : Rows2 w (· < w.heap.size) T g) (h' : Ints w (· < w.heap.size) A x) :
    Calls Tryz.prog 49 #[.slice T g.length c, .slice A x.length d] w (Adds (FracRes (safU g x) (safD g x) (safB g x)) w) := by
  rcases hB : safB g x with _ | _
  · have HU : Hid (safU g x = 0) := by simp [Hid, safU, hB]
    have HD : Hid (safD g x = 0) := by simp [Hid, safD, hB]
    have HB := Lib.hid hB
    have HR := Lib.hid h
    have HX := Lib.hid h'
    clear hB h h'
    go_enter Tryz.func49, Tryz.ntmps49
    go_wp2_with fail
    obtain ⟨W, hW⟩ : ∃ W : World, W = (w.alloc (.cells #[(Value.int .i64 0), (Value.int .i64 0)] 37)) := ⟨_, rfl⟩
    have hzW : W.heap.size = w.heap.size + 1 := by rw [hW]; simp
    have hbW : Below w.heap.size w W := by rw [hW]; exact (by repeat (first | exact Below.refl _ _ | assumption | exact bel1 (by assumption) | exact bel2 (by assumption) | exact bel3 (by assumption) | exact bel4 (by assumption) | refine Below.drew ?_ | refine below_drewN ?_ _ | refine Below.setCell ?_ (by first | (simp; done) | (simp; omega)) _ | refine Below.alloc ?_ (by first | (simp; done) | (simp; omega)) _))
    have r00 := stays (p := w.heap.size) (o := 0) (by omega) (show W.cell? ⟨w.heap.size, 0, none⟩ = some ((Value.int .i64 0)) from by rw [hW]; simp [go_sem])
    have g00 := staysF (p := w.heap.size) (o := 0) (by omega) (show W.frozen? ⟨w.heap.size, 0, none⟩ = false from by rw [hW]; simp [go_sem])
    have r01 := stays (p := w.heap.size) (o := 1) (by omega) (show W.cell? ⟨w.heap.size, 1, none⟩ = some ((Value.int .i64 0)) from by rw [hW]; simp [go_sem])
    have g01 := staysF (p := w.heap.size) (o := 1) (by omega) (show W.frozen? ⟨w.heap.size, 1, none⟩ = false from by rw [hW]; simp [go_sem])
    rw [← hW]
    clear hW
    have HzW := Lib.hid hzW
    clear hzW
    refine (rowsMixed _ _ _ _ g x _ _ hl hx _ (keepRows hbW HR.out) (keepInts hbW HX.out)).mono ?_
    rintro e w1 ⟨rfl, rfl⟩
    rw [HB.out]
    have hk : Below W.heap.size W W := Below.refl _ _
    go_wp2_with fail
    refine bodyPost_ret (v := .tuple #[.agg #[.int .i64 0, .int .i64 0], .bool false]) (by simp [results, Tryz.results49, go_sem, r00 _ hk, r01 _ hk]) rfl ⟨by rw [HU.out, HD.out]; try rfl, ?_⟩
    exact (hbW.setCell (Nat.le_refl _) _).setCell (Nat.le_refl _) _
  obtain ⟨hb, hB2⟩ : gameB g = true ∧ mixB x (g.length : Int) = true := by simpa [safB] using hB
  have hg := Game.of hb
  have hx0 := Mix.of hB2
  have hg1 := hg.lo
  have hg2 := hg.hi
  have hg3 := hg.mlo
  have hg4 := hg.mhi
  obtain ⟨sb1, sb2⟩ := hx0.sum_bd
  rw [← hx0.len] at sb1 sb2
  have HU : Hid (safU g x = lowU (safeN g x) (sumW x x.length)) := by simp [Hid, safU, hB]
  have HD : Hid (safD g x = lowD (safeN g x) (sumW x x.length)) := by simp [Hid, safD, hB]
  have HB := Lib.hid hB
  have HM := Lib.hid hx0.self
  have HG := Lib.hid hg
  have HGL : Hid (Game (cols g) x.length) := by show Game _ _; rw [hx0.len]; exact cols_game hg
  have HV := Lib.hid (safe_at (g := g) (x := x) hx0.len)
  have HCL := Lib.hid (cols_length g)
  have HML : Hid (∀ i, i < (cols g).length → (rowAt (cols g) i).length ≤ maxLen) := fun i hi => by rw [rowAt_cols_length g i (by rwa [cols_length] at hi)]; exact hl
  have HLL := Lib.hid (rowsD_length (cols g) x)
  have HBD : Hid (∀ i, i < (rowsD (cols g) x).length → -14400000 ≤ nth (rowsD (cols g) x) i ∧ nth (rowsD (cols g) x) i ≤ 14400000) := fun i hi => by
    rw [rowsD_length] at hi
    rw [nth_rowsD _ _ i hi]; exact rowD_bd HGL.out HM.out i hi
  have HR := Lib.hid h
  have HX := Lib.hid h'
  clear hb hB hB2 h h' hg hx0
  go_enter Tryz.func49, Tryz.ntmps49
  go_wp2_with fail
  obtain ⟨W, hW⟩ : ∃ W : World, W = (w.alloc (.cells #[(Value.int .i64 0), (Value.int .i64 0)] 37)) := ⟨_, rfl⟩
  have hzW : W.heap.size = w.heap.size + 1 := by rw [hW]; simp
  have hbW : Below w.heap.size w W := by rw [hW]; exact (by repeat (first | exact Below.refl _ _ | assumption | exact bel1 (by assumption) | exact bel2 (by assumption) | exact bel3 (by assumption) | exact bel4 (by assumption) | refine Below.drew ?_ | refine below_drewN ?_ _ | refine Below.setCell ?_ (by first | (simp; done) | (simp; omega)) _ | refine Below.alloc ?_ (by first | (simp; done) | (simp; omega)) _))
  have r00 := stays (p := w.heap.size) (o := 0) (by omega) (show W.cell? ⟨w.heap.size, 0, none⟩ = some ((Value.int .i64 0)) from by rw [hW]; simp [go_sem])
  have g00 := staysF (p := w.heap.size) (o := 0) (by omega) (show W.frozen? ⟨w.heap.size, 0, none⟩ = false from by rw [hW]; simp [go_sem])
  have r01 := stays (p := w.heap.size) (o := 1) (by omega) (show W.cell? ⟨w.heap.size, 1, none⟩ = some ((Value.int .i64 0)) from by rw [hW]; simp [go_sem])
  have g01 := staysF (p := w.heap.size) (o := 1) (by omega) (show W.frozen? ⟨w.heap.size, 1, none⟩ = false from by rw [hW]; simp [go_sem])
  rw [← hW]
  clear hW
  have HzW := Lib.hid hzW
  clear hzW
  have RW := Lib.hid (keepRows hbW HR.out)
  have XW := Lib.hid (keepInts hbW HX.out)
  refine (rowsMixed _ _ _ _ g x _ _ hl hx _ RW.out XW.out).mono ?_
  rintro e w1 ⟨rfl, rfl⟩
  rw [HB.out]
  have hsw := hbW.size
  go_wp2_with fail
  refine (columnsOf _ _ g _ HG.out _ (RW.out.lt hsw)).mono ?_
  rintro e w1 ⟨rfl, hL⟩
  have hk1 : Below W.heap.size W w1 := hL.bel
  have R1 := Lib.hid (hL.rows2 (S := (· < w1.heap.size)) (fun _ _ h => h) HML.out)
  have X1 := Lib.hid ((keepInts (belT hbW hk1) HX.out).lt (belT hbW hk1).size)
  clear hL
  go_wp2_with fail
  refine (averagesOf _ _ _ _ (cols g) x HGL.out HM.out _ R1.out X1.out).mono ?_
  rintro e w2 ⟨bq, rfl, hb2, _, hr⟩
  have hk2 := belT hk1 hb2
  have FR2 := Lib.hid hr
  clear hr hb2
  go_wp2_with fail
  refine (bestOfF _ _ ltB (lessF sb1 sb2) bq _ (rowsD (cols g) x) (by rw [HLL.out]; rw [HCL.out]; omega) (by rw [HLL.out]; rw [HCL.out]; omega) HBD.out _ FR2.out).mono ?_
  rintro e w3 ⟨rfl, hb3⟩
  rw [HV.out]
  have hk3 := belT hk2 hb3
  have HWz := hk3.size
  have e00 := r00 _ hk3
  have e01 := r01 _ hk3
  have f00 := g00 _ hk3
  have f01 := g01 _ hk3
  have hlt3 : w.heap.size < w3.heap.size := by have := HzW.out; omega
  clear hb3 r00 r01 g00 g01 HWz
  go_wp2_with fail
  refine bodyPost_ret (v := .tuple #[.agg #[.int .i64 (lowU (safeN g x) (sumW x x.length)), .int .i64 (lowD (safeN g x) (sumW x x.length))], .bool true]) (by simp [results, Tryz.results49, go_sem, e00, e01, hlt3, Nat.ne_of_lt hlt3, Nat.ne_of_gt hlt3]) rfl ⟨by rw [HU.out, HD.out]; try rfl, ?_⟩
  exact (((belT hbW hk3).setCell (Nat.le_refl _) _).setCell (Nat.le_refl _) _).alloc (by simpa [World.setCell] using (belT hbW hk3).size) _
set_option maxHeartbeats 2000000 in
theorem risk_impl (T A : Option Addr) (c d : Nat) (g : List (List Int)) (y : List Int) (hl : g.length ≤ maxLen) (hx : y.length ≤ 4294967296) (w : World) (h : Rows2 w (· < w.heap.size) T g) (h' : Ints w (· < w.heap.size) A y) :
    Calls Tryz.prog 68 #[.slice T g.length c, .slice A y.length d] w (Adds (FracRes (risU g y) (risD g y) (risB g y)) w) := by
  rcases hB : risB g y with _ | _
  · have HU : Hid (risU g y = 0) := by simp [Hid, risU, hB]
    have HD : Hid (risD g y = 0) := by simp [Hid, risD, hB]
    have HB := Lib.hid hB
    have HR := Lib.hid h
    have HX := Lib.hid h'
    clear hB h h'
    go_enter Tryz.func68, Tryz.ntmps68
    go_wp2_with fail
    obtain ⟨W, hW⟩ : ∃ W : World, W = (w.alloc (.cells #[(Value.int .i64 0), (Value.int .i64 0)] 37)) := ⟨_, rfl⟩
    have hzW : W.heap.size = w.heap.size + 1 := by rw [hW]; simp
    have hbW : Below w.heap.size w W := by rw [hW]; exact (by repeat (first | exact Below.refl _ _ | assumption | exact bel1 (by assumption) | exact bel2 (by assumption) | exact bel3 (by assumption) | exact bel4 (by assumption) | refine Below.drew ?_ | refine below_drewN ?_ _ | refine Below.setCell ?_ (by first | (simp; done) | (simp; omega)) _ | refine Below.alloc ?_ (by first | (simp; done) | (simp; omega)) _))
    have r00 := stays (p := w.heap.size) (o := 0) (by omega) (show W.cell? ⟨w.heap.size, 0, none⟩ = some ((Value.int .i64 0)) from by rw [hW]; simp [go_sem])
    have g00 := staysF (p := w.heap.size) (o := 0) (by omega) (show W.frozen? ⟨w.heap.size, 0, none⟩ = false from by rw [hW]; simp [go_sem])
    have r01 := stays (p := w.heap.size) (o := 1) (by omega) (show W.cell? ⟨w.heap.size, 1, none⟩ = some ((Value.int .i64 0)) from by rw [hW]; simp [go_sem])
    have g01 := staysF (p := w.heap.size) (o := 1) (by omega) (show W.frozen? ⟨w.heap.size, 1, none⟩ = false from by rw [hW]; simp [go_sem])
    rw [← hW]
    clear hW
    have HzW := Lib.hid hzW
    clear hzW
    refine (columnsMixed _ _ _ _ g y _ _ hl hx _ (keepRows hbW HR.out) (keepInts hbW HX.out)).mono ?_
    rintro e w1 ⟨rfl, rfl⟩
    rw [HB.out]
    have hk : Below W.heap.size W W := Below.refl _ _
    go_wp2_with fail
    refine bodyPost_ret (v := .tuple #[.agg #[.int .i64 0, .int .i64 0], .bool false]) (by simp [results, Tryz.results68, go_sem, r00 _ hk, r01 _ hk]) rfl ⟨by rw [HU.out, HD.out]; try rfl, ?_⟩
    exact (hbW.setCell (Nat.le_refl _) _).setCell (Nat.le_refl _) _
  obtain ⟨hb, hB2⟩ : gameB g = true ∧ mixB y ((rowAt g 0).length : Int) = true := by simpa [risB] using hB
  have hg := Game.of hb
  have hx0 := Mix.of hB2
  have hg1 := hg.lo
  have hg2 := hg.hi
  have hg3 := hg.mlo
  have hg4 := hg.mhi
  obtain ⟨sb1, sb2⟩ := hx0.sum_bd
  rw [← hx0.len] at sb1 sb2
  have HU : Hid (risU g y = lowU (riskN g y) (sumW y y.length)) := by simp [Hid, risU, hB]
  have HD : Hid (risD g y = lowD (riskN g y) (sumW y y.length)) := by simp [Hid, risD, hB]
  have HB := Lib.hid hB
  have HM := Lib.hid hx0.self
  have HG := Lib.hid hg
  have HGL : Hid (Game g y.length) := by show Game _ _; rw [hx0.len]; exact hg
  have HV := Lib.hid (risk_at g y)
  have HLL := Lib.hid (rowsD_length g y)
  have HBD : Hid (∀ i, i < (rowsD g y).length → -14400000 ≤ nth (rowsD g y) i ∧ nth (rowsD g y) i ≤ 14400000) := fun i hi => by
    rw [rowsD_length] at hi
    rw [nth_rowsD _ _ i hi]; exact rowD_bd HGL.out HM.out i hi
  have HR := Lib.hid h
  have HX := Lib.hid h'
  clear hb hB hB2 h h' hg hx0
  go_enter Tryz.func68, Tryz.ntmps68
  go_wp2_with fail
  obtain ⟨W, hW⟩ : ∃ W : World, W = (w.alloc (.cells #[(Value.int .i64 0), (Value.int .i64 0)] 37)) := ⟨_, rfl⟩
  have hzW : W.heap.size = w.heap.size + 1 := by rw [hW]; simp
  have hbW : Below w.heap.size w W := by rw [hW]; exact (by repeat (first | exact Below.refl _ _ | assumption | exact bel1 (by assumption) | exact bel2 (by assumption) | exact bel3 (by assumption) | exact bel4 (by assumption) | refine Below.drew ?_ | refine below_drewN ?_ _ | refine Below.setCell ?_ (by first | (simp; done) | (simp; omega)) _ | refine Below.alloc ?_ (by first | (simp; done) | (simp; omega)) _))
  have r00 := stays (p := w.heap.size) (o := 0) (by omega) (show W.cell? ⟨w.heap.size, 0, none⟩ = some ((Value.int .i64 0)) from by rw [hW]; simp [go_sem])
  have g00 := staysF (p := w.heap.size) (o := 0) (by omega) (show W.frozen? ⟨w.heap.size, 0, none⟩ = false from by rw [hW]; simp [go_sem])
  have r01 := stays (p := w.heap.size) (o := 1) (by omega) (show W.cell? ⟨w.heap.size, 1, none⟩ = some ((Value.int .i64 0)) from by rw [hW]; simp [go_sem])
  have g01 := staysF (p := w.heap.size) (o := 1) (by omega) (show W.frozen? ⟨w.heap.size, 1, none⟩ = false from by rw [hW]; simp [go_sem])
  rw [← hW]
  clear hW
  have HzW := Lib.hid hzW
  clear hzW
  have RW := Lib.hid (keepRows hbW HR.out)
  have XW := Lib.hid (keepInts hbW HX.out)
  refine (columnsMixed _ _ _ _ g y _ _ hl hx _ RW.out XW.out).mono ?_
  rintro e w1 ⟨rfl, rfl⟩
  rw [HB.out]
  have hsw := hbW.size
  go_wp2_with fail
  have hk1 : Below W.heap.size W W := Below.refl _ _
  refine (averagesOf _ _ _ _ g y HGL.out HM.out _ (RW.out.lt hsw) (XW.out.lt hsw)).mono ?_
  rintro e w2 ⟨bq, rfl, hb2, _, hr⟩
  have hk2 := belT hk1 hb2
  have FR2 := Lib.hid hr
  clear hr hb2
  go_wp2_with fail
  refine (bestOfF _ _ gtB (moreF sb1 sb2) bq _ (rowsD g y) (by rw [HLL.out]; omega) (by rw [HLL.out]; omega) HBD.out _ FR2.out).mono ?_
  rintro e w3 ⟨rfl, hb3⟩
  rw [HV.out]
  have hk3 := belT hk2 hb3
  have HWz := hk3.size
  have e00 := r00 _ hk3
  have e01 := r01 _ hk3
  have f00 := g00 _ hk3
  have f01 := g01 _ hk3
  have hlt3 : w.heap.size < w3.heap.size := by have := HzW.out; omega
  clear hb3 r00 r01 g00 g01 HWz
  go_wp2_with fail
  refine bodyPost_ret (v := .tuple #[.agg #[.int .i64 (lowU (riskN g y) (sumW y y.length)), .int .i64 (lowD (riskN g y) (sumW y y.length))], .bool true]) (by simp [results, Tryz.results68, go_sem, e00, e01, hlt3, Nat.ne_of_lt hlt3, Nat.ne_of_gt hlt3]) rfl ⟨by rw [HU.out, HD.out]; try rfl, ?_⟩
  exact (((belT hbW hk3).setCell (Nat.le_refl _) _).setCell (Nat.le_refl _) _).alloc (by simpa [World.setCell] using (belT hbW hk3).size) _
end Go.Proofs.YtlmaeadbomnhlaaGreat

namespace Go.Proofs.YtlmaeadbomnhlaaGreat
set_option linter.unusedSimpArgs false
set_option linter.unusedVariables false
open Go.RowKit
set_option maxHeartbeats 2000000 in
theorem set_impl (T A B : Option Addr) (c d e : Nat) (g : List (List Int)) (x y : List Int) (hl : g.length ≤ maxLen) (hx : x.length ≤ 4294967296) (hy : y.length ≤ 4294967296) (w : World) (h : Rows2 w (· < w.heap.size) T g) (h1 : Ints w (· < w.heap.size) A x) (h2 : Ints w (· < w.heap.size) B y) :
    Calls Tryz.prog 48 #[.slice T g.length c, .slice A x.length d, .slice B y.length e] w (Adds (.bool (setB g x y)) w) := by
  have HR := Lib.hid h
  have HX := Lib.hid h1
  have HY := Lib.hid h2
  have HS : Hid (setB g x y = (safB g x && risB g y && ((safU g x == risU g y) && (safD g x == risD g y)))) := rfl
  clear h h1 h2
  go_enter Tryz.func48, Tryz.ntmps48
  go_wp2_with fail
  refine (safe_impl _ _ _ _ g x hl hx _ HR.out HX.out).mono ?_
  rintro e w1 ⟨rfl, hb1⟩
  unfold FracRes
  generalize safU g x = a at HS ⊢
  generalize safD g x = b at HS ⊢
  generalize safB g x = o at HS ⊢
  go_wp2_with fail
  obtain ⟨W, hW⟩ : ∃ W : World, W = (w1.alloc (.cells #[(Value.int .i64 a), (Value.int .i64 b)] 37)) := ⟨_, rfl⟩
  have hzW : W.heap.size = w1.heap.size + 1 := by rw [hW]; simp
  have hbW : Below w1.heap.size w1 W := by rw [hW]; exact (by repeat (first | exact Below.refl _ _ | assumption | exact bel1 (by assumption) | exact bel2 (by assumption) | exact bel3 (by assumption) | exact bel4 (by assumption) | refine Below.drew ?_ | refine below_drewN ?_ _ | refine Below.setCell ?_ (by first | (simp; done) | (simp; omega)) _ | refine Below.alloc ?_ (by first | (simp; done) | (simp; omega)) _))
  have r00 := stays (p := w1.heap.size) (o := 0) (by omega) (show W.cell? ⟨w1.heap.size, 0, none⟩ = some ((Value.int .i64 a)) from by rw [hW]; simp [go_sem])
  have r01 := stays (p := w1.heap.size) (o := 1) (by omega) (show W.cell? ⟨w1.heap.size, 1, none⟩ = some ((Value.int .i64 b)) from by rw [hW]; simp [go_sem])
  rw [← hW]
  clear hW
  have HzW := Lib.hid hzW
  clear hzW
  have hk1 := belT hb1 hbW
  have RW := Lib.hid (keepRows hk1 HR.out)
  have YW := Lib.hid (keepInts hk1 HY.out)
  have hsw := hk1.size
  refine (risk_impl _ _ _ _ g y hl hy _ (RW.out.lt hsw) (YW.out.lt hsw)).mono ?_
  rintro e w2 ⟨rfl, hb2⟩
  unfold FracRes
  generalize risU g y = a' at HS ⊢
  generalize risD g y = b' at HS ⊢
  generalize risB g y = o' at HS ⊢
  have hk2 := belT hk1 hb2
  have hsz : w1.heap.size < w2.heap.size := by have := hb2.size; have := HzW.out; omega
  cases o with
  | false =>
    go_wp2_with fail
    go_ret
    exact Adds.of (by rw [HS.out]; rfl) (hk2.alloc hk2.size _)
  | true =>
    cases o' with
    | false =>
      go_wp2_with fail
      go_ret
      exact Adds.of (by rw [HS.out]; rfl) (hk2.alloc hk2.size _)
    | true =>
      go_wp2_with fail
      all_goals
        go_ret
        exact Adds.of (by rw [HS.out]; first | (simp; done) | (simp; omega)) (hk2.alloc hk2.size _)
end Go.Proofs.YtlmaeadbomnhlaaGreat

namespace Go.Proofs.YtlmaeadbomnhlaaGreat
set_option linter.unusedSimpArgs false
set_option linter.unusedVariables false
open Go.RowKit
end Go.Proofs.YtlmaeadbomnhlaaGreat
