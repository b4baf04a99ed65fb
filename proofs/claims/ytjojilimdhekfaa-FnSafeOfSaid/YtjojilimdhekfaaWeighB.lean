/- The walks of the program's averages of lines, of the best fraction of a list. -/
import Derived.Test.YtjojilimdhekfaaWeigh
namespace Go.Proofs.Ytjojilimdhekfaa
set_option linter.unusedSimpArgs false
set_option linter.unusedVariables false
open Go.RowKit

theorem dotW_part {g : List (List Int)} {y : List Int} (hG : Game g y.length) (hM : Mix y y.length) (i : Nat) (hi : i < g.length) (k : Nat) (hk : k ≤ y.length) : -14400000 ≤ dotW y (rowAt g i) k ∧ dotW y (rowAt g i) k ≤ 14400000 := by
  have h := dotW_bd y (rowAt g i) 9 (by omega) k (fun j hj => ⟨hM.wlo j (by omega), hM.whi j (by omega)⟩) (fun j hj => ⟨hG.nlo i hi j (by omega), hG.nhi i hi j (by omega)⟩)
  have := hM.hi
  omega

theorem ov_small {a s : Int} (h1 : -14400000 ≤ a) (h2 : a ≤ 14400000) (h3 : 1 ≤ s) (h4 : s ≤ 1600000) : ovB a s = true := by
  have h := low_okB (a := a) (s := s) (by omega) (by omega) (by omega) (by omega)
  rw [okB_iff] at h
  obtain ⟨p1, p2, p3, p4, _⟩ := h
  simp only [ovB, inR, Bool.and_eq_true, decide_eq_true_eq]
  omega

set_option maxHeartbeats 2000000 in
theorem averagesOf (T A : Option Addr) (c d : Nat) (g : List (List Int)) (y : List Int) (hG : Game g y.length) (hM : Mix y y.length) (w : World) (h : Rows2 w (· < w.heap.size) T g) (h' : Ints w (· < w.heap.size) A y) :
    Calls Try.prog 60 #[.slice T g.length c, .slice A y.length d] w (NewFracs w (rowsD g y) (sumW y y.length)) := by
  have hg1 := hG.lo
  have hg2 := hG.hi
  have hm2 := hM.hi
  obtain ⟨sb1, sb2⟩ := hM.sum_bd
  have hmk := make_frac g.length hg2
  have hmf : ∀ (fn : Fn) (first cap : Array Value) (w : World), (Instr.makeFunc fn first cap).run Try.prog w = .ok (.func fn first cap) w := fun _ _ _ _ => rfl
  obtain ⟨bt, ot, rfl⟩ := h.some (by omega)
  have HL := Lib.hid (rowsD_length g y)
  have HG := Lib.hid hG
  have HM := Lib.hid hM
  have HR := Lib.hid h
  have HY := Lib.hid h'
  clear h h' hG hM
  go_enter Try.func60, Try.ntmps60
  go_wp2_with fail
  refine (together _ _ y HM.out _ HY.out).mono ?_
  rintro e w1 ⟨rfl, hb1⟩
  have HB1 := Lib.hid hb1
  have F0 : Hid (FracFill w (w1.alloc (.cells (madeCells #[.int .i64 0, .int .i64 0] (g.length * 2)) 28)) w1.heap.size (rowsD g y) (sumW y y.length) 0) := by
    have hr := made_fracs w1 (rowsD g y) (sumW y y.length)
    rw [HL.out] at hr
    exact ⟨hb1.alloc hb1.size _, hb1.size, by rw [HL.out]; exact hr⟩
  clear hb1
  go_wp2_with fail
  go_loopw [16] (fun i wr => ∃ k : Nat, k ≤ g.length ∧ i = .int .i64 k ∧ Hid (FracFill w wr w1.heap.size (rowsD g y) (sumW y y.length) k)) (fun i _ => g.length - (intOf i).toNat)
  case atStart => exact ⟨0, Nat.zero_le _, rfl, F0⟩
  case round =>
    clear F0
    obtain ⟨k, hk, rfl, HF⟩ := hrel
    by_cases hlt : k < g.length
    · have R := keepRows HF.out.bel HR.out
      obtain ⟨hS, Ak, ck, hck, hlk, hmk2, hik⟩ := R.row hlt
      have hlen : (rowAt g k).length = y.length := HG.out.len k hlt
      have HB2 : Below w.heap.size w (wr.alloc (.cells #[.slice Ak (rowAt g k).length ck] 24)) := HF.out.bel.alloc HF.out.bel.size _
      have HY2 := Lib.hid ((keepInts HB2 HY.out).lt HB2.size)
      have hT : Tells (wr.alloc (.cells #[.slice Ak (rowAt g k).length ck] 24)) 82 #[.pointer (some ⟨wr.heap.size, 0, none⟩)] y.length (nth (rowAt g k)) :=
        tells_line _ _ Ak ck _ _ (Nat.le_of_eq hlen.symm) hlk hmk2 (by simp) (by simp [go_sem]) ((hik.keep fun b hb => Below.heap_alloc _ _ _ (by have := HF.out.bel.size; omega)).lt HB2.size)
      have HT := Lib.hid hT
      have HF2 : Hid (FracFill w (wr.alloc (.cells #[.slice Ak (rowAt g k).length ck] 24)) w1.heap.size (rowsD g y) (sumW y y.length) k) := HF.out.call ((Below.refl _ _).alloc (Nat.le_refl _) _)
      have HD : Hid (nth (rowsD g y) k = dotW y (rowAt g k) y.length) := nth_rowsD g y k hlt
      have HP := Lib.hid (dotW_part HG.out HM.out k hlt)
      have hP := HP.out y.length (Nat.le_refl _)
      unfold maxLen at hmk2
      clear R hik hT HB2 hlen
      go_wp2_with fail
      refine (weighted _ _ y _ _ (nth (rowAt g k)) (by omega) _ HY2.out HT.out (fun j hj => ?_) (fun j hj => ?_)).mono ?_
      · have h1 := HM.out.wlo j hj
        have h2 := HM.out.whi j hj
        have h3 := HG.out.nlo k hlt j hj
        have h4 := HG.out.nhi k hlt j hj
        have := prod_bd h1 h2 h3 h4 (by omega)
        omega
      · rw [← dotW_F]; have := HP.out j hj; omega
      rintro e w2 ⟨rfl, hb2⟩
      have HF3 := Lib.hid (HF2.out.call hb2)
      clear hb2 HF2
      rw [← dotW_F]
      go_wp2_with fail
      refine (over_yes _ _ (by omega) (by omega) (by omega) (by omega) (by omega) (ov_small hP.1 hP.2 sb1 sb2) _).mono ?_
      rintro e w3 ⟨rfl, hb3⟩
      have HF4 := Lib.hid (HF3.out.call hb3)
      have cf0 := HF4.out.row.cell (i := k * 2) (by rw [HL.out]; omega)
      have cf1 := HF4.out.row.cell (i := k * 2 + 1) (by rw [HL.out]; omega)
      have ff0 := HF4.out.row.frozen (k * 2)
      have ff1 := HF4.out.row.frozen (k * 2 + 1)
      have HN := HF4.out.step
      rw [HD.out] at HN
      have HN2 := Lib.hid HN
      clear hb3 HF3 HN
      go_wp2_with fail
      go_roundw
      case rel => exact ⟨k + 1, by omega, by go_num, HN2.out⟩
      case measure => simp [intOf]; omega
    · obtain rfl : k = g.length := by omega
      go_wp2_with fail
      go_ret
      refine ⟨_, by rw [HL.out]; rfl, HF.out.bel, HF.out.lo, ?_⟩
      have := HF.out.row
      unfold FracRow
      rw [HL.out] at this ⊢
      exact this

/-- fractions over one number are in the order of the numbers above it -/
theorem low_lt {a b s : Int} (hs : 0 < s) : lowU a s * lowD b s < lowU b s * lowD a s ↔ a < b := by
  constructor
  · intro h
    by_cases hab : a < b
    · exact hab
    · have := low_le (a := a) (b := b) hs hs (Int.mul_le_mul_of_nonneg_right (by omega) (by omega)); omega
  · intro h
    have h1 := low_le (a := b) (b := a) hs hs (Int.mul_le_mul_of_nonneg_right (by omega) (by omega))
    have p1 := lowD_pos a s (by omega)
    have p2 := lowD_pos b s (by omega)
    rcases Int.lt_or_eq_of_le h1 with h2 | h2
    · exact h2
    · exfalso
      obtain ⟨e1, e2⟩ := cross_eq p1 p2 (low_gcd a s (by omega)) (low_gcd b s (by omega)) h2
      have := low_inj hs e1 e2
      omega

theorem low_bd {a s : Int} (h1 : -14400000 ≤ a) (h2 : a ≤ 14400000) (h3 : 1 ≤ s) (h4 : s ≤ 1600000) : -14400000 ≤ lowU a s ∧ lowU a s ≤ 14400000 ∧ 1 ≤ lowD a s ∧ lowD a s ≤ 14400000 := by
  have b1 := lowU_in a s (M := 14400000) h1 h2
  have b2 := lowD_in a s (M := 14400000) (by omega) (by omega)
  have p := lowD_pos a s (by omega)
  omega

/-- a function value that tells the better one of two fractions over s -/
structure BetterF (f : FuncId) (s : Int) (bet : Int → Int → Bool) : Prop where
  enters : ∀ (args : Array Value) (w : World), (callFunc f args).run Try.prog w = .ok (.enter f args) w
  calls : ∀ a b : Int, -14400000 ≤ a → a ≤ 14400000 → -14400000 ≤ b → b ≤ 14400000 → ∀ w : World,
    Calls Try.prog f #[.agg #[.int .i64 (lowU a s), .int .i64 (lowD a s)], .agg #[.int .i64 (lowU b s), .int .i64 (lowD b s)]] w (Adds (.bool (bet a b)) w)

theorem lessF {s : Int} (h3 : 1 ≤ s) (h4 : s ≤ 1600000) : BetterF 62 s ltB := by
  refine ⟨enters_of Try.func62 (by kernel_rfl) rfl, fun a b a1 a2 b1 b2 w => ?_⟩
  obtain ⟨p1, p2, p3, p4⟩ := low_bd a1 a2 h3 h4
  obtain ⟨q1, q2, q3, q4⟩ := low_bd b1 b2 h3 h4
  have m1 := mul_in (a := lowU a s) (b := lowD b s) (by omega) (by omega) (by omega) (by omega)
  have m2 := mul_in (a := lowU b s) (b := lowD a s) (by omega) (by omega) (by omega) (by omega)
  have e : decide (lowU a s * lowD b s < lowU b s * lowD a s) = ltB a b := by unfold ltB; rw [decide_eq_decide]; exact low_lt (by omega)
  refine (less _ _ _ _ (by omega) (by omega) (by omega) (by omega) w).mono ?_
  rintro _ w1 ⟨rfl, hb1⟩
  exact Adds.of (by rw [e]) hb1

theorem moreF {s : Int} (h3 : 1 ≤ s) (h4 : s ≤ 1600000) : BetterF 63 s gtB := by
  refine ⟨enters_of Try.func63 (by kernel_rfl) rfl, fun a b a1 a2 b1 b2 w => ?_⟩
  obtain ⟨p1, p2, p3, p4⟩ := low_bd a1 a2 h3 h4
  obtain ⟨q1, q2, q3, q4⟩ := low_bd b1 b2 h3 h4
  have m1 := mul_in (a := lowU a s) (b := lowD b s) (by omega) (by omega) (by omega) (by omega)
  have m2 := mul_in (a := lowU b s) (b := lowD a s) (by omega) (by omega) (by omega) (by omega)
  have e : decide (lowU b s * lowD a s < lowU a s * lowD b s) = gtB a b := by unfold gtB; rw [decide_eq_decide]; exact low_lt (by omega)
  refine (more _ _ _ _ (by omega) (by omega) (by omega) (by omega) w).mono ?_
  rintro _ w1 ⟨rfl, hb1⟩
  exact Adds.of (by rw [e]) hb1

set_option maxHeartbeats 2000000 in
set_option maxRecDepth 100000 in
theorem bestOfF (f : FuncId) (s : Int) (bet : Int → Int → Bool) (hf : BetterF f s bet) (b c : Nat) (l : List Int) (h0 : 0 < l.length) (hl : l.length ≤ 16) (hbd : ∀ i, i < l.length → -14400000 ≤ nth l i ∧ nth l i ≤ 14400000) (w : World) (h : FracRow w b l s) :
    Calls Try.prog 59 #[.slice (some ⟨b, 0, none⟩) l.length c, .func (.func f) #[] #[]] w
      (Adds (.tuple #[.agg #[.int .i64 (lowU (nth l (bestN bet l l.length)) s), .int .i64 (lowD (nth l (bestN bet l l.length)) s)], .int .i64 (bestN bet l l.length : Nat)]) w) := by
  have hbw : b < w.heap.size := World.rowIs.lt h
  have HF := Lib.hid hf.calls
  have hE := hf.enters
  have HB := Lib.hid hbd
  have HR := Lib.hid h
  clear hf hbd h
  go_enter Try.func59, Try.ntmps59
  go_wp2_with fail
  obtain ⟨W, hW⟩ : ∃ W : World, W = (w.alloc (.cells #[(Value.int .i64 0), (Value.int .i64 0)] 28)) := ⟨_, rfl⟩
  have hzW : W.heap.size = w.heap.size + 1 := by rw [hW]; simp
  have hbW : Below w.heap.size w W := by rw [hW]; exact (by repeat (first | exact Below.refl _ _ | assumption | exact bel1 (by assumption) | exact bel2 (by assumption) | exact bel3 (by assumption) | exact bel4 (by assumption) | refine Below.drew ?_ | refine below_drewN ?_ _ | refine Below.setCell ?_ (by first | (simp; done) | (simp; omega)) _ | refine Below.alloc ?_ (by first | (simp; done) | (simp; omega)) _))
  have r00 := stays (p := w.heap.size) (o := 0) (by omega) (show W.cell? ⟨w.heap.size, 0, none⟩ = some ((Value.int .i64 0)) from by rw [hW]; simp [go_sem])
  have g00 := staysF (p := w.heap.size) (o := 0) (by omega) (show W.frozen? ⟨w.heap.size, 0, none⟩ = false from by rw [hW]; simp [go_sem])
  have r01 := stays (p := w.heap.size) (o := 1) (by omega) (show W.cell? ⟨w.heap.size, 1, none⟩ = some ((Value.int .i64 0)) from by rw [hW]; simp [go_sem])
  have g01 := staysF (p := w.heap.size) (o := 1) (by omega) (show W.frozen? ⟨w.heap.size, 1, none⟩ = false from by rw [hW]; simp [go_sem])
  rw [← hW]
  clear hW
  have HRW : Hid (FracRow W b l s) := World.rowIs.of_block HR.out (hbW.block b hbw)
  have hbW2 : b < W.heap.size := by omega
  clear hzW
  go_loopw [6, 11] (fun v i wr => ∃ k : Nat, k ≤ l.length ∧ i = .int .i64 k ∧ v = .int .i64 (bestN bet l k : Nat) ∧ Hid (Below W.heap.size W wr)) (fun _ i _ => l.length - (intOf i).toNat)
  case atStart => exact ⟨0, Nat.zero_le _, rfl, rfl, Below.refl _ _⟩
  case round =>
    obtain ⟨k, hk, rfl, rfl, HV⟩ := hrel
    have hbl : bestN bet l k < l.length := bestN_lt _ _ h0 hk
    have R : FracRow wr b l s := World.rowIs.of_block HRW.out (HV.out.block b hbW2)
    by_cases hlt : k < l.length
    · have cu := R.up hlt
      have cd := R.down hlt
      have hbk := Lib.hid (HB.out k hlt)
      have bu := R.up hbl
      have bd := R.down hbl
      have hbk := Lib.hid (HB.out k hlt)
      have hbb := Lib.hid (HB.out _ hbl)
      have hbr : b < wr.heap.size := Nat.lt_of_lt_of_le hbW2 HV.out.size
      clear R r00 r01 g00 g01
      go_wp2_with fail
      obtain ⟨X, hX⟩ : ∃ X : World, X = (wr.alloc (.cells #[(Value.int .i64 (lowU (nth l k) s)), (Value.int .i64 (lowD (nth l k) s))] 28)) := ⟨_, rfl⟩
      have hzX : X.heap.size = wr.heap.size + 1 := by rw [hX]; simp
      have hbX : Below wr.heap.size wr X := by rw [hX]; exact (by repeat (first | exact Below.refl _ _ | assumption | exact bel1 (by assumption) | exact bel2 (by assumption) | exact bel3 (by assumption) | exact bel4 (by assumption) | refine Below.drew ?_ | refine below_drewN ?_ _ | refine Below.setCell ?_ (by first | (simp; done) | (simp; omega)) _ | refine Below.alloc ?_ (by first | (simp; done) | (simp; omega)) _))
      have s00 := stays (p := wr.heap.size) (o := 0) (by omega) (show X.cell? ⟨wr.heap.size, 0, none⟩ = some ((Value.int .i64 (lowU (nth l k) s))) from by rw [hX]; simp [go_sem])
      have s01 := stays (p := wr.heap.size) (o := 1) (by omega) (show X.cell? ⟨wr.heap.size, 1, none⟩ = some ((Value.int .i64 (lowD (nth l k) s))) from by rw [hX]; simp [go_sem])
      have t00 := stays (p := b) (o := bestN bet l k * 2) (by omega) ((hbX.cell (p := ⟨b, bestN bet l k * 2, none⟩) hbr).trans bu)
      have t01 := stays (p := b) (o := bestN bet l k * 2 + 1) (by omega) ((hbX.cell (p := ⟨b, bestN bet l k * 2 + 1, none⟩) hbr).trans bd)
      rw [← hX]
      have HVX : Hid (Below W.heap.size W X) := belT HV.out hbX
      clear hX cu cd bu bd hbX hzX hbr
      go_region_held3 (fun w' => Below X.heap.size X w')
        (first | exact Below.refl _ _ | exact Below.drew (Below.refl _ _) | (refine Below.drew ?_; assumption) | exact belT (by assumption) (by assumption) | assumption)
        (first | (refine (HF.out (nth l k) (nth l (bestN bet l k)) hbk.out.1 hbk.out.2 hbb.out.1 hbb.out.2 _).mono ?_; rintro e w1 ⟨rfl, hb1⟩))
      have HV2 : Hid (Below W.heap.size W w1) := belT HVX.out (by assumption)
      rcases hb : bet (nth l k) (nth l (bestN bet l k)) with _ | _
      · have HS : Hid (bestN bet l (k + 1) = bestN bet l k) := by show bestN _ _ _ = _; simp [bestN, hb]
        clear hb
        go_wp2_with fail
        go_roundw
        case rel => exact ⟨k + 1, by omega, by go_num, by rw [HS.out], HV2⟩
        case measure => simp [intOf]; omega
      · have HS : Hid (bestN bet l (k + 1) = k) := by show bestN _ _ _ = _; simp [bestN, hb]
        clear hb
        go_wp2_with fail
        go_roundw
        case rel => exact ⟨k + 1, by omega, by go_num, by rw [HS.out], HV2⟩
        case measure => simp [intOf]; omega
    · obtain rfl : k = l.length := by omega
      have cu := R.up hbl
      have cd := R.down hbl
      have hk2 := HV.out
      have e00 := r00 _ hk2
      have e01 := r01 _ hk2
      have f00 := g00 _ hk2
      have f01 := g01 _ hk2
      clear R r00 r01 g00 g01
      go_wp2_with fail
      refine bodyPost_ret (v := .tuple #[.agg #[.int .i64 (lowU (nth l (bestN bet l l.length)) s), .int .i64 (lowD (nth l (bestN bet l l.length)) s)], .int .i64 (bestN bet l l.length : Nat)]) (by simp [results, Try.results59, go_sem, e00, e01]) rfl ⟨rfl, ?_⟩
      exact ((belT hbW hk2).setCell (Nat.le_refl _) _).setCell (Nat.le_refl _) _

end Go.Proofs.Ytjojilimdhekfaa
