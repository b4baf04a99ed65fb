/- The walk of the law of FieldOk, over contracts of the program's functions. (Written by wip/gen/law8.py.) -/
import Derived.Test.YtcfmfpkmcngacaaNB
import Derived.Test.YtcfmfpkmcngacaaNA
import Derived.Test.YtcfmfpkmcngacaaLawT
import Derived.Test.YtcfmfpkmcngacaaMA
import Derived.Test.YtcfmfpkmcngacaaMO
import Derived.Test.YtcfmfpkmcngacaaMI
namespace Go.Proofs.Ytcfmfpkmcngacaa
set_option linter.unusedSimpArgs false
set_option linter.unusedVariables false
open Go.RowKit

set_option maxHeartbeats 4000000 in
set_option maxRecDepth 100000 in
theorem wFnFieldOk (I : Impl8) (a : Option Addr) (len cap : Nat) (zs : List Int) (w : World) (h : IsRow .u8 w a len cap zs) :
    Calls Try.prog 3 #[.slice a len cap] w fun e w' => e = .returned (.bool true) ∧ Below w.heap.size w w' := by
  have hle := byte_len h
  by_cases hbig : (1048576 : Int) < (len : Int)
  · go_enter Try.func3, Try.ntmps3
    go_wp2_with fail
    go_ret
    exact ⟨rfl, Below.refl _ _⟩
  go_enter Try.func3, Try.ntmps3
  go_wp2_with fail
  refine (dDrawFieldOk a len cap zs w h).mono ?_
  rintro e w1 ⟨R, C, S, rfl, ⟨p1, p2, p3, p4, f3⟩, hb1⟩
  clear hbig hle
  have BEL0 := Lib.hid hb1
  have f1 := wf_16 (z := R) (by omega) (by omega)
  have f2 := wf_16 (z := C) (by omega) (by omega)
  clear hb1
  unfold fldV
  obtain ⟨WB, hWB⟩ : ∃ WB : World, WB = w1.alloc (.cells #[.int .i64 R, .int .i64 C, .int .i64 S] 24) := ⟨_, rfl⟩
  have hbWB : Below w1.heap.size w1 WB := by rw [hWB]; exact (Below.refl _ _).alloc (Nat.le_refl _) _
  have FB : Hid (Box3 WB w1.heap.size R C S) := by show Box3 _ _ _ _ _; rw [hWB]; exact Box3.new w1 R C S
  have cX0 := FB.out.c0
  have cX1 := FB.out.c1
  have cX2 := FB.out.c2
  rw [hWB] at cX0 cX1 cX2
  have HWB := Lib.hid hWB
  clear hWB
  go_wp2_with fail
  rw [← HWB.out]
  clear cX0 cX1 cX2
  replace BEL0 := Lib.hid (belT BEL0.out hbWB)
  clear hbWB
  refine (I.ok R C S f1 f2 f3 _).mono ?_
  rintro e w2 ⟨rfl, hb2⟩
  replace FB := Lib.hid (FB.out.still hb2)
  replace BEL0 := Lib.hid (belT BEL0.out hb2)
  clear hb2
  have cB0 := FB.out.c0
  have cB1 := FB.out.c1
  have cB2 := FB.out.c2
  have ltB := FB.out.lt
  go_wp2_with fail
  clear cB0 cB1 cB2 ltB
  refine (fldOk_spec R C S _).mono ?_
  rintro e w3 ⟨rfl, hb3⟩
  replace FB := Lib.hid (FB.out.still hb3)
  replace BEL0 := Lib.hid (belT BEL0.out hb3)
  clear hb3
  have zV : (fldB R C S != fldB R C S) = false := by simp
  rcases hb : fldB R C S with _ | _
  · skip
    rw [hb] at zV
    have hz0 : (IntKind.i64.wrap (R * C) = 0 ∧ R * C = 0) ∨ (0 < R * C ∧ 0 < IntKind.i64.wrap (R * C)) := by
      have hR : R = 0 ∨ R = 1 ∨ R = 2 ∨ R = 3 ∨ R = 4 ∨ R = 5 := by omega
      have hC : C = 0 ∨ C = 1 ∨ C = 2 ∨ C = 3 ∨ C = 4 ∨ C = 5 := by omega
      rcases hR with rfl | rfl | rfl | rfl | rfl | rfl <;> rcases hC with rfl | rfl | rfl | rfl | rfl | rfl <;> decide
    obtain ⟨y, hy⟩ : ∃ y, IntKind.i64.wrap (R * C) = y := ⟨_, rfl⟩
    rw [hy] at hz0
    have cB0 := FB.out.c0
    have cB1 := FB.out.c1
    have cB2 := FB.out.c2
    have ltB := FB.out.lt
    go_wp2_with fail
    clear cB0 cB1 cB2 ltB
    go_loopw [5] (fun i wr => i = .int .i64 0 ∧ wr = w3) (fun i _ => 0)
    case atStart => exact ⟨rfl, rfl⟩
    case round =>
      obtain ⟨rfl, rfl⟩ := hrel
      have cB0 := FB.out.c0
      have cB1 := FB.out.c1
      have cB2 := FB.out.c2
      have ltB := FB.out.lt
      by_cases hy0 : 0 < y
      · have hd : decide ((0 : Int) < y) = true := decide_eq_true hy0
        go_wp2_with fail
        clear cB0 cB1 cB2 ltB hz0 hy
        have HLIT : Hid (∀ R C S : Int, (Lit.int .i64 R).wf = true → (Lit.int .i64 C).wf = true → (Lit.int .i64 S).wf = true → ∀ w', Calls Try.prog 16 #[.agg #[.int .i64 R, .int .i64 C, .int .i64 S]] w' (Adds (.bool (fldB R C S)) w')) := fun R C S g1 g2 g3 w' => I.ok R C S g1 g2 g3 w'
        have hl1 : fldB 1 1 1 = true := by decide
        have hl0 : fldB 0 0 0 = false := by decide
        go_wp2_with fail
        refine ((HLIT.out 1 1 1 (by decide) (by decide) (by decide)) _).mono ?_
        rintro e w4 ⟨rfl, hb4⟩
        rw [hl1]
        replace FB := Lib.hid (FB.out.still hb4)
        replace BEL0 := Lib.hid (belT BEL0.out hb4)
        clear hb4
        go_wp2_with fail
        refine ((HLIT.out 0 0 0 (by decide) (by decide) (by decide)) _).mono ?_
        rintro e w5 ⟨rfl, hb5⟩
        rw [hl0]
        replace FB := Lib.hid (FB.out.still hb5)
        replace BEL0 := Lib.hid (belT BEL0.out hb5)
        clear hb5
        go_wp2_with fail
        refine (alive _).mono ?_
        rintro e w99 ⟨rfl, hb9⟩
        have hb8 := Lib.hid (belT (w := w5) (by exact (by repeat (first | exact Below.refl _ _ | assumption | exact bel1 (by assumption) | exact bel2 (by assumption) | exact bel3 (by assumption) | exact bel4 (by assumption) | refine Below.drew ?_ | refine below_drewN ?_ _ | refine Below.setCell ?_ (by first | (simp; done) | (simp; omega)) _ | refine Below.alloc ?_ (by first | (simp; done) | (simp; omega)) _))) hb9)
        clear hb9
        go_wp2_with fail
        go_ret
        exact ⟨by first | rfl | (simp; done) | (simp; omega), belT BEL0.out hb8.out⟩
      · have hd : decide ((0 : Int) < y) = false := decide_eq_false hy0
        go_wp2_with fail
        clear cB0 cB1 cB2 ltB hz0 hy
        have HLIT : Hid (∀ R C S : Int, (Lit.int .i64 R).wf = true → (Lit.int .i64 C).wf = true → (Lit.int .i64 S).wf = true → ∀ w', Calls Try.prog 16 #[.agg #[.int .i64 R, .int .i64 C, .int .i64 S]] w' (Adds (.bool (fldB R C S)) w')) := fun R C S g1 g2 g3 w' => I.ok R C S g1 g2 g3 w'
        have hl1 : fldB 1 1 1 = true := by decide
        have hl0 : fldB 0 0 0 = false := by decide
        go_wp2_with fail
        refine ((HLIT.out 1 1 1 (by decide) (by decide) (by decide)) _).mono ?_
        rintro e w4 ⟨rfl, hb4⟩
        rw [hl1]
        replace FB := Lib.hid (FB.out.still hb4)
        replace BEL0 := Lib.hid (belT BEL0.out hb4)
        clear hb4
        go_wp2_with fail
        refine ((HLIT.out 0 0 0 (by decide) (by decide) (by decide)) _).mono ?_
        rintro e w5 ⟨rfl, hb5⟩
        rw [hl0]
        replace FB := Lib.hid (FB.out.still hb5)
        replace BEL0 := Lib.hid (belT BEL0.out hb5)
        clear hb5
        go_wp2_with fail
        refine (alive _).mono ?_
        rintro e w99 ⟨rfl, hb9⟩
        have hb8 := Lib.hid (belT (w := w5) (by exact (by repeat (first | exact Below.refl _ _ | assumption | exact bel1 (by assumption) | exact bel2 (by assumption) | exact bel3 (by assumption) | exact bel4 (by assumption) | refine Below.drew ?_ | refine below_drewN ?_ _ | refine Below.setCell ?_ (by first | (simp; done) | (simp; omega)) _ | refine Below.alloc ?_ (by first | (simp; done) | (simp; omega)) _))) hb9)
        clear hb9
        go_wp2_with fail
        go_ret
        exact ⟨by first | rfl | (simp; done) | (simp; omega), belT BEL0.out hb8.out⟩
  rw [hb] at zV
  obtain ⟨r, c, s, rfl, rfl, rfl, hf⟩ := fld_nat hb
  have hq := hf.rc
  have hs16 : s < 65536 := Nat.lt_of_lt_of_le hf.shi (Nat.pow_le_pow_right (by omega) hq.2)
  obtain ⟨q, hqe⟩ : ∃ q, r * c = q := ⟨_, rfl⟩
  have hrc : (r : Int) * (c : Int) = (q : Int) := by rw [← hqe]; simp
  rw [hqe] at hq
  have hrw : IntKind.i64.wrap (q : Int) = (q : Int) := IntWalk.i64_in _ ⟨by omega, by omega⟩
  have HMR : Hid (∀ k, k < q → ∀ w', Calls Try.prog 16 #[.agg #[.int .i64 (r : Int), .int .i64 (c : Int), .int .i64 ((orB s k : Nat) : Int)]] w' (Adds (.bool true) w')) := fun k hk => by
    have hk' : k < r * c := by rw [hqe]; exact hk
    have hb6 := orB_hi hs16 (show k < 16 by omega)
    intro w'
    have := I.ok (r : Int) (c : Int) ((orB s k : Nat) : Int) f1 f2 (wf_16 (by omega) (by omega)) w'
    rwa [(hf.orB hk').to] at this
  clear hb hqe
  have cB0 := FB.out.c0
  have cB1 := FB.out.c1
  have cB2 := FB.out.c2
  have ltB := FB.out.lt
  go_wp2_with fail
  clear cB0 cB1 cB2 ltB
  go_loopw [5] (fun i wr => ∃ k : Nat, k ≤ q ∧ i = .int .i64 (k : Int) ∧ Hid (Below w3.heap.size w3 wr)) (fun i _ => q - (intOf i).toNat)
  case atStart => exact ⟨0, Nat.zero_le _, rfl, Below.refl _ _⟩
  case round =>
    obtain ⟨k, hk, rfl, HV⟩ := hrel
    have HBr := Lib.hid (FB.out.still HV.out)
    have cB0 := HBr.out.c0
    have cB1 := HBr.out.c1
    have cB2 := HBr.out.c2
    have ltB := HBr.out.lt
    by_cases hlt : k < q
    · have hlt2 : (k : Int) < (q : Int) := by omega
      have hk16 : k < 16 := by omega
      have hor := orI hs16 hk16
      obtain ⟨o, ho⟩ : ∃ o : Nat, orB s k = o := ⟨_, rfl⟩
      have HMK := HMR.out k hlt
      rw [ho] at hor HMK
      have sB0 := stays HBr.out.lt HBr.out.c0
      have sB1 := stays HBr.out.lt HBr.out.c1
      have sB2 := stays HBr.out.lt HBr.out.c2
      have o1 := hor.1
      have o2 := hor.2.1
      have o3 := hor.2.2
      clear hor ho
      go_wp2_with fail
      clear cB0 cB1 cB2 ltB
      have HMX := Lib.hid HMK
      clear HMK
      go_region_held3 (fun w' => Below wr.heap.size wr w')
        (first | exact Below.refl _ _ | exact Below.drew (Below.refl _ _) | (refine Below.drew ?_; assumption) | exact belT (by assumption) (by assumption) | assumption)
        (first | (go_at_call 16; refine (HMX.out _).mono ?_; rintro e w50 ⟨rfl, hb50⟩))
      have hb51 : Below wr.heap.size wr w50 := by assumption
      have HV2 : Hid (Below w3.heap.size w3 w50) := belT HV.out hb51
      clear hb50 hb51 o1 o2 o3 sB0 sB1 sB2
      go_wp2_with fail
      go_roundw
      case rel => exact ⟨k + 1, by omega, by go_num, HV2⟩
      case measure => simp [intOf]; omega
    · have hkq : k = q := by omega
      have hnl : ¬ (k : Int) < (q : Int) := by omega
      have hd : decide ((k : Int) < (q : Int)) = false := decide_eq_false hnl
      go_wp2_with fail
      clear cB0 cB1 cB2 ltB
      have hbV := HV.out
      clear HV
      replace FB := Lib.hid (FB.out.still hbV)
      replace BEL0 := Lib.hid (belT BEL0.out hbV)
      clear hbV
      have HLIT : Hid (∀ R C S : Int, (Lit.int .i64 R).wf = true → (Lit.int .i64 C).wf = true → (Lit.int .i64 S).wf = true → ∀ w', Calls Try.prog 16 #[.agg #[.int .i64 R, .int .i64 C, .int .i64 S]] w' (Adds (.bool (fldB R C S)) w')) := fun R C S g1 g2 g3 w' => I.ok R C S g1 g2 g3 w'
      have hl1 : fldB 1 1 1 = true := by decide
      have hl0 : fldB 0 0 0 = false := by decide
      go_wp2_with fail
      refine ((HLIT.out 1 1 1 (by decide) (by decide) (by decide)) _).mono ?_
      rintro e w4 ⟨rfl, hb4⟩
      rw [hl1]
      replace FB := Lib.hid (FB.out.still hb4)
      replace BEL0 := Lib.hid (belT BEL0.out hb4)
      clear hb4
      go_wp2_with fail
      refine ((HLIT.out 0 0 0 (by decide) (by decide) (by decide)) _).mono ?_
      rintro e w5 ⟨rfl, hb5⟩
      rw [hl0]
      replace FB := Lib.hid (FB.out.still hb5)
      replace BEL0 := Lib.hid (belT BEL0.out hb5)
      clear hb5
      go_wp2_with fail
      refine (alive _).mono ?_
      rintro e w99 ⟨rfl, hb9⟩
      have hb8 := Lib.hid (belT (w := w5) (by exact (by repeat (first | exact Below.refl _ _ | assumption | exact bel1 (by assumption) | exact bel2 (by assumption) | exact bel3 (by assumption) | exact bel4 (by assumption) | refine Below.drew ?_ | refine below_drewN ?_ _ | refine Below.setCell ?_ (by first | (simp; done) | (simp; omega)) _ | refine Below.alloc ?_ (by first | (simp; done) | (simp; omega)) _))) hb9)
      clear hb9
      go_wp2_with fail
      go_ret
      exact ⟨by first | rfl | (simp; done) | (simp; omega), belT BEL0.out hb8.out⟩

end Go.Proofs.Ytcfmfpkmcngacaa
