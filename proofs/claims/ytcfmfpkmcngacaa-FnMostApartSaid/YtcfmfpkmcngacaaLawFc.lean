/- The walk of the law of MostApart, over contracts of the program's functions. (Written by wip/gen/law8.py.) -/
import Derived.Test.YtcfmfpkmcngacaaNB
import Derived.Test.YtcfmfpkmcngacaaNA
import Derived.Test.YtcfmfpkmcngacaaLawT
import Derived.Test.YtcfmfpkmcngacaaMA
import Derived.Test.YtcfmfpkmcngacaaMO
import Derived.Test.YtcfmfpkmcngacaaMI
namespace Go.Proofs.Ytcfmfpkmcngacaa
set_option linter.unusedSimpArgs false
set_option linter.unusedVariables false
open Go.RowKit

set_option maxHeartbeats 4000000 in
set_option maxRecDepth 100000 in
theorem wFnMostApart (I : Impl8) (a : Option Addr) (len cap : Nat) (zs : List Int) (w : World) (h : IsRow .u8 w a len cap zs) :
    Calls Try.prog 5 #[.slice a len cap] w fun e w' => e = .returned (.bool true) ∧ Below w.heap.size w w' := by
  have hle := byte_len h
  by_cases hbig : (1048576 : Int) < (len : Int)
  · go_enter Try.func5, Try.ntmps5
    go_wp2_with fail
    go_ret
    exact ⟨rfl, Below.refl _ _⟩
  go_enter Try.func5, Try.ntmps5
  go_wp2_with fail
  refine (dDrawMostApart a len cap zs w h).mono ?_
  rintro e w1 ⟨R, C, S, rfl, ⟨p1, p2, p3, p4, f3⟩, hb1⟩
  clear hbig hle
  have BEL0 := Lib.hid hb1
  have f1 := wf_16 (z := R) (by omega) (by omega)
  have f2 := wf_16 (z := C) (by omega) (by omega)
  clear hb1
  unfold fldV
  obtain ⟨WB, hWB⟩ : ∃ WB : World, WB = w1.alloc (.cells #[.int .i64 R, .int .i64 C, .int .i64 S] 24) := ⟨_, rfl⟩
  have hbWB : Below w1.heap.size w1 WB := by rw [hWB]; exact (Below.refl _ _).alloc (Nat.le_refl _) _
  have FB : Hid (Box3 WB w1.heap.size R C S) := by show Box3 _ _ _ _ _; rw [hWB]; exact Box3.new w1 R C S
  have cX0 := FB.out.c0
  have cX1 := FB.out.c1
  have cX2 := FB.out.c2
  rw [hWB] at cX0 cX1 cX2
  have HWB := Lib.hid hWB
  clear hWB
  go_wp2_with fail
  rw [← HWB.out]
  clear cX0 cX1 cX2
  replace BEL0 := Lib.hid (belT BEL0.out hbWB)
  clear hbWB
  refine (I.most R C S f1 f2 f3 _).mono ?_
  rintro e w2 ⟨rfl, hb2⟩
  replace FB := Lib.hid (FB.out.still hb2)
  replace BEL0 := Lib.hid (belT BEL0.out hb2)
  clear hb2
  have cB0 := FB.out.c0
  have cB1 := FB.out.c1
  have cB2 := FB.out.c2
  have ltB := FB.out.lt
  go_wp2_with fail
  clear cB0 cB1 cB2 ltB
  refine (mostApart_spec R C S _).mono ?_
  rintro e w3 ⟨rfl, hb3⟩
  replace FB := Lib.hid (FB.out.still hb3)
  replace BEL0 := Lib.hid (belT BEL0.out hb3)
  clear hb3
  have zV : (mosV R C S != mosV R C S) = false := by simp
  rcases hb : fldB R C S with _ | _
  · skip
    have HN := Lib.hid (fld_no hb)
    have hok : ∀ w', Calls Try.prog 16 #[.agg #[.int .i64 R, .int .i64 C, .int .i64 S]] w' (Adds (.bool false) w') := fun w' => by have := I.ok R C S f1 f2 f3 w'; rwa [hb] at this
    have HOK := Lib.hid hok
    clear hb hok
    have hv : mosV R C S = -1 := HN.out.1
    rw [hv]
    rw [hv] at zV
    clear hv
    have cB0 := FB.out.c0
    have cB1 := FB.out.c1
    have cB2 := FB.out.c2
    have ltB := FB.out.lt
    go_wp2_with fail
    clear cB0 cB1 cB2 ltB
    refine (HOK.out _).mono ?_
    rintro e w4 ⟨rfl, hb4⟩
    replace FB := Lib.hid (FB.out.still hb4)
    replace BEL0 := Lib.hid (belT BEL0.out hb4)
    clear hb4
    go_wp2_with fail
    refine (alive _).mono ?_
    rintro e w99 ⟨rfl, hb9⟩
    have hb8 := Lib.hid (belT (w := w4) (by exact (by repeat (first | exact Below.refl _ _ | assumption | exact bel1 (by assumption) | exact bel2 (by assumption) | exact bel3 (by assumption) | exact bel4 (by assumption) | refine Below.drew ?_ | refine below_drewN ?_ _ | refine Below.setCell ?_ (by first | (simp; done) | (simp; omega)) _ | refine Below.alloc ?_ (by first | (simp; done) | (simp; omega)) _))) hb9)
    clear hb9
    go_wp2_with fail
    go_ret
    exact ⟨by first | rfl | (simp; done) | (simp; omega), belT BEL0.out hb8.out⟩
  have HF := Lib.hid (fld_facts hb)
  have hpos := HF.out.pos
  have hlo := HF.out.lo
  have hhi := HF.out.hi
  have hneg : decide (mosV R C S < 0) = false := decide_eq_false (by omega)
  have HLX : Hid (∀ k, k ≤ (lokL R C S).length → 0 ≤ sumW (lokL R C S) k ∧ sumW (lokL R C S) k ≤ k) := fld_01 (lok_L01 R C S)
  have HLY : Hid (∀ k, k ≤ (hidL R C S).length → 0 ≤ sumW (hidL R C S) k ∧ sumW (hidL R C S) k ≤ k) := fld_01 (hid_L01 R C S)
  have hxl := lokL_len R C S
  have hyl := hidL_len R C S
  have cB0 := FB.out.c0
  have cB1 := FB.out.c1
  have cB2 := FB.out.c2
  have ltB := FB.out.lt
  go_wp2_with fail
  clear cB0 cB1 cB2 ltB
  refine (I.look R C S f1 f2 f3 _).mono ?_
  rintro e w4 ⟨TX0, cX0, rfl, hb4, ho4⟩
  have X0 : Hid (Ints w4 (· < w4.heap.size) TX0 _) := own_lt ho4
  replace FB := Lib.hid (FB.out.still hb4)
  replace BEL0 := Lib.hid (belT BEL0.out hb4)
  clear hb4 ho4
  go_wp2_with fail
  go_loop [5, 7] (fun v i => ∃ k : Nat, k ≤ (lokL R C S).length ∧ i = .int .i64 k ∧ v = .int .i64 (sumW (lokL R C S) k)) (fun _ i => (lokL R C S).length - (intOf i).toNat)
  case atStart => exact ⟨0, Nat.zero_le _, rfl, rfl⟩
  case round =>
    obtain ⟨k, hk, rfl, rfl⟩ := hrel
    by_cases hlt : k < (lokL R C S).length
    · obtain ⟨b', o', e', _, hc⟩ := X0.out.at_ hlt
      subst e'
      have hck := hc k hlt
      have hsm : sumW (lokL R C S) k + nth (lokL R C S) k = sumW (lokL R C S) (k + 1) := rfl
      have hbd := HLX.out (k + 1) (by omega)
      have hw : IntKind.i64.wrap (sumW (lokL R C S) (k + 1)) = sumW (lokL R C S) (k + 1) := IntWalk.i64_in _ ⟨by omega, by omega⟩
      clear hc
      go_wp2_with fail
      go_round
      case rel => exact ⟨k + 1, by omega, by go_num, by first | rfl | rw [hsm]⟩
      case measure => simp [intOf]; omega
    · obtain rfl : k = (lokL R C S).length := by omega
      rw [HF.out.suml]
      have cB0 := FB.out.c0
      have cB1 := FB.out.c1
      have cB2 := FB.out.c2
      have ltB := FB.out.lt
      go_wp2_with fail
      clear cB0 cB1 cB2 ltB
      refine (I.hide R C S f1 f2 f3 _).mono ?_
      rintro e w5 ⟨TY0, cY0, rfl, hb5, ho5⟩
      have Y0 : Hid (Ints w5 (· < w5.heap.size) TY0 _) := own_lt ho5
      replace FB := Lib.hid (FB.out.still hb5)
      replace X0 := Lib.hid (stillInts X0.out hb5)
      replace BEL0 := Lib.hid (belT BEL0.out hb5)
      clear hb5 ho5
      go_wp2_with fail
      go_loop [8, 10] (fun v i => ∃ k : Nat, k ≤ (hidL R C S).length ∧ i = .int .i64 k ∧ v = .int .i64 (sumW (hidL R C S) k)) (fun _ i => (hidL R C S).length - (intOf i).toNat)
      case atStart => exact ⟨0, Nat.zero_le _, rfl, rfl⟩
      case round =>
        obtain ⟨k, hk, rfl, rfl⟩ := hrel
        by_cases hlt : k < (hidL R C S).length
        · obtain ⟨b', o', e', _, hc⟩ := Y0.out.at_ hlt
          subst e'
          have hck := hc k hlt
          have hsm : sumW (hidL R C S) k + nth (hidL R C S) k = sumW (hidL R C S) (k + 1) := rfl
          have hbd := HLY.out (k + 1) (by omega)
          have hw : IntKind.i64.wrap (sumW (hidL R C S) (k + 1)) = sumW (hidL R C S) (k + 1) := IntWalk.i64_in _ ⟨by omega, by omega⟩
          clear hc
          go_wp2_with fail
          go_round
          case rel => exact ⟨k + 1, by omega, by go_num, by first | rfl | rw [hsm]⟩
          case measure => simp [intOf]; omega
        · obtain rfl : k = (hidL R C S).length := by omega
          rw [HF.out.sumh]
          obtain ⟨r, c, s, rfl, rfl, rfl, hf⟩ := fld_nat hb
          have hq := hf.rc
          have hs16 : s < 65536 := Nat.lt_of_lt_of_le hf.shi (Nat.pow_le_pow_right (by omega) hq.2)
          obtain ⟨q, hqe⟩ : ∃ q, r * c = q := ⟨_, rfl⟩
          have hrc : (r : Int) * (c : Int) = (q : Int) := by rw [← hqe]; simp
          rw [hqe] at hq
          have hrw : IntKind.i64.wrap (q : Int) = (q : Int) := IntWalk.i64_in _ ⟨by omega, by omega⟩
          obtain ⟨M, hM⟩ : ∃ M : Nat, mosV (r : Int) (c : Int) (s : Int) = (M : Int) := ⟨_, (fld_yes hf).1⟩
          have hMm : mst r c s r 0 = M := by have := (fld_yes hf).1; omega
          have HMR : Hid (∀ k, k < q → (∀ w', Calls Try.prog 25 #[.agg #[.int .i64 (r : Int), .int .i64 (c : Int), .int .i64 ((orB s k : Nat) : Int)]] w' (Adds (.int .i64 (M : Int)) w')) ∨ (∀ w', Calls Try.prog 25 #[.agg #[.int .i64 (r : Int), .int .i64 (c : Int), .int .i64 ((orB s k : Nat) : Int)]] w' (Adds (.int .i64 ((M : Int) + 1)) w'))) := fun k hk => by
            have hk' : k < r * c := by rw [hqe]; exact hk
            have hv := (fld_yes (hf.orB hk')).1
            have hb6 := orB_hi hs16 (show k < 16 by omega)
            have hI : ∀ w', Calls Try.prog 25 #[.agg #[.int .i64 (r : Int), .int .i64 (c : Int), .int .i64 ((orB s k : Nat) : Int)]] w' (Adds (.int .i64 ((mst r c (orB s k) r 0 : Nat) : Int)) w') := fun w' => by
              have := I.most (r : Int) (c : Int) ((orB s k : Nat) : Int) f1 f2 (wf_16 (by omega) (by omega)) w'
              rwa [hv] at this
            rcases fld_more hf hk' with e | e
            · left; rw [e, hMm] at hI; exact hI
            · right; rw [e, hMm] at hI; intro w'; have := hI w'; rwa [show ((M + 1 : Nat) : Int) = (M : Int) + 1 by omega] at this
          rw [hM] at hlo hhi hneg ⊢
          have HCB : Hid (Box3 w5 w1.heap.size (r : Int) (c : Int) (s : Int)) := FB
          clear HF hb hqe hMm hpos zV HLX HLY X0 Y0
          have cB0 := FB.out.c0
          have cB1 := FB.out.c1
          have cB2 := FB.out.c2
          have ltB := FB.out.lt
          go_wp2_with fail
          clear cB0 cB1 cB2 ltB
          go_loopw [11] (fun i wr => ∃ k : Nat, k ≤ q ∧ i = .int .i64 (k : Int) ∧ Hid (Below w5.heap.size w5 wr)) (fun i _ => q - (intOf i).toNat)
          case atStart => exact ⟨0, Nat.zero_le _, rfl, Below.refl _ _⟩
          case round =>
            obtain ⟨k, hk, rfl, HV⟩ := hrel
            have HBr := Lib.hid (FB.out.still HV.out)
            have cB0 := HBr.out.c0
            have cB1 := HBr.out.c1
            have cB2 := HBr.out.c2
            have ltB := HBr.out.lt
            by_cases hlt : k < q
            · have hlt2 : (k : Int) < (q : Int) := by omega
              have hk16 : k < 16 := by omega
              have hor := orI hs16 hk16
              obtain ⟨o, ho⟩ : ∃ o : Nat, orB s k = o := ⟨_, rfl⟩
              have HMK := HMR.out k hlt
              rw [ho] at hor HMK
              have HOR := Lib.hid hor
              have sB0 := stays HBr.out.lt HBr.out.c0
              have sB1 := stays HBr.out.lt HBr.out.c1
              have sB2 := stays HBr.out.lt HBr.out.c2
              have o1 := hor.1
              have o2 := hor.2.1
              have o3 := hor.2.2
              clear hor ho
              go_wp2_with fail
              clear cB0 cB1 cB2 ltB
              rcases HMK with HMK | HMK
              · have HMX := Lib.hid HMK
                clear HMK
                go_region_held3 (fun w' => Below wr.heap.size wr w')
                  (first | exact Below.refl _ _ | exact Below.drew (Below.refl _ _) | (refine Below.drew ?_; assumption) | exact belT (by assumption) (by assumption) | assumption)
                  (first | (go_at_call 25; refine (HMX.out _).mono ?_; rintro e w50 ⟨rfl, hb50⟩))
                have hb51 : Below wr.heap.size wr w50 := by assumption
                have HV2 : Hid (Below w5.heap.size w5 w50) := belT HV.out hb51
                clear hb50 hb51 o1 o2 o3 sB0 sB1 sB2
                have z1 : ((M : Int) != (M : Int)) = false := by simp
                go_wp2_with fail
                go_roundw
                case rel => exact ⟨k + 1, by omega, by go_num, HV2⟩
                case measure => simp [intOf]; omega
              · have HMX := Lib.hid HMK
                clear HMK
                go_region_held3 (fun w' => Below wr.heap.size wr w')
                  (first | exact Below.refl _ _ | exact Below.drew (Below.refl _ _) | (refine Below.drew ?_; assumption) | exact belT (by assumption) (by assumption) | assumption)
                  (first | (go_at_call 25; refine (HMX.out _).mono ?_; rintro e w50 ⟨rfl, hb50⟩))
                have hb51 : Below wr.heap.size wr w50 := by assumption
                have HV2 : Hid (Below w5.heap.size w5 w50) := belT HV.out hb51
                clear hb50 hb51 o1 o2 o3 sB0 sB1 sB2
                have z1 : ((M : Int) + 1 != (M : Int)) = true := by rw [bne_iff_ne]; omega
                have z2 : ((M : Int) + 1 != (M : Int) + 1) = false := by simp
                have z3 : IntKind.i64.wrap ((M : Int) + 1) = (M : Int) + 1 := IntWalk.i64_in _ ⟨by omega, by omega⟩
                go_wp2_with fail
                go_roundw
                case rel => exact ⟨k + 1, by omega, by go_num, HV2⟩
                case measure => simp [intOf]; omega
            · obtain rfl : k = q := by omega
              have zz : ((M : Int) == (M : Int)) = true := by simp
              have hnl : ¬ (k : Int) < (k : Int) := by omega
              go_wp2_with fail
              go_ret
              exact ⟨by first | rfl | (simp; done), belT BEL0.out HV.out⟩

end Go.Proofs.Ytcfmfpkmcngacaa
