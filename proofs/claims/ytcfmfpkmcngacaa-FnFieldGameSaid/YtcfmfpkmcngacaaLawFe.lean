/- The walk of the law of FieldGame, over contracts of the program's functions. (Written by wip/gen/law8.py.) -/
import Derived.Test.YtcfmfpkmcngacaaNB
import Derived.Test.YtcfmfpkmcngacaaNA
import Derived.Test.YtcfmfpkmcngacaaLawT
import Derived.Test.YtcfmfpkmcngacaaMA
import Derived.Test.YtcfmfpkmcngacaaMO
import Derived.Test.YtcfmfpkmcngacaaMI
import Derived.Test.YtcfmfpkmcngacaaMC
namespace Go.Proofs.Ytcfmfpkmcngacaa
set_option linter.unusedSimpArgs false
set_option linter.unusedVariables false
open Go.RowKit

set_option maxHeartbeats 4000000 in
set_option maxRecDepth 100000 in
theorem wFnFieldGame (I : Impl8) (a : Option Addr) (len cap : Nat) (zs : List Int) (w : World) (h : IsRow .u8 w a len cap zs) :
    Calls Try.prog 4 #[.slice a len cap] w fun e w' => e = .returned (.bool true) ∧ Below w.heap.size w w' := by
  have hle := byte_len h
  by_cases hbig : (1048576 : Int) < (len : Int)
  · go_enter Try.func4, Try.ntmps4
    go_wp2_with fail
    go_ret
    exact ⟨rfl, Below.refl _ _⟩
  go_enter Try.func4, Try.ntmps4
  go_wp2_with fail
  refine (dDrawFieldGame a len cap zs w h).mono ?_
  rintro e w1 ⟨R, C, S, rfl, ⟨p1, p2, p3, p4, f3⟩, hb1⟩
  clear hbig hle
  have BEL0 := Lib.hid hb1
  have f1 := wf_16 (z := R) (by omega) (by omega)
  have f2 := wf_16 (z := C) (by omega) (by omega)
  clear hb1
  unfold fldV
  obtain ⟨WB, hWB⟩ : ∃ WB : World, WB = w1.alloc (.cells #[.int .i64 R, .int .i64 C, .int .i64 S] 24) := ⟨_, rfl⟩
  have hbWB : Below w1.heap.size w1 WB := by rw [hWB]; exact (Below.refl _ _).alloc (Nat.le_refl _) _
  have FB : Hid (Box3 WB w1.heap.size R C S) := by show Box3 _ _ _ _ _; rw [hWB]; exact Box3.new w1 R C S
  have cX0 := FB.out.c0
  have cX1 := FB.out.c1
  have cX2 := FB.out.c2
  rw [hWB] at cX0 cX1 cX2
  have HWB := Lib.hid hWB
  clear hWB
  go_wp2_with fail
  rw [← HWB.out]
  clear cX0 cX1 cX2
  replace BEL0 := Lib.hid (belT BEL0.out hbWB)
  clear hbWB
  have hgl : (fldG R C S).length ≤ maxLen := small_max (by have := (fldG_len R C S).1; omega)
  refine (I.game R C S f1 f2 f3 _).mono ?_
  rintro e w2 ⟨TX0, cX0, rfl, hb2, ho2⟩
  have X0 := Lib.hid ho2.lt
  replace FB := Lib.hid (FB.out.still hb2)
  replace BEL0 := Lib.hid (belT BEL0.out hb2)
  clear hb2 ho2
  have cB0 := FB.out.c0
  have cB1 := FB.out.c1
  have cB2 := FB.out.c2
  have ltB := FB.out.lt
  go_wp2_with fail
  clear cB0 cB1 cB2 ltB
  refine (fldGame_spec R C S _).mono ?_
  rintro e w3 ⟨TY0, cY0, rfl, hb3, ho3⟩
  have Y0 := Lib.hid ho3.lt
  replace FB := Lib.hid (FB.out.still hb3)
  replace X0 := Lib.hid (stillRows X0.out hb3)
  replace BEL0 := Lib.hid (belT BEL0.out hb3)
  clear hb3 ho3
  have cB0 := FB.out.c0
  have cB1 := FB.out.c1
  have cB2 := FB.out.c2
  have ltB := FB.out.lt
  go_wp2_with fail
  clear cB0 cB1 cB2 ltB
  refine (sameRows _ _ _ _ (fldG R C S) _ _ hgl _ X0.out Y0.out).mono ?_
  rintro e w4 ⟨rfl, hq4⟩
  have hb4 : Below w3.heap.size w3 w4 := by obtain ⟨n, rfl⟩ := hq4; exact below_drewN (Below.refl _ _) n
  replace FB := Lib.hid (FB.out.still hb4)
  replace X0 := Lib.hid (stillRows X0.out hb4)
  replace Y0 := Lib.hid (stillRows Y0.out hb4)
  replace BEL0 := Lib.hid (belT BEL0.out hb4)
  clear hq4 hb4
  clear Y0
  rcases hb : fldB R C S with _ | _
  · skip
    have HN := Lib.hid (fld_no hb)
    have hok : ∀ w', Calls Try.prog 16 #[.agg #[.int .i64 R, .int .i64 C, .int .i64 S]] w' (Adds (.bool false) w') := fun w' => by have := I.ok R C S f1 f2 f3 w'; rwa [hb] at this
    have HOK := Lib.hid hok
    clear hb hok
    have HZ : Hid ((fldG R C S).length = 0) := by rw [HN.out.2.1]; rfl
    have zz : (((fldG R C S).length : Int) == 0) = true := by rw [HZ.out]; rfl
    have cB0 := FB.out.c0
    have cB1 := FB.out.c1
    have cB2 := FB.out.c2
    have ltB := FB.out.lt
    go_wp2_with fail
    clear cB0 cB1 cB2 ltB
    refine (HOK.out _).mono ?_
    rintro e w5 ⟨rfl, hb5⟩
    replace FB := Lib.hid (FB.out.still hb5)
    replace X0 := Lib.hid (stillRows X0.out hb5)
    replace BEL0 := Lib.hid (belT BEL0.out hb5)
    clear hb5
    go_wp2_with fail
    refine (alive _).mono ?_
    rintro e w99 ⟨rfl, hb9⟩
    have hb8 := Lib.hid (belT (w := w5) (by exact (by repeat (first | exact Below.refl _ _ | assumption | exact bel1 (by assumption) | exact bel2 (by assumption) | exact bel3 (by assumption) | exact bel4 (by assumption) | refine Below.drew ?_ | refine below_drewN ?_ _ | refine Below.setCell ?_ (by first | (simp; done) | (simp; omega)) _ | refine Below.alloc ?_ (by first | (simp; done) | (simp; omega)) _))) hb9)
    clear hb9
    go_wp2_with fail
    go_ret
    exact ⟨by first | rfl | (simp; done) | (simp; omega), belT BEL0.out hb8.out⟩
  have HF := Lib.hid (fld_facts hb)
  have hpos := HF.out.pos
  have hlo := HF.out.lo
  have hhi := HF.out.hi
  have zz : (((fldG R C S).length : Int) == 0) = false := by rw [beq_eq_false_iff_ne, HF.out.many]; omega
  have HFL := Lib.hid (fldG_floor hb)
  obtain ⟨N, hrows, hcols, hg1, hg8, hN⟩ := fldG_cols hb
  have HRO := Lib.hid hrows
  have HCO := Lib.hid hcols
  clear hb hrows hcols
  have h0 : 0 < (fldG R C S).length := hg1
  obtain ⟨bg, og, hB, _, hcg⟩ := X0.out.at_ (i := 0) h0
  subst hB
  have HCG := Lib.hid hcg
  obtain ⟨A0, c0, hrow0, _, _, _⟩ := hcg 0 h0
  rw [Nat.add_zero, HRO.out 0 h0] at hrow0
  clear hcg
  go_wp2_with fail
  go_loop [5] (fun v => ∃ j : Nat, j ≤ N ∧ v = .int .i64 j) (fun v => N - (intOf v).toNat)
  case atStart => exact ⟨0, Nat.zero_le _, rfl⟩
  case round =>
    obtain ⟨j, hj, rfl⟩ := hrel
    by_cases hjN : j < N
    · have HC := Lib.hid (HCO.out j hjN)
      go_wp2_with fail
      go_loop [6, 7] (fun n v => ∃ i : Nat, i ≤ (fldG R C S).length ∧ v = .int .i64 i ∧ n = .int .i64 (colS (fldG R C S) j i)) (fun _ v => (fldG R C S).length - (intOf v).toNat)
      case atStart => exact ⟨0, Nat.zero_le _, rfl, rfl⟩
      case round =>
        obtain ⟨i, hi, rfl, rfl⟩ := hrel
        by_cases hil : i < (fldG R C S).length
        · have hlr := HRO.out i hil
          have hjr2 : j < (rowAt (fldG R C S) i).length := by omega
          have hil2 : (i : Int) < ((fldG R C S).length : Int) := by omega
          have hjN2 : (j : Int) < (N : Int) := by omega
          have q1 : (0 : Int) ≤ (i : Int) := by omega
          have q2 : (0 : Int) ≤ (j : Int) := by omega
          obtain ⟨A2, c2, hrow, _, _, hI⟩ := HCG.out i hil
          obtain ⟨b2, o2, hA2, _, hc2⟩ := hI.at_ (i := j) hjr2
          subst hA2
          have hcj := hc2 j hjr2
          have hbd := HC.out.2 (i + 1) (by omega)
          have hst : colS (fldG R C S) j (i + 1) = colS (fldG R C S) j i + nth (rowAt (fldG R C S) i) j := rfl
          have hw : IntKind.i64.wrap (colS (fldG R C S) j i + nth (rowAt (fldG R C S) i) j) = colS (fldG R C S) j i + nth (rowAt (fldG R C S) i) j := IntWalk.i64_in _ ⟨by omega, by omega⟩
          have HST := Lib.hid hst
          rw [hlr] at hrow
          clear hc2 hI hst hbd hlr
          go_wp2_with fail
          go_round
          case rel => exact ⟨i + 1, by omega, by go_num, by rw [HST.out]⟩
          case measure => simp [intOf]; omega
        · obtain rfl : i = (fldG R C S).length := by omega
          rw [HC.out.1]
          go_wp2_with fail
          go_round
          case rel => exact ⟨j + 1, by omega, by go_num⟩
          case measure => simp [intOf]; omega
    · have hjn : ¬ (j : Int) < (N : Int) := by omega
      clear hrow0
      obtain ⟨A0', c0', hrow0, _, _, _⟩ := HCG.out 0 h0
      rw [Nat.add_zero, HRO.out 0 h0] at hrow0
      go_wp2_with fail
      clear hrow0
      refine (floor_impl _ _ (fldG R C S) hgl _ X0.out).mono ?_
      rintro e w5 ⟨rfl, hb5⟩
      rw [HF.out.game]
      replace FB := Lib.hid (FB.out.still hb5)
      replace X0 := Lib.hid (stillRows X0.out hb5)
      replace BEL0 := Lib.hid (belT BEL0.out hb5)
      clear hb5
      obtain ⟨bz, hbz⟩ : ∃ bz, decide (2 ≤ mosV R C S) = bz := ⟨_, rfl⟩
      have hfz : (floV (fldG R C S) == 0) = bz := by rw [HFL.out, hbz]
      have hbb : (bz == bz) = true := by simp
      have HM : Hid (∀ w', Calls Try.prog 25 #[.agg #[.int .i64 R, .int .i64 C, .int .i64 S]] w' (Adds (.int .i64 (mosV R C S)) w')) := fun w' => I.most R C S f1 f2 f3 w'
      have sB0 := stays FB.out.lt FB.out.c0
      have sB1 := stays FB.out.lt FB.out.c1
      have sB2 := stays FB.out.lt FB.out.c2
      have HGM : Hid (∀ w' : World, Below w5.heap.size w5 w' → Calls Try.prog 24 #[.slice (some ⟨bg, og, none⟩) (fldG R C S).length cX0] w' (Adds (.bool true) w')) := fun w' hb => by
        have := (game_impl _ cX0 (fldG R C S) _ hgl w' (stillRows X0.out hb)).mono fun _ _ => Same.adds
        rwa [HF.out.game] at this
      have cB0 := FB.out.c0
      have cB1 := FB.out.c1
      have cB2 := FB.out.c2
      have ltB := FB.out.lt
      go_wp2_with fail
      clear cB0 cB1 cB2 ltB
      refine (HGM.out _ (Below.refl _ _)).mono ?_
      rintro e w6 ⟨rfl, hb6⟩
      clear HGM
      replace FB := Lib.hid (FB.out.still hb6)
      replace X0 := Lib.hid (stillRows X0.out hb6)
      replace BEL0 := Lib.hid (belT BEL0.out hb6)
      clear hb6 sB0 sB1 sB2
      have cB0 := FB.out.c0
      have cB1 := FB.out.c1
      have cB2 := FB.out.c2
      have ltB := FB.out.lt
      go_wp2_with fail
      clear cB0 cB1 cB2 ltB
      refine (HM.out _).mono ?_
      rintro e w7 ⟨rfl, hb7⟩
      replace FB := Lib.hid (FB.out.still hb7)
      replace X0 := Lib.hid (stillRows X0.out hb7)
      replace BEL0 := Lib.hid (belT BEL0.out hb7)
      clear hb7
      go_wp2_with fail
      go_ret
      exact ⟨by simp, BEL0.out⟩

end Go.Proofs.Ytcfmfpkmcngacaa
