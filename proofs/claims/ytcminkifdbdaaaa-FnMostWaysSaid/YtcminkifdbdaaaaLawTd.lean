/- The walk of the law of MostWays, over contracts of the program's functions. (Written by wip/gen/law9.py.) -/
import Derived.Test.YtcminkifdbdaaaaNE
import Derived.Test.YtcminkifdbdaaaaNF
import Derived.Test.YtcminkifdbdaaaaNG
import Derived.Test.YtcminkifdbdaaaaLawT
import Derived.Test.YtcminkifdbdaaaaMA
import Derived.Test.YtcminkifdbdaaaaMO
import Derived.Test.YtcminkifdbdaaaaMI
namespace Go.Proofs.Ytcminkifdbdaaaa
set_option linter.unusedSimpArgs false
set_option linter.unusedVariables false
open Go.RowKit

set_option maxHeartbeats 4000000 in
set_option maxRecDepth 100000 in
theorem wFnMostWays (I : Impl9) (a : Option Addr) (len cap : Nat) (zs : List Int) (w : World) (h : IsRow .u8 w a len cap zs) :
    Calls Try.prog 6 #[.slice a len cap] w fun e w' => e = .returned (.bool true) ∧ Below w.heap.size w w' := by
  have hle := byte_len h
  by_cases hbig : (1048576 : Int) < (len : Int)
  · go_enter Try.func6, Try.ntmps6
    go_wp2_with fail
    go_ret
    exact ⟨rfl, Below.refl _ _⟩
  go_enter Try.func6, Try.ntmps6
  go_wp2_with fail
  refine (dDrawMostWays a len cap zs w h).mono ?_
  rintro e w1 ⟨P, A, c, l, rfl, ⟨p1, p2⟩, ⟨hl9, hlz⟩, hlc, hb1, ho1⟩
  clear hbig hle
  have BEL0 := Lib.hid hb1
  have fP := wf_town (z := P) p1 (by omega)
  have hlm : l.length ≤ maxLen := by unfold maxLen; omega
  have L0 : Hid (Ints w1 (· < w1.heap.size) A l) := own_lt ho1
  have HLZ := Lib.hid hlz
  have fW := Lib.hid (WfL.small hlz)
  clear hb1 ho1 hlz
  unfold twnV
  obtain ⟨WB, hWB⟩ : ∃ WB : World, WB = w1.alloc (.cells #[.int .i64 P, .slice A l.length c] 25) := ⟨_, rfl⟩
  have hbWB : Below w1.heap.size w1 WB := by rw [hWB]; exact (Below.refl _ _).alloc (Nat.le_refl _) _
  have FB : Hid (BoxT WB w1.heap.size P A l.length c) := by show BoxT _ _ _ _ _ _; rw [hWB]; exact BoxT.new w1 P A l.length c
  have cX0 := FB.out.c0
  have cX1 := FB.out.c1
  rw [hWB] at cX0 cX1
  have HWB := Lib.hid hWB
  clear hWB
  go_wp2_with fail
  rw [← HWB.out]
  clear cX0 cX1
  replace L0 := Lib.hid (stillInts L0.out hbWB)
  replace BEL0 := Lib.hid (belT BEL0.out hbWB)
  clear hbWB
  refine (I.most P fP A c l (by omega) fW.out _ L0.out).mono ?_
  rintro e w2 ⟨rfl, hb2⟩
  replace L0 := Lib.hid (stillInts L0.out hb2)
  replace FB := Lib.hid (FB.out.still hb2)
  replace BEL0 := Lib.hid (belT BEL0.out hb2)
  clear hb2
  have cB0 := FB.out.c0
  have cB1 := FB.out.c1
  have ltB := FB.out.lt
  go_wp2_with fail
  clear cB0 cB1 ltB
  refine (mostWays_spec P A c l hlm _ L0.out).mono ?_
  rintro e w3 ⟨rfl, hb3⟩
  replace L0 := Lib.hid (stillInts L0.out hb3)
  replace FB := Lib.hid (FB.out.still hb3)
  replace BEL0 := Lib.hid (belT BEL0.out hb3)
  clear hb3
  have zV : (mostI P l != mostI P l) = false := by simp
  rcases hb : townB P l with _ | _
  · skip
    have HOK : Hid (∀ w', Below w3.heap.size w3 w' → Calls Try.prog 16 #[.agg #[.int .i64 P, .slice A l.length c]] w' (Adds (.bool false) w')) := fun w' hb' => by have := I.ok P fP A c l (by omega) fW.out w' (stillInts L0.out hb'); rwa [hb] at this
    have hv : mostI P l = -1 := (twn_not hb).2.2.2.2
    clear hb
    rw [hv]
    rw [hv] at zV
    clear hv
    have cB0 := FB.out.c0
    have cB1 := FB.out.c1
    have ltB := FB.out.lt
    go_wp2_with fail
    clear cB0 cB1 ltB
    refine (HOK.out _ (by first | exact Below.refl _ _ | exact (by repeat (first | exact Below.refl _ _ | assumption | exact bel1 (by assumption) | exact bel2 (by assumption) | exact bel3 (by assumption) | exact bel4 (by assumption) | refine Below.drew ?_ | refine below_drewN ?_ _ | refine Below.setCell ?_ (by first | (simp; done) | (simp; omega)) _ | refine Below.alloc ?_ (by first | (simp; done) | (simp; omega)) _)))).mono ?_
    rintro e w4 ⟨rfl, hb4⟩
    replace L0 := Lib.hid (stillInts L0.out hb4)
    replace FB := Lib.hid (FB.out.still hb4)
    replace BEL0 := Lib.hid (belT BEL0.out hb4)
    clear hb4
    go_wp2_with fail
    refine (alive _).mono ?_
    rintro e w99 ⟨rfl, hb9⟩
    have hb8 := Lib.hid (belT (w := w4) (by exact (by repeat (first | exact Below.refl _ _ | assumption | exact bel1 (by assumption) | exact bel2 (by assumption) | exact bel3 (by assumption) | exact bel4 (by assumption) | refine Below.drew ?_ | refine below_drewN ?_ _ | refine Below.setCell ?_ (by first | (simp; done) | (simp; omega)) _ | refine Below.alloc ?_ (by first | (simp; done) | (simp; omega)) _))) hb9)
    clear hb9
    go_wp2_with fail
    go_ret
    exact ⟨by first | rfl | (simp; done) | (simp; omega), belT BEL0.out hb8.out⟩
  have HS := Lib.hid (twn_sums hb)
  have HF := Lib.hid (twn_facts hb)
  have hlo := HS.out.2.2
  have hmhi := HF.out.mhi
  have hneg : decide (mostI P l < 0) = false := decide_eq_false (by omega)
  have HLX : Hid (∀ k, k ≤ (guaI P l).length → 0 ≤ sumW (guaI P l) k ∧ sumW (guaI P l) k ≤ k) := fld_01 (gua_01 P l)
  have HLY : Hid (∀ k, k ≤ (goI P l).length → 0 ≤ sumW (goI P l) k ∧ sumW (goI P l) k ≤ k) := fld_01 (go_01 P l)
  have hxl := guaI_sm P l
  have hyl := goI_sm P l
  clear hb
  have cB0 := FB.out.c0
  have cB1 := FB.out.c1
  have ltB := FB.out.lt
  go_wp2_with fail
  clear cB0 cB1 ltB
  refine (I.guard P fP A c l (by omega) fW.out _ L0.out).mono ?_
  rintro e w4 ⟨TX0, cX0, rfl, hb4, ho4⟩
  have X0 : Hid (Ints w4 (· < w4.heap.size) TX0 _) := own_lt ho4
  replace L0 := Lib.hid (stillInts L0.out hb4)
  replace FB := Lib.hid (FB.out.still hb4)
  replace BEL0 := Lib.hid (belT BEL0.out hb4)
  clear hb4 ho4
  go_wp2_with fail
  go_loop [5, 7] (fun v i => ∃ k : Nat, k ≤ (guaI P l).length ∧ i = .int .i64 k ∧ v = .int .i64 (sumW (guaI P l) k)) (fun _ i => (guaI P l).length - (intOf i).toNat)
  case atStart => exact ⟨0, Nat.zero_le _, rfl, rfl⟩
  case round =>
    obtain ⟨k, hk, rfl, rfl⟩ := hrel
    by_cases hlt : k < (guaI P l).length
    · obtain ⟨b', o', e', _, hc⟩ := X0.out.at_ hlt
      subst e'
      have hck := hc k hlt
      have hsm : sumW (guaI P l) k + nth (guaI P l) k = sumW (guaI P l) (k + 1) := rfl
      have hbd := HLX.out (k + 1) (by omega)
      have hw : IntKind.i64.wrap (sumW (guaI P l) (k + 1)) = sumW (guaI P l) (k + 1) := IntWalk.i64_in _ ⟨by omega, by omega⟩
      clear hc
      go_wp2_with fail
      go_round
      case rel => exact ⟨k + 1, by omega, by go_num, by first | rfl | rw [hsm]⟩
      case measure => simp [intOf]; omega
    · obtain rfl : k = (guaI P l).length := by omega
      rw [HS.out.1]
      have cB0 := FB.out.c0
      have cB1 := FB.out.c1
      have ltB := FB.out.lt
      go_wp2_with fail
      clear cB0 cB1 ltB
      refine (I.go P fP A c l (by omega) fW.out _ L0.out).mono ?_
      rintro e w5 ⟨TY0, cY0, rfl, hb5, ho5⟩
      have Y0 : Hid (Ints w5 (· < w5.heap.size) TY0 _) := own_lt ho5
      replace L0 := Lib.hid (stillInts L0.out hb5)
      replace FB := Lib.hid (FB.out.still hb5)
      replace X0 := Lib.hid (stillInts X0.out hb5)
      replace BEL0 := Lib.hid (belT BEL0.out hb5)
      clear hb5 ho5
      go_wp2_with fail
      go_loop [8, 10] (fun v i => ∃ k : Nat, k ≤ (goI P l).length ∧ i = .int .i64 k ∧ v = .int .i64 (sumW (goI P l) k)) (fun _ i => (goI P l).length - (intOf i).toNat)
      case atStart => exact ⟨0, Nat.zero_le _, rfl, rfl⟩
      case round =>
        obtain ⟨k, hk, rfl, rfl⟩ := hrel
        by_cases hlt : k < (goI P l).length
        · obtain ⟨b', o', e', _, hc⟩ := Y0.out.at_ hlt
          subst e'
          have hck := hc k hlt
          have hsm : sumW (goI P l) k + nth (goI P l) k = sumW (goI P l) (k + 1) := rfl
          have hbd := HLY.out (k + 1) (by omega)
          have hw : IntKind.i64.wrap (sumW (goI P l) (k + 1)) = sumW (goI P l) (k + 1) := IntWalk.i64_in _ ⟨by omega, by omega⟩
          clear hc
          go_wp2_with fail
          go_round
          case rel => exact ⟨k + 1, by omega, by go_num, by first | rfl | rw [hsm]⟩
          case measure => simp [intOf]; omega
        · obtain rfl : k = (goI P l).length := by omega
          rw [HS.out.2.1]
          clear X0 Y0 HLX HLY HS
          have cB0 := FB.out.c0
          have cB1 := FB.out.c1
          have ltB := FB.out.lt
          go_wp2_with fail
          have HFB := Lib.hid FB.out
          have HL0 := Lib.hid L0.out
          clear cB0 cB1 ltB
          go_loopw [11, 12, 13] (fun u v i wr => ∃ k n : Nat, k ≤ l.length ∧ wr = w5.drewN n ∧ i = .int .i64 k ∧ u = .int .i64 (cntI (fun x => x.tdiv 10 == 0) l k) ∧ v = .int .i64 (cntI (fun x => x.tmod 10 == P - 1) l k)) (fun _ _ i _ => l.length - (intOf i).toNat)
          case atStart => exact ⟨0, 0, Nat.zero_le _, rfl, rfl, rfl, rfl⟩
          case round =>
            obtain ⟨k, n, hk, rfl, rfl, rfl, rfl⟩ := hrel
            have cB0 := HFB.out.c0
            have cB1 := HFB.out.c1
            have ltB := HFB.out.lt
            by_cases hlt : k < l.length
            · obtain ⟨b', o', e', _, hc⟩ := HL0.out.at_ hlt
              subst e'
              have hck := hc k hlt
              have hnum := HF.out.num k hlt
              have e1 : cntI (fun x => x.tdiv 10 == 0) l (k + 1) = if (nth l k).tdiv 10 == 0 then cntI (fun x => x.tdiv 10 == 0) l k + 1 else cntI (fun x => x.tdiv 10 == 0) l k := rfl
              have e2 : cntI (fun x => x.tmod 10 == P - 1) l (k + 1) = if (nth l k).tmod 10 == P - 1 then cntI (fun x => x.tmod 10 == P - 1) l k + 1 else cntI (fun x => x.tmod 10 == P - 1) l k := rfl
              have b1 := cntI_bd (fun x => x.tdiv 10 == 0) l k
              have b2 := cntI_bd (fun x => x.tmod 10 == P - 1) l k
              have HE1 := Lib.hid e1
              have HE2 := Lib.hid e2
              clear e1 e2 hc
              obtain ⟨x, hx⟩ : ∃ x, nth l k = x := ⟨_, rfl⟩
              rw [hx] at hck hnum HE1 HE2
              obtain ⟨u, hu⟩ : ∃ u, cntI (fun x => x.tdiv 10 == 0) l k = u := ⟨_, rfl⟩
              obtain ⟨v, hv⟩ : ∃ v, cntI (fun x => x.tmod 10 == P - 1) l k = v := ⟨_, rfl⟩
              rw [hu] at b1 HE1 ⊢
              rw [hv] at b2 HE2 ⊢
              obtain ⟨d, hd⟩ : ∃ d, x.tdiv 10 = d := ⟨_, rfl⟩
              obtain ⟨m, hm⟩ : ∃ m, x.tmod 10 = m := ⟨_, rfl⟩
              have wd : IntKind.i64.wrap d = d := by rw [← hd, Int.tdiv_eq_ediv_of_nonneg hnum.1]; exact IntWalk.i64_in _ ⟨by omega, by omega⟩
              have wm : IntKind.i64.wrap m = m := by rw [← hm, Int.tmod_eq_emod_of_nonneg hnum.1]; exact IntWalk.i64_in _ ⟨by omega, by omega⟩
              have wP : IntKind.i64.wrap (P - 1) = P - 1 := IntWalk.i64_in _ ⟨by omega, by omega⟩
              have wu : IntKind.i64.wrap (u + 1) = u + 1 := IntWalk.i64_in _ ⟨by omega, by omega⟩
              have wv : IntKind.i64.wrap (v + 1) = v + 1 := IntWalk.i64_in _ ⟨by omega, by omega⟩
              rw [hd] at HE1
              rw [hm] at HE2
              clear hx hu hv
              rcases q1 : (d == 0) with _ | _
              all_goals rcases q2 : (m == P - 1) with _ | _
              all_goals
                have R1 := HE1.out
                have R2 := HE2.out
                rw [q1] at R1
                rw [q2] at R2
                have HR1 := Lib.hid R1
                have HR2 := Lib.hid R2
                clear R1 R2
                go_wp2_with fail
                go_quiet (fail)
                go_wp2_with fail
                go_roundw
                case rel => exact ⟨k + 1, _, by omega, by first | rfl | exact World.drewN_drewN _ _ _, by go_num, by rw [HR1.out]; rfl, by rw [HR2.out]; rfl⟩
                case measure => simp [intOf]; omega
            · obtain rfl : k = l.length := by omega
              have hf1 := HF.out.first
              have hf2 := HF.out.last
              have zq : (mostI P l == mostI P l) = true := by simp
              have d1 : decide (mostI P l ≤ cntI (fun x => x.tdiv 10 == 0) l l.length) = true := decide_eq_true hf1
              have d2 : decide (mostI P l ≤ cntI (fun x => x.tmod 10 == P - 1) l l.length) = true := decide_eq_true hf2
              go_wp2_with fail
              refine (alive _).mono ?_
              rintro e w99 ⟨rfl, hb9⟩
              have hb8 := Lib.hid (belT (w := w5) (by exact (by repeat (first | exact Below.refl _ _ | assumption | exact bel1 (by assumption) | exact bel2 (by assumption) | exact bel3 (by assumption) | exact bel4 (by assumption) | refine Below.drew ?_ | refine below_drewN ?_ _ | refine Below.setCell ?_ (by first | (simp; done) | (simp; omega)) _ | refine Below.alloc ?_ (by first | (simp; done) | (simp; omega)) _))) hb9)
              clear hb9
              go_wp2_with fail
              go_ret
              exact ⟨by first | rfl | (simp; done) | (simp; omega), belT BEL0.out hb8.out⟩

end Go.Proofs.Ytcminkifdbdaaaa
