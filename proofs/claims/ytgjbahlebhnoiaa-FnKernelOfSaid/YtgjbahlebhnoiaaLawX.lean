/- The walk of the law of KernelOf. (Written by wip/gen/law4.py.) -/
import Derived.Test.YtgjbahlebhnoiaaMG
import Derived.Test.YtgjbahlebhnoiaaMF
import Derived.Test.YtgjbahlebhnoiaaMH
import Derived.Test.YtgjbahlebhnoiaaLawT
import Derived.Test.YtgjbahlebhnoiaaMI
import Derived.Test.YtgjbahlebhnoiaaLawO
import Derived.Test.YtgjbahlebhnoiaaME
namespace Go.Proofs.Ytgjbahlebhnoiaa
set_option linter.unusedSimpArgs false
set_option linter.unusedVariables false
open Go.RowKit

set_option maxHeartbeats 4000000 in
set_option maxRecDepth 100000 in
theorem wFnKernelOf (I : Impl4) (a : Option Addr) (len cap : Nat) (zs : List Int) (w : World) (h : IsRow .u8 w a len cap zs) :
    Calls Try.prog 3 #[.slice a len cap] w fun e w' => e = .returned (.bool true) ∧ Below w.heap.size w w' := by
  have hle := byte_len h
  by_cases hbig : (1048576 : Int) < (len : Int)
  · go_enter Try.func3, Try.ntmps3
    go_wp2_with fail
    go_ret
    exact ⟨rfl, Below.refl _ _⟩
  go_enter Try.func3, Try.ntmps3
  go_wp2_with fail
  refine (dDrawKernelOf a len cap zs w h).mono ?_
  rintro e w1 ⟨g, T, c, rr, qq, rfl, hc1, hc2, hg17, hgr, hb1, ho1⟩
  clear hbig hle
  have BEL0 := Lib.hid hb1
  have R0 := Lib.hid ho1.lt
  have hl := small_max hg17
  clear hb1 ho1 hgr hc1 hc2
  have zB : (kerB g rr qq != kerB g rr qq) = false := by simp
  have hlx := kerX_len g rr qq
  have hly := kerY_len g rr qq
  have HL1 : Hid ((kerX g rr qq).length ≤ maxLen) := by show _ ≤ _; unfold maxLen; omega
  have HL2 : Hid ((kerY g rr qq).length ≤ maxLen) := by show _ ≤ _; unfold maxLen; omega
  have HM1 : Hid ((kerX g rr qq).length ≤ 4294967296) := by show _ ≤ _; omega
  have HM2 : Hid ((kerY g rr qq).length ≤ 4294967296) := by show _ ≤ _; omega
  clear hlx hly
  go_wp2_with fail
  refine (I.kernel _ _ g rr qq hl _ R0.out).mono ?_
  rintro e w2 ⟨TG1, cG1, TG2, cG2, rfl, hb2, ho2, hp2, _⟩
  have G1 := Lib.hid ho2.lt
  have G2 := Lib.hid hp2.lt
  replace R0 := Lib.hid (stillRows R0.out hb2)
  replace BEL0 := Lib.hid (belT BEL0.out hb2)
  clear hb2 ho2 hp2
  go_wp2_with fail
  refine (ker_spec _ _ g rr qq hl _ R0.out).mono ?_
  rintro e w3 ⟨TV1, cV1, TV2, cV2, rfl, hb3, ho3, hp3⟩
  have V1 := Lib.hid ho3.lt
  have V2 := Lib.hid hp3.lt
  replace R0 := Lib.hid (stillRows R0.out hb3)
  replace G1 := Lib.hid (stillInts G1.out hb3)
  replace G2 := Lib.hid (stillInts G2.out hb3)
  replace BEL0 := Lib.hid (belT BEL0.out hb3)
  clear hb3 ho3 hp3
  go_wp2_with fail
  refine (sameInts _ _ _ _ (kerX g rr qq) _ _ HL1.out _ G1.out V1.out).mono ?_
  rintro e w4 ⟨rfl, hq4⟩
  have hb4 : Below w3.heap.size w3 w4 := by obtain ⟨n, rfl⟩ := hq4; exact below_drewN (Below.refl _ _) n
  replace R0 := Lib.hid (stillRows R0.out hb4)
  replace G1 := Lib.hid (stillInts G1.out hb4)
  replace G2 := Lib.hid (stillInts G2.out hb4)
  replace V1 := Lib.hid (stillInts V1.out hb4)
  replace V2 := Lib.hid (stillInts V2.out hb4)
  replace BEL0 := Lib.hid (belT BEL0.out hb4)
  clear hq4 hb4
  go_wp2_with fail
  refine (sameInts _ _ _ _ (kerY g rr qq) _ _ HL2.out _ G2.out V2.out).mono ?_
  rintro e w5 ⟨rfl, hq5⟩
  have hb5 : Below w4.heap.size w4 w5 := by obtain ⟨n, rfl⟩ := hq5; exact below_drewN (Below.refl _ _) n
  replace R0 := Lib.hid (stillRows R0.out hb5)
  replace G1 := Lib.hid (stillInts G1.out hb5)
  replace G2 := Lib.hid (stillInts G2.out hb5)
  replace V1 := Lib.hid (stillInts V1.out hb5)
  replace V2 := Lib.hid (stillInts V2.out hb5)
  replace BEL0 := Lib.hid (belT BEL0.out hb5)
  clear hq5 hb5
  clear V1
  clear V2
  rcases hb : kerB g rr qq with _ | _
  · skip
    obtain ⟨k1, k2⟩ := ker_none hb
    have HZ1 : Hid ((kerX g rr qq).length = 0) := by rw [k1]; rfl
    have HZ2 : Hid ((kerY g rr qq).length = 0) := by rw [k2]; rfl
    have z1 : (((kerX g rr qq).length : Int) == 0) = true := by rw [HZ1.out]; rfl
    have z2 : (((kerY g rr qq).length : Int) == 0) = true := by rw [HZ2.out]; rfl
    clear hb k1 k2 HL1 HL2 HM1 HM2
    clear G1
    clear G2
    clear R0
    go_wp2_with fail
    refine (alive _).mono ?_
    rintro e w9 ⟨rfl, hb9⟩
    have hb8 := Lib.hid (belT (w := w5) (by exact (by repeat (first | exact Below.refl _ _ | assumption | exact bel1 (by assumption) | exact bel2 (by assumption) | exact bel3 (by assumption) | exact bel4 (by assumption) | refine Below.drew ?_ | refine below_drewN ?_ _ | refine Below.setCell ?_ (by first | (simp; done) | (simp; omega)) _ | refine Below.alloc ?_ (by first | (simp; done) | (simp; omega)) _))) hb9)
    clear hb9
    go_wp2_with fail
    go_ret
    exact ⟨by first | rfl | (simp; done) | (simp; omega), belT BEL0.out hb8.out⟩
  obtain ⟨r, rfl⟩ : ∃ r : Nat, rr = (r : Int) := ⟨rr.toNat, by simp only [kerB, inR, Bool.and_eq_true, decide_eq_true_eq] at hb; omega⟩
  obtain ⟨q, rfl⟩ : ∃ q : Nat, qq = (q : Int) := ⟨qq.toNat, by simp only [kerB, inR, Bool.and_eq_true, decide_eq_true_eq] at hb; omega⟩
  have HK := Lib.hid (Kern.of hb)
  have hgb := (kerB_parts hb).1
  have HGB := Lib.hid hgb
  have hg := Game.of hgb
  have hg1 := hg.lo
  have hg2 := hg.hi
  have hg3 := hg.mlo
  have hg4 := hg.mhi
  have hm4 := (kerB_parts hb).2.1
  have hn4 := (kerB_parts hb).2.2.1
  have hr15 := Nat.lt_of_lt_of_le (pw_lt (kerB_parts hb).2.2.2.1).2 (pow_le16 hm4)
  have hq15 := Nat.lt_of_lt_of_le (pw_lt (kerB_parts hb).2.2.2.2.1).2 (pow_le16 hn4)
  clear hb hgb hg zB HL1 HL2
  obtain ⟨bt, ot, rfl⟩ := R0.out.some (by omega)
  go_wp2_with fail
  refine (avg_impl _ _ _ _ _ _ g (kerX g r q) (kerY g r q) hl HM1.out HM2.out _ R0.out G1.out G2.out).mono ?_
  rintro e w6 ⟨rfl, hb6⟩
  replace R0 := Lib.hid (stillRows R0.out hb6)
  replace G1 := Lib.hid (stillInts G1.out hb6)
  replace G2 := Lib.hid (stillInts G2.out hb6)
  replace BEL0 := Lib.hid (belT BEL0.out hb6)
  clear hb6
  try unfold FracRes
  go_wp2_with fail
  obtain ⟨WFA, hWFA⟩ : ∃ WFA : World, WFA = w6.alloc (.cells #[.int .i64 (avgU g (kerX g r q) (kerY g r q)), .int .i64 (avgD g (kerX g r q) (kerY g r q))] 32) := ⟨_, rfl⟩
  have hbWFA : Below w6.heap.size w6 WFA := by rw [hWFA]; exact (Below.refl _ _).alloc (Nat.le_refl _) _
  have FA : Hid (Box2 WFA w6.heap.size (avgU g (kerX g r q) (kerY g r q)) (avgD g (kerX g r q) (kerY g r q))) := by show Box2 _ _ _ _; rw [hWFA]; exact Box2.new _ _ _
  rw [← hWFA]
  clear hWFA
  replace R0 := Lib.hid (stillRows R0.out hbWFA)
  replace G1 := Lib.hid (stillInts G1.out hbWFA)
  replace G2 := Lib.hid (stillInts G2.out hbWFA)
  replace BEL0 := Lib.hid (belT BEL0.out hbWFA)
  clear hbWFA
  have HMX : Hid (mixB (kerX g r q) (g.length : Int) = true) := HK.out.mixX.to
  have HMY : Hid (mixB (kerY g r q) ((rowAt g 0).length : Int) = true) := HK.out.mixY.to
  rcases hA : avgB g (kerX g r q) (kerY g r q) with _ | _
  · skip
    clear hA
    go_loopw [14] (fun i wr => i = .int .i64 0 ∧ wr = WFA) (fun i _ => 0)
    case atStart => exact ⟨rfl, rfl⟩
    case round =>
      obtain ⟨rfl, hwr⟩ := hrel
      rw [hwr]
      clear hwr
      obtain ⟨hSr, A0, c0, hc0, hl0', hm0, _⟩ := R0.out.row (i := 0) (by omega)
      rw [Nat.add_zero] at hc0
      unfold maxLen at hm0
      go_wp2_with fail
      go_loopw [18] (fun i wr => i = .int .i64 0 ∧ wr = WFA) (fun i _ => 0)
      case atStart => exact ⟨rfl, rfl⟩
      case round =>
        obtain ⟨rfl, hwr⟩ := hrel
        rw [hwr]
        clear hwr
        obtain ⟨hSr, A0, c0, hc0, hl0', hm0, _⟩ := R0.out.row (i := 0) (by omega)
        rw [Nat.add_zero] at hc0
        unfold maxLen at hm0
        go_wp2_with fail
        refine (mixOk_impl _ _ (kerX g r q) g.length _ HM1.out _ G1.out).mono ?_
        rintro e wz ⟨rfl, rfl⟩
        rw [HMX.out]
        go_wp2_with fail
        refine (mixOk_impl _ _ (kerY g r q) (rowAt g 0).length _ HM2.out _ G2.out).mono ?_
        rintro e wz ⟨rfl, rfl⟩
        rw [HMY.out]
        go_wp2_with fail
        go_ret
        exact ⟨by simp, BEL0.out⟩
  · skip
    have HA := Lib.hid hA
    clear hA
    have L0 := Lib.hid (Below.refl WFA.heap.size WFA)
    go_loopw [14] (fun i wr => ∃ k : Nat, k ≤ g.length ∧ i = .int .i64 k ∧ Hid (Below WFA.heap.size WFA wr)) (fun i _ => g.length - (intOf i).toNat)
    case atStart => exact ⟨0, Nat.zero_le _, rfl, L0⟩
    case round =>
      clear L0
      obtain ⟨k, hk, rfl, HV⟩ := hrel
      have hbV := HV.out
      obtain ⟨wo, rfl⟩ : ∃ wo, wo = wr := ⟨_, rfl⟩
      replace R0 := Lib.hid (stillRows R0.out hbV)
      replace G1 := Lib.hid (stillInts G1.out hbV)
      replace G2 := Lib.hid (stillInts G2.out hbV)
      replace FA := Lib.hid (FA.out.still hbV)
      replace BEL0 := Lib.hid (belT BEL0.out hbV)
      clear hbV
      obtain ⟨hSr, A0, c0, hc0, hl0', hm0, _⟩ := R0.out.row (i := 0) (by omega)
      rw [Nat.add_zero] at hc0
      unfold maxLen at hm0
      by_cases hlt : k < g.length
      · skip
        have hmk := run_make_row' (P := Try.prog) 26 3 _ 8 Try.underlying26 infoI rfl .i64 .i64 g.length (by omega) (by omega)
        have hrow := World.rowIs_made wo (.int .i64 0) g.length 3
        have hcell := hrow.cell (i := k) hlt
        have hfr := hrow.frozen k
        clear hrow
        go_wp2_with fail
        clear hmk hcell hfr hc0
        obtain ⟨VO, hVO⟩ : ∃ VO : World, VO = wo.alloc (.cells ((madeCells #[.int .i64 0] g.length).setIfInBounds k (.int .i64 1)) 3) := ⟨_, rfl⟩
        have hbVO : Below wo.heap.size wo VO := by rw [hVO]; exact (Below.refl _ _).alloc (Nat.le_refl _) _
        have O : Hid (Ints VO (· < VO.heap.size) (some ⟨wo.heap.size, 0, none⟩) (oneAt g.length k 1)) := by show Ints _ _ _ _; rw [hVO]; exact unit_new _ _ _
        have hzVO : Hid (g.length = (oneAt g.length k 1).length) := (oneAt_length _ _ _).symm
        rw [← hVO]
        clear hVO
        replace R0 := Lib.hid (stillRows R0.out hbVO)
        replace G1 := Lib.hid (stillInts G1.out hbVO)
        replace G2 := Lib.hid (stillInts G2.out hbVO)
        replace FA := Lib.hid (FA.out.still hbVO)
        replace HV := Lib.hid (belT HV.out hbVO)
        replace BEL0 := Lib.hid (belT BEL0.out hbVO)
        clear hbVO
        have CR := fun c d e => avg_impl _ _ _ c d e g (oneAt g.length k 1) (kerY g r q) hl (by rw [oneAt_length]; omega) HM2.out _ R0.out O.out G2.out
        rw [oneAt_length] at CR
        refine (CR _ _ _).mono ?_
        rintro e w7 ⟨rfl, hb7⟩
        replace R0 := Lib.hid (stillRows R0.out hb7)
        replace G1 := Lib.hid (stillInts G1.out hb7)
        replace G2 := Lib.hid (stillInts G2.out hb7)
        replace FA := Lib.hid (FA.out.still hb7)
        replace HV := Lib.hid (belT HV.out hb7)
        replace O := Lib.hid (stillInts O.out hb7)
        replace BEL0 := Lib.hid (belT BEL0.out hb7)
        clear hb7
        clear CR
        try unfold FracRes
        clear O
        have zU : (avgU g (kerX g r q) (kerY g r q) != avgU g (kerX g r q) (kerY g r q)) = false := by simp
        have zD : (avgD g (kerX g r q) (kerY g r q) != avgD g (kerX g r q) (kerY g r q)) = false := by simp
        have cFA0 := FA.out.c0
        have cFA1 := FA.out.c1
        have lFA := FA.out.lt
        rcases hbit : bP r k with _ | _
        · skip
          have e1 := bit_no hbit
          clear hbit
          go_wp2_with fail
          clear cFA0 cFA1 lFA zU zD e1
          go_roundw
          case rel => exact ⟨k + 1, by omega, by go_num, belT HV.out (by exact (by repeat (first | exact Below.refl _ _ | assumption | exact bel1 (by assumption) | exact bel2 (by assumption) | exact bel3 (by assumption) | exact bel4 (by assumption) | refine Below.drew ?_ | refine below_drewN ?_ _ | refine Below.setCell ?_ (by first | (simp; done) | (simp; omega)) _ | refine Below.alloc ?_ (by first | (simp; done) | (simp; omega)) _)))⟩
          case measure => simp [intOf]; omega
        · skip
          have e1 := bit_yes hbit
          obtain ⟨a1, a2, a3⟩ := HK.out.avgR HA.out hlt hbit
          rw [a1, a2, a3]
          clear a1 a2 a3 hbit
          go_wp2_with fail
          clear cFA0 cFA1 lFA zU zD e1
          go_roundw
          case rel => exact ⟨k + 1, by omega, by go_num, belT HV.out (by exact (by repeat (first | exact Below.refl _ _ | assumption | exact bel1 (by assumption) | exact bel2 (by assumption) | exact bel3 (by assumption) | exact bel4 (by assumption) | refine Below.drew ?_ | refine below_drewN ?_ _ | refine Below.setCell ?_ (by first | (simp; done) | (simp; omega)) _ | refine Below.alloc ?_ (by first | (simp; done) | (simp; omega)) _)))⟩
          case measure => simp [intOf]; omega
      · skip
        obtain rfl : k = g.length := by omega
        go_wp2_with fail
        clear hlt hk hc0 HV
        have L0 := Lib.hid (Below.refl wo.heap.size wo)
        go_loopw [18] (fun i wr => ∃ k : Nat, k ≤ (rowAt g 0).length ∧ i = .int .i64 k ∧ Hid (Below wo.heap.size wo wr)) (fun i _ => (rowAt g 0).length - (intOf i).toNat)
        case atStart => exact ⟨0, Nat.zero_le _, rfl, L0⟩
        case round =>
          clear L0
          obtain ⟨k, hk, rfl, HV⟩ := hrel
          have hbV := HV.out
          obtain ⟨wo, rfl⟩ : ∃ wo, wo = wr := ⟨_, rfl⟩
          replace R0 := Lib.hid (stillRows R0.out hbV)
          replace G1 := Lib.hid (stillInts G1.out hbV)
          replace G2 := Lib.hid (stillInts G2.out hbV)
          replace FA := Lib.hid (FA.out.still hbV)
          replace BEL0 := Lib.hid (belT BEL0.out hbV)
          clear hbV
          obtain ⟨hSr, A0, c0, hc0, hl0', hm0, _⟩ := R0.out.row (i := 0) (by omega)
          rw [Nat.add_zero] at hc0
          unfold maxLen at hm0
          by_cases hlt : k < (rowAt g 0).length
          · skip
            have hmk := run_make_row' (P := Try.prog) 26 3 _ 8 Try.underlying26 infoI rfl .i64 .i64 (rowAt g 0).length (by omega) (by omega)
            have hrow := World.rowIs_made wo (.int .i64 0) (rowAt g 0).length 3
            have hcell := hrow.cell (i := k) hlt
            have hfr := hrow.frozen k
            clear hrow
            go_wp2_with fail
            clear hmk hcell hfr hc0
            obtain ⟨VO, hVO⟩ : ∃ VO : World, VO = wo.alloc (.cells ((madeCells #[.int .i64 0] (rowAt g 0).length).setIfInBounds k (.int .i64 1)) 3) := ⟨_, rfl⟩
            have hbVO : Below wo.heap.size wo VO := by rw [hVO]; exact (Below.refl _ _).alloc (Nat.le_refl _) _
            have O : Hid (Ints VO (· < VO.heap.size) (some ⟨wo.heap.size, 0, none⟩) (oneAt (rowAt g 0).length k 1)) := by show Ints _ _ _ _; rw [hVO]; exact unit_new _ _ _
            have hzVO : Hid ((rowAt g 0).length = (oneAt (rowAt g 0).length k 1).length) := (oneAt_length _ _ _).symm
            rw [← hVO]
            clear hVO
            replace R0 := Lib.hid (stillRows R0.out hbVO)
            replace G1 := Lib.hid (stillInts G1.out hbVO)
            replace G2 := Lib.hid (stillInts G2.out hbVO)
            replace FA := Lib.hid (FA.out.still hbVO)
            replace HV := Lib.hid (belT HV.out hbVO)
            replace BEL0 := Lib.hid (belT BEL0.out hbVO)
            clear hbVO
            have CR := fun c d e => avg_impl _ _ _ c d e g (kerX g r q) (oneAt (rowAt g 0).length k 1) hl HM1.out (by rw [oneAt_length]; omega) _ R0.out G1.out O.out
            rw [oneAt_length] at CR
            refine (CR _ _ _).mono ?_
            rintro e w7 ⟨rfl, hb7⟩
            replace R0 := Lib.hid (stillRows R0.out hb7)
            replace G1 := Lib.hid (stillInts G1.out hb7)
            replace G2 := Lib.hid (stillInts G2.out hb7)
            replace FA := Lib.hid (FA.out.still hb7)
            replace HV := Lib.hid (belT HV.out hb7)
            replace O := Lib.hid (stillInts O.out hb7)
            replace BEL0 := Lib.hid (belT BEL0.out hb7)
            clear hb7
            clear CR
            try unfold FracRes
            clear O
            have zU : (avgU g (kerX g r q) (kerY g r q) != avgU g (kerX g r q) (kerY g r q)) = false := by simp
            have zD : (avgD g (kerX g r q) (kerY g r q) != avgD g (kerX g r q) (kerY g r q)) = false := by simp
            have cFA0 := FA.out.c0
            have cFA1 := FA.out.c1
            have lFA := FA.out.lt
            rcases hbit : bP q k with _ | _
            · skip
              have e1 := bit_no hbit
              clear hbit
              go_wp2_with fail
              clear cFA0 cFA1 lFA zU zD e1
              go_roundw
              case rel => exact ⟨k + 1, by omega, by go_num, belT HV.out (by exact (by repeat (first | exact Below.refl _ _ | assumption | exact bel1 (by assumption) | exact bel2 (by assumption) | exact bel3 (by assumption) | exact bel4 (by assumption) | refine Below.drew ?_ | refine below_drewN ?_ _ | refine Below.setCell ?_ (by first | (simp; done) | (simp; omega)) _ | refine Below.alloc ?_ (by first | (simp; done) | (simp; omega)) _)))⟩
              case measure => simp [intOf]; omega
            · skip
              have e1 := bit_yes hbit
              obtain ⟨a1, a2, a3⟩ := HK.out.avgC HA.out hlt hbit
              rw [a1, a2, a3]
              clear a1 a2 a3 hbit
              go_wp2_with fail
              clear cFA0 cFA1 lFA zU zD e1
              go_roundw
              case rel => exact ⟨k + 1, by omega, by go_num, belT HV.out (by exact (by repeat (first | exact Below.refl _ _ | assumption | exact bel1 (by assumption) | exact bel2 (by assumption) | exact bel3 (by assumption) | exact bel4 (by assumption) | refine Below.drew ?_ | refine below_drewN ?_ _ | refine Below.setCell ?_ (by first | (simp; done) | (simp; omega)) _ | refine Below.alloc ?_ (by first | (simp; done) | (simp; omega)) _)))⟩
              case measure => simp [intOf]; omega
          · skip
            obtain rfl : k = (rowAt g 0).length := by omega
            go_wp2_with fail
            refine (mixOk_impl _ _ (kerX g r q) g.length _ HM1.out _ G1.out).mono ?_
            rintro e wz ⟨rfl, rfl⟩
            rw [HMX.out]
            go_wp2_with fail
            refine (mixOk_impl _ _ (kerY g r q) (rowAt g 0).length _ HM2.out _ G2.out).mono ?_
            rintro e wz ⟨rfl, rfl⟩
            rw [HMY.out]
            go_wp2_with fail
            go_ret
            exact ⟨by simp, BEL0.out⟩

end Go.Proofs.Ytgjbahlebhnoiaa
