/- The walk of the law of FairFrom, over contracts of the program's functions. (Written by wip/gen/law10.py.) -/
import Derived.Test.YtanfefgigepdcaaLawHa
import Derived.Test.YtanfefgigepdcaaOC
import Derived.Test.YtanfefgigepdcaaMO
import Derived.Test.YtanfefgigepdcaaMI
import Derived.Test.YtanfefgigepdcaaMB
import Derived.Deep.AppendLies
import Derived.Deep.RegionLaw
import Derived.Test.YtanfefgigepdcaaOA
import Derived.Test.YtanfefgigepdcaaOD
import Derived.Test.YtanfefgigepdcaaFromS
import Derived.Test.YtanfefgigepdcaaExactV
namespace Go.Proofs.Ytanfefgigepdcaa
set_option linter.unusedSimpArgs false
set_option linter.unusedVariables false
open Go.RowKit

set_option maxHeartbeats 4000000 in
set_option maxRecDepth 100000 in
theorem wFnFairFrom (I : Impl10) (a : Option Addr) (len cap : Nat) (zs : List Int) (w : World) (h : IsRow .u8 w a len cap zs) :
    Calls Try.prog 7 #[.slice a len cap] w fun e w' => e = .returned (.bool true) ∧ Below w.heap.size w w' := by
  have hle := byte_len h
  by_cases hbig : (1048576 : Int) < (len : Int)
  · go_enter Try.func7, Try.ntmps7
    go_wp2_with fail
    go_ret
    exact ⟨rfl, Below.refl _ _⟩
  go_enter Try.func7, Try.ntmps7
  go_wp2_with fail
  refine (dDrawFairFrom a len cap zs w h).mono ?_
  rintro e w1 ⟨g, T, c, rfl, hc1, hc2, hg17, hgr, hb1, ho1⟩
  clear hbig hle
  have BEL0 := Lib.hid hb1
  have R0 := Lib.hid ho1.lt
  have hl := small_max hg17
  have hxl : (frmG g).length ≤ maxLen := small_max (by have := (frmG_len g).1; omega)
  clear hb1 ho1 hgr hc1 hc2
  go_wp2_with fail
  refine (I.frm T c g hl _ R0.out).mono ?_
  rintro e w2 ⟨TX0, cX0, rfl, hb2, ho2⟩
  have X0 := Lib.hid ho2.lt
  replace R0 := Lib.hid (stillRows R0.out hb2)
  replace BEL0 := Lib.hid (belT BEL0.out hb2)
  clear hb2 ho2
  go_wp2_with fail
  refine (from_spec T c g hl _ R0.out).mono ?_
  rintro e w3 ⟨TY0, cY0, rfl, hb3, ho3⟩
  have Y0 := Lib.hid ho3.lt
  replace R0 := Lib.hid (stillRows R0.out hb3)
  replace X0 := Lib.hid (stillRows X0.out hb3)
  replace BEL0 := Lib.hid (belT BEL0.out hb3)
  clear hb3 ho3
  go_wp2_with fail
  refine (sameRows _ _ _ _ (frmG g) _ _ hxl _ X0.out Y0.out).mono ?_
  rintro e w4 ⟨rfl, hq4⟩
  have hb4 : Below w3.heap.size w3 w4 := by obtain ⟨n, rfl⟩ := hq4; exact below_drewN (Below.refl _ _) n
  replace R0 := Lib.hid (stillRows R0.out hb4)
  replace X0 := Lib.hid (stillRows X0.out hb4)
  replace Y0 := Lib.hid (stillRows Y0.out hb4)
  replace BEL0 := Lib.hid (belT BEL0.out hb4)
  clear hq4 hb4
  clear Y0
  rcases hb : frmB g with _ | _
  · skip
    have zz : (((frmG g).length : Int) == 0) = true := by rw [frm_no hb]; rfl
    clear hb
    go_wp2_with fail
    refine (alive _).mono ?_
    rintro e w9 ⟨rfl, hb9⟩
    have hb8 := Lib.hid (belT (w := w4) (by exact (by repeat (first | exact Below.refl _ _ | assumption | exact bel1 (by assumption) | exact bel2 (by assumption) | exact bel3 (by assumption) | exact bel4 (by assumption) | refine Below.drew ?_ | refine below_drewN ?_ _ | refine Below.setCell ?_ (by first | (simp; done) | (simp; omega)) _ | refine Below.alloc ?_ (by first | (simp; done) | (simp; omega)) _))) hb9)
    clear hb9
    go_wp2_with fail
    go_ret
    exact ⟨by first | rfl | (simp; done) | (simp; omega), belT BEL0.out hb8.out⟩
  obtain ⟨hgb, h8⟩ := frmB_iff.1 hb
  have hg := Game.of hgb
  have hg1 := hg.lo
  have hm1 := hg.mlo
  have HRO := Lib.hid hg.len
  have HFB : Hid (fairB (frmG g) = true) := fairB_iff.2 (from_fair hb)
  have HFL : Hid ((frmG g).length = g.length + (rowAt g 0).length + 1) := by show _ = _; rw [frm_yes hb]; exact fromT_length _ _ _
  have HB := Lib.hid hb
  have zz : (((frmG g).length : Int) == 0) = false := by rw [beq_eq_false_iff_ne, HFL.out]; omega
  clear hb hg hgb
  obtain ⟨n, hn⟩ : ∃ n, (rowAt g 0).length = n := ⟨_, rfl⟩
  have HN0 := Lib.hid hn
  rw [hn] at HFL HRO hm1 h8
  obtain ⟨bg, og, hB, hbg, hcg⟩ := R0.out.at_ (i := 0) hg1
  subst hB
  have HCG := Lib.hid hcg
  obtain ⟨A0, c0, hc0, _, _, _⟩ := hcg 0 hg1
  rw [Nat.add_zero, hn] at hc0
  clear hcg hn
  go_wp2_with fail
  go_loop [5, 6] (fun v i => ∃ (k : Nat) (b : Bool), k ≤ g.length ∧ i = .int .i64 k ∧ v = .bool b) (fun _ i => g.length - (intOf i).toNat)
  case atStart => exact ⟨0, true, Nat.zero_le _, rfl, rfl⟩
  case round =>
    obtain ⟨i, b, hi, rfl, rfl⟩ := hrel
    by_cases hil : i < g.length
    · go_wp2_with fail
      go_loop [5, 7] (fun v i => ∃ (k : Nat) (b : Bool), k ≤ n ∧ i = .int .i64 k ∧ v = .bool b) (fun _ i => n - (intOf i).toNat)
      case atStart => exact ⟨0, b, Nat.zero_le _, rfl, rfl⟩
      case round =>
        obtain ⟨j, b, hj, rfl, rfl⟩ := hrel
        by_cases hjl : j < n
        · have hlr := HRO.out i hil
          have q1 : (0 : Int) ≤ (i : Int) := by omega
          have q2 : (0 : Int) ≤ (j : Int) := by omega
          have hil2 : (i : Int) < (g.length : Int) := by omega
          have hjl2 : (j : Int) < (n : Int) := by omega
          obtain ⟨A2, c2, hrow, _, _, hI⟩ := HCG.out i hil
          obtain ⟨b2, o2, hA2, _, hc2⟩ := hI.at_ (i := j) (by omega)
          subst hA2
          have hcj := hc2 j (by omega)
          rw [hlr] at hrow
          clear hc2 hI hlr
          rcases b with _ | _
          · go_wp2_with fail
            go_round
            case rel => exact ⟨j + 1, false, by omega, by go_num, rfl⟩
            case measure => simp [intOf]; omega
          · rcases he : decide (0 < nth (rowAt g i) j) with _ | _
            · go_wp2_with fail
              go_round
              case rel => exact ⟨j + 1, false, by omega, by go_num, rfl⟩
              case measure => simp [intOf]; omega
            · go_wp2_with fail
              go_round
              case rel => exact ⟨j + 1, true, by omega, by go_num, rfl⟩
              case measure => simp [intOf]; omega
        · obtain rfl : j = n := by omega
          go_wp2_with fail
          go_round
          case rel => exact ⟨i + 1, b, by omega, by go_num, rfl⟩
          case measure => simp [intOf]; omega
    · obtain rfl : i = g.length := by omega
      clear HCG hc0 hil
      go_wp2_with fail
      refine (sol_impl _ c g hl _ R0.out).mono ?_
      rintro e w5 ⟨TG1, cG1, TG2, cG2, rfl, hb5, ho5, hp5, _⟩
      have G1 := Lib.hid ho5.lt
      have G2 := Lib.hid hp5.lt
      replace R0 := Lib.hid (stillRows R0.out hb5)
      replace X0 := Lib.hid (stillRows X0.out hb5)
      replace BEL0 := Lib.hid (belT BEL0.out hb5)
      clear hb5 ho5 hp5
      rcases b with _ | _
      · skip
        rcases hs : solB g with _ | _
        · skip
          go_wp2_with fail
          obtain ⟨WBG, hWBG⟩ : ∃ WBG : World, WBG = w5.alloc (.cells #[.int .i64 (solU g), .int .i64 (solD g), .slice TG1 (solX g).length cG1, .slice TG2 (solY g).length cG2] 47) := ⟨_, rfl⟩
          have hbWBG : Below w5.heap.size w5 WBG := by rw [hWBG]; exact (Below.refl _ _).alloc (Nat.le_refl _) _
          have BG : Hid (Box4 WBG w5.heap.size (.int .i64 (solU g)) (.int .i64 (solD g)) (.slice TG1 (solX g).length cG1) (.slice TG2 (solY g).length cG2)) := by show Box4 _ _ _ _ _ _; rw [hWBG]; exact Box4.new _ _ _ _ _
          have hzWBG : Hid (WBG.heap.size = w5.heap.size + 1) := by show WBG.heap.size = _; rw [hWBG]; simp
          rw [← hWBG]
          clear hWBG
          replace R0 := Lib.hid (stillRows R0.out hbWBG)
          replace X0 := Lib.hid (stillRows X0.out hbWBG)
          replace G1 := Lib.hid (stillInts G1.out hbWBG)
          replace G2 := Lib.hid (stillInts G2.out hbWBG)
          replace BEL0 := Lib.hid (belT BEL0.out hbWBG)
          clear hbWBG
          clear hs
          clear G1
          clear G2
          clear BG
          go_wp2_with fail
          refine (I.fair _ _ (frmG g) hxl _ X0.out).mono ?_
          rintro e w6 ⟨rfl, hb6⟩
          replace R0 := Lib.hid (stillRows R0.out hb6)
          replace X0 := Lib.hid (stillRows X0.out hb6)
          replace BEL0 := Lib.hid (belT BEL0.out hb6)
          clear hb6
          rw [HFB.out]
          obtain ⟨bx, ox, hB, _, hcx⟩ := R0.out.at_ (i := 0) hg1
          injection hB with hB
          injection hB with hB1 hB2
          subst hB1 hB2
          obtain ⟨A1, c1, hc1, _, _, _⟩ := hcx 0 hg1
          rw [Nat.add_zero, HN0.out] at hc1
          have hgl17 : g.length ≤ 17 := hg17
          have hw1 : IntKind.i64.wrap ((g.length : Int) + (n : Int)) = (g.length : Int) + (n : Int) := IntWalk.i64_in _ ⟨by omega, by omega⟩
          have hw2 : IntKind.i64.wrap ((g.length : Int) + (n : Int) + 1) = (g.length : Int) + (n : Int) + 1 := IntWalk.i64_in _ ⟨by omega, by omega⟩
          have hfl : (((frmG g).length : Int) == (g.length : Int) + (n : Int) + 1) = true := by rw [beq_iff_eq, HFL.out]; omega
          clear hcx
          go_wp2_with fail
          go_ret
          exact ⟨by first | rfl | (simp; done), BEL0.out⟩
        · skip
          go_wp2_with fail
          obtain ⟨WBG, hWBG⟩ : ∃ WBG : World, WBG = w5.alloc (.cells #[.int .i64 (solU g), .int .i64 (solD g), .slice TG1 (solX g).length cG1, .slice TG2 (solY g).length cG2] 47) := ⟨_, rfl⟩
          have hbWBG : Below w5.heap.size w5 WBG := by rw [hWBG]; exact (Below.refl _ _).alloc (Nat.le_refl _) _
          have BG : Hid (Box4 WBG w5.heap.size (.int .i64 (solU g)) (.int .i64 (solD g)) (.slice TG1 (solX g).length cG1) (.slice TG2 (solY g).length cG2)) := by show Box4 _ _ _ _ _ _; rw [hWBG]; exact Box4.new _ _ _ _ _
          have hzWBG : Hid (WBG.heap.size = w5.heap.size + 1) := by show WBG.heap.size = _; rw [hWBG]; simp
          rw [← hWBG]
          clear hWBG
          replace R0 := Lib.hid (stillRows R0.out hbWBG)
          replace X0 := Lib.hid (stillRows X0.out hbWBG)
          replace G1 := Lib.hid (stillInts G1.out hbWBG)
          replace G2 := Lib.hid (stillInts G2.out hbWBG)
          replace BEL0 := Lib.hid (belT BEL0.out hbWBG)
          clear hbWBG
          clear hs
          clear G1
          clear G2
          clear BG
          go_wp2_with fail
          refine (I.fair _ _ (frmG g) hxl _ X0.out).mono ?_
          rintro e w6 ⟨rfl, hb6⟩
          replace R0 := Lib.hid (stillRows R0.out hb6)
          replace X0 := Lib.hid (stillRows X0.out hb6)
          replace BEL0 := Lib.hid (belT BEL0.out hb6)
          clear hb6
          rw [HFB.out]
          obtain ⟨bx, ox, hB, _, hcx⟩ := R0.out.at_ (i := 0) hg1
          injection hB with hB
          injection hB with hB1 hB2
          subst hB1 hB2
          obtain ⟨A1, c1, hc1, _, _, _⟩ := hcx 0 hg1
          rw [Nat.add_zero, HN0.out] at hc1
          have hgl17 : g.length ≤ 17 := hg17
          have hw1 : IntKind.i64.wrap ((g.length : Int) + (n : Int)) = (g.length : Int) + (n : Int) := IntWalk.i64_in _ ⟨by omega, by omega⟩
          have hw2 : IntKind.i64.wrap ((g.length : Int) + (n : Int) + 1) = (g.length : Int) + (n : Int) + 1 := IntWalk.i64_in _ ⟨by omega, by omega⟩
          have hfl : (((frmG g).length : Int) == (g.length : Int) + (n : Int) + 1) = true := by rw [beq_iff_eq, HFL.out]; omega
          clear hcx
          go_wp2_with fail
          go_ret
          exact ⟨by first | rfl | (simp; done), BEL0.out⟩
      rcases hs : solB g with _ | _
      · skip
        go_wp2_with fail
        obtain ⟨WBG, hWBG⟩ : ∃ WBG : World, WBG = w5.alloc (.cells #[.int .i64 (solU g), .int .i64 (solD g), .slice TG1 (solX g).length cG1, .slice TG2 (solY g).length cG2] 47) := ⟨_, rfl⟩
        have hbWBG : Below w5.heap.size w5 WBG := by rw [hWBG]; exact (Below.refl _ _).alloc (Nat.le_refl _) _
        have BG : Hid (Box4 WBG w5.heap.size (.int .i64 (solU g)) (.int .i64 (solD g)) (.slice TG1 (solX g).length cG1) (.slice TG2 (solY g).length cG2)) := by show Box4 _ _ _ _ _ _; rw [hWBG]; exact Box4.new _ _ _ _ _
        have hzWBG : Hid (WBG.heap.size = w5.heap.size + 1) := by show WBG.heap.size = _; rw [hWBG]; simp
        rw [← hWBG]
        clear hWBG
        replace R0 := Lib.hid (stillRows R0.out hbWBG)
        replace X0 := Lib.hid (stillRows X0.out hbWBG)
        replace G1 := Lib.hid (stillInts G1.out hbWBG)
        replace G2 := Lib.hid (stillInts G2.out hbWBG)
        replace BEL0 := Lib.hid (belT BEL0.out hbWBG)
        clear hbWBG
        clear hs
        clear G1
        clear G2
        clear BG
        go_wp2_with fail
        refine (I.fair _ _ (frmG g) hxl _ X0.out).mono ?_
        rintro e w6 ⟨rfl, hb6⟩
        replace R0 := Lib.hid (stillRows R0.out hb6)
        replace X0 := Lib.hid (stillRows X0.out hb6)
        replace BEL0 := Lib.hid (belT BEL0.out hb6)
        clear hb6
        rw [HFB.out]
        obtain ⟨bx, ox, hB, _, hcx⟩ := R0.out.at_ (i := 0) hg1
        injection hB with hB
        injection hB with hB1 hB2
        subst hB1 hB2
        obtain ⟨A1, c1, hc1, _, _, _⟩ := hcx 0 hg1
        rw [Nat.add_zero, HN0.out] at hc1
        have hgl17 : g.length ≤ 17 := hg17
        have hw1 : IntKind.i64.wrap ((g.length : Int) + (n : Int)) = (g.length : Int) + (n : Int) := IntWalk.i64_in _ ⟨by omega, by omega⟩
        have hw2 : IntKind.i64.wrap ((g.length : Int) + (n : Int) + 1) = (g.length : Int) + (n : Int) + 1 := IntWalk.i64_in _ ⟨by omega, by omega⟩
        have hfl : (((frmG g).length : Int) == (g.length : Int) + (n : Int) + 1) = true := by rw [beq_iff_eq, HFL.out]; omega
        clear hcx
        go_wp2_with fail
        go_ret
        exact ⟨by first | rfl | (simp; done), BEL0.out⟩
      go_wp2_with fail
      obtain ⟨WBG, hWBG⟩ : ∃ WBG : World, WBG = w5.alloc (.cells #[.int .i64 (solU g), .int .i64 (solD g), .slice TG1 (solX g).length cG1, .slice TG2 (solY g).length cG2] 47) := ⟨_, rfl⟩
      have hbWBG : Below w5.heap.size w5 WBG := by rw [hWBG]; exact (Below.refl _ _).alloc (Nat.le_refl _) _
      have BG : Hid (Box4 WBG w5.heap.size (.int .i64 (solU g)) (.int .i64 (solD g)) (.slice TG1 (solX g).length cG1) (.slice TG2 (solY g).length cG2)) := by show Box4 _ _ _ _ _ _; rw [hWBG]; exact Box4.new _ _ _ _ _
      have hzWBG : Hid (WBG.heap.size = w5.heap.size + 1) := by show WBG.heap.size = _; rw [hWBG]; simp
      rw [← hWBG]
      clear hWBG
      replace R0 := Lib.hid (stillRows R0.out hbWBG)
      replace X0 := Lib.hid (stillRows X0.out hbWBG)
      replace G1 := Lib.hid (stillInts G1.out hbWBG)
      replace G2 := Lib.hid (stillInts G2.out hbWBG)
      replace BEL0 := Lib.hid (belT BEL0.out hbWBG)
      clear hbWBG
      obtain ⟨hXl, hYl, hmb⟩ := mix_bd hs
      have MB := Lib.hid hmb
      have HMS : Hid (safB (frmG g) (mixF (solX g) (solY g) (sumW (solX g) (solX g).length) (sumW (solY g) (solY g).length) (solU g) (solD g)) = true → safU (frmG g) (mixF (solX g) (solY g) (sumW (solX g) (solX g).length) (sumW (solY g) (solY g).length) (solU g) (solD g)) = 0 ∧ safD (frmG g) (mixF (solX g) (solY g) (sumW (solX g) (solX g).length) (sumW (solY g) (solY g).length) (solU g) (solD g)) = 1) := by
        obtain ⟨_, _, _, hset, eu, ed⟩ := sol_parts hs
        intro hm
        rw [eu, ed] at hm ⊢
        exact mix_safe HB.out hset hm
      have HX4 := Lib.hid hmb.xl
      have HY4 := Lib.hid hmb.yl
      clear hs hmb hXl hYl
      obtain ⟨sa, hsa⟩ : ∃ s, sumW (solX g) (solX g).length = s := ⟨_, rfl⟩
      obtain ⟨sb, hsb⟩ : ∃ s, sumW (solY g) (solY g).length = s := ⟨_, rfl⟩
      rw [hsa, hsb] at HMS MB
      have HSA := Lib.hid hsa
      have HSB := Lib.hid hsb
      clear hsa hsb
      obtain ⟨i0, hi0, hz0, hz1, hz2⟩ := info_parts infoI
      have HI0 := Lib.hid hi0
      have HZ0 := Lib.hid hz0
      have HZ1 := Lib.hid hz1
      have HZ2 := Lib.hid hz2
      clear hi0 hz0 hz1 hz2
      have cBG0 := BG.out.c0
      have cBG1 := BG.out.c1
      have cBG2 := BG.out.c2
      have cBG3 := BG.out.c3
      have ltBG := BG.out.lt
      go_wp2_with fail
      go_loop [10, 11] (fun v i => ∃ k : Nat, k ≤ (solX g).length ∧ i = .int .i64 k ∧ v = .int .i64 (sumW (solX g) k)) (fun _ i => (solX g).length - (intOf i).toNat)
      case atStart => exact ⟨0, Nat.zero_le _, rfl, rfl⟩
      case round =>
        obtain ⟨k, hk, rfl, rfl⟩ := hrel
        by_cases hlt : k < (solX g).length
        · obtain ⟨b', o', e', _, hc⟩ := G1.out.at_ hlt
          subst e'
          have hck := hc k hlt
          have hx4 : (solX g).length ≤ 4 := HX4.out
          have hsm : sumW (solX g) k + nth (solX g) k = sumW (solX g) (k + 1) := rfl
          have hbd := MB.out.xs (k + 1) (by omega)
          have hw : IntKind.i64.wrap (sumW (solX g) (k + 1)) = sumW (solX g) (k + 1) := IntWalk.i64_in _ ⟨by omega, by omega⟩
          clear hc hbd
          go_wp2_with fail
          go_round
          case rel => exact ⟨k + 1, by omega, by go_num, by first | rfl | rw [hsm]⟩
          case measure => simp [intOf]; omega
        · obtain rfl : k = (solX g).length := by omega
          rw [HSA.out]
          clear hlt hk
          go_wp2_with fail
          go_loop [12, 13] (fun v i => ∃ k : Nat, k ≤ (solY g).length ∧ i = .int .i64 k ∧ v = .int .i64 (sumW (solY g) k)) (fun _ i => (solY g).length - (intOf i).toNat)
          case atStart => exact ⟨0, Nat.zero_le _, rfl, rfl⟩
          case round =>
            obtain ⟨k, hk, rfl, rfl⟩ := hrel
            by_cases hlt : k < (solY g).length
            · obtain ⟨b', o', e', _, hc⟩ := G2.out.at_ hlt
              subst e'
              have hck := hc k hlt
              have hx4 : (solY g).length ≤ 4 := HY4.out
              have hsm : sumW (solY g) k + nth (solY g) k = sumW (solY g) (k + 1) := rfl
              have hbd := MB.out.ys (k + 1) (by omega)
              have hw : IntKind.i64.wrap (sumW (solY g) (k + 1)) = sumW (solY g) (k + 1) := IntWalk.i64_in _ ⟨by omega, by omega⟩
              clear hc hbd
              go_wp2_with fail
              go_round
              case rel => exact ⟨k + 1, by omega, by go_num, by first | rfl | rw [hsm]⟩
              case measure => simp [intOf]; omega
            · obtain rfl : k = (solY g).length := by omega
              rw [HSB.out]
              clear hlt hk
              have sBG1 := stays BG.out.lt BG.out.c1
              have sBG2 := stays BG.out.lt BG.out.c2
              have sBG3 := stays BG.out.lt BG.out.c3
              have sBG0 := stays BG.out.lt BG.out.c0
              have L0 : Hid (Grows (WBG.alloc (.cells #[] 3)) WBG.heap.size (.slice (some ⟨WBG.heap.size, 0, none⟩) 0 0) (mixX (solX g) sb (solD g) 0)) := by rw [mixX_zero]; exact Grows.lit WBG (Nat.le_refl _)
              have L1 : Hid (Below WBG.heap.size WBG (WBG.alloc (.cells #[] 3))) := (Below.refl _ _).alloc (Nat.le_refl _) _
              go_wp2_with fail
              clear cBG0 cBG1 cBG2 cBG3 ltBG
              have mixlen : ∀ k, k ≤ (solX g).length → (mixX (solX g) sb (solD g) k).length = k := fun k hk => mixX_length hk
              go_loopw [14, 15] (fun v i wr => ∃ k : Nat, k ≤ (solX g).length ∧ i = .int .i64 k ∧ Hid (Grows wr WBG.heap.size v (mixX (solX g) sb (solD g) k)) ∧ Hid (Below WBG.heap.size WBG wr)) (fun _ i _ => (solX g).length - (intOf i).toNat)
              case atStart => exact ⟨0, Nat.zero_le _, rfl, L0, L1⟩
              case round =>
                obtain ⟨k, hk, rfl, HO, HV⟩ := hrel
                have hV := HV.out
                have hzV := hV.size
                have d1 := sBG1 _ hV
                have d2 := sBG2 _ hV
                have d3 := sBG3 _ hV
                have dl : w5.heap.size < wr.heap.size := by have := BG.out.lt; omega
                by_cases hlt : k < (solX g).length
                · obtain ⟨bx, ox, hA, hbx, hcx⟩ := G1.out.at_ (i := 0) (by omega)
                  subst hA
                  have hck := (hV.cell (p := ⟨bx, ox + k, none⟩) hbx).trans (hcx k hlt)
                  have hw1 : IntKind.i64.wrap (nth (solX g) k * sb) = nth (solX g) k * sb := IntWalk.i64_in _ (by have := MB.out.xb k hlt; omega)
                  have hw2 : IntKind.i64.wrap (nth (solX g) k * sb * solD g) = nth (solX g) k * sb * solD g := IntWalk.i64_in _ (by have := MB.out.xbd k hlt; omega)
                  have hx4 := HX4.out
                  clear hcx
                  have hlen := mixlen k hk
                  go_wp2_with fail
                  go_region_law (first | (refine step_append_lies _ rfl (.tmp 105) (.tmp 117) _ rfl WBG.heap.size 3 i0 (.int .i64 0) 1 8 Try.underlying31 HI0.out HZ0.out HZ1.out HZ2.out rfl (by decide) _ (mixX (solX g) sb (solD g) k).length (vals (mixX (solX g) sb (solD g) k)) rfl ?own ⟨wr.heap.size, 0, none⟩ 1 1 [.int .i64 (nth (solX g) k * sb * solD g)] rfl rfl ?news ?one (by decide) ?h63 ?hb ?base _ rfl ?_; (case own => exact Grows.alloc (show Grows wr.drew _ _ _ from HO.out) _); (case news => exact cell_one_new _ _ _); (case one => intro u hu; simp at hu; subst hu; rfl); (case h63 => rw [hlen]; unfold maxLen; omega); (case hb => rw [hlen]; omega); (case base => have := HV.out.size; simp; omega); intro gb cap w6 hown hgrow hat hlt6))
                  all_goals
                    have HN : Hid (Grows w6 WBG.heap.size (.slice (some ⟨gb, 0, none⟩) (k + 1) cap) (mixX (solX g) sb (solD g) (k + 1))) := by have e := Grows.snoc hown; rw [hlen] at e; show Grows _ _ _ _; rw [mixX_succ hlt]; exact e
                    have HV2 : Hid (Below WBG.heap.size WBG w6) := Grows.below (w := wr.drew) HO.out hgrow HV.out.drew (Nat.le_refl _) HV.out.size
                    clear hown hgrow hat hlt6
                    go_wp2_with fail
                    go_roundw
                  all_goals first | (simp [intOf]; omega) | exact ⟨k + 1, by omega, by go_num, HN, HV2⟩
                · obtain rfl : k = (solX g).length := by omega
                  clear mixlen
                  have mixlen : ∀ k, k ≤ (solY g).length → (mixY (solX g) (solY g) sa sb (solD g) k).length = (solX g).length + k := fun k hk => mixY_length hk
                  have L2 := HO
                  rw [← mixY_zero (solX g) (solY g) sa sb (solD g)] at L2
                  have L3 := HV
                  clear HO HV hV hzV hlt hk
                  go_wp2_with fail
                  clear d1 d2 d3 dl L0 L1
                  go_loopw [14, 16] (fun v i wr => ∃ k : Nat, k ≤ (solY g).length ∧ i = .int .i64 k ∧ Hid (Grows wr WBG.heap.size v (mixY (solX g) (solY g) sa sb (solD g) k)) ∧ Hid (Below WBG.heap.size WBG wr)) (fun _ i _ => (solY g).length - (intOf i).toNat)
                  case atStart => exact ⟨0, Nat.zero_le _, rfl, L2, L3⟩
                  case round =>
                    clear L2 L3
                    obtain ⟨k, hk, rfl, HO, HV⟩ := hrel
                    have hV := HV.out
                    have hzV := hV.size
                    have d1 := sBG1 _ hV
                    have d2 := sBG2 _ hV
                    have d3 := sBG3 _ hV
                    have dl : w5.heap.size < wr.heap.size := by have := BG.out.lt; omega
                    by_cases hlt : k < (solY g).length
                    · obtain ⟨bx, ox, hA, hbx, hcx⟩ := G2.out.at_ (i := 0) (by omega)
                      subst hA
                      have hck := (hV.cell (p := ⟨bx, ox + k, none⟩) hbx).trans (hcx k hlt)
                      have hw1 : IntKind.i64.wrap (nth (solY g) k * sa) = nth (solY g) k * sa := IntWalk.i64_in _ (by have := MB.out.ya k hlt; omega)
                      have hw2 : IntKind.i64.wrap (nth (solY g) k * sa * solD g) = nth (solY g) k * sa * solD g := IntWalk.i64_in _ (by have := MB.out.yad k hlt; omega)
                      have hx4 := HX4.out
                      have hy4 := HY4.out
                      clear hcx
                      have hlen := mixlen k hk
                      go_wp2_with fail
                      go_region_law (first | (refine step_append_lies _ rfl (.tmp 126) (.tmp 138) _ rfl WBG.heap.size 3 i0 (.int .i64 0) 1 8 Try.underlying31 HI0.out HZ0.out HZ1.out HZ2.out rfl (by decide) _ (mixY (solX g) (solY g) sa sb (solD g) k).length (vals (mixY (solX g) (solY g) sa sb (solD g) k)) rfl ?own ⟨wr.heap.size, 0, none⟩ 1 1 [.int .i64 (nth (solY g) k * sa * solD g)] rfl rfl ?news ?one (by decide) ?h63 ?hb ?base _ rfl ?_; (case own => exact Grows.alloc (show Grows wr.drew _ _ _ from HO.out) _); (case news => exact cell_one_new _ _ _); (case one => intro u hu; simp at hu; subst hu; rfl); (case h63 => rw [hlen]; unfold maxLen; omega); (case hb => rw [hlen]; omega); (case base => have := HV.out.size; simp; omega); intro gb cap w6 hown hgrow hat hlt6))
                      all_goals
                        have HN : Hid (Grows w6 WBG.heap.size (.slice (some ⟨gb, 0, none⟩) ((solX g).length + k + 1) cap) (mixY (solX g) (solY g) sa sb (solD g) (k + 1))) := by have e := Grows.snoc hown; rw [hlen] at e; show Grows _ _ _ _; rw [mixY_succ hlt]; exact e
                        have HV2 : Hid (Below WBG.heap.size WBG w6) := Grows.below (w := wr.drew) HO.out hgrow HV.out.drew (Nat.le_refl _) HV.out.size
                        clear hown hgrow hat hlt6
                        go_wp2_with fail
                        go_roundw
                      all_goals first | (simp [intOf]; omega) | exact ⟨k + 1, by omega, by go_num, HN, HV2⟩
                    · obtain rfl : k = (solY g).length := by omega
                      have hlen := mixlen _ hk
                      have hx4 := HX4.out
                      have hy4 := HY4.out
                      have d0 := sBG0 _ hV
                      have hw1 : IntKind.i64.wrap (sa * sb) = sa * sb := IntWalk.i64_in _ (by have := MB.out.ab; omega)
                      have hw2 : IntKind.i64.wrap (sa * sb * solU g) = sa * sb * solU g := IntWalk.i64_in _ (by have := MB.out.abu; omega)
                      clear hlt hk mixlen
                      go_wp2_with (at_builtin; refine wpList_append_own_at _ rfl (.tmp 140) (.tmp 148) _ rfl WBG.heap.size 3 i0 (.int .i64 0) 1 8 Try.underlying31 HI0.out HZ0.out HZ1.out HZ2.out rfl (by decide) _ _ _ rfl (HO.out.alloc _) ⟨wr.heap.size, 0, none⟩ 1 1 [.int .i64 (sa * sb * solU g)] rfl rfl (cell_one_new _ _ _) ?c2 ?c3 ?c4 ?c5 ?_)
                      case c2 => first | rfl | (intro u hu; simp at hu; subst hu; rfl)
                      case c3 => rw [hlen]; unfold maxLen; omega
                      case c4 => rw [hlen]; omega
                      case c5 => first | omega | (simp; omega)
                      intro v' w6 hown hgrow _ _
                      have HN : Hid (Grows w6 WBG.heap.size v' (mixF (solX g) (solY g) sa sb (solU g) (solD g))) := by rw [← mixY_all]; exact Grows.snoc (by rw [hlen]; exact hown)
                      have hbV : Below WBG.heap.size WBG w6 := HO.out.below hgrow HV.out (Nat.le_refl _) hzV
                      have HML : Hid ((mixF (solX g) (solY g) sa sb (solU g) (solD g)).length ≤ 4294967296) := by show _ ≤ _; rw [mixF_length]; omega
                      clear hown hgrow hV HV HO hzV d0 d1 d2 d3 dl hlen hx4 hy4 hw1 hw2 sBG0 sBG1 sBG2 sBG3
                      obtain ⟨A9, c9, hv, _, ho9⟩ := HN.out.own
                      subst hv
                      have TW := Lib.hid (own_lt ho9)
                      clear ho9 HN
                      clear G1
                      clear G2
                      clear BG
                      replace R0 := Lib.hid (stillRows R0.out hbV)
                      replace X0 := Lib.hid (stillRows X0.out hbV)
                      replace BEL0 := Lib.hid (belT BEL0.out hbV)
                      clear hbV
                      go_wp2_with fail
                      refine (safe_impl _ _ _ _ (frmG g) (mixF (solX g) (solY g) sa sb (solU g) (solD g)) hxl HML.out _ X0.out TW.out).mono ?_
                      rintro e w8 ⟨rfl, hb8⟩
                      replace R0 := Lib.hid (stillRows R0.out hb8)
                      replace X0 := Lib.hid (stillRows X0.out hb8)
                      replace TW := Lib.hid (stillInts TW.out hb8)
                      replace BEL0 := Lib.hid (belT BEL0.out hb8)
                      clear hb8
                      try unfold FracRes
                      rcases hsf : safB (frmG g) (mixF (solX g) (solY g) sa sb (solU g) (solD g)) with _ | _
                      clear TW
                      · skip
                        have HU : Hid (safU (frmG g) (mixF (solX g) (solY g) sa sb (solU g) (solD g)) = 0) := by simp [Hid, safU, hsf]
                        have HD : Hid (safD (frmG g) (mixF (solX g) (solY g) sa sb (solU g) (solD g)) = 0) := by simp [Hid, safD, hsf]
                        rw [HU.out, HD.out]
                        clear HU HD hsf
                        go_wp2_with fail
                        obtain ⟨WFS, hWFS⟩ : ∃ WFS : World, WFS = w8.alloc (.cells #[.int .i64 0, .int .i64 0] 28) := ⟨_, rfl⟩
                        have hbWFS : Below w8.heap.size w8 WFS := by rw [hWFS]; exact (Below.refl _ _).alloc (Nat.le_refl _) _
                        have FS : Hid (Box2 WFS w8.heap.size 0 0) := by show Box2 _ _ _ _; rw [hWFS]; exact Box2.new _ _ _
                        rw [← hWFS]
                        clear hWFS
                        replace R0 := Lib.hid (stillRows R0.out hbWFS)
                        replace X0 := Lib.hid (stillRows X0.out hbWFS)
                        replace BEL0 := Lib.hid (belT BEL0.out hbWFS)
                        clear hbWFS
                        have cFS0 := FS.out.c0
                        have cFS1 := FS.out.c1
                        have lFS := FS.out.lt
                        go_wp2_with fail
                        clear cFS0 cFS1
                        clear lFS
                        clear FS
                        go_wp2_with fail
                        refine (I.fair _ _ (frmG g) hxl _ X0.out).mono ?_
                        rintro e w9 ⟨rfl, hb9⟩
                        replace R0 := Lib.hid (stillRows R0.out hb9)
                        replace X0 := Lib.hid (stillRows X0.out hb9)
                        replace BEL0 := Lib.hid (belT BEL0.out hb9)
                        clear hb9
                        rw [HFB.out]
                        obtain ⟨bx, ox, hB, _, hcx⟩ := R0.out.at_ (i := 0) hg1
                        injection hB with hB
                        injection hB with hB1 hB2
                        subst hB1 hB2
                        obtain ⟨A1, c1, hc1, _, _, _⟩ := hcx 0 hg1
                        rw [Nat.add_zero, HN0.out] at hc1
                        have hgl17 : g.length ≤ 17 := hg17
                        have hw1 : IntKind.i64.wrap ((g.length : Int) + (n : Int)) = (g.length : Int) + (n : Int) := IntWalk.i64_in _ ⟨by omega, by omega⟩
                        have hw2 : IntKind.i64.wrap ((g.length : Int) + (n : Int) + 1) = (g.length : Int) + (n : Int) + 1 := IntWalk.i64_in _ ⟨by omega, by omega⟩
                        have hfl : (((frmG g).length : Int) == (g.length : Int) + (n : Int) + 1) = true := by rw [beq_iff_eq, HFL.out]; omega
                        clear hcx
                        go_wp2_with fail
                        go_ret
                        exact ⟨by first | rfl | (simp; done), BEL0.out⟩
                      · skip
                        rw [(HMS.out hsf).1, (HMS.out hsf).2]
                        clear hsf
                        go_wp2_with fail
                        obtain ⟨WFS, hWFS⟩ : ∃ WFS : World, WFS = w8.alloc (.cells #[.int .i64 0, .int .i64 1] 28) := ⟨_, rfl⟩
                        have hbWFS : Below w8.heap.size w8 WFS := by rw [hWFS]; exact (Below.refl _ _).alloc (Nat.le_refl _) _
                        have FS : Hid (Box2 WFS w8.heap.size 0 1) := by show Box2 _ _ _ _; rw [hWFS]; exact Box2.new _ _ _
                        rw [← hWFS]
                        clear hWFS
                        replace R0 := Lib.hid (stillRows R0.out hbWFS)
                        replace X0 := Lib.hid (stillRows X0.out hbWFS)
                        replace BEL0 := Lib.hid (belT BEL0.out hbWFS)
                        clear hbWFS
                        have cFS0 := FS.out.c0
                        have cFS1 := FS.out.c1
                        have lFS := FS.out.lt
                        go_wp2_with fail
                        clear cFS0 cFS1
                        clear lFS
                        clear FS
                        go_wp2_with fail
                        refine (I.fair _ _ (frmG g) hxl _ X0.out).mono ?_
                        rintro e w9 ⟨rfl, hb9⟩
                        replace R0 := Lib.hid (stillRows R0.out hb9)
                        replace X0 := Lib.hid (stillRows X0.out hb9)
                        replace BEL0 := Lib.hid (belT BEL0.out hb9)
                        clear hb9
                        rw [HFB.out]
                        obtain ⟨bx, ox, hB, _, hcx⟩ := R0.out.at_ (i := 0) hg1
                        injection hB with hB
                        injection hB with hB1 hB2
                        subst hB1 hB2
                        obtain ⟨A1, c1, hc1, _, _, _⟩ := hcx 0 hg1
                        rw [Nat.add_zero, HN0.out] at hc1
                        have hgl17 : g.length ≤ 17 := hg17
                        have hw1 : IntKind.i64.wrap ((g.length : Int) + (n : Int)) = (g.length : Int) + (n : Int) := IntWalk.i64_in _ ⟨by omega, by omega⟩
                        have hw2 : IntKind.i64.wrap ((g.length : Int) + (n : Int) + 1) = (g.length : Int) + (n : Int) + 1 := IntWalk.i64_in _ ⟨by omega, by omega⟩
                        have hfl : (((frmG g).length : Int) == (g.length : Int) + (n : Int) + 1) = true := by rw [beq_iff_eq, HFL.out]; omega
                        clear hcx
                        go_wp2_with fail
                        go_ret
                        exact ⟨by first | rfl | (simp; done), BEL0.out⟩

end Go.Proofs.Ytanfefgigepdcaa
