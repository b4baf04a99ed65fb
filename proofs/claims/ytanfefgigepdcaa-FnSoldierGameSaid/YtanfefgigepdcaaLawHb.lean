/- The walk of the law of SoldierGame, over contracts of the program's functions. (Written by wip/gen/law10.py.) -/
import Derived.Test.YtanfefgigepdcaaLawHa
import Derived.Test.YtanfefgigepdcaaMC
namespace Go.Proofs.Ytanfefgigepdcaa
set_option linter.unusedSimpArgs false
set_option linter.unusedVariables false
open Go.RowKit

theorem sold_facts {x y : Int} (h : plaB x y = true) : fairB (sdrG x y) = true ∧ floV (sdrG x y) ≤ 0 ∧ 0 ≤ rooV (sdrG x y) ∧ (y ≠ 3 → ∀ i j, i < (sdrG x y).length → j < (sdrG x y).length → nth (rowAt (sdrG x y) i) j = 0) := by
  obtain ⟨s, f, rfl, rfl, h1, h2, h3, h4⟩ := pla_nat h
  have hr := List.all_eq_true.1 (List.all_eq_true.1 sold_Q (s - 1) (by simp; omega)) (f - 1) (by simp; omega)
  rw [show s - 1 + 1 = s by omega, show f - 1 + 1 = f by omega] at hr
  unfold lookQ at hr
  rw [show sdrG (s : Int) (f : Int) = sdrT s f by unfold sdrG; rw [if_pos h]; rfl]
  simp only [Bool.and_eq_true, Bool.or_eq_true, decide_eq_true_eq, beq_iff_eq, List.all_eq_true, List.mem_range] at hr
  refine ⟨hr.1, hr.2.1, hr.2.2.1, fun h3 i j hi hj => ?_⟩
  rcases hr.2.2.2 with e | e
  · exact absurd (by omega) h3
  · exact e i hi j hj

set_option maxHeartbeats 4000000 in
set_option maxRecDepth 100000 in
theorem wFnSoldierGame (I : Impl10) (a : Option Addr) (len cap : Nat) (zs : List Int) (w : World) (h : IsRow .u8 w a len cap zs) :
    Calls Try.prog 5 #[.slice a len cap] w fun e w' => e = .returned (.bool true) ∧ Below w.heap.size w w' := by
  have hle := byte_len h
  by_cases hbig : (1048576 : Int) < (len : Int)
  · go_enter Try.func5, Try.ntmps5
    go_wp2_with fail
    go_ret
    exact ⟨rfl, Below.refl _ _⟩
  go_enter Try.func5, Try.ntmps5
  go_wp2_with fail
  refine (dDrawSoldierGame a len cap zs w h).mono ?_
  rintro e w1 ⟨x, y, rfl, ⟨p1, p2, p3, p4⟩, hb1⟩
  clear hbig hle
  have BEL0 := Lib.hid hb1
  have f1 := wf_fair (z := x) p1 (by omega)
  have f2 := wf_fair (z := y) p3 (by omega)
  have hgl : (sdrG x y).length ≤ maxLen := small_max (by have := (sdrG_len x y).1; omega)
  clear hb1
  go_wp2_with fail
  refine (I.sold x y f1 f2 _).mono ?_
  rintro e w2 ⟨TX0, cX0, rfl, hb2, ho2⟩
  have X0 := Lib.hid ho2.lt
  replace BEL0 := Lib.hid (belT BEL0.out hb2)
  clear hb2 ho2
  go_wp2_with fail
  refine (soldierGame_spec x y _).mono ?_
  rintro e w3 ⟨TY0, cY0, rfl, hb3, ho3⟩
  have Y0 := Lib.hid ho3.lt
  replace X0 := Lib.hid (stillRows X0.out hb3)
  replace BEL0 := Lib.hid (belT BEL0.out hb3)
  clear hb3 ho3
  go_wp2_with fail
  refine (sameRows _ _ _ _ (sdrG x y) _ _ hgl _ X0.out Y0.out).mono ?_
  rintro e w4 ⟨rfl, hq4⟩
  have hb4 : Below w3.heap.size w3 w4 := by obtain ⟨n, rfl⟩ := hq4; exact below_drewN (Below.refl _ _) n
  replace X0 := Lib.hid (stillRows X0.out hb4)
  replace Y0 := Lib.hid (stillRows Y0.out hb4)
  replace BEL0 := Lib.hid (belT BEL0.out hb4)
  clear hq4 hb4
  clear Y0
  rcases hb : plaB x y with _ | _
  · skip
    have HN := Lib.hid (pla_no hb)
    have zz : (((sdrG x y).length : Int) == 0) = true := by rw [HN.out.2]; rfl
    have zp : (((plaG x y).length : Int) == 0) = true := by rw [HN.out.1]; rfl
    clear hb HN
    go_wp2_with fail
    refine (I.place x y f1 f2 _).mono ?_
    rintro e w5 ⟨TP0, cP0, rfl, hb5, ho5⟩
    have P0 := Lib.hid ho5.lt
    replace X0 := Lib.hid (stillRows X0.out hb5)
    replace BEL0 := Lib.hid (belT BEL0.out hb5)
    clear hb5 ho5
    go_wp2_with fail
    refine (alive _).mono ?_
    rintro e w9 ⟨rfl, hb9⟩
    have hb8 := Lib.hid (belT (w := w5) (by exact (by repeat (first | exact Below.refl _ _ | assumption | exact bel1 (by assumption) | exact bel2 (by assumption) | exact bel3 (by assumption) | exact bel4 (by assumption) | refine Below.drew ?_ | refine below_drewN ?_ _ | refine Below.setCell ?_ (by first | (simp; done) | (simp; omega)) _ | refine Below.alloc ?_ (by first | (simp; done) | (simp; omega)) _))) hb9)
    clear hb9
    go_wp2_with fail
    go_ret
    exact ⟨by first | rfl | (simp; done) | (simp; omega), belT BEL0.out hb8.out⟩
  have HF := Lib.hid (sold_facts hb)
  obtain ⟨g, hg⟩ : ∃ g, (sdrG x y) = g := ⟨_, rfl⟩
  rw [hg] at X0 HF hgl ⊢
  clear hg hb
  have HG := Lib.hid (fairB_iff.1 HF.out.1)
  have HGM := Lib.hid (Game.of HG.out.game)
  have hg1 := HGM.out.lo
  have hg16 := HGM.out.hi
  have zz : ((g.length : Int) == 0) = false := by rw [beq_eq_false_iff_ne]; omega
  have HRO : Hid (∀ i, i < g.length → (rowAt g i).length = g.length) := fun i hi => by rw [HGM.out.len i hi, ← HG.out.sq]
  obtain ⟨bg, og, hB, _, hcg⟩ := X0.out.at_ (i := 0) hg1
  subst hB
  have HCG := Lib.hid hcg
  clear hcg
  go_wp2_with fail
  go_loop [6, 7] (fun v i => ∃ (k : Nat) (b : Bool), k ≤ g.length ∧ i = .int .i64 k ∧ v = .bool b ∧ Hid (y ≠ 3 → b = true)) (fun _ i => g.length - (intOf i).toNat)
  case atStart => exact ⟨0, true, Nat.zero_le _, rfl, rfl, fun _ => rfl⟩
  case round =>
    obtain ⟨i, b, hi, rfl, rfl, HB⟩ := hrel
    by_cases hil : i < g.length
    · go_wp2_with fail
      go_loop [6, 8] (fun v i => ∃ (k : Nat) (b : Bool), k ≤ g.length ∧ i = .int .i64 k ∧ v = .bool b ∧ Hid (y ≠ 3 → b = true)) (fun _ i => g.length - (intOf i).toNat)
      case atStart => exact ⟨0, b, Nat.zero_le _, rfl, rfl, HB⟩
      case round =>
        clear HB
        obtain ⟨j, b, hj, rfl, rfl, HB⟩ := hrel
        by_cases hjl : j < g.length
        · have hlr := HRO.out i hil
          have hjr2 : j < (rowAt g i).length := by omega
          have q1 : (0 : Int) ≤ (i : Int) := by omega
          have q2 : (0 : Int) ≤ (j : Int) := by omega
          have hil2 : (i : Int) < (g.length : Int) := by omega
          have hjl2 : (j : Int) < (g.length : Int) := by omega
          obtain ⟨A2, c2, hrow, _, _, hI⟩ := HCG.out i hil
          obtain ⟨b2, o2, hA2, _, hc2⟩ := hI.at_ (i := j) hjr2
          subst hA2
          have hcj := hc2 j hjr2
          rw [hlr] at hrow
          have HZ : Hid (y ≠ 3 → nth (rowAt g i) j = 0) := fun h3 => HF.out.2.2.2 h3 i j hil hjl
          clear hc2 hI hlr
          rcases b with _ | _
          · go_wp2_with fail
            go_round
            case rel => exact ⟨j + 1, false, by omega, by go_num, rfl, HB⟩
            case measure => simp [intOf]; omega
          · by_cases hz : nth (rowAt g i) j = 0
            · have he : (nth (rowAt g i) j == 0) = true := beq_iff_eq.2 hz
              clear hz
              go_wp2_with fail
              go_round
              case rel => exact ⟨j + 1, true, by omega, by go_num, rfl, HB⟩
              case measure => simp [intOf]; omega
            · have he : (nth (rowAt g i) j == 0) = false := beq_eq_false_iff_ne.2 hz
              have HQ : Hid (y ≠ 3 → false = true) := fun h3 => absurd (HZ.out h3) hz
              clear hz
              go_wp2_with fail
              go_round
              case rel => exact ⟨j + 1, false, by omega, by go_num, rfl, HQ⟩
              case measure => simp [intOf]; omega
        · obtain rfl : j = g.length := by omega
          go_wp2_with fail
          go_round
          case rel => exact ⟨i + 1, b, by omega, by go_num, rfl, HB⟩
          case measure => simp [intOf]; omega
    · obtain rfl : i = g.length := by omega
      clear HCG
      go_wp2_with fail
      refine (floor_impl _ _ g hgl _ X0.out).mono ?_
      rintro e w5 ⟨rfl, hb5⟩
      replace X0 := Lib.hid (stillRows X0.out hb5)
      replace BEL0 := Lib.hid (belT BEL0.out hb5)
      clear hb5
      rw [HG.out.game]
      go_wp2_with fail
      refine (roof_impl _ _ g hgl _ X0.out).mono ?_
      rintro e w6 ⟨rfl, hb6⟩
      replace X0 := Lib.hid (stillRows X0.out hb6)
      replace BEL0 := Lib.hid (belT BEL0.out hb6)
      clear hb6
      rw [HG.out.game]
      go_wp2_with fail
      refine (I.fair _ _ g hgl _ X0.out).mono ?_
      rintro e w7 ⟨rfl, hb7⟩
      replace X0 := Lib.hid (stillRows X0.out hb7)
      replace BEL0 := Lib.hid (belT BEL0.out hb7)
      clear hb7
      rw [HF.out.1]
      have d1 : decide (floV g ≤ 0) = true := decide_eq_true HF.out.2.1
      have d2 : decide (0 ≤ rooV g) = true := decide_eq_true HF.out.2.2.1
      by_cases h3 : y = 3
      · have e3 : (y == 3) = true := beq_iff_eq.2 h3
        clear h3
        go_wp2_with fail
        go_ret
        exact ⟨by first | rfl | (simp; done), BEL0.out⟩
      · have e3 : (y == 3) = false := beq_eq_false_iff_ne.2 h3
        obtain rfl := HB.out h3
        clear h3
        go_wp2_with fail
        go_ret
        exact ⟨by first | rfl | (simp; done), BEL0.out⟩

end Go.Proofs.Ytanfefgigepdcaa
