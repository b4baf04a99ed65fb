/- The walk of the law of FloorOf. -/
import Derived.Test.YtaphlhdkdokopaaLawT
namespace Go.Proofs.Ytaphlhdkdokopaa
set_option linter.unusedSimpArgs false
set_option linter.unusedVariables false
open Go.RowKit

set_option maxHeartbeats 4000000 in
set_option maxRecDepth 100000 in
theorem wFnFloorOf (a : Option Addr) (len cap : Nat) (zs : List Int) (w : World) (h : IsRow .u8 w a len cap zs) :
    Calls Try.prog 4 #[.slice a len cap] w fun e w' => e = .returned (.bool true) ∧ Below w.heap.size w w' := by
  have hle := byte_len h
  by_cases hbig : (1048576 : Int) < (len : Int)
  · go_enter Try.func4, Try.ntmps4
    go_wp2_with fail
    go_ret
    exact ⟨rfl, Below.refl _ _⟩
  go_enter Try.func4, Try.ntmps4
  go_wp2_with fail
  refine (dDrawFloorOf a len cap zs w h).mono ?_
  rintro e w1 ⟨g, T, c, rfl, hc1, hc2, hg17, hgr, B1, ho1⟩
  clear hbig hle
  have hl := small_max hg17
  have HL := Lib.hid hl
  have O1 := Lib.hid ho1.lt
  have z1 : (floV g != floV g) = false := by simp
  have z2 : (floA g != floA g) = false := by simp
  have z3 : (gameB g != gameB g) = false := by simp
  clear ho1 hl hgr hc2
  go_wp2_with fail
  refine (floor_impl _ _ g HL.out _ O1.out).mono ?_
  rintro e w2 ⟨rfl, b2⟩
  have G2 := Lib.hid (keepRows b2 O1.out)
  have B2 := belT B1 b2
  have s2 := b2.size
  go_wp2_with fail
  refine (floor_spec _ _ g _ HL.out _ G2.out).mono ?_
  rintro e w3 ⟨rfl, n3, rfl⟩
  rcases hb : gameB g with _ | _
  · have H1 : Hid (floV g = 0) := by simp [Hid, floV, hb]
    have H2 : Hid (floA g = -1) := by simp [Hid, floA, hb]
    rw [hb] at z3
    rw [H1.out] at z1
    rw [H2.out] at z2
    rw [H1.out, H2.out]
    clear hb
    go_wp2_with fail
    refine (alive _).mono ?_
    rintro e w5 ⟨rfl, hb5⟩
    go_wp2_with fail
    go_ret
    exact ⟨rfl, belT (below_drewN B2 n3) hb5⟩
  · have hg := Game.of hb
    have hg1 := hg.lo
    have hg2 := hg.hi
    have hg3 := hg.mlo
    have hg4 := hg.mhi
    have hfr := floor_le_roof hb
    have HG := Lib.hid hg
    have HB := Lib.hid hb
    obtain ⟨i1, hi1, hat, hfl⟩ := floor_at hb
    have HAT := Lib.hid hat
    have HFL := Lib.hid hfl
    obtain ⟨bg, og, rfl⟩ := O1.out.some (by omega)
    rw [hb] at z3
    clear hb hg hat hfl
    go_wp2_with fail
    refine (roof_impl _ _ g HL.out _ ((G2.out.lt s2).drewN n3)).mono ?_
    rintro e w4 ⟨rfl, b4⟩
    rw [HB.out]
    have G4 := Lib.hid (keepRows (b4.mono s2) (G2.out.drewN n3))
    have B4 := belT (below_drewN B2 n3) b4
    have hz : decide (rooV g < floV g) = false := decide_eq_false (by omega)
    clear z1 z2 z3
    go_wp2_with fail
    go_loop [13] (fun i => ∃ k : Nat, k ≤ g.length ∧ i = .int .i64 k) (fun i => g.length - (intOf i).toNat)
    case atStart => exact ⟨0, Nat.zero_le _, rfl⟩
    case round =>
      obtain ⟨k, hk, rfl⟩ := hrel
      by_cases hlt : k < g.length
      · have HLK := Lib.hid (HG.out.len k hlt)
        have hle1 : 1 ≤ (rowAt g k).length := by rw [HLK.out]; exact hg3
        have hle2 : (rowAt g k).length ≤ 16 := by rw [HLK.out]; exact hg4
        obtain ⟨bm, om, cm, hc1, hc2, hc3, hc4, hc5⟩ := G4.out.cell hlt (j := 0) (by omega)
        rw [Nat.add_zero] at hc5
        unfold maxLen at hc3
        have HLOW := Lib.hid (nth_lows g k hlt)
        have hlow := low_le_floor HB.out k hlt
        go_wp2_with fail
        go_loop [14, 15] (fun v j => ∃ m : Nat, m ≤ (rowAt g k).length ∧ j = .int .i64 m ∧ v = .int .i64 (lowN (rowAt g k) m)) (fun _ j => (rowAt g k).length - (intOf j).toNat)
        case atStart => exact ⟨0, Nat.zero_le _, rfl, rfl⟩
        case round =>
          obtain ⟨m, hm, rfl, rfl⟩ := hrel
          by_cases hlm : m < (rowAt g k).length
          · obtain ⟨bm', om', cm', hd1, hd2, hd3, hd4, hd5⟩ := G4.out.cell hlt hlm
            unfold maxLen at hd3
            clear hc1 hc5
            go_wp2_with fail
            all_goals
              go_round
              case rel => exact ⟨m + 1, by omega, by go_num, by simp only [lowN]; congr 1; omega⟩
              case measure => simp [intOf]; omega
          · obtain rfl : m = (rowAt g k).length := by omega
            rw [← HLOW.out]
            have y1 : ¬ floV g < nth (lows g) k := by omega
            by_cases e : k = i1
            · have y2 : ((k : Int) == floA g) = true := by rw [HAT.out, e]; simp
              have y3 : (nth (lows g) k != floV g) = false := by rw [HFL.out, e]; simp
              have E := Lib.hid e
              clear e
              go_wp2_with fail
              go_round
              case rel => exact ⟨k + 1, by omega, by go_num⟩
              case measure => simp [intOf]; omega
            · have y2 : ((k : Int) == floA g) = false := by rw [HAT.out]; simp; omega
              go_wp2_with fail
              go_round
              case rel => exact ⟨k + 1, by omega, by go_num⟩
              case measure => simp [intOf]; omega
      · obtain rfl : k = g.length := by omega
        go_wp2_with fail
        go_ret
        exact ⟨by simp; try omega, B4⟩

end Go.Proofs.Ytaphlhdkdokopaa
