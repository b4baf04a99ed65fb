/- The walk of the law of SaddlesOf. -/
import Derived.Test.YtaphlhdkdokopaaLawT
namespace Go.Proofs.Ytaphlhdkdokopaa
set_option linter.unusedSimpArgs false
set_option linter.unusedVariables false
open Go.RowKit

set_option maxHeartbeats 4000000 in
set_option maxRecDepth 100000 in
theorem wFnSaddlesOf (a : Option Addr) (len cap : Nat) (zs : List Int) (w : World) (h : IsRow .u8 w a len cap zs) :
    Calls Try.prog 6 #[.slice a len cap] w fun e w' => e = .returned (.bool true) ∧ Below w.heap.size w w' := by
  have hle := byte_len h
  by_cases hbig : (1048576 : Int) < (len : Int)
  · go_enter Try.func6, Try.ntmps6
    go_wp2_with fail
    go_ret
    exact ⟨rfl, Below.refl _ _⟩
  go_enter Try.func6, Try.ntmps6
  go_wp2_with fail
  refine (dDrawSaddlesOf a len cap zs w h).mono ?_
  rintro e w1 ⟨g, T, c, rfl, hc1, hc2, hg17, hgr, B1, ho1⟩
  clear hbig hle
  have hl := small_max hg17
  have HL := Lib.hid hl
  have O1 := Lib.hid ho1.lt
  have hsl := saddles_len g
  have HSL : Hid ((saddles g).length ≤ maxLen) := by show _ ≤ _; unfold maxLen; omega
  clear ho1 hl hgr hc2
  go_wp2_with fail
  refine (saddles_impl _ _ g HL.out _ O1.out).mono ?_
  rintro e w2 ⟨X, cx, rfl, b2, o2⟩
  have X2 := Lib.hid o2.lt
  have G2 := Lib.hid (keepRows b2 O1.out)
  have B2 := belT B1 b2
  have s2 := b2.size
  clear o2
  go_wp2_with fail
  refine (saddles_spec _ _ g HL.out _ (G2.out.lt s2)).mono ?_
  rintro e w3 ⟨Y, cy, rfl, b3, o3⟩
  have Y3 := Lib.hid o3.lt
  have X3 := Lib.hid (keepInts b3 X2.out)
  have G3 := Lib.hid (keepRows (b3.mono s2) G2.out)
  have B3 := belT B2 b3
  have s3 := b3.size
  clear o3
  go_wp2_with fail
  refine (sameInts _ _ _ _ (saddles g) _ _ HSL.out _ X3.out Y3.out).mono ?_
  rintro e w4 ⟨rfl, n4, rfl⟩
  go_wp2_with fail
  refine (floor_impl _ _ g HL.out _ ((G3.out.lt (Nat.le_trans s2 s3)).drewN n4)).mono ?_
  rintro e w5 ⟨rfl, b5⟩
  have G5 := Lib.hid (keepRows (b5.mono (Nat.le_trans s2 s3)) (G3.out.drewN n4))
  have X5 := Lib.hid (keepInts (b5.mono s3) (X3.out.drewN n4))
  have B5 := belT (below_drewN B3 n4) b5
  have s5 : w3.heap.size ≤ w5.heap.size := b5.size
  go_wp2_with fail
  refine (roof_impl _ _ g HL.out _ (G5.out.lt (Nat.le_trans (Nat.le_trans s2 s3) s5))).mono ?_
  rintro e w6 ⟨rfl, b6⟩
  have G6 := Lib.hid (keepRows (b6.mono (Nat.le_trans (Nat.le_trans s2 s3) s5)) G5.out)
  have X6 := Lib.hid (keepInts (b6.mono (Nat.le_trans s3 s5)) X5.out)
  have B6 := belT B5 b6
  rcases hb : gameB g with _ | _
  · have H1 : Hid ((saddles g).length = 0) := by simp [Hid, saddles, hb]
    have z : (((saddles g).length : Int) == 0) = true := by rw [H1.out]; rfl
    clear hb
    go_wp2_with fail
    refine (alive _).mono ?_
    rintro e w7 ⟨rfl, hb7⟩
    go_wp2_with fail
    go_ret
    exact ⟨rfl, belT B6 hb7⟩
  have hg := Game.of hb
  have hg1 := hg.lo
  have hg2 := hg.hi
  have hg3 := hg.mlo
  have hg4 := hg.mhi
  have HG := Lib.hid hg
  have HB := Lib.hid hb
  have hiff := saddles_iff hb
  obtain ⟨bg, og, rfl⟩ := O1.out.some (by omega)
  obtain ⟨hS, A0, c0, hc0, hl0, hm0, _⟩ := G6.out.row (i := 0) (by omega)
  rw [Nat.add_zero] at hc0
  unfold maxLen at hm0
  have HIFF := Lib.hid hiff
  clear hb hg hiff
  go_wp2_with fail
  go_loopw [11] (fun i wr => ∃ k : Nat, k ≤ (saddles g).length ∧ i = .int .i64 k ∧ ∃ n, wr = w6.drewN n) (fun i _ => (saddles g).length - (intOf i).toNat)
  case atStart => exact ⟨0, Nat.zero_le _, rfl, (by first | exact ⟨0, rfl⟩ | exact ⟨_, rfl⟩ | exact ⟨_, World.drewN_drewN _ _ _⟩ | (simp only [World.drewN_drewN]; exact ⟨_, rfl⟩))⟩
  case round =>
    obtain ⟨k, hk, rfl, n, rfl⟩ := hrel
    by_cases hlt : k < (saddles g).length
    · obtain ⟨bx, ox, rfl, hSx, hcx⟩ := X6.out.at_ hlt
      have hck := hcx k hlt
      obtain ⟨i, j, hi, hj, hx, hv⟩ := saddle_place HB.out hlt
      obtain ⟨d1, d2, d3, d4⟩ := place_div hj hx
      obtain ⟨bm, om, cm, hd1, hd2, hd3, hd4, hd5⟩ := G6.out.cell hi (j := j) (by rw [HG.out.len i hi]; exact hj)
      have hlj : j < (rowAt g i).length := by rw [HG.out.len i hi]; exact hj
      rw [hv] at hd5
      unfold maxLen at hd3
      have z1 : (floV g != floV g) = false := by simp
      have z2 : (((rowAt g 0).length : Int) == 0) = false := by simp; intro e; rw [e] at hg3; simp at hg3
      have hr0 : 0 ≤ nth (saddles g) k := by rw [hx]; exact Int.add_nonneg (Int.mul_nonneg (by omega) (by omega)) (by omega)
      have q1 : IntKind.i64.wrap (i : Int) = (i : Int) := IntWalk.i64_in _ (by omega)
      have q2 : IntKind.i64.wrap (j : Int) = (j : Int) := IntWalk.i64_in _ (by omega)
      have q3 : (i : Int) < (g.length : Int) := by omega
      have q4 : (j : Int) < ((rowAt g i).length : Int) := by omega
      have q5 : (0 : Int) < (g.length : Int) := by omega
      have q6 : (0 : Int) ≤ (i : Int) := by omega
      have q7 : (0 : Int) ≤ (j : Int) := by omega
      have q8 : 0 < g.length := by omega
      clear hcx hx hv
      go_wp2_with fail
      go_quiet (fail)
      clear q1 q2 d1 d2 d3 d4
      go_wp2_with fail
      go_roundw
      case rel => exact ⟨k + 1, by omega, by go_num, (by first | exact ⟨0, rfl⟩ | exact ⟨_, rfl⟩ | exact ⟨_, World.drewN_drewN _ _ _⟩ | (simp only [World.drewN_drewN]; exact ⟨_, rfl⟩))⟩
      case measure => simp [intOf]; omega
    · obtain rfl : k = (saddles g).length := by omega
      have hso := sorted_saddles g
      by_cases h0 : 0 < (saddles g).length
      · have y1 : (0 : Int) < ((saddles g).length : Int) := by omega
        have y2 : (floV g == rooV g) = true := by rw [HIFF.out.1 h0]; simp
        have HSO := Lib.hid hso
        clear hso
        go_wp2_with fail
        refine (ascend _ _ (saddles g) _ (by omega) HSO.out _ (X6.out.drewN n)).mono ?_
        rintro e w7 ⟨rfl, n7, rfl⟩
        go_wp2_with fail
        go_ret
        exact ⟨rfl, below_drewN B6 _⟩
      · have y1 : decide ((0 : Int) < ((saddles g).length : Int)) = false := decide_eq_false (by omega)
        have y3 : ¬ (0 : Int) < ((saddles g).length : Int) := by omega
        have y2 : (floV g == rooV g) = false := by
          rw [beq_eq_false_iff_ne]; exact fun e => h0 (HIFF.out.2 e)
        have HSO := Lib.hid hso
        clear hso
        go_wp2_with fail
        refine (ascend _ _ (saddles g) _ (by omega) HSO.out _ (X6.out.drewN n)).mono ?_
        rintro e w7 ⟨rfl, n7, rfl⟩
        go_wp2_with fail
        go_ret
        exact ⟨rfl, below_drewN B6 _⟩

end Go.Proofs.Ytaphlhdkdokopaa
