/- The walks of the exact laws of BoxGame, BoxWeights and WithBox. (Written by wip/gen/ex6.py.) -/
import Derived.Test.YtjmmkbhdldeciaaMU
import Derived.Test.YtjmmkbhdldeciaaMG
namespace Go.Proofs.Ytjmmkbhdldeciaa
set_option linter.unusedSimpArgs false
set_option linter.unusedVariables false
open Go.RowKit

set_option maxHeartbeats 4000000 in
set_option maxRecDepth 100000 in
theorem wFnExactBoxGame (I : Impl6) (A0 : Option Addr) (c0 : Nat) (x0 : List Int) (l0 : x0.length ≤ maxLen) (w : World) (r0 : Ints w (· < w.heap.size) A0 x0) :
    Calls Try.prog 9 #[.slice A0 x0.length c0] w (Adds (.bool true) w) := by
  have R0 := Lib.hid r0
  clear r0
  have le_w : w.heap.size ≤ w.heap.size := Nat.le_refl _
  have hsl := (boxG_len x0).1
  have hsu : sumN (boxG x0) (boxG x0).length ≤ 16 * (boxG x0).length := sumN_le _ 16 _ (boxG_len x0).2
  have HSL : Hid ((boxG x0).length ≤ maxLen) := by show _ ≤ _; unfold maxLen; omega
  have m0 := l0
  unfold maxLen at m0
  by_cases big0 : (1048576 : Int) < (x0.length : Int)
  · go_enter Try.func9, Try.ntmps9
    go_wp2_with fail
    go_ret
    exact Adds.of rfl (Below.refl _ _)
  have s0 : x0.length ≤ 1048576 := by omega
  go_enter Try.func9, Try.ntmps9
  go_wp2_with fail
  refine (toIntS A0 c0 x0 (by omega) _ (Lib.hid (R0.out.lt le_w)).out).mono ?_
  rintro e w1 ⟨⟨rfl, hb1, hs1, hr1⟩, hz1⟩
  clear hz1
  have S0 : Hid (OwnI w1 w.heap.size w1.heap.size (some ⟨w.heap.size, 0, none⟩) x0) := own_row hs1 hr1
  replace R0 := Lib.hid (keepInts (hb1.mono le_w) R0.out)
  replace le_w := Nat.le_trans le_w hb1.size
  have BEL0 := Lib.hid hb1
  have o_w_w1 : w.heap.size ≤ w1.heap.size := le_w
  have le_w1 : w1.heap.size ≤ w1.heap.size := Nat.le_refl _
  clear hb1 hs1 hr1
  go_wp2_with fail
  refine (boxGame_spec _ _ x0 l0 _ (S0.out.lt.lt le_w1)).mono ?_
  rintro e w2 ⟨TV, cV, rfl, hb2, ho2⟩
  have V := Lib.hid ho2.lt
  replace S0 := Lib.hid (S0.out.below (hb2.mono le_w1))
  replace R0 := Lib.hid (keepInts (hb2.mono le_w) R0.out)
  replace le_w := Nat.le_trans le_w hb2.size
  replace le_w1 := Nat.le_trans le_w1 hb2.size
  replace BEL0 := Lib.hid (belT BEL0.out hb2)
  have o_w1_w2 : w1.heap.size ≤ w2.heap.size := le_w1
  have le_w2 : w2.heap.size ≤ w2.heap.size := Nat.le_refl _
  clear hb2 ho2
  clear S0
  go_wp2_with fail
  refine (toIntS A0 c0 x0 (by omega) _ (Lib.hid (R0.out.lt le_w)).out).mono ?_
  rintro e w3 ⟨⟨rfl, hb3, hs3, hr3⟩, hz3⟩
  clear hz3
  have X0 : Hid (OwnI w3 w2.heap.size w3.heap.size (some ⟨w2.heap.size, 0, none⟩) x0) := own_row hs3 hr3
  replace R0 := Lib.hid (keepInts (hb3.mono le_w) R0.out)
  replace V := Lib.hid (keepRows (hb3.mono le_w2) V.out)
  replace le_w := Nat.le_trans le_w hb3.size
  replace le_w1 := Nat.le_trans le_w1 hb3.size
  replace le_w2 := Nat.le_trans le_w2 hb3.size
  replace BEL0 := Lib.hid (belT BEL0.out hb3)
  have o_w2_w3 : w2.heap.size ≤ w3.heap.size := le_w2
  have le_w3 : w3.heap.size ≤ w3.heap.size := Nat.le_refl _
  clear hb3 hs3 hr3
  go_wp2_with fail
  refine (I.game _ _ x0 s0 _ (X0.out.lt.lt le_w3)).mono ?_
  rintro e w4 ⟨TG, cG, rfl, hb4, ho4⟩
  have G := Lib.hid ho4
  replace X0 := Lib.hid (X0.out.below (hb4.mono le_w3))
  replace R0 := Lib.hid (keepInts (hb4.mono le_w) R0.out)
  replace V := Lib.hid (keepRows (hb4.mono le_w2) V.out)
  replace le_w := Nat.le_trans le_w hb4.size
  replace le_w1 := Nat.le_trans le_w1 hb4.size
  replace le_w2 := Nat.le_trans le_w2 hb4.size
  replace le_w3 := Nat.le_trans le_w3 hb4.size
  replace BEL0 := Lib.hid (belT BEL0.out hb4)
  have o_w3_w4 : w3.heap.size ≤ w4.heap.size := le_w3
  have le_w4 : w4.heap.size ≤ w4.heap.size := Nat.le_refl _
  clear hb4 ho4
  go_wp2_with fail
  refine (eqIntSS _ _ _ _ (boxG x0) _ _ HSL.out _ (G.out.lt.lt le_w4) (V.out.lt le_w2)).mono ?_
  rintro e w5 ⟨rfl, hq5⟩
  have hb5 : Below w4.heap.size w4 w5 := by obtain ⟨n, rfl⟩ := hq5; exact below_drewN (Below.refl _ _) n
  replace X0 := Lib.hid (X0.out.below (hb5.mono le_w3))
  replace G := Lib.hid (G.out.below (hb5.mono le_w4))
  replace R0 := Lib.hid (keepInts (hb5.mono le_w) R0.out)
  replace V := Lib.hid (keepRows (hb5.mono le_w2) V.out)
  replace le_w := Nat.le_trans le_w hb5.size
  replace le_w1 := Nat.le_trans le_w1 hb5.size
  replace le_w2 := Nat.le_trans le_w2 hb5.size
  replace le_w3 := Nat.le_trans le_w3 hb5.size
  replace le_w4 := Nat.le_trans le_w4 hb5.size
  replace BEL0 := Lib.hid (belT BEL0.out hb5)
  clear hq5 hb5
  have o_w4_w5 : w4.heap.size ≤ w5.heap.size := le_w4
  have le_w5 : w5.heap.size ≤ w5.heap.size := Nat.le_refl _
  go_wp2_with fail
  refine (toIntS A0 c0 x0 (by omega) _ (Lib.hid (R0.out.lt le_w)).out).mono ?_
  rintro e w6 ⟨⟨rfl, hb6, hs6, hr6⟩, hz6⟩
  clear hz6
  have E0 : Hid (OwnI w6 w5.heap.size w6.heap.size (some ⟨w5.heap.size, 0, none⟩) x0) := own_row hs6 hr6
  replace X0 := Lib.hid (X0.out.below (hb6.mono le_w3))
  replace G := Lib.hid (G.out.below (hb6.mono le_w4))
  replace R0 := Lib.hid (keepInts (hb6.mono le_w) R0.out)
  replace V := Lib.hid (keepRows (hb6.mono le_w2) V.out)
  replace le_w := Nat.le_trans le_w hb6.size
  replace le_w1 := Nat.le_trans le_w1 hb6.size
  replace le_w2 := Nat.le_trans le_w2 hb6.size
  replace le_w3 := Nat.le_trans le_w3 hb6.size
  replace le_w4 := Nat.le_trans le_w4 hb6.size
  replace le_w5 := Nat.le_trans le_w5 hb6.size
  replace BEL0 := Lib.hid (belT BEL0.out hb6)
  have o_w5_w6 : w5.heap.size ≤ w6.heap.size := le_w5
  have le_w6 : w6.heap.size ≤ w6.heap.size := Nat.le_refl _
  clear hb6 hs6 hr6
  go_wp2_with fail
  refine (eqIntS _ _ _ _ x0 _ _ l0 _ (X0.out.lt.lt le_w3) (E0.out.lt.lt le_w6)).mono ?_
  rintro e w7 ⟨rfl, hq7⟩
  have hb7 : Below w6.heap.size w6 w7 := by obtain ⟨n, rfl⟩ := hq7; exact below_drewN (Below.refl _ _) n
  replace X0 := Lib.hid (X0.out.below (hb7.mono le_w3))
  replace G := Lib.hid (G.out.below (hb7.mono le_w4))
  replace E0 := Lib.hid (E0.out.below (hb7.mono le_w6))
  replace R0 := Lib.hid (keepInts (hb7.mono le_w) R0.out)
  replace V := Lib.hid (keepRows (hb7.mono le_w2) V.out)
  replace le_w := Nat.le_trans le_w hb7.size
  replace le_w1 := Nat.le_trans le_w1 hb7.size
  replace le_w2 := Nat.le_trans le_w2 hb7.size
  replace le_w3 := Nat.le_trans le_w3 hb7.size
  replace le_w4 := Nat.le_trans le_w4 hb7.size
  replace le_w5 := Nat.le_trans le_w5 hb7.size
  replace le_w6 := Nat.le_trans le_w6 hb7.size
  replace BEL0 := Lib.hid (belT BEL0.out hb7)
  clear hq7 hb7
  clear E0
  go_wp2_with fail
  refine (markIntS _ _ x0 _ _ 1 (by omega) (by omega) (by omega) _ X0.out).mono ?_
  rintro e w8 ⟨rfl, ht8, ho8⟩
  have hf8 := ht8.off X0.out
  clear ht8
  replace X0 := Lib.hid ho8
  replace G := Lib.hid (G.out.off hf8 (by omega))
  replace R0 := Lib.hid (keepInts (hf8.below (by omega)) R0.out)
  replace V := Lib.hid (keepRows (hf8.below (by omega)) V.out)
  have hz8 := hf8.size
  replace le_w : w.heap.size ≤ w8.heap.size := by omega
  replace le_w1 : w1.heap.size ≤ w8.heap.size := by omega
  replace le_w2 : w2.heap.size ≤ w8.heap.size := by omega
  replace le_w3 : w3.heap.size ≤ w8.heap.size := by omega
  replace le_w4 : w4.heap.size ≤ w8.heap.size := by omega
  replace le_w5 : w5.heap.size ≤ w8.heap.size := by omega
  replace le_w6 : w6.heap.size ≤ w8.heap.size := by omega
  replace BEL0 := Lib.hid (BEL0.out.trans (hf8.below (by omega)))
  clear hf8 hz8 ho8
  clear X0
  have kpos : 0 ≤ (1 + (x0.length : Int)) := by omega
  go_wp2_with fail
  refine (eqIntSS _ _ _ _ (boxG x0) _ _ HSL.out _ (G.out.lt.lt le_w4) (V.out.lt le_w2)).mono ?_
  rintro e w9 ⟨rfl, hq9⟩
  have hb9 : Below w8.heap.size w8 w9 := by obtain ⟨n, rfl⟩ := hq9; exact below_drewN (Below.refl _ _) n
  replace G := Lib.hid (G.out.below (hb9.mono le_w4))
  replace R0 := Lib.hid (keepInts (hb9.mono le_w) R0.out)
  replace V := Lib.hid (keepRows (hb9.mono le_w2) V.out)
  replace le_w := Nat.le_trans le_w hb9.size
  replace le_w1 := Nat.le_trans le_w1 hb9.size
  replace le_w2 := Nat.le_trans le_w2 hb9.size
  replace le_w3 := Nat.le_trans le_w3 hb9.size
  replace le_w4 := Nat.le_trans le_w4 hb9.size
  replace le_w5 := Nat.le_trans le_w5 hb9.size
  replace le_w6 := Nat.le_trans le_w6 hb9.size
  replace BEL0 := Lib.hid (belT BEL0.out hb9)
  clear hq9 hb9
  go_wp2_with fail
  refine (markIntSS _ _ (boxG x0) _ _ 1 (by omega) (by omega) (by omega) (by omega) _ G.out).mono ?_
  rintro e w10 ⟨rfl, hf10, ho10⟩
  replace G := Lib.hid ho10
  replace R0 := Lib.hid (keepInts (hf10.below (by omega)) R0.out)
  replace V := Lib.hid (keepRows (hf10.below (by omega)) V.out)
  have hz10 := hf10.size
  replace le_w : w.heap.size ≤ w10.heap.size := by omega
  replace le_w1 : w1.heap.size ≤ w10.heap.size := by omega
  replace le_w2 : w2.heap.size ≤ w10.heap.size := by omega
  replace le_w3 : w3.heap.size ≤ w10.heap.size := by omega
  replace le_w4 : w4.heap.size ≤ w10.heap.size := by omega
  replace le_w5 : w5.heap.size ≤ w10.heap.size := by omega
  replace le_w6 : w6.heap.size ≤ w10.heap.size := by omega
  replace BEL0 := Lib.hid (BEL0.out.trans (hf10.below (by omega)))
  clear hf10 hz10 ho10
  have zz : ((1 + (sumN (boxG x0) (boxG x0).length : Int)) != (1 + (sumN (boxG x0) (boxG x0).length : Int))) = false := by simp
  go_wp2_with fail
  refine (heldIntSS _ _ (boxG x0) _ 1 (by omega) (by omega) (by omega) (by omega) _ G.out.rows2).mono ?_
  rintro e wz ⟨rfl, rfl⟩
  have o_w6_w10 : w6.heap.size ≤ w10.heap.size := le_w6
  have le_w10 : w10.heap.size ≤ w10.heap.size := Nat.le_refl _
  go_wp2_with fail
  refine (toIntS A0 c0 x0 (by omega) _ (Lib.hid (R0.out.lt le_w)).out).mono ?_
  rintro e w11 ⟨⟨rfl, hb11, hs11, hr11⟩, hz11⟩
  clear hz11
  have Q0 : Hid (OwnI w11 w10.heap.size w11.heap.size (some ⟨w10.heap.size, 0, none⟩) x0) := own_row hs11 hr11
  replace G := Lib.hid (G.out.below (hb11.mono le_w4))
  replace R0 := Lib.hid (keepInts (hb11.mono le_w) R0.out)
  replace V := Lib.hid (keepRows (hb11.mono le_w2) V.out)
  replace le_w := Nat.le_trans le_w hb11.size
  replace le_w1 := Nat.le_trans le_w1 hb11.size
  replace le_w2 := Nat.le_trans le_w2 hb11.size
  replace le_w3 := Nat.le_trans le_w3 hb11.size
  replace le_w4 := Nat.le_trans le_w4 hb11.size
  replace le_w5 := Nat.le_trans le_w5 hb11.size
  replace le_w6 := Nat.le_trans le_w6 hb11.size
  replace le_w10 := Nat.le_trans le_w10 hb11.size
  replace BEL0 := Lib.hid (belT BEL0.out hb11)
  have o_w10_w11 : w10.heap.size ≤ w11.heap.size := le_w10
  have le_w11 : w11.heap.size ≤ w11.heap.size := Nat.le_refl _
  clear hb11 hs11 hr11
  go_wp2_with fail
  refine (I.game _ _ x0 s0 _ (Q0.out.lt.lt le_w11)).mono ?_
  rintro e w12 ⟨TH, cH, rfl, hb12, ho12⟩
  have H := Lib.hid ho12
  replace G := Lib.hid (G.out.below (hb12.mono le_w4))
  replace Q0 := Lib.hid (Q0.out.below (hb12.mono le_w11))
  replace R0 := Lib.hid (keepInts (hb12.mono le_w) R0.out)
  replace V := Lib.hid (keepRows (hb12.mono le_w2) V.out)
  replace le_w := Nat.le_trans le_w hb12.size
  replace le_w1 := Nat.le_trans le_w1 hb12.size
  replace le_w2 := Nat.le_trans le_w2 hb12.size
  replace le_w3 := Nat.le_trans le_w3 hb12.size
  replace le_w4 := Nat.le_trans le_w4 hb12.size
  replace le_w5 := Nat.le_trans le_w5 hb12.size
  replace le_w6 := Nat.le_trans le_w6 hb12.size
  replace le_w10 := Nat.le_trans le_w10 hb12.size
  replace le_w11 := Nat.le_trans le_w11 hb12.size
  replace BEL0 := Lib.hid (belT BEL0.out hb12)
  have o_w11_w12 : w11.heap.size ≤ w12.heap.size := le_w11
  have le_w12 : w12.heap.size ≤ w12.heap.size := Nat.le_refl _
  clear hb12 ho12
  clear Q0
  go_wp2_with fail
  refine (eqIntSS _ _ _ _ (boxG x0) _ _ HSL.out _ (H.out.lt.lt le_w12) (V.out.lt le_w2)).mono ?_
  rintro e w13 ⟨rfl, hq13⟩
  have hb13 : Below w12.heap.size w12 w13 := by obtain ⟨n, rfl⟩ := hq13; exact below_drewN (Below.refl _ _) n
  replace G := Lib.hid (G.out.below (hb13.mono le_w4))
  replace H := Lib.hid (H.out.below (hb13.mono le_w12))
  replace R0 := Lib.hid (keepInts (hb13.mono le_w) R0.out)
  replace V := Lib.hid (keepRows (hb13.mono le_w2) V.out)
  replace le_w := Nat.le_trans le_w hb13.size
  replace le_w1 := Nat.le_trans le_w1 hb13.size
  replace le_w2 := Nat.le_trans le_w2 hb13.size
  replace le_w3 := Nat.le_trans le_w3 hb13.size
  replace le_w4 := Nat.le_trans le_w4 hb13.size
  replace le_w5 := Nat.le_trans le_w5 hb13.size
  replace le_w6 := Nat.le_trans le_w6 hb13.size
  replace le_w10 := Nat.le_trans le_w10 hb13.size
  replace le_w11 := Nat.le_trans le_w11 hb13.size
  replace le_w12 := Nat.le_trans le_w12 hb13.size
  replace BEL0 := Lib.hid (belT BEL0.out hb13)
  clear hq13 hb13
  clear H
  clear V
  go_wp2_with fail
  refine (heldIntSS _ _ (boxG x0) _ 1 (by omega) (by omega) (by omega) (by omega) _ G.out.rows2).mono ?_
  rintro e wz ⟨rfl, rfl⟩
  go_wp2_with fail
  go_ret
  exact Adds.of rfl BEL0.out

set_option maxHeartbeats 4000000 in
set_option maxRecDepth 100000 in
theorem wFnExactBoxWeights (I : Impl6) (A0 : Option Addr) (c0 : Nat) (x0 : List Int) (l0 : x0.length ≤ maxLen) (w : World) (r0 : Ints w (· < w.heap.size) A0 x0) :
    Calls Try.prog 11 #[.slice A0 x0.length c0] w (Adds (.bool true) w) := by
  have R0 := Lib.hid r0
  clear r0
  have le_w : w.heap.size ≤ w.heap.size := Nat.le_refl _
  have hsl := boxWts_len x0
  have HSL : Hid ((boxWts x0).length ≤ maxLen) := by show _ ≤ _; unfold maxLen; omega
  have m0 := l0
  unfold maxLen at m0
  by_cases big0 : (1048576 : Int) < (x0.length : Int)
  · go_enter Try.func11, Try.ntmps11
    go_wp2_with fail
    go_ret
    exact Adds.of rfl (Below.refl _ _)
  have s0 : x0.length ≤ 1048576 := by omega
  go_enter Try.func11, Try.ntmps11
  go_wp2_with fail
  refine (toIntS A0 c0 x0 (by omega) _ (Lib.hid (R0.out.lt le_w)).out).mono ?_
  rintro e w1 ⟨⟨rfl, hb1, hs1, hr1⟩, hz1⟩
  clear hz1
  have S0 : Hid (OwnI w1 w.heap.size w1.heap.size (some ⟨w.heap.size, 0, none⟩) x0) := own_row hs1 hr1
  replace R0 := Lib.hid (keepInts (hb1.mono le_w) R0.out)
  replace le_w := Nat.le_trans le_w hb1.size
  have BEL0 := Lib.hid hb1
  have o_w_w1 : w.heap.size ≤ w1.heap.size := le_w
  have le_w1 : w1.heap.size ≤ w1.heap.size := Nat.le_refl _
  clear hb1 hs1 hr1
  go_wp2_with fail
  refine (boxWts_spec _ _ x0 l0 _ (S0.out.lt.lt le_w1)).mono ?_
  rintro e w2 ⟨TV, cV, rfl, hb2, ho2⟩
  have V := Lib.hid ho2.lt
  replace S0 := Lib.hid (S0.out.below (hb2.mono le_w1))
  replace R0 := Lib.hid (keepInts (hb2.mono le_w) R0.out)
  replace le_w := Nat.le_trans le_w hb2.size
  replace le_w1 := Nat.le_trans le_w1 hb2.size
  replace BEL0 := Lib.hid (belT BEL0.out hb2)
  have o_w1_w2 : w1.heap.size ≤ w2.heap.size := le_w1
  have le_w2 : w2.heap.size ≤ w2.heap.size := Nat.le_refl _
  clear hb2 ho2
  clear S0
  go_wp2_with fail
  refine (toIntS A0 c0 x0 (by omega) _ (Lib.hid (R0.out.lt le_w)).out).mono ?_
  rintro e w3 ⟨⟨rfl, hb3, hs3, hr3⟩, hz3⟩
  clear hz3
  have X0 : Hid (OwnI w3 w2.heap.size w3.heap.size (some ⟨w2.heap.size, 0, none⟩) x0) := own_row hs3 hr3
  replace R0 := Lib.hid (keepInts (hb3.mono le_w) R0.out)
  replace V := Lib.hid (keepInts (hb3.mono le_w2) V.out)
  replace le_w := Nat.le_trans le_w hb3.size
  replace le_w1 := Nat.le_trans le_w1 hb3.size
  replace le_w2 := Nat.le_trans le_w2 hb3.size
  replace BEL0 := Lib.hid (belT BEL0.out hb3)
  have o_w2_w3 : w2.heap.size ≤ w3.heap.size := le_w2
  have le_w3 : w3.heap.size ≤ w3.heap.size := Nat.le_refl _
  clear hb3 hs3 hr3
  go_wp2_with fail
  refine (I.weights _ _ x0 s0 _ (X0.out.lt.lt le_w3)).mono ?_
  rintro e w4 ⟨TG, cG, rfl, hb4, ho4⟩
  have G := Lib.hid ho4
  replace X0 := Lib.hid (X0.out.below (hb4.mono le_w3))
  replace R0 := Lib.hid (keepInts (hb4.mono le_w) R0.out)
  replace V := Lib.hid (keepInts (hb4.mono le_w2) V.out)
  replace le_w := Nat.le_trans le_w hb4.size
  replace le_w1 := Nat.le_trans le_w1 hb4.size
  replace le_w2 := Nat.le_trans le_w2 hb4.size
  replace le_w3 := Nat.le_trans le_w3 hb4.size
  replace BEL0 := Lib.hid (belT BEL0.out hb4)
  have o_w3_w4 : w3.heap.size ≤ w4.heap.size := le_w3
  have le_w4 : w4.heap.size ≤ w4.heap.size := Nat.le_refl _
  clear hb4 ho4
  go_wp2_with fail
  refine (eqIntS _ _ _ _ (boxWts x0) _ _ HSL.out _ (G.out.lt.lt le_w4) (V.out.lt le_w2)).mono ?_
  rintro e w5 ⟨rfl, hq5⟩
  have hb5 : Below w4.heap.size w4 w5 := by obtain ⟨n, rfl⟩ := hq5; exact below_drewN (Below.refl _ _) n
  replace X0 := Lib.hid (X0.out.below (hb5.mono le_w3))
  replace G := Lib.hid (G.out.below (hb5.mono le_w4))
  replace R0 := Lib.hid (keepInts (hb5.mono le_w) R0.out)
  replace V := Lib.hid (keepInts (hb5.mono le_w2) V.out)
  replace le_w := Nat.le_trans le_w hb5.size
  replace le_w1 := Nat.le_trans le_w1 hb5.size
  replace le_w2 := Nat.le_trans le_w2 hb5.size
  replace le_w3 := Nat.le_trans le_w3 hb5.size
  replace le_w4 := Nat.le_trans le_w4 hb5.size
  replace BEL0 := Lib.hid (belT BEL0.out hb5)
  clear hq5 hb5
  have o_w4_w5 : w4.heap.size ≤ w5.heap.size := le_w4
  have le_w5 : w5.heap.size ≤ w5.heap.size := Nat.le_refl _
  go_wp2_with fail
  refine (toIntS A0 c0 x0 (by omega) _ (Lib.hid (R0.out.lt le_w)).out).mono ?_
  rintro e w6 ⟨⟨rfl, hb6, hs6, hr6⟩, hz6⟩
  clear hz6
  have E0 : Hid (OwnI w6 w5.heap.size w6.heap.size (some ⟨w5.heap.size, 0, none⟩) x0) := own_row hs6 hr6
  replace X0 := Lib.hid (X0.out.below (hb6.mono le_w3))
  replace G := Lib.hid (G.out.below (hb6.mono le_w4))
  replace R0 := Lib.hid (keepInts (hb6.mono le_w) R0.out)
  replace V := Lib.hid (keepInts (hb6.mono le_w2) V.out)
  replace le_w := Nat.le_trans le_w hb6.size
  replace le_w1 := Nat.le_trans le_w1 hb6.size
  replace le_w2 := Nat.le_trans le_w2 hb6.size
  replace le_w3 := Nat.le_trans le_w3 hb6.size
  replace le_w4 := Nat.le_trans le_w4 hb6.size
  replace le_w5 := Nat.le_trans le_w5 hb6.size
  replace BEL0 := Lib.hid (belT BEL0.out hb6)
  have o_w5_w6 : w5.heap.size ≤ w6.heap.size := le_w5
  have le_w6 : w6.heap.size ≤ w6.heap.size := Nat.le_refl _
  clear hb6 hs6 hr6
  go_wp2_with fail
  refine (eqIntS _ _ _ _ x0 _ _ l0 _ (X0.out.lt.lt le_w3) (E0.out.lt.lt le_w6)).mono ?_
  rintro e w7 ⟨rfl, hq7⟩
  have hb7 : Below w6.heap.size w6 w7 := by obtain ⟨n, rfl⟩ := hq7; exact below_drewN (Below.refl _ _) n
  replace X0 := Lib.hid (X0.out.below (hb7.mono le_w3))
  replace G := Lib.hid (G.out.below (hb7.mono le_w4))
  replace E0 := Lib.hid (E0.out.below (hb7.mono le_w6))
  replace R0 := Lib.hid (keepInts (hb7.mono le_w) R0.out)
  replace V := Lib.hid (keepInts (hb7.mono le_w2) V.out)
  replace le_w := Nat.le_trans le_w hb7.size
  replace le_w1 := Nat.le_trans le_w1 hb7.size
  replace le_w2 := Nat.le_trans le_w2 hb7.size
  replace le_w3 := Nat.le_trans le_w3 hb7.size
  replace le_w4 := Nat.le_trans le_w4 hb7.size
  replace le_w5 := Nat.le_trans le_w5 hb7.size
  replace le_w6 := Nat.le_trans le_w6 hb7.size
  replace BEL0 := Lib.hid (belT BEL0.out hb7)
  clear hq7 hb7
  clear E0
  go_wp2_with fail
  refine (markIntS _ _ x0 _ _ 1 (by omega) (by omega) (by omega) _ X0.out).mono ?_
  rintro e w8 ⟨rfl, ht8, ho8⟩
  have hf8 := ht8.off X0.out
  clear ht8
  replace X0 := Lib.hid ho8
  replace G := Lib.hid (G.out.off hf8 (by omega))
  replace R0 := Lib.hid (keepInts (hf8.below (by omega)) R0.out)
  replace V := Lib.hid (keepInts (hf8.below (by omega)) V.out)
  have hz8 := hf8.size
  replace le_w : w.heap.size ≤ w8.heap.size := by omega
  replace le_w1 : w1.heap.size ≤ w8.heap.size := by omega
  replace le_w2 : w2.heap.size ≤ w8.heap.size := by omega
  replace le_w3 : w3.heap.size ≤ w8.heap.size := by omega
  replace le_w4 : w4.heap.size ≤ w8.heap.size := by omega
  replace le_w5 : w5.heap.size ≤ w8.heap.size := by omega
  replace le_w6 : w6.heap.size ≤ w8.heap.size := by omega
  replace BEL0 := Lib.hid (BEL0.out.trans (hf8.below (by omega)))
  clear hf8 hz8 ho8
  clear X0
  have kpos : 0 ≤ (1 + (x0.length : Int)) := by omega
  go_wp2_with fail
  refine (eqIntS _ _ _ _ (boxWts x0) _ _ HSL.out _ (G.out.lt.lt le_w4) (V.out.lt le_w2)).mono ?_
  rintro e w9 ⟨rfl, hq9⟩
  have hb9 : Below w8.heap.size w8 w9 := by obtain ⟨n, rfl⟩ := hq9; exact below_drewN (Below.refl _ _) n
  replace G := Lib.hid (G.out.below (hb9.mono le_w4))
  replace R0 := Lib.hid (keepInts (hb9.mono le_w) R0.out)
  replace V := Lib.hid (keepInts (hb9.mono le_w2) V.out)
  replace le_w := Nat.le_trans le_w hb9.size
  replace le_w1 := Nat.le_trans le_w1 hb9.size
  replace le_w2 := Nat.le_trans le_w2 hb9.size
  replace le_w3 := Nat.le_trans le_w3 hb9.size
  replace le_w4 := Nat.le_trans le_w4 hb9.size
  replace le_w5 := Nat.le_trans le_w5 hb9.size
  replace le_w6 := Nat.le_trans le_w6 hb9.size
  replace BEL0 := Lib.hid (belT BEL0.out hb9)
  clear hq9 hb9
  go_wp2_with fail
  refine (markIntS _ _ (boxWts x0) _ _ 1 (by omega) (by omega) (by omega) _ G.out).mono ?_
  rintro e w10 ⟨rfl, ht10, ho10⟩
  have hf10 := ht10.off G.out
  clear ht10
  replace G := Lib.hid ho10
  replace R0 := Lib.hid (keepInts (hf10.below (by omega)) R0.out)
  replace V := Lib.hid (keepInts (hf10.below (by omega)) V.out)
  have hz10 := hf10.size
  replace le_w : w.heap.size ≤ w10.heap.size := by omega
  replace le_w1 : w1.heap.size ≤ w10.heap.size := by omega
  replace le_w2 : w2.heap.size ≤ w10.heap.size := by omega
  replace le_w3 : w3.heap.size ≤ w10.heap.size := by omega
  replace le_w4 : w4.heap.size ≤ w10.heap.size := by omega
  replace le_w5 : w5.heap.size ≤ w10.heap.size := by omega
  replace le_w6 : w6.heap.size ≤ w10.heap.size := by omega
  replace BEL0 := Lib.hid (BEL0.out.trans (hf10.below (by omega)))
  clear hf10 hz10 ho10
  have zz : ((1 + ((boxWts x0).length : Int)) != (1 + ((boxWts x0).length : Int))) = false := by simp
  go_wp2_with fail
  refine (heldIntS _ _ (boxWts x0).length _ 1 (by omega) (by omega) (by omega) _ G.out.ints).mono ?_
  rintro e wz ⟨rfl, rfl⟩
  have o_w6_w10 : w6.heap.size ≤ w10.heap.size := le_w6
  have le_w10 : w10.heap.size ≤ w10.heap.size := Nat.le_refl _
  go_wp2_with fail
  refine (toIntS A0 c0 x0 (by omega) _ (Lib.hid (R0.out.lt le_w)).out).mono ?_
  rintro e w11 ⟨⟨rfl, hb11, hs11, hr11⟩, hz11⟩
  clear hz11
  have Q0 : Hid (OwnI w11 w10.heap.size w11.heap.size (some ⟨w10.heap.size, 0, none⟩) x0) := own_row hs11 hr11
  replace G := Lib.hid (G.out.below (hb11.mono le_w4))
  replace R0 := Lib.hid (keepInts (hb11.mono le_w) R0.out)
  replace V := Lib.hid (keepInts (hb11.mono le_w2) V.out)
  replace le_w := Nat.le_trans le_w hb11.size
  replace le_w1 := Nat.le_trans le_w1 hb11.size
  replace le_w2 := Nat.le_trans le_w2 hb11.size
  replace le_w3 := Nat.le_trans le_w3 hb11.size
  replace le_w4 := Nat.le_trans le_w4 hb11.size
  replace le_w5 := Nat.le_trans le_w5 hb11.size
  replace le_w6 := Nat.le_trans le_w6 hb11.size
  replace le_w10 := Nat.le_trans le_w10 hb11.size
  replace BEL0 := Lib.hid (belT BEL0.out hb11)
  have o_w10_w11 : w10.heap.size ≤ w11.heap.size := le_w10
  have le_w11 : w11.heap.size ≤ w11.heap.size := Nat.le_refl _
  clear hb11 hs11 hr11
  go_wp2_with fail
  refine (I.weights _ _ x0 s0 _ (Q0.out.lt.lt le_w11)).mono ?_
  rintro e w12 ⟨TH, cH, rfl, hb12, ho12⟩
  have H := Lib.hid ho12
  replace G := Lib.hid (G.out.below (hb12.mono le_w4))
  replace Q0 := Lib.hid (Q0.out.below (hb12.mono le_w11))
  replace R0 := Lib.hid (keepInts (hb12.mono le_w) R0.out)
  replace V := Lib.hid (keepInts (hb12.mono le_w2) V.out)
  replace le_w := Nat.le_trans le_w hb12.size
  replace le_w1 := Nat.le_trans le_w1 hb12.size
  replace le_w2 := Nat.le_trans le_w2 hb12.size
  replace le_w3 := Nat.le_trans le_w3 hb12.size
  replace le_w4 := Nat.le_trans le_w4 hb12.size
  replace le_w5 := Nat.le_trans le_w5 hb12.size
  replace le_w6 := Nat.le_trans le_w6 hb12.size
  replace le_w10 := Nat.le_trans le_w10 hb12.size
  replace le_w11 := Nat.le_trans le_w11 hb12.size
  replace BEL0 := Lib.hid (belT BEL0.out hb12)
  have o_w11_w12 : w11.heap.size ≤ w12.heap.size := le_w11
  have le_w12 : w12.heap.size ≤ w12.heap.size := Nat.le_refl _
  clear hb12 ho12
  clear Q0
  go_wp2_with fail
  refine (eqIntS _ _ _ _ (boxWts x0) _ _ HSL.out _ (H.out.lt.lt le_w12) (V.out.lt le_w2)).mono ?_
  rintro e w13 ⟨rfl, hq13⟩
  have hb13 : Below w12.heap.size w12 w13 := by obtain ⟨n, rfl⟩ := hq13; exact below_drewN (Below.refl _ _) n
  replace G := Lib.hid (G.out.below (hb13.mono le_w4))
  replace H := Lib.hid (H.out.below (hb13.mono le_w12))
  replace R0 := Lib.hid (keepInts (hb13.mono le_w) R0.out)
  replace V := Lib.hid (keepInts (hb13.mono le_w2) V.out)
  replace le_w := Nat.le_trans le_w hb13.size
  replace le_w1 := Nat.le_trans le_w1 hb13.size
  replace le_w2 := Nat.le_trans le_w2 hb13.size
  replace le_w3 := Nat.le_trans le_w3 hb13.size
  replace le_w4 := Nat.le_trans le_w4 hb13.size
  replace le_w5 := Nat.le_trans le_w5 hb13.size
  replace le_w6 := Nat.le_trans le_w6 hb13.size
  replace le_w10 := Nat.le_trans le_w10 hb13.size
  replace le_w11 := Nat.le_trans le_w11 hb13.size
  replace le_w12 := Nat.le_trans le_w12 hb13.size
  replace BEL0 := Lib.hid (belT BEL0.out hb13)
  clear hq13 hb13
  clear H
  clear V
  go_wp2_with fail
  refine (heldIntS _ _ (boxWts x0).length _ 1 (by omega) (by omega) (by omega) _ G.out.ints).mono ?_
  rintro e wz ⟨rfl, rfl⟩
  go_wp2_with fail
  go_ret
  exact Adds.of rfl BEL0.out

set_option maxHeartbeats 4000000 in
set_option maxRecDepth 100000 in
theorem wFnExactWithBox (I : Impl6) (A0 : Option Addr) (c0 : Nat) (x0 : List Int) (l0 : x0.length ≤ maxLen) (x1 : Int) (l1 : (Lit.int .i64 x1).wf = true) (w : World) (r0 : Ints w (· < w.heap.size) A0 x0) :
    Calls Try.prog 12 #[.slice A0 x0.length c0, .int .i64 x1] w (Adds (.bool true) w) := by
  have R0 := Lib.hid r0
  clear r0
  have le_w : w.heap.size ≤ w.heap.size := Nat.le_refl _
  have hsl := wb_len x0 x1
  have HSL : Hid ((wbL x0 x1).length ≤ maxLen) := by show _ ≤ _; unfold maxLen; omega
  have zB : (wbB x0 x1 != wbB x0 x1) = false := by simp
  have m0 := l0
  unfold maxLen at m0
  by_cases big0 : (1048576 : Int) < (x0.length : Int)
  · go_enter Try.func12, Try.ntmps12
    go_wp2_with fail
    go_ret
    exact Adds.of rfl (Below.refl _ _)
  have s0 : x0.length ≤ 1048576 := by omega
  go_enter Try.func12, Try.ntmps12
  go_wp2_with fail
  refine (toIntS A0 c0 x0 (by omega) _ (Lib.hid (R0.out.lt le_w)).out).mono ?_
  rintro e w1 ⟨⟨rfl, hb1, hs1, hr1⟩, hz1⟩
  clear hz1
  have S0 : Hid (OwnI w1 w.heap.size w1.heap.size (some ⟨w.heap.size, 0, none⟩) x0) := own_row hs1 hr1
  replace R0 := Lib.hid (keepInts (hb1.mono le_w) R0.out)
  replace le_w := Nat.le_trans le_w hb1.size
  have BEL0 := Lib.hid hb1
  have o_w_w1 : w.heap.size ≤ w1.heap.size := le_w
  have le_w1 : w1.heap.size ≤ w1.heap.size := Nat.le_refl _
  clear hb1 hs1 hr1
  go_wp2_with fail
  refine (withBox_spec _ _ x0 x1 s0 _ (S0.out.lt.lt le_w1)).mono ?_
  rintro e w2 ⟨TV, cV, rfl, hb2, ho2⟩
  have V := Lib.hid ho2.lt
  replace S0 := Lib.hid (S0.out.below (hb2.mono le_w1))
  replace R0 := Lib.hid (keepInts (hb2.mono le_w) R0.out)
  replace le_w := Nat.le_trans le_w hb2.size
  replace le_w1 := Nat.le_trans le_w1 hb2.size
  replace BEL0 := Lib.hid (belT BEL0.out hb2)
  have o_w1_w2 : w1.heap.size ≤ w2.heap.size := le_w1
  have le_w2 : w2.heap.size ≤ w2.heap.size := Nat.le_refl _
  clear hb2 ho2
  clear S0
  go_wp2_with fail
  refine (toIntS A0 c0 x0 (by omega) _ (Lib.hid (R0.out.lt le_w)).out).mono ?_
  rintro e w3 ⟨⟨rfl, hb3, hs3, hr3⟩, hz3⟩
  clear hz3
  have X0 : Hid (OwnI w3 w2.heap.size w3.heap.size (some ⟨w2.heap.size, 0, none⟩) x0) := own_row hs3 hr3
  replace R0 := Lib.hid (keepInts (hb3.mono le_w) R0.out)
  replace V := Lib.hid (keepInts (hb3.mono le_w2) V.out)
  replace le_w := Nat.le_trans le_w hb3.size
  replace le_w1 := Nat.le_trans le_w1 hb3.size
  replace le_w2 := Nat.le_trans le_w2 hb3.size
  replace BEL0 := Lib.hid (belT BEL0.out hb3)
  have o_w2_w3 : w2.heap.size ≤ w3.heap.size := le_w2
  have le_w3 : w3.heap.size ≤ w3.heap.size := Nat.le_refl _
  clear hb3 hs3 hr3
  go_wp2_with fail
  refine ((I.further _ _ x0 x1 s0 _ (X0.out.lt.lt le_w3)).mono fun _ _ => ListResC.plain).mono ?_
  rintro e w4 ⟨TG, cG, rfl, hb4, ho4⟩
  have G := Lib.hid ho4
  replace X0 := Lib.hid (X0.out.below (hb4.mono le_w3))
  replace R0 := Lib.hid (keepInts (hb4.mono le_w) R0.out)
  replace V := Lib.hid (keepInts (hb4.mono le_w2) V.out)
  replace le_w := Nat.le_trans le_w hb4.size
  replace le_w1 := Nat.le_trans le_w1 hb4.size
  replace le_w2 := Nat.le_trans le_w2 hb4.size
  replace le_w3 := Nat.le_trans le_w3 hb4.size
  replace BEL0 := Lib.hid (belT BEL0.out hb4)
  have o_w3_w4 : w3.heap.size ≤ w4.heap.size := le_w3
  have le_w4 : w4.heap.size ≤ w4.heap.size := Nat.le_refl _
  clear hb4 ho4
  go_wp2_with fail
  refine (eqIntS _ _ _ _ (wbL x0 x1) _ _ HSL.out _ (G.out.lt.lt le_w4) (V.out.lt le_w2)).mono ?_
  rintro e w5 ⟨rfl, hq5⟩
  have hb5 : Below w4.heap.size w4 w5 := by obtain ⟨n, rfl⟩ := hq5; exact below_drewN (Below.refl _ _) n
  replace X0 := Lib.hid (X0.out.below (hb5.mono le_w3))
  replace G := Lib.hid (G.out.below (hb5.mono le_w4))
  replace R0 := Lib.hid (keepInts (hb5.mono le_w) R0.out)
  replace V := Lib.hid (keepInts (hb5.mono le_w2) V.out)
  replace le_w := Nat.le_trans le_w hb5.size
  replace le_w1 := Nat.le_trans le_w1 hb5.size
  replace le_w2 := Nat.le_trans le_w2 hb5.size
  replace le_w3 := Nat.le_trans le_w3 hb5.size
  replace le_w4 := Nat.le_trans le_w4 hb5.size
  replace BEL0 := Lib.hid (belT BEL0.out hb5)
  clear hq5 hb5
  have o_w4_w5 : w4.heap.size ≤ w5.heap.size := le_w4
  have le_w5 : w5.heap.size ≤ w5.heap.size := Nat.le_refl _
  go_wp2_with fail
  refine (toIntS A0 c0 x0 (by omega) _ (Lib.hid (R0.out.lt le_w)).out).mono ?_
  rintro e w6 ⟨⟨rfl, hb6, hs6, hr6⟩, hz6⟩
  clear hz6
  have E0 : Hid (OwnI w6 w5.heap.size w6.heap.size (some ⟨w5.heap.size, 0, none⟩) x0) := own_row hs6 hr6
  replace X0 := Lib.hid (X0.out.below (hb6.mono le_w3))
  replace G := Lib.hid (G.out.below (hb6.mono le_w4))
  replace R0 := Lib.hid (keepInts (hb6.mono le_w) R0.out)
  replace V := Lib.hid (keepInts (hb6.mono le_w2) V.out)
  replace le_w := Nat.le_trans le_w hb6.size
  replace le_w1 := Nat.le_trans le_w1 hb6.size
  replace le_w2 := Nat.le_trans le_w2 hb6.size
  replace le_w3 := Nat.le_trans le_w3 hb6.size
  replace le_w4 := Nat.le_trans le_w4 hb6.size
  replace le_w5 := Nat.le_trans le_w5 hb6.size
  replace BEL0 := Lib.hid (belT BEL0.out hb6)
  have o_w5_w6 : w5.heap.size ≤ w6.heap.size := le_w5
  have le_w6 : w6.heap.size ≤ w6.heap.size := Nat.le_refl _
  clear hb6 hs6 hr6
  go_wp2_with fail
  refine (eqIntS _ _ _ _ x0 _ _ l0 _ (X0.out.lt.lt le_w3) (E0.out.lt.lt le_w6)).mono ?_
  rintro e w7 ⟨rfl, hq7⟩
  have hb7 : Below w6.heap.size w6 w7 := by obtain ⟨n, rfl⟩ := hq7; exact below_drewN (Below.refl _ _) n
  replace X0 := Lib.hid (X0.out.below (hb7.mono le_w3))
  replace G := Lib.hid (G.out.below (hb7.mono le_w4))
  replace E0 := Lib.hid (E0.out.below (hb7.mono le_w6))
  replace R0 := Lib.hid (keepInts (hb7.mono le_w) R0.out)
  replace V := Lib.hid (keepInts (hb7.mono le_w2) V.out)
  replace le_w := Nat.le_trans le_w hb7.size
  replace le_w1 := Nat.le_trans le_w1 hb7.size
  replace le_w2 := Nat.le_trans le_w2 hb7.size
  replace le_w3 := Nat.le_trans le_w3 hb7.size
  replace le_w4 := Nat.le_trans le_w4 hb7.size
  replace le_w5 := Nat.le_trans le_w5 hb7.size
  replace le_w6 := Nat.le_trans le_w6 hb7.size
  replace BEL0 := Lib.hid (belT BEL0.out hb7)
  clear hq7 hb7
  clear E0
  go_wp2_with fail
  refine (markIntS _ _ x0 _ _ 1 (by omega) (by omega) (by omega) _ X0.out).mono ?_
  rintro e w8 ⟨rfl, ht8, ho8⟩
  have hf8 := ht8.off X0.out
  clear ht8
  replace X0 := Lib.hid ho8
  replace G := Lib.hid (G.out.off hf8 (by omega))
  replace R0 := Lib.hid (keepInts (hf8.below (by omega)) R0.out)
  replace V := Lib.hid (keepInts (hf8.below (by omega)) V.out)
  have hz8 := hf8.size
  replace le_w : w.heap.size ≤ w8.heap.size := by omega
  replace le_w1 : w1.heap.size ≤ w8.heap.size := by omega
  replace le_w2 : w2.heap.size ≤ w8.heap.size := by omega
  replace le_w3 : w3.heap.size ≤ w8.heap.size := by omega
  replace le_w4 : w4.heap.size ≤ w8.heap.size := by omega
  replace le_w5 : w5.heap.size ≤ w8.heap.size := by omega
  replace le_w6 : w6.heap.size ≤ w8.heap.size := by omega
  replace BEL0 := Lib.hid (BEL0.out.trans (hf8.below (by omega)))
  clear hf8 hz8 ho8
  clear X0
  have kpos : 0 ≤ (1 + (x0.length : Int)) := by omega
  go_wp2_with fail
  refine (eqIntS _ _ _ _ (wbL x0 x1) _ _ HSL.out _ (G.out.lt.lt le_w4) (V.out.lt le_w2)).mono ?_
  rintro e w9 ⟨rfl, hq9⟩
  have hb9 : Below w8.heap.size w8 w9 := by obtain ⟨n, rfl⟩ := hq9; exact below_drewN (Below.refl _ _) n
  replace G := Lib.hid (G.out.below (hb9.mono le_w4))
  replace R0 := Lib.hid (keepInts (hb9.mono le_w) R0.out)
  replace V := Lib.hid (keepInts (hb9.mono le_w2) V.out)
  replace le_w := Nat.le_trans le_w hb9.size
  replace le_w1 := Nat.le_trans le_w1 hb9.size
  replace le_w2 := Nat.le_trans le_w2 hb9.size
  replace le_w3 := Nat.le_trans le_w3 hb9.size
  replace le_w4 := Nat.le_trans le_w4 hb9.size
  replace le_w5 := Nat.le_trans le_w5 hb9.size
  replace le_w6 := Nat.le_trans le_w6 hb9.size
  replace BEL0 := Lib.hid (belT BEL0.out hb9)
  clear hq9 hb9
  go_wp2_with fail
  refine (markIntS _ _ (wbL x0 x1) _ _ 1 (by omega) (by omega) (by omega) _ G.out).mono ?_
  rintro e w10 ⟨rfl, ht10, ho10⟩
  have hf10 := ht10.off G.out
  clear ht10
  replace G := Lib.hid ho10
  replace R0 := Lib.hid (keepInts (hf10.below (by omega)) R0.out)
  replace V := Lib.hid (keepInts (hf10.below (by omega)) V.out)
  have hz10 := hf10.size
  replace le_w : w.heap.size ≤ w10.heap.size := by omega
  replace le_w1 : w1.heap.size ≤ w10.heap.size := by omega
  replace le_w2 : w2.heap.size ≤ w10.heap.size := by omega
  replace le_w3 : w3.heap.size ≤ w10.heap.size := by omega
  replace le_w4 : w4.heap.size ≤ w10.heap.size := by omega
  replace le_w5 : w5.heap.size ≤ w10.heap.size := by omega
  replace le_w6 : w6.heap.size ≤ w10.heap.size := by omega
  replace BEL0 := Lib.hid (BEL0.out.trans (hf10.below (by omega)))
  clear hf10 hz10 ho10
  have zz : ((1 + ((wbL x0 x1).length : Int)) != (1 + ((wbL x0 x1).length : Int))) = false := by simp
  go_wp2_with fail
  refine (heldIntS _ _ (wbL x0 x1).length _ 1 (by omega) (by omega) (by omega) _ G.out.ints).mono ?_
  rintro e wz ⟨rfl, rfl⟩
  have o_w6_w10 : w6.heap.size ≤ w10.heap.size := le_w6
  have le_w10 : w10.heap.size ≤ w10.heap.size := Nat.le_refl _
  go_wp2_with fail
  refine (toIntS A0 c0 x0 (by omega) _ (Lib.hid (R0.out.lt le_w)).out).mono ?_
  rintro e w11 ⟨⟨rfl, hb11, hs11, hr11⟩, hz11⟩
  clear hz11
  have Q0 : Hid (OwnI w11 w10.heap.size w11.heap.size (some ⟨w10.heap.size, 0, none⟩) x0) := own_row hs11 hr11
  replace G := Lib.hid (G.out.below (hb11.mono le_w4))
  replace R0 := Lib.hid (keepInts (hb11.mono le_w) R0.out)
  replace V := Lib.hid (keepInts (hb11.mono le_w2) V.out)
  replace le_w := Nat.le_trans le_w hb11.size
  replace le_w1 := Nat.le_trans le_w1 hb11.size
  replace le_w2 := Nat.le_trans le_w2 hb11.size
  replace le_w3 := Nat.le_trans le_w3 hb11.size
  replace le_w4 := Nat.le_trans le_w4 hb11.size
  replace le_w5 := Nat.le_trans le_w5 hb11.size
  replace le_w6 := Nat.le_trans le_w6 hb11.size
  replace le_w10 := Nat.le_trans le_w10 hb11.size
  replace BEL0 := Lib.hid (belT BEL0.out hb11)
  have o_w10_w11 : w10.heap.size ≤ w11.heap.size := le_w10
  have le_w11 : w11.heap.size ≤ w11.heap.size := Nat.le_refl _
  clear hb11 hs11 hr11
  go_wp2_with fail
  refine ((I.further _ _ x0 x1 s0 _ (Q0.out.lt.lt le_w11)).mono fun _ _ => ListResC.plain).mono ?_
  rintro e w12 ⟨TH, cH, rfl, hb12, ho12⟩
  have H := Lib.hid ho12
  replace G := Lib.hid (G.out.below (hb12.mono le_w4))
  replace Q0 := Lib.hid (Q0.out.below (hb12.mono le_w11))
  replace R0 := Lib.hid (keepInts (hb12.mono le_w) R0.out)
  replace V := Lib.hid (keepInts (hb12.mono le_w2) V.out)
  replace le_w := Nat.le_trans le_w hb12.size
  replace le_w1 := Nat.le_trans le_w1 hb12.size
  replace le_w2 := Nat.le_trans le_w2 hb12.size
  replace le_w3 := Nat.le_trans le_w3 hb12.size
  replace le_w4 := Nat.le_trans le_w4 hb12.size
  replace le_w5 := Nat.le_trans le_w5 hb12.size
  replace le_w6 := Nat.le_trans le_w6 hb12.size
  replace le_w10 := Nat.le_trans le_w10 hb12.size
  replace le_w11 := Nat.le_trans le_w11 hb12.size
  replace BEL0 := Lib.hid (belT BEL0.out hb12)
  have o_w11_w12 : w11.heap.size ≤ w12.heap.size := le_w11
  have le_w12 : w12.heap.size ≤ w12.heap.size := Nat.le_refl _
  clear hb12 ho12
  clear Q0
  go_wp2_with fail
  refine (eqIntS _ _ _ _ (wbL x0 x1) _ _ HSL.out _ (H.out.lt.lt le_w12) (V.out.lt le_w2)).mono ?_
  rintro e w13 ⟨rfl, hq13⟩
  have hb13 : Below w12.heap.size w12 w13 := by obtain ⟨n, rfl⟩ := hq13; exact below_drewN (Below.refl _ _) n
  replace G := Lib.hid (G.out.below (hb13.mono le_w4))
  replace H := Lib.hid (H.out.below (hb13.mono le_w12))
  replace R0 := Lib.hid (keepInts (hb13.mono le_w) R0.out)
  replace V := Lib.hid (keepInts (hb13.mono le_w2) V.out)
  replace le_w := Nat.le_trans le_w hb13.size
  replace le_w1 := Nat.le_trans le_w1 hb13.size
  replace le_w2 := Nat.le_trans le_w2 hb13.size
  replace le_w3 := Nat.le_trans le_w3 hb13.size
  replace le_w4 := Nat.le_trans le_w4 hb13.size
  replace le_w5 := Nat.le_trans le_w5 hb13.size
  replace le_w6 := Nat.le_trans le_w6 hb13.size
  replace le_w10 := Nat.le_trans le_w10 hb13.size
  replace le_w11 := Nat.le_trans le_w11 hb13.size
  replace le_w12 := Nat.le_trans le_w12 hb13.size
  replace BEL0 := Lib.hid (belT BEL0.out hb13)
  clear hq13 hb13
  clear H
  clear V
  go_wp2_with fail
  refine (heldIntS _ _ (wbL x0 x1).length _ 1 (by omega) (by omega) (by omega) _ G.out.ints).mono ?_
  rintro e wz ⟨rfl, rfl⟩
  go_wp2_with fail
  go_ret
  exact Adds.of rfl BEL0.out

end Go.Proofs.Ytjmmkbhdldeciaa
