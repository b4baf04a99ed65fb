/- The walks of the exact laws of WindowGame and RingGame. (Written by wip/gen/ex7.py.) -/
import Derived.Test.YthdlepfkifngmaaMV
namespace Go.Proofs.Ythdlepfkifngmaa
set_option linter.unusedSimpArgs false
set_option linter.unusedVariables false
open Go.RowKit

set_option maxHeartbeats 4000000 in
set_option maxRecDepth 100000 in
theorem wFnExactWindowGame (I : Impl7) (x0 : Int) (l0 : (Lit.int .i64 x0).wf = true) (x1 : Int) (l1 : (Lit.int .i64 x1).wf = true) (w : World)  :
    Calls Try.prog 8 #[.int .i64 x0, .int .i64 x1] w (Adds (.bool true) w) := by
  have le_w : w.heap.size ≤ w.heap.size := Nat.le_refl _
  have hsl := (winG_len x0 x1).1
  have hsu : sumN (winG x0 x1) (winG x0 x1).length ≤ 16 * (winG x0 x1).length := sumN_le _ 16 _ (winG_len x0 x1).2
  have HSL : Hid ((winG x0 x1).length ≤ maxLen) := by show _ ≤ _; unfold maxLen; omega
  go_enter Try.func8, Try.ntmps8
  go_wp2_with fail
  refine (winGame_spec x0 x1 _).mono ?_
  rintro e w1 ⟨TV, cV, rfl, hb1, ho1⟩
  have V := Lib.hid ho1.lt
  replace le_w := Nat.le_trans le_w hb1.size
  have BEL0 := Lib.hid hb1
  have o_w_w1 : w.heap.size ≤ w1.heap.size := le_w
  have le_w1 : w1.heap.size ≤ w1.heap.size := Nat.le_refl _
  clear hb1 ho1
  go_wp2_with fail
  refine (I.game x0 x1 l0 l1 _).mono ?_
  rintro e w2 ⟨TG, cG, rfl, hb2, ho2⟩
  have G := Lib.hid ho2
  replace V := Lib.hid (keepRows (hb2.mono le_w1) V.out)
  replace le_w := Nat.le_trans le_w hb2.size
  replace le_w1 := Nat.le_trans le_w1 hb2.size
  replace BEL0 := Lib.hid (belT BEL0.out hb2)
  have o_w1_w2 : w1.heap.size ≤ w2.heap.size := le_w1
  have le_w2 : w2.heap.size ≤ w2.heap.size := Nat.le_refl _
  clear hb2 ho2
  go_wp2_with fail
  refine (eqIntSS _ _ _ _ (winG x0 x1) _ _ HSL.out _ (G.out.lt.lt le_w2) (V.out.lt le_w1)).mono ?_
  rintro e w3 ⟨rfl, hq3⟩
  have hb3 : Below w2.heap.size w2 w3 := by obtain ⟨n, rfl⟩ := hq3; exact below_drewN (Below.refl _ _) n
  replace G := Lib.hid (G.out.below (hb3.mono le_w2))
  replace V := Lib.hid (keepRows (hb3.mono le_w1) V.out)
  replace le_w := Nat.le_trans le_w hb3.size
  replace le_w1 := Nat.le_trans le_w1 hb3.size
  replace le_w2 := Nat.le_trans le_w2 hb3.size
  replace BEL0 := Lib.hid (belT BEL0.out hb3)
  clear hq3 hb3
  have kpos : 0 ≤ 1 := by omega
  go_wp2_with fail
  refine (markIntSS _ _ (winG x0 x1) _ _ 1 (by omega) (by omega) (by omega) (by omega) _ G.out).mono ?_
  rintro e w4 ⟨rfl, hf4, ho4⟩
  replace G := Lib.hid ho4
  replace V := Lib.hid (keepRows (hf4.below (by omega)) V.out)
  have hz4 := hf4.size
  replace le_w : w.heap.size ≤ w4.heap.size := by omega
  replace le_w1 : w1.heap.size ≤ w4.heap.size := by omega
  replace le_w2 : w2.heap.size ≤ w4.heap.size := by omega
  replace BEL0 := Lib.hid (BEL0.out.trans (hf4.below (by omega)))
  clear hf4 hz4 ho4
  have zz : ((1 + (sumN (winG x0 x1) (winG x0 x1).length : Int)) != (1 + (sumN (winG x0 x1) (winG x0 x1).length : Int))) = false := by simp
  go_wp2_with fail
  refine (heldIntSS _ _ (winG x0 x1) _ 1 (by omega) (by omega) (by omega) (by omega) _ G.out.rows2).mono ?_
  rintro e wz ⟨rfl, rfl⟩
  have o_w2_w4 : w2.heap.size ≤ w4.heap.size := le_w2
  have le_w4 : w4.heap.size ≤ w4.heap.size := Nat.le_refl _
  go_wp2_with fail
  refine (I.game x0 x1 l0 l1 _).mono ?_
  rintro e w5 ⟨TH, cH, rfl, hb5, ho5⟩
  have H := Lib.hid ho5
  replace G := Lib.hid (G.out.below (hb5.mono le_w2))
  replace V := Lib.hid (keepRows (hb5.mono le_w1) V.out)
  replace le_w := Nat.le_trans le_w hb5.size
  replace le_w1 := Nat.le_trans le_w1 hb5.size
  replace le_w2 := Nat.le_trans le_w2 hb5.size
  replace le_w4 := Nat.le_trans le_w4 hb5.size
  replace BEL0 := Lib.hid (belT BEL0.out hb5)
  have o_w4_w5 : w4.heap.size ≤ w5.heap.size := le_w4
  have le_w5 : w5.heap.size ≤ w5.heap.size := Nat.le_refl _
  clear hb5 ho5
  go_wp2_with fail
  refine (eqIntSS _ _ _ _ (winG x0 x1) _ _ HSL.out _ (H.out.lt.lt le_w5) (V.out.lt le_w1)).mono ?_
  rintro e w6 ⟨rfl, hq6⟩
  have hb6 : Below w5.heap.size w5 w6 := by obtain ⟨n, rfl⟩ := hq6; exact below_drewN (Below.refl _ _) n
  replace G := Lib.hid (G.out.below (hb6.mono le_w2))
  replace H := Lib.hid (H.out.below (hb6.mono le_w5))
  replace V := Lib.hid (keepRows (hb6.mono le_w1) V.out)
  replace le_w := Nat.le_trans le_w hb6.size
  replace le_w1 := Nat.le_trans le_w1 hb6.size
  replace le_w2 := Nat.le_trans le_w2 hb6.size
  replace le_w4 := Nat.le_trans le_w4 hb6.size
  replace le_w5 := Nat.le_trans le_w5 hb6.size
  replace BEL0 := Lib.hid (belT BEL0.out hb6)
  clear hq6 hb6
  clear H
  clear V
  go_wp2_with fail
  refine (heldIntSS _ _ (winG x0 x1) _ 1 (by omega) (by omega) (by omega) (by omega) _ G.out.rows2).mono ?_
  rintro e wz ⟨rfl, rfl⟩
  go_wp2_with fail
  go_ret
  exact Adds.of rfl BEL0.out

set_option maxHeartbeats 4000000 in
set_option maxRecDepth 100000 in
theorem wFnExactRingGame (I : Impl7) (x0 : Int) (l0 : (Lit.int .i64 x0).wf = true) (x1 : Int) (l1 : (Lit.int .i64 x1).wf = true) (w : World)  :
    Calls Try.prog 12 #[.int .i64 x0, .int .i64 x1] w (Adds (.bool true) w) := by
  have le_w : w.heap.size ≤ w.heap.size := Nat.le_refl _
  have hsl := (rinG_len x0 x1).1
  have hsu : sumN (rinG x0 x1) (rinG x0 x1).length ≤ 16 * (rinG x0 x1).length := sumN_le _ 16 _ (rinG_len x0 x1).2
  have HSL : Hid ((rinG x0 x1).length ≤ maxLen) := by show _ ≤ _; unfold maxLen; omega
  go_enter Try.func12, Try.ntmps12
  go_wp2_with fail
  refine (rinGame_spec x0 x1 _).mono ?_
  rintro e w1 ⟨TV, cV, rfl, hb1, ho1⟩
  have V := Lib.hid ho1.lt
  replace le_w := Nat.le_trans le_w hb1.size
  have BEL0 := Lib.hid hb1
  have o_w_w1 : w.heap.size ≤ w1.heap.size := le_w
  have le_w1 : w1.heap.size ≤ w1.heap.size := Nat.le_refl _
  clear hb1 ho1
  go_wp2_with fail
  refine (I.ring x0 x1 l0 l1 _).mono ?_
  rintro e w2 ⟨TG, cG, rfl, hb2, ho2⟩
  have G := Lib.hid ho2
  replace V := Lib.hid (keepRows (hb2.mono le_w1) V.out)
  replace le_w := Nat.le_trans le_w hb2.size
  replace le_w1 := Nat.le_trans le_w1 hb2.size
  replace BEL0 := Lib.hid (belT BEL0.out hb2)
  have o_w1_w2 : w1.heap.size ≤ w2.heap.size := le_w1
  have le_w2 : w2.heap.size ≤ w2.heap.size := Nat.le_refl _
  clear hb2 ho2
  go_wp2_with fail
  refine (eqIntSS _ _ _ _ (rinG x0 x1) _ _ HSL.out _ (G.out.lt.lt le_w2) (V.out.lt le_w1)).mono ?_
  rintro e w3 ⟨rfl, hq3⟩
  have hb3 : Below w2.heap.size w2 w3 := by obtain ⟨n, rfl⟩ := hq3; exact below_drewN (Below.refl _ _) n
  replace G := Lib.hid (G.out.below (hb3.mono le_w2))
  replace V := Lib.hid (keepRows (hb3.mono le_w1) V.out)
  replace le_w := Nat.le_trans le_w hb3.size
  replace le_w1 := Nat.le_trans le_w1 hb3.size
  replace le_w2 := Nat.le_trans le_w2 hb3.size
  replace BEL0 := Lib.hid (belT BEL0.out hb3)
  clear hq3 hb3
  have kpos : 0 ≤ 1 := by omega
  go_wp2_with fail
  refine (markIntSS _ _ (rinG x0 x1) _ _ 1 (by omega) (by omega) (by omega) (by omega) _ G.out).mono ?_
  rintro e w4 ⟨rfl, hf4, ho4⟩
  replace G := Lib.hid ho4
  replace V := Lib.hid (keepRows (hf4.below (by omega)) V.out)
  have hz4 := hf4.size
  replace le_w : w.heap.size ≤ w4.heap.size := by omega
  replace le_w1 : w1.heap.size ≤ w4.heap.size := by omega
  replace le_w2 : w2.heap.size ≤ w4.heap.size := by omega
  replace BEL0 := Lib.hid (BEL0.out.trans (hf4.below (by omega)))
  clear hf4 hz4 ho4
  have zz : ((1 + (sumN (rinG x0 x1) (rinG x0 x1).length : Int)) != (1 + (sumN (rinG x0 x1) (rinG x0 x1).length : Int))) = false := by simp
  go_wp2_with fail
  refine (heldIntSS _ _ (rinG x0 x1) _ 1 (by omega) (by omega) (by omega) (by omega) _ G.out.rows2).mono ?_
  rintro e wz ⟨rfl, rfl⟩
  have o_w2_w4 : w2.heap.size ≤ w4.heap.size := le_w2
  have le_w4 : w4.heap.size ≤ w4.heap.size := Nat.le_refl _
  go_wp2_with fail
  refine (I.ring x0 x1 l0 l1 _).mono ?_
  rintro e w5 ⟨TH, cH, rfl, hb5, ho5⟩
  have H := Lib.hid ho5
  replace G := Lib.hid (G.out.below (hb5.mono le_w2))
  replace V := Lib.hid (keepRows (hb5.mono le_w1) V.out)
  replace le_w := Nat.le_trans le_w hb5.size
  replace le_w1 := Nat.le_trans le_w1 hb5.size
  replace le_w2 := Nat.le_trans le_w2 hb5.size
  replace le_w4 := Nat.le_trans le_w4 hb5.size
  replace BEL0 := Lib.hid (belT BEL0.out hb5)
  have o_w4_w5 : w4.heap.size ≤ w5.heap.size := le_w4
  have le_w5 : w5.heap.size ≤ w5.heap.size := Nat.le_refl _
  clear hb5 ho5
  go_wp2_with fail
  refine (eqIntSS _ _ _ _ (rinG x0 x1) _ _ HSL.out _ (H.out.lt.lt le_w5) (V.out.lt le_w1)).mono ?_
  rintro e w6 ⟨rfl, hq6⟩
  have hb6 : Below w5.heap.size w5 w6 := by obtain ⟨n, rfl⟩ := hq6; exact below_drewN (Below.refl _ _) n
  replace G := Lib.hid (G.out.below (hb6.mono le_w2))
  replace H := Lib.hid (H.out.below (hb6.mono le_w5))
  replace V := Lib.hid (keepRows (hb6.mono le_w1) V.out)
  replace le_w := Nat.le_trans le_w hb6.size
  replace le_w1 := Nat.le_trans le_w1 hb6.size
  replace le_w2 := Nat.le_trans le_w2 hb6.size
  replace le_w4 := Nat.le_trans le_w4 hb6.size
  replace le_w5 := Nat.le_trans le_w5 hb6.size
  replace BEL0 := Lib.hid (belT BEL0.out hb6)
  clear hq6 hb6
  clear H
  clear V
  go_wp2_with fail
  refine (heldIntSS _ _ (rinG x0 x1) _ 1 (by omega) (by omega) (by omega) (by omega) _ G.out.rows2).mono ?_
  rintro e wz ⟨rfl, rfl⟩
  go_wp2_with fail
  go_ret
  exact Adds.of rfl BEL0.out

end Go.Proofs.Ythdlepfkifngmaa
