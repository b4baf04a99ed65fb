/- The walk of the exact law of BestRows, over contracts of the program's functions. (Written by wip/gen/exm.py.) -/
import Derived.Test.YtjojilimdhekfaaExactM
namespace Go.Proofs.Ytjojilimdhekfaa
set_option linter.unusedSimpArgs false
set_option linter.unusedVariables false
open Go.RowKit

theorem own_row {w w' : World} {l : List Int} (hs : w.heap.size < w'.heap.size) (h : IntRow w' w.heap.size l) : OwnI w' w.heap.size w'.heap.size (some ⟨w.heap.size, 0, none⟩) l :=
  fun _ => ⟨w.heap.size, l.length, _, rfl, Nat.le_refl _, hs, h, Nat.le_refl _, fun _ _ => rfl⟩

set_option maxHeartbeats 4000000 in
set_option maxRecDepth 100000 in
theorem wFnExactBestRows (I : Impl3) (A0 : Option Addr) (c0 : Nat) (x0 : List (List Int)) (l0 : x0.length ≤ maxLen) (A1 : Option Addr) (c1 : Nat) (x1 : List Int) (l1 : x1.length ≤ maxLen) (w : World) (r0 : Rows2 w (· < w.heap.size) A0 x0) (r1 : Ints w (· < w.heap.size) A1 x1) :
    Calls Try.prog 12 #[.slice A0 x0.length c0, .slice A1 x1.length c1] w (Adds (.bool true) w) := by
  have R0 := Lib.hid r0
  clear r0
  have R1 := Lib.hid r1
  clear r1
  have le_w : w.heap.size ≤ w.heap.size := Nat.le_refl _
  have hsl := bestL_len x0 x1
  have HSL : Hid ((bestL x0 x1).length ≤ maxLen) := by show _ ≤ _; unfold maxLen; omega
  have m1 := l1
  unfold maxLen at m1
  by_cases big1 : (1048576 : Int) < (x1.length : Int)
  · go_enter Try.func12, Try.ntmps12
    go_wp2_with fail
    go_ret
    exact Adds.of rfl (Below.refl _ _)
  have s1 : x1.length ≤ 1048576 := by omega
  go_enter Try.func12, Try.ntmps12
  go_wp2_with fail
  refine (szIntSS A0 c0 x0 _ 1048576 l0 (by omega) (by omega) _ R0.out).mono ?_
  rintro e wz ⟨q0, rfl, rfl, hq0⟩
  by_cases hz0 : q0 < 0
  · clear hq0
    go_wp2_with fail
    go_ret
    exact Adds.of rfl (Below.refl _ _)
  have hsum0 : (x0.length : Int) + (sumN x0 x0.length : Nat) ≤ 1048576 := by omega
  have hm0 : ∀ i, i < x0.length → (rowAt x0 i).length ≤ 4294967296 := fun i hi => by have := row_le_sumN x0 hi; omega
  have hmm0 : ∀ i, i < x0.length → (rowAt x0 i).length ≤ maxLen := fun i hi => by have := hm0 i hi; unfold maxLen; omega
  have HM0 := Lib.hid hm0
  have HN0 := Lib.hid hmm0
  have t0 : x0.length ≤ 4294967296 := by omega
  have st0 : sumN x0 x0.length ≤ 1048576 := by omega
  clear hq0 hsum0 hm0 hmm0
  go_wp2_with fail
  refine (toIntSS A0 c0 x0 t0 HM0.out _ (Lib.hid (R0.out.lt le_w)).out).mono ?_
  rintro e w1 ⟨rfl, hL1⟩
  have S0 := Lib.hid (Laid.own hL1 HN0.out)
  have hb1 := NewRows.bel hL1
  replace R0 := Lib.hid (keepRows (hb1.mono le_w) R0.out)
  replace R1 := Lib.hid (keepInts (hb1.mono le_w) R1.out)
  replace le_w := Nat.le_trans le_w hb1.size
  have BEL0 := Lib.hid hb1
  have o_w_w1 : w.heap.size ≤ w1.heap.size := le_w
  have le_w1 : w1.heap.size ≤ w1.heap.size := Nat.le_refl _
  clear hb1 hL1
  go_wp2_with fail
  refine (toIntS A1 c1 x1 (by omega) _ (Lib.hid (R1.out.lt le_w)).out).mono ?_
  rintro e w2 ⟨⟨rfl, hb2, hs2, hr2⟩, hz2⟩
  clear hz2
  have S1 : Hid (OwnI w2 w1.heap.size w2.heap.size (some ⟨w1.heap.size, 0, none⟩) x1) := own_row hs2 hr2
  replace S0 := Lib.hid (S0.out.below (hb2.mono le_w1))
  replace R0 := Lib.hid (keepRows (hb2.mono le_w) R0.out)
  replace R1 := Lib.hid (keepInts (hb2.mono le_w) R1.out)
  replace le_w := Nat.le_trans le_w hb2.size
  replace le_w1 := Nat.le_trans le_w1 hb2.size
  replace BEL0 := Lib.hid (belT BEL0.out hb2)
  have o_w1_w2 : w1.heap.size ≤ w2.heap.size := le_w1
  have le_w2 : w2.heap.size ≤ w2.heap.size := Nat.le_refl _
  clear hb2 hs2 hr2
  go_wp2_with fail
  refine (best_spec _ _ _ _ x0 x1 l0 (by omega) _ (S0.out.lt.lt le_w1) (S1.out.lt.lt le_w2)).mono ?_
  rintro e w3 ⟨TV, cV, rfl, hb3, ho3⟩
  have V := Lib.hid ho3.lt
  replace S0 := Lib.hid (S0.out.below (hb3.mono le_w1))
  replace S1 := Lib.hid (S1.out.below (hb3.mono le_w2))
  replace R0 := Lib.hid (keepRows (hb3.mono le_w) R0.out)
  replace R1 := Lib.hid (keepInts (hb3.mono le_w) R1.out)
  replace le_w := Nat.le_trans le_w hb3.size
  replace le_w1 := Nat.le_trans le_w1 hb3.size
  replace le_w2 := Nat.le_trans le_w2 hb3.size
  replace BEL0 := Lib.hid (belT BEL0.out hb3)
  have o_w2_w3 : w2.heap.size ≤ w3.heap.size := le_w2
  have le_w3 : w3.heap.size ≤ w3.heap.size := Nat.le_refl _
  clear hb3 ho3
  clear S0
  clear S1
  go_wp2_with fail
  refine (toIntSS A0 c0 x0 t0 HM0.out _ (Lib.hid (R0.out.lt le_w)).out).mono ?_
  rintro e w4 ⟨rfl, hL4⟩
  have X0 := Lib.hid (Laid.own hL4 HN0.out)
  have hb4 := NewRows.bel hL4
  replace R0 := Lib.hid (keepRows (hb4.mono le_w) R0.out)
  replace R1 := Lib.hid (keepInts (hb4.mono le_w) R1.out)
  replace V := Lib.hid (keepInts (hb4.mono le_w3) V.out)
  replace le_w := Nat.le_trans le_w hb4.size
  replace le_w1 := Nat.le_trans le_w1 hb4.size
  replace le_w2 := Nat.le_trans le_w2 hb4.size
  replace le_w3 := Nat.le_trans le_w3 hb4.size
  replace BEL0 := Lib.hid (belT BEL0.out hb4)
  have o_w3_w4 : w3.heap.size ≤ w4.heap.size := le_w3
  have le_w4 : w4.heap.size ≤ w4.heap.size := Nat.le_refl _
  clear hb4 hL4
  go_wp2_with fail
  refine (toIntS A1 c1 x1 (by omega) _ (Lib.hid (R1.out.lt le_w)).out).mono ?_
  rintro e w5 ⟨⟨rfl, hb5, hs5, hr5⟩, hz5⟩
  clear hz5
  have X1 : Hid (OwnI w5 w4.heap.size w5.heap.size (some ⟨w4.heap.size, 0, none⟩) x1) := own_row hs5 hr5
  replace X0 := Lib.hid (X0.out.below (hb5.mono le_w4))
  replace R0 := Lib.hid (keepRows (hb5.mono le_w) R0.out)
  replace R1 := Lib.hid (keepInts (hb5.mono le_w) R1.out)
  replace V := Lib.hid (keepInts (hb5.mono le_w3) V.out)
  replace le_w := Nat.le_trans le_w hb5.size
  replace le_w1 := Nat.le_trans le_w1 hb5.size
  replace le_w2 := Nat.le_trans le_w2 hb5.size
  replace le_w3 := Nat.le_trans le_w3 hb5.size
  replace le_w4 := Nat.le_trans le_w4 hb5.size
  replace BEL0 := Lib.hid (belT BEL0.out hb5)
  have o_w4_w5 : w4.heap.size ≤ w5.heap.size := le_w4
  have le_w5 : w5.heap.size ≤ w5.heap.size := Nat.le_refl _
  clear hb5 hs5 hr5
  go_wp2_with fail
  refine (I.best _ _ _ _ x0 x1 l0 (by omega) _ (X0.out.lt.lt le_w4) (X1.out.lt.lt le_w5)).mono ?_
  rintro e w6 ⟨TG, cG, rfl, hb6, ho6⟩
  have G := Lib.hid ho6
  replace X0 := Lib.hid (X0.out.below (hb6.mono le_w4))
  replace X1 := Lib.hid (X1.out.below (hb6.mono le_w5))
  replace R0 := Lib.hid (keepRows (hb6.mono le_w) R0.out)
  replace R1 := Lib.hid (keepInts (hb6.mono le_w) R1.out)
  replace V := Lib.hid (keepInts (hb6.mono le_w3) V.out)
  replace le_w := Nat.le_trans le_w hb6.size
  replace le_w1 := Nat.le_trans le_w1 hb6.size
  replace le_w2 := Nat.le_trans le_w2 hb6.size
  replace le_w3 := Nat.le_trans le_w3 hb6.size
  replace le_w4 := Nat.le_trans le_w4 hb6.size
  replace le_w5 := Nat.le_trans le_w5 hb6.size
  replace BEL0 := Lib.hid (belT BEL0.out hb6)
  have o_w5_w6 : w5.heap.size ≤ w6.heap.size := le_w5
  have le_w6 : w6.heap.size ≤ w6.heap.size := Nat.le_refl _
  clear hb6 ho6
  go_wp2_with fail
  refine (eqIntS _ _ _ _ (bestL x0 x1) _ _ HSL.out _ (G.out.lt.lt le_w6) (V.out.lt le_w3)).mono ?_
  rintro e w7 ⟨rfl, hq7⟩
  have hb7 : Below w6.heap.size w6 w7 := by obtain ⟨n, rfl⟩ := hq7; exact below_drewN (Below.refl _ _) n
  replace X0 := Lib.hid (X0.out.below (hb7.mono le_w4))
  replace X1 := Lib.hid (X1.out.below (hb7.mono le_w5))
  replace G := Lib.hid (G.out.below (hb7.mono le_w6))
  replace R0 := Lib.hid (keepRows (hb7.mono le_w) R0.out)
  replace R1 := Lib.hid (keepInts (hb7.mono le_w) R1.out)
  replace V := Lib.hid (keepInts (hb7.mono le_w3) V.out)
  replace le_w := Nat.le_trans le_w hb7.size
  replace le_w1 := Nat.le_trans le_w1 hb7.size
  replace le_w2 := Nat.le_trans le_w2 hb7.size
  replace le_w3 := Nat.le_trans le_w3 hb7.size
  replace le_w4 := Nat.le_trans le_w4 hb7.size
  replace le_w5 := Nat.le_trans le_w5 hb7.size
  replace le_w6 := Nat.le_trans le_w6 hb7.size
  replace BEL0 := Lib.hid (belT BEL0.out hb7)
  clear hq7 hb7
  have o_w6_w7 : w6.heap.size ≤ w7.heap.size := le_w6
  have le_w7 : w7.heap.size ≤ w7.heap.size := Nat.le_refl _
  go_wp2_with fail
  refine (toIntSS A0 c0 x0 t0 HM0.out _ (Lib.hid (R0.out.lt le_w)).out).mono ?_
  rintro e w8 ⟨rfl, hL8⟩
  have E0 := Lib.hid (Laid.own hL8 HN0.out)
  have hb8 := NewRows.bel hL8
  replace X0 := Lib.hid (X0.out.below (hb8.mono le_w4))
  replace X1 := Lib.hid (X1.out.below (hb8.mono le_w5))
  replace G := Lib.hid (G.out.below (hb8.mono le_w6))
  replace R0 := Lib.hid (keepRows (hb8.mono le_w) R0.out)
  replace R1 := Lib.hid (keepInts (hb8.mono le_w) R1.out)
  replace V := Lib.hid (keepInts (hb8.mono le_w3) V.out)
  replace le_w := Nat.le_trans le_w hb8.size
  replace le_w1 := Nat.le_trans le_w1 hb8.size
  replace le_w2 := Nat.le_trans le_w2 hb8.size
  replace le_w3 := Nat.le_trans le_w3 hb8.size
  replace le_w4 := Nat.le_trans le_w4 hb8.size
  replace le_w5 := Nat.le_trans le_w5 hb8.size
  replace le_w6 := Nat.le_trans le_w6 hb8.size
  replace le_w7 := Nat.le_trans le_w7 hb8.size
  replace BEL0 := Lib.hid (belT BEL0.out hb8)
  have o_w7_w8 : w7.heap.size ≤ w8.heap.size := le_w7
  have le_w8 : w8.heap.size ≤ w8.heap.size := Nat.le_refl _
  clear hb8 hL8
  go_wp2_with fail
  refine (eqIntSS _ _ _ _ x0 _ _ l0 _ (X0.out.lt.lt le_w4) (E0.out.lt.lt le_w8)).mono ?_
  rintro e w9 ⟨rfl, hq9⟩
  have hb9 : Below w8.heap.size w8 w9 := by obtain ⟨n, rfl⟩ := hq9; exact below_drewN (Below.refl _ _) n
  replace X0 := Lib.hid (X0.out.below (hb9.mono le_w4))
  replace X1 := Lib.hid (X1.out.below (hb9.mono le_w5))
  replace G := Lib.hid (G.out.below (hb9.mono le_w6))
  replace E0 := Lib.hid (E0.out.below (hb9.mono le_w8))
  replace R0 := Lib.hid (keepRows (hb9.mono le_w) R0.out)
  replace R1 := Lib.hid (keepInts (hb9.mono le_w) R1.out)
  replace V := Lib.hid (keepInts (hb9.mono le_w3) V.out)
  replace le_w := Nat.le_trans le_w hb9.size
  replace le_w1 := Nat.le_trans le_w1 hb9.size
  replace le_w2 := Nat.le_trans le_w2 hb9.size
  replace le_w3 := Nat.le_trans le_w3 hb9.size
  replace le_w4 := Nat.le_trans le_w4 hb9.size
  replace le_w5 := Nat.le_trans le_w5 hb9.size
  replace le_w6 := Nat.le_trans le_w6 hb9.size
  replace le_w7 := Nat.le_trans le_w7 hb9.size
  replace le_w8 := Nat.le_trans le_w8 hb9.size
  replace BEL0 := Lib.hid (belT BEL0.out hb9)
  clear hq9 hb9
  clear E0
  have o_w8_w9 : w8.heap.size ≤ w9.heap.size := le_w8
  have le_w9 : w9.heap.size ≤ w9.heap.size := Nat.le_refl _
  go_wp2_with fail
  refine (toIntS A1 c1 x1 (by omega) _ (Lib.hid (R1.out.lt le_w)).out).mono ?_
  rintro e w10 ⟨⟨rfl, hb10, hs10, hr10⟩, hz10⟩
  clear hz10
  have E1 : Hid (OwnI w10 w9.heap.size w10.heap.size (some ⟨w9.heap.size, 0, none⟩) x1) := own_row hs10 hr10
  replace X0 := Lib.hid (X0.out.below (hb10.mono le_w4))
  replace X1 := Lib.hid (X1.out.below (hb10.mono le_w5))
  replace G := Lib.hid (G.out.below (hb10.mono le_w6))
  replace R0 := Lib.hid (keepRows (hb10.mono le_w) R0.out)
  replace R1 := Lib.hid (keepInts (hb10.mono le_w) R1.out)
  replace V := Lib.hid (keepInts (hb10.mono le_w3) V.out)
  replace le_w := Nat.le_trans le_w hb10.size
  replace le_w1 := Nat.le_trans le_w1 hb10.size
  replace le_w2 := Nat.le_trans le_w2 hb10.size
  replace le_w3 := Nat.le_trans le_w3 hb10.size
  replace le_w4 := Nat.le_trans le_w4 hb10.size
  replace le_w5 := Nat.le_trans le_w5 hb10.size
  replace le_w6 := Nat.le_trans le_w6 hb10.size
  replace le_w7 := Nat.le_trans le_w7 hb10.size
  replace le_w8 := Nat.le_trans le_w8 hb10.size
  replace le_w9 := Nat.le_trans le_w9 hb10.size
  replace BEL0 := Lib.hid (belT BEL0.out hb10)
  have o_w9_w10 : w9.heap.size ≤ w10.heap.size := le_w9
  have le_w10 : w10.heap.size ≤ w10.heap.size := Nat.le_refl _
  clear hb10 hs10 hr10
  go_wp2_with fail
  refine (eqIntS _ _ _ _ x1 _ _ l1 _ (X1.out.lt.lt le_w5) (E1.out.lt.lt le_w10)).mono ?_
  rintro e w11 ⟨rfl, hq11⟩
  have hb11 : Below w10.heap.size w10 w11 := by obtain ⟨n, rfl⟩ := hq11; exact below_drewN (Below.refl _ _) n
  replace X0 := Lib.hid (X0.out.below (hb11.mono le_w4))
  replace X1 := Lib.hid (X1.out.below (hb11.mono le_w5))
  replace G := Lib.hid (G.out.below (hb11.mono le_w6))
  replace E1 := Lib.hid (E1.out.below (hb11.mono le_w10))
  replace R0 := Lib.hid (keepRows (hb11.mono le_w) R0.out)
  replace R1 := Lib.hid (keepInts (hb11.mono le_w) R1.out)
  replace V := Lib.hid (keepInts (hb11.mono le_w3) V.out)
  replace le_w := Nat.le_trans le_w hb11.size
  replace le_w1 := Nat.le_trans le_w1 hb11.size
  replace le_w2 := Nat.le_trans le_w2 hb11.size
  replace le_w3 := Nat.le_trans le_w3 hb11.size
  replace le_w4 := Nat.le_trans le_w4 hb11.size
  replace le_w5 := Nat.le_trans le_w5 hb11.size
  replace le_w6 := Nat.le_trans le_w6 hb11.size
  replace le_w7 := Nat.le_trans le_w7 hb11.size
  replace le_w8 := Nat.le_trans le_w8 hb11.size
  replace le_w9 := Nat.le_trans le_w9 hb11.size
  replace le_w10 := Nat.le_trans le_w10 hb11.size
  replace BEL0 := Lib.hid (belT BEL0.out hb11)
  clear hq11 hb11
  clear E1
  go_wp2_with fail
  refine (markIntSS _ _ x0 _ _ 1 t0 (by omega) (by omega) (by omega) _ X0.out).mono ?_
  rintro e w12 ⟨rfl, hf12, ho12⟩
  replace X0 := Lib.hid ho12
  replace X1 := Lib.hid (X1.out.off hf12 (by omega))
  replace G := Lib.hid (G.out.off hf12 (by omega))
  replace R0 := Lib.hid (keepRows (hf12.below (by omega)) R0.out)
  replace R1 := Lib.hid (keepInts (hf12.below (by omega)) R1.out)
  replace V := Lib.hid (keepInts (hf12.below (by omega)) V.out)
  have hz12 := hf12.size
  replace le_w : w.heap.size ≤ w12.heap.size := by omega
  replace le_w1 : w1.heap.size ≤ w12.heap.size := by omega
  replace le_w2 : w2.heap.size ≤ w12.heap.size := by omega
  replace le_w3 : w3.heap.size ≤ w12.heap.size := by omega
  replace le_w4 : w4.heap.size ≤ w12.heap.size := by omega
  replace le_w5 : w5.heap.size ≤ w12.heap.size := by omega
  replace le_w6 : w6.heap.size ≤ w12.heap.size := by omega
  replace le_w7 : w7.heap.size ≤ w12.heap.size := by omega
  replace le_w8 : w8.heap.size ≤ w12.heap.size := by omega
  replace le_w9 : w9.heap.size ≤ w12.heap.size := by omega
  replace le_w10 : w10.heap.size ≤ w12.heap.size := by omega
  replace BEL0 := Lib.hid (BEL0.out.trans (hf12.below (by omega)))
  clear hf12 hz12 ho12
  clear X0
  go_wp2_with fail
  refine (markIntS _ _ x1 _ _ (1 + (sumN x0 x0.length : Int)) (by omega) (by omega) (by omega) _ X1.out).mono ?_
  rintro e w13 ⟨rfl, ht13, ho13⟩
  have hf13 := ht13.off X1.out
  clear ht13
  replace X1 := Lib.hid ho13
  replace G := Lib.hid (G.out.off hf13 (by omega))
  replace R0 := Lib.hid (keepRows (hf13.below (by omega)) R0.out)
  replace R1 := Lib.hid (keepInts (hf13.below (by omega)) R1.out)
  replace V := Lib.hid (keepInts (hf13.below (by omega)) V.out)
  have hz13 := hf13.size
  replace le_w : w.heap.size ≤ w13.heap.size := by omega
  replace le_w1 : w1.heap.size ≤ w13.heap.size := by omega
  replace le_w2 : w2.heap.size ≤ w13.heap.size := by omega
  replace le_w3 : w3.heap.size ≤ w13.heap.size := by omega
  replace le_w4 : w4.heap.size ≤ w13.heap.size := by omega
  replace le_w5 : w5.heap.size ≤ w13.heap.size := by omega
  replace le_w6 : w6.heap.size ≤ w13.heap.size := by omega
  replace le_w7 : w7.heap.size ≤ w13.heap.size := by omega
  replace le_w8 : w8.heap.size ≤ w13.heap.size := by omega
  replace le_w9 : w9.heap.size ≤ w13.heap.size := by omega
  replace le_w10 : w10.heap.size ≤ w13.heap.size := by omega
  replace BEL0 := Lib.hid (BEL0.out.trans (hf13.below (by omega)))
  clear hf13 hz13 ho13
  clear X1
  have kpos : 0 ≤ ((1 + (sumN x0 x0.length : Int)) + (x1.length : Int)) := by omega
  go_wp2_with fail
  refine (eqIntS _ _ _ _ (bestL x0 x1) _ _ HSL.out _ (G.out.lt.lt le_w6) (V.out.lt le_w3)).mono ?_
  rintro e w14 ⟨rfl, hq14⟩
  have hb14 : Below w13.heap.size w13 w14 := by obtain ⟨n, rfl⟩ := hq14; exact below_drewN (Below.refl _ _) n
  replace G := Lib.hid (G.out.below (hb14.mono le_w6))
  replace R0 := Lib.hid (keepRows (hb14.mono le_w) R0.out)
  replace R1 := Lib.hid (keepInts (hb14.mono le_w) R1.out)
  replace V := Lib.hid (keepInts (hb14.mono le_w3) V.out)
  replace le_w := Nat.le_trans le_w hb14.size
  replace le_w1 := Nat.le_trans le_w1 hb14.size
  replace le_w2 := Nat.le_trans le_w2 hb14.size
  replace le_w3 := Nat.le_trans le_w3 hb14.size
  replace le_w4 := Nat.le_trans le_w4 hb14.size
  replace le_w5 := Nat.le_trans le_w5 hb14.size
  replace le_w6 := Nat.le_trans le_w6 hb14.size
  replace le_w7 := Nat.le_trans le_w7 hb14.size
  replace le_w8 := Nat.le_trans le_w8 hb14.size
  replace le_w9 := Nat.le_trans le_w9 hb14.size
  replace le_w10 := Nat.le_trans le_w10 hb14.size
  replace BEL0 := Lib.hid (belT BEL0.out hb14)
  clear hq14 hb14
  go_wp2_with fail
  refine (markIntS _ _ (bestL x0 x1) _ _ 1 (by omega) (by omega) (by omega) _ G.out).mono ?_
  rintro e w15 ⟨rfl, ht15, ho15⟩
  have hf15 := ht15.off G.out
  clear ht15
  replace G := Lib.hid ho15
  replace R0 := Lib.hid (keepRows (hf15.below (by omega)) R0.out)
  replace R1 := Lib.hid (keepInts (hf15.below (by omega)) R1.out)
  replace V := Lib.hid (keepInts (hf15.below (by omega)) V.out)
  have hz15 := hf15.size
  replace le_w : w.heap.size ≤ w15.heap.size := by omega
  replace le_w1 : w1.heap.size ≤ w15.heap.size := by omega
  replace le_w2 : w2.heap.size ≤ w15.heap.size := by omega
  replace le_w3 : w3.heap.size ≤ w15.heap.size := by omega
  replace le_w4 : w4.heap.size ≤ w15.heap.size := by omega
  replace le_w5 : w5.heap.size ≤ w15.heap.size := by omega
  replace le_w6 : w6.heap.size ≤ w15.heap.size := by omega
  replace le_w7 : w7.heap.size ≤ w15.heap.size := by omega
  replace le_w8 : w8.heap.size ≤ w15.heap.size := by omega
  replace le_w9 : w9.heap.size ≤ w15.heap.size := by omega
  replace le_w10 : w10.heap.size ≤ w15.heap.size := by omega
  replace BEL0 := Lib.hid (BEL0.out.trans (hf15.below (by omega)))
  clear hf15 hz15 ho15
  have zz : ((1 + ((bestL x0 x1).length : Int)) != (1 + ((bestL x0 x1).length : Int))) = false := by simp
  go_wp2_with fail
  refine (heldIntS _ _ (bestL x0 x1).length _ 1 (by omega) (by omega) (by omega) _ G.out.ints).mono ?_
  rintro e wz ⟨rfl, rfl⟩
  have o_w10_w15 : w10.heap.size ≤ w15.heap.size := le_w10
  have le_w15 : w15.heap.size ≤ w15.heap.size := Nat.le_refl _
  go_wp2_with fail
  refine (toIntSS A0 c0 x0 t0 HM0.out _ (Lib.hid (R0.out.lt le_w)).out).mono ?_
  rintro e w16 ⟨rfl, hL16⟩
  have Q0 := Lib.hid (Laid.own hL16 HN0.out)
  have hb16 := NewRows.bel hL16
  replace G := Lib.hid (G.out.below (hb16.mono le_w6))
  replace R0 := Lib.hid (keepRows (hb16.mono le_w) R0.out)
  replace R1 := Lib.hid (keepInts (hb16.mono le_w) R1.out)
  replace V := Lib.hid (keepInts (hb16.mono le_w3) V.out)
  replace le_w := Nat.le_trans le_w hb16.size
  replace le_w1 := Nat.le_trans le_w1 hb16.size
  replace le_w2 := Nat.le_trans le_w2 hb16.size
  replace le_w3 := Nat.le_trans le_w3 hb16.size
  replace le_w4 := Nat.le_trans le_w4 hb16.size
  replace le_w5 := Nat.le_trans le_w5 hb16.size
  replace le_w6 := Nat.le_trans le_w6 hb16.size
  replace le_w7 := Nat.le_trans le_w7 hb16.size
  replace le_w8 := Nat.le_trans le_w8 hb16.size
  replace le_w9 := Nat.le_trans le_w9 hb16.size
  replace le_w10 := Nat.le_trans le_w10 hb16.size
  replace le_w15 := Nat.le_trans le_w15 hb16.size
  replace BEL0 := Lib.hid (belT BEL0.out hb16)
  have o_w15_w16 : w15.heap.size ≤ w16.heap.size := le_w15
  have le_w16 : w16.heap.size ≤ w16.heap.size := Nat.le_refl _
  clear hb16 hL16
  go_wp2_with fail
  refine (toIntS A1 c1 x1 (by omega) _ (Lib.hid (R1.out.lt le_w)).out).mono ?_
  rintro e w17 ⟨⟨rfl, hb17, hs17, hr17⟩, hz17⟩
  clear hz17
  have Q1 : Hid (OwnI w17 w16.heap.size w17.heap.size (some ⟨w16.heap.size, 0, none⟩) x1) := own_row hs17 hr17
  replace G := Lib.hid (G.out.below (hb17.mono le_w6))
  replace Q0 := Lib.hid (Q0.out.below (hb17.mono le_w16))
  replace R0 := Lib.hid (keepRows (hb17.mono le_w) R0.out)
  replace R1 := Lib.hid (keepInts (hb17.mono le_w) R1.out)
  replace V := Lib.hid (keepInts (hb17.mono le_w3) V.out)
  replace le_w := Nat.le_trans le_w hb17.size
  replace le_w1 := Nat.le_trans le_w1 hb17.size
  replace le_w2 := Nat.le_trans le_w2 hb17.size
  replace le_w3 := Nat.le_trans le_w3 hb17.size
  replace le_w4 := Nat.le_trans le_w4 hb17.size
  replace le_w5 := Nat.le_trans le_w5 hb17.size
  replace le_w6 := Nat.le_trans le_w6 hb17.size
  replace le_w7 := Nat.le_trans le_w7 hb17.size
  replace le_w8 := Nat.le_trans le_w8 hb17.size
  replace le_w9 := Nat.le_trans le_w9 hb17.size
  replace le_w10 := Nat.le_trans le_w10 hb17.size
  replace le_w15 := Nat.le_trans le_w15 hb17.size
  replace le_w16 := Nat.le_trans le_w16 hb17.size
  replace BEL0 := Lib.hid (belT BEL0.out hb17)
  have o_w16_w17 : w16.heap.size ≤ w17.heap.size := le_w16
  have le_w17 : w17.heap.size ≤ w17.heap.size := Nat.le_refl _
  clear hb17 hs17 hr17
  go_wp2_with fail
  refine (I.best _ _ _ _ x0 x1 l0 (by omega) _ (Q0.out.lt.lt le_w16) (Q1.out.lt.lt le_w17)).mono ?_
  rintro e w18 ⟨TH, cH, rfl, hb18, ho18⟩
  have H := Lib.hid ho18
  replace G := Lib.hid (G.out.below (hb18.mono le_w6))
  replace Q0 := Lib.hid (Q0.out.below (hb18.mono le_w16))
  replace Q1 := Lib.hid (Q1.out.below (hb18.mono le_w17))
  replace R0 := Lib.hid (keepRows (hb18.mono le_w) R0.out)
  replace R1 := Lib.hid (keepInts (hb18.mono le_w) R1.out)
  replace V := Lib.hid (keepInts (hb18.mono le_w3) V.out)
  replace le_w := Nat.le_trans le_w hb18.size
  replace le_w1 := Nat.le_trans le_w1 hb18.size
  replace le_w2 := Nat.le_trans le_w2 hb18.size
  replace le_w3 := Nat.le_trans le_w3 hb18.size
  replace le_w4 := Nat.le_trans le_w4 hb18.size
  replace le_w5 := Nat.le_trans le_w5 hb18.size
  replace le_w6 := Nat.le_trans le_w6 hb18.size
  replace le_w7 := Nat.le_trans le_w7 hb18.size
  replace le_w8 := Nat.le_trans le_w8 hb18.size
  replace le_w9 := Nat.le_trans le_w9 hb18.size
  replace le_w10 := Nat.le_trans le_w10 hb18.size
  replace le_w15 := Nat.le_trans le_w15 hb18.size
  replace le_w16 := Nat.le_trans le_w16 hb18.size
  replace le_w17 := Nat.le_trans le_w17 hb18.size
  replace BEL0 := Lib.hid (belT BEL0.out hb18)
  have o_w17_w18 : w17.heap.size ≤ w18.heap.size := le_w17
  have le_w18 : w18.heap.size ≤ w18.heap.size := Nat.le_refl _
  clear hb18 ho18
  clear Q0
  clear Q1
  go_wp2_with fail
  refine (eqIntS _ _ _ _ (bestL x0 x1) _ _ HSL.out _ (H.out.lt.lt le_w18) (V.out.lt le_w3)).mono ?_
  rintro e w19 ⟨rfl, hq19⟩
  have hb19 : Below w18.heap.size w18 w19 := by obtain ⟨n, rfl⟩ := hq19; exact below_drewN (Below.refl _ _) n
  replace G := Lib.hid (G.out.below (hb19.mono le_w6))
  replace H := Lib.hid (H.out.below (hb19.mono le_w18))
  replace R0 := Lib.hid (keepRows (hb19.mono le_w) R0.out)
  replace R1 := Lib.hid (keepInts (hb19.mono le_w) R1.out)
  replace V := Lib.hid (keepInts (hb19.mono le_w3) V.out)
  replace le_w := Nat.le_trans le_w hb19.size
  replace le_w1 := Nat.le_trans le_w1 hb19.size
  replace le_w2 := Nat.le_trans le_w2 hb19.size
  replace le_w3 := Nat.le_trans le_w3 hb19.size
  replace le_w4 := Nat.le_trans le_w4 hb19.size
  replace le_w5 := Nat.le_trans le_w5 hb19.size
  replace le_w6 := Nat.le_trans le_w6 hb19.size
  replace le_w7 := Nat.le_trans le_w7 hb19.size
  replace le_w8 := Nat.le_trans le_w8 hb19.size
  replace le_w9 := Nat.le_trans le_w9 hb19.size
  replace le_w10 := Nat.le_trans le_w10 hb19.size
  replace le_w15 := Nat.le_trans le_w15 hb19.size
  replace le_w16 := Nat.le_trans le_w16 hb19.size
  replace le_w17 := Nat.le_trans le_w17 hb19.size
  replace le_w18 := Nat.le_trans le_w18 hb19.size
  replace BEL0 := Lib.hid (belT BEL0.out hb19)
  clear hq19 hb19
  clear H
  clear V
  go_wp2_with fail
  refine (heldIntS _ _ (bestL x0 x1).length _ 1 (by omega) (by omega) (by omega) _ G.out.ints).mono ?_
  rintro e wz ⟨rfl, rfl⟩
  go_wp2_with fail
  go_ret
  exact Adds.of rfl BEL0.out

end Go.Proofs.Ytjojilimdhekfaa
