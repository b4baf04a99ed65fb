/- The walk of the exact law of KernelOf, over contracts of the program's functions. (Written by wip/gen/ex4.py.) -/
import Derived.Test.YtgjbahlebhnoiaaMG
namespace Go.Proofs.Ytgjbahlebhnoiaa
set_option linter.unusedSimpArgs false
set_option linter.unusedVariables false
open Go.RowKit

theorem OwnI.touch {w w' : World} {lo hi n : Nat} {A B : Option Addr} {m : List Int} (h : OwnI w lo hi B m) (ht : Touch n A w w') (hd : 0 < n → 0 < m.length → A.map (·.block) ≠ B.map (·.block)) : OwnI w' lo hi B m := by
  intro h0
  obtain ⟨b, N, f, e, h1, h2, h3, h4, h5⟩ := h h0
  exact ⟨b, N, f, e, h1, h2, h3.of_block (ht.block b (fun hn ea => hd hn h0 (by rw [ea, e]))), h4, h5⟩

set_option maxHeartbeats 4000000 in
set_option maxRecDepth 100000 in
theorem wFnExactKernelOf (I : Impl4) (A0 : Option Addr) (c0 : Nat) (x0 : List (List Int)) (l0 : x0.length ≤ maxLen) (x1 : Int) (l1 : (Lit.int .i64 x1).wf = true) (x2 : Int) (l2 : (Lit.int .i64 x2).wf = true) (w : World) (r0 : Rows2 w (· < w.heap.size) A0 x0) :
    Calls Try.prog 7 #[.slice A0 x0.length c0, .int .i64 x1, .int .i64 x2] w (Adds (.bool true) w) := by
  have R0 := Lib.hid r0
  clear r0
  have le_w : w.heap.size ≤ w.heap.size := Nat.le_refl _
  have hlx := kerX_len x0 x1 x2
  have hly := kerY_len x0 x1 x2
  have HL1 : Hid ((kerX x0 x1 x2).length ≤ maxLen) := by show _ ≤ _; unfold maxLen; omega
  have HL2 : Hid ((kerY x0 x1 x2).length ≤ maxLen) := by show _ ≤ _; unfold maxLen; omega
  have zB : (kerB x0 x1 x2 != kerB x0 x1 x2) = false := by simp
  go_enter Try.func7, Try.ntmps7
  go_wp2_with fail
  refine (szIntSS A0 c0 x0 _ 1048576 l0 (by omega) (by omega) _ R0.out).mono ?_
  rintro e wz ⟨q0, rfl, rfl, hq0⟩
  by_cases hz0 : q0 < 0
  · clear hq0
    go_wp2_with fail
    go_ret
    exact Adds.of rfl (Below.refl _ _)
  have hsum0 : (x0.length : Int) + (sumN x0 x0.length : Nat) ≤ 1048576 := by omega
  have hm0 : ∀ i, i < x0.length → (rowAt x0 i).length ≤ 4294967296 := fun i hi => by have := row_le_sumN x0 hi; omega
  have hmm0 : ∀ i, i < x0.length → (rowAt x0 i).length ≤ maxLen := fun i hi => by have := hm0 i hi; unfold maxLen; omega
  have HM0 := Lib.hid hm0
  have HN0 := Lib.hid hmm0
  have t0 : x0.length ≤ 4294967296 := by omega
  have st0 : sumN x0 x0.length ≤ 1048576 := by omega
  clear hq0 hsum0 hm0 hmm0
  go_wp2_with fail
  refine (toIntSS A0 c0 x0 t0 HM0.out _ (Lib.hid (R0.out.lt le_w)).out).mono ?_
  rintro e w1 ⟨rfl, hL1⟩
  have S0 := Lib.hid (Laid.own hL1 HN0.out)
  have hb1 := NewRows.bel hL1
  replace R0 := Lib.hid (keepRows (hb1.mono le_w) R0.out)
  replace le_w := Nat.le_trans le_w hb1.size
  have BEL0 := Lib.hid hb1
  have o_w_w1 : w.heap.size ≤ w1.heap.size := le_w
  have le_w1 : w1.heap.size ≤ w1.heap.size := Nat.le_refl _
  clear hb1 hL1
  go_wp2_with fail
  refine (ker_spec _ _ x0 x1 x2 l0 _ (S0.out.lt.lt le_w1)).mono ?_
  rintro e w2 ⟨TV1, cV1, TV2, cV2, rfl, hb2, ho2, hp2⟩
  have V1 := Lib.hid ho2.lt
  have V2 := Lib.hid hp2.lt
  replace S0 := Lib.hid (S0.out.below (hb2.mono le_w1))
  replace R0 := Lib.hid (keepRows (hb2.mono le_w) R0.out)
  replace le_w := Nat.le_trans le_w hb2.size
  replace le_w1 := Nat.le_trans le_w1 hb2.size
  replace BEL0 := Lib.hid (belT BEL0.out hb2)
  have o_w1_w2 : w1.heap.size ≤ w2.heap.size := le_w1
  have le_w2 : w2.heap.size ≤ w2.heap.size := Nat.le_refl _
  clear hb2 ho2 hp2
  clear S0
  go_wp2_with fail
  refine (toIntSS A0 c0 x0 t0 HM0.out _ (Lib.hid (R0.out.lt le_w)).out).mono ?_
  rintro e w3 ⟨rfl, hL3⟩
  have X0 := Lib.hid (Laid.own hL3 HN0.out)
  have hb3 := NewRows.bel hL3
  replace R0 := Lib.hid (keepRows (hb3.mono le_w) R0.out)
  replace V1 := Lib.hid (keepInts (hb3.mono le_w2) V1.out)
  replace V2 := Lib.hid (keepInts (hb3.mono le_w2) V2.out)
  replace le_w := Nat.le_trans le_w hb3.size
  replace le_w1 := Nat.le_trans le_w1 hb3.size
  replace le_w2 := Nat.le_trans le_w2 hb3.size
  replace BEL0 := Lib.hid (belT BEL0.out hb3)
  have o_w2_w3 : w2.heap.size ≤ w3.heap.size := le_w2
  have le_w3 : w3.heap.size ≤ w3.heap.size := Nat.le_refl _
  clear hb3 hL3
  go_wp2_with fail
  refine (I.kernel _ _ x0 x1 x2 l0 _ (X0.out.lt.lt le_w3)).mono ?_
  rintro e w4 ⟨TG1, cG1, TG2, cG2, rfl, hb4, ho4, hp4, hd4⟩
  have G1 := Lib.hid ho4
  have G2 := Lib.hid hp4
  have HDG1 := Lib.hid hd4
  clear hd4
  replace X0 := Lib.hid (X0.out.below (hb4.mono le_w3))
  replace R0 := Lib.hid (keepRows (hb4.mono le_w) R0.out)
  replace V1 := Lib.hid (keepInts (hb4.mono le_w2) V1.out)
  replace V2 := Lib.hid (keepInts (hb4.mono le_w2) V2.out)
  replace le_w := Nat.le_trans le_w hb4.size
  replace le_w1 := Nat.le_trans le_w1 hb4.size
  replace le_w2 := Nat.le_trans le_w2 hb4.size
  replace le_w3 := Nat.le_trans le_w3 hb4.size
  replace BEL0 := Lib.hid (belT BEL0.out hb4)
  have o_w3_w4 : w3.heap.size ≤ w4.heap.size := le_w3
  have le_w4 : w4.heap.size ≤ w4.heap.size := Nat.le_refl _
  clear hb4 ho4 hp4
  go_wp2_with fail
  refine (eqIntS _ _ _ _ (kerX x0 x1 x2) _ _ HL1.out _ (G1.out.lt.lt le_w4) (V1.out.lt le_w2)).mono ?_
  rintro e w5 ⟨rfl, hq5⟩
  have hb5 : Below w4.heap.size w4 w5 := by obtain ⟨n, rfl⟩ := hq5; exact below_drewN (Below.refl _ _) n
  replace X0 := Lib.hid (X0.out.below (hb5.mono le_w3))
  replace G1 := Lib.hid (G1.out.below (hb5.mono le_w4))
  replace G2 := Lib.hid (G2.out.below (hb5.mono le_w4))
  replace R0 := Lib.hid (keepRows (hb5.mono le_w) R0.out)
  replace V1 := Lib.hid (keepInts (hb5.mono le_w2) V1.out)
  replace V2 := Lib.hid (keepInts (hb5.mono le_w2) V2.out)
  replace le_w := Nat.le_trans le_w hb5.size
  replace le_w1 := Nat.le_trans le_w1 hb5.size
  replace le_w2 := Nat.le_trans le_w2 hb5.size
  replace le_w3 := Nat.le_trans le_w3 hb5.size
  replace le_w4 := Nat.le_trans le_w4 hb5.size
  replace BEL0 := Lib.hid (belT BEL0.out hb5)
  clear hq5 hb5
  go_wp2_with fail
  refine (eqIntS _ _ _ _ (kerY x0 x1 x2) _ _ HL2.out _ (G2.out.lt.lt le_w4) (V2.out.lt le_w2)).mono ?_
  rintro e w6 ⟨rfl, hq6⟩
  have hb6 : Below w5.heap.size w5 w6 := by obtain ⟨n, rfl⟩ := hq6; exact below_drewN (Below.refl _ _) n
  replace X0 := Lib.hid (X0.out.below (hb6.mono le_w3))
  replace G1 := Lib.hid (G1.out.below (hb6.mono le_w4))
  replace G2 := Lib.hid (G2.out.below (hb6.mono le_w4))
  replace R0 := Lib.hid (keepRows (hb6.mono le_w) R0.out)
  replace V1 := Lib.hid (keepInts (hb6.mono le_w2) V1.out)
  replace V2 := Lib.hid (keepInts (hb6.mono le_w2) V2.out)
  replace le_w := Nat.le_trans le_w hb6.size
  replace le_w1 := Nat.le_trans le_w1 hb6.size
  replace le_w2 := Nat.le_trans le_w2 hb6.size
  replace le_w3 := Nat.le_trans le_w3 hb6.size
  replace le_w4 := Nat.le_trans le_w4 hb6.size
  replace BEL0 := Lib.hid (belT BEL0.out hb6)
  clear hq6 hb6
  have o_w4_w6 : w4.heap.size ≤ w6.heap.size := le_w4
  have le_w6 : w6.heap.size ≤ w6.heap.size := Nat.le_refl _
  go_wp2_with fail
  refine (toIntSS A0 c0 x0 t0 HM0.out _ (Lib.hid (R0.out.lt le_w)).out).mono ?_
  rintro e w7 ⟨rfl, hL7⟩
  have E0 := Lib.hid (Laid.own hL7 HN0.out)
  have hb7 := NewRows.bel hL7
  replace X0 := Lib.hid (X0.out.below (hb7.mono le_w3))
  replace G1 := Lib.hid (G1.out.below (hb7.mono le_w4))
  replace G2 := Lib.hid (G2.out.below (hb7.mono le_w4))
  replace R0 := Lib.hid (keepRows (hb7.mono le_w) R0.out)
  replace V1 := Lib.hid (keepInts (hb7.mono le_w2) V1.out)
  replace V2 := Lib.hid (keepInts (hb7.mono le_w2) V2.out)
  replace le_w := Nat.le_trans le_w hb7.size
  replace le_w1 := Nat.le_trans le_w1 hb7.size
  replace le_w2 := Nat.le_trans le_w2 hb7.size
  replace le_w3 := Nat.le_trans le_w3 hb7.size
  replace le_w4 := Nat.le_trans le_w4 hb7.size
  replace le_w6 := Nat.le_trans le_w6 hb7.size
  replace BEL0 := Lib.hid (belT BEL0.out hb7)
  have o_w6_w7 : w6.heap.size ≤ w7.heap.size := le_w6
  have le_w7 : w7.heap.size ≤ w7.heap.size := Nat.le_refl _
  clear hb7 hL7
  go_wp2_with fail
  refine (eqIntSS _ _ _ _ x0 _ _ l0 _ (X0.out.lt.lt le_w3) (E0.out.lt.lt le_w7)).mono ?_
  rintro e w8 ⟨rfl, hq8⟩
  have hb8 : Below w7.heap.size w7 w8 := by obtain ⟨n, rfl⟩ := hq8; exact below_drewN (Below.refl _ _) n
  replace X0 := Lib.hid (X0.out.below (hb8.mono le_w3))
  replace G1 := Lib.hid (G1.out.below (hb8.mono le_w4))
  replace G2 := Lib.hid (G2.out.below (hb8.mono le_w4))
  replace E0 := Lib.hid (E0.out.below (hb8.mono le_w7))
  replace R0 := Lib.hid (keepRows (hb8.mono le_w) R0.out)
  replace V1 := Lib.hid (keepInts (hb8.mono le_w2) V1.out)
  replace V2 := Lib.hid (keepInts (hb8.mono le_w2) V2.out)
  replace le_w := Nat.le_trans le_w hb8.size
  replace le_w1 := Nat.le_trans le_w1 hb8.size
  replace le_w2 := Nat.le_trans le_w2 hb8.size
  replace le_w3 := Nat.le_trans le_w3 hb8.size
  replace le_w4 := Nat.le_trans le_w4 hb8.size
  replace le_w6 := Nat.le_trans le_w6 hb8.size
  replace le_w7 := Nat.le_trans le_w7 hb8.size
  replace BEL0 := Lib.hid (belT BEL0.out hb8)
  clear hq8 hb8
  clear E0
  go_wp2_with fail
  refine (markIntSS _ _ x0 _ _ 1 t0 (by omega) (by omega) (by omega) _ X0.out).mono ?_
  rintro e w9 ⟨rfl, hf9, ho9⟩
  replace X0 := Lib.hid ho9
  replace G1 := Lib.hid (G1.out.off hf9 (by omega))
  replace G2 := Lib.hid (G2.out.off hf9 (by omega))
  replace R0 := Lib.hid (keepRows (hf9.below (by omega)) R0.out)
  replace V1 := Lib.hid (keepInts (hf9.below (by omega)) V1.out)
  replace V2 := Lib.hid (keepInts (hf9.below (by omega)) V2.out)
  have hz9 := hf9.size
  replace le_w : w.heap.size ≤ w9.heap.size := by omega
  replace le_w1 : w1.heap.size ≤ w9.heap.size := by omega
  replace le_w2 : w2.heap.size ≤ w9.heap.size := by omega
  replace le_w3 : w3.heap.size ≤ w9.heap.size := by omega
  replace le_w4 : w4.heap.size ≤ w9.heap.size := by omega
  replace le_w6 : w6.heap.size ≤ w9.heap.size := by omega
  replace le_w7 : w7.heap.size ≤ w9.heap.size := by omega
  replace BEL0 := Lib.hid (BEL0.out.trans (hf9.below (by omega)))
  clear hf9 hz9 ho9
  clear X0
  have kpos : 0 ≤ (1 + (sumN x0 x0.length : Int)) := by omega
  go_wp2_with fail
  refine (eqIntS _ _ _ _ (kerX x0 x1 x2) _ _ HL1.out _ (G1.out.lt.lt le_w4) (V1.out.lt le_w2)).mono ?_
  rintro e w10 ⟨rfl, hq10⟩
  have hb10 : Below w9.heap.size w9 w10 := by obtain ⟨n, rfl⟩ := hq10; exact below_drewN (Below.refl _ _) n
  replace G1 := Lib.hid (G1.out.below (hb10.mono le_w4))
  replace G2 := Lib.hid (G2.out.below (hb10.mono le_w4))
  replace R0 := Lib.hid (keepRows (hb10.mono le_w) R0.out)
  replace V1 := Lib.hid (keepInts (hb10.mono le_w2) V1.out)
  replace V2 := Lib.hid (keepInts (hb10.mono le_w2) V2.out)
  replace le_w := Nat.le_trans le_w hb10.size
  replace le_w1 := Nat.le_trans le_w1 hb10.size
  replace le_w2 := Nat.le_trans le_w2 hb10.size
  replace le_w3 := Nat.le_trans le_w3 hb10.size
  replace le_w4 := Nat.le_trans le_w4 hb10.size
  replace le_w6 := Nat.le_trans le_w6 hb10.size
  replace le_w7 := Nat.le_trans le_w7 hb10.size
  replace BEL0 := Lib.hid (belT BEL0.out hb10)
  clear hq10 hb10
  go_wp2_with fail
  refine (eqIntS _ _ _ _ (kerY x0 x1 x2) _ _ HL2.out _ (G2.out.lt.lt le_w4) (V2.out.lt le_w2)).mono ?_
  rintro e w11 ⟨rfl, hq11⟩
  have hb11 : Below w10.heap.size w10 w11 := by obtain ⟨n, rfl⟩ := hq11; exact below_drewN (Below.refl _ _) n
  replace G1 := Lib.hid (G1.out.below (hb11.mono le_w4))
  replace G2 := Lib.hid (G2.out.below (hb11.mono le_w4))
  replace R0 := Lib.hid (keepRows (hb11.mono le_w) R0.out)
  replace V1 := Lib.hid (keepInts (hb11.mono le_w2) V1.out)
  replace V2 := Lib.hid (keepInts (hb11.mono le_w2) V2.out)
  replace le_w := Nat.le_trans le_w hb11.size
  replace le_w1 := Nat.le_trans le_w1 hb11.size
  replace le_w2 := Nat.le_trans le_w2 hb11.size
  replace le_w3 := Nat.le_trans le_w3 hb11.size
  replace le_w4 := Nat.le_trans le_w4 hb11.size
  replace le_w6 := Nat.le_trans le_w6 hb11.size
  replace le_w7 := Nat.le_trans le_w7 hb11.size
  replace BEL0 := Lib.hid (belT BEL0.out hb11)
  clear hq11 hb11
  go_wp2_with fail
  refine (markIntS _ _ (kerX x0 x1 x2) _ _ 1 (by omega) (by omega) (by omega) _ G1.out).mono ?_
  rintro e w12 ⟨rfl, ht12, ho12⟩
  have hf12 := ht12.off G1.out
  replace G1 := Lib.hid ho12
  replace G2 := Lib.hid (G2.out.touch ht12 HDG1.out)
  replace R0 := Lib.hid (keepRows (hf12.below (by omega)) R0.out)
  replace V1 := Lib.hid (keepInts (hf12.below (by omega)) V1.out)
  replace V2 := Lib.hid (keepInts (hf12.below (by omega)) V2.out)
  have hz12 := hf12.size
  replace le_w : w.heap.size ≤ w12.heap.size := by omega
  replace le_w1 : w1.heap.size ≤ w12.heap.size := by omega
  replace le_w2 : w2.heap.size ≤ w12.heap.size := by omega
  replace le_w3 : w3.heap.size ≤ w12.heap.size := by omega
  replace le_w4 : w4.heap.size ≤ w12.heap.size := by omega
  replace le_w6 : w6.heap.size ≤ w12.heap.size := by omega
  replace le_w7 : w7.heap.size ≤ w12.heap.size := by omega
  replace BEL0 := Lib.hid (BEL0.out.trans (hf12.below (by omega)))
  clear ht12 hf12 hz12 ho12
  go_wp2_with fail
  refine (markIntS _ _ (kerY x0 x1 x2) _ _ (1 + ((kerX x0 x1 x2).length : Int)) (by omega) (by omega) (by omega) _ G2.out).mono ?_
  rintro e w13 ⟨rfl, ht13, ho13⟩
  have hf13 := ht13.off G2.out
  replace G1 := Lib.hid (G1.out.touch ht13 (fun h1 h2 e => HDG1.out (by simpa [seqN_length] using h2) h1 e.symm))
  replace G2 := Lib.hid ho13
  replace R0 := Lib.hid (keepRows (hf13.below (by omega)) R0.out)
  replace V1 := Lib.hid (keepInts (hf13.below (by omega)) V1.out)
  replace V2 := Lib.hid (keepInts (hf13.below (by omega)) V2.out)
  have hz13 := hf13.size
  replace le_w : w.heap.size ≤ w13.heap.size := by omega
  replace le_w1 : w1.heap.size ≤ w13.heap.size := by omega
  replace le_w2 : w2.heap.size ≤ w13.heap.size := by omega
  replace le_w3 : w3.heap.size ≤ w13.heap.size := by omega
  replace le_w4 : w4.heap.size ≤ w13.heap.size := by omega
  replace le_w6 : w6.heap.size ≤ w13.heap.size := by omega
  replace le_w7 : w7.heap.size ≤ w13.heap.size := by omega
  replace BEL0 := Lib.hid (BEL0.out.trans (hf13.below (by omega)))
  clear ht13 hf13 hz13 ho13
  have zz : ((1 + ((kerX x0 x1 x2).length : Int) + ((kerY x0 x1 x2).length : Int)) != (1 + ((kerX x0 x1 x2).length : Int) + ((kerY x0 x1 x2).length : Int))) = false := by simp
  go_wp2_with fail
  refine (heldIntS _ _ (kerX x0 x1 x2).length _ 1 (by omega) (by omega) (by omega) _ G1.out.ints).mono ?_
  rintro e wz ⟨rfl, rfl⟩
  go_wp2_with fail
  refine (heldIntS _ _ (kerY x0 x1 x2).length _ (1 + ((kerX x0 x1 x2).length : Int)) (by omega) (by omega) (by omega) _ G2.out.ints).mono ?_
  rintro e wz ⟨rfl, rfl⟩
  have o_w7_w13 : w7.heap.size ≤ w13.heap.size := le_w7
  have le_w13 : w13.heap.size ≤ w13.heap.size := Nat.le_refl _
  go_wp2_with fail
  refine (toIntSS A0 c0 x0 t0 HM0.out _ (Lib.hid (R0.out.lt le_w)).out).mono ?_
  rintro e w14 ⟨rfl, hL14⟩
  have Q0 := Lib.hid (Laid.own hL14 HN0.out)
  have hb14 := NewRows.bel hL14
  replace G1 := Lib.hid (G1.out.below (hb14.mono le_w4))
  replace G2 := Lib.hid (G2.out.below (hb14.mono le_w4))
  replace R0 := Lib.hid (keepRows (hb14.mono le_w) R0.out)
  replace V1 := Lib.hid (keepInts (hb14.mono le_w2) V1.out)
  replace V2 := Lib.hid (keepInts (hb14.mono le_w2) V2.out)
  replace le_w := Nat.le_trans le_w hb14.size
  replace le_w1 := Nat.le_trans le_w1 hb14.size
  replace le_w2 := Nat.le_trans le_w2 hb14.size
  replace le_w3 := Nat.le_trans le_w3 hb14.size
  replace le_w4 := Nat.le_trans le_w4 hb14.size
  replace le_w6 := Nat.le_trans le_w6 hb14.size
  replace le_w7 := Nat.le_trans le_w7 hb14.size
  replace le_w13 := Nat.le_trans le_w13 hb14.size
  replace BEL0 := Lib.hid (belT BEL0.out hb14)
  have o_w13_w14 : w13.heap.size ≤ w14.heap.size := le_w13
  have le_w14 : w14.heap.size ≤ w14.heap.size := Nat.le_refl _
  clear hb14 hL14
  go_wp2_with fail
  refine (I.kernel _ _ x0 x1 x2 l0 _ (Q0.out.lt.lt le_w14)).mono ?_
  rintro e w15 ⟨TH1, cH1, TH2, cH2, rfl, hb15, ho15, hp15, hd15⟩
  have H1 := Lib.hid ho15
  have H2 := Lib.hid hp15
  have HDH1 := Lib.hid hd15
  clear hd15
  replace G1 := Lib.hid (G1.out.below (hb15.mono le_w4))
  replace G2 := Lib.hid (G2.out.below (hb15.mono le_w4))
  replace Q0 := Lib.hid (Q0.out.below (hb15.mono le_w14))
  replace R0 := Lib.hid (keepRows (hb15.mono le_w) R0.out)
  replace V1 := Lib.hid (keepInts (hb15.mono le_w2) V1.out)
  replace V2 := Lib.hid (keepInts (hb15.mono le_w2) V2.out)
  replace le_w := Nat.le_trans le_w hb15.size
  replace le_w1 := Nat.le_trans le_w1 hb15.size
  replace le_w2 := Nat.le_trans le_w2 hb15.size
  replace le_w3 := Nat.le_trans le_w3 hb15.size
  replace le_w4 := Nat.le_trans le_w4 hb15.size
  replace le_w6 := Nat.le_trans le_w6 hb15.size
  replace le_w7 := Nat.le_trans le_w7 hb15.size
  replace le_w13 := Nat.le_trans le_w13 hb15.size
  replace le_w14 := Nat.le_trans le_w14 hb15.size
  replace BEL0 := Lib.hid (belT BEL0.out hb15)
  have o_w14_w15 : w14.heap.size ≤ w15.heap.size := le_w14
  have le_w15 : w15.heap.size ≤ w15.heap.size := Nat.le_refl _
  clear hb15 ho15 hp15
  clear Q0
  go_wp2_with fail
  refine (eqIntS _ _ _ _ (kerX x0 x1 x2) _ _ HL1.out _ (H1.out.lt.lt le_w15) (V1.out.lt le_w2)).mono ?_
  rintro e w16 ⟨rfl, hq16⟩
  have hb16 : Below w15.heap.size w15 w16 := by obtain ⟨n, rfl⟩ := hq16; exact below_drewN (Below.refl _ _) n
  replace G1 := Lib.hid (G1.out.below (hb16.mono le_w4))
  replace G2 := Lib.hid (G2.out.below (hb16.mono le_w4))
  replace H1 := Lib.hid (H1.out.below (hb16.mono le_w15))
  replace H2 := Lib.hid (H2.out.below (hb16.mono le_w15))
  replace R0 := Lib.hid (keepRows (hb16.mono le_w) R0.out)
  replace V1 := Lib.hid (keepInts (hb16.mono le_w2) V1.out)
  replace V2 := Lib.hid (keepInts (hb16.mono le_w2) V2.out)
  replace le_w := Nat.le_trans le_w hb16.size
  replace le_w1 := Nat.le_trans le_w1 hb16.size
  replace le_w2 := Nat.le_trans le_w2 hb16.size
  replace le_w3 := Nat.le_trans le_w3 hb16.size
  replace le_w4 := Nat.le_trans le_w4 hb16.size
  replace le_w6 := Nat.le_trans le_w6 hb16.size
  replace le_w7 := Nat.le_trans le_w7 hb16.size
  replace le_w13 := Nat.le_trans le_w13 hb16.size
  replace le_w14 := Nat.le_trans le_w14 hb16.size
  replace le_w15 := Nat.le_trans le_w15 hb16.size
  replace BEL0 := Lib.hid (belT BEL0.out hb16)
  clear hq16 hb16
  go_wp2_with fail
  refine (eqIntS _ _ _ _ (kerY x0 x1 x2) _ _ HL2.out _ (H2.out.lt.lt le_w15) (V2.out.lt le_w2)).mono ?_
  rintro e w17 ⟨rfl, hq17⟩
  have hb17 : Below w16.heap.size w16 w17 := by obtain ⟨n, rfl⟩ := hq17; exact below_drewN (Below.refl _ _) n
  replace G1 := Lib.hid (G1.out.below (hb17.mono le_w4))
  replace G2 := Lib.hid (G2.out.below (hb17.mono le_w4))
  replace H1 := Lib.hid (H1.out.below (hb17.mono le_w15))
  replace H2 := Lib.hid (H2.out.below (hb17.mono le_w15))
  replace R0 := Lib.hid (keepRows (hb17.mono le_w) R0.out)
  replace V1 := Lib.hid (keepInts (hb17.mono le_w2) V1.out)
  replace V2 := Lib.hid (keepInts (hb17.mono le_w2) V2.out)
  replace le_w := Nat.le_trans le_w hb17.size
  replace le_w1 := Nat.le_trans le_w1 hb17.size
  replace le_w2 := Nat.le_trans le_w2 hb17.size
  replace le_w3 := Nat.le_trans le_w3 hb17.size
  replace le_w4 := Nat.le_trans le_w4 hb17.size
  replace le_w6 := Nat.le_trans le_w6 hb17.size
  replace le_w7 := Nat.le_trans le_w7 hb17.size
  replace le_w13 := Nat.le_trans le_w13 hb17.size
  replace le_w14 := Nat.le_trans le_w14 hb17.size
  replace le_w15 := Nat.le_trans le_w15 hb17.size
  replace BEL0 := Lib.hid (belT BEL0.out hb17)
  clear hq17 hb17
  clear H1
  clear H2
  clear V1
  clear V2
  go_wp2_with fail
  refine (heldIntS _ _ (kerX x0 x1 x2).length _ 1 (by omega) (by omega) (by omega) _ G1.out.ints).mono ?_
  rintro e wz ⟨rfl, rfl⟩
  go_wp2_with fail
  refine (heldIntS _ _ (kerY x0 x1 x2).length _ (1 + ((kerX x0 x1 x2).length : Int)) (by omega) (by omega) (by omega) _ G2.out.ints).mono ?_
  rintro e wz ⟨rfl, rfl⟩
  go_wp2_with fail
  go_ret
  exact Adds.of rfl BEL0.out

end Go.Proofs.Ytgjbahlebhnoiaa
