/- The walks of the exact laws of WorseRow and WorseColumn. (Written by wip/gen/ex5.py.) -/
import Derived.Test.YtpiokclhalkmlaaMQ
import Derived.Test.YtpiokclhalkmlaaMG
namespace Go.Proofs.Ytpiokclhalkmlaa
set_option linter.unusedSimpArgs false
set_option linter.unusedVariables false
open Go.RowKit

set_option maxHeartbeats 2000000 in
set_option maxRecDepth 100000 in
theorem wFnExactWorseRow (A0 : Option Addr) (c0 : Nat) (x0 : List (List Int)) (l0 : x0.length ≤ maxLen) (x1 : Int) (l1 : (Lit.int .i64 x1).wf = true) (x2 : Int) (l2 : (Lit.int .i64 x2).wf = true) (w : World) (r0 : Rows2 w (· < w.heap.size) A0 x0) :
    Calls Try.prog 8 #[.slice A0 x0.length c0, .int .i64 x1, .int .i64 x2] w (Adds (.bool true) w) := by
  have R0 := Lib.hid r0
  clear r0
  go_enter Try.func8, Try.ntmps8
  go_wp2_with fail
  refine (szIntSS A0 c0 x0 _ 1048576 l0 (by omega) (by omega) _ R0.out).mono ?_
  rintro e wz ⟨q0, rfl, rfl, hq0⟩
  by_cases hz0 : q0 < 0
  · clear hq0
    go_wp2_with fail
    go_ret
    exact Adds.of rfl (Below.refl _ _)
  have hsum0 : (x0.length : Int) + (sumN x0 x0.length : Nat) ≤ 1048576 := by omega
  have hm0 : ∀ i, i < x0.length → (rowAt x0 i).length ≤ 4294967296 := fun i hi => by have := row_le_sumN x0 hi; omega
  have HM0 := Lib.hid hm0
  have t0 : x0.length ≤ 4294967296 := by omega
  have st0 : sumN x0 x0.length ≤ 1048576 := by omega
  clear hq0 hsum0 hm0
  go_wp2_with fail
  refine (toIntSS A0 c0 x0 t0 HM0.out _ R0.out).mono ?_
  rintro e w1 ⟨rfl, hL1⟩
  have S0 := Lib.hid (NewRows.reads hL1 HM0.out)
  have hb1 := NewRows.bel hL1
  replace R0 := Lib.hid (stillRows R0.out hb1)
  have BEL0 := Lib.hid hb1
  clear hb1 hL1
  go_wp2_with fail
  refine (worseRow_spec _ _ x0 x1 x2 _ l0 _ S0.out).mono ?_
  rintro e w2 ⟨rfl, hq2⟩
  have hb2 : Below w1.heap.size w1 w2 := by obtain ⟨n, rfl⟩ := hq2; exact below_drewN (Below.refl _ _) n
  replace R0 := Lib.hid (stillRows R0.out hb2)
  replace S0 := Lib.hid (stillRows S0.out hb2)
  replace BEL0 := Lib.hid (belT BEL0.out hb2)
  clear hq2 hb2
  clear S0
  go_wp2_with fail
  refine (toIntSS A0 c0 x0 t0 HM0.out _ R0.out).mono ?_
  rintro e w3 ⟨rfl, hL3⟩
  have X0 := Lib.hid (NewRows.reads hL3 HM0.out)
  have hb3 := NewRows.bel hL3
  replace R0 := Lib.hid (stillRows R0.out hb3)
  replace BEL0 := Lib.hid (belT BEL0.out hb3)
  clear hb3 hL3
  go_wp2_with fail
  refine ((worseRow_impl _ _ x0 x1 x2 _ l0 _ X0.out).mono fun _ _ => Same.adds).mono ?_
  rintro e w4 ⟨rfl, hb4⟩
  replace R0 := Lib.hid (stillRows R0.out hb4)
  replace X0 := Lib.hid (stillRows X0.out hb4)
  replace BEL0 := Lib.hid (belT BEL0.out hb4)
  clear hb4
  have zB : (wrB x0 x1 x2 != wrB x0 x1 x2) = false := by simp
  go_wp2_with fail
  refine (toIntSS A0 c0 x0 t0 HM0.out _ R0.out).mono ?_
  rintro e w5 ⟨rfl, hL5⟩
  have E0 := Lib.hid (NewRows.reads hL5 HM0.out)
  have hb5 := NewRows.bel hL5
  replace R0 := Lib.hid (stillRows R0.out hb5)
  replace X0 := Lib.hid (stillRows X0.out hb5)
  replace BEL0 := Lib.hid (belT BEL0.out hb5)
  clear hb5 hL5
  go_wp2_with fail
  refine (eqIntSS _ _ _ _ x0 _ _ l0 _ X0.out E0.out).mono ?_
  rintro e w6 ⟨rfl, hq6⟩
  have hb6 : Below w5.heap.size w5 w6 := by obtain ⟨n, rfl⟩ := hq6; exact below_drewN (Below.refl _ _) n
  replace R0 := Lib.hid (stillRows R0.out hb6)
  replace X0 := Lib.hid (stillRows X0.out hb6)
  replace E0 := Lib.hid (stillRows E0.out hb6)
  replace BEL0 := Lib.hid (belT BEL0.out hb6)
  clear hq6 hb6
  clear E0
  clear X0
  go_wp2_with fail
  go_ret
  exact Adds.of rfl BEL0.out

set_option maxHeartbeats 2000000 in
set_option maxRecDepth 100000 in
theorem wFnExactWorseColumn (A0 : Option Addr) (c0 : Nat) (x0 : List (List Int)) (l0 : x0.length ≤ maxLen) (x1 : Int) (l1 : (Lit.int .i64 x1).wf = true) (x2 : Int) (l2 : (Lit.int .i64 x2).wf = true) (w : World) (r0 : Rows2 w (· < w.heap.size) A0 x0) :
    Calls Try.prog 9 #[.slice A0 x0.length c0, .int .i64 x1, .int .i64 x2] w (Adds (.bool true) w) := by
  have R0 := Lib.hid r0
  clear r0
  go_enter Try.func9, Try.ntmps9
  go_wp2_with fail
  refine (szIntSS A0 c0 x0 _ 1048576 l0 (by omega) (by omega) _ R0.out).mono ?_
  rintro e wz ⟨q0, rfl, rfl, hq0⟩
  by_cases hz0 : q0 < 0
  · clear hq0
    go_wp2_with fail
    go_ret
    exact Adds.of rfl (Below.refl _ _)
  have hsum0 : (x0.length : Int) + (sumN x0 x0.length : Nat) ≤ 1048576 := by omega
  have hm0 : ∀ i, i < x0.length → (rowAt x0 i).length ≤ 4294967296 := fun i hi => by have := row_le_sumN x0 hi; omega
  have HM0 := Lib.hid hm0
  have t0 : x0.length ≤ 4294967296 := by omega
  have st0 : sumN x0 x0.length ≤ 1048576 := by omega
  clear hq0 hsum0 hm0
  go_wp2_with fail
  refine (toIntSS A0 c0 x0 t0 HM0.out _ R0.out).mono ?_
  rintro e w1 ⟨rfl, hL1⟩
  have S0 := Lib.hid (NewRows.reads hL1 HM0.out)
  have hb1 := NewRows.bel hL1
  replace R0 := Lib.hid (stillRows R0.out hb1)
  have BEL0 := Lib.hid hb1
  clear hb1 hL1
  go_wp2_with fail
  refine (worseCol_spec _ _ x0 x1 x2 l0 _ S0.out).mono ?_
  rintro e w2 ⟨rfl, hb2⟩
  replace R0 := Lib.hid (stillRows R0.out hb2)
  replace S0 := Lib.hid (stillRows S0.out hb2)
  replace BEL0 := Lib.hid (belT BEL0.out hb2)
  clear hb2
  clear S0
  go_wp2_with fail
  refine (toIntSS A0 c0 x0 t0 HM0.out _ R0.out).mono ?_
  rintro e w3 ⟨rfl, hL3⟩
  have X0 := Lib.hid (NewRows.reads hL3 HM0.out)
  have hb3 := NewRows.bel hL3
  replace R0 := Lib.hid (stillRows R0.out hb3)
  replace BEL0 := Lib.hid (belT BEL0.out hb3)
  clear hb3 hL3
  go_wp2_with fail
  refine (worseCol_impl _ _ x0 x1 x2 l0 _ X0.out).mono ?_
  rintro e w4 ⟨rfl, hb4⟩
  replace R0 := Lib.hid (stillRows R0.out hb4)
  replace X0 := Lib.hid (stillRows X0.out hb4)
  replace BEL0 := Lib.hid (belT BEL0.out hb4)
  clear hb4
  have zB : (wcB x0 x1 x2 != wcB x0 x1 x2) = false := by simp
  go_wp2_with fail
  refine (toIntSS A0 c0 x0 t0 HM0.out _ R0.out).mono ?_
  rintro e w5 ⟨rfl, hL5⟩
  have E0 := Lib.hid (NewRows.reads hL5 HM0.out)
  have hb5 := NewRows.bel hL5
  replace R0 := Lib.hid (stillRows R0.out hb5)
  replace X0 := Lib.hid (stillRows X0.out hb5)
  replace BEL0 := Lib.hid (belT BEL0.out hb5)
  clear hb5 hL5
  go_wp2_with fail
  refine (eqIntSS _ _ _ _ x0 _ _ l0 _ X0.out E0.out).mono ?_
  rintro e w6 ⟨rfl, hq6⟩
  have hb6 : Below w5.heap.size w5 w6 := by obtain ⟨n, rfl⟩ := hq6; exact below_drewN (Below.refl _ _) n
  replace R0 := Lib.hid (stillRows R0.out hb6)
  replace X0 := Lib.hid (stillRows X0.out hb6)
  replace E0 := Lib.hid (stillRows E0.out hb6)
  replace BEL0 := Lib.hid (belT BEL0.out hb6)
  clear hq6 hb6
  clear E0
  clear X0
  go_wp2_with fail
  go_ret
  exact Adds.of rfl BEL0.out

end Go.Proofs.Ytpiokclhalkmlaa
