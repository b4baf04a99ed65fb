/- The walk of the law of MixOk. (Written by wip/gen/law3.py.) -/
import Derived.Test.YtklieaikndakfaaExactM
import Derived.Test.YtklieaikndakfaaMmath3
import Derived.Test.YtklieaikndakfaaDrawY
import Derived.Test.YtklieaikndakfaaLawT
namespace Go.Proofs.Ytklieaikndakfaa
set_option linter.unusedSimpArgs false
set_option linter.unusedVariables false
open Go.RowKit

theorem litInts (w : World) (l : List Int) : Ints (w.alloc (.cells (vals l).toArray 3)) (· < (w.alloc (.cells (vals l).toArray 3)).heap.size) (some ⟨w.heap.size, 0, none⟩) l := by
  intro _
  refine ⟨w.heap.size, 0, rfl, by simp, fun i hi => ?_⟩
  have e := vals_get l i hi
  have e2 : i < (vals l).length := by rw [vals_length]; exact hi
  rw [Nat.zero_add]
  simp [go_sem]
  exact e

set_option maxHeartbeats 4000000 in
set_option maxRecDepth 100000 in
theorem wFnMixOk (I : Impl3) (a : Option Addr) (len cap : Nat) (zs : List Int) (w : World) (h : IsRow .u8 w a len cap zs) :
    Calls Try.prog 3 #[.slice a len cap] w fun e w' => e = .returned (.bool true) ∧ Below w.heap.size w w' := by
  have hle := byte_len h
  by_cases hbig : (1048576 : Int) < (len : Int)
  · go_enter Try.func3, Try.ntmps3
    go_wp2_with fail
    go_ret
    exact ⟨rfl, Below.refl _ _⟩
  go_enter Try.func3, Try.ntmps3
  go_wp2_with fail
  refine (dDrawMixOk a len cap zs w h).mono ?_
  rintro e w1 ⟨x, A, d, m, rfl, hx18, hb1, r1⟩
  clear hbig hle
  have BEL0 := Lib.hid hb1
  have R1 := Lib.hid r1
  have K1 : Hid (mixB [0, 1, 0] 3 = true) := show mixB [0, 1, 0] 3 = true from by decide
  have K2 : Hid (mixB [0, 0] 2 = false) := show mixB [0, 0] 2 = false from by decide
  have K3 : Hid (mixB [100000] 1 = true) := show mixB [100000] 1 = true from by decide
  clear hb1 r1
  go_wp2_with fail
  refine (I.mix _ _ x m (by omega) _ R1.out).mono ?_
  rintro e w2 ⟨rfl, hb2⟩
  replace R1 := Lib.hid (stillInts R1.out hb2)
  replace BEL0 := Lib.hid (belT BEL0.out hb2)
  clear hb2
  go_wp2_with fail
  refine ((mixOk_spec _ _ x m _ (by omega) _ R1.out).mono fun _ _ => Same.adds).mono ?_
  rintro e w3 ⟨rfl, hb3⟩
  replace R1 := Lib.hid (stillInts R1.out hb3)
  replace BEL0 := Lib.hid (belT BEL0.out hb3)
  clear hb3
  clear R1
  have zB : (mixB x m != mixB x m) = false := by simp
  go_wp2_with fail
  refine (I.mix _ _ [0, 1, 0] 3 (by simp) _ (litInts w3 [0, 1, 0])).mono ?_
  rintro e w4 ⟨rfl, hb4'⟩
  have hb4 : Below w3.heap.size w3 w4 := belT ((Below.refl _ _).alloc (Nat.le_refl _) _) hb4'
  rw [K1.out]
  clear hb4'
  replace BEL0 := Lib.hid (belT BEL0.out hb4)
  clear hb4
  go_wp2_with fail
  refine (I.mix _ _ [0, 0] 2 (by simp) _ (litInts w4 [0, 0])).mono ?_
  rintro e w5 ⟨rfl, hb5'⟩
  have hb5 : Below w4.heap.size w4 w5 := belT ((Below.refl _ _).alloc (Nat.le_refl _) _) hb5'
  rw [K2.out]
  clear hb5'
  replace BEL0 := Lib.hid (belT BEL0.out hb5)
  clear hb5
  go_wp2_with fail
  refine (I.mix _ _ [100000] 1 (by simp) _ (litInts w5 [100000])).mono ?_
  rintro e w6 ⟨rfl, hb6'⟩
  have hb6 : Below w5.heap.size w5 w6 := belT ((Below.refl _ _).alloc (Nat.le_refl _) _) hb6'
  rw [K3.out]
  clear hb6'
  replace BEL0 := Lib.hid (belT BEL0.out hb6)
  clear hb6
  go_wp2_with fail
  refine (alive _).mono ?_
  rintro e w9 ⟨rfl, hb9⟩
  go_wp2_with fail
  go_ret
  exact ⟨by simp, belT BEL0.out hb9⟩

end Go.Proofs.Ytklieaikndakfaa
