/- The walks of the laws on fractions: each returns true, and writes nothing that was there. (Written by wip/gen/lawsf.py.) -/
import Derived.Test.YtijlednmagdpgaaDrawB
import Derived.Test.YtijlednmagdpgaaExact
namespace Go.Proofs.Ytijlednmagdpgaa
set_option linter.unusedSimpArgs false
set_option linter.unusedVariables false
open Go.RowKit

theorem okB_neg (u d : Int) : okB (-u) d = okB u d := by
  rw [Bool.eq_iff_iff, okB_iff, okB_iff]
  have : gcdI (-u) d = gcdI u d := by unfold gcdI; rw [Int.gcd_eq_natAbs_gcd_natAbs, Int.gcd_eq_natAbs_gcd_natAbs, Int.natAbs_neg]
  rw [this]; omega

set_option maxHeartbeats 1000000 in
theorem wFnFracOk (a : Option Addr) (len cap : Nat) (zs : List Int) (w : World) (h : IsRow .u8 w a len cap zs) :
    Calls Try.prog 3 #[.slice a len cap] w fun e w' => e = .returned (.bool true) ∧ Below w.heap.size w w' := by
  go_enter Try.func3, Try.ntmps3
  go_wp2_with fail
  · go_ret
    exact ⟨rfl, Below.refl _ _⟩
  rename (len : Int) ≤ 1048576 => hbig
  clear hbig
  refine (dDrawFracOk a len cap zs _ h).mono ?_
  intro e w1 hP
  obtain ⟨u, d, rfl, hu1, hu2, hd1, hd2, hb1⟩ := hP
  have k1 : okB 0 1 = true := by decide
  have k2 : okB 1 0 = false := by decide
  have k3 := okB_neg u d
  go_wp2_with fail
  obtain ⟨W, hW⟩ : ∃ W : World, W = (w1.alloc (.cells #[(Value.int .i64 u), (Value.int .i64 d)] 24)) := ⟨_, rfl⟩
  have hzW : W.heap.size = w1.heap.size + 1 := by rw [hW]; simp
  have hbW : Below w1.heap.size w1 W := by rw [hW]; exact (by repeat (first | exact Below.refl _ _ | assumption | exact bel1 (by assumption) | exact bel2 (by assumption) | exact bel3 (by assumption) | exact bel4 (by assumption) | refine Below.drew ?_ | refine below_drewN ?_ _ | refine Below.setCell ?_ (by first | (simp; done) | (simp; omega)) _ | refine Below.alloc ?_ (by first | (simp; done) | (simp; omega)) _))
  have r00 := stays (p := w1.heap.size) (o := 0) (by omega) (show W.cell? ⟨w1.heap.size, 0, none⟩ = some ((Value.int .i64 u)) from by rw [hW]; simp [go_sem])
  have r01 := stays (p := w1.heap.size) (o := 1) (by omega) (show W.cell? ⟨w1.heap.size, 1, none⟩ = some ((Value.int .i64 d)) from by rw [hW]; simp [go_sem])
  rw [← hW]
  clear hW
  have HzW := Lib.hid hzW
  clear hzW
  have hk0 : Below w.heap.size w W := belT hb1 hbW
  go_wp2_with (first | (go_at_call 14; refine (fracOk_impl _ _ _).mono ?_; rintro e w1 ⟨rfl, hb1⟩; have hk := belT (by first | exact Below.refl W.heap.size _ | exact Below.drew (Below.refl W.heap.size _) | assumption) hb1) | (go_at_call 15; refine (fracOk_spec _ _ _).mono ?_; rintro e w1 ⟨rfl, hb1⟩; have hk := belT (by first | exact Below.refl W.heap.size _ | exact Below.drew (Below.refl W.heap.size _) | assumption) hb1) | (go_at_call 16; refine (alive _).mono ?_; rintro e w1 ⟨rfl, hb1⟩; have hk := belT (by first | exact Below.refl W.heap.size _ | exact Below.drew (Below.refl W.heap.size _) | assumption) hb1))
  have hk9 := belT hk0 hk
  go_ret
  exact ⟨rfl, by repeat (first | exact Below.refl _ _ | assumption | exact bel1 (by assumption) | exact bel2 (by assumption) | exact bel3 (by assumption) | exact bel4 (by assumption) | refine Below.drew ?_ | refine below_drewN ?_ _ | refine Below.setCell ?_ (by first | (simp; done) | (simp; omega)) _ | refine Below.alloc ?_ (by first | (simp; done) | (simp; omega)) _)⟩

theorem mul_in2 {a b : Int} (h1 : -1000000000 ≤ a) (h2 : a ≤ 1000000000) (h3 : -1000000000 ≤ b) (h4 : b ≤ 1000000000) : -1000000000000000000 ≤ a * b ∧ a * b ≤ 1000000000000000000 := by
  by_cases hb : 0 ≤ b
  · exact mul_in h1 h2 hb h4
  · have := mul_in (a := a) (b := -b) h1 h2 (by omega) (by omega)
    rw [Int.mul_neg] at this; omega
theorem low_ok {u d : Int} (h : ofB u d = true) : okB (lowU u d) (lowD u d) = true := by
  obtain ⟨a1, a2, a3, a4, a5⟩ := ofB_iff.1 h
  have h1 := lowD_pos u d a5
  have h2 := low_gcd u d a5
  have h3 := lowU_in u d (M := 1000000000) a1 a2
  have h4 := lowD_in u d (M := 1000000000) a3 a4
  rw [okB_iff]; omega

set_option maxHeartbeats 1000000 in
theorem wFnFracOf (a : Option Addr) (len cap : Nat) (zs : List Int) (w : World) (h : IsRow .u8 w a len cap zs) :
    Calls Try.prog 4 #[.slice a len cap] w fun e w' => e = .returned (.bool true) ∧ Below w.heap.size w w' := by
  go_enter Try.func4, Try.ntmps4
  go_wp2_with fail
  · go_ret
    exact ⟨rfl, Below.refl _ _⟩
  rename (len : Int) ≤ 1048576 => hbig
  clear hbig
  refine (dDrawFracOf a len cap zs _ h).mono ?_
  intro e w1 hP
  obtain ⟨u, d, rfl, hu1, hu2, hd1, hd2, hb1⟩ := hP
  go_wp2_with fail
  rcases hB : ofB u d with _ | _
  · refine (of_no_impl u d hB _).mono ?_
    rintro e w2 ⟨rfl, hb2⟩
    go_wp2_with fail
    obtain ⟨W, hW⟩ : ∃ W : World, W = (w2.alloc (.cells #[(Value.int .i64 0), (Value.int .i64 0)] 24)) := ⟨_, rfl⟩
    have hzW : W.heap.size = w2.heap.size + 1 := by rw [hW]; simp
    have hbW : Below w2.heap.size w2 W := by rw [hW]; exact (by repeat (first | exact Below.refl _ _ | assumption | exact bel1 (by assumption) | exact bel2 (by assumption) | exact bel3 (by assumption) | exact bel4 (by assumption) | refine Below.drew ?_ | refine below_drewN ?_ _ | refine Below.setCell ?_ (by first | (simp; done) | (simp; omega)) _ | refine Below.alloc ?_ (by first | (simp; done) | (simp; omega)) _))
    have r00 := stays (p := w2.heap.size) (o := 0) (by omega) (show W.cell? ⟨w2.heap.size, 0, none⟩ = some ((Value.int .i64 0)) from by rw [hW]; simp [go_sem])
    have r01 := stays (p := w2.heap.size) (o := 1) (by omega) (show W.cell? ⟨w2.heap.size, 1, none⟩ = some ((Value.int .i64 0)) from by rw [hW]; simp [go_sem])
    rw [← hW]
    clear hW
    have HzW := Lib.hid hzW
    clear hzW
    refine (of_no_spec u d hB _).mono ?_
    rintro e w3 ⟨rfl, hb3⟩
    have hlt : w2.heap.size < w3.heap.size := by have := hb3.size; have := HzW.out; omega
    have hkk : Below w.heap.size w w3 := belT (belT (belT hb1 hb2) hbW) hb3
    go_wp2_with fail
    refine (alive _).mono ?_
    rintro e w4 ⟨rfl, hb4⟩
    have hk4 := belT hkk (bel1 hb4)
    go_wp2_with fail
    go_ret
    exact ⟨rfl, by repeat (first | exact Below.refl _ _ | assumption | exact bel1 (by assumption) | exact bel2 (by assumption) | exact bel3 (by assumption) | exact bel4 (by assumption) | refine Below.drew ?_ | refine below_drewN ?_ _ | refine Below.setCell ?_ (by first | (simp; done) | (simp; omega)) _ | refine Below.alloc ?_ (by first | (simp; done) | (simp; omega)) _)⟩
  · obtain ⟨a1, a2, a3, a4, a5⟩ := ofB_iff.1 hB
    have hok := low_ok hB
    have h3 := lowU_in u d (M := 1000000000) a1 a2
    have h4 := lowD_in u d (M := 1000000000) a3 a4
    have m1 := mul_in2 h3.1 h3.2 a3 a4
    have m2 := mul_in2 a1 a2 h4.1 h4.2
    have hx : (lowU u d * d == u * lowD u d) = true := by simp [low_cross u d a5]
    clear a5 h3 h4
    refine (of_yes_impl u d hB _).mono ?_
    rintro e w2 ⟨rfl, hb2⟩
    go_wp2_with fail
    obtain ⟨W, hW⟩ : ∃ W : World, W = (w2.alloc (.cells #[(Value.int .i64 (lowU u d)), (Value.int .i64 (lowD u d))] 24)) := ⟨_, rfl⟩
    have hzW : W.heap.size = w2.heap.size + 1 := by rw [hW]; simp
    have hbW : Below w2.heap.size w2 W := by rw [hW]; exact (by repeat (first | exact Below.refl _ _ | assumption | exact bel1 (by assumption) | exact bel2 (by assumption) | exact bel3 (by assumption) | exact bel4 (by assumption) | refine Below.drew ?_ | refine below_drewN ?_ _ | refine Below.setCell ?_ (by first | (simp; done) | (simp; omega)) _ | refine Below.alloc ?_ (by first | (simp; done) | (simp; omega)) _))
    have r00 := stays (p := w2.heap.size) (o := 0) (by omega) (show W.cell? ⟨w2.heap.size, 0, none⟩ = some ((Value.int .i64 (lowU u d))) from by rw [hW]; simp [go_sem])
    have r01 := stays (p := w2.heap.size) (o := 1) (by omega) (show W.cell? ⟨w2.heap.size, 1, none⟩ = some ((Value.int .i64 (lowD u d))) from by rw [hW]; simp [go_sem])
    rw [← hW]
    clear hW
    have HzW := Lib.hid hzW
    clear hzW
    refine (of_yes_spec u d hB _).mono ?_
    rintro e w3 ⟨rfl, hb3⟩
    have hlt : w2.heap.size < w3.heap.size := by have := hb3.size; have := HzW.out; omega
    have hkk : Below w.heap.size w w3 := belT (belT (belT hb1 hb2) hbW) hb3
    go_wp2_with fail
    refine (fracOk_impl_v _ _ _ hok _).mono ?_
    rintro e w4 ⟨rfl, hb4⟩
    have hk4 := belT hkk (bel1 hb4)
    have hkr := belT hb3 (bel1 hb4)
    go_wp2_with fail
    go_ret
    exact ⟨rfl, by repeat (first | exact Below.refl _ _ | assumption | exact bel1 (by assumption) | exact bel2 (by assumption) | exact bel3 (by assumption) | exact bel4 (by assumption) | refine Below.drew ?_ | refine below_drewN ?_ _ | refine Below.setCell ?_ (by first | (simp; done) | (simp; omega)) _ | refine Below.alloc ?_ (by first | (simp; done) | (simp; omega)) _)⟩

end Go.Proofs.Ytijlednmagdpgaa
