/- The draws of windows. -/
import Derived.Test.YthdlepfkifngmaaMH
namespace Go.Proofs.Ythdlepfkifngmaa
set_option linter.unusedSimpArgs false
set_option linter.unusedVariables false
open Go.RowKit

/-- two drawn numbers -/
def DrawnII (w : World) (e : Ending) (w' : World) : Prop :=
  ∃ c d : Int, e = .returned (.tuple #[.int .i64 c, .int .i64 d]) ∧ (1 ≤ c ∧ c ≤ 19 ∧ 1 ≤ d ∧ d ≤ 39) ∧ Below w.heap.size w w'

theorem tdiv_01 {y k : Int} (h0 : 0 ≤ y) (hk : 0 < k) (h1 : y ≤ k) : 0 ≤ y.tdiv k ∧ y.tdiv k ≤ 1 := by
  rw [Int.tdiv_eq_ediv_of_nonneg h0]
  exact ⟨Int.ediv_nonneg h0 (by omega), by have := Int.ediv_le_ediv hk h1; rwa [Int.ediv_self (by omega)] at this⟩

set_option maxHeartbeats 1000000 in
set_option maxRecDepth 100000 in
theorem dDrawWindowGame (a : Option Addr) (len cap : Nat) (zs : List Int) (w : World) (h : IsRow .u8 w a len cap zs) :
    Calls Try.prog 13 #[.slice a len cap] w (DrawnII w) := by
  go_enter Try.func13, Try.ntmps13
  go_wp2_with fail
  refine (l20Open a len cap zs w h).mono ?_
  rintro e w1 ⟨rfl, hb1, a1, len1, cap1, zs1, R1⟩
  have hn1 := R1.lt
  go_wp2_with fail
  refine (pick w.heap.size w1 a1 len1 cap1 zs1 0 10 R1 (by omega) (by omega) (by omega)).mono ?_
  intro e w2 hP2
  obtain ⟨x, rfl, x0, x1, k2, R2⟩ := hP2
  have HK2 := Lib.hid k2
  clear k2 R1
  go_wp2_with fail
  refine (pick w.heap.size w2 a1 len1 cap1 zs1 (0 + 1) 20 R2 (by omega) (by omega) (by omega)).mono ?_
  intro e w3 hP3
  obtain ⟨y, rfl, y0, y1, k3, R3⟩ := hP3
  have HK3 : Hid (Kept w.heap.size w1 w3) := HK2.out.trans k3
  clear k3 R2
  obtain ⟨t, ht⟩ : ∃ t, y.tdiv 19 = t := ⟨_, rfl⟩
  obtain ⟨t0, t1⟩ := tdiv_01 (k := 19) y0 (by omega) (by omega)
  rw [ht] at t0 t1
  have e1 : IntKind.i64.wrap (1 + x) = 1 + x := IntWalk.i64_in _ ⟨by omega, by omega⟩
  have e2 : IntKind.i64.wrap t = t := IntWalk.i64_in _ ⟨by omega, by omega⟩
  have e3 : IntKind.i64.wrap (t * 9) = t * 9 := IntWalk.i64_in _ ⟨by omega, by omega⟩
  have e4 : IntKind.i64.wrap (1 + x + t * 9) = 1 + x + t * 9 := IntWalk.i64_in _ ⟨by omega, by omega⟩
  go_wp2_with fail
  obtain ⟨c, hc⟩ : ∃ c, c = 1 + x + t * 9 := ⟨_, rfl⟩
  have c0 : 1 ≤ c := by omega
  have c1 : c ≤ 19 := by omega
  rw [← hc]
  clear hc e1 e2 e3 e4 ht t0 t1
  refine (pick w.heap.size w3 a1 len1 cap1 zs1 (0 + 1 + 1) c R3 (by omega) (by omega) (by omega)).mono ?_
  intro e w4 hP4
  obtain ⟨u, rfl, u0, u1, k4, R4⟩ := hP4
  have HK4 : Hid (Kept w.heap.size w1 w4) := HK3.out.trans k4
  clear k4 R3
  have e5 : IntKind.i64.wrap (1 + u) = 1 + u := IntWalk.i64_in _ ⟨by omega, by omega⟩
  go_wp2_with fail
  refine (pick w.heap.size w4 a1 len1 cap1 zs1 (0 + 1 + 1 + 1) 30 R4 (by omega) (by omega) (by omega)).mono ?_
  intro e w5 hP5
  obtain ⟨z, rfl, z0, z1, k5, R5⟩ := hP5
  have HB5 := Lib.hid (hb1.trans ((HK4.out.trans k5).below (Nat.le_refl _) hb1.size))
  clear k5 R4 R5
  obtain ⟨t, ht⟩ : ∃ t, z.tdiv 29 = t := ⟨_, rfl⟩
  obtain ⟨t0, t1⟩ := tdiv_01 (k := 29) z0 (by omega) (by omega)
  rw [ht] at t0 t1
  have e2 : IntKind.i64.wrap t = t := IntWalk.i64_in _ ⟨by omega, by omega⟩
  have e3 : IntKind.i64.wrap (t * 20) = t * 20 := IntWalk.i64_in _ ⟨by omega, by omega⟩
  have e4 : IntKind.i64.wrap (1 + u + t * 20) = 1 + u + t * 20 := IntWalk.i64_in _ ⟨by omega, by omega⟩
  go_wp2_with fail
  go_ret2
  exact ⟨c, 1 + u + t * 20, rfl, ⟨by omega, by omega, by omega, by omega⟩, HB5.out⟩

set_option maxHeartbeats 400000 in
theorem dDrawWindowsFor (a : Option Addr) (len cap : Nat) (zs : List Int) (w : World) (h : IsRow .u8 w a len cap zs) :
    Calls Try.prog 21 #[.slice a len cap] w (DrawnII w) := by
  go_enter Try.func21, Try.ntmps21
  go_wp2_with fail
  refine (dDrawWindowGame a len cap zs w h).mono ?_
  rintro e w1 ⟨c, d, rfl, hcd, hb1⟩
  go_wp2_with fail
  go_ret2
  exact ⟨c, d, rfl, hcd, hb1⟩

set_option maxHeartbeats 400000 in
theorem dDrawLookPlan (a : Option Addr) (len cap : Nat) (zs : List Int) (w : World) (h : IsRow .u8 w a len cap zs) :
    Calls Try.prog 25 #[.slice a len cap] w (DrawnII w) := by
  go_enter Try.func25, Try.ntmps25
  go_wp2_with fail
  refine (dDrawWindowGame a len cap zs w h).mono ?_
  rintro e w1 ⟨c, d, rfl, hcd, hb1⟩
  go_wp2_with fail
  go_ret2
  exact ⟨c, d, rfl, hcd, hb1⟩

set_option maxHeartbeats 400000 in
theorem dDrawHidePlan (a : Option Addr) (len cap : Nat) (zs : List Int) (w : World) (h : IsRow .u8 w a len cap zs) :
    Calls Try.prog 29 #[.slice a len cap] w (DrawnII w) := by
  go_enter Try.func29, Try.ntmps29
  go_wp2_with fail
  refine (dDrawWindowGame a len cap zs w h).mono ?_
  rintro e w1 ⟨c, d, rfl, hcd, hb1⟩
  go_wp2_with fail
  go_ret2
  exact ⟨c, d, rfl, hcd, hb1⟩

set_option maxHeartbeats 400000 in
theorem dDrawRingGame (a : Option Addr) (len cap : Nat) (zs : List Int) (w : World) (h : IsRow .u8 w a len cap zs) :
    Calls Try.prog 33 #[.slice a len cap] w (DrawnII w) := by
  go_enter Try.func33, Try.ntmps33
  go_wp2_with fail
  refine (dDrawWindowGame a len cap zs w h).mono ?_
  rintro e w1 ⟨c, d, rfl, hcd, hb1⟩
  go_wp2_with fail
  go_ret2
  exact ⟨c, d, rfl, hcd, hb1⟩

end Go.Proofs.Ythdlepfkifngmaa
