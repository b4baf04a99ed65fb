/- The walks of what the laws of learning draw: a game and a number of steps. -/
import Derived.Test.YtakkdpjgdmngkaaMH
namespace Go.Proofs.Ytakkdpjgdmngkaa
set_option linter.unusedSimpArgs false
set_option linter.unusedVariables false
open Go.RowKit

/-- a game is drawn, and a number of steps -/
def DrawnTS (w : World) (e : Ending) (w' : World) : Prop :=
  ∃ (g : List (List Int)) (T : Option Addr) (c : Nat) (s : Int), e = .returned (.tuple #[.slice T g.length c, .int .i64 s]) ∧ g.length ≤ c ∧ c ≤ maxLen ∧ g.length ≤ 17 ∧ (∀ i, i < g.length → (rowAt g i).length ≤ 16) ∧ -60 ≤ s ∧ s ≤ 61 ∧ Below w.heap.size w w' ∧ OwnR w' w.heap.size w'.heap.size T g

set_option maxHeartbeats 2000000 in
theorem dDrawLearnedOf (a : Option Addr) (len cap : Nat) (zs : List Int) (w : World) (h : IsRow .u8 w a len cap zs) :
    Calls Try.prog 9 #[.slice a len cap] w (DrawnTS w) := by
  go_enter Try.func9, Try.ntmps9
  go_wp2_with fail
  refine (l20Open a len cap zs w h).mono ?_
  rintro e w1 ⟨rfl, hb1, a1, len1, cap1, zs1, R1⟩
  go_wp2_with fail
  refine (l20Fair w.heap.size w1 a1 len1 cap1 zs1 0 12 R1 (by omega) (by omega) (by omega)).mono ?_
  rintro e w2 ⟨g, T, c, p', rfl, g1, g2, g3, g4, hK, hR, hp1, hp2, ho⟩
  have HO := Lib.hid ho
  have HG2 := Lib.hid g2
  have HG4 := Lib.hid g4
  have HK := Lib.hid hK
  have hn1 := R1.lt
  clear ho g2 g4 hK R1
  go_wp2_with fail
  refine (pick w.heap.size w2 a1 len1 cap1 zs1 p' 30 hR (by omega) (by omega) (by omega)).mono ?_
  intro e w3 hP3
  obtain ⟨x, rfl, x0, x1, k3, R3⟩ := hP3
  have HK3 := Lib.hid k3
  clear k3 hR
  have v1 : IntKind.i64.wrap (1 + x) = 1 + x := IntWalk.i64_in _ (by omega)
  go_wp2_with fail
  refine (pick w.heap.size w3 a1 len1 cap1 zs1 (p' + 1) 20 R3 (by omega) (by omega) (by omega)).mono ?_
  intro e w4 hP4
  obtain ⟨y, rfl, y0, y1, k4, R4⟩ := hP4
  have HK4 := Lib.hid k4
  have hy : y.tdiv 19 = 0 ∨ y.tdiv 19 = 1 := by rw [Int.tdiv_eq_ediv_of_nonneg y0]; omega
  obtain ⟨s, hs⟩ : ∃ s, y.tdiv 19 = s := ⟨_, rfl⟩
  rw [hs] at hy
  have v2 : IntKind.i64.wrap s = s := IntWalk.i64_in _ (by omega)
  have v3 : IntKind.i64.wrap (s * 30) = s * 30 := IntWalk.i64_in _ (by omega)
  have v4 : IntKind.i64.wrap (1 + x + s * 30) = 1 + x + s * 30 := IntWalk.i64_in _ (by omega)
  have HY := Lib.hid hy
  clear R3 k4 hy
  go_wp2_with fail
  refine (pick w.heap.size w4 a1 len1 cap1 zs1 (p' + 1 + 1) 30 R4 (by omega) (by omega) (by omega)).mono ?_
  intro e w5 hP5
  obtain ⟨z, rfl, z0, z1, k5, R5⟩ := hP5
  have HK5 := Lib.hid k5
  have hz : z.tdiv 29 = 0 ∨ z.tdiv 29 = 1 := by rw [Int.tdiv_eq_ediv_of_nonneg z0]; omega
  obtain ⟨t, ht⟩ : ∃ t, z.tdiv 29 = t := ⟨_, rfl⟩
  rw [ht] at hz
  have hyy := HY.out
  have v5 : IntKind.i64.wrap t = t := IntWalk.i64_in _ (by omega)
  have v6 : IntKind.i64.wrap (t * 60) = t * 60 := IntWalk.i64_in _ (by omega)
  have v7 : IntKind.i64.wrap (1 + x + s * 30 - t * 60) = 1 + x + s * 30 - t * 60 := IntWalk.i64_in _ (by omega)
  have HZ := Lib.hid hz
  have hKK := ((HK.out.trans HK3.out).trans HK4.out).trans HK5.out
  have HB := Lib.hid (hb1.trans (hKK.below (Nat.le_refl _) hb1.size))
  have HOF : Hid (OwnR w5 w1.heap.size w2.heap.size T g) := HO.out.kept ((HK3.out.trans HK4.out).trans HK5.out) hn1 (Nat.le_refl _)
  have hs24 := ((HK3.out.trans HK4.out).trans HK5.out).size
  clear R4 R5 k5 hz hKK hyy
  go_wp2_with fail
  go_ret2
  have hy := HY.out
  have hz := HZ.out
  exact ⟨g, T, c, 1 + x + s * 30 - t * 60, rfl, g1, HG2.out, g3, HG4.out, by omega, by omega, HB.out, HOF.out.more hb1.size hs24⟩

theorem dDrawGapOf (a : Option Addr) (len cap : Nat) (zs : List Int) (w : World) (h : IsRow .u8 w a len cap zs) :
    Calls Try.prog 21 #[.slice a len cap] w (DrawnTS w) := by
  have H := Lib.hid h
  clear h
  go_enter Try.func21, Try.ntmps21
  go_wp2_with fail
  refine (dDrawLearnedOf a len cap zs w H.out).mono ?_
  rintro e w2 ⟨g, T, c, s, rfl, g1, g2, g3, g4, g5, g6, hb, ho⟩
  have HG2 := Lib.hid g2
  have HB := Lib.hid hb
  have HO := Lib.hid ho
  clear g2 hb ho
  go_wp2_with fail
  go_ret2
  exact ⟨g, T, c, s, rfl, g1, HG2.out, g3, g4, g5, g6, HB.out, HO.out⟩

set_option maxHeartbeats 2000000 in
theorem dDrawLeastGap (a : Option Addr) (len cap : Nat) (zs : List Int) (w : World) (h : IsRow .u8 w a len cap zs) :
    Calls Try.prog 24 #[.slice a len cap] w (DrawnTS w) := by
  go_enter Try.func24, Try.ntmps24
  go_wp2_with fail
  refine (l20Open a len cap zs w h).mono ?_
  rintro e w1 ⟨rfl, hb1, a1, len1, cap1, zs1, R1⟩
  go_wp2_with fail
  refine (l20Fair w.heap.size w1 a1 len1 cap1 zs1 0 12 R1 (by omega) (by omega) (by omega)).mono ?_
  rintro e w2 ⟨g, T, c, p', rfl, g1, g2, g3, g4, hK, hR, hp1, hp2, ho⟩
  have HO := Lib.hid ho
  have HG2 := Lib.hid g2
  have HG4 := Lib.hid g4
  have HK := Lib.hid hK
  have hn1 := R1.lt
  clear ho g2 g4 hK R1
  go_wp2_with fail
  refine (pick w.heap.size w2 a1 len1 cap1 zs1 p' 20 hR (by omega) (by omega) (by omega)).mono ?_
  intro e w3 hP3
  obtain ⟨x, rfl, x0, x1, k3, R3⟩ := hP3
  have HK3 := Lib.hid k3
  clear k3 hR
  have v1 : IntKind.i64.wrap (1 + x) = 1 + x := IntWalk.i64_in _ (by omega)
  go_wp2_with fail
  refine (pick w.heap.size w3 a1 len1 cap1 zs1 (p' + 1) 20 R3 (by omega) (by omega) (by omega)).mono ?_
  intro e w4 hP4
  obtain ⟨y, rfl, y0, y1, k4, R4⟩ := hP4
  have HK4 := Lib.hid k4
  have hy : y.tdiv 19 = 0 ∨ y.tdiv 19 = 1 := by rw [Int.tdiv_eq_ediv_of_nonneg y0]; omega
  obtain ⟨s, hs⟩ : ∃ s, y.tdiv 19 = s := ⟨_, rfl⟩
  rw [hs] at hy
  have v2 : IntKind.i64.wrap s = s := IntWalk.i64_in _ (by omega)
  have v3 : IntKind.i64.wrap (s * 30) = s * 30 := IntWalk.i64_in _ (by omega)
  have v4 : IntKind.i64.wrap (1 + x - s * 30) = 1 + x - s * 30 := IntWalk.i64_in _ (by omega)
  have HY := Lib.hid hy
  have hKK := (HK.out.trans HK3.out).trans HK4.out
  have HB := Lib.hid (hb1.trans (hKK.below (Nat.le_refl _) hb1.size))
  have HOF : Hid (OwnR w4 w1.heap.size w2.heap.size T g) := HO.out.kept (HK3.out.trans HK4.out) hn1 (Nat.le_refl _)
  have hs24 := (HK3.out.trans HK4.out).size
  clear R3 R4 k4 hy hKK
  go_wp2_with fail
  go_ret2
  have hy := HY.out
  exact ⟨g, T, c, 1 + x - s * 30, rfl, g1, HG2.out, g3, HG4.out, by omega, by omega, HB.out, HOF.out.more hb1.size hs24⟩

end Go.Proofs.Ytakkdpjgdmngkaa
