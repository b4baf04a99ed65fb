/- The walks of the laws of TurnedOf and RoofOf. -/
import Derived.Test.YtaphlhdkdokopaaDrawT
import Derived.Test.YtaphlhdkdokopaaExactS
namespace Go.Proofs.Ytaphlhdkdokopaa
set_option linter.unusedSimpArgs false
set_option linter.unusedVariables false
open Go.RowKit

theorem small_max {n : Nat} (h : n ≤ 17) : n ≤ maxLen := by unfold maxLen; omega

theorem byte_len {w : World} {a : Option Addr} {len cap : Nat} {zs : List Int} (h : IsRow .u8 w a len cap zs) : len ≤ 9223372036854775807 := by
  rcases h with ⟨_, rfl, _, _⟩ | ⟨x, _, h1, h2, _⟩
  · omega
  · unfold maxLen at h2; omega

set_option maxHeartbeats 2000000 in
theorem wFnTurnedOf (a : Option Addr) (len cap : Nat) (zs : List Int) (w : World) (h : IsRow .u8 w a len cap zs) :
    Calls Try.prog 7 #[.slice a len cap] w fun e w' => e = .returned (.bool true) ∧ Below w.heap.size w w' := by
  have hle := byte_len h
  by_cases hbig : (1048576 : Int) < (len : Int)
  · go_enter Try.func7, Try.ntmps7
    go_wp2_with fail
    go_ret
    exact ⟨rfl, Below.refl _ _⟩
  go_enter Try.func7, Try.ntmps7
  go_wp2_with fail
  refine (dDrawTurnedOf a len cap zs w h).mono ?_
  rintro e w1 ⟨g, T, c, rfl, hc1, hc2, hg17, hgr, B1, ho1⟩
  clear hbig hle
  have hl := small_max hg17
  obtain ⟨hsl, hsr⟩ := turned_len g
  have hsl' : (turned g).length ≤ maxLen := small_max (by omega)
  have HL := Lib.hid hl
  have HSL := Lib.hid hsl'
  have O1 := Lib.hid ho1
  clear ho1 hl hsl' hgr hc2
  go_wp2_with fail
  refine (turned_impl _ _ g HL.out _ O1.out.lt).mono ?_
  rintro e w2 ⟨X, cx, rfl, b2, o2⟩
  have O2 := Lib.hid o2
  have G2 := Lib.hid (keepRows b2 O1.out.lt)
  have B2 := belT B1 b2
  have s2 := b2.size
  clear o2
  go_wp2_with fail
  refine (turned_spec _ _ g HL.out _ (G2.out.lt s2)).mono ?_
  rintro e w3 ⟨Y, cy, rfl, b3, o3⟩
  have O3 := Lib.hid o3
  have X3 := Lib.hid (O2.out.below b3)
  have G3 := Lib.hid (keepRows (b3.mono s2) G2.out)
  have B3 := belT B2 b3
  have s3 := b3.size
  clear o3 b2 O1 O2 G2
  go_wp2_with fail
  refine (sameRows _ _ _ _ (turned g) _ _ HSL.out _ X3.out.lt O3.out.lt).mono ?_
  rintro e w4 ⟨rfl, n4, rfl⟩
  rcases hb : gameB g with _ | _
  · have H1 : Hid ((turned g).length = 0) := by simp [Hid, turned, hb]
    have z : (((turned g).length : Int) == 0) = true := by rw [H1.out]; rfl
    have HB := Lib.hid hb
    clear hb
    go_wp2_with fail
    refine (game_impl _ _ g _ HL.out _ (G3.out.drewN n4)).mono ?_
    rintro e w5 ⟨rfl, rfl⟩
    rw [HB.out]
    go_wp2_with fail
    refine (alive _).mono ?_
    rintro e w5 ⟨rfl, hb5⟩
    go_wp2_with fail
    go_ret
    exact ⟨rfl, belT (below_drewN B3 n4) hb5⟩
  · have hg := Game.of hb
    have ht := floor_turned hb
    have hlen : 0 < (turned g).length := by
      have := (Game.of ht.1).lo; omega
    have z : (((turned g).length : Int) == 0) = false := by simp; intro e; rw [e] at hlen; simp at hlen
    have HB := Lib.hid hb
    have HT := Lib.hid ht.1
    have HTT := Lib.hid (turned_turned hb)
    clear hb ht hg hlen
    go_wp2_with fail
    refine (game_impl _ _ (turned g) _ HSL.out _ (X3.out.lt.drewN n4)).mono ?_
    rintro e w5 ⟨rfl, rfl⟩
    rw [HT.out]
    go_wp2_with fail
    refine (turned_impl _ _ (turned g) HSL.out _ ((X3.out.lt.lt s3).drewN n4)).mono ?_
    rintro e w5 ⟨Z, cz, rfl, b5, o5⟩
    have O5 := Lib.hid o5
    rw [HTT.out] at O5
    rw [HTT.out]
    have G5 := Lib.hid (keepRows (b5.mono (Nat.le_trans (by omega) s3)) (G3.out.drewN n4))
    clear o5
    go_wp2_with fail
    refine (sameRows _ _ _ _ g _ _ HL.out _ O5.out.lt G5.out).mono ?_
    rintro e w6 ⟨rfl, n6, rfl⟩
    go_wp2_with fail
    go_ret
    exact ⟨rfl, below_drewN (belT (below_drewN B3 n4) b5) _⟩

set_option maxHeartbeats 2000000 in
theorem wFnRoofOf (a : Option Addr) (len cap : Nat) (zs : List Int) (w : World) (h : IsRow .u8 w a len cap zs) :
    Calls Try.prog 5 #[.slice a len cap] w fun e w' => e = .returned (.bool true) ∧ Below w.heap.size w w' := by
  have hle := byte_len h
  by_cases hbig : (1048576 : Int) < (len : Int)
  · go_enter Try.func5, Try.ntmps5
    go_wp2_with fail
    go_ret
    exact ⟨rfl, Below.refl _ _⟩
  go_enter Try.func5, Try.ntmps5
  go_wp2_with fail
  refine (dDrawRoofOf a len cap zs w h).mono ?_
  rintro e w1 ⟨g, T, c, rfl, hc1, hc2, hg17, hgr, B1, ho1⟩
  clear hbig hle
  have hl := small_max hg17
  obtain ⟨hsl, hsr⟩ := turned_len g
  have hsl' : (turned g).length ≤ maxLen := small_max (by omega)
  have HL := Lib.hid hl
  have HSL := Lib.hid hsl'
  have O1 := Lib.hid ho1.lt
  have z1 : (rooV g != rooV g) = false := by simp
  have z2 : (rooA g != rooA g) = false := by simp
  have z3 : (gameB g != gameB g) = false := by simp
  clear ho1 hl hsl' hgr hc2
  go_wp2_with fail
  refine (roof_impl _ _ g HL.out _ O1.out).mono ?_
  rintro e w2 ⟨rfl, b2⟩
  have G2 := Lib.hid (keepRows b2 O1.out)
  have B2 := belT B1 b2
  have s2 := b2.size
  go_wp2_with fail
  refine (roof_spec _ _ g _ HL.out _ G2.out).mono ?_
  rintro e w3 ⟨rfl, n3, rfl⟩
  rcases hb : gameB g with _ | _
  · have H1 : Hid (rooV g = 0) := by simp [Hid, rooV, hb]
    have H2 : Hid (rooA g = -1) := by simp [Hid, rooA, hb]
    rw [hb] at z3
    rw [H1.out] at z1
    rw [H2.out] at z2
    rw [H1.out, H2.out]
    clear hb
    go_wp2_with fail
    refine (alive _).mono ?_
    rintro e w5 ⟨rfl, hb5⟩
    go_wp2_with fail
    go_ret
    exact ⟨rfl, belT (below_drewN B2 n3) hb5⟩
  · have ht := floor_turned hb
    have hg := Game.of hb
    have hr1 : -9 ≤ rooV g ∧ rooV g ≤ 9 := by
      obtain ⟨j, hj, e⟩ := roof_at hb
      rw [e, nth_highs g j hj]
      obtain ⟨i, hi, e2⟩ := highN_at (col g j) hg.lo
      rw [e2, nth_col g j i hi]
      exact ⟨hg.nlo i hi j hj, hg.nhi i hi j hj⟩
    obtain ⟨hr1, hr2⟩ := hr1
    have z4 : (-rooV g == -rooV g) = true := by simp
    have z5 : (rooA g == rooA g) = true := by simp
    rw [hb] at z3
    have H1 := Lib.hid ht.1
    have H2 := Lib.hid ht.2.1
    have H3 := Lib.hid ht.2.2
    clear hb ht hg
    go_wp2_with fail
    refine (turned_impl _ _ g HL.out _ ((G2.out.lt s2).drewN n3)).mono ?_
    rintro e w5 ⟨X, cx, rfl, b5, o5⟩
    have O5 := Lib.hid o5
    have s5 := b5.size
    clear o5
    go_wp2_with fail
    refine (floor_impl _ _ (turned g) HSL.out _ O5.out.lt).mono ?_
    rintro e w6 ⟨rfl, b6⟩
    rw [H1.out, H2.out, H3.out]
    go_wp2_with fail
    go_ret
    exact ⟨rfl, belT (belT (below_drewN B2 n3) b5) b6⟩

end Go.Proofs.Ytaphlhdkdokopaa
