/- The walks of the exact laws on games, first part: GameOk, FloorOf, RoofOf. (Written by wip/gen/exactg.py.) -/
import Derived.Test.YtaphlhdkdokopaaCopy
import Derived.Test.YtaphlhdkdokopaaFloorS
namespace Go.Proofs.Ytaphlhdkdokopaa
set_option linter.unusedSimpArgs false
set_option linter.unusedVariables false
open Go.RowKit

theorem NewRows.bel {w w' : World} {g : List (List Int)} (h : Laid w w' g) : Below w.heap.size w w' := Laying.bel h

theorem NewRows.reads {w w' : World} {g : List (List Int)} (h : Laid w w' g) (hm : ∀ i, i < g.length → (rowAt g i).length ≤ 4294967296) : Rows2 w' (· < w'.heap.size) (some ⟨w.heap.size, 0, none⟩) g :=
  h.rows2 (fun _ _ h => h) (fun i hi => by have := hm i hi; unfold maxLen; omega)

/-- a table that was read is read behind whatever only adds blocks -/
theorem stillRows {w w' : World} {A : Option Addr} {g : List (List Int)} (h : Rows2 w (· < w.heap.size) A g) (hb : Below w.heap.size w w') : Rows2 w' (· < w'.heap.size) A g :=
  (keepRows hb h).mono fun b hlt => by have := hb.size; omega

set_option maxHeartbeats 1000000 in
theorem wFnExactGameOk (A : Option Addr) (c : Nat) (g : List (List Int)) (hl : g.length ≤ maxLen) (w : World) (h : Rows2 w (· < w.heap.size) A g) :
    Calls Try.prog 8 #[.slice A g.length c] w (Adds (.bool true) w) := by
  have z1 : (gameB g != gameB g) = false := by simp
  have HH := Lib.hid h
  clear h
  go_enter Try.func8, Try.ntmps8
  go_wp2_with fail
  refine (szIntSS A c g _ 1048576 hl (by omega) (by omega) _ HH.out).mono ?_
  rintro e w1 ⟨r, rfl, rfl, hr⟩
  by_cases hr0 : r < 0
  · clear hr
    go_wp2_with fail
    go_ret
    exact Adds.of rfl (Below.refl _ _)
  · have hs : (g.length : Int) + (sumN g g.length : Nat) ≤ 1048576 := by omega
    have hm : ∀ i, i < g.length → (rowAt g i).length ≤ 4294967296 := fun i hi => by have := row_le_sumN g hi; omega
    have hl2 : g.length ≤ 4294967296 := by omega
    have HM := Lib.hid hm
    clear hr hs hm
    go_wp2_with fail
    refine (toIntSS A c g hl2 HM.out _ HH.out).mono ?_
    rintro e w1 ⟨rfl, hL1⟩
    have hb1 := NewRows.bel hL1
    have R1 := Lib.hid (NewRows.reads hL1 HM.out)
    clear hL1
    go_wp2_with fail
    refine (game_spec _ _ g _ hl _ R1.out).mono ?_
    rintro e w2 ⟨rfl, n2, rfl⟩
    go_wp2_with fail
    have hb2 : Below w.heap.size w (w1.drewN n2) := below_drewN hb1 _
    refine (toIntSS A c g hl2 HM.out _ (stillRows HH.out hb2)).mono ?_
    rintro e w3 ⟨rfl, hL3⟩
    have hb3 := belT hb2 (NewRows.bel hL3)
    have R3 := Lib.hid (NewRows.reads hL3 HM.out)
    clear hL3
    go_wp2_with fail
    refine ((fun A c g hl w h => (game_impl A c g _ hl w h).mono fun _ _ => Same.adds) _ _ g hl _ R3.out).mono ?_
    rintro e w4 ⟨rfl, hb4⟩
    have R4 := Lib.hid (stillRows R3.out hb4)
    have hb5 := belT hb3 hb4
    clear hb4
    go_wp2_with fail
    refine (toIntSS A c g hl2 HM.out _ (stillRows HH.out hb5)).mono ?_
    rintro e w5 ⟨rfl, hL5⟩
    have R5 := Lib.hid (NewRows.reads hL5 HM.out)
    have R6 := Lib.hid (stillRows R4.out (NewRows.bel hL5))
    have hb6 := belT hb5 (NewRows.bel hL5)
    clear hL5
    go_wp2_with fail
    refine (eqIntSS _ _ _ _ g _ _ hl _ R6.out R5.out).mono ?_
    rintro e w6 ⟨rfl, n6, rfl⟩
    go_wp2_with fail
    go_ret
    exact Adds.of rfl (below_drewN hb6 _)

set_option maxHeartbeats 1000000 in
theorem wFnExactFloorOf (A : Option Addr) (c : Nat) (g : List (List Int)) (hl : g.length ≤ maxLen) (w : World) (h : Rows2 w (· < w.heap.size) A g) :
    Calls Try.prog 9 #[.slice A g.length c] w (Adds (.bool true) w) := by
  have z1 : (gameB g != gameB g) = false := by simp
  have z2 : (floV g != floV g) = false := by simp
  have z3 : (floA g != floA g) = false := by simp
  have HH := Lib.hid h
  clear h
  go_enter Try.func9, Try.ntmps9
  go_wp2_with fail
  refine (szIntSS A c g _ 1048576 hl (by omega) (by omega) _ HH.out).mono ?_
  rintro e w1 ⟨r, rfl, rfl, hr⟩
  by_cases hr0 : r < 0
  · clear hr
    go_wp2_with fail
    go_ret
    exact Adds.of rfl (Below.refl _ _)
  · have hs : (g.length : Int) + (sumN g g.length : Nat) ≤ 1048576 := by omega
    have hm : ∀ i, i < g.length → (rowAt g i).length ≤ 4294967296 := fun i hi => by have := row_le_sumN g hi; omega
    have hl2 : g.length ≤ 4294967296 := by omega
    have HM := Lib.hid hm
    clear hr hs hm
    go_wp2_with fail
    refine (toIntSS A c g hl2 HM.out _ HH.out).mono ?_
    rintro e w1 ⟨rfl, hL1⟩
    have hb1 := NewRows.bel hL1
    have R1 := Lib.hid (NewRows.reads hL1 HM.out)
    clear hL1
    go_wp2_with fail
    refine (floor_spec _ _ g _ hl _ R1.out).mono ?_
    rintro e w2 ⟨rfl, n2, rfl⟩
    go_wp2_with fail
    have hb2 : Below w.heap.size w (w1.drewN n2) := below_drewN hb1 _
    refine (toIntSS A c g hl2 HM.out _ (stillRows HH.out hb2)).mono ?_
    rintro e w3 ⟨rfl, hL3⟩
    have hb3 := belT hb2 (NewRows.bel hL3)
    have R3 := Lib.hid (NewRows.reads hL3 HM.out)
    clear hL3
    go_wp2_with fail
    refine (floor_impl _ _ g hl _ R3.out).mono ?_
    rintro e w4 ⟨rfl, hb4⟩
    have R4 := Lib.hid (stillRows R3.out hb4)
    have hb5 := belT hb3 hb4
    clear hb4
    go_wp2_with fail
    refine (toIntSS A c g hl2 HM.out _ (stillRows HH.out hb5)).mono ?_
    rintro e w5 ⟨rfl, hL5⟩
    have R5 := Lib.hid (NewRows.reads hL5 HM.out)
    have R6 := Lib.hid (stillRows R4.out (NewRows.bel hL5))
    have hb6 := belT hb5 (NewRows.bel hL5)
    clear hL5
    go_wp2_with fail
    refine (eqIntSS _ _ _ _ g _ _ hl _ R6.out R5.out).mono ?_
    rintro e w6 ⟨rfl, n6, rfl⟩
    go_wp2_with fail
    go_ret
    exact Adds.of rfl (below_drewN hb6 _)

set_option maxHeartbeats 1000000 in
theorem wFnExactRoofOf (A : Option Addr) (c : Nat) (g : List (List Int)) (hl : g.length ≤ maxLen) (w : World) (h : Rows2 w (· < w.heap.size) A g) :
    Calls Try.prog 10 #[.slice A g.length c] w (Adds (.bool true) w) := by
  have z1 : (gameB g != gameB g) = false := by simp
  have z2 : (rooV g != rooV g) = false := by simp
  have z3 : (rooA g != rooA g) = false := by simp
  have HH := Lib.hid h
  clear h
  go_enter Try.func10, Try.ntmps10
  go_wp2_with fail
  refine (szIntSS A c g _ 1048576 hl (by omega) (by omega) _ HH.out).mono ?_
  rintro e w1 ⟨r, rfl, rfl, hr⟩
  by_cases hr0 : r < 0
  · clear hr
    go_wp2_with fail
    go_ret
    exact Adds.of rfl (Below.refl _ _)
  · have hs : (g.length : Int) + (sumN g g.length : Nat) ≤ 1048576 := by omega
    have hm : ∀ i, i < g.length → (rowAt g i).length ≤ 4294967296 := fun i hi => by have := row_le_sumN g hi; omega
    have hl2 : g.length ≤ 4294967296 := by omega
    have HM := Lib.hid hm
    clear hr hs hm
    go_wp2_with fail
    refine (toIntSS A c g hl2 HM.out _ HH.out).mono ?_
    rintro e w1 ⟨rfl, hL1⟩
    have hb1 := NewRows.bel hL1
    have R1 := Lib.hid (NewRows.reads hL1 HM.out)
    clear hL1
    go_wp2_with fail
    refine (roof_spec _ _ g _ hl _ R1.out).mono ?_
    rintro e w2 ⟨rfl, n2, rfl⟩
    go_wp2_with fail
    have hb2 : Below w.heap.size w (w1.drewN n2) := below_drewN hb1 _
    refine (toIntSS A c g hl2 HM.out _ (stillRows HH.out hb2)).mono ?_
    rintro e w3 ⟨rfl, hL3⟩
    have hb3 := belT hb2 (NewRows.bel hL3)
    have R3 := Lib.hid (NewRows.reads hL3 HM.out)
    clear hL3
    go_wp2_with fail
    refine (roof_impl _ _ g hl _ R3.out).mono ?_
    rintro e w4 ⟨rfl, hb4⟩
    have R4 := Lib.hid (stillRows R3.out hb4)
    have hb5 := belT hb3 hb4
    clear hb4
    go_wp2_with fail
    refine (toIntSS A c g hl2 HM.out _ (stillRows HH.out hb5)).mono ?_
    rintro e w5 ⟨rfl, hL5⟩
    have R5 := Lib.hid (NewRows.reads hL5 HM.out)
    have R6 := Lib.hid (stillRows R4.out (NewRows.bel hL5))
    have hb6 := belT hb5 (NewRows.bel hL5)
    clear hL5
    go_wp2_with fail
    refine (eqIntSS _ _ _ _ g _ _ hl _ R6.out R5.out).mono ?_
    rintro e w6 ⟨rfl, n6, rfl⟩
    go_wp2_with fail
    go_ret
    exact Adds.of rfl (below_drewN hb6 _)

end Go.Proofs.Ytaphlhdkdokopaa
