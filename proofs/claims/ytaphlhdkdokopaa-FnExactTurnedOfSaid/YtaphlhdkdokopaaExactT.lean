/- The walk of the exact law of TurnedOf. -/
import Derived.Test.YtaphlhdkdokopaaTurnS
import Derived.Test.YtaphlhdkdokopaaExactS
namespace Go.Proofs.Ytaphlhdkdokopaa
set_option linter.unusedSimpArgs false
set_option linter.unusedVariables false
open Go.RowKit

set_option maxHeartbeats 2000000 in
theorem wFnExactTurnedOf (A : Option Addr) (c : Nat) (g : List (List Int)) (hl : g.length ≤ maxLen) (w : World) (h : Rows2 w (· < w.heap.size) A g) :
    Calls Try.prog 12 #[.slice A g.length c] w (Adds (.bool true) w) := by
  have HH := Lib.hid h
  obtain ⟨hsl, hsr⟩ := turned_len g
  have hsn : sumN (turned g) (turned g).length ≤ 256 := by have := sumN_le (turned g) 16 _ hsr; omega
  have hslm : (turned g).length ≤ maxLen := by unfold maxLen; omega
  have HSLM := Lib.hid hslm
  clear h hslm hsr
  go_enter Try.func12, Try.ntmps12
  go_wp2_with fail
  refine (szIntSS A c g _ 1048576 hl (by omega) (by omega) _ HH.out).mono ?_
  rintro e w1 ⟨r, rfl, rfl, hr⟩
  by_cases hr0 : r < 0
  · clear hr
    go_wp2_with fail
    go_ret
    exact Adds.of rfl (Below.refl _ _)
  have hs : (g.length : Int) + (sumN g g.length : Nat) ≤ 1048576 := by omega
  have hm : ∀ i, i < g.length → (rowAt g i).length ≤ 4294967296 := fun i hi => by have := row_le_sumN g hi; omega
  have hmm : ∀ i, i < g.length → (rowAt g i).length ≤ maxLen := fun i hi => by have := hm i hi; unfold maxLen; omega
  have hl2 : g.length ≤ 4294967296 := by omega
  have HM := Lib.hid hm
  have HMM := Lib.hid hmm
  have hs1 : sumN g g.length ≤ 1048576 := by omega
  clear hr hs hm hmm
  -- what the specification says
  go_wp2_with fail
  refine (toIntSS A c g hl2 HM.out _ HH.out).mono ?_
  rintro e w1 ⟨rfl, hL1⟩
  have hb1 := NewRows.bel hL1
  have R1 := Lib.hid (NewRows.reads hL1 HM.out)
  clear hL1
  go_wp2_with fail
  refine (turned_spec _ _ g hl _ R1.out).mono ?_
  rintro e w2 ⟨Aw, cw, rfl, hb2, ho2⟩
  have W2 := Lib.hid ho2.lt
  have B2 := belT hb1 hb2
  clear ho2 hb2 R1
  -- a copy, and the program's answer to it
  go_wp2_with fail
  refine (toIntSS A c g hl2 HM.out _ (stillRows HH.out B2)).mono ?_
  rintro e w3 ⟨rfl, hL3⟩
  have hb3 := NewRows.bel hL3
  have X3 := Lib.hid (Laid.own hL3 HMM.out)
  have W3 := Lib.hid (keepRows hb3 W2.out)
  have B3 := belT B2 hb3
  clear hL3 W2
  go_wp2_with fail
  refine (turned_impl _ _ g hl _ X3.out.lt).mono ?_
  rintro e w4 ⟨Ag, cg, rfl, hb4, ho4⟩
  have G4 := Lib.hid ho4
  have X4 := Lib.hid (X3.out.below hb4)
  have W4 := Lib.hid (keepRows (hb4.mono hb3.size) W3.out)
  have B4 := belT B3 hb4
  have s2 := B2.size
  have s3 := hb3.size
  have s4 := hb4.size
  clear ho4 X3 W3 hb4
  -- both are compared
  go_wp2_with fail
  refine (eqIntSS _ _ _ _ (turned g) _ _ HSLM.out _ G4.out.lt W4.out).mono ?_
  rintro e w5 ⟨rfl, n5, rfl⟩
  have B5 := below_drewN B4 n5
  go_wp2_with fail
  refine (toIntSS A c g hl2 HM.out _ (stillRows HH.out B5)).mono ?_
  rintro e w6 ⟨rfl, hL6⟩
  have hb6 : Below w4.heap.size w4 w6 := belT (below_drewN (Below.refl _ _) n5) (NewRows.bel hL6)
  have R6 := Lib.hid (NewRows.reads hL6 HM.out)
  have X6 := Lib.hid (X4.out.below (hb6.mono s4))
  have G6 := Lib.hid (G4.out.below hb6)
  have W6 := Lib.hid (keepRows (hb6.mono (Nat.le_trans s3 s4)) W4.out)
  have B6 : Below w.heap.size w w6 := belT B4 hb6
  have s6 := hb6.size
  clear hL6 X4 G4 W4
  go_wp2_with fail
  refine (eqIntSS _ _ _ _ g _ _ hl _ X6.out.lt R6.out).mono ?_
  rintro e w7 ⟨rfl, n7, rfl⟩
  -- the copy is numbered through
  go_wp2_with fail
  refine (markIntSS _ _ g _ _ 1 hl2 (by omega) (by omega) (by omega) _ (X6.out.below (below_drewN (Below.refl _ _) n7))).mono ?_
  rintro e w8 ⟨rfl, hoff8, _⟩
  have G8 := Lib.hid ((G6.out.below (below_drewN (Below.refl _ _) n7)).off hoff8 (.inr (Nat.le_refl _)))
  have W8 := Lib.hid (keepRows (hoff8.below (Nat.le_refl _)) ((W6.out.drewN n7)))
  have B8 : Below w.heap.size w w8 := (below_drewN B6 n7).trans (hoff8.below s2)
  have s8 : w8.heap.size = w6.heap.size := hoff8.size
  have S8 := Lib.hid s8
  have hsize8 : w4.heap.size ≤ w8.heap.size := by omega
  clear hoff8 s8 R6 X6 G6 W6
  go_wp2_with fail
  refine (eqIntSS _ _ _ _ (turned g) _ _ HSLM.out _ G8.out.lt W8.out).mono ?_
  rintro e w9 ⟨rfl, n9, rfl⟩
  -- the answer is numbered through
  go_wp2_with fail
  refine (markIntSS _ _ (turned g) _ _ 1 (by omega) (by omega) (by omega) (by omega) _ (G8.out.below (below_drewN (Below.refl _ _) n9))).mono ?_
  rintro e w10 ⟨rfl, hoff10, ho10⟩
  have G10 := Lib.hid ho10
  have W10 := Lib.hid (keepRows (hoff10.below s3) (W8.out.drewN n9))
  have B10 : Below w.heap.size w w10 := (below_drewN B8 n9).trans (hoff10.below (Nat.le_trans s2 s3))
  have s10 : w10.heap.size = w8.heap.size := hoff10.size
  have hsize10 : w4.heap.size ≤ w10.heap.size := by omega
  have zz : ((1 + (sumN (turned g) (turned g).length : Int)) != (1 + (sumN (turned g) (turned g).length : Int))) = false := by simp
  clear ho10 hoff10 s10 G8 W8
  go_wp2_with fail
  refine (heldIntSS _ _ (turned g) _ 1 (by omega) (by omega) (by omega) (by omega) _ G10.out.rows2).mono ?_
  rintro e w11 ⟨rfl, rfl⟩
  -- once more
  go_wp2_with fail
  refine (toIntSS A c g hl2 HM.out _ (stillRows HH.out B10)).mono ?_
  rintro e w12 ⟨rfl, hL12⟩
  have hb12 := NewRows.bel hL12
  have R12 := Lib.hid (NewRows.reads hL12 HM.out)
  have G12 := Lib.hid (G10.out.below (hb12.mono hsize10))
  have W12 := Lib.hid (keepRows (hb12.mono (Nat.le_trans (Nat.le_trans s3 s4) hsize10)) W10.out)
  have B12 := belT B10 hb12
  have s12 := hb12.size
  have hsize12 : w4.heap.size ≤ w12.heap.size := by omega
  clear hL12 G10 W10 hb12
  go_wp2_with fail
  refine (turned_impl _ _ g hl _ R12.out).mono ?_
  rintro e w13 ⟨Ah, ch, rfl, hb13, ho13⟩
  have G13 := Lib.hid (G12.out.below (hb13.mono hsize12))
  have W13 := Lib.hid (keepRows (hb13.mono (Nat.le_trans (Nat.le_trans s3 s4) hsize12)) W12.out)
  have B13 := belT B12 hb13
  have H13 := Lib.hid ho13.lt
  clear ho13 hb13 G12 W12
  go_wp2_with fail
  refine (eqIntSS _ _ _ _ (turned g) _ _ HSLM.out _ H13.out W13.out).mono ?_
  rintro e w14 ⟨rfl, n14, rfl⟩
  go_wp2_with fail
  refine (heldIntSS _ _ (turned g) _ 1 (by omega) (by omega) (by omega) (by omega) _ (G13.out.rows2.drewN n14)).mono ?_
  rintro e w15 ⟨rfl, rfl⟩
  go_wp2_with fail
  go_ret
  exact Adds.of rfl (below_drewN B13 _)

end Go.Proofs.Ytaphlhdkdokopaa
