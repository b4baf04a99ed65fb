/- The walk of the exact law of SaddlesOf. -/
import Derived.Test.YtaphlhdkdokopaaMark2
import Derived.Test.YtaphlhdkdokopaaSaddleS
import Derived.Test.YtaphlhdkdokopaaExactG
namespace Go.Proofs.Ytaphlhdkdokopaa
set_option linter.unusedSimpArgs false
set_option linter.unusedVariables false
open Go.RowKit

theorem OwnI.below {w w' : World} {lo hi : Nat} {A : Option Addr} {l : List Int} (h : OwnI w lo hi A l) (hb : Below hi w w') : OwnI w' lo hi A l := h.keep fun b _ h2 => hb.block b h2

theorem OwnR.below {w w' : World} {lo hi : Nat} {A : Option Addr} {g : List (List Int)} (h : OwnR w lo hi A g) (hb : Below hi w w') : OwnR w' lo hi A g := h.keep fun b _ h2 => hb.block b h2

theorem OwnI.off {w w' : World} {lo hi lo' hi' : Nat} {A : Option Addr} {l : List Int} (h : OwnI w lo hi A l) (ho : Off lo' hi' w w') (hd : hi ≤ lo' ∨ hi' ≤ lo) : OwnI w' lo hi A l := h.keep fun b h1 h2 => ho.block b (by omega)

theorem OwnR.off {w w' : World} {lo hi lo' hi' : Nat} {A : Option Addr} {g : List (List Int)} (h : OwnR w lo hi A g) (ho : Off lo' hi' w w') (hd : hi ≤ lo' ∨ hi' ≤ lo) : OwnR w' lo hi A g := h.keep fun b h1 h2 => ho.block b (by omega)

theorem OwnI.lt {w : World} {lo hi : Nat} {A : Option Addr} {l : List Int} (h : OwnI w lo hi A l) : Ints w (· < hi) A l := h.ints.mono fun _ h => h.2

theorem OwnR.lt {w : World} {lo hi : Nat} {A : Option Addr} {g : List (List Int)} (h : OwnR w lo hi A g) : Rows2 w (· < hi) A g := h.rows2.mono fun _ h => h.2

set_option maxHeartbeats 2000000 in
theorem wFnExactSaddlesOf (A : Option Addr) (c : Nat) (g : List (List Int)) (hl : g.length ≤ maxLen) (w : World) (h : Rows2 w (· < w.heap.size) A g) :
    Calls Try.prog 11 #[.slice A g.length c] w (Adds (.bool true) w) := by
  have HH := Lib.hid h
  have hsl := saddles_len g
  have hslm : (saddles g).length ≤ maxLen := by unfold maxLen; omega
  have HSLM := Lib.hid hslm
  clear h hslm
  go_enter Try.func11, Try.ntmps11
  go_wp2_with fail
  refine (szIntSS A c g _ 1048576 hl (by omega) (by omega) _ HH.out).mono ?_
  rintro e w1 ⟨r, rfl, rfl, hr⟩
  by_cases hr0 : r < 0
  · clear hr
    go_wp2_with fail
    go_ret
    exact Adds.of rfl (Below.refl _ _)
  have hs : (g.length : Int) + (sumN g g.length : Nat) ≤ 1048576 := by omega
  have hm : ∀ i, i < g.length → (rowAt g i).length ≤ 4294967296 := fun i hi => by have := row_le_sumN g hi; omega
  have hmm : ∀ i, i < g.length → (rowAt g i).length ≤ maxLen := fun i hi => by have := hm i hi; unfold maxLen; omega
  have hl2 : g.length ≤ 4294967296 := by omega
  have HM := Lib.hid hm
  have HMM := Lib.hid hmm
  have hs1 : sumN g g.length ≤ 1048576 := by omega
  clear hr hs hm hmm
  -- what the specification says
  go_wp2_with fail
  refine (toIntSS A c g hl2 HM.out _ HH.out).mono ?_
  rintro e w1 ⟨rfl, hL1⟩
  have hb1 := NewRows.bel hL1
  have R1 := Lib.hid (NewRows.reads hL1 HM.out)
  clear hL1
  go_wp2_with fail
  refine (saddles_spec _ _ g hl _ R1.out).mono ?_
  rintro e w2 ⟨Aw, cw, rfl, hb2, ho2⟩
  have W2 := Lib.hid ho2.lt
  have B2 := belT hb1 hb2
  clear ho2 hb2 R1
  -- a copy, and the program's answer to it
  go_wp2_with fail
  refine (toIntSS A c g hl2 HM.out _ (stillRows HH.out B2)).mono ?_
  rintro e w3 ⟨rfl, hL3⟩
  have hb3 := NewRows.bel hL3
  have X3 := Lib.hid (Laid.own hL3 HMM.out)
  have W3 := Lib.hid (keepInts hb3 W2.out)
  have B3 := belT B2 hb3
  clear hL3 W2
  go_wp2_with fail
  refine (saddles_impl _ _ g hl _ X3.out.lt).mono ?_
  rintro e w4 ⟨Ag, cg, rfl, hb4, ho4⟩
  have G4 := Lib.hid ho4
  have X4 := Lib.hid (X3.out.below hb4)
  have W4 := Lib.hid (keepInts (hb4.mono hb3.size) W3.out)
  have B4 := belT B3 hb4
  have s2 := B2.size
  have s3 := hb3.size
  have s4 := hb4.size
  clear ho4 X3 W3 hb4
  -- both are compared
  go_wp2_with fail
  refine (eqIntS _ _ _ _ (saddles g) _ _ HSLM.out _ G4.out.lt W4.out).mono ?_
  rintro e w5 ⟨rfl, n5, rfl⟩
  have B5 := below_drewN B4 n5
  go_wp2_with fail
  refine (toIntSS A c g hl2 HM.out _ (stillRows HH.out B5)).mono ?_
  rintro e w6 ⟨rfl, hL6⟩
  have hb6 : Below w4.heap.size w4 w6 := belT (below_drewN (Below.refl _ _) n5) (NewRows.bel hL6)
  have R6 := Lib.hid (NewRows.reads hL6 HM.out)
  have X6 := Lib.hid (X4.out.below (hb6.mono s4))
  have G6 := Lib.hid (G4.out.below hb6)
  have W6 := Lib.hid (keepInts (hb6.mono (Nat.le_trans s3 s4)) W4.out)
  have B6 : Below w.heap.size w w6 := belT B4 hb6
  have s6 := hb6.size
  clear hL6 X4 G4 W4
  go_wp2_with fail
  refine (eqIntSS _ _ _ _ g _ _ hl _ X6.out.lt R6.out).mono ?_
  rintro e w7 ⟨rfl, n7, rfl⟩
  -- the copy is numbered through
  go_wp2_with fail
  refine (markIntSS _ _ g _ _ 1 hl2 (by omega) (by omega) (by omega) _ (X6.out.below (below_drewN (Below.refl _ _) n7))).mono ?_
  rintro e w8 ⟨rfl, hoff8, _⟩
  have G8 := Lib.hid ((G6.out.below (below_drewN (Below.refl _ _) n7)).off hoff8 (.inr (Nat.le_refl _)))
  have W8 := Lib.hid (keepInts (hoff8.below (Nat.le_refl _)) ((W6.out.drewN n7)))
  have B8 : Below w.heap.size w w8 := (below_drewN B6 n7).trans (hoff8.below s2)
  have s8 : w8.heap.size = w6.heap.size := hoff8.size
  have S8 := Lib.hid s8
  have hsize8 : w4.heap.size ≤ w8.heap.size := by omega
  clear hoff8 s8 R6 X6 G6 W6
  go_wp2_with fail
  refine (eqIntS _ _ _ _ (saddles g) _ _ HSLM.out _ G8.out.lt W8.out).mono ?_
  rintro e w9 ⟨rfl, n9, rfl⟩
  -- the answer is numbered through
  go_wp2_with fail
  refine (markIntS _ _ (saddles g) _ _ 1 (by omega) (by omega) (by omega) _ (G8.out.below (below_drewN (Below.refl _ _) n9))).mono ?_
  rintro e w10 ⟨rfl, ht10, ho10⟩
  have hoff10 := ht10.off (G8.out.below (below_drewN (Below.refl _ _) n9))
  have G10 := Lib.hid ho10
  have W10 := Lib.hid (keepInts (hoff10.below s3) (W8.out.drewN n9))
  have B10 : Below w.heap.size w w10 := (below_drewN B8 n9).trans (hoff10.below (Nat.le_trans s2 s3))
  have s10 : w10.heap.size = w8.heap.size := hoff10.size
  have hsize10 : w4.heap.size ≤ w10.heap.size := by omega
  have zz : ((1 + ((saddles g).length : Int)) != (1 + ((saddles g).length : Int))) = false := by simp
  clear ht10 ho10 hoff10 s10 G8 W8
  go_wp2_with fail
  refine (heldIntS _ _ (saddles g).length _ 1 (by omega) (by omega) (by omega) _ G10.out.ints).mono ?_
  rintro e w11 ⟨rfl, rfl⟩
  -- once more
  go_wp2_with fail
  refine (toIntSS A c g hl2 HM.out _ (stillRows HH.out B10)).mono ?_
  rintro e w12 ⟨rfl, hL12⟩
  have hb12 := NewRows.bel hL12
  have R12 := Lib.hid (NewRows.reads hL12 HM.out)
  have G12 := Lib.hid (G10.out.below (hb12.mono hsize10))
  have W12 := Lib.hid (keepInts (hb12.mono (Nat.le_trans (Nat.le_trans s3 s4) hsize10)) W10.out)
  have B12 := belT B10 hb12
  have s12 := hb12.size
  have hsize12 : w4.heap.size ≤ w12.heap.size := by omega
  clear hL12 G10 W10 hb12
  go_wp2_with fail
  refine (saddles_impl _ _ g hl _ R12.out).mono ?_
  rintro e w13 ⟨Ah, ch, rfl, hb13, ho13⟩
  have G13 := Lib.hid (G12.out.below (hb13.mono hsize12))
  have W13 := Lib.hid (keepInts (hb13.mono (Nat.le_trans (Nat.le_trans s3 s4) hsize12)) W12.out)
  have B13 := belT B12 hb13
  have H13 := Lib.hid ho13.lt
  clear ho13 hb13 G12 W12
  go_wp2_with fail
  refine (eqIntS _ _ _ _ (saddles g) _ _ HSLM.out _ H13.out W13.out).mono ?_
  rintro e w14 ⟨rfl, n14, rfl⟩
  go_wp2_with fail
  refine (heldIntS _ _ (saddles g).length _ 1 (by omega) (by omega) (by omega) _ (G13.out.ints.drewN n14)).mono ?_
  rintro e w15 ⟨rfl, rfl⟩
  go_wp2_with fail
  go_ret
  exact Adds.of rfl (below_drewN B13 _)

end Go.Proofs.Ytaphlhdkdokopaa
