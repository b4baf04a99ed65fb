/- Texts in one: Wfl, TownK, ExactGa, ExactGb, ExactGc. -/
import Derived.Test.YtcminkifdbdaaaaMC
import Derived.Test.YtcminkifdbdaaaaNC
import Derived.Test.YtcminkifdbdaaaaMG
import Derived.Test.YtcminkifdbdaaaaNH
namespace Go.Proofs.Ytcminkifdbdaaaa
set_option linter.unusedSimpArgs false
set_option linter.unusedVariables false
open Go.RowKit

/-- the numbers of a list are machine integers -/
def WfL (l : List Int) : Prop := ∀ z, z ∈ l → (Lit.int .i64 z).wf = true

theorem WfL.at {l : List Int} (h : WfL l) (i : Nat) : -9223372036854775808 ≤ nth l i ∧ nth l i ≤ 9223372036854775807 := by
  by_cases hi : i < l.length
  · have hm : nth l i ∈ l := by unfold nth; rw [List.getD_eq_getElem?_getD, List.getElem?_eq_getElem hi]; exact List.getElem_mem _
    have := h _ hm
    simp [Lit.wf, IntKind.min, IntKind.max, IntKind.signed, IntKind.bits] at this
    omega
  · unfold nth; rw [List.getD_eq_getElem?_getD, List.getElem?_eq_none (by omega)]; simp

theorem WfL.small {l : List Int} (h : ∀ z, z ∈ l → 0 ≤ z ∧ z ≤ 99) : WfL l := fun z hz => by
  have := h z hz
  simp [Lit.wf, IntKind.min, IntKind.max, IntKind.signed, IntKind.bits]; omega

theorem WfL.take {l : List Int} (h : WfL l) (n : Nat) : WfL (l.take n) := fun z hz => h z (List.mem_of_mem_take hz)

end Go.Proofs.Ytcminkifdbdaaaa

namespace Go.Proofs.Ytcminkifdbdaaaa
set_option linter.unusedSimpArgs false
set_option linter.unusedVariables false
open Go.RowKit

set_option maxHeartbeats 1000000 in
theorem szTown_c (P : Int) (A : Option Addr) (c n : Nat) (left : Int) (hn : n ≤ 9223372036854775807) (h0 : 0 ≤ left) (h1 : left ≤ 4294967296) (w : World) :
    Calls Try.prog 42 #[twnV P A n c, .int .i64 left] w (Adds (.int .i64 (if left - (n : Int) < 0 then -1 else left - (n : Int))) w) := by
  unfold twnV
  by_cases h : left - (n : Int) < 0
  · have HS : Hid (∀ w', Calls Try.prog 77 #[.slice A n c, .int .i64 left] w' (Same (.int .i64 (-1)) w')) := fun w' => by have := szIntS A c n left hn h0 h1 w'; rwa [if_pos h] at this
    rw [if_pos h]
    clear h
    go_enter Try.func42, Try.ntmps42
    go_wp2_with (go_at_call 77; refine (HS.out _).mono ?_; rintro e w1 ⟨rfl, rfl⟩)
    go_ret
    exact Adds.of rfl ((Below.refl _ _).alloc (Nat.le_refl _) _)
  · obtain ⟨m, hm⟩ : ∃ m, left - (n : Int) = m := ⟨_, rfl⟩
    have HS : Hid (∀ w', Calls Try.prog 77 #[.slice A n c, .int .i64 left] w' (Same (.int .i64 m) w')) := fun w' => by have := szIntS A c n left hn h0 h1 w'; rw [if_neg h, hm] at this; exact this
    rw [if_neg h, hm]
    rw [hm] at h
    have g : decide (m < 0) = false := decide_eq_false h
    clear hm
    go_enter Try.func42, Try.ntmps42
    go_wp2_with (go_at_call 77; refine (HS.out _).mono ?_; rintro e w1 ⟨rfl, rfl⟩)
    go_ret
    exact Adds.of rfl ((Below.refl _ _).alloc (Nat.le_refl _) _)

set_option maxHeartbeats 1000000 in
theorem eqTown_c (P : Int) (A B : Option Addr) (c d : Nat) (l : List Int) (hl : l.length ≤ maxLen) (w : World) (h : Ints w (fun b => b < w.heap.size) A l) (h' : Ints w (fun b => b < w.heap.size) B l) :
    Calls Try.prog 44 #[twnV P A l.length c, twnV P B l.length d] w (Adds (.bool true) w) := by
  unfold twnV
  have HS : Hid (∀ w', Below w.heap.size w w' → Calls Try.prog 45 #[.slice A l.length c, .slice B l.length d] w' (Quiet (.bool true) w')) := fun w' hb => eqIntS A B c d l _ _ hl w' (keepInts hb h) (keepInts hb h')
  have z1 : (P != P) = false := by simp
  clear h h'
  go_enter Try.func44, Try.ntmps44
  go_wp2_with (go_at_call 45; refine (HS.out _ (((Below.refl _ _).alloc (Nat.le_refl _) _).alloc (by simp) _)).mono ?_; rintro e w1 ⟨rfl, n, rfl⟩)
  go_ret
  exact Adds.of rfl (below_drewN (((Below.refl _ _).alloc (Nat.le_refl _) _).alloc (by simp) _) _)

set_option maxHeartbeats 1000000 in
theorem markTown_c (P : Int) (A : Option Addr) (c : Nat) (l : List Int) (lo hi : Nat) (k : Int) (hl : l.length ≤ 4294967296) (h0 : 0 ≤ k) (h1 : k ≤ 4294967296) (w : World) (hhi : hi ≤ w.heap.size) (h : OwnI w lo hi A l) :
    Calls Try.prog 46 #[twnV P A l.length c, .int .i64 k] w fun e w' => e = .returned (.int .i64 (k + (l.length : Int))) ∧ ∃ W, Below w.heap.size w W ∧ Off lo hi W w' ∧ OwnI w' lo hi A (seqN k l.length) := by
  unfold twnV
  have hb : Below w.heap.size w (w.alloc (.cells #[.int .i64 P, .slice A l.length c] 25)) := (Below.refl _ _).alloc (Nat.le_refl _) _
  have ho : OwnI (w.alloc (.cells #[.int .i64 P, .slice A l.length c] 25)) lo hi A l := h.keep fun b _ hb2 => hb.block b (by omega)
  have HS := Lib.hid (markIntS A c l lo hi k hl h0 h1 _ ho)
  have HB := Lib.hid hb
  have HO := Lib.hid ho
  clear h hb ho
  go_enter Try.func46, Try.ntmps46
  go_wp2_with (go_at_call 47; refine HS.out.mono ?_; rintro e w1 ⟨rfl, ht, ho1⟩)
  go_ret
  exact ⟨rfl, _, HB.out, ht.off HO.out, ho1⟩

/-- a town's copy, in a block of its own -/
def NewTown (w : World) (P : Int) (l : List Int) (e : Ending) (w' : World) : Prop :=
  ∃ b : Nat, e = .returned (twnV P (some ⟨b, 0, none⟩) l.length l.length) ∧ Below w.heap.size w w' ∧ OwnI w' w.heap.size w'.heap.size (some ⟨b, 0, none⟩) l

set_option maxHeartbeats 1000000 in
theorem toTown_c (P : Int) (A : Option Addr) (c : Nat) (l : List Int) (hl : l.length ≤ 4294967296) (w : World) (h : Ints w (· < w.heap.size) A l) :
    Calls Try.prog 43 #[twnV P A l.length c] w (NewTown w P l) := by
  unfold twnV
  have HS : Hid (∀ w', Below w.heap.size w w' → Calls Try.prog 78 #[.slice A l.length c] w' (fun e w'' => NewInts w' l e w'' ∧ w''.heap.size = w'.heap.size + 1)) := fun w' hb => toIntS A c l hl w' ((keepInts hb h).lt hb.size)
  obtain ⟨X, hX⟩ : ∃ X, X = ((w.alloc (.cells #[.int .i64 P, .slice A l.length c] 44)).alloc (.cells #[.int .i64 0, .slice none 0 0] 25)).alloc (.cells #[.int .i64 P, .slice none 0 0] 25) := ⟨_, rfl⟩
  have hXs : X.heap.size = w.heap.size + 1 + 1 + 1 := by rw [hX]; simp
  have x0 : X.cell? ⟨w.heap.size + 1 + 1, 0, none⟩ = some (.int .i64 P) := by rw [hX]; simp [go_sem]
  have x1 : X.cell? ⟨w.heap.size + 1 + 1, 1, none⟩ = some (.slice none 0 0) := by rw [hX]; simp [go_sem]
  have y0 : X.cell? ⟨w.heap.size + 1, 0, none⟩ = some (.int .i64 0) := by rw [hX]; simp [go_sem]
  have y1 : X.cell? ⟨w.heap.size + 1, 1, none⟩ = some (.slice none 0 0) := by rw [hX]; simp [go_sem]
  have fx : X.frozen? ⟨w.heap.size + 1 + 1, 1, none⟩ = false := by rw [hX]; simp [go_sem]
  have fy0 : X.frozen? ⟨w.heap.size + 1, 0, none⟩ = false := by rw [hX]; simp [go_sem]
  have fy1 : X.frozen? ⟨w.heap.size + 1, 1, none⟩ = false := by rw [hX]; simp [go_sem]
  have hbX : Below w.heap.size w X := by rw [hX]; exact (((Below.refl _ _).alloc (Nat.le_refl _) _).alloc (by simp) _).alloc (by simp; omega) _
  have HX := Lib.hid hX
  clear h hX
  go_enter Try.func43, Try.ntmps43
  go_wp2_with fail
  rw [← HX.out]
  refine (HS.out X hbX).mono ?_
  rintro e w6 ⟨⟨rfl, hb6, hs6, hr6⟩, hz6⟩
  obtain ⟨g, hg⟩ : ∃ g, X.heap.size = g := ⟨_, rfl⟩
  rw [hg] at hb6 hs6 hr6 hXs
  have kx0 : w6.cell? ⟨w.heap.size + 1 + 1, 0, none⟩ = some (.int .i64 P) := (hb6.cell (p := ⟨w.heap.size + 1 + 1, 0, none⟩) (by show w.heap.size + 1 + 1 < _; omega)).trans x0
  have kx1 : w6.cell? ⟨w.heap.size + 1 + 1, 1, none⟩ = some (.slice none 0 0) := (hb6.cell (p := ⟨w.heap.size + 1 + 1, 1, none⟩) (by show w.heap.size + 1 + 1 < _; omega)).trans x1
  have ky0 : w6.cell? ⟨w.heap.size + 1, 0, none⟩ = some (.int .i64 0) := (hb6.cell (p := ⟨w.heap.size + 1, 0, none⟩) (by show w.heap.size + 1 < _; omega)).trans y0
  have ky1 : w6.cell? ⟨w.heap.size + 1, 1, none⟩ = some (.slice none 0 0) := (hb6.cell (p := ⟨w.heap.size + 1, 1, none⟩) (by show w.heap.size + 1 < _; omega)).trans y1
  have kfx : w6.frozen? ⟨w.heap.size + 1 + 1, 1, none⟩ = false := (hb6.frozen (p := ⟨w.heap.size + 1 + 1, 1, none⟩) (by show w.heap.size + 1 + 1 < _; omega)).trans fx
  have kfy0 : w6.frozen? ⟨w.heap.size + 1, 0, none⟩ = false := (hb6.frozen (p := ⟨w.heap.size + 1, 0, none⟩) (by show w.heap.size + 1 < _; omega)).trans fy0
  have kfy1 : w6.frozen? ⟨w.heap.size + 1, 1, none⟩ = false := (hb6.frozen (p := ⟨w.heap.size + 1, 1, none⟩) (by show w.heap.size + 1 < _; omega)).trans fy1
  have HB6 := Lib.hid (hbX.trans (hb6.mono (by omega)))
  have HR6 := Lib.hid hr6
  have HS6 := Lib.hid hs6
  clear x0 x1 y0 y1 fx fy0 fy1 hbX hb6 hs6 hr6 hz6 HX
  go_wp2_with fail
  have ne1 : (⟨w.heap.size + 1 + 1, 1, none⟩ : Addr) ≠ ⟨w.heap.size + 1, 0, none⟩ := by intro e; injection e with e; omega
  have ne2 : (⟨w.heap.size + 1 + 1, 1, none⟩ : Addr) ≠ ⟨w.heap.size + 1, 1, none⟩ := by intro e; injection e with e; omega
  have ne3 : (⟨w.heap.size + 1, 0, none⟩ : Addr) ≠ ⟨w.heap.size + 1, 1, none⟩ := by intro e; injection e with e1 e2; omega
  obtain ⟨v9, hv9⟩ : ∃ v9, v9 = Value.slice (some ⟨w.heap.size + 1 + 1 + 1, 0, none⟩) l.length l.length := ⟨_, rfl⟩
  have r0 : (((w6.setCell ⟨w.heap.size + 1 + 1, 1, none⟩ v9).setCell ⟨w.heap.size + 1, 0, none⟩ (.int .i64 P)).setCell ⟨w.heap.size + 1, 1, none⟩ v9).cell? ⟨w.heap.size + 1, 0, none⟩ = some (.int .i64 P) := by
    rw [World.cell?_setCell_other (h := ne3.symm)]
    exact World.cell?_setCell_same _ _ _ (by rw [World.cell?_setCell_other (h := ne1)]; exact ky0)
  have r1 : (((w6.setCell ⟨w.heap.size + 1 + 1, 1, none⟩ v9).setCell ⟨w.heap.size + 1, 0, none⟩ (.int .i64 P)).setCell ⟨w.heap.size + 1, 1, none⟩ v9).cell? ⟨w.heap.size + 1, 1, none⟩ = some v9 :=
    World.cell?_setCell_same _ _ _ (by rw [World.cell?_setCell_other (h := ne3), World.cell?_setCell_other (h := ne2)]; exact ky1)
  rw [hv9] at r0 r1
  refine bodyPost_ret (v := .agg #[.int .i64 P, .slice (some ⟨w.heap.size + 1 + 1 + 1, 0, none⟩) l.length l.length]) (by simp [results, Try.results43, go_sem, r0, r1]) rfl ⟨w.heap.size + 1 + 1 + 1, rfl, ?_, ?_⟩
  · exact ((HB6.out.setCell (p := ⟨w.heap.size + 1 + 1, 1, none⟩) (by show w.heap.size ≤ w.heap.size + 1 + 1; omega) _).setCell (p := ⟨w.heap.size + 1, 0, none⟩) (by show w.heap.size ≤ w.heap.size + 1; omega) _).setCell (p := ⟨w.heap.size + 1, 1, none⟩) (by show w.heap.size ≤ w.heap.size + 1; omega) _
  · have hr := HR6.out
    have hs := HS6.out
    rw [hXs] at hr hs
    have hr2 : World.rowIs _ _ _ _ _ := hr
    refine fun _ => ⟨w.heap.size + 1 + 1 + 1, l.length, _, rfl, by omega, by simp [World.setCell]; omega, ((hr2.setOther (a := ⟨w.heap.size + 1 + 1, 1, none⟩) (by show w.heap.size + 1 + 1 + 1 ≠ w.heap.size + 1 + 1; omega) _).setOther (a := ⟨w.heap.size + 1, 0, none⟩) (by show w.heap.size + 1 + 1 + 1 ≠ w.heap.size + 1; omega) _).setOther (a := ⟨w.heap.size + 1, 1, none⟩) (by show w.heap.size + 1 + 1 + 1 ≠ w.heap.size + 1; omega) _, Nat.le_refl _, fun i hi => rfl⟩

end Go.Proofs.Ytcminkifdbdaaaa

namespace Go.Proofs.Ytcminkifdbdaaaa
set_option linter.unusedSimpArgs false
set_option linter.unusedVariables false
open Go.RowKit

/-- what the program's functions on towns are asked -/
structure Impl9 : Prop where
  ok : ∀ (P : Int) (_ : (Lit.int .i64 P).wf = true) (A : Option Addr) (c : Nat) (l : List Int) (_ : l.length ≤ 4294967296) (_ : WfL l) (w : World) (_ : Ints w (fun b => b < w.heap.size) A l), Calls Try.prog 16 #[twnV P A l.length c] w (Adds (.bool (townB P l)) w)
  ways : ∀ (P : Int) (_ : (Lit.int .i64 P).wf = true) (A : Option Addr) (c : Nat) (l : List Int) (_ : l.length ≤ 4294967296) (_ : WfL l) (w : World) (_ : Ints w (fun b => b < w.heap.size) A l), Calls Try.prog 20 #[twnV P A l.length c] w (NewList w (waysI P l))
  game : ∀ (P : Int) (_ : (Lit.int .i64 P).wf = true) (A : Option Addr) (c : Nat) (l : List Int) (_ : l.length ≤ 4294967296) (_ : WfL l) (w : World) (_ : Ints w (fun b => b < w.heap.size) A l), Calls Try.prog 25 #[twnV P A l.length c] w (NewTable w (grdI P l))
  most : ∀ (P : Int) (_ : (Lit.int .i64 P).wf = true) (A : Option Addr) (c : Nat) (l : List Int) (_ : l.length ≤ 4294967296) (_ : WfL l) (w : World) (_ : Ints w (fun b => b < w.heap.size) A l), Calls Try.prog 30 #[twnV P A l.length c] w (Adds (.int .i64 (mostI P l)) w)
  go : ∀ (P : Int) (_ : (Lit.int .i64 P).wf = true) (A : Option Addr) (c : Nat) (l : List Int) (_ : l.length ≤ 4294967296) (_ : WfL l) (w : World) (_ : Ints w (fun b => b < w.heap.size) A l), Calls Try.prog 34 #[twnV P A l.length c] w (NewList w (goI P l))
  guard : ∀ (P : Int) (_ : (Lit.int .i64 P).wf = true) (A : Option Addr) (c : Nat) (l : List Int) (_ : l.length ≤ 4294967296) (_ : WfL l) (w : World) (_ : Ints w (fun b => b < w.heap.size) A l), Calls Try.prog 33 #[twnV P A l.length c] w (NewList w (guaI P l))

set_option maxHeartbeats 4000000 in
set_option maxRecDepth 100000 in
theorem wFnExactTownOk (I : Impl9) (P : Int) (lP : (Lit.int .i64 P).wf = true) (A : Option Addr) (c : Nat) (x : List Int) (l : x.length ≤ maxLen) (lx : WfL x) (w : World) (r : Ints w (· < w.heap.size) A x) :
    Calls Try.prog 9 #[twnV P A x.length c] w (Adds (.bool true) w) := by
  unfold twnV
  have m0 := l
  unfold maxLen at m0
  obtain ⟨WA, hWA⟩ : ∃ WA : World, WA = w.alloc (.cells #[.int .i64 P, .slice A x.length c] 44) := ⟨_, rfl⟩
  have hbWA : Below w.heap.size w WA := by rw [hWA]; exact (Below.refl _ _).alloc (Nat.le_refl _) _
  have BX : Hid (BoxT WA w.heap.size P A x.length c) := by show BoxT _ _ _ _ _ _; rw [hWA]; exact ⟨by simp, by simp [go_sem], by simp [go_sem]⟩
  have cX0 := BX.out.c0
  have cX1 := BX.out.c1
  have HWA := Lib.hid hWA
  have HBA := Lib.hid hbWA
  have R := Lib.hid ((keepInts hbWA r).lt hbWA.size)
  clear hWA hbWA r
  by_cases big : (1048576 : Int) - (x.length : Int) < 0
  · have HS := Lib.hid (szTown_c P A c x.length 1048576 m0 (by decide) (by decide) WA)
    rw [if_pos big] at HS
    clear big
    go_enter Try.func9, Try.ntmps9
    go_wp2_with fail
    rw [← HWA.out]
    go_wp2_with fail
    refine HS.out.mono ?_
    rintro e w1 ⟨rfl, hb1⟩
    go_wp2_with fail
    go_ret
    exact Adds.of rfl (belT HBA.out hb1)
  have HS := Lib.hid (szTown_c P A c x.length 1048576 m0 (by decide) (by decide) WA)
  rw [if_neg big] at HS
  have hx : x.length ≤ 1048576 := by omega
  obtain ⟨m, hm⟩ : ∃ m, (1048576 : Int) - (x.length : Int) = m := ⟨_, rfl⟩
  rw [hm] at HS big
  have g0 : decide (m < 0) = false := decide_eq_false big
  clear hm
  go_enter Try.func9, Try.ntmps9
  go_wp2_with fail
  rw [← HWA.out]
  go_wp2_with fail
  refine HS.out.mono ?_
  rintro e w1 ⟨rfl, hb1⟩
  replace BX := Lib.hid (BX.out.still hb1)
  replace R := Lib.hid ((keepInts hb1 R.out).lt hb1.size)
  replace HBA := Lib.hid (belT HBA.out hb1)
  replace cX0 := BX.out.c0
  replace cX1 := BX.out.c1
  clear hb1 HS
  go_wp2_with fail
  clear g0 big
  refine (toTown_c P A c x (by omega) w1 R.out).mono ?_
  rintro e w2 ⟨b2, rfl, hb2, ho2⟩
  have S0 : Hid (Ints w2 (fun b => b < w2.heap.size) (some ⟨b2, 0, none⟩) x) := ho2.ints.mono fun b hb => hb.2
  replace BX := Lib.hid (BX.out.still hb2)
  replace R := Lib.hid ((keepInts hb2 R.out).lt hb2.size)
  replace HBA := Lib.hid (belT HBA.out hb2)
  clear hb2 ho2 cX0 cX1
  unfold twnV
  go_wp2_with fail
  refine (townOk_spec P (some ⟨b2, 0, none⟩) x.length x l w2 S0.out).mono ?_
  rintro e w3 ⟨rfl, hb3⟩
  replace BX := Lib.hid (BX.out.still hb3)
  replace R := Lib.hid ((keepInts hb3 R.out).lt hb3.size)
  replace HBA := Lib.hid (belT HBA.out hb3)
  have cX0 := BX.out.c0
  have cX1 := BX.out.c1
  clear hb3 S0
  go_wp2_with fail
  refine (toTown_c P A c x (by omega) w3 R.out).mono ?_
  rintro e w4 ⟨b4, rfl, hb4, ho4⟩
  have X0 : Hid (Ints w4 (fun b => b < w4.heap.size) (some ⟨b4, 0, none⟩) x) := ho4.ints.mono fun b hb => hb.2
  replace BX := Lib.hid (BX.out.still hb4)
  replace R := Lib.hid ((keepInts hb4 R.out).lt hb4.size)
  replace HBA := Lib.hid (belT HBA.out hb4)
  clear hb4 ho4 cX0 cX1
  unfold twnV
  obtain ⟨W5, hW5⟩ : ∃ W : World, W = w4.alloc (.cells #[.int .i64 P, .slice (some ⟨b4, 0, none⟩) x.length x.length] 25) := ⟨_, rfl⟩
  have hb5 : Below w4.heap.size w4 W5 := by rw [hW5]; exact (Below.refl _ _).alloc (Nat.le_refl _) _
  have BY : Hid (BoxT W5 w4.heap.size P (some ⟨b4, 0, none⟩) x.length x.length) := by show BoxT _ _ _ _ _ _; rw [hW5]; exact ⟨by simp, by simp [go_sem], by simp [go_sem]⟩
  replace X0 := Lib.hid ((keepInts hb5 X0.out).lt hb5.size)
  replace BX := Lib.hid (BX.out.still hb5)
  replace R := Lib.hid ((keepInts hb5 R.out).lt hb5.size)
  replace HBA := Lib.hid (belT HBA.out hb5)
  have H5 := Lib.hid hW5
  have cY0 := BY.out.c0
  have cY1 := BY.out.c1
  clear hb5 hW5
  go_wp2_with fail
  rw [← H5.out]
  go_wp2_with fail
  refine (I.ok P lP (some ⟨b4, 0, none⟩) x.length x (by omega) lx W5 X0.out).mono ?_
  rintro e w6 ⟨rfl, hb6⟩
  replace BX := Lib.hid (BX.out.still hb6)
  replace BY := Lib.hid (BY.out.still hb6)
  replace R := Lib.hid ((keepInts hb6 R.out).lt hb6.size)
  replace X0 := Lib.hid ((keepInts hb6 X0.out).lt hb6.size)
  replace HBA := Lib.hid (belT HBA.out hb6)
  replace cY0 := BY.out.c0
  replace cY1 := BY.out.c1
  have cX0 := BX.out.c0
  have cX1 := BX.out.c1
  have sX0 := stays BX.out.lt cX0
  have sX1 := stays BX.out.lt cX1
  have sY0 := stays BY.out.lt cY0
  have sY1 := stays BY.out.lt cY1
  have zB : (townB P x != townB P x) = false := by simp
  clear hb6
  go_wp2_with fail
  go_region_held3 (fun w' => Below w6.heap.size w6 w')
    (first | exact Below.refl _ _ | exact Below.drew (Below.refl _ _) | (refine Below.drew ?_; assumption) | exact belT (by assumption) (by assumption) | assumption)
    (first
      | (go_at_call 43; refine (toTown_c P A c x (by omega) _ ((keepInts (by first | exact Below.refl _ _ | exact Below.drew (Below.refl _ _) | assumption) R.out).lt (Below.size (by first | exact Below.refl _ _ | exact Below.drew (Below.refl _ _) | assumption)))).mono ?_; rintro e w7 ⟨b7, rfl, hb7, ho7⟩; unfold twnV
         have hk7 : Below w6.heap.size w6 w7 := belT (by first | exact Below.refl _ _ | exact Below.drew (Below.refl _ _) | assumption) hb7)
      | (go_at_call 44; refine (eqTown_c P (some ⟨b4, 0, none⟩) (some ⟨b7, 0, none⟩) x.length x.length x l w7 ((keepInts hk7 X0.out).lt hk7.size) (ho7.ints.mono fun b hb => hb.2)).mono ?_; rintro e w8 ⟨rfl, hb8⟩))
  go_wp2_with fail
  go_ret
  exact Adds.of rfl (belT HBA.out (by assumption))

set_option maxHeartbeats 4000000 in
set_option maxRecDepth 100000 in
theorem wFnExactMostWays (I : Impl9) (P : Int) (lP : (Lit.int .i64 P).wf = true) (A : Option Addr) (c : Nat) (x : List Int) (l : x.length ≤ maxLen) (lx : WfL x) (w : World) (r : Ints w (· < w.heap.size) A x) :
    Calls Try.prog 12 #[twnV P A x.length c] w (Adds (.bool true) w) := by
  unfold twnV
  have m0 := l
  unfold maxLen at m0
  obtain ⟨WA, hWA⟩ : ∃ WA : World, WA = w.alloc (.cells #[.int .i64 P, .slice A x.length c] 44) := ⟨_, rfl⟩
  have hbWA : Below w.heap.size w WA := by rw [hWA]; exact (Below.refl _ _).alloc (Nat.le_refl _) _
  have BX : Hid (BoxT WA w.heap.size P A x.length c) := by show BoxT _ _ _ _ _ _; rw [hWA]; exact ⟨by simp, by simp [go_sem], by simp [go_sem]⟩
  have cX0 := BX.out.c0
  have cX1 := BX.out.c1
  have HWA := Lib.hid hWA
  have HBA := Lib.hid hbWA
  have R := Lib.hid ((keepInts hbWA r).lt hbWA.size)
  clear hWA hbWA r
  by_cases big : (1048576 : Int) - (x.length : Int) < 0
  · have HS := Lib.hid (szTown_c P A c x.length 1048576 m0 (by decide) (by decide) WA)
    rw [if_pos big] at HS
    clear big
    go_enter Try.func12, Try.ntmps12
    go_wp2_with fail
    rw [← HWA.out]
    go_wp2_with fail
    refine HS.out.mono ?_
    rintro e w1 ⟨rfl, hb1⟩
    go_wp2_with fail
    go_ret
    exact Adds.of rfl (belT HBA.out hb1)
  have HS := Lib.hid (szTown_c P A c x.length 1048576 m0 (by decide) (by decide) WA)
  rw [if_neg big] at HS
  have hx : x.length ≤ 1048576 := by omega
  obtain ⟨m, hm⟩ : ∃ m, (1048576 : Int) - (x.length : Int) = m := ⟨_, rfl⟩
  rw [hm] at HS big
  have g0 : decide (m < 0) = false := decide_eq_false big
  clear hm
  go_enter Try.func12, Try.ntmps12
  go_wp2_with fail
  rw [← HWA.out]
  go_wp2_with fail
  refine HS.out.mono ?_
  rintro e w1 ⟨rfl, hb1⟩
  replace BX := Lib.hid (BX.out.still hb1)
  replace R := Lib.hid ((keepInts hb1 R.out).lt hb1.size)
  replace HBA := Lib.hid (belT HBA.out hb1)
  replace cX0 := BX.out.c0
  replace cX1 := BX.out.c1
  clear hb1 HS
  go_wp2_with fail
  clear g0 big
  refine (toTown_c P A c x (by omega) w1 R.out).mono ?_
  rintro e w2 ⟨b2, rfl, hb2, ho2⟩
  have S0 : Hid (Ints w2 (fun b => b < w2.heap.size) (some ⟨b2, 0, none⟩) x) := ho2.ints.mono fun b hb => hb.2
  replace BX := Lib.hid (BX.out.still hb2)
  replace R := Lib.hid ((keepInts hb2 R.out).lt hb2.size)
  replace HBA := Lib.hid (belT HBA.out hb2)
  clear hb2 ho2 cX0 cX1
  unfold twnV
  go_wp2_with fail
  refine (mostWays_spec P (some ⟨b2, 0, none⟩) x.length x l w2 S0.out).mono ?_
  rintro e w3 ⟨rfl, hb3⟩
  replace BX := Lib.hid (BX.out.still hb3)
  replace R := Lib.hid ((keepInts hb3 R.out).lt hb3.size)
  replace HBA := Lib.hid (belT HBA.out hb3)
  have cX0 := BX.out.c0
  have cX1 := BX.out.c1
  clear hb3 S0
  go_wp2_with fail
  refine (toTown_c P A c x (by omega) w3 R.out).mono ?_
  rintro e w4 ⟨b4, rfl, hb4, ho4⟩
  have X0 : Hid (Ints w4 (fun b => b < w4.heap.size) (some ⟨b4, 0, none⟩) x) := ho4.ints.mono fun b hb => hb.2
  replace BX := Lib.hid (BX.out.still hb4)
  replace R := Lib.hid ((keepInts hb4 R.out).lt hb4.size)
  replace HBA := Lib.hid (belT HBA.out hb4)
  clear hb4 ho4 cX0 cX1
  unfold twnV
  obtain ⟨W5, hW5⟩ : ∃ W : World, W = w4.alloc (.cells #[.int .i64 P, .slice (some ⟨b4, 0, none⟩) x.length x.length] 25) := ⟨_, rfl⟩
  have hb5 : Below w4.heap.size w4 W5 := by rw [hW5]; exact (Below.refl _ _).alloc (Nat.le_refl _) _
  have BY : Hid (BoxT W5 w4.heap.size P (some ⟨b4, 0, none⟩) x.length x.length) := by show BoxT _ _ _ _ _ _; rw [hW5]; exact ⟨by simp, by simp [go_sem], by simp [go_sem]⟩
  replace X0 := Lib.hid ((keepInts hb5 X0.out).lt hb5.size)
  replace BX := Lib.hid (BX.out.still hb5)
  replace R := Lib.hid ((keepInts hb5 R.out).lt hb5.size)
  replace HBA := Lib.hid (belT HBA.out hb5)
  have H5 := Lib.hid hW5
  have cY0 := BY.out.c0
  have cY1 := BY.out.c1
  clear hb5 hW5
  go_wp2_with fail
  rw [← H5.out]
  go_wp2_with fail
  refine (I.most P lP (some ⟨b4, 0, none⟩) x.length x (by omega) lx W5 X0.out).mono ?_
  rintro e w6 ⟨rfl, hb6⟩
  replace BX := Lib.hid (BX.out.still hb6)
  replace BY := Lib.hid (BY.out.still hb6)
  replace R := Lib.hid ((keepInts hb6 R.out).lt hb6.size)
  replace X0 := Lib.hid ((keepInts hb6 X0.out).lt hb6.size)
  replace HBA := Lib.hid (belT HBA.out hb6)
  replace cY0 := BY.out.c0
  replace cY1 := BY.out.c1
  have cX0 := BX.out.c0
  have cX1 := BX.out.c1
  have sX0 := stays BX.out.lt cX0
  have sX1 := stays BX.out.lt cX1
  have sY0 := stays BY.out.lt cY0
  have sY1 := stays BY.out.lt cY1
  have zB : (mostI P x != mostI P x) = false := by simp
  clear hb6
  go_wp2_with fail
  go_region_held3 (fun w' => Below w6.heap.size w6 w')
    (first | exact Below.refl _ _ | exact Below.drew (Below.refl _ _) | (refine Below.drew ?_; assumption) | exact belT (by assumption) (by assumption) | assumption)
    (first
      | (go_at_call 43; refine (toTown_c P A c x (by omega) _ ((keepInts (by first | exact Below.refl _ _ | exact Below.drew (Below.refl _ _) | assumption) R.out).lt (Below.size (by first | exact Below.refl _ _ | exact Below.drew (Below.refl _ _) | assumption)))).mono ?_; rintro e w7 ⟨b7, rfl, hb7, ho7⟩; unfold twnV
         have hk7 : Below w6.heap.size w6 w7 := belT (by first | exact Below.refl _ _ | exact Below.drew (Below.refl _ _) | assumption) hb7)
      | (go_at_call 44; refine (eqTown_c P (some ⟨b4, 0, none⟩) (some ⟨b7, 0, none⟩) x.length x.length x l w7 ((keepInts hk7 X0.out).lt hk7.size) (ho7.ints.mono fun b hb => hb.2)).mono ?_; rintro e w8 ⟨rfl, hb8⟩))
  go_wp2_with fail
  go_ret
  exact Adds.of rfl (belT HBA.out (by assumption))

end Go.Proofs.Ytcminkifdbdaaaa

namespace Go.Proofs.Ytcminkifdbdaaaa
set_option linter.unusedSimpArgs false
set_option linter.unusedVariables false
open Go.RowKit

theorem BoxT.keepB {w w' : World} {b B : Nat} {P : Int} {A : Option Addr} {n c : Nat} (h : BoxT w b P A n c) (hb : Below B w w') (hlt : b < B) : BoxT w' b P A n c :=
  ⟨Nat.lt_of_lt_of_le h.lt hb.size, (hb.cell (p := ⟨b, 0, none⟩) hlt).trans h.c0, (hb.cell (p := ⟨b, 1, none⟩) hlt).trans h.c1⟩

theorem waysI_len (P : Int) (l : List Int) : (waysI P l).length ≤ 16 := by
  rcases hb : townB P l with _ | _
  · rw [waysI_no hb]; decide
  · obtain ⟨p, st, rfl, rfl, ht⟩ := town_nat hb
    rw [waysI_yes ht, castT_length]; exact (ways_facts ht).many

theorem goI_len (P : Int) (l : List Int) : (goI P l).length ≤ 16 := by
  rcases hb : townB P l with _ | _
  · rw [goI_no hb]; decide
  · obtain ⟨p, st, rfl, rfl, ht⟩ := town_nat hb
    rw [goI_yes ht, goV_length]; exact (ways_facts ht).many

theorem guaI_len (P : Int) (l : List Int) : (guaI P l).length ≤ 16 := by
  rcases hb : townB P l with _ | _
  · rw [guaI_no (waysI_no hb)]; decide
  · obtain ⟨p, st, rfl, rfl, ht⟩ := town_nat hb
    rcases Nat.eq_zero_or_pos (waysT p st).length with e | e
    · rw [guaI_no (by rw [waysI_yes ht, List.eq_nil_of_length_eq_zero e]; rfl)]; decide
    · rw [guaI_yes ht e, cutV_length]; have := ht.len; omega

theorem grdI_len (P : Int) (l : List Int) : (grdI P l).length ≤ 16 ∧ ∀ i, i < (grdI P l).length → (rowAt (grdI P l) i).length ≤ 16 := by
  rcases hb : townB P l with _ | _
  · rw [grdI_no (waysI_no hb)]; exact ⟨by decide, fun i hi => by simp at hi⟩
  · obtain ⟨p, st, rfl, rfl, ht⟩ := town_nat hb
    rcases Nat.eq_zero_or_pos (waysT p st).length with e | e
    · rw [grdI_no (by rw [waysI_yes ht, List.eq_nil_of_length_eq_zero e]; rfl)]; exact ⟨by decide, fun i hi => by simp at hi⟩
    · rw [grdI_yes ht e]; have hk := grd_game ht e; exact ⟨hk.hi, fun i hi => by rw [hk.len i hi]; exact hk.mhi⟩

set_option maxHeartbeats 4000000 in
set_option maxRecDepth 100000 in
theorem wFnExactWaysOf (I : Impl9) (P : Int) (lP : (Lit.int .i64 P).wf = true) (A : Option Addr) (c : Nat) (x : List Int) (l : x.length ≤ maxLen) (lx : WfL x) (w : World) (r : Ints w (· < w.heap.size) A x) :
    Calls Try.prog 10 #[twnV P A x.length c] w (Adds (.bool true) w) := by
  unfold twnV
  have m0 := l
  unfold maxLen at m0
  have R0 := Lib.hid r
  clear r
  have le_w : w.heap.size ≤ w.heap.size := Nat.le_refl _
  have hsl := waysI_len P x
  have HSL : Hid ((waysI P x).length ≤ maxLen) := by show _ ≤ _; unfold maxLen; omega
  obtain ⟨WA, hWA⟩ : ∃ WA : World, WA = w.alloc (.cells #[.int .i64 P, .slice A x.length c] 44) := ⟨_, rfl⟩
  have hbWA : Below w.heap.size w WA := by rw [hWA]; exact (Below.refl _ _).alloc (Nat.le_refl _) _
  have hltWA : w.heap.size < WA.heap.size := by rw [hWA]; simp
  have BX : Hid (BoxT WA w.heap.size P A x.length c) := by show BoxT _ _ _ _ _ _; rw [hWA]; exact ⟨by simp, by simp [go_sem], by simp [go_sem]⟩
  have HWA := Lib.hid hWA
  clear hWA
  by_cases big : (1048576 : Int) - (x.length : Int) < 0
  · have HS := Lib.hid (szTown_c P A c x.length 1048576 m0 (by decide) (by decide) WA)
    rw [if_pos big] at HS
    have cX0 := BX.out.c0
    have cX1 := BX.out.c1
    clear big
    go_enter Try.func10, Try.ntmps10
    go_wp2_with fail
    rw [← HWA.out]
    go_wp2_with fail
    refine HS.out.mono ?_
    rintro e w1 ⟨rfl, hb1⟩
    go_wp2_with fail
    go_ret
    exact Adds.of rfl (belT hbWA hb1)
  have HS := Lib.hid (szTown_c P A c x.length 1048576 m0 (by decide) (by decide) WA)
  rw [if_neg big] at HS
  have hx : x.length ≤ 1048576 := by omega
  have hxl : x.length ≤ 4294967296 := by omega
  obtain ⟨m, hm⟩ : ∃ m, (1048576 : Int) - (x.length : Int) = m := ⟨_, rfl⟩
  rw [hm] at HS big
  have g0 : decide (m < 0) = false := decide_eq_false big
  clear hm
  have cX0 := BX.out.c0
  have cX1 := BX.out.c1
  go_enter Try.func10, Try.ntmps10
  go_wp2_with fail
  rw [← HWA.out]
  go_wp2_with fail
  clear cX0 cX1
  replace R0 := Lib.hid (keepInts (hbWA.mono le_w) R0.out)
  replace le_w := Nat.le_trans le_w hbWA.size
  have BEL0 := Lib.hid hbWA
  have o_w_WA : w.heap.size ≤ WA.heap.size := le_w
  have le_WA : WA.heap.size ≤ WA.heap.size := Nat.le_refl _
  have ltX := Lib.hid hltWA
  clear hltWA hbWA
  refine HS.out.mono ?_
  rintro e w1 ⟨rfl, hb1⟩
  replace R0 := Lib.hid (keepInts (hb1.mono le_w) R0.out)
  replace BX := Lib.hid (BX.out.keepB (hb1.mono le_WA) ltX.out)
  replace le_w := Nat.le_trans le_w hb1.size
  replace le_WA := Nat.le_trans le_WA hb1.size
  replace BEL0 := Lib.hid (belT BEL0.out hb1)
  clear hb1 HS
  have o_WA_w1 : WA.heap.size ≤ w1.heap.size := le_WA
  have le_w1 : w1.heap.size ≤ w1.heap.size := Nat.le_refl _
  have cX0 := BX.out.c0
  have cX1 := BX.out.c1
  go_wp2_with fail
  clear cX0 cX1
  refine (toTown_c P A c x hxl _ (R0.out.lt le_w)).mono ?_
  rintro e w2 ⟨bS0, rfl, hb2, ho2⟩
  have S0 := Lib.hid ho2
  unfold twnV
  replace R0 := Lib.hid (keepInts (hb2.mono le_w) R0.out)
  replace BX := Lib.hid (BX.out.keepB (hb2.mono le_WA) ltX.out)
  replace le_w := Nat.le_trans le_w hb2.size
  replace le_WA := Nat.le_trans le_WA hb2.size
  replace le_w1 := Nat.le_trans le_w1 hb2.size
  replace BEL0 := Lib.hid (belT BEL0.out hb2)
  have o_w1_w2 : w1.heap.size ≤ w2.heap.size := le_w1
  have le_w2 : w2.heap.size ≤ w2.heap.size := Nat.le_refl _
  clear hb2 ho2
  clear g0 big
  go_wp2_with fail
  refine (waysOf_spec P (some ⟨bS0, 0, none⟩) x.length x l _ (S0.out.lt.lt le_w2)).mono ?_
  rintro e w3 ⟨TV, cV, rfl, hb3, ho3⟩
  have V := Lib.hid ho3.lt
  replace S0 := Lib.hid (S0.out.below (hb3.mono le_w2))
  replace R0 := Lib.hid (keepInts (hb3.mono le_w) R0.out)
  replace BX := Lib.hid (BX.out.keepB (hb3.mono le_WA) ltX.out)
  replace le_w := Nat.le_trans le_w hb3.size
  replace le_WA := Nat.le_trans le_WA hb3.size
  replace le_w1 := Nat.le_trans le_w1 hb3.size
  replace le_w2 := Nat.le_trans le_w2 hb3.size
  replace BEL0 := Lib.hid (belT BEL0.out hb3)
  have o_w2_w3 : w2.heap.size ≤ w3.heap.size := le_w2
  have le_w3 : w3.heap.size ≤ w3.heap.size := Nat.le_refl _
  clear hb3 ho3
  clear S0
  have cX0 := BX.out.c0
  have cX1 := BX.out.c1
  go_wp2_with fail
  clear cX0 cX1
  refine (toTown_c P A c x hxl _ (R0.out.lt le_w)).mono ?_
  rintro e w4 ⟨bX0, rfl, hb4, ho4⟩
  have X0 := Lib.hid ho4
  unfold twnV
  replace R0 := Lib.hid (keepInts (hb4.mono le_w) R0.out)
  replace BX := Lib.hid (BX.out.keepB (hb4.mono le_WA) ltX.out)
  replace V := Lib.hid (keepInts (hb4.mono le_w3) V.out)
  replace le_w := Nat.le_trans le_w hb4.size
  replace le_WA := Nat.le_trans le_WA hb4.size
  replace le_w1 := Nat.le_trans le_w1 hb4.size
  replace le_w2 := Nat.le_trans le_w2 hb4.size
  replace le_w3 := Nat.le_trans le_w3 hb4.size
  replace BEL0 := Lib.hid (belT BEL0.out hb4)
  have o_w3_w4 : w3.heap.size ≤ w4.heap.size := le_w3
  have le_w4 : w4.heap.size ≤ w4.heap.size := Nat.le_refl _
  clear hb4 ho4
  obtain ⟨WY, hWY⟩ : ∃ W : World, W = w4.alloc (.cells #[.int .i64 P, .slice (some ⟨bX0, 0, none⟩) x.length x.length] 25) := ⟨_, rfl⟩
  have hbY : Below w4.heap.size w4 WY := by rw [hWY]; exact (Below.refl _ _).alloc (Nat.le_refl _) _
  have hltY : w4.heap.size < WY.heap.size := by rw [hWY]; simp
  have BY : Hid (BoxT WY w4.heap.size P (some ⟨bX0, 0, none⟩) x.length x.length) := by show BoxT _ _ _ _ _ _; rw [hWY]; exact ⟨by simp, by simp [go_sem], by simp [go_sem]⟩
  have HY := Lib.hid hWY
  have cY0 := BY.out.c0
  have cY1 := BY.out.c1
  clear hWY
  go_wp2_with fail
  rw [← HY.out]
  replace X0 := Lib.hid (X0.out.below (hbY.mono le_w4))
  replace R0 := Lib.hid (keepInts (hbY.mono le_w) R0.out)
  replace BX := Lib.hid (BX.out.keepB (hbY.mono le_WA) ltX.out)
  replace V := Lib.hid (keepInts (hbY.mono le_w3) V.out)
  replace le_w := Nat.le_trans le_w hbY.size
  replace le_WA := Nat.le_trans le_WA hbY.size
  replace le_w1 := Nat.le_trans le_w1 hbY.size
  replace le_w2 := Nat.le_trans le_w2 hbY.size
  replace le_w3 := Nat.le_trans le_w3 hbY.size
  replace le_w4 := Nat.le_trans le_w4 hbY.size
  replace BEL0 := Lib.hid (belT BEL0.out hbY)
  have o_w4_WY : w4.heap.size ≤ WY.heap.size := le_w4
  have le_WY : WY.heap.size ≤ WY.heap.size := Nat.le_refl _
  have ltY := Lib.hid hltY
  clear hltY hbY
  go_wp2_with fail
  refine (I.ways P lP (some ⟨bX0, 0, none⟩) x.length x hxl lx _ (X0.out.lt.lt le_w4)).mono ?_
  rintro e w5 ⟨TG, cG, rfl, hb5, ho5⟩
  have G := Lib.hid ho5
  replace X0 := Lib.hid (X0.out.below (hb5.mono le_w4))
  replace R0 := Lib.hid (keepInts (hb5.mono le_w) R0.out)
  replace BX := Lib.hid (BX.out.keepB (hb5.mono le_WA) ltX.out)
  replace V := Lib.hid (keepInts (hb5.mono le_w3) V.out)
  replace BY := Lib.hid (BY.out.keepB (hb5.mono le_WY) ltY.out)
  replace le_w := Nat.le_trans le_w hb5.size
  replace le_WA := Nat.le_trans le_WA hb5.size
  replace le_w1 := Nat.le_trans le_w1 hb5.size
  replace le_w2 := Nat.le_trans le_w2 hb5.size
  replace le_w3 := Nat.le_trans le_w3 hb5.size
  replace le_w4 := Nat.le_trans le_w4 hb5.size
  replace le_WY := Nat.le_trans le_WY hb5.size
  replace BEL0 := Lib.hid (belT BEL0.out hb5)
  have o_WY_w5 : WY.heap.size ≤ w5.heap.size := le_WY
  have le_w5 : w5.heap.size ≤ w5.heap.size := Nat.le_refl _
  clear hb5 ho5
  clear cY0 cY1
  go_wp2_with fail
  refine (eqIntS _ _ _ _ (waysI P x) _ _ HSL.out _ (G.out.lt.lt le_w5) (V.out.lt le_w3)).mono ?_
  rintro e w6 ⟨rfl, hq6⟩
  have hb6 : Below w5.heap.size w5 w6 := by obtain ⟨n, rfl⟩ := hq6; exact below_drewN (Below.refl _ _) n
  replace X0 := Lib.hid (X0.out.below (hb6.mono le_w4))
  replace G := Lib.hid (G.out.below (hb6.mono le_w5))
  replace R0 := Lib.hid (keepInts (hb6.mono le_w) R0.out)
  replace BX := Lib.hid (BX.out.keepB (hb6.mono le_WA) ltX.out)
  replace V := Lib.hid (keepInts (hb6.mono le_w3) V.out)
  replace BY := Lib.hid (BY.out.keepB (hb6.mono le_WY) ltY.out)
  replace le_w := Nat.le_trans le_w hb6.size
  replace le_WA := Nat.le_trans le_WA hb6.size
  replace le_w1 := Nat.le_trans le_w1 hb6.size
  replace le_w2 := Nat.le_trans le_w2 hb6.size
  replace le_w3 := Nat.le_trans le_w3 hb6.size
  replace le_w4 := Nat.le_trans le_w4 hb6.size
  replace le_WY := Nat.le_trans le_WY hb6.size
  replace le_w5 := Nat.le_trans le_w5 hb6.size
  replace BEL0 := Lib.hid (belT BEL0.out hb6)
  clear hq6 hb6
  have RL := Lib.hid (R0.out.lt le_w)
  have XL := Lib.hid (X0.out.lt.lt le_w4)
  have cX0 := BX.out.c0
  have cX1 := BX.out.c1
  have cY0 := BY.out.c0
  have cY1 := BY.out.c1
  have sX0 := stays BX.out.lt cX0
  have sX1 := stays BX.out.lt cX1
  have sY0 := stays BY.out.lt cY0
  have sY1 := stays BY.out.lt cY1
  go_wp2_with fail
  go_region_held3 (fun w' => Below w6.heap.size w6 w')
    (first | exact Below.refl _ _ | exact Below.drew (Below.refl _ _) | (refine Below.drew ?_; assumption) | exact belT (by assumption) (by assumption) | assumption)
    (first
      | (go_at_call 43; refine (toTown_c P A c x hxl _ ((keepInts (by first | exact Below.refl _ _ | exact Below.drew (Below.refl _ _) | assumption) RL.out).lt (Below.size (by first | exact Below.refl _ _ | exact Below.drew (Below.refl _ _) | assumption)))).mono ?_; rintro e wE ⟨bE, rfl, hbE, hoE⟩; unfold twnV
         have hkE : Below w6.heap.size w6 wE := belT (by first | exact Below.refl _ _ | exact Below.drew (Below.refl _ _) | assumption) hbE)
      | (go_at_call 44; refine (eqTown_c P (some ⟨bX0, 0, none⟩) (some ⟨bE, 0, none⟩) x.length x.length x l wE ((keepInts hkE XL.out).lt hkE.size) (hoE.ints.mono fun b hb => hb.2)).mono ?_; rintro e wF ⟨rfl, hbF⟩
         have hkF : Below w6.heap.size w6 wF := belT hkE hbF))
  clear sX0 sX1 sY0 sY1 cX0 cX1 cY0 cY1 RL XL hbE hoE hkE hbF
  replace X0 := Lib.hid (X0.out.below (hkF.mono le_w4))
  replace G := Lib.hid (G.out.below (hkF.mono le_w5))
  replace R0 := Lib.hid (keepInts (hkF.mono le_w) R0.out)
  replace BX := Lib.hid (BX.out.keepB (hkF.mono le_WA) ltX.out)
  replace V := Lib.hid (keepInts (hkF.mono le_w3) V.out)
  replace BY := Lib.hid (BY.out.keepB (hkF.mono le_WY) ltY.out)
  replace le_w := Nat.le_trans le_w hkF.size
  replace le_WA := Nat.le_trans le_WA hkF.size
  replace le_w1 := Nat.le_trans le_w1 hkF.size
  replace le_w2 := Nat.le_trans le_w2 hkF.size
  replace le_w3 := Nat.le_trans le_w3 hkF.size
  replace le_w4 := Nat.le_trans le_w4 hkF.size
  replace le_WY := Nat.le_trans le_WY hkF.size
  replace le_w5 := Nat.le_trans le_w5 hkF.size
  replace BEL0 := Lib.hid (belT BEL0.out hkF)
  clear hkF
  have cY0 := BY.out.c0
  have cY1 := BY.out.c1
  go_wp2_with fail
  clear cY0 cY1
  refine (markTown_c P (some ⟨bX0, 0, none⟩) x.length x _ _ 1 hxl (by decide) (by decide) _ le_w4 X0.out).mono ?_
  rintro e w7 ⟨rfl, WM, hbM, hf7, ho7⟩
  replace X0 := Lib.hid (X0.out.below (hbM.mono le_w4))
  replace G := Lib.hid (G.out.below (hbM.mono le_w5))
  replace R0 := Lib.hid (keepInts (hbM.mono le_w) R0.out)
  replace BX := Lib.hid (BX.out.keepB (hbM.mono le_WA) ltX.out)
  replace V := Lib.hid (keepInts (hbM.mono le_w3) V.out)
  replace BY := Lib.hid (BY.out.keepB (hbM.mono le_WY) ltY.out)
  replace le_w := Nat.le_trans le_w hbM.size
  replace le_WA := Nat.le_trans le_WA hbM.size
  replace le_w1 := Nat.le_trans le_w1 hbM.size
  replace le_w2 := Nat.le_trans le_w2 hbM.size
  replace le_w3 := Nat.le_trans le_w3 hbM.size
  replace le_w4 := Nat.le_trans le_w4 hbM.size
  replace le_WY := Nat.le_trans le_WY hbM.size
  replace le_w5 := Nat.le_trans le_w5 hbM.size
  replace BEL0 := Lib.hid (belT BEL0.out hbM)
  clear hbM
  clear BY
  clear ltY
  replace X0 := Lib.hid ho7
  replace G := Lib.hid (G.out.off hf7 (by omega))
  have bx7 : Below w.heap.size WM w7 := hf7.below (by omega)
  replace R0 := Lib.hid (keepInts (bx7) R0.out)
  clear bx7
  have bx7 : Below WA.heap.size WM w7 := hf7.below (by omega)
  replace BX := Lib.hid (BX.out.keepB (bx7) ltX.out)
  clear bx7
  have bx7 : Below w3.heap.size WM w7 := hf7.below (by omega)
  replace V := Lib.hid (keepInts (bx7) V.out)
  clear bx7
  have hz7 := hf7.size
  replace le_w : w.heap.size ≤ w7.heap.size := by omega
  replace le_WA : WA.heap.size ≤ w7.heap.size := by omega
  replace le_w1 : w1.heap.size ≤ w7.heap.size := by omega
  replace le_w2 : w2.heap.size ≤ w7.heap.size := by omega
  replace le_w3 : w3.heap.size ≤ w7.heap.size := by omega
  replace le_w4 : w4.heap.size ≤ w7.heap.size := by omega
  replace le_WY : WY.heap.size ≤ w7.heap.size := by omega
  replace le_w5 : w5.heap.size ≤ w7.heap.size := by omega
  replace BEL0 := Lib.hid (BEL0.out.trans (hf7.below (by omega)))
  clear hf7 hz7 ho7
  clear X0
  have kpos : (0 : Int) ≤ 1 + (x.length : Int) := by omega
  have kneg : decide (1 + (x.length : Int) < 0) = false := decide_eq_false (by omega)
  go_wp2_with fail
  refine (eqIntS _ _ _ _ (waysI P x) _ _ HSL.out _ (G.out.lt.lt le_w5) (V.out.lt le_w3)).mono ?_
  rintro e w8 ⟨rfl, hq8⟩
  have hb8 : Below w7.heap.size w7 w8 := by obtain ⟨n, rfl⟩ := hq8; exact below_drewN (Below.refl _ _) n
  replace G := Lib.hid (G.out.below (hb8.mono le_w5))
  replace R0 := Lib.hid (keepInts (hb8.mono le_w) R0.out)
  replace BX := Lib.hid (BX.out.keepB (hb8.mono le_WA) ltX.out)
  replace V := Lib.hid (keepInts (hb8.mono le_w3) V.out)
  replace le_w := Nat.le_trans le_w hb8.size
  replace le_WA := Nat.le_trans le_WA hb8.size
  replace le_w1 := Nat.le_trans le_w1 hb8.size
  replace le_w2 := Nat.le_trans le_w2 hb8.size
  replace le_w3 := Nat.le_trans le_w3 hb8.size
  replace le_w4 := Nat.le_trans le_w4 hb8.size
  replace le_WY := Nat.le_trans le_WY hb8.size
  replace le_w5 := Nat.le_trans le_w5 hb8.size
  replace BEL0 := Lib.hid (belT BEL0.out hb8)
  clear hq8 hb8
  go_wp2_with fail
  refine (markIntS _ _ (waysI P x) _ _ 1 (by omega) (by omega) (by omega) _ G.out).mono ?_
  rintro e w9 ⟨rfl, ht9, ho9⟩
  have hf9 := ht9.off G.out
  clear ht9
  replace G := Lib.hid ho9
  have bx9 : Below w.heap.size w8 w9 := hf9.below (by omega)
  replace R0 := Lib.hid (keepInts (bx9) R0.out)
  clear bx9
  have bx9 : Below WA.heap.size w8 w9 := hf9.below (by omega)
  replace BX := Lib.hid (BX.out.keepB (bx9) ltX.out)
  clear bx9
  have bx9 : Below w3.heap.size w8 w9 := hf9.below (by omega)
  replace V := Lib.hid (keepInts (bx9) V.out)
  clear bx9
  have hz9 := hf9.size
  replace le_w : w.heap.size ≤ w9.heap.size := by omega
  replace le_WA : WA.heap.size ≤ w9.heap.size := by omega
  replace le_w1 : w1.heap.size ≤ w9.heap.size := by omega
  replace le_w2 : w2.heap.size ≤ w9.heap.size := by omega
  replace le_w3 : w3.heap.size ≤ w9.heap.size := by omega
  replace le_w4 : w4.heap.size ≤ w9.heap.size := by omega
  replace le_WY : WY.heap.size ≤ w9.heap.size := by omega
  replace le_w5 : w5.heap.size ≤ w9.heap.size := by omega
  replace BEL0 := Lib.hid (BEL0.out.trans (hf9.below (by omega)))
  clear hf9 hz9 ho9
  have zz : ((1 + ((waysI P x).length : Int)) != (1 + ((waysI P x).length : Int))) = false := by simp
  go_wp2_with fail
  refine (heldIntS _ _ (waysI P x).length _ 1 (by omega) (by omega) (by omega) _ G.out.ints).mono ?_
  rintro e wz ⟨rfl, rfl⟩
  have o_w5_w9 : w5.heap.size ≤ w9.heap.size := le_w5
  have le_w9 : w9.heap.size ≤ w9.heap.size := Nat.le_refl _
  have cX0 := BX.out.c0
  have cX1 := BX.out.c1
  go_wp2_with fail
  clear cX0 cX1
  refine (toTown_c P A c x hxl _ (R0.out.lt le_w)).mono ?_
  rintro e w10 ⟨bQ0, rfl, hb10, ho10⟩
  have Q0 := Lib.hid ho10
  unfold twnV
  replace G := Lib.hid (G.out.below (hb10.mono le_w5))
  replace R0 := Lib.hid (keepInts (hb10.mono le_w) R0.out)
  replace BX := Lib.hid (BX.out.keepB (hb10.mono le_WA) ltX.out)
  replace V := Lib.hid (keepInts (hb10.mono le_w3) V.out)
  replace le_w := Nat.le_trans le_w hb10.size
  replace le_WA := Nat.le_trans le_WA hb10.size
  replace le_w1 := Nat.le_trans le_w1 hb10.size
  replace le_w2 := Nat.le_trans le_w2 hb10.size
  replace le_w3 := Nat.le_trans le_w3 hb10.size
  replace le_w4 := Nat.le_trans le_w4 hb10.size
  replace le_WY := Nat.le_trans le_WY hb10.size
  replace le_w5 := Nat.le_trans le_w5 hb10.size
  replace le_w9 := Nat.le_trans le_w9 hb10.size
  replace BEL0 := Lib.hid (belT BEL0.out hb10)
  have o_w9_w10 : w9.heap.size ≤ w10.heap.size := le_w9
  have le_w10 : w10.heap.size ≤ w10.heap.size := Nat.le_refl _
  clear hb10 ho10
  go_wp2_with fail
  refine (I.ways P lP (some ⟨bQ0, 0, none⟩) x.length x hxl lx _ (Q0.out.lt.lt le_w10)).mono ?_
  rintro e w11 ⟨TH, cH, rfl, hb11, ho11⟩
  have H := Lib.hid ho11
  replace G := Lib.hid (G.out.below (hb11.mono le_w5))
  replace Q0 := Lib.hid (Q0.out.below (hb11.mono le_w10))
  replace R0 := Lib.hid (keepInts (hb11.mono le_w) R0.out)
  replace BX := Lib.hid (BX.out.keepB (hb11.mono le_WA) ltX.out)
  replace V := Lib.hid (keepInts (hb11.mono le_w3) V.out)
  replace le_w := Nat.le_trans le_w hb11.size
  replace le_WA := Nat.le_trans le_WA hb11.size
  replace le_w1 := Nat.le_trans le_w1 hb11.size
  replace le_w2 := Nat.le_trans le_w2 hb11.size
  replace le_w3 := Nat.le_trans le_w3 hb11.size
  replace le_w4 := Nat.le_trans le_w4 hb11.size
  replace le_WY := Nat.le_trans le_WY hb11.size
  replace le_w5 := Nat.le_trans le_w5 hb11.size
  replace le_w9 := Nat.le_trans le_w9 hb11.size
  replace le_w10 := Nat.le_trans le_w10 hb11.size
  replace BEL0 := Lib.hid (belT BEL0.out hb11)
  have o_w10_w11 : w10.heap.size ≤ w11.heap.size := le_w10
  have le_w11 : w11.heap.size ≤ w11.heap.size := Nat.le_refl _
  clear hb11 ho11
  clear Q0
  go_wp2_with fail
  refine (eqIntS _ _ _ _ (waysI P x) _ _ HSL.out _ (H.out.lt.lt le_w11) (V.out.lt le_w3)).mono ?_
  rintro e w12 ⟨rfl, hq12⟩
  have hb12 : Below w11.heap.size w11 w12 := by obtain ⟨n, rfl⟩ := hq12; exact below_drewN (Below.refl _ _) n
  replace G := Lib.hid (G.out.below (hb12.mono le_w5))
  replace H := Lib.hid (H.out.below (hb12.mono le_w11))
  replace R0 := Lib.hid (keepInts (hb12.mono le_w) R0.out)
  replace BX := Lib.hid (BX.out.keepB (hb12.mono le_WA) ltX.out)
  replace V := Lib.hid (keepInts (hb12.mono le_w3) V.out)
  replace le_w := Nat.le_trans le_w hb12.size
  replace le_WA := Nat.le_trans le_WA hb12.size
  replace le_w1 := Nat.le_trans le_w1 hb12.size
  replace le_w2 := Nat.le_trans le_w2 hb12.size
  replace le_w3 := Nat.le_trans le_w3 hb12.size
  replace le_w4 := Nat.le_trans le_w4 hb12.size
  replace le_WY := Nat.le_trans le_WY hb12.size
  replace le_w5 := Nat.le_trans le_w5 hb12.size
  replace le_w9 := Nat.le_trans le_w9 hb12.size
  replace le_w10 := Nat.le_trans le_w10 hb12.size
  replace le_w11 := Nat.le_trans le_w11 hb12.size
  replace BEL0 := Lib.hid (belT BEL0.out hb12)
  clear hq12 hb12
  clear H
  clear V
  go_wp2_with fail
  refine (heldIntS _ _ (waysI P x).length _ 1 (by omega) (by omega) (by omega) _ G.out.ints).mono ?_
  rintro e wz ⟨rfl, rfl⟩
  go_wp2_with fail
  go_ret
  exact Adds.of rfl BEL0.out

set_option maxHeartbeats 4000000 in
set_option maxRecDepth 100000 in
theorem wFnExactGoPlan (I : Impl9) (P : Int) (lP : (Lit.int .i64 P).wf = true) (A : Option Addr) (c : Nat) (x : List Int) (l : x.length ≤ maxLen) (lx : WfL x) (w : World) (r : Ints w (· < w.heap.size) A x) :
    Calls Try.prog 13 #[twnV P A x.length c] w (Adds (.bool true) w) := by
  unfold twnV
  have m0 := l
  unfold maxLen at m0
  have R0 := Lib.hid r
  clear r
  have le_w : w.heap.size ≤ w.heap.size := Nat.le_refl _
  have hsl := goI_len P x
  have HSL : Hid ((goI P x).length ≤ maxLen) := by show _ ≤ _; unfold maxLen; omega
  obtain ⟨WA, hWA⟩ : ∃ WA : World, WA = w.alloc (.cells #[.int .i64 P, .slice A x.length c] 44) := ⟨_, rfl⟩
  have hbWA : Below w.heap.size w WA := by rw [hWA]; exact (Below.refl _ _).alloc (Nat.le_refl _) _
  have hltWA : w.heap.size < WA.heap.size := by rw [hWA]; simp
  have BX : Hid (BoxT WA w.heap.size P A x.length c) := by show BoxT _ _ _ _ _ _; rw [hWA]; exact ⟨by simp, by simp [go_sem], by simp [go_sem]⟩
  have HWA := Lib.hid hWA
  clear hWA
  by_cases big : (1048576 : Int) - (x.length : Int) < 0
  · have HS := Lib.hid (szTown_c P A c x.length 1048576 m0 (by decide) (by decide) WA)
    rw [if_pos big] at HS
    have cX0 := BX.out.c0
    have cX1 := BX.out.c1
    clear big
    go_enter Try.func13, Try.ntmps13
    go_wp2_with fail
    rw [← HWA.out]
    go_wp2_with fail
    refine HS.out.mono ?_
    rintro e w1 ⟨rfl, hb1⟩
    go_wp2_with fail
    go_ret
    exact Adds.of rfl (belT hbWA hb1)
  have HS := Lib.hid (szTown_c P A c x.length 1048576 m0 (by decide) (by decide) WA)
  rw [if_neg big] at HS
  have hx : x.length ≤ 1048576 := by omega
  have hxl : x.length ≤ 4294967296 := by omega
  obtain ⟨m, hm⟩ : ∃ m, (1048576 : Int) - (x.length : Int) = m := ⟨_, rfl⟩
  rw [hm] at HS big
  have g0 : decide (m < 0) = false := decide_eq_false big
  clear hm
  have cX0 := BX.out.c0
  have cX1 := BX.out.c1
  go_enter Try.func13, Try.ntmps13
  go_wp2_with fail
  rw [← HWA.out]
  go_wp2_with fail
  clear cX0 cX1
  replace R0 := Lib.hid (keepInts (hbWA.mono le_w) R0.out)
  replace le_w := Nat.le_trans le_w hbWA.size
  have BEL0 := Lib.hid hbWA
  have o_w_WA : w.heap.size ≤ WA.heap.size := le_w
  have le_WA : WA.heap.size ≤ WA.heap.size := Nat.le_refl _
  have ltX := Lib.hid hltWA
  clear hltWA hbWA
  refine HS.out.mono ?_
  rintro e w1 ⟨rfl, hb1⟩
  replace R0 := Lib.hid (keepInts (hb1.mono le_w) R0.out)
  replace BX := Lib.hid (BX.out.keepB (hb1.mono le_WA) ltX.out)
  replace le_w := Nat.le_trans le_w hb1.size
  replace le_WA := Nat.le_trans le_WA hb1.size
  replace BEL0 := Lib.hid (belT BEL0.out hb1)
  clear hb1 HS
  have o_WA_w1 : WA.heap.size ≤ w1.heap.size := le_WA
  have le_w1 : w1.heap.size ≤ w1.heap.size := Nat.le_refl _
  have cX0 := BX.out.c0
  have cX1 := BX.out.c1
  go_wp2_with fail
  clear cX0 cX1
  refine (toTown_c P A c x hxl _ (R0.out.lt le_w)).mono ?_
  rintro e w2 ⟨bS0, rfl, hb2, ho2⟩
  have S0 := Lib.hid ho2
  unfold twnV
  replace R0 := Lib.hid (keepInts (hb2.mono le_w) R0.out)
  replace BX := Lib.hid (BX.out.keepB (hb2.mono le_WA) ltX.out)
  replace le_w := Nat.le_trans le_w hb2.size
  replace le_WA := Nat.le_trans le_WA hb2.size
  replace le_w1 := Nat.le_trans le_w1 hb2.size
  replace BEL0 := Lib.hid (belT BEL0.out hb2)
  have o_w1_w2 : w1.heap.size ≤ w2.heap.size := le_w1
  have le_w2 : w2.heap.size ≤ w2.heap.size := Nat.le_refl _
  clear hb2 ho2
  clear g0 big
  go_wp2_with fail
  refine (goPlan_spec P (some ⟨bS0, 0, none⟩) x.length x l _ (S0.out.lt.lt le_w2)).mono ?_
  rintro e w3 ⟨TV, cV, rfl, hb3, ho3⟩
  have V := Lib.hid ho3.lt
  replace S0 := Lib.hid (S0.out.below (hb3.mono le_w2))
  replace R0 := Lib.hid (keepInts (hb3.mono le_w) R0.out)
  replace BX := Lib.hid (BX.out.keepB (hb3.mono le_WA) ltX.out)
  replace le_w := Nat.le_trans le_w hb3.size
  replace le_WA := Nat.le_trans le_WA hb3.size
  replace le_w1 := Nat.le_trans le_w1 hb3.size
  replace le_w2 := Nat.le_trans le_w2 hb3.size
  replace BEL0 := Lib.hid (belT BEL0.out hb3)
  have o_w2_w3 : w2.heap.size ≤ w3.heap.size := le_w2
  have le_w3 : w3.heap.size ≤ w3.heap.size := Nat.le_refl _
  clear hb3 ho3
  clear S0
  have cX0 := BX.out.c0
  have cX1 := BX.out.c1
  go_wp2_with fail
  clear cX0 cX1
  refine (toTown_c P A c x hxl _ (R0.out.lt le_w)).mono ?_
  rintro e w4 ⟨bX0, rfl, hb4, ho4⟩
  have X0 := Lib.hid ho4
  unfold twnV
  replace R0 := Lib.hid (keepInts (hb4.mono le_w) R0.out)
  replace BX := Lib.hid (BX.out.keepB (hb4.mono le_WA) ltX.out)
  replace V := Lib.hid (keepInts (hb4.mono le_w3) V.out)
  replace le_w := Nat.le_trans le_w hb4.size
  replace le_WA := Nat.le_trans le_WA hb4.size
  replace le_w1 := Nat.le_trans le_w1 hb4.size
  replace le_w2 := Nat.le_trans le_w2 hb4.size
  replace le_w3 := Nat.le_trans le_w3 hb4.size
  replace BEL0 := Lib.hid (belT BEL0.out hb4)
  have o_w3_w4 : w3.heap.size ≤ w4.heap.size := le_w3
  have le_w4 : w4.heap.size ≤ w4.heap.size := Nat.le_refl _
  clear hb4 ho4
  obtain ⟨WY, hWY⟩ : ∃ W : World, W = w4.alloc (.cells #[.int .i64 P, .slice (some ⟨bX0, 0, none⟩) x.length x.length] 25) := ⟨_, rfl⟩
  have hbY : Below w4.heap.size w4 WY := by rw [hWY]; exact (Below.refl _ _).alloc (Nat.le_refl _) _
  have hltY : w4.heap.size < WY.heap.size := by rw [hWY]; simp
  have BY : Hid (BoxT WY w4.heap.size P (some ⟨bX0, 0, none⟩) x.length x.length) := by show BoxT _ _ _ _ _ _; rw [hWY]; exact ⟨by simp, by simp [go_sem], by simp [go_sem]⟩
  have HY := Lib.hid hWY
  have cY0 := BY.out.c0
  have cY1 := BY.out.c1
  clear hWY
  go_wp2_with fail
  rw [← HY.out]
  replace X0 := Lib.hid (X0.out.below (hbY.mono le_w4))
  replace R0 := Lib.hid (keepInts (hbY.mono le_w) R0.out)
  replace BX := Lib.hid (BX.out.keepB (hbY.mono le_WA) ltX.out)
  replace V := Lib.hid (keepInts (hbY.mono le_w3) V.out)
  replace le_w := Nat.le_trans le_w hbY.size
  replace le_WA := Nat.le_trans le_WA hbY.size
  replace le_w1 := Nat.le_trans le_w1 hbY.size
  replace le_w2 := Nat.le_trans le_w2 hbY.size
  replace le_w3 := Nat.le_trans le_w3 hbY.size
  replace le_w4 := Nat.le_trans le_w4 hbY.size
  replace BEL0 := Lib.hid (belT BEL0.out hbY)
  have o_w4_WY : w4.heap.size ≤ WY.heap.size := le_w4
  have le_WY : WY.heap.size ≤ WY.heap.size := Nat.le_refl _
  have ltY := Lib.hid hltY
  clear hltY hbY
  go_wp2_with fail
  refine (I.go P lP (some ⟨bX0, 0, none⟩) x.length x hxl lx _ (X0.out.lt.lt le_w4)).mono ?_
  rintro e w5 ⟨TG, cG, rfl, hb5, ho5⟩
  have G := Lib.hid ho5
  replace X0 := Lib.hid (X0.out.below (hb5.mono le_w4))
  replace R0 := Lib.hid (keepInts (hb5.mono le_w) R0.out)
  replace BX := Lib.hid (BX.out.keepB (hb5.mono le_WA) ltX.out)
  replace V := Lib.hid (keepInts (hb5.mono le_w3) V.out)
  replace BY := Lib.hid (BY.out.keepB (hb5.mono le_WY) ltY.out)
  replace le_w := Nat.le_trans le_w hb5.size
  replace le_WA := Nat.le_trans le_WA hb5.size
  replace le_w1 := Nat.le_trans le_w1 hb5.size
  replace le_w2 := Nat.le_trans le_w2 hb5.size
  replace le_w3 := Nat.le_trans le_w3 hb5.size
  replace le_w4 := Nat.le_trans le_w4 hb5.size
  replace le_WY := Nat.le_trans le_WY hb5.size
  replace BEL0 := Lib.hid (belT BEL0.out hb5)
  have o_WY_w5 : WY.heap.size ≤ w5.heap.size := le_WY
  have le_w5 : w5.heap.size ≤ w5.heap.size := Nat.le_refl _
  clear hb5 ho5
  clear cY0 cY1
  go_wp2_with fail
  refine (eqIntS _ _ _ _ (goI P x) _ _ HSL.out _ (G.out.lt.lt le_w5) (V.out.lt le_w3)).mono ?_
  rintro e w6 ⟨rfl, hq6⟩
  have hb6 : Below w5.heap.size w5 w6 := by obtain ⟨n, rfl⟩ := hq6; exact below_drewN (Below.refl _ _) n
  replace X0 := Lib.hid (X0.out.below (hb6.mono le_w4))
  replace G := Lib.hid (G.out.below (hb6.mono le_w5))
  replace R0 := Lib.hid (keepInts (hb6.mono le_w) R0.out)
  replace BX := Lib.hid (BX.out.keepB (hb6.mono le_WA) ltX.out)
  replace V := Lib.hid (keepInts (hb6.mono le_w3) V.out)
  replace BY := Lib.hid (BY.out.keepB (hb6.mono le_WY) ltY.out)
  replace le_w := Nat.le_trans le_w hb6.size
  replace le_WA := Nat.le_trans le_WA hb6.size
  replace le_w1 := Nat.le_trans le_w1 hb6.size
  replace le_w2 := Nat.le_trans le_w2 hb6.size
  replace le_w3 := Nat.le_trans le_w3 hb6.size
  replace le_w4 := Nat.le_trans le_w4 hb6.size
  replace le_WY := Nat.le_trans le_WY hb6.size
  replace le_w5 := Nat.le_trans le_w5 hb6.size
  replace BEL0 := Lib.hid (belT BEL0.out hb6)
  clear hq6 hb6
  have RL := Lib.hid (R0.out.lt le_w)
  have XL := Lib.hid (X0.out.lt.lt le_w4)
  have cX0 := BX.out.c0
  have cX1 := BX.out.c1
  have cY0 := BY.out.c0
  have cY1 := BY.out.c1
  have sX0 := stays BX.out.lt cX0
  have sX1 := stays BX.out.lt cX1
  have sY0 := stays BY.out.lt cY0
  have sY1 := stays BY.out.lt cY1
  go_wp2_with fail
  go_region_held3 (fun w' => Below w6.heap.size w6 w')
    (first | exact Below.refl _ _ | exact Below.drew (Below.refl _ _) | (refine Below.drew ?_; assumption) | exact belT (by assumption) (by assumption) | assumption)
    (first
      | (go_at_call 43; refine (toTown_c P A c x hxl _ ((keepInts (by first | exact Below.refl _ _ | exact Below.drew (Below.refl _ _) | assumption) RL.out).lt (Below.size (by first | exact Below.refl _ _ | exact Below.drew (Below.refl _ _) | assumption)))).mono ?_; rintro e wE ⟨bE, rfl, hbE, hoE⟩; unfold twnV
         have hkE : Below w6.heap.size w6 wE := belT (by first | exact Below.refl _ _ | exact Below.drew (Below.refl _ _) | assumption) hbE)
      | (go_at_call 44; refine (eqTown_c P (some ⟨bX0, 0, none⟩) (some ⟨bE, 0, none⟩) x.length x.length x l wE ((keepInts hkE XL.out).lt hkE.size) (hoE.ints.mono fun b hb => hb.2)).mono ?_; rintro e wF ⟨rfl, hbF⟩
         have hkF : Below w6.heap.size w6 wF := belT hkE hbF))
  clear sX0 sX1 sY0 sY1 cX0 cX1 cY0 cY1 RL XL hbE hoE hkE hbF
  replace X0 := Lib.hid (X0.out.below (hkF.mono le_w4))
  replace G := Lib.hid (G.out.below (hkF.mono le_w5))
  replace R0 := Lib.hid (keepInts (hkF.mono le_w) R0.out)
  replace BX := Lib.hid (BX.out.keepB (hkF.mono le_WA) ltX.out)
  replace V := Lib.hid (keepInts (hkF.mono le_w3) V.out)
  replace BY := Lib.hid (BY.out.keepB (hkF.mono le_WY) ltY.out)
  replace le_w := Nat.le_trans le_w hkF.size
  replace le_WA := Nat.le_trans le_WA hkF.size
  replace le_w1 := Nat.le_trans le_w1 hkF.size
  replace le_w2 := Nat.le_trans le_w2 hkF.size
  replace le_w3 := Nat.le_trans le_w3 hkF.size
  replace le_w4 := Nat.le_trans le_w4 hkF.size
  replace le_WY := Nat.le_trans le_WY hkF.size
  replace le_w5 := Nat.le_trans le_w5 hkF.size
  replace BEL0 := Lib.hid (belT BEL0.out hkF)
  clear hkF
  have cY0 := BY.out.c0
  have cY1 := BY.out.c1
  go_wp2_with fail
  clear cY0 cY1
  refine (markTown_c P (some ⟨bX0, 0, none⟩) x.length x _ _ 1 hxl (by decide) (by decide) _ le_w4 X0.out).mono ?_
  rintro e w7 ⟨rfl, WM, hbM, hf7, ho7⟩
  replace X0 := Lib.hid (X0.out.below (hbM.mono le_w4))
  replace G := Lib.hid (G.out.below (hbM.mono le_w5))
  replace R0 := Lib.hid (keepInts (hbM.mono le_w) R0.out)
  replace BX := Lib.hid (BX.out.keepB (hbM.mono le_WA) ltX.out)
  replace V := Lib.hid (keepInts (hbM.mono le_w3) V.out)
  replace BY := Lib.hid (BY.out.keepB (hbM.mono le_WY) ltY.out)
  replace le_w := Nat.le_trans le_w hbM.size
  replace le_WA := Nat.le_trans le_WA hbM.size
  replace le_w1 := Nat.le_trans le_w1 hbM.size
  replace le_w2 := Nat.le_trans le_w2 hbM.size
  replace le_w3 := Nat.le_trans le_w3 hbM.size
  replace le_w4 := Nat.le_trans le_w4 hbM.size
  replace le_WY := Nat.le_trans le_WY hbM.size
  replace le_w5 := Nat.le_trans le_w5 hbM.size
  replace BEL0 := Lib.hid (belT BEL0.out hbM)
  clear hbM
  clear BY
  clear ltY
  replace X0 := Lib.hid ho7
  replace G := Lib.hid (G.out.off hf7 (by omega))
  have bx7 : Below w.heap.size WM w7 := hf7.below (by omega)
  replace R0 := Lib.hid (keepInts (bx7) R0.out)
  clear bx7
  have bx7 : Below WA.heap.size WM w7 := hf7.below (by omega)
  replace BX := Lib.hid (BX.out.keepB (bx7) ltX.out)
  clear bx7
  have bx7 : Below w3.heap.size WM w7 := hf7.below (by omega)
  replace V := Lib.hid (keepInts (bx7) V.out)
  clear bx7
  have hz7 := hf7.size
  replace le_w : w.heap.size ≤ w7.heap.size := by omega
  replace le_WA : WA.heap.size ≤ w7.heap.size := by omega
  replace le_w1 : w1.heap.size ≤ w7.heap.size := by omega
  replace le_w2 : w2.heap.size ≤ w7.heap.size := by omega
  replace le_w3 : w3.heap.size ≤ w7.heap.size := by omega
  replace le_w4 : w4.heap.size ≤ w7.heap.size := by omega
  replace le_WY : WY.heap.size ≤ w7.heap.size := by omega
  replace le_w5 : w5.heap.size ≤ w7.heap.size := by omega
  replace BEL0 := Lib.hid (BEL0.out.trans (hf7.below (by omega)))
  clear hf7 hz7 ho7
  clear X0
  have kpos : (0 : Int) ≤ 1 + (x.length : Int) := by omega
  have kneg : decide (1 + (x.length : Int) < 0) = false := decide_eq_false (by omega)
  go_wp2_with fail
  refine (eqIntS _ _ _ _ (goI P x) _ _ HSL.out _ (G.out.lt.lt le_w5) (V.out.lt le_w3)).mono ?_
  rintro e w8 ⟨rfl, hq8⟩
  have hb8 : Below w7.heap.size w7 w8 := by obtain ⟨n, rfl⟩ := hq8; exact below_drewN (Below.refl _ _) n
  replace G := Lib.hid (G.out.below (hb8.mono le_w5))
  replace R0 := Lib.hid (keepInts (hb8.mono le_w) R0.out)
  replace BX := Lib.hid (BX.out.keepB (hb8.mono le_WA) ltX.out)
  replace V := Lib.hid (keepInts (hb8.mono le_w3) V.out)
  replace le_w := Nat.le_trans le_w hb8.size
  replace le_WA := Nat.le_trans le_WA hb8.size
  replace le_w1 := Nat.le_trans le_w1 hb8.size
  replace le_w2 := Nat.le_trans le_w2 hb8.size
  replace le_w3 := Nat.le_trans le_w3 hb8.size
  replace le_w4 := Nat.le_trans le_w4 hb8.size
  replace le_WY := Nat.le_trans le_WY hb8.size
  replace le_w5 := Nat.le_trans le_w5 hb8.size
  replace BEL0 := Lib.hid (belT BEL0.out hb8)
  clear hq8 hb8
  go_wp2_with fail
  refine (markIntS _ _ (goI P x) _ _ 1 (by omega) (by omega) (by omega) _ G.out).mono ?_
  rintro e w9 ⟨rfl, ht9, ho9⟩
  have hf9 := ht9.off G.out
  clear ht9
  replace G := Lib.hid ho9
  have bx9 : Below w.heap.size w8 w9 := hf9.below (by omega)
  replace R0 := Lib.hid (keepInts (bx9) R0.out)
  clear bx9
  have bx9 : Below WA.heap.size w8 w9 := hf9.below (by omega)
  replace BX := Lib.hid (BX.out.keepB (bx9) ltX.out)
  clear bx9
  have bx9 : Below w3.heap.size w8 w9 := hf9.below (by omega)
  replace V := Lib.hid (keepInts (bx9) V.out)
  clear bx9
  have hz9 := hf9.size
  replace le_w : w.heap.size ≤ w9.heap.size := by omega
  replace le_WA : WA.heap.size ≤ w9.heap.size := by omega
  replace le_w1 : w1.heap.size ≤ w9.heap.size := by omega
  replace le_w2 : w2.heap.size ≤ w9.heap.size := by omega
  replace le_w3 : w3.heap.size ≤ w9.heap.size := by omega
  replace le_w4 : w4.heap.size ≤ w9.heap.size := by omega
  replace le_WY : WY.heap.size ≤ w9.heap.size := by omega
  replace le_w5 : w5.heap.size ≤ w9.heap.size := by omega
  replace BEL0 := Lib.hid (BEL0.out.trans (hf9.below (by omega)))
  clear hf9 hz9 ho9
  have zz : ((1 + ((goI P x).length : Int)) != (1 + ((goI P x).length : Int))) = false := by simp
  go_wp2_with fail
  refine (heldIntS _ _ (goI P x).length _ 1 (by omega) (by omega) (by omega) _ G.out.ints).mono ?_
  rintro e wz ⟨rfl, rfl⟩
  have o_w5_w9 : w5.heap.size ≤ w9.heap.size := le_w5
  have le_w9 : w9.heap.size ≤ w9.heap.size := Nat.le_refl _
  have cX0 := BX.out.c0
  have cX1 := BX.out.c1
  go_wp2_with fail
  clear cX0 cX1
  refine (toTown_c P A c x hxl _ (R0.out.lt le_w)).mono ?_
  rintro e w10 ⟨bQ0, rfl, hb10, ho10⟩
  have Q0 := Lib.hid ho10
  unfold twnV
  replace G := Lib.hid (G.out.below (hb10.mono le_w5))
  replace R0 := Lib.hid (keepInts (hb10.mono le_w) R0.out)
  replace BX := Lib.hid (BX.out.keepB (hb10.mono le_WA) ltX.out)
  replace V := Lib.hid (keepInts (hb10.mono le_w3) V.out)
  replace le_w := Nat.le_trans le_w hb10.size
  replace le_WA := Nat.le_trans le_WA hb10.size
  replace le_w1 := Nat.le_trans le_w1 hb10.size
  replace le_w2 := Nat.le_trans le_w2 hb10.size
  replace le_w3 := Nat.le_trans le_w3 hb10.size
  replace le_w4 := Nat.le_trans le_w4 hb10.size
  replace le_WY := Nat.le_trans le_WY hb10.size
  replace le_w5 := Nat.le_trans le_w5 hb10.size
  replace le_w9 := Nat.le_trans le_w9 hb10.size
  replace BEL0 := Lib.hid (belT BEL0.out hb10)
  have o_w9_w10 : w9.heap.size ≤ w10.heap.size := le_w9
  have le_w10 : w10.heap.size ≤ w10.heap.size := Nat.le_refl _
  clear hb10 ho10
  go_wp2_with fail
  refine (I.go P lP (some ⟨bQ0, 0, none⟩) x.length x hxl lx _ (Q0.out.lt.lt le_w10)).mono ?_
  rintro e w11 ⟨TH, cH, rfl, hb11, ho11⟩
  have H := Lib.hid ho11
  replace G := Lib.hid (G.out.below (hb11.mono le_w5))
  replace Q0 := Lib.hid (Q0.out.below (hb11.mono le_w10))
  replace R0 := Lib.hid (keepInts (hb11.mono le_w) R0.out)
  replace BX := Lib.hid (BX.out.keepB (hb11.mono le_WA) ltX.out)
  replace V := Lib.hid (keepInts (hb11.mono le_w3) V.out)
  replace le_w := Nat.le_trans le_w hb11.size
  replace le_WA := Nat.le_trans le_WA hb11.size
  replace le_w1 := Nat.le_trans le_w1 hb11.size
  replace le_w2 := Nat.le_trans le_w2 hb11.size
  replace le_w3 := Nat.le_trans le_w3 hb11.size
  replace le_w4 := Nat.le_trans le_w4 hb11.size
  replace le_WY := Nat.le_trans le_WY hb11.size
  replace le_w5 := Nat.le_trans le_w5 hb11.size
  replace le_w9 := Nat.le_trans le_w9 hb11.size
  replace le_w10 := Nat.le_trans le_w10 hb11.size
  replace BEL0 := Lib.hid (belT BEL0.out hb11)
  have o_w10_w11 : w10.heap.size ≤ w11.heap.size := le_w10
  have le_w11 : w11.heap.size ≤ w11.heap.size := Nat.le_refl _
  clear hb11 ho11
  clear Q0
  go_wp2_with fail
  refine (eqIntS _ _ _ _ (goI P x) _ _ HSL.out _ (H.out.lt.lt le_w11) (V.out.lt le_w3)).mono ?_
  rintro e w12 ⟨rfl, hq12⟩
  have hb12 : Below w11.heap.size w11 w12 := by obtain ⟨n, rfl⟩ := hq12; exact below_drewN (Below.refl _ _) n
  replace G := Lib.hid (G.out.below (hb12.mono le_w5))
  replace H := Lib.hid (H.out.below (hb12.mono le_w11))
  replace R0 := Lib.hid (keepInts (hb12.mono le_w) R0.out)
  replace BX := Lib.hid (BX.out.keepB (hb12.mono le_WA) ltX.out)
  replace V := Lib.hid (keepInts (hb12.mono le_w3) V.out)
  replace le_w := Nat.le_trans le_w hb12.size
  replace le_WA := Nat.le_trans le_WA hb12.size
  replace le_w1 := Nat.le_trans le_w1 hb12.size
  replace le_w2 := Nat.le_trans le_w2 hb12.size
  replace le_w3 := Nat.le_trans le_w3 hb12.size
  replace le_w4 := Nat.le_trans le_w4 hb12.size
  replace le_WY := Nat.le_trans le_WY hb12.size
  replace le_w5 := Nat.le_trans le_w5 hb12.size
  replace le_w9 := Nat.le_trans le_w9 hb12.size
  replace le_w10 := Nat.le_trans le_w10 hb12.size
  replace le_w11 := Nat.le_trans le_w11 hb12.size
  replace BEL0 := Lib.hid (belT BEL0.out hb12)
  clear hq12 hb12
  clear H
  clear V
  go_wp2_with fail
  refine (heldIntS _ _ (goI P x).length _ 1 (by omega) (by omega) (by omega) _ G.out.ints).mono ?_
  rintro e wz ⟨rfl, rfl⟩
  go_wp2_with fail
  go_ret
  exact Adds.of rfl BEL0.out

set_option maxHeartbeats 4000000 in
set_option maxRecDepth 100000 in
theorem wFnExactGuardPlan (I : Impl9) (P : Int) (lP : (Lit.int .i64 P).wf = true) (A : Option Addr) (c : Nat) (x : List Int) (l : x.length ≤ maxLen) (lx : WfL x) (w : World) (r : Ints w (· < w.heap.size) A x) :
    Calls Try.prog 14 #[twnV P A x.length c] w (Adds (.bool true) w) := by
  unfold twnV
  have m0 := l
  unfold maxLen at m0
  have R0 := Lib.hid r
  clear r
  have le_w : w.heap.size ≤ w.heap.size := Nat.le_refl _
  have hsl := guaI_len P x
  have HSL : Hid ((guaI P x).length ≤ maxLen) := by show _ ≤ _; unfold maxLen; omega
  obtain ⟨WA, hWA⟩ : ∃ WA : World, WA = w.alloc (.cells #[.int .i64 P, .slice A x.length c] 44) := ⟨_, rfl⟩
  have hbWA : Below w.heap.size w WA := by rw [hWA]; exact (Below.refl _ _).alloc (Nat.le_refl _) _
  have hltWA : w.heap.size < WA.heap.size := by rw [hWA]; simp
  have BX : Hid (BoxT WA w.heap.size P A x.length c) := by show BoxT _ _ _ _ _ _; rw [hWA]; exact ⟨by simp, by simp [go_sem], by simp [go_sem]⟩
  have HWA := Lib.hid hWA
  clear hWA
  by_cases big : (1048576 : Int) - (x.length : Int) < 0
  · have HS := Lib.hid (szTown_c P A c x.length 1048576 m0 (by decide) (by decide) WA)
    rw [if_pos big] at HS
    have cX0 := BX.out.c0
    have cX1 := BX.out.c1
    clear big
    go_enter Try.func14, Try.ntmps14
    go_wp2_with fail
    rw [← HWA.out]
    go_wp2_with fail
    refine HS.out.mono ?_
    rintro e w1 ⟨rfl, hb1⟩
    go_wp2_with fail
    go_ret
    exact Adds.of rfl (belT hbWA hb1)
  have HS := Lib.hid (szTown_c P A c x.length 1048576 m0 (by decide) (by decide) WA)
  rw [if_neg big] at HS
  have hx : x.length ≤ 1048576 := by omega
  have hxl : x.length ≤ 4294967296 := by omega
  obtain ⟨m, hm⟩ : ∃ m, (1048576 : Int) - (x.length : Int) = m := ⟨_, rfl⟩
  rw [hm] at HS big
  have g0 : decide (m < 0) = false := decide_eq_false big
  clear hm
  have cX0 := BX.out.c0
  have cX1 := BX.out.c1
  go_enter Try.func14, Try.ntmps14
  go_wp2_with fail
  rw [← HWA.out]
  go_wp2_with fail
  clear cX0 cX1
  replace R0 := Lib.hid (keepInts (hbWA.mono le_w) R0.out)
  replace le_w := Nat.le_trans le_w hbWA.size
  have BEL0 := Lib.hid hbWA
  have o_w_WA : w.heap.size ≤ WA.heap.size := le_w
  have le_WA : WA.heap.size ≤ WA.heap.size := Nat.le_refl _
  have ltX := Lib.hid hltWA
  clear hltWA hbWA
  refine HS.out.mono ?_
  rintro e w1 ⟨rfl, hb1⟩
  replace R0 := Lib.hid (keepInts (hb1.mono le_w) R0.out)
  replace BX := Lib.hid (BX.out.keepB (hb1.mono le_WA) ltX.out)
  replace le_w := Nat.le_trans le_w hb1.size
  replace le_WA := Nat.le_trans le_WA hb1.size
  replace BEL0 := Lib.hid (belT BEL0.out hb1)
  clear hb1 HS
  have o_WA_w1 : WA.heap.size ≤ w1.heap.size := le_WA
  have le_w1 : w1.heap.size ≤ w1.heap.size := Nat.le_refl _
  have cX0 := BX.out.c0
  have cX1 := BX.out.c1
  go_wp2_with fail
  clear cX0 cX1
  refine (toTown_c P A c x hxl _ (R0.out.lt le_w)).mono ?_
  rintro e w2 ⟨bS0, rfl, hb2, ho2⟩
  have S0 := Lib.hid ho2
  unfold twnV
  replace R0 := Lib.hid (keepInts (hb2.mono le_w) R0.out)
  replace BX := Lib.hid (BX.out.keepB (hb2.mono le_WA) ltX.out)
  replace le_w := Nat.le_trans le_w hb2.size
  replace le_WA := Nat.le_trans le_WA hb2.size
  replace le_w1 := Nat.le_trans le_w1 hb2.size
  replace BEL0 := Lib.hid (belT BEL0.out hb2)
  have o_w1_w2 : w1.heap.size ≤ w2.heap.size := le_w1
  have le_w2 : w2.heap.size ≤ w2.heap.size := Nat.le_refl _
  clear hb2 ho2
  clear g0 big
  go_wp2_with fail
  refine (guardPlan_spec P (some ⟨bS0, 0, none⟩) x.length x l _ (S0.out.lt.lt le_w2)).mono ?_
  rintro e w3 ⟨TV, cV, rfl, hb3, ho3⟩
  have V := Lib.hid ho3.lt
  replace S0 := Lib.hid (S0.out.below (hb3.mono le_w2))
  replace R0 := Lib.hid (keepInts (hb3.mono le_w) R0.out)
  replace BX := Lib.hid (BX.out.keepB (hb3.mono le_WA) ltX.out)
  replace le_w := Nat.le_trans le_w hb3.size
  replace le_WA := Nat.le_trans le_WA hb3.size
  replace le_w1 := Nat.le_trans le_w1 hb3.size
  replace le_w2 := Nat.le_trans le_w2 hb3.size
  replace BEL0 := Lib.hid (belT BEL0.out hb3)
  have o_w2_w3 : w2.heap.size ≤ w3.heap.size := le_w2
  have le_w3 : w3.heap.size ≤ w3.heap.size := Nat.le_refl _
  clear hb3 ho3
  clear S0
  have cX0 := BX.out.c0
  have cX1 := BX.out.c1
  go_wp2_with fail
  clear cX0 cX1
  refine (toTown_c P A c x hxl _ (R0.out.lt le_w)).mono ?_
  rintro e w4 ⟨bX0, rfl, hb4, ho4⟩
  have X0 := Lib.hid ho4
  unfold twnV
  replace R0 := Lib.hid (keepInts (hb4.mono le_w) R0.out)
  replace BX := Lib.hid (BX.out.keepB (hb4.mono le_WA) ltX.out)
  replace V := Lib.hid (keepInts (hb4.mono le_w3) V.out)
  replace le_w := Nat.le_trans le_w hb4.size
  replace le_WA := Nat.le_trans le_WA hb4.size
  replace le_w1 := Nat.le_trans le_w1 hb4.size
  replace le_w2 := Nat.le_trans le_w2 hb4.size
  replace le_w3 := Nat.le_trans le_w3 hb4.size
  replace BEL0 := Lib.hid (belT BEL0.out hb4)
  have o_w3_w4 : w3.heap.size ≤ w4.heap.size := le_w3
  have le_w4 : w4.heap.size ≤ w4.heap.size := Nat.le_refl _
  clear hb4 ho4
  obtain ⟨WY, hWY⟩ : ∃ W : World, W = w4.alloc (.cells #[.int .i64 P, .slice (some ⟨bX0, 0, none⟩) x.length x.length] 25) := ⟨_, rfl⟩
  have hbY : Below w4.heap.size w4 WY := by rw [hWY]; exact (Below.refl _ _).alloc (Nat.le_refl _) _
  have hltY : w4.heap.size < WY.heap.size := by rw [hWY]; simp
  have BY : Hid (BoxT WY w4.heap.size P (some ⟨bX0, 0, none⟩) x.length x.length) := by show BoxT _ _ _ _ _ _; rw [hWY]; exact ⟨by simp, by simp [go_sem], by simp [go_sem]⟩
  have HY := Lib.hid hWY
  have cY0 := BY.out.c0
  have cY1 := BY.out.c1
  clear hWY
  go_wp2_with fail
  rw [← HY.out]
  replace X0 := Lib.hid (X0.out.below (hbY.mono le_w4))
  replace R0 := Lib.hid (keepInts (hbY.mono le_w) R0.out)
  replace BX := Lib.hid (BX.out.keepB (hbY.mono le_WA) ltX.out)
  replace V := Lib.hid (keepInts (hbY.mono le_w3) V.out)
  replace le_w := Nat.le_trans le_w hbY.size
  replace le_WA := Nat.le_trans le_WA hbY.size
  replace le_w1 := Nat.le_trans le_w1 hbY.size
  replace le_w2 := Nat.le_trans le_w2 hbY.size
  replace le_w3 := Nat.le_trans le_w3 hbY.size
  replace le_w4 := Nat.le_trans le_w4 hbY.size
  replace BEL0 := Lib.hid (belT BEL0.out hbY)
  have o_w4_WY : w4.heap.size ≤ WY.heap.size := le_w4
  have le_WY : WY.heap.size ≤ WY.heap.size := Nat.le_refl _
  have ltY := Lib.hid hltY
  clear hltY hbY
  go_wp2_with fail
  refine (I.guard P lP (some ⟨bX0, 0, none⟩) x.length x hxl lx _ (X0.out.lt.lt le_w4)).mono ?_
  rintro e w5 ⟨TG, cG, rfl, hb5, ho5⟩
  have G := Lib.hid ho5
  replace X0 := Lib.hid (X0.out.below (hb5.mono le_w4))
  replace R0 := Lib.hid (keepInts (hb5.mono le_w) R0.out)
  replace BX := Lib.hid (BX.out.keepB (hb5.mono le_WA) ltX.out)
  replace V := Lib.hid (keepInts (hb5.mono le_w3) V.out)
  replace BY := Lib.hid (BY.out.keepB (hb5.mono le_WY) ltY.out)
  replace le_w := Nat.le_trans le_w hb5.size
  replace le_WA := Nat.le_trans le_WA hb5.size
  replace le_w1 := Nat.le_trans le_w1 hb5.size
  replace le_w2 := Nat.le_trans le_w2 hb5.size
  replace le_w3 := Nat.le_trans le_w3 hb5.size
  replace le_w4 := Nat.le_trans le_w4 hb5.size
  replace le_WY := Nat.le_trans le_WY hb5.size
  replace BEL0 := Lib.hid (belT BEL0.out hb5)
  have o_WY_w5 : WY.heap.size ≤ w5.heap.size := le_WY
  have le_w5 : w5.heap.size ≤ w5.heap.size := Nat.le_refl _
  clear hb5 ho5
  clear cY0 cY1
  go_wp2_with fail
  refine (eqIntS _ _ _ _ (guaI P x) _ _ HSL.out _ (G.out.lt.lt le_w5) (V.out.lt le_w3)).mono ?_
  rintro e w6 ⟨rfl, hq6⟩
  have hb6 : Below w5.heap.size w5 w6 := by obtain ⟨n, rfl⟩ := hq6; exact below_drewN (Below.refl _ _) n
  replace X0 := Lib.hid (X0.out.below (hb6.mono le_w4))
  replace G := Lib.hid (G.out.below (hb6.mono le_w5))
  replace R0 := Lib.hid (keepInts (hb6.mono le_w) R0.out)
  replace BX := Lib.hid (BX.out.keepB (hb6.mono le_WA) ltX.out)
  replace V := Lib.hid (keepInts (hb6.mono le_w3) V.out)
  replace BY := Lib.hid (BY.out.keepB (hb6.mono le_WY) ltY.out)
  replace le_w := Nat.le_trans le_w hb6.size
  replace le_WA := Nat.le_trans le_WA hb6.size
  replace le_w1 := Nat.le_trans le_w1 hb6.size
  replace le_w2 := Nat.le_trans le_w2 hb6.size
  replace le_w3 := Nat.le_trans le_w3 hb6.size
  replace le_w4 := Nat.le_trans le_w4 hb6.size
  replace le_WY := Nat.le_trans le_WY hb6.size
  replace le_w5 := Nat.le_trans le_w5 hb6.size
  replace BEL0 := Lib.hid (belT BEL0.out hb6)
  clear hq6 hb6
  have RL := Lib.hid (R0.out.lt le_w)
  have XL := Lib.hid (X0.out.lt.lt le_w4)
  have cX0 := BX.out.c0
  have cX1 := BX.out.c1
  have cY0 := BY.out.c0
  have cY1 := BY.out.c1
  have sX0 := stays BX.out.lt cX0
  have sX1 := stays BX.out.lt cX1
  have sY0 := stays BY.out.lt cY0
  have sY1 := stays BY.out.lt cY1
  go_wp2_with fail
  go_region_held3 (fun w' => Below w6.heap.size w6 w')
    (first | exact Below.refl _ _ | exact Below.drew (Below.refl _ _) | (refine Below.drew ?_; assumption) | exact belT (by assumption) (by assumption) | assumption)
    (first
      | (go_at_call 43; refine (toTown_c P A c x hxl _ ((keepInts (by first | exact Below.refl _ _ | exact Below.drew (Below.refl _ _) | assumption) RL.out).lt (Below.size (by first | exact Below.refl _ _ | exact Below.drew (Below.refl _ _) | assumption)))).mono ?_; rintro e wE ⟨bE, rfl, hbE, hoE⟩; unfold twnV
         have hkE : Below w6.heap.size w6 wE := belT (by first | exact Below.refl _ _ | exact Below.drew (Below.refl _ _) | assumption) hbE)
      | (go_at_call 44; refine (eqTown_c P (some ⟨bX0, 0, none⟩) (some ⟨bE, 0, none⟩) x.length x.length x l wE ((keepInts hkE XL.out).lt hkE.size) (hoE.ints.mono fun b hb => hb.2)).mono ?_; rintro e wF ⟨rfl, hbF⟩
         have hkF : Below w6.heap.size w6 wF := belT hkE hbF))
  clear sX0 sX1 sY0 sY1 cX0 cX1 cY0 cY1 RL XL hbE hoE hkE hbF
  replace X0 := Lib.hid (X0.out.below (hkF.mono le_w4))
  replace G := Lib.hid (G.out.below (hkF.mono le_w5))
  replace R0 := Lib.hid (keepInts (hkF.mono le_w) R0.out)
  replace BX := Lib.hid (BX.out.keepB (hkF.mono le_WA) ltX.out)
  replace V := Lib.hid (keepInts (hkF.mono le_w3) V.out)
  replace BY := Lib.hid (BY.out.keepB (hkF.mono le_WY) ltY.out)
  replace le_w := Nat.le_trans le_w hkF.size
  replace le_WA := Nat.le_trans le_WA hkF.size
  replace le_w1 := Nat.le_trans le_w1 hkF.size
  replace le_w2 := Nat.le_trans le_w2 hkF.size
  replace le_w3 := Nat.le_trans le_w3 hkF.size
  replace le_w4 := Nat.le_trans le_w4 hkF.size
  replace le_WY := Nat.le_trans le_WY hkF.size
  replace le_w5 := Nat.le_trans le_w5 hkF.size
  replace BEL0 := Lib.hid (belT BEL0.out hkF)
  clear hkF
  have cY0 := BY.out.c0
  have cY1 := BY.out.c1
  go_wp2_with fail
  clear cY0 cY1
  refine (markTown_c P (some ⟨bX0, 0, none⟩) x.length x _ _ 1 hxl (by decide) (by decide) _ le_w4 X0.out).mono ?_
  rintro e w7 ⟨rfl, WM, hbM, hf7, ho7⟩
  replace X0 := Lib.hid (X0.out.below (hbM.mono le_w4))
  replace G := Lib.hid (G.out.below (hbM.mono le_w5))
  replace R0 := Lib.hid (keepInts (hbM.mono le_w) R0.out)
  replace BX := Lib.hid (BX.out.keepB (hbM.mono le_WA) ltX.out)
  replace V := Lib.hid (keepInts (hbM.mono le_w3) V.out)
  replace BY := Lib.hid (BY.out.keepB (hbM.mono le_WY) ltY.out)
  replace le_w := Nat.le_trans le_w hbM.size
  replace le_WA := Nat.le_trans le_WA hbM.size
  replace le_w1 := Nat.le_trans le_w1 hbM.size
  replace le_w2 := Nat.le_trans le_w2 hbM.size
  replace le_w3 := Nat.le_trans le_w3 hbM.size
  replace le_w4 := Nat.le_trans le_w4 hbM.size
  replace le_WY := Nat.le_trans le_WY hbM.size
  replace le_w5 := Nat.le_trans le_w5 hbM.size
  replace BEL0 := Lib.hid (belT BEL0.out hbM)
  clear hbM
  clear BY
  clear ltY
  replace X0 := Lib.hid ho7
  replace G := Lib.hid (G.out.off hf7 (by omega))
  have bx7 : Below w.heap.size WM w7 := hf7.below (by omega)
  replace R0 := Lib.hid (keepInts (bx7) R0.out)
  clear bx7
  have bx7 : Below WA.heap.size WM w7 := hf7.below (by omega)
  replace BX := Lib.hid (BX.out.keepB (bx7) ltX.out)
  clear bx7
  have bx7 : Below w3.heap.size WM w7 := hf7.below (by omega)
  replace V := Lib.hid (keepInts (bx7) V.out)
  clear bx7
  have hz7 := hf7.size
  replace le_w : w.heap.size ≤ w7.heap.size := by omega
  replace le_WA : WA.heap.size ≤ w7.heap.size := by omega
  replace le_w1 : w1.heap.size ≤ w7.heap.size := by omega
  replace le_w2 : w2.heap.size ≤ w7.heap.size := by omega
  replace le_w3 : w3.heap.size ≤ w7.heap.size := by omega
  replace le_w4 : w4.heap.size ≤ w7.heap.size := by omega
  replace le_WY : WY.heap.size ≤ w7.heap.size := by omega
  replace le_w5 : w5.heap.size ≤ w7.heap.size := by omega
  replace BEL0 := Lib.hid (BEL0.out.trans (hf7.below (by omega)))
  clear hf7 hz7 ho7
  clear X0
  have kpos : (0 : Int) ≤ 1 + (x.length : Int) := by omega
  have kneg : decide (1 + (x.length : Int) < 0) = false := decide_eq_false (by omega)
  go_wp2_with fail
  refine (eqIntS _ _ _ _ (guaI P x) _ _ HSL.out _ (G.out.lt.lt le_w5) (V.out.lt le_w3)).mono ?_
  rintro e w8 ⟨rfl, hq8⟩
  have hb8 : Below w7.heap.size w7 w8 := by obtain ⟨n, rfl⟩ := hq8; exact below_drewN (Below.refl _ _) n
  replace G := Lib.hid (G.out.below (hb8.mono le_w5))
  replace R0 := Lib.hid (keepInts (hb8.mono le_w) R0.out)
  replace BX := Lib.hid (BX.out.keepB (hb8.mono le_WA) ltX.out)
  replace V := Lib.hid (keepInts (hb8.mono le_w3) V.out)
  replace le_w := Nat.le_trans le_w hb8.size
  replace le_WA := Nat.le_trans le_WA hb8.size
  replace le_w1 := Nat.le_trans le_w1 hb8.size
  replace le_w2 := Nat.le_trans le_w2 hb8.size
  replace le_w3 := Nat.le_trans le_w3 hb8.size
  replace le_w4 := Nat.le_trans le_w4 hb8.size
  replace le_WY := Nat.le_trans le_WY hb8.size
  replace le_w5 := Nat.le_trans le_w5 hb8.size
  replace BEL0 := Lib.hid (belT BEL0.out hb8)
  clear hq8 hb8
  go_wp2_with fail
  refine (markIntS _ _ (guaI P x) _ _ 1 (by omega) (by omega) (by omega) _ G.out).mono ?_
  rintro e w9 ⟨rfl, ht9, ho9⟩
  have hf9 := ht9.off G.out
  clear ht9
  replace G := Lib.hid ho9
  have bx9 : Below w.heap.size w8 w9 := hf9.below (by omega)
  replace R0 := Lib.hid (keepInts (bx9) R0.out)
  clear bx9
  have bx9 : Below WA.heap.size w8 w9 := hf9.below (by omega)
  replace BX := Lib.hid (BX.out.keepB (bx9) ltX.out)
  clear bx9
  have bx9 : Below w3.heap.size w8 w9 := hf9.below (by omega)
  replace V := Lib.hid (keepInts (bx9) V.out)
  clear bx9
  have hz9 := hf9.size
  replace le_w : w.heap.size ≤ w9.heap.size := by omega
  replace le_WA : WA.heap.size ≤ w9.heap.size := by omega
  replace le_w1 : w1.heap.size ≤ w9.heap.size := by omega
  replace le_w2 : w2.heap.size ≤ w9.heap.size := by omega
  replace le_w3 : w3.heap.size ≤ w9.heap.size := by omega
  replace le_w4 : w4.heap.size ≤ w9.heap.size := by omega
  replace le_WY : WY.heap.size ≤ w9.heap.size := by omega
  replace le_w5 : w5.heap.size ≤ w9.heap.size := by omega
  replace BEL0 := Lib.hid (BEL0.out.trans (hf9.below (by omega)))
  clear hf9 hz9 ho9
  have zz : ((1 + ((guaI P x).length : Int)) != (1 + ((guaI P x).length : Int))) = false := by simp
  go_wp2_with fail
  refine (heldIntS _ _ (guaI P x).length _ 1 (by omega) (by omega) (by omega) _ G.out.ints).mono ?_
  rintro e wz ⟨rfl, rfl⟩
  have o_w5_w9 : w5.heap.size ≤ w9.heap.size := le_w5
  have le_w9 : w9.heap.size ≤ w9.heap.size := Nat.le_refl _
  have cX0 := BX.out.c0
  have cX1 := BX.out.c1
  go_wp2_with fail
  clear cX0 cX1
  refine (toTown_c P A c x hxl _ (R0.out.lt le_w)).mono ?_
  rintro e w10 ⟨bQ0, rfl, hb10, ho10⟩
  have Q0 := Lib.hid ho10
  unfold twnV
  replace G := Lib.hid (G.out.below (hb10.mono le_w5))
  replace R0 := Lib.hid (keepInts (hb10.mono le_w) R0.out)
  replace BX := Lib.hid (BX.out.keepB (hb10.mono le_WA) ltX.out)
  replace V := Lib.hid (keepInts (hb10.mono le_w3) V.out)
  replace le_w := Nat.le_trans le_w hb10.size
  replace le_WA := Nat.le_trans le_WA hb10.size
  replace le_w1 := Nat.le_trans le_w1 hb10.size
  replace le_w2 := Nat.le_trans le_w2 hb10.size
  replace le_w3 := Nat.le_trans le_w3 hb10.size
  replace le_w4 := Nat.le_trans le_w4 hb10.size
  replace le_WY := Nat.le_trans le_WY hb10.size
  replace le_w5 := Nat.le_trans le_w5 hb10.size
  replace le_w9 := Nat.le_trans le_w9 hb10.size
  replace BEL0 := Lib.hid (belT BEL0.out hb10)
  have o_w9_w10 : w9.heap.size ≤ w10.heap.size := le_w9
  have le_w10 : w10.heap.size ≤ w10.heap.size := Nat.le_refl _
  clear hb10 ho10
  go_wp2_with fail
  refine (I.guard P lP (some ⟨bQ0, 0, none⟩) x.length x hxl lx _ (Q0.out.lt.lt le_w10)).mono ?_
  rintro e w11 ⟨TH, cH, rfl, hb11, ho11⟩
  have H := Lib.hid ho11
  replace G := Lib.hid (G.out.below (hb11.mono le_w5))
  replace Q0 := Lib.hid (Q0.out.below (hb11.mono le_w10))
  replace R0 := Lib.hid (keepInts (hb11.mono le_w) R0.out)
  replace BX := Lib.hid (BX.out.keepB (hb11.mono le_WA) ltX.out)
  replace V := Lib.hid (keepInts (hb11.mono le_w3) V.out)
  replace le_w := Nat.le_trans le_w hb11.size
  replace le_WA := Nat.le_trans le_WA hb11.size
  replace le_w1 := Nat.le_trans le_w1 hb11.size
  replace le_w2 := Nat.le_trans le_w2 hb11.size
  replace le_w3 := Nat.le_trans le_w3 hb11.size
  replace le_w4 := Nat.le_trans le_w4 hb11.size
  replace le_WY := Nat.le_trans le_WY hb11.size
  replace le_w5 := Nat.le_trans le_w5 hb11.size
  replace le_w9 := Nat.le_trans le_w9 hb11.size
  replace le_w10 := Nat.le_trans le_w10 hb11.size
  replace BEL0 := Lib.hid (belT BEL0.out hb11)
  have o_w10_w11 : w10.heap.size ≤ w11.heap.size := le_w10
  have le_w11 : w11.heap.size ≤ w11.heap.size := Nat.le_refl _
  clear hb11 ho11
  clear Q0
  go_wp2_with fail
  refine (eqIntS _ _ _ _ (guaI P x) _ _ HSL.out _ (H.out.lt.lt le_w11) (V.out.lt le_w3)).mono ?_
  rintro e w12 ⟨rfl, hq12⟩
  have hb12 : Below w11.heap.size w11 w12 := by obtain ⟨n, rfl⟩ := hq12; exact below_drewN (Below.refl _ _) n
  replace G := Lib.hid (G.out.below (hb12.mono le_w5))
  replace H := Lib.hid (H.out.below (hb12.mono le_w11))
  replace R0 := Lib.hid (keepInts (hb12.mono le_w) R0.out)
  replace BX := Lib.hid (BX.out.keepB (hb12.mono le_WA) ltX.out)
  replace V := Lib.hid (keepInts (hb12.mono le_w3) V.out)
  replace le_w := Nat.le_trans le_w hb12.size
  replace le_WA := Nat.le_trans le_WA hb12.size
  replace le_w1 := Nat.le_trans le_w1 hb12.size
  replace le_w2 := Nat.le_trans le_w2 hb12.size
  replace le_w3 := Nat.le_trans le_w3 hb12.size
  replace le_w4 := Nat.le_trans le_w4 hb12.size
  replace le_WY := Nat.le_trans le_WY hb12.size
  replace le_w5 := Nat.le_trans le_w5 hb12.size
  replace le_w9 := Nat.le_trans le_w9 hb12.size
  replace le_w10 := Nat.le_trans le_w10 hb12.size
  replace le_w11 := Nat.le_trans le_w11 hb12.size
  replace BEL0 := Lib.hid (belT BEL0.out hb12)
  clear hq12 hb12
  clear H
  clear V
  go_wp2_with fail
  refine (heldIntS _ _ (guaI P x).length _ 1 (by omega) (by omega) (by omega) _ G.out.ints).mono ?_
  rintro e wz ⟨rfl, rfl⟩
  go_wp2_with fail
  go_ret
  exact Adds.of rfl BEL0.out

end Go.Proofs.Ytcminkifdbdaaaa

namespace Go.Proofs.Ytcminkifdbdaaaa
set_option linter.unusedSimpArgs false
set_option linter.unusedVariables false
open Go.RowKit

set_option maxHeartbeats 4000000 in
set_option maxRecDepth 100000 in
theorem wFnExactGuardGame (I : Impl9) (P : Int) (lP : (Lit.int .i64 P).wf = true) (A : Option Addr) (c : Nat) (x : List Int) (l : x.length ≤ maxLen) (lx : WfL x) (w : World) (r : Ints w (· < w.heap.size) A x) :
    Calls Try.prog 11 #[twnV P A x.length c] w (Adds (.bool true) w) := by
  unfold twnV
  have m0 := l
  unfold maxLen at m0
  have R0 := Lib.hid r
  clear r
  have le_w : w.heap.size ≤ w.heap.size := Nat.le_refl _
  have hsl := (grdI_len P x).1
  have hsu : sumN (grdI P x) (grdI P x).length ≤ 16 * (grdI P x).length := sumN_le _ 16 _ (grdI_len P x).2
  have HSL : Hid ((grdI P x).length ≤ maxLen) := by show _ ≤ _; unfold maxLen; omega
  obtain ⟨WA, hWA⟩ : ∃ WA : World, WA = w.alloc (.cells #[.int .i64 P, .slice A x.length c] 44) := ⟨_, rfl⟩
  have hbWA : Below w.heap.size w WA := by rw [hWA]; exact (Below.refl _ _).alloc (Nat.le_refl _) _
  have hltWA : w.heap.size < WA.heap.size := by rw [hWA]; simp
  have BX : Hid (BoxT WA w.heap.size P A x.length c) := by show BoxT _ _ _ _ _ _; rw [hWA]; exact ⟨by simp, by simp [go_sem], by simp [go_sem]⟩
  have HWA := Lib.hid hWA
  clear hWA
  by_cases big : (1048576 : Int) - (x.length : Int) < 0
  · have HS := Lib.hid (szTown_c P A c x.length 1048576 m0 (by decide) (by decide) WA)
    rw [if_pos big] at HS
    have cX0 := BX.out.c0
    have cX1 := BX.out.c1
    clear big
    go_enter Try.func11, Try.ntmps11
    go_wp2_with fail
    rw [← HWA.out]
    go_wp2_with fail
    refine HS.out.mono ?_
    rintro e w1 ⟨rfl, hb1⟩
    go_wp2_with fail
    go_ret
    exact Adds.of rfl (belT hbWA hb1)
  have HS := Lib.hid (szTown_c P A c x.length 1048576 m0 (by decide) (by decide) WA)
  rw [if_neg big] at HS
  have hx : x.length ≤ 1048576 := by omega
  have hxl : x.length ≤ 4294967296 := by omega
  obtain ⟨m, hm⟩ : ∃ m, (1048576 : Int) - (x.length : Int) = m := ⟨_, rfl⟩
  rw [hm] at HS big
  have g0 : decide (m < 0) = false := decide_eq_false big
  clear hm
  have cX0 := BX.out.c0
  have cX1 := BX.out.c1
  go_enter Try.func11, Try.ntmps11
  go_wp2_with fail
  rw [← HWA.out]
  go_wp2_with fail
  clear cX0 cX1
  replace R0 := Lib.hid (keepInts (hbWA.mono le_w) R0.out)
  replace le_w := Nat.le_trans le_w hbWA.size
  have BEL0 := Lib.hid hbWA
  have o_w_WA : w.heap.size ≤ WA.heap.size := le_w
  have le_WA : WA.heap.size ≤ WA.heap.size := Nat.le_refl _
  have ltX := Lib.hid hltWA
  clear hltWA hbWA
  refine HS.out.mono ?_
  rintro e w1 ⟨rfl, hb1⟩
  replace R0 := Lib.hid (keepInts (hb1.mono le_w) R0.out)
  replace BX := Lib.hid (BX.out.keepB (hb1.mono le_WA) ltX.out)
  replace le_w := Nat.le_trans le_w hb1.size
  replace le_WA := Nat.le_trans le_WA hb1.size
  replace BEL0 := Lib.hid (belT BEL0.out hb1)
  clear hb1 HS
  have o_WA_w1 : WA.heap.size ≤ w1.heap.size := le_WA
  have le_w1 : w1.heap.size ≤ w1.heap.size := Nat.le_refl _
  have cX0 := BX.out.c0
  have cX1 := BX.out.c1
  go_wp2_with fail
  clear cX0 cX1
  refine (toTown_c P A c x hxl _ (R0.out.lt le_w)).mono ?_
  rintro e w2 ⟨bS0, rfl, hb2, ho2⟩
  have S0 := Lib.hid ho2
  unfold twnV
  replace R0 := Lib.hid (keepInts (hb2.mono le_w) R0.out)
  replace BX := Lib.hid (BX.out.keepB (hb2.mono le_WA) ltX.out)
  replace le_w := Nat.le_trans le_w hb2.size
  replace le_WA := Nat.le_trans le_WA hb2.size
  replace le_w1 := Nat.le_trans le_w1 hb2.size
  replace BEL0 := Lib.hid (belT BEL0.out hb2)
  have o_w1_w2 : w1.heap.size ≤ w2.heap.size := le_w1
  have le_w2 : w2.heap.size ≤ w2.heap.size := Nat.le_refl _
  clear hb2 ho2
  clear g0 big
  go_wp2_with fail
  refine (guardGame_spec P (some ⟨bS0, 0, none⟩) x.length x l _ (S0.out.lt.lt le_w2)).mono ?_
  rintro e w3 ⟨TV, cV, rfl, hb3, ho3⟩
  have V := Lib.hid ho3.lt
  replace S0 := Lib.hid (S0.out.below (hb3.mono le_w2))
  replace R0 := Lib.hid (keepInts (hb3.mono le_w) R0.out)
  replace BX := Lib.hid (BX.out.keepB (hb3.mono le_WA) ltX.out)
  replace le_w := Nat.le_trans le_w hb3.size
  replace le_WA := Nat.le_trans le_WA hb3.size
  replace le_w1 := Nat.le_trans le_w1 hb3.size
  replace le_w2 := Nat.le_trans le_w2 hb3.size
  replace BEL0 := Lib.hid (belT BEL0.out hb3)
  have o_w2_w3 : w2.heap.size ≤ w3.heap.size := le_w2
  have le_w3 : w3.heap.size ≤ w3.heap.size := Nat.le_refl _
  clear hb3 ho3
  clear S0
  have cX0 := BX.out.c0
  have cX1 := BX.out.c1
  go_wp2_with fail
  clear cX0 cX1
  refine (toTown_c P A c x hxl _ (R0.out.lt le_w)).mono ?_
  rintro e w4 ⟨bX0, rfl, hb4, ho4⟩
  have X0 := Lib.hid ho4
  unfold twnV
  replace R0 := Lib.hid (keepInts (hb4.mono le_w) R0.out)
  replace BX := Lib.hid (BX.out.keepB (hb4.mono le_WA) ltX.out)
  replace V := Lib.hid (keepRows (hb4.mono le_w3) V.out)
  replace le_w := Nat.le_trans le_w hb4.size
  replace le_WA := Nat.le_trans le_WA hb4.size
  replace le_w1 := Nat.le_trans le_w1 hb4.size
  replace le_w2 := Nat.le_trans le_w2 hb4.size
  replace le_w3 := Nat.le_trans le_w3 hb4.size
  replace BEL0 := Lib.hid (belT BEL0.out hb4)
  have o_w3_w4 : w3.heap.size ≤ w4.heap.size := le_w3
  have le_w4 : w4.heap.size ≤ w4.heap.size := Nat.le_refl _
  clear hb4 ho4
  obtain ⟨WY, hWY⟩ : ∃ W : World, W = w4.alloc (.cells #[.int .i64 P, .slice (some ⟨bX0, 0, none⟩) x.length x.length] 25) := ⟨_, rfl⟩
  have hbY : Below w4.heap.size w4 WY := by rw [hWY]; exact (Below.refl _ _).alloc (Nat.le_refl _) _
  have hltY : w4.heap.size < WY.heap.size := by rw [hWY]; simp
  have BY : Hid (BoxT WY w4.heap.size P (some ⟨bX0, 0, none⟩) x.length x.length) := by show BoxT _ _ _ _ _ _; rw [hWY]; exact ⟨by simp, by simp [go_sem], by simp [go_sem]⟩
  have HY := Lib.hid hWY
  have cY0 := BY.out.c0
  have cY1 := BY.out.c1
  clear hWY
  go_wp2_with fail
  rw [← HY.out]
  replace X0 := Lib.hid (X0.out.below (hbY.mono le_w4))
  replace R0 := Lib.hid (keepInts (hbY.mono le_w) R0.out)
  replace BX := Lib.hid (BX.out.keepB (hbY.mono le_WA) ltX.out)
  replace V := Lib.hid (keepRows (hbY.mono le_w3) V.out)
  replace le_w := Nat.le_trans le_w hbY.size
  replace le_WA := Nat.le_trans le_WA hbY.size
  replace le_w1 := Nat.le_trans le_w1 hbY.size
  replace le_w2 := Nat.le_trans le_w2 hbY.size
  replace le_w3 := Nat.le_trans le_w3 hbY.size
  replace le_w4 := Nat.le_trans le_w4 hbY.size
  replace BEL0 := Lib.hid (belT BEL0.out hbY)
  have o_w4_WY : w4.heap.size ≤ WY.heap.size := le_w4
  have le_WY : WY.heap.size ≤ WY.heap.size := Nat.le_refl _
  have ltY := Lib.hid hltY
  clear hltY hbY
  go_wp2_with fail
  refine (I.game P lP (some ⟨bX0, 0, none⟩) x.length x hxl lx _ (X0.out.lt.lt le_w4)).mono ?_
  rintro e w5 ⟨TG, cG, rfl, hb5, ho5⟩
  have G := Lib.hid ho5
  replace X0 := Lib.hid (X0.out.below (hb5.mono le_w4))
  replace R0 := Lib.hid (keepInts (hb5.mono le_w) R0.out)
  replace BX := Lib.hid (BX.out.keepB (hb5.mono le_WA) ltX.out)
  replace V := Lib.hid (keepRows (hb5.mono le_w3) V.out)
  replace BY := Lib.hid (BY.out.keepB (hb5.mono le_WY) ltY.out)
  replace le_w := Nat.le_trans le_w hb5.size
  replace le_WA := Nat.le_trans le_WA hb5.size
  replace le_w1 := Nat.le_trans le_w1 hb5.size
  replace le_w2 := Nat.le_trans le_w2 hb5.size
  replace le_w3 := Nat.le_trans le_w3 hb5.size
  replace le_w4 := Nat.le_trans le_w4 hb5.size
  replace le_WY := Nat.le_trans le_WY hb5.size
  replace BEL0 := Lib.hid (belT BEL0.out hb5)
  have o_WY_w5 : WY.heap.size ≤ w5.heap.size := le_WY
  have le_w5 : w5.heap.size ≤ w5.heap.size := Nat.le_refl _
  clear hb5 ho5
  clear cY0 cY1
  go_wp2_with fail
  refine (eqIntSS _ _ _ _ (grdI P x) _ _ HSL.out _ (G.out.lt.lt le_w5) (V.out.lt le_w3)).mono ?_
  rintro e w6 ⟨rfl, hq6⟩
  have hb6 : Below w5.heap.size w5 w6 := by obtain ⟨n, rfl⟩ := hq6; exact below_drewN (Below.refl _ _) n
  replace X0 := Lib.hid (X0.out.below (hb6.mono le_w4))
  replace G := Lib.hid (G.out.below (hb6.mono le_w5))
  replace R0 := Lib.hid (keepInts (hb6.mono le_w) R0.out)
  replace BX := Lib.hid (BX.out.keepB (hb6.mono le_WA) ltX.out)
  replace V := Lib.hid (keepRows (hb6.mono le_w3) V.out)
  replace BY := Lib.hid (BY.out.keepB (hb6.mono le_WY) ltY.out)
  replace le_w := Nat.le_trans le_w hb6.size
  replace le_WA := Nat.le_trans le_WA hb6.size
  replace le_w1 := Nat.le_trans le_w1 hb6.size
  replace le_w2 := Nat.le_trans le_w2 hb6.size
  replace le_w3 := Nat.le_trans le_w3 hb6.size
  replace le_w4 := Nat.le_trans le_w4 hb6.size
  replace le_WY := Nat.le_trans le_WY hb6.size
  replace le_w5 := Nat.le_trans le_w5 hb6.size
  replace BEL0 := Lib.hid (belT BEL0.out hb6)
  clear hq6 hb6
  have RL := Lib.hid (R0.out.lt le_w)
  have XL := Lib.hid (X0.out.lt.lt le_w4)
  have cX0 := BX.out.c0
  have cX1 := BX.out.c1
  have cY0 := BY.out.c0
  have cY1 := BY.out.c1
  have sX0 := stays BX.out.lt cX0
  have sX1 := stays BX.out.lt cX1
  have sY0 := stays BY.out.lt cY0
  have sY1 := stays BY.out.lt cY1
  go_wp2_with fail
  go_region_held3 (fun w' => Below w6.heap.size w6 w')
    (first | exact Below.refl _ _ | exact Below.drew (Below.refl _ _) | (refine Below.drew ?_; assumption) | exact belT (by assumption) (by assumption) | assumption)
    (first
      | (go_at_call 43; refine (toTown_c P A c x hxl _ ((keepInts (by first | exact Below.refl _ _ | exact Below.drew (Below.refl _ _) | assumption) RL.out).lt (Below.size (by first | exact Below.refl _ _ | exact Below.drew (Below.refl _ _) | assumption)))).mono ?_; rintro e wE ⟨bE, rfl, hbE, hoE⟩; unfold twnV
         have hkE : Below w6.heap.size w6 wE := belT (by first | exact Below.refl _ _ | exact Below.drew (Below.refl _ _) | assumption) hbE)
      | (go_at_call 44; refine (eqTown_c P (some ⟨bX0, 0, none⟩) (some ⟨bE, 0, none⟩) x.length x.length x l wE ((keepInts hkE XL.out).lt hkE.size) (hoE.ints.mono fun b hb => hb.2)).mono ?_; rintro e wF ⟨rfl, hbF⟩
         have hkF : Below w6.heap.size w6 wF := belT hkE hbF))
  clear sX0 sX1 sY0 sY1 cX0 cX1 cY0 cY1 RL XL hbE hoE hkE hbF
  replace X0 := Lib.hid (X0.out.below (hkF.mono le_w4))
  replace G := Lib.hid (G.out.below (hkF.mono le_w5))
  replace R0 := Lib.hid (keepInts (hkF.mono le_w) R0.out)
  replace BX := Lib.hid (BX.out.keepB (hkF.mono le_WA) ltX.out)
  replace V := Lib.hid (keepRows (hkF.mono le_w3) V.out)
  replace BY := Lib.hid (BY.out.keepB (hkF.mono le_WY) ltY.out)
  replace le_w := Nat.le_trans le_w hkF.size
  replace le_WA := Nat.le_trans le_WA hkF.size
  replace le_w1 := Nat.le_trans le_w1 hkF.size
  replace le_w2 := Nat.le_trans le_w2 hkF.size
  replace le_w3 := Nat.le_trans le_w3 hkF.size
  replace le_w4 := Nat.le_trans le_w4 hkF.size
  replace le_WY := Nat.le_trans le_WY hkF.size
  replace le_w5 := Nat.le_trans le_w5 hkF.size
  replace BEL0 := Lib.hid (belT BEL0.out hkF)
  clear hkF
  have cY0 := BY.out.c0
  have cY1 := BY.out.c1
  go_wp2_with fail
  clear cY0 cY1
  refine (markTown_c P (some ⟨bX0, 0, none⟩) x.length x _ _ 1 hxl (by decide) (by decide) _ le_w4 X0.out).mono ?_
  rintro e w7 ⟨rfl, WM, hbM, hf7, ho7⟩
  replace X0 := Lib.hid (X0.out.below (hbM.mono le_w4))
  replace G := Lib.hid (G.out.below (hbM.mono le_w5))
  replace R0 := Lib.hid (keepInts (hbM.mono le_w) R0.out)
  replace BX := Lib.hid (BX.out.keepB (hbM.mono le_WA) ltX.out)
  replace V := Lib.hid (keepRows (hbM.mono le_w3) V.out)
  replace BY := Lib.hid (BY.out.keepB (hbM.mono le_WY) ltY.out)
  replace le_w := Nat.le_trans le_w hbM.size
  replace le_WA := Nat.le_trans le_WA hbM.size
  replace le_w1 := Nat.le_trans le_w1 hbM.size
  replace le_w2 := Nat.le_trans le_w2 hbM.size
  replace le_w3 := Nat.le_trans le_w3 hbM.size
  replace le_w4 := Nat.le_trans le_w4 hbM.size
  replace le_WY := Nat.le_trans le_WY hbM.size
  replace le_w5 := Nat.le_trans le_w5 hbM.size
  replace BEL0 := Lib.hid (belT BEL0.out hbM)
  clear hbM
  clear BY
  clear ltY
  replace X0 := Lib.hid ho7
  replace G := Lib.hid (G.out.off hf7 (by omega))
  have bx7 : Below w.heap.size WM w7 := hf7.below (by omega)
  replace R0 := Lib.hid (keepInts (bx7) R0.out)
  clear bx7
  have bx7 : Below WA.heap.size WM w7 := hf7.below (by omega)
  replace BX := Lib.hid (BX.out.keepB (bx7) ltX.out)
  clear bx7
  have bx7 : Below w3.heap.size WM w7 := hf7.below (by omega)
  replace V := Lib.hid (keepRows (bx7) V.out)
  clear bx7
  have hz7 := hf7.size
  replace le_w : w.heap.size ≤ w7.heap.size := by omega
  replace le_WA : WA.heap.size ≤ w7.heap.size := by omega
  replace le_w1 : w1.heap.size ≤ w7.heap.size := by omega
  replace le_w2 : w2.heap.size ≤ w7.heap.size := by omega
  replace le_w3 : w3.heap.size ≤ w7.heap.size := by omega
  replace le_w4 : w4.heap.size ≤ w7.heap.size := by omega
  replace le_WY : WY.heap.size ≤ w7.heap.size := by omega
  replace le_w5 : w5.heap.size ≤ w7.heap.size := by omega
  replace BEL0 := Lib.hid (BEL0.out.trans (hf7.below (by omega)))
  clear hf7 hz7 ho7
  clear X0
  have kpos : (0 : Int) ≤ 1 + (x.length : Int) := by omega
  have kneg : decide (1 + (x.length : Int) < 0) = false := decide_eq_false (by omega)
  go_wp2_with fail
  refine (eqIntSS _ _ _ _ (grdI P x) _ _ HSL.out _ (G.out.lt.lt le_w5) (V.out.lt le_w3)).mono ?_
  rintro e w8 ⟨rfl, hq8⟩
  have hb8 : Below w7.heap.size w7 w8 := by obtain ⟨n, rfl⟩ := hq8; exact below_drewN (Below.refl _ _) n
  replace G := Lib.hid (G.out.below (hb8.mono le_w5))
  replace R0 := Lib.hid (keepInts (hb8.mono le_w) R0.out)
  replace BX := Lib.hid (BX.out.keepB (hb8.mono le_WA) ltX.out)
  replace V := Lib.hid (keepRows (hb8.mono le_w3) V.out)
  replace le_w := Nat.le_trans le_w hb8.size
  replace le_WA := Nat.le_trans le_WA hb8.size
  replace le_w1 := Nat.le_trans le_w1 hb8.size
  replace le_w2 := Nat.le_trans le_w2 hb8.size
  replace le_w3 := Nat.le_trans le_w3 hb8.size
  replace le_w4 := Nat.le_trans le_w4 hb8.size
  replace le_WY := Nat.le_trans le_WY hb8.size
  replace le_w5 := Nat.le_trans le_w5 hb8.size
  replace BEL0 := Lib.hid (belT BEL0.out hb8)
  clear hq8 hb8
  go_wp2_with fail
  refine (markIntSS _ _ (grdI P x) _ _ 1 (by omega) (by omega) (by omega) (by omega) _ G.out).mono ?_
  rintro e w9 ⟨rfl, hf9, ho9⟩
  replace G := Lib.hid ho9
  have bx9 : Below w.heap.size w8 w9 := hf9.below (by omega)
  replace R0 := Lib.hid (keepInts (bx9) R0.out)
  clear bx9
  have bx9 : Below WA.heap.size w8 w9 := hf9.below (by omega)
  replace BX := Lib.hid (BX.out.keepB (bx9) ltX.out)
  clear bx9
  have bx9 : Below w3.heap.size w8 w9 := hf9.below (by omega)
  replace V := Lib.hid (keepRows (bx9) V.out)
  clear bx9
  have hz9 := hf9.size
  replace le_w : w.heap.size ≤ w9.heap.size := by omega
  replace le_WA : WA.heap.size ≤ w9.heap.size := by omega
  replace le_w1 : w1.heap.size ≤ w9.heap.size := by omega
  replace le_w2 : w2.heap.size ≤ w9.heap.size := by omega
  replace le_w3 : w3.heap.size ≤ w9.heap.size := by omega
  replace le_w4 : w4.heap.size ≤ w9.heap.size := by omega
  replace le_WY : WY.heap.size ≤ w9.heap.size := by omega
  replace le_w5 : w5.heap.size ≤ w9.heap.size := by omega
  replace BEL0 := Lib.hid (BEL0.out.trans (hf9.below (by omega)))
  clear hf9 hz9 ho9
  have zz : ((1 + (sumN (grdI P x) (grdI P x).length : Int)) != (1 + (sumN (grdI P x) (grdI P x).length : Int))) = false := by simp
  go_wp2_with fail
  refine (heldIntSS _ _ (grdI P x) _ 1 (by omega) (by omega) (by omega) (by omega) _ G.out.rows2).mono ?_
  rintro e wz ⟨rfl, rfl⟩
  have o_w5_w9 : w5.heap.size ≤ w9.heap.size := le_w5
  have le_w9 : w9.heap.size ≤ w9.heap.size := Nat.le_refl _
  have cX0 := BX.out.c0
  have cX1 := BX.out.c1
  go_wp2_with fail
  clear cX0 cX1
  refine (toTown_c P A c x hxl _ (R0.out.lt le_w)).mono ?_
  rintro e w10 ⟨bQ0, rfl, hb10, ho10⟩
  have Q0 := Lib.hid ho10
  unfold twnV
  replace G := Lib.hid (G.out.below (hb10.mono le_w5))
  replace R0 := Lib.hid (keepInts (hb10.mono le_w) R0.out)
  replace BX := Lib.hid (BX.out.keepB (hb10.mono le_WA) ltX.out)
  replace V := Lib.hid (keepRows (hb10.mono le_w3) V.out)
  replace le_w := Nat.le_trans le_w hb10.size
  replace le_WA := Nat.le_trans le_WA hb10.size
  replace le_w1 := Nat.le_trans le_w1 hb10.size
  replace le_w2 := Nat.le_trans le_w2 hb10.size
  replace le_w3 := Nat.le_trans le_w3 hb10.size
  replace le_w4 := Nat.le_trans le_w4 hb10.size
  replace le_WY := Nat.le_trans le_WY hb10.size
  replace le_w5 := Nat.le_trans le_w5 hb10.size
  replace le_w9 := Nat.le_trans le_w9 hb10.size
  replace BEL0 := Lib.hid (belT BEL0.out hb10)
  have o_w9_w10 : w9.heap.size ≤ w10.heap.size := le_w9
  have le_w10 : w10.heap.size ≤ w10.heap.size := Nat.le_refl _
  clear hb10 ho10
  go_wp2_with fail
  refine (I.game P lP (some ⟨bQ0, 0, none⟩) x.length x hxl lx _ (Q0.out.lt.lt le_w10)).mono ?_
  rintro e w11 ⟨TH, cH, rfl, hb11, ho11⟩
  have H := Lib.hid ho11
  replace G := Lib.hid (G.out.below (hb11.mono le_w5))
  replace Q0 := Lib.hid (Q0.out.below (hb11.mono le_w10))
  replace R0 := Lib.hid (keepInts (hb11.mono le_w) R0.out)
  replace BX := Lib.hid (BX.out.keepB (hb11.mono le_WA) ltX.out)
  replace V := Lib.hid (keepRows (hb11.mono le_w3) V.out)
  replace le_w := Nat.le_trans le_w hb11.size
  replace le_WA := Nat.le_trans le_WA hb11.size
  replace le_w1 := Nat.le_trans le_w1 hb11.size
  replace le_w2 := Nat.le_trans le_w2 hb11.size
  replace le_w3 := Nat.le_trans le_w3 hb11.size
  replace le_w4 := Nat.le_trans le_w4 hb11.size
  replace le_WY := Nat.le_trans le_WY hb11.size
  replace le_w5 := Nat.le_trans le_w5 hb11.size
  replace le_w9 := Nat.le_trans le_w9 hb11.size
  replace le_w10 := Nat.le_trans le_w10 hb11.size
  replace BEL0 := Lib.hid (belT BEL0.out hb11)
  have o_w10_w11 : w10.heap.size ≤ w11.heap.size := le_w10
  have le_w11 : w11.heap.size ≤ w11.heap.size := Nat.le_refl _
  clear hb11 ho11
  clear Q0
  go_wp2_with fail
  refine (eqIntSS _ _ _ _ (grdI P x) _ _ HSL.out _ (H.out.lt.lt le_w11) (V.out.lt le_w3)).mono ?_
  rintro e w12 ⟨rfl, hq12⟩
  have hb12 : Below w11.heap.size w11 w12 := by obtain ⟨n, rfl⟩ := hq12; exact below_drewN (Below.refl _ _) n
  replace G := Lib.hid (G.out.below (hb12.mono le_w5))
  replace H := Lib.hid (H.out.below (hb12.mono le_w11))
  replace R0 := Lib.hid (keepInts (hb12.mono le_w) R0.out)
  replace BX := Lib.hid (BX.out.keepB (hb12.mono le_WA) ltX.out)
  replace V := Lib.hid (keepRows (hb12.mono le_w3) V.out)
  replace le_w := Nat.le_trans le_w hb12.size
  replace le_WA := Nat.le_trans le_WA hb12.size
  replace le_w1 := Nat.le_trans le_w1 hb12.size
  replace le_w2 := Nat.le_trans le_w2 hb12.size
  replace le_w3 := Nat.le_trans le_w3 hb12.size
  replace le_w4 := Nat.le_trans le_w4 hb12.size
  replace le_WY := Nat.le_trans le_WY hb12.size
  replace le_w5 := Nat.le_trans le_w5 hb12.size
  replace le_w9 := Nat.le_trans le_w9 hb12.size
  replace le_w10 := Nat.le_trans le_w10 hb12.size
  replace le_w11 := Nat.le_trans le_w11 hb12.size
  replace BEL0 := Lib.hid (belT BEL0.out hb12)
  clear hq12 hb12
  clear H
  clear V
  go_wp2_with fail
  refine (heldIntSS _ _ (grdI P x) _ 1 (by omega) (by omega) (by omega) (by omega) _ G.out.rows2).mono ?_
  rintro e wz ⟨rfl, rfl⟩
  go_wp2_with fail
  go_ret
  exact Adds.of rfl BEL0.out

end Go.Proofs.Ytcminkifdbdaaaa
