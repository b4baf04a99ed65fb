/- Texts in one: ExactHa, ExactHb. -/
import Derived.Test.YtanfefgigepdcaaOB
import Derived.Test.YtanfefgigepdcaaOA
import Derived.Test.YtanfefgigepdcaaMG
import Derived.Test.YtanfefgigepdcaaFromS
namespace Go.Proofs.Ytanfefgigepdcaa
set_option linter.unusedSimpArgs false
set_option linter.unusedVariables false
open Go.RowKit

theorem plaG_len (c d : Int) : (plaG c d).length ≤ 15 ∧ ∀ i, i < (plaG c d).length → (rowAt (plaG c d) i).length ≤ 15 := by
  rcases hb : plaB c d with _ | _
  · rw [(pla_no hb).1]; exact ⟨by decide, fun i hi => by simp at hi⟩
  · obtain ⟨s, f, rfl, rfl, h1, h2, h3, h4⟩ := pla_nat hb
    rw [(pla_yes hb).1]
    have hf := pla_facts h1 h2 h3 h4
    exact ⟨hf.1, fun i hi => by rw [hf.2 i hi]; omega⟩

theorem sdrG_len (c d : Int) : (sdrG c d).length ≤ 15 ∧ ∀ i, i < (sdrG c d).length → (rowAt (sdrG c d) i).length ≤ 15 := by
  rcases hb : plaB c d with _ | _
  · rw [(pla_no hb).2]; exact ⟨by decide, fun i hi => by simp at hi⟩
  · obtain ⟨s, f, rfl, rfl, h1, h2, h3, h4⟩ := pla_nat hb
    rw [(pla_yes hb).2]
    have hf := pla_facts h1 h2 h3 h4
    refine ⟨by rw [sdrV_length]; exact hf.1, fun i hi => ?_⟩
    rw [sdrV_length] at hi
    have : rowAt (sdrV s f (plaT s f).length) i = sdrR s f i := by unfold sdrV rowAt; simp [hi]
    rw [this]; simp [sdrR]; exact hf.1

theorem beatG_len (c : Int) : (beatG c).length ≤ 15 ∧ ∀ i, i < (beatG c).length → (rowAt (beatG c) i).length ≤ 15 := by
  rcases hb : beatB c with _ | _
  · rw [beat_no hb]; exact ⟨by decide, fun i hi => by simp at hi⟩
  · have h1 : inR c 1 15 = true := by unfold beatB at hb; rw [Bool.and_eq_true] at hb; exact hb.1
    have h3 : 1 ≤ c ∧ c ≤ 15 := by unfold inR at h1; exact of_decide_eq_true h1
    obtain ⟨n, rfl⟩ : ∃ n : Nat, c = (n : Int) := ⟨c.toNat, by omega⟩
    rw [beat_yes hb]
    refine ⟨by rw [beatV_length]; omega, fun i hi => ?_⟩
    rw [beatV_length] at hi
    have : rowAt (beatV n n) i = beatR n i := by unfold beatV rowAt; simp [hi]
    rw [this]; simp [beatR]; omega

/-- what the program's functions on fair games are asked -/
structure Impl10 : Prop where
  fair : ∀ (A : Option Addr) (c : Nat) (g : List (List Int)) (_ : g.length ≤ maxLen) (w : World) (_ : Rows2 w (fun b => b < w.heap.size) A g), Calls Try.prog 14 #[.slice A g.length c] w (Adds (.bool (fairB g)) w)
  place : ∀ (c d : Int) (_ : (Lit.int .i64 c).wf = true) (_ : (Lit.int .i64 d).wf = true) (w : World), Calls Try.prog 22 #[.int .i64 c, .int .i64 d] w (NewTable w (plaG c d))
  sold : ∀ (c d : Int) (_ : (Lit.int .i64 c).wf = true) (_ : (Lit.int .i64 d).wf = true) (w : World), Calls Try.prog 26 #[.int .i64 c, .int .i64 d] w (NewTable w (sdrG c d))
  beat : ∀ (c : Int) (_ : (Lit.int .i64 c).wf = true) (w : World), Calls Try.prog 31 #[.int .i64 c] w (NewTable w (beatG c))
  frm : ∀ (A : Option Addr) (c : Nat) (g : List (List Int)) (_ : g.length ≤ maxLen) (w : World) (_ : Rows2 w (fun b => b < w.heap.size) A g), Calls Try.prog 36 #[.slice A g.length c] w (NewTable w (frmG g))

set_option maxHeartbeats 2000000 in
set_option maxRecDepth 100000 in
theorem wFnExactFairOk (I : Impl10) (A0 : Option Addr) (c0 : Nat) (x0 : List (List Int)) (l0 : x0.length ≤ maxLen) (w : World) (r0 : Rows2 w (· < w.heap.size) A0 x0) :
    Calls Try.prog 8 #[.slice A0 x0.length c0] w (Adds (.bool true) w) := by
  have R0 := Lib.hid r0
  clear r0
  go_enter Try.func8, Try.ntmps8
  go_wp2_with fail
  refine (szIntSS A0 c0 x0 _ 1048576 l0 (by omega) (by omega) _ R0.out).mono ?_
  rintro e wz ⟨q0, rfl, rfl, hq0⟩
  by_cases hz0 : q0 < 0
  · clear hq0
    go_wp2_with fail
    go_ret
    exact Adds.of rfl (Below.refl _ _)
  have hsum0 : (x0.length : Int) + (sumN x0 x0.length : Nat) ≤ 1048576 := by omega
  have hm0 : ∀ i, i < x0.length → (rowAt x0 i).length ≤ 4294967296 := fun i hi => by have := row_le_sumN x0 hi; omega
  have HM0 := Lib.hid hm0
  have t0 : x0.length ≤ 4294967296 := by omega
  have st0 : sumN x0 x0.length ≤ 1048576 := by omega
  clear hq0 hsum0 hm0
  go_wp2_with fail
  refine (toIntSS A0 c0 x0 t0 HM0.out _ R0.out).mono ?_
  rintro e w1 ⟨rfl, hL1⟩
  have S0 := Lib.hid (NewRows.reads hL1 HM0.out)
  have hb1 := NewRows.bel hL1
  replace R0 := Lib.hid (stillRows R0.out hb1)
  have BEL0 := Lib.hid hb1
  clear hb1 hL1
  go_wp2_with fail
  refine ((fairOk_spec _ _ x0 l0 _ S0.out)).mono ?_
  rintro e w2 ⟨rfl, hq2⟩
  have hb2 : Below w1.heap.size w1 w2 := by obtain ⟨n, rfl⟩ := hq2; exact below_drewN (Below.refl _ _) n
  replace R0 := Lib.hid (stillRows R0.out hb2)
  replace S0 := Lib.hid (stillRows S0.out hb2)
  replace BEL0 := Lib.hid (belT BEL0.out hb2)
  clear hq2 hb2
  clear S0
  go_wp2_with fail
  refine (toIntSS A0 c0 x0 t0 HM0.out _ R0.out).mono ?_
  rintro e w3 ⟨rfl, hL3⟩
  have X0 := Lib.hid (NewRows.reads hL3 HM0.out)
  have hb3 := NewRows.bel hL3
  replace R0 := Lib.hid (stillRows R0.out hb3)
  replace BEL0 := Lib.hid (belT BEL0.out hb3)
  clear hb3 hL3
  go_wp2_with fail
  refine (I.fair _ _ x0 l0 _ X0.out).mono ?_
  rintro e w4 ⟨rfl, hb4⟩
  replace R0 := Lib.hid (stillRows R0.out hb4)
  replace X0 := Lib.hid (stillRows X0.out hb4)
  replace BEL0 := Lib.hid (belT BEL0.out hb4)
  clear hb4
  have zB : (fairB x0 != fairB x0) = false := by simp
  go_wp2_with fail
  refine (toIntSS A0 c0 x0 t0 HM0.out _ R0.out).mono ?_
  rintro e w5 ⟨rfl, hL5⟩
  have E0 := Lib.hid (NewRows.reads hL5 HM0.out)
  have hb5 := NewRows.bel hL5
  replace R0 := Lib.hid (stillRows R0.out hb5)
  replace X0 := Lib.hid (stillRows X0.out hb5)
  replace BEL0 := Lib.hid (belT BEL0.out hb5)
  clear hb5 hL5
  go_wp2_with fail
  refine (eqIntSS _ _ _ _ x0 _ _ l0 _ X0.out E0.out).mono ?_
  rintro e w6 ⟨rfl, hq6⟩
  have hb6 : Below w5.heap.size w5 w6 := by obtain ⟨n, rfl⟩ := hq6; exact below_drewN (Below.refl _ _) n
  replace R0 := Lib.hid (stillRows R0.out hb6)
  replace X0 := Lib.hid (stillRows X0.out hb6)
  replace E0 := Lib.hid (stillRows E0.out hb6)
  replace BEL0 := Lib.hid (belT BEL0.out hb6)
  clear hq6 hb6
  clear E0
  clear X0
  go_wp2_with fail
  go_ret
  exact Adds.of rfl BEL0.out

set_option maxHeartbeats 4000000 in
set_option maxRecDepth 100000 in
theorem wFnExactPlacingsOf (I : Impl10) (x0 : Int) (l0 : (Lit.int .i64 x0).wf = true) (x1 : Int) (l1 : (Lit.int .i64 x1).wf = true) (w : World)  :
    Calls Try.prog 9 #[.int .i64 x0, .int .i64 x1] w (Adds (.bool true) w) := by
  have le_w : w.heap.size ≤ w.heap.size := Nat.le_refl _
  have hsl := (plaG_len x0 x1).1
  have hsu : sumN (plaG x0 x1) (plaG x0 x1).length ≤ 15 * (plaG x0 x1).length := sumN_le _ 15 _ (plaG_len x0 x1).2
  have HSL : Hid ((plaG x0 x1).length ≤ maxLen) := by show _ ≤ _; unfold maxLen; omega
  go_enter Try.func9, Try.ntmps9
  go_wp2_with fail
  refine (placings_spec x0 x1 _).mono ?_
  rintro e w1 ⟨TV, cV, rfl, hb1, ho1⟩
  have V := Lib.hid ho1.lt
  replace le_w := Nat.le_trans le_w hb1.size
  have BEL0 := Lib.hid hb1
  have o_w_w1 : w.heap.size ≤ w1.heap.size := le_w
  have le_w1 : w1.heap.size ≤ w1.heap.size := Nat.le_refl _
  clear hb1 ho1
  go_wp2_with fail
  refine (I.place x0 x1 l0 l1 _).mono ?_
  rintro e w2 ⟨TG, cG, rfl, hb2, ho2⟩
  have G := Lib.hid ho2
  replace V := Lib.hid (keepRows (hb2.mono le_w1) V.out)
  replace le_w := Nat.le_trans le_w hb2.size
  replace le_w1 := Nat.le_trans le_w1 hb2.size
  replace BEL0 := Lib.hid (belT BEL0.out hb2)
  have o_w1_w2 : w1.heap.size ≤ w2.heap.size := le_w1
  have le_w2 : w2.heap.size ≤ w2.heap.size := Nat.le_refl _
  clear hb2 ho2
  go_wp2_with fail
  refine (eqIntSS _ _ _ _ (plaG x0 x1) _ _ HSL.out _ (G.out.lt.lt le_w2) (V.out.lt le_w1)).mono ?_
  rintro e w3 ⟨rfl, hq3⟩
  have hb3 : Below w2.heap.size w2 w3 := by obtain ⟨n, rfl⟩ := hq3; exact below_drewN (Below.refl _ _) n
  replace G := Lib.hid (G.out.below (hb3.mono le_w2))
  replace V := Lib.hid (keepRows (hb3.mono le_w1) V.out)
  replace le_w := Nat.le_trans le_w hb3.size
  replace le_w1 := Nat.le_trans le_w1 hb3.size
  replace le_w2 := Nat.le_trans le_w2 hb3.size
  replace BEL0 := Lib.hid (belT BEL0.out hb3)
  clear hq3 hb3
  have kpos : 0 ≤ 1 := by omega
  go_wp2_with fail
  refine (markIntSS _ _ (plaG x0 x1) _ _ 1 (by omega) (by omega) (by omega) (by omega) _ G.out).mono ?_
  rintro e w4 ⟨rfl, hf4, ho4⟩
  replace G := Lib.hid ho4
  replace V := Lib.hid (keepRows (hf4.below (by omega)) V.out)
  have hz4 := hf4.size
  replace le_w : w.heap.size ≤ w4.heap.size := by omega
  replace le_w1 : w1.heap.size ≤ w4.heap.size := by omega
  replace le_w2 : w2.heap.size ≤ w4.heap.size := by omega
  replace BEL0 := Lib.hid (BEL0.out.trans (hf4.below (by omega)))
  clear hf4 hz4 ho4
  have zz : ((1 + (sumN (plaG x0 x1) (plaG x0 x1).length : Int)) != (1 + (sumN (plaG x0 x1) (plaG x0 x1).length : Int))) = false := by simp
  go_wp2_with fail
  refine (heldIntSS _ _ (plaG x0 x1) _ 1 (by omega) (by omega) (by omega) (by omega) _ G.out.rows2).mono ?_
  rintro e wz ⟨rfl, rfl⟩
  have o_w2_w4 : w2.heap.size ≤ w4.heap.size := le_w2
  have le_w4 : w4.heap.size ≤ w4.heap.size := Nat.le_refl _
  go_wp2_with fail
  refine (I.place x0 x1 l0 l1 _).mono ?_
  rintro e w5 ⟨TH, cH, rfl, hb5, ho5⟩
  have H := Lib.hid ho5
  replace G := Lib.hid (G.out.below (hb5.mono le_w2))
  replace V := Lib.hid (keepRows (hb5.mono le_w1) V.out)
  replace le_w := Nat.le_trans le_w hb5.size
  replace le_w1 := Nat.le_trans le_w1 hb5.size
  replace le_w2 := Nat.le_trans le_w2 hb5.size
  replace le_w4 := Nat.le_trans le_w4 hb5.size
  replace BEL0 := Lib.hid (belT BEL0.out hb5)
  have o_w4_w5 : w4.heap.size ≤ w5.heap.size := le_w4
  have le_w5 : w5.heap.size ≤ w5.heap.size := Nat.le_refl _
  clear hb5 ho5
  go_wp2_with fail
  refine (eqIntSS _ _ _ _ (plaG x0 x1) _ _ HSL.out _ (H.out.lt.lt le_w5) (V.out.lt le_w1)).mono ?_
  rintro e w6 ⟨rfl, hq6⟩
  have hb6 : Below w5.heap.size w5 w6 := by obtain ⟨n, rfl⟩ := hq6; exact below_drewN (Below.refl _ _) n
  replace G := Lib.hid (G.out.below (hb6.mono le_w2))
  replace H := Lib.hid (H.out.below (hb6.mono le_w5))
  replace V := Lib.hid (keepRows (hb6.mono le_w1) V.out)
  replace le_w := Nat.le_trans le_w hb6.size
  replace le_w1 := Nat.le_trans le_w1 hb6.size
  replace le_w2 := Nat.le_trans le_w2 hb6.size
  replace le_w4 := Nat.le_trans le_w4 hb6.size
  replace le_w5 := Nat.le_trans le_w5 hb6.size
  replace BEL0 := Lib.hid (belT BEL0.out hb6)
  clear hq6 hb6
  clear H
  clear V
  go_wp2_with fail
  refine (heldIntSS _ _ (plaG x0 x1) _ 1 (by omega) (by omega) (by omega) (by omega) _ G.out.rows2).mono ?_
  rintro e wz ⟨rfl, rfl⟩
  go_wp2_with fail
  go_ret
  exact Adds.of rfl BEL0.out

set_option maxHeartbeats 4000000 in
set_option maxRecDepth 100000 in
theorem wFnExactBeatingGame (I : Impl10) (x0 : Int) (l0 : (Lit.int .i64 x0).wf = true) (w : World)  :
    Calls Try.prog 11 #[.int .i64 x0] w (Adds (.bool true) w) := by
  have le_w : w.heap.size ≤ w.heap.size := Nat.le_refl _
  have hsl := (beatG_len x0).1
  have hsu : sumN (beatG x0) (beatG x0).length ≤ 15 * (beatG x0).length := sumN_le _ 15 _ (beatG_len x0).2
  have HSL : Hid ((beatG x0).length ≤ maxLen) := by show _ ≤ _; unfold maxLen; omega
  go_enter Try.func11, Try.ntmps11
  go_wp2_with fail
  refine (beat_spec x0 _).mono ?_
  rintro e w1 ⟨TV, cV, rfl, hb1, ho1⟩
  have V := Lib.hid ho1.lt
  replace le_w := Nat.le_trans le_w hb1.size
  have BEL0 := Lib.hid hb1
  have o_w_w1 : w.heap.size ≤ w1.heap.size := le_w
  have le_w1 : w1.heap.size ≤ w1.heap.size := Nat.le_refl _
  clear hb1 ho1
  go_wp2_with fail
  refine (I.beat x0 l0 _).mono ?_
  rintro e w2 ⟨TG, cG, rfl, hb2, ho2⟩
  have G := Lib.hid ho2
  replace V := Lib.hid (keepRows (hb2.mono le_w1) V.out)
  replace le_w := Nat.le_trans le_w hb2.size
  replace le_w1 := Nat.le_trans le_w1 hb2.size
  replace BEL0 := Lib.hid (belT BEL0.out hb2)
  have o_w1_w2 : w1.heap.size ≤ w2.heap.size := le_w1
  have le_w2 : w2.heap.size ≤ w2.heap.size := Nat.le_refl _
  clear hb2 ho2
  go_wp2_with fail
  refine (eqIntSS _ _ _ _ (beatG x0) _ _ HSL.out _ (G.out.lt.lt le_w2) (V.out.lt le_w1)).mono ?_
  rintro e w3 ⟨rfl, hq3⟩
  have hb3 : Below w2.heap.size w2 w3 := by obtain ⟨n, rfl⟩ := hq3; exact below_drewN (Below.refl _ _) n
  replace G := Lib.hid (G.out.below (hb3.mono le_w2))
  replace V := Lib.hid (keepRows (hb3.mono le_w1) V.out)
  replace le_w := Nat.le_trans le_w hb3.size
  replace le_w1 := Nat.le_trans le_w1 hb3.size
  replace le_w2 := Nat.le_trans le_w2 hb3.size
  replace BEL0 := Lib.hid (belT BEL0.out hb3)
  clear hq3 hb3
  have kpos : 0 ≤ 1 := by omega
  go_wp2_with fail
  refine (markIntSS _ _ (beatG x0) _ _ 1 (by omega) (by omega) (by omega) (by omega) _ G.out).mono ?_
  rintro e w4 ⟨rfl, hf4, ho4⟩
  replace G := Lib.hid ho4
  replace V := Lib.hid (keepRows (hf4.below (by omega)) V.out)
  have hz4 := hf4.size
  replace le_w : w.heap.size ≤ w4.heap.size := by omega
  replace le_w1 : w1.heap.size ≤ w4.heap.size := by omega
  replace le_w2 : w2.heap.size ≤ w4.heap.size := by omega
  replace BEL0 := Lib.hid (BEL0.out.trans (hf4.below (by omega)))
  clear hf4 hz4 ho4
  have zz : ((1 + (sumN (beatG x0) (beatG x0).length : Int)) != (1 + (sumN (beatG x0) (beatG x0).length : Int))) = false := by simp
  go_wp2_with fail
  refine (heldIntSS _ _ (beatG x0) _ 1 (by omega) (by omega) (by omega) (by omega) _ G.out.rows2).mono ?_
  rintro e wz ⟨rfl, rfl⟩
  have o_w2_w4 : w2.heap.size ≤ w4.heap.size := le_w2
  have le_w4 : w4.heap.size ≤ w4.heap.size := Nat.le_refl _
  go_wp2_with fail
  refine (I.beat x0 l0 _).mono ?_
  rintro e w5 ⟨TH, cH, rfl, hb5, ho5⟩
  have H := Lib.hid ho5
  replace G := Lib.hid (G.out.below (hb5.mono le_w2))
  replace V := Lib.hid (keepRows (hb5.mono le_w1) V.out)
  replace le_w := Nat.le_trans le_w hb5.size
  replace le_w1 := Nat.le_trans le_w1 hb5.size
  replace le_w2 := Nat.le_trans le_w2 hb5.size
  replace le_w4 := Nat.le_trans le_w4 hb5.size
  replace BEL0 := Lib.hid (belT BEL0.out hb5)
  have o_w4_w5 : w4.heap.size ≤ w5.heap.size := le_w4
  have le_w5 : w5.heap.size ≤ w5.heap.size := Nat.le_refl _
  clear hb5 ho5
  go_wp2_with fail
  refine (eqIntSS _ _ _ _ (beatG x0) _ _ HSL.out _ (H.out.lt.lt le_w5) (V.out.lt le_w1)).mono ?_
  rintro e w6 ⟨rfl, hq6⟩
  have hb6 : Below w5.heap.size w5 w6 := by obtain ⟨n, rfl⟩ := hq6; exact below_drewN (Below.refl _ _) n
  replace G := Lib.hid (G.out.below (hb6.mono le_w2))
  replace H := Lib.hid (H.out.below (hb6.mono le_w5))
  replace V := Lib.hid (keepRows (hb6.mono le_w1) V.out)
  replace le_w := Nat.le_trans le_w hb6.size
  replace le_w1 := Nat.le_trans le_w1 hb6.size
  replace le_w2 := Nat.le_trans le_w2 hb6.size
  replace le_w4 := Nat.le_trans le_w4 hb6.size
  replace le_w5 := Nat.le_trans le_w5 hb6.size
  replace BEL0 := Lib.hid (belT BEL0.out hb6)
  clear hq6 hb6
  clear H
  clear V
  go_wp2_with fail
  refine (heldIntSS _ _ (beatG x0) _ 1 (by omega) (by omega) (by omega) (by omega) _ G.out.rows2).mono ?_
  rintro e wz ⟨rfl, rfl⟩
  go_wp2_with fail
  go_ret
  exact Adds.of rfl BEL0.out

end Go.Proofs.Ytanfefgigepdcaa

namespace Go.Proofs.Ytanfefgigepdcaa
set_option linter.unusedSimpArgs false
set_option linter.unusedVariables false
open Go.RowKit

theorem frmG_len (g : List (List Int)) : (frmG g).length ≤ 9 ∧ ∀ i, i < (frmG g).length → (rowAt (frmG g) i).length ≤ 9 := by
  rcases hb : frmB g with _ | _
  · rw [frm_no hb]; exact ⟨by decide, fun i hi => by simp at hi⟩
  · rw [frm_yes hb]
    have h8 := (frmB_iff.1 hb).2
    refine ⟨by rw [fromT_length]; omega, fun i hi => ?_⟩
    rw [fromT_length] at hi
    rw [rowAt_fromT _ _ _ hi, fromR_length]; omega

set_option maxHeartbeats 4000000 in
set_option maxRecDepth 100000 in
theorem wFnExactSoldierGame (I : Impl10) (x0 : Int) (l0 : (Lit.int .i64 x0).wf = true) (x1 : Int) (l1 : (Lit.int .i64 x1).wf = true) (w : World)  :
    Calls Try.prog 10 #[.int .i64 x0, .int .i64 x1] w (Adds (.bool true) w) := by
  have le_w : w.heap.size ≤ w.heap.size := Nat.le_refl _
  have hsl := (sdrG_len x0 x1).1
  have hsu : sumN (sdrG x0 x1) (sdrG x0 x1).length ≤ 15 * (sdrG x0 x1).length := sumN_le _ 15 _ (sdrG_len x0 x1).2
  have HSL : Hid ((sdrG x0 x1).length ≤ maxLen) := by show _ ≤ _; unfold maxLen; omega
  go_enter Try.func10, Try.ntmps10
  go_wp2_with fail
  refine (soldierGame_spec x0 x1 _).mono ?_
  rintro e w1 ⟨TV, cV, rfl, hb1, ho1⟩
  have V := Lib.hid ho1.lt
  replace le_w := Nat.le_trans le_w hb1.size
  have BEL0 := Lib.hid hb1
  have o_w_w1 : w.heap.size ≤ w1.heap.size := le_w
  have le_w1 : w1.heap.size ≤ w1.heap.size := Nat.le_refl _
  clear hb1 ho1
  go_wp2_with fail
  refine (I.sold x0 x1 l0 l1 _).mono ?_
  rintro e w2 ⟨TG, cG, rfl, hb2, ho2⟩
  have G := Lib.hid ho2
  replace V := Lib.hid (keepRows (hb2.mono le_w1) V.out)
  replace le_w := Nat.le_trans le_w hb2.size
  replace le_w1 := Nat.le_trans le_w1 hb2.size
  replace BEL0 := Lib.hid (belT BEL0.out hb2)
  have o_w1_w2 : w1.heap.size ≤ w2.heap.size := le_w1
  have le_w2 : w2.heap.size ≤ w2.heap.size := Nat.le_refl _
  clear hb2 ho2
  go_wp2_with fail
  refine (eqIntSS _ _ _ _ (sdrG x0 x1) _ _ HSL.out _ (G.out.lt.lt le_w2) (V.out.lt le_w1)).mono ?_
  rintro e w3 ⟨rfl, hq3⟩
  have hb3 : Below w2.heap.size w2 w3 := by obtain ⟨n, rfl⟩ := hq3; exact below_drewN (Below.refl _ _) n
  replace G := Lib.hid (G.out.below (hb3.mono le_w2))
  replace V := Lib.hid (keepRows (hb3.mono le_w1) V.out)
  replace le_w := Nat.le_trans le_w hb3.size
  replace le_w1 := Nat.le_trans le_w1 hb3.size
  replace le_w2 := Nat.le_trans le_w2 hb3.size
  replace BEL0 := Lib.hid (belT BEL0.out hb3)
  clear hq3 hb3
  have kpos : 0 ≤ 1 := by omega
  go_wp2_with fail
  refine (markIntSS _ _ (sdrG x0 x1) _ _ 1 (by omega) (by omega) (by omega) (by omega) _ G.out).mono ?_
  rintro e w4 ⟨rfl, hf4, ho4⟩
  replace G := Lib.hid ho4
  replace V := Lib.hid (keepRows (hf4.below (by omega)) V.out)
  have hz4 := hf4.size
  replace le_w : w.heap.size ≤ w4.heap.size := by omega
  replace le_w1 : w1.heap.size ≤ w4.heap.size := by omega
  replace le_w2 : w2.heap.size ≤ w4.heap.size := by omega
  replace BEL0 := Lib.hid (BEL0.out.trans (hf4.below (by omega)))
  clear hf4 hz4 ho4
  have zz : ((1 + (sumN (sdrG x0 x1) (sdrG x0 x1).length : Int)) != (1 + (sumN (sdrG x0 x1) (sdrG x0 x1).length : Int))) = false := by simp
  go_wp2_with fail
  refine (heldIntSS _ _ (sdrG x0 x1) _ 1 (by omega) (by omega) (by omega) (by omega) _ G.out.rows2).mono ?_
  rintro e wz ⟨rfl, rfl⟩
  have o_w2_w4 : w2.heap.size ≤ w4.heap.size := le_w2
  have le_w4 : w4.heap.size ≤ w4.heap.size := Nat.le_refl _
  go_wp2_with fail
  refine (I.sold x0 x1 l0 l1 _).mono ?_
  rintro e w5 ⟨TH, cH, rfl, hb5, ho5⟩
  have H := Lib.hid ho5
  replace G := Lib.hid (G.out.below (hb5.mono le_w2))
  replace V := Lib.hid (keepRows (hb5.mono le_w1) V.out)
  replace le_w := Nat.le_trans le_w hb5.size
  replace le_w1 := Nat.le_trans le_w1 hb5.size
  replace le_w2 := Nat.le_trans le_w2 hb5.size
  replace le_w4 := Nat.le_trans le_w4 hb5.size
  replace BEL0 := Lib.hid (belT BEL0.out hb5)
  have o_w4_w5 : w4.heap.size ≤ w5.heap.size := le_w4
  have le_w5 : w5.heap.size ≤ w5.heap.size := Nat.le_refl _
  clear hb5 ho5
  go_wp2_with fail
  refine (eqIntSS _ _ _ _ (sdrG x0 x1) _ _ HSL.out _ (H.out.lt.lt le_w5) (V.out.lt le_w1)).mono ?_
  rintro e w6 ⟨rfl, hq6⟩
  have hb6 : Below w5.heap.size w5 w6 := by obtain ⟨n, rfl⟩ := hq6; exact below_drewN (Below.refl _ _) n
  replace G := Lib.hid (G.out.below (hb6.mono le_w2))
  replace H := Lib.hid (H.out.below (hb6.mono le_w5))
  replace V := Lib.hid (keepRows (hb6.mono le_w1) V.out)
  replace le_w := Nat.le_trans le_w hb6.size
  replace le_w1 := Nat.le_trans le_w1 hb6.size
  replace le_w2 := Nat.le_trans le_w2 hb6.size
  replace le_w4 := Nat.le_trans le_w4 hb6.size
  replace le_w5 := Nat.le_trans le_w5 hb6.size
  replace BEL0 := Lib.hid (belT BEL0.out hb6)
  clear hq6 hb6
  clear H
  clear V
  go_wp2_with fail
  refine (heldIntSS _ _ (sdrG x0 x1) _ 1 (by omega) (by omega) (by omega) (by omega) _ G.out.rows2).mono ?_
  rintro e wz ⟨rfl, rfl⟩
  go_wp2_with fail
  go_ret
  exact Adds.of rfl BEL0.out

set_option maxHeartbeats 4000000 in
set_option maxRecDepth 100000 in
theorem wFnExactFairFrom (I : Impl10) (A0 : Option Addr) (c0 : Nat) (x0 : List (List Int)) (l0 : x0.length ≤ maxLen) (w : World) (r0 : Rows2 w (· < w.heap.size) A0 x0) :
    Calls Try.prog 12 #[.slice A0 x0.length c0] w (Adds (.bool true) w) := by
  have R0 := Lib.hid r0
  clear r0
  have le_w : w.heap.size ≤ w.heap.size := Nat.le_refl _
  have hsl := (frmG_len x0).1
  have hsu : sumN (frmG x0) (frmG x0).length ≤ 9 * (frmG x0).length := sumN_le _ 9 _ (frmG_len x0).2
  have HSL : Hid ((frmG x0).length ≤ maxLen) := by show _ ≤ _; unfold maxLen; omega
  go_enter Try.func12, Try.ntmps12
  go_wp2_with fail
  refine (szIntSS A0 c0 x0 _ 1048576 l0 (by omega) (by omega) _ R0.out).mono ?_
  rintro e wz ⟨q0, rfl, rfl, hq0⟩
  by_cases hz0 : q0 < 0
  · clear hq0
    go_wp2_with fail
    go_ret
    exact Adds.of rfl (Below.refl _ _)
  have hsum0 : (x0.length : Int) + (sumN x0 x0.length : Nat) ≤ 1048576 := by omega
  have hm0 : ∀ i, i < x0.length → (rowAt x0 i).length ≤ 4294967296 := fun i hi => by have := row_le_sumN x0 hi; omega
  have hmm0 : ∀ i, i < x0.length → (rowAt x0 i).length ≤ maxLen := fun i hi => by have := hm0 i hi; unfold maxLen; omega
  have HM0 := Lib.hid hm0
  have HN0 := Lib.hid hmm0
  have t0 : x0.length ≤ 4294967296 := by omega
  have st0 : sumN x0 x0.length ≤ 1048576 := by omega
  clear hq0 hsum0 hm0 hmm0
  go_wp2_with fail
  refine (toIntSS A0 c0 x0 t0 HM0.out _ (Lib.hid (R0.out.lt le_w)).out).mono ?_
  rintro e w1 ⟨rfl, hL1⟩
  have S0 := Lib.hid (Laid.own hL1 HN0.out)
  have hb1 := NewRows.bel hL1
  replace R0 := Lib.hid (keepRows (hb1.mono le_w) R0.out)
  replace le_w := Nat.le_trans le_w hb1.size
  have BEL0 := Lib.hid hb1
  have o_w_w1 : w.heap.size ≤ w1.heap.size := le_w
  have le_w1 : w1.heap.size ≤ w1.heap.size := Nat.le_refl _
  clear hb1 hL1
  go_wp2_with fail
  refine (from_spec _ _ x0 l0 _ (S0.out.lt.lt le_w1)).mono ?_
  rintro e w2 ⟨TV, cV, rfl, hb2, ho2⟩
  have V := Lib.hid ho2.lt
  replace S0 := Lib.hid (S0.out.below (hb2.mono le_w1))
  replace R0 := Lib.hid (keepRows (hb2.mono le_w) R0.out)
  replace le_w := Nat.le_trans le_w hb2.size
  replace le_w1 := Nat.le_trans le_w1 hb2.size
  replace BEL0 := Lib.hid (belT BEL0.out hb2)
  have o_w1_w2 : w1.heap.size ≤ w2.heap.size := le_w1
  have le_w2 : w2.heap.size ≤ w2.heap.size := Nat.le_refl _
  clear hb2 ho2
  clear S0
  go_wp2_with fail
  refine (toIntSS A0 c0 x0 t0 HM0.out _ (Lib.hid (R0.out.lt le_w)).out).mono ?_
  rintro e w3 ⟨rfl, hL3⟩
  have X0 := Lib.hid (Laid.own hL3 HN0.out)
  have hb3 := NewRows.bel hL3
  replace R0 := Lib.hid (keepRows (hb3.mono le_w) R0.out)
  replace V := Lib.hid (keepRows (hb3.mono le_w2) V.out)
  replace le_w := Nat.le_trans le_w hb3.size
  replace le_w1 := Nat.le_trans le_w1 hb3.size
  replace le_w2 := Nat.le_trans le_w2 hb3.size
  replace BEL0 := Lib.hid (belT BEL0.out hb3)
  have o_w2_w3 : w2.heap.size ≤ w3.heap.size := le_w2
  have le_w3 : w3.heap.size ≤ w3.heap.size := Nat.le_refl _
  clear hb3 hL3
  go_wp2_with fail
  refine (I.frm _ _ x0 l0 _ (X0.out.lt.lt le_w3)).mono ?_
  rintro e w4 ⟨TG, cG, rfl, hb4, ho4⟩
  have G := Lib.hid ho4
  replace X0 := Lib.hid (X0.out.below (hb4.mono le_w3))
  replace R0 := Lib.hid (keepRows (hb4.mono le_w) R0.out)
  replace V := Lib.hid (keepRows (hb4.mono le_w2) V.out)
  replace le_w := Nat.le_trans le_w hb4.size
  replace le_w1 := Nat.le_trans le_w1 hb4.size
  replace le_w2 := Nat.le_trans le_w2 hb4.size
  replace le_w3 := Nat.le_trans le_w3 hb4.size
  replace BEL0 := Lib.hid (belT BEL0.out hb4)
  have o_w3_w4 : w3.heap.size ≤ w4.heap.size := le_w3
  have le_w4 : w4.heap.size ≤ w4.heap.size := Nat.le_refl _
  clear hb4 ho4
  go_wp2_with fail
  refine (eqIntSS _ _ _ _ (frmG x0) _ _ HSL.out _ (G.out.lt.lt le_w4) (V.out.lt le_w2)).mono ?_
  rintro e w5 ⟨rfl, hq5⟩
  have hb5 : Below w4.heap.size w4 w5 := by obtain ⟨n, rfl⟩ := hq5; exact below_drewN (Below.refl _ _) n
  replace X0 := Lib.hid (X0.out.below (hb5.mono le_w3))
  replace G := Lib.hid (G.out.below (hb5.mono le_w4))
  replace R0 := Lib.hid (keepRows (hb5.mono le_w) R0.out)
  replace V := Lib.hid (keepRows (hb5.mono le_w2) V.out)
  replace le_w := Nat.le_trans le_w hb5.size
  replace le_w1 := Nat.le_trans le_w1 hb5.size
  replace le_w2 := Nat.le_trans le_w2 hb5.size
  replace le_w3 := Nat.le_trans le_w3 hb5.size
  replace le_w4 := Nat.le_trans le_w4 hb5.size
  replace BEL0 := Lib.hid (belT BEL0.out hb5)
  clear hq5 hb5
  have o_w4_w5 : w4.heap.size ≤ w5.heap.size := le_w4
  have le_w5 : w5.heap.size ≤ w5.heap.size := Nat.le_refl _
  go_wp2_with fail
  refine (toIntSS A0 c0 x0 t0 HM0.out _ (Lib.hid (R0.out.lt le_w)).out).mono ?_
  rintro e w6 ⟨rfl, hL6⟩
  have E0 := Lib.hid (Laid.own hL6 HN0.out)
  have hb6 := NewRows.bel hL6
  replace X0 := Lib.hid (X0.out.below (hb6.mono le_w3))
  replace G := Lib.hid (G.out.below (hb6.mono le_w4))
  replace R0 := Lib.hid (keepRows (hb6.mono le_w) R0.out)
  replace V := Lib.hid (keepRows (hb6.mono le_w2) V.out)
  replace le_w := Nat.le_trans le_w hb6.size
  replace le_w1 := Nat.le_trans le_w1 hb6.size
  replace le_w2 := Nat.le_trans le_w2 hb6.size
  replace le_w3 := Nat.le_trans le_w3 hb6.size
  replace le_w4 := Nat.le_trans le_w4 hb6.size
  replace le_w5 := Nat.le_trans le_w5 hb6.size
  replace BEL0 := Lib.hid (belT BEL0.out hb6)
  have o_w5_w6 : w5.heap.size ≤ w6.heap.size := le_w5
  have le_w6 : w6.heap.size ≤ w6.heap.size := Nat.le_refl _
  clear hb6 hL6
  go_wp2_with fail
  refine (eqIntSS _ _ _ _ x0 _ _ l0 _ (X0.out.lt.lt le_w3) (E0.out.lt.lt le_w6)).mono ?_
  rintro e w7 ⟨rfl, hq7⟩
  have hb7 : Below w6.heap.size w6 w7 := by obtain ⟨n, rfl⟩ := hq7; exact below_drewN (Below.refl _ _) n
  replace X0 := Lib.hid (X0.out.below (hb7.mono le_w3))
  replace G := Lib.hid (G.out.below (hb7.mono le_w4))
  replace E0 := Lib.hid (E0.out.below (hb7.mono le_w6))
  replace R0 := Lib.hid (keepRows (hb7.mono le_w) R0.out)
  replace V := Lib.hid (keepRows (hb7.mono le_w2) V.out)
  replace le_w := Nat.le_trans le_w hb7.size
  replace le_w1 := Nat.le_trans le_w1 hb7.size
  replace le_w2 := Nat.le_trans le_w2 hb7.size
  replace le_w3 := Nat.le_trans le_w3 hb7.size
  replace le_w4 := Nat.le_trans le_w4 hb7.size
  replace le_w5 := Nat.le_trans le_w5 hb7.size
  replace le_w6 := Nat.le_trans le_w6 hb7.size
  replace BEL0 := Lib.hid (belT BEL0.out hb7)
  clear hq7 hb7
  clear E0
  go_wp2_with fail
  refine (markIntSS _ _ x0 _ _ 1 t0 (by omega) (by omega) (by omega) _ X0.out).mono ?_
  rintro e w8 ⟨rfl, hf8, ho8⟩
  replace X0 := Lib.hid ho8
  replace G := Lib.hid (G.out.off hf8 (by omega))
  replace R0 := Lib.hid (keepRows (hf8.below (by omega)) R0.out)
  replace V := Lib.hid (keepRows (hf8.below (by omega)) V.out)
  have hz8 := hf8.size
  replace le_w : w.heap.size ≤ w8.heap.size := by omega
  replace le_w1 : w1.heap.size ≤ w8.heap.size := by omega
  replace le_w2 : w2.heap.size ≤ w8.heap.size := by omega
  replace le_w3 : w3.heap.size ≤ w8.heap.size := by omega
  replace le_w4 : w4.heap.size ≤ w8.heap.size := by omega
  replace le_w5 : w5.heap.size ≤ w8.heap.size := by omega
  replace le_w6 : w6.heap.size ≤ w8.heap.size := by omega
  replace BEL0 := Lib.hid (BEL0.out.trans (hf8.below (by omega)))
  clear hf8 hz8 ho8
  clear X0
  have kpos : 0 ≤ (1 + (sumN x0 x0.length : Int)) := by omega
  go_wp2_with fail
  refine (eqIntSS _ _ _ _ (frmG x0) _ _ HSL.out _ (G.out.lt.lt le_w4) (V.out.lt le_w2)).mono ?_
  rintro e w9 ⟨rfl, hq9⟩
  have hb9 : Below w8.heap.size w8 w9 := by obtain ⟨n, rfl⟩ := hq9; exact below_drewN (Below.refl _ _) n
  replace G := Lib.hid (G.out.below (hb9.mono le_w4))
  replace R0 := Lib.hid (keepRows (hb9.mono le_w) R0.out)
  replace V := Lib.hid (keepRows (hb9.mono le_w2) V.out)
  replace le_w := Nat.le_trans le_w hb9.size
  replace le_w1 := Nat.le_trans le_w1 hb9.size
  replace le_w2 := Nat.le_trans le_w2 hb9.size
  replace le_w3 := Nat.le_trans le_w3 hb9.size
  replace le_w4 := Nat.le_trans le_w4 hb9.size
  replace le_w5 := Nat.le_trans le_w5 hb9.size
  replace le_w6 := Nat.le_trans le_w6 hb9.size
  replace BEL0 := Lib.hid (belT BEL0.out hb9)
  clear hq9 hb9
  go_wp2_with fail
  refine (markIntSS _ _ (frmG x0) _ _ 1 (by omega) (by omega) (by omega) (by omega) _ G.out).mono ?_
  rintro e w10 ⟨rfl, hf10, ho10⟩
  replace G := Lib.hid ho10
  replace R0 := Lib.hid (keepRows (hf10.below (by omega)) R0.out)
  replace V := Lib.hid (keepRows (hf10.below (by omega)) V.out)
  have hz10 := hf10.size
  replace le_w : w.heap.size ≤ w10.heap.size := by omega
  replace le_w1 : w1.heap.size ≤ w10.heap.size := by omega
  replace le_w2 : w2.heap.size ≤ w10.heap.size := by omega
  replace le_w3 : w3.heap.size ≤ w10.heap.size := by omega
  replace le_w4 : w4.heap.size ≤ w10.heap.size := by omega
  replace le_w5 : w5.heap.size ≤ w10.heap.size := by omega
  replace le_w6 : w6.heap.size ≤ w10.heap.size := by omega
  replace BEL0 := Lib.hid (BEL0.out.trans (hf10.below (by omega)))
  clear hf10 hz10 ho10
  have zz : ((1 + (sumN (frmG x0) (frmG x0).length : Int)) != (1 + (sumN (frmG x0) (frmG x0).length : Int))) = false := by simp
  go_wp2_with fail
  refine (heldIntSS _ _ (frmG x0) _ 1 (by omega) (by omega) (by omega) (by omega) _ G.out.rows2).mono ?_
  rintro e wz ⟨rfl, rfl⟩
  have o_w6_w10 : w6.heap.size ≤ w10.heap.size := le_w6
  have le_w10 : w10.heap.size ≤ w10.heap.size := Nat.le_refl _
  go_wp2_with fail
  refine (toIntSS A0 c0 x0 t0 HM0.out _ (Lib.hid (R0.out.lt le_w)).out).mono ?_
  rintro e w11 ⟨rfl, hL11⟩
  have Q0 := Lib.hid (Laid.own hL11 HN0.out)
  have hb11 := NewRows.bel hL11
  replace G := Lib.hid (G.out.below (hb11.mono le_w4))
  replace R0 := Lib.hid (keepRows (hb11.mono le_w) R0.out)
  replace V := Lib.hid (keepRows (hb11.mono le_w2) V.out)
  replace le_w := Nat.le_trans le_w hb11.size
  replace le_w1 := Nat.le_trans le_w1 hb11.size
  replace le_w2 := Nat.le_trans le_w2 hb11.size
  replace le_w3 := Nat.le_trans le_w3 hb11.size
  replace le_w4 := Nat.le_trans le_w4 hb11.size
  replace le_w5 := Nat.le_trans le_w5 hb11.size
  replace le_w6 := Nat.le_trans le_w6 hb11.size
  replace le_w10 := Nat.le_trans le_w10 hb11.size
  replace BEL0 := Lib.hid (belT BEL0.out hb11)
  have o_w10_w11 : w10.heap.size ≤ w11.heap.size := le_w10
  have le_w11 : w11.heap.size ≤ w11.heap.size := Nat.le_refl _
  clear hb11 hL11
  go_wp2_with fail
  refine (I.frm _ _ x0 l0 _ (Q0.out.lt.lt le_w11)).mono ?_
  rintro e w12 ⟨TH, cH, rfl, hb12, ho12⟩
  have H := Lib.hid ho12
  replace G := Lib.hid (G.out.below (hb12.mono le_w4))
  replace Q0 := Lib.hid (Q0.out.below (hb12.mono le_w11))
  replace R0 := Lib.hid (keepRows (hb12.mono le_w) R0.out)
  replace V := Lib.hid (keepRows (hb12.mono le_w2) V.out)
  replace le_w := Nat.le_trans le_w hb12.size
  replace le_w1 := Nat.le_trans le_w1 hb12.size
  replace le_w2 := Nat.le_trans le_w2 hb12.size
  replace le_w3 := Nat.le_trans le_w3 hb12.size
  replace le_w4 := Nat.le_trans le_w4 hb12.size
  replace le_w5 := Nat.le_trans le_w5 hb12.size
  replace le_w6 := Nat.le_trans le_w6 hb12.size
  replace le_w10 := Nat.le_trans le_w10 hb12.size
  replace le_w11 := Nat.le_trans le_w11 hb12.size
  replace BEL0 := Lib.hid (belT BEL0.out hb12)
  have o_w11_w12 : w11.heap.size ≤ w12.heap.size := le_w11
  have le_w12 : w12.heap.size ≤ w12.heap.size := Nat.le_refl _
  clear hb12 ho12
  clear Q0
  go_wp2_with fail
  refine (eqIntSS _ _ _ _ (frmG x0) _ _ HSL.out _ (H.out.lt.lt le_w12) (V.out.lt le_w2)).mono ?_
  rintro e w13 ⟨rfl, hq13⟩
  have hb13 : Below w12.heap.size w12 w13 := by obtain ⟨n, rfl⟩ := hq13; exact below_drewN (Below.refl _ _) n
  replace G := Lib.hid (G.out.below (hb13.mono le_w4))
  replace H := Lib.hid (H.out.below (hb13.mono le_w12))
  replace R0 := Lib.hid (keepRows (hb13.mono le_w) R0.out)
  replace V := Lib.hid (keepRows (hb13.mono le_w2) V.out)
  replace le_w := Nat.le_trans le_w hb13.size
  replace le_w1 := Nat.le_trans le_w1 hb13.size
  replace le_w2 := Nat.le_trans le_w2 hb13.size
  replace le_w3 := Nat.le_trans le_w3 hb13.size
  replace le_w4 := Nat.le_trans le_w4 hb13.size
  replace le_w5 := Nat.le_trans le_w5 hb13.size
  replace le_w6 := Nat.le_trans le_w6 hb13.size
  replace le_w10 := Nat.le_trans le_w10 hb13.size
  replace le_w11 := Nat.le_trans le_w11 hb13.size
  replace le_w12 := Nat.le_trans le_w12 hb13.size
  replace BEL0 := Lib.hid (belT BEL0.out hb13)
  clear hq13 hb13
  clear H
  clear V
  go_wp2_with fail
  refine (heldIntSS _ _ (frmG x0) _ 1 (by omega) (by omega) (by omega) (by omega) _ G.out.rows2).mono ?_
  rintro e wz ⟨rfl, rfl⟩
  go_wp2_with fail
  go_ret
  exact Adds.of rfl BEL0.out

end Go.Proofs.Ytanfefgigepdcaa
