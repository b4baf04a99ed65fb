/- The walk of the law on the text of a fraction. -/
import Derived.Test.YtijlednmagdpgaaDoorTextMore
namespace Go.Proofs.YtijlednmagdpgaaDoor
set_option linter.unusedSimpArgs false
set_option linter.unusedVariables false
open Go.RowKit

theorem text_impl_v (u d : Int) (l : List UInt8) (h : txt u d = l) (w : World) (htab : Lib.TabIs Tryd.prog w "internal/strconv.uint64pow10" .u64 Lib.pow10Tab) :
    Calls Tryd.prog 6 #[.agg #[.int .i64 u, .int .i64 d]] w fun e w' => e = .returned (.string ⟨l.toArray⟩) ∧ Below w.heap.size w w' := by
  subst h; exact text_impl u d w htab
theorem text_spec_v (u d : Int) (l : List UInt8) (h : txt u d = l) (w : World) :
    Calls Tryd.prog 7 #[.agg #[.int .i64 u, .int .i64 d]] w fun e w' => e = .returned (.string ⟨l.toArray⟩) ∧ Below w.heap.size w w' := by
  subst h; exact text_spec u d w

set_option maxHeartbeats 1000000 in
theorem wFnFracText (a : Option Addr) (len cap : Nat) (zs : List Int) (w : World) (h : IsRow .u8 w a len cap zs) (htab : Lib.TabIs Tryd.prog w "internal/strconv.uint64pow10" .u64 Lib.pow10Tab) :
    Calls Tryd.prog 3 #[.slice a len cap] w fun e w' => e = .returned (.bool true) ∧ Below w.heap.size w w' := by
  have T0 := Lib.hid htab
  clear htab
  go_enter Tryd.func3, Tryd.ntmps3
  go_wp2_with fail
  · go_ret
    exact ⟨rfl, Below.refl _ _⟩
  rename (len : Int) ≤ 1048576 => hbig
  clear hbig
  refine (dDrawFracText a len cap zs _ h).mono ?_
  intro e w1 hP
  obtain ⟨u, d, rfl, hu1, hu2, hd1, hd2, hb1⟩ := hP
  have T1 := Lib.hid (tab_on T0.out hb1)
  go_wp2_with fail
  obtain ⟨W, hW⟩ : ∃ W : World, W = (w1.alloc (.cells #[.int .i64 u, .int .i64 d] 24)) := ⟨_, rfl⟩
  have hz : W.heap.size = w1.heap.size + 1 := by rw [hW]; simp
  have hbW : Below w1.heap.size w1 W := by rw [hW]; exact (by repeat (first | exact Below.refl _ _ | assumption | exact bel1 (by assumption) | exact bel2 (by assumption) | exact bel3 (by assumption) | exact bel4 (by assumption) | refine Below.drew ?_ | refine below_drewN ?_ _ | refine Below.setCell ?_ (by first | (simp; done) | (simp; omega)) _ | refine Below.alloc ?_ (by first | (simp; done) | (simp; omega)) _))
  have r0 := stays (p := w1.heap.size) (o := 0) (by omega) (show W.cell? ⟨w1.heap.size, 0, none⟩ = some (.int .i64 u) from by rw [hW]; simp [go_sem])
  have r1 := stays (p := w1.heap.size) (o := 1) (by omega) (show W.cell? ⟨w1.heap.size, 1, none⟩ = some (.int .i64 d) from by rw [hW]; simp [go_sem])
  rw [← hW]
  clear hW
  have Hz := Lib.hid hz
  clear hz
  have TW := Lib.hid (tab_on T1.out hbW)
  have hkW := Lib.hid (belT hb1 hbW)
  clear hb1 hbW
  rcases hB : okB u d with _ | _
  · have Hf := txt_none hB
    refine (text_impl_v _ _ _ Hf _ TW.out).mono ?_
    rintro e w2 ⟨rfl, hb2⟩
    go_wp2_with fail
    refine (text_spec_v _ _ _ Hf _).mono ?_
    rintro e w3 ⟨rfl, hb3⟩
    have k3 := belT hb2 hb3
    go_wp2_with fail
    refine (fracOk_impl_v _ _ _ hB _).mono ?_
    rintro e w4 ⟨rfl, hb4⟩
    have k4 := belT k3 hb4
    go_wp2_with fail
    refine (alive _).mono ?_
    rintro e w5 ⟨rfl, hb5⟩
    have k5 := belT hkW.out (belT k4 hb5)
    go_wp2_with fail
    go_ret
    exact ⟨rfl, k5⟩
  · obtain ⟨c, l, Hf, hc⟩ := txt_head hB
    refine (text_impl_v _ _ _ Hf _ TW.out).mono ?_
    rintro e w2 ⟨rfl, hb2⟩
    go_wp2_with fail
    refine (text_spec_v _ _ _ Hf _).mono ?_
    rintro e w3 ⟨rfl, hb3⟩
    have k3 := belT hb2 hb3
    clear hb2 hb3
    have hcz : ((c.toNat : Int) == 45) = decide (u < 0) := by
      rw [Bool.eq_iff_iff]; simp; omega
    have e32 := txt_eq32 u d
    rw [Hf] at e32
    clear Hf hc
    by_cases he : u = 3 ∧ d = 2
    · have hl := e32.1 he
      obtain ⟨rfl, rfl⟩ := he
      obtain ⟨rfl, rfl⟩ := List.cons.inj hl
      clear hcz e32 hl
      have hidx : ∀ h : 0 < (⟨#[51, 47, 50]⟩ : ByteArray).size, (((⟨#[51, 47, 50]⟩ : ByteArray)[0]'h).toNat : Int) = 51 := fun _ => rfl
      go_wp2_with fail
      go_region_held3 (fun w' => Below W.heap.size W w')
        (first | exact Below.refl _ _ | exact Below.drew (Below.refl _ _) | (refine Below.drew ?_; assumption) | exact belT (by assumption) (by assumption) | assumption)
        (first | (go_at_call 6; refine (text_impl_v 3 2 _ txt_32 _ (tab_on TW.out (by first | assumption | exact Below.drew (by assumption)))).mono ?_; rintro e w4 ⟨rfl, hb4⟩))
      go_wp2
      have hq : Below W.heap.size W w4 := by assumption
      have hk := belT hkW.out hq
      go_ret
      exact ⟨rfl, hk⟩
    · have hl : ¬ c :: l = [51, 47, 50] := fun e => he (e32.2 e)
      have hidx : ∀ h : 0 < (⟨(c :: l).toArray⟩ : ByteArray).size, (⟨(c :: l).toArray⟩ : ByteArray)[0]'h = c := fun _ => rfl
      clear e32
      by_cases hn : u < 0
      · have hcc : (c.toNat : Int) = 45 := by simpa [hn] using hcz
        have hc6 : (c == 51) = false := by
          simp; intro e; subst e; revert hcc; decide
        have hu3 : ¬ u = 3 := by omega
        clear hcz he hl
        go_wp2_with fail
        go_region_held3 (fun w' => Below W.heap.size W w')
          (first | exact Below.refl _ _ | exact Below.drew (Below.refl _ _) | (refine Below.drew ?_; assumption) | exact belT (by assumption) (by assumption) | assumption)
          (first | (go_at_call 6; refine (text_impl_v 3 2 _ txt_32 _ (tab_on TW.out (by first | assumption | exact Below.drew (by assumption)))).mono ?_; rintro e w4 ⟨rfl, hb4⟩))
        go_wp2
        have hq : Below W.heap.size W w4 := by assumption
        have hk := belT hkW.out hq
        go_ret
        exact ⟨rfl, hk⟩
      · have hcm : ((c.toNat : Int) == 45) = false := by rw [hcz]; simpa using hn
        have hcn : ¬ (c.toNat : Int) = 45 := by simpa using hcm
        have hn0 : 0 ≤ u := by omega
        clear hcz
        by_cases hu3 : u = 3
        · subst hu3
          have hd3 : ¬ d = 2 := fun e => he ⟨rfl, e⟩
          clear he
          by_cases hc5 : c = 51
          · subst hc5
            have hl1 : (l == [47, 50]) = false := by simpa using hl
            have h51 : ((51 : UInt8).toNat : Int) = 51 := rfl
            clear hl hcn hcm
            go_wp2_with fail
            go_region_held3 (fun w' => Below W.heap.size W w')
              (first | exact Below.refl _ _ | exact Below.drew (Below.refl _ _) | (refine Below.drew ?_; assumption) | exact belT (by assumption) (by assumption) | assumption)
              (first | (go_at_call 6; refine (text_impl_v 3 2 _ txt_32 _ (tab_on TW.out (by first | assumption | exact Below.drew (by assumption)))).mono ?_; rintro e w4 ⟨rfl, hb4⟩))
            go_wp2
            have hq : Below W.heap.size W w4 := by assumption
            have hk := belT hkW.out hq
            go_ret
            exact ⟨rfl, hk⟩
          · have hc6 : (c == 51) = false := by simpa using hc5
            clear hl hc5
            go_wp2_with fail
            go_region_held3 (fun w' => Below W.heap.size W w')
              (first | exact Below.refl _ _ | exact Below.drew (Below.refl _ _) | (refine Below.drew ?_; assumption) | exact belT (by assumption) (by assumption) | assumption)
              (first | (go_at_call 6; refine (text_impl_v 3 2 _ txt_32 _ (tab_on TW.out (by first | assumption | exact Below.drew (by assumption)))).mono ?_; rintro e w4 ⟨rfl, hb4⟩))
            go_wp2
            have hq : Below W.heap.size W w4 := by assumption
            have hk := belT hkW.out hq
            go_ret
            exact ⟨rfl, hk⟩
        · have hdn : decide (u < 0) = false := by simpa using hn
          clear he
          by_cases hc5 : c = 51
          · subst hc5
            have hl1 : (l == [47, 50]) = false := by simpa using hl
            have h51 : ((51 : UInt8).toNat : Int) = 51 := rfl
            clear hl hcn hcm hn hn0
            go_wp2_with fail
            go_region_held3 (fun w' => Below W.heap.size W w')
              (first | exact Below.refl _ _ | exact Below.drew (Below.refl _ _) | (refine Below.drew ?_; assumption) | exact belT (by assumption) (by assumption) | assumption)
              (first | (go_at_call 6; refine (text_impl_v 3 2 _ txt_32 _ (tab_on TW.out (by first | assumption | exact Below.drew (by assumption)))).mono ?_; rintro e w4 ⟨rfl, hb4⟩))
            go_wp2
            have hq : Below W.heap.size W w4 := by assumption
            have hk := belT hkW.out hq
            go_ret
            exact ⟨rfl, hk⟩
          · have hc6 : (c == 51) = false := by simpa using hc5
            clear hl hc5 hn hn0
            go_wp2_with fail
            go_region_held3 (fun w' => Below W.heap.size W w')
              (first | exact Below.refl _ _ | exact Below.drew (Below.refl _ _) | (refine Below.drew ?_; assumption) | exact belT (by assumption) (by assumption) | assumption)
              (first | (go_at_call 6; refine (text_impl_v 3 2 _ txt_32 _ (tab_on TW.out (by first | assumption | exact Below.drew (by assumption)))).mono ?_; rintro e w4 ⟨rfl, hb4⟩))
            go_wp2
            have hq : Below W.heap.size W w4 := by assumption
            have hk := belT hkW.out hq
            go_ret
            exact ⟨rfl, hk⟩
end Go.Proofs.YtijlednmagdpgaaDoor
