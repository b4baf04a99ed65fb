/- The walks of the program's functions on fair games: what the laws ask of them. -/
import Derived.Test.YtanfefgigepdcaaPlaI
import Derived.Test.YtanfefgigepdcaaOE
import Derived.Test.YtanfefgigepdcaaOD
namespace Go.Proofs.Ytanfefgigepdcaa
set_option linter.unusedSimpArgs false
set_option linter.unusedVariables false
open Go.RowKit Go.Shelf

set_option maxHeartbeats 2000000 in
theorem place_impl (c d : Int) (w : World) : Calls Try.prog 22 #[.int .i64 c, .int .i64 d] w (NewTable w (plaG c d)) := by
  rcases hb : plaB c d with _ | _
  · have H1 := Lib.hid (pla_no hb).1
    have HB := Lib.hid hb
    clear hb
    rw [H1.out]
    go_enter Try.func22, Try.ntmps22
    go_wp2_with (go_at_call 60; refine (placingOkI _ _ _).mono ?_; rintro e w1 ⟨rfl, rfl⟩; rw [HB.out])
    go_ret
    exact ⟨none, 0, rfl, Below.refl _ _, fun h0 => absurd h0 (by simp)⟩
  · obtain ⟨s, f, rfl, rfl, h1, h2, h3, h4⟩ := pla_nat hb
    have hpv : plaG (s : Int) (f : Int) = plaT s f := by unfold plaG; rw [if_pos hb]; rfl
    have hlen := (pla_facts h1 h2 h3 h4).1
    have HB := Lib.hid hb
    have HCL : Hid (∀ (w2 : World) (b1 b2 : Nat), Cell1 w2 b1 3 (.int .i64 (f : Int)) → Cell1 w2 b2 3 (.int .i64 (s : Int)) →
        Calls Try.prog 61 #[.func (.func 95) #[] #[.pointer (some ⟨b1, 0, none⟩), .pointer (some ⟨b2, 0, none⟩)]] w2 (NewTableD w2 (plaT s f))) := fun w2 b1 b2 z1 z2 => by
      have ef : f - 1 + 1 = f := by omega
      rw [← ef] at z1
      refine collectG _ _ _ _ w2 w2 (placIter (f - 1) s (by omega) h2 w2 b1 b2 z1 z2) (enters_of Try.func95 (by kernel_rfl) rfl) (Lies.refl _ _) (fun k hk => ?_) (by show (plaT s f).length ≤ _; omega) (fun x hx => ?_)
      · rcases hk with e | e
        · rw [e]; exact z1.lt
        · rw [e]; exact z2.lt
      · have := pla_len (f := f - 1) (s := s) (by omega) h2 hx; omega
    rw [hpv]
    clear hb hpv hlen
    go_enter Try.func22, Try.ntmps22
    go_wp2_with (first | (go_at_call 60; refine (placingOkI _ _ _).mono ?_; rintro e w1 ⟨rfl, rfl⟩; rw [HB.out]) | (go_at_call 62; refine (placingsOnI _ _ _).mono ?_; rintro e w2 ⟨b1, b2, rfl, hb2, z1, z2, -, -⟩; have HB2 := Lib.hid hb2; have HZ := Lib.hid (And.intro z1 z2); clear hb2 z1 z2) | (go_at_call 61; refine (HCL.out _ b1 b2 HZ.out.1 HZ.out.2).mono ?_; rintro e w3 h3'; obtain ⟨T, ct, rfl, hb3, ho3⟩ := h3'.plain))
    go_ret
    exact ⟨T, ct, rfl, belT HB2.out hb3, ho3.more HB2.out.size (Nat.le_refl _)⟩

theorem impl10 : Impl10 where
  fair := fun A c g hl w h => fair_impl A c g hl w h
  place := fun c d _ _ w => place_impl c d w
  sold := fun c d _ _ w => sold_impl c d (fun w' => place_impl c d w') w
  beat := fun c hwf w => beat_impl c hwf w
  frm := fun A c g hl w h => frm_impl A c g hl w h

end Go.Proofs.Ytanfefgigepdcaa
