/- The walk of the law of BeatingGame, over contracts of the program's functions. (Written by wip/gen/law10.py.) -/
import Derived.Test.YtanfefgigepdcaaOD
import Derived.Test.YtanfefgigepdcaaMI
import Derived.Test.YtanfefgigepdcaaMC
import Derived.Test.YtanfefgigepdcaaOC
import Derived.Test.YtanfefgigepdcaaLawT
import Derived.Test.YtanfefgigepdcaaMA
namespace Go.Proofs.Ytanfefgigepdcaa
set_option linter.unusedSimpArgs false
set_option linter.unusedVariables false
open Go.RowKit

theorem wf_fair {z : Int} (h0 : 0 ≤ z) (h1 : z ≤ 65536) : (Lit.int .i64 z).wf = true := by simp [Lit.wf, IntKind.min, IntKind.max, IntKind.signed, IntKind.bits]; omega

theorem ring_facts {n : Nat} (hb : beatB (n : Int) = true) : fairB (beatG (n : Int)) = true ∧ setB (beatG (n : Int)) (onesL n) (onesL n) = true ∧ (n == 1) = decide (0 < (saddles (beatG (n : Int))).length) := by
  have h1 : inR (n : Int) 1 15 = true := by unfold beatB at hb; rw [Bool.and_eq_true] at hb; exact hb.1
  have h2 : ((n : Int).tmod 2 != 0) = true := by unfold beatB at hb; rw [Bool.and_eq_true] at hb; exact hb.2
  have h3 : 1 ≤ (n : Int) ∧ (n : Int) ≤ 15 := by unfold inR at h1; exact of_decide_eq_true h1
  rw [Int.tmod_eq_emod_of_nonneg (by omega), bne_iff_ne] at h2
  have hr := List.all_eq_true.1 ring_R (n / 2) (by simp; omega)
  rw [show 2 * (n / 2) + 1 = n by omega] at hr
  unfold lookR at hr
  rw [show beatG (n : Int) = beatT n by unfold beatG; rw [if_pos hb]; rfl]
  simp only [Bool.and_eq_true, beq_iff_eq] at hr
  exact ⟨hr.1, hr.2.1, hr.2.2⟩

set_option maxHeartbeats 4000000 in
set_option maxRecDepth 100000 in
theorem wFnBeatingGame (I : Impl10) (a : Option Addr) (len cap : Nat) (zs : List Int) (w : World) (h : IsRow .u8 w a len cap zs) :
    Calls Try.prog 6 #[.slice a len cap] w fun e w' => e = .returned (.bool true) ∧ Below w.heap.size w w' := by
  have hle := byte_len h
  by_cases hbig : (1048576 : Int) < (len : Int)
  · go_enter Try.func6, Try.ntmps6
    go_wp2_with fail
    go_ret
    exact ⟨rfl, Below.refl _ _⟩
  go_enter Try.func6, Try.ntmps6
  go_wp2_with fail
  refine (dDrawBeatingGame a len cap zs w h).mono ?_
  rintro e w1 ⟨x, rfl, ⟨p1, p2⟩, hb1⟩
  clear hbig hle
  have BEL0 := Lib.hid hb1
  have f1 := wf_fair (z := x) p1 (by omega)
  have hgl : (beatG x).length ≤ maxLen := small_max (by have := (beatG_len x).1; omega)
  clear hb1
  go_wp2_with fail
  refine (I.beat x f1 _).mono ?_
  rintro e w2 ⟨TX0, cX0, rfl, hb2, ho2⟩
  have X0 := Lib.hid ho2.lt
  replace BEL0 := Lib.hid (belT BEL0.out hb2)
  clear hb2 ho2
  go_wp2_with fail
  refine (beat_spec x _).mono ?_
  rintro e w3 ⟨TY0, cY0, rfl, hb3, ho3⟩
  have Y0 := Lib.hid ho3.lt
  replace X0 := Lib.hid (stillRows X0.out hb3)
  replace BEL0 := Lib.hid (belT BEL0.out hb3)
  clear hb3 ho3
  go_wp2_with fail
  refine (sameRows _ _ _ _ (beatG x) _ _ hgl _ X0.out Y0.out).mono ?_
  rintro e w4 ⟨rfl, hq4⟩
  have hb4 : Below w3.heap.size w3 w4 := by obtain ⟨n, rfl⟩ := hq4; exact below_drewN (Below.refl _ _) n
  replace X0 := Lib.hid (stillRows X0.out hb4)
  replace Y0 := Lib.hid (stillRows Y0.out hb4)
  replace BEL0 := Lib.hid (belT BEL0.out hb4)
  clear hq4 hb4
  clear Y0
  rcases hb : beatB x with _ | _
  · skip
    have HN := Lib.hid (beat_no hb)
    have zz : (((beatG x).length : Int) == 0) = true := by rw [HN.out]; rfl
    have hne : (beatG x).length = 0 := by rw [HN.out]; rfl
    have ht : 1 ≤ x → x ≤ 15 → x.tmod 2 = 0 := fun h1 h2 => by
      unfold beatB inR at hb; rw [decide_eq_true (show 1 ≤ x ∧ x ≤ 15 from ⟨h1, h2⟩), Bool.true_and] at hb; simpa using hb
    clear hb HN
    by_cases c1 : x < 1
    · skip
      clear ht
      go_wp2_with fail
      refine (alive _).mono ?_
      rintro e w9 ⟨rfl, hb9⟩
      have hb8 := Lib.hid (belT (w := w4) (by exact (by repeat (first | exact Below.refl _ _ | assumption | exact bel1 (by assumption) | exact bel2 (by assumption) | exact bel3 (by assumption) | exact bel4 (by assumption) | refine Below.drew ?_ | refine below_drewN ?_ _ | refine Below.setCell ?_ (by first | (simp; done) | (simp; omega)) _ | refine Below.alloc ?_ (by first | (simp; done) | (simp; omega)) _))) hb9)
      clear hb9
      go_wp2_with fail
      go_ret
      exact ⟨by first | rfl | (simp; done) | (simp; omega), belT BEL0.out hb8.out⟩
    by_cases c2 : 15 < x
    · skip
      clear ht
      go_wp2_with fail
      refine (alive _).mono ?_
      rintro e w9 ⟨rfl, hb9⟩
      have hb8 := Lib.hid (belT (w := w4) (by exact (by repeat (first | exact Below.refl _ _ | assumption | exact bel1 (by assumption) | exact bel2 (by assumption) | exact bel3 (by assumption) | exact bel4 (by assumption) | refine Below.drew ?_ | refine below_drewN ?_ _ | refine Below.setCell ?_ (by first | (simp; done) | (simp; omega)) _ | refine Below.alloc ?_ (by first | (simp; done) | (simp; omega)) _))) hb9)
      clear hb9
      go_wp2_with fail
      go_ret
      exact ⟨by first | rfl | (simp; done) | (simp; omega), belT BEL0.out hb8.out⟩
    have c3 : x.tmod 2 = 0 := ht (by omega) (by omega)
    clear ht
    go_wp2_with fail
    refine (alive _).mono ?_
    rintro e w9 ⟨rfl, hb9⟩
    have hb8 := Lib.hid (belT (w := w4) (by exact (by repeat (first | exact Below.refl _ _ | assumption | exact bel1 (by assumption) | exact bel2 (by assumption) | exact bel3 (by assumption) | exact bel4 (by assumption) | refine Below.drew ?_ | refine below_drewN ?_ _ | refine Below.setCell ?_ (by first | (simp; done) | (simp; omega)) _ | refine Below.alloc ?_ (by first | (simp; done) | (simp; omega)) _))) hb9)
    clear hb9
    go_wp2_with fail
    go_ret
    exact ⟨by first | rfl | (simp; done) | (simp; omega), belT BEL0.out hb8.out⟩
  have h13 : 1 ≤ x ∧ x ≤ 15 := by
    have h1 : inR x 1 15 = true := by unfold beatB at hb; rw [Bool.and_eq_true] at hb; exact hb.1
    unfold inR at h1; exact of_decide_eq_true h1
  obtain ⟨n, rfl⟩ : ∃ n : Nat, x = (n : Int) := ⟨x.toNat, by omega⟩
  have hn1 : 1 ≤ n := by omega
  have hn2 : n ≤ 15 := by omega
  have HR := Lib.hid (ring_facts hb)
  have zz : (((beatG (n : Int)).length : Int) == 0) = false := by rw [beq_eq_false_iff_ne, beat_yes hb, beatV_length]; omega
  clear hb h13
  obtain ⟨i0, hi0, hz0, hz1, hz2⟩ := info_parts infoI
  have HI0 := Lib.hid hi0
  have HZ0 := Lib.hid hz0
  have HZ1 := Lib.hid hz1
  have HZ2 := Lib.hid hz2
  clear hi0 hz0 hz1 hz2
  obtain ⟨g, hg⟩ : ∃ g, beatG (n : Int) = g := ⟨_, rfl⟩
  rw [hg] at X0 HR zz hgl ⊢
  clear hg
  have L0 : Hid (Grows (w4.alloc (.cells #[] 3)) w4.heap.size (.slice (some ⟨w4.heap.size, 0, none⟩) 0 0) (onesL 0)) := Grows.lit w4 (Nat.le_refl _)
  have L1 : Hid (Below w4.heap.size w4 (w4.alloc (.cells #[] 3))) := (Below.refl _ _).alloc (Nat.le_refl _) _
  go_wp2_with fail
  go_loopw [5, 6] (fun v i wr => ∃ k : Nat, k ≤ n ∧ i = .int .i64 k ∧ Hid (Grows wr w4.heap.size v (onesL k)) ∧ Hid (Below w4.heap.size w4 wr)) (fun _ i _ => n - (intOf i).toNat)
  case atStart => exact ⟨0, Nat.zero_le _, rfl, L0, L1⟩
  case round =>
    clear L0 L1
    obtain ⟨k, hk, rfl, HO, HV⟩ := hrel
    by_cases hlt : k < n
    · have hlen := onesL_length k
      have hs3 := HV.out.size
      go_wp2_with (at_builtin; refine wpList_append_own_at _ rfl (.tmp 42) (.tmp 43) _ rfl w4.heap.size 3 i0 (.int .i64 0) 1 8 Try.underlying31 HI0.out HZ0.out HZ1.out HZ2.out rfl (by decide) _ _ _ rfl (HO.out.alloc _) ⟨wr.heap.size, 0, none⟩ 1 1 [.int .i64 1] rfl rfl (cell_one_new _ _ _) ?c2 ?c3 ?c4 ?c5 ?_)
      case c2 => first | rfl | (intro u hu; simp at hu; subst hu; rfl)
      case c3 => rw [hlen]; unfold maxLen; omega
      case c4 => rw [hlen]; omega
      case c5 => first | omega | (simp; omega)
      intro v' w6 hown hgrow _ _
      have HN : Hid (Grows w6 w4.heap.size v' (onesL (k + 1))) := by rw [onesL_succ]; exact Grows.snoc (by rw [hlen]; exact hown)
      have HV2 : Hid (Below w4.heap.size w4 w6) := HO.out.below hgrow HV.out (Nat.le_refl _) hs3
      clear hown hgrow
      go_wp2_with fail
      go_roundw
      case rel => exact ⟨k + 1, by omega, by go_num, HN, HV2⟩
      case measure => simp [intOf]; omega
    · obtain rfl : k = n := by omega
      obtain ⟨A9, c9, hv, _, ho9⟩ := HO.out.own
      rw [onesL_length] at hv
      subst hv
      have TW := Lib.hid (own_lt ho9)
      have hol := onesL_length k
      have hbV := HV.out
      have X1 := Lib.hid ((stillRows X0.out hbV))
      have HFA : Hid (∀ w', Below wr.heap.size wr w' → Calls Try.prog 14 #[.slice TX0 g.length cX0] w' (Adds (.bool true) w')) := fun w' hb => by
        have := I.fair TX0 cX0 g hgl w' (stillRows X1.out hb); rwa [HR.out.1] at this
      have HSE : Hid (∀ w', Below wr.heap.size wr w' → Calls Try.prog 33 #[.slice TX0 g.length cX0, .slice A9 k c9, .slice A9 k c9] w' (Adds (.bool true) w')) := fun w' hb => by
        have := set_impl TX0 A9 A9 cX0 c9 c9 g (onesL k) (onesL k) hgl (by omega) (by omega) w' (stillRows X1.out hb) (stillInts TW.out hb) (stillInts TW.out hb); rwa [HR.out.2.1, hol] at this
      have HSA : Hid (∀ w', Below wr.heap.size wr w' → Calls Try.prog 34 #[.slice TX0 g.length cX0] w' (NewList w' (saddles g))) := fun w' hb => saddles_impl TX0 cX0 g hgl w' (stillRows X1.out hb)
      have BEL1 := Lib.hid (belT BEL0.out hbV)
      have h3 := HR.out.2.2
      by_cases hk1 : k = 1
      · have e1 : ((k : Int) == 1) = true := by rw [beq_iff_eq]; omega
        have e2 : 0 < (saddles g).length := by rw [show (k == 1) = true by rw [hk1]; rfl] at h3; exact of_decide_eq_true h3.symm
        clear h3 hbV HO HV TW ho9 hol hk1
        go_wp2_with (first | (go_at_call 14; refine (HFA.out _ (Below.refl _ _)).mono ?_; rintro e w5 ⟨rfl, hb5⟩) | (go_at_call 33; refine (HSE.out _ hb5).mono ?_; rintro e w6 ⟨rfl, hb6⟩) | (go_at_call 34; refine (HSA.out _ (belT hb5 hb6)).mono ?_; rintro e w7 ⟨T7, c7, rfl, hb7, ho7⟩))
        go_ret
        exact ⟨by first | (simp; done) | (simp; omega), belT BEL1.out (belT hb5 (belT hb6 hb7))⟩
      · have e1 : ((k : Int) == 1) = false := by rw [beq_eq_false_iff_ne]; omega
        have e2 : (saddles g).length = 0 := by rw [show (k == 1) = false by rw [beq_eq_false_iff_ne]; exact hk1] at h3; have := of_decide_eq_false h3.symm; omega
        clear h3 hbV HO HV TW ho9 hol
        go_wp2_with (first | (go_at_call 14; refine (HFA.out _ (Below.refl _ _)).mono ?_; rintro e w5 ⟨rfl, hb5⟩) | (go_at_call 33; refine (HSE.out _ hb5).mono ?_; rintro e w6 ⟨rfl, hb6⟩) | (go_at_call 34; refine (HSA.out _ (belT hb5 hb6)).mono ?_; rintro e w7 ⟨T7, c7, rfl, hb7, ho7⟩))
        go_ret
        exact ⟨by simp [e2], belT BEL1.out (belT hb5 (belT hb6 hb7))⟩

end Go.Proofs.Ytanfefgigepdcaa
