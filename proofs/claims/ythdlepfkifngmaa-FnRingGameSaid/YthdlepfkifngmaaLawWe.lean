/- The walk of the law of RingGame, over contracts of the program's functions. (Written by wip/gen/law7.py.) -/
import Derived.Test.YthdlepfkifngmaaLawWa
import Derived.Test.YthdlepfkifngmaaMO
import Derived.Test.YthdlepfkifngmaaMI
import Derived.Test.YthdlepfkifngmaaExactWb
namespace Go.Proofs.Ythdlepfkifngmaa
set_option linter.unusedSimpArgs false
set_option linter.unusedVariables false
open Go.RowKit

theorem ring_frac {c d : Int} (h : winB c d = true) : ofB d c = true ∧ ofU d c = lowU d c ∧ ofD d c = lowD d c ∧ lessB (lowU d c) (lowD d c) 1 (winV c d) = false := by
  have hc := winB_iff.1 h
  have hw := win_facts h
  have hr := rin_facts h
  have hok : okB (lowU d c) (lowD d c) = true := low_okB (by omega) (by omega) (by omega) (by omega)
  have hok1 : okB 1 (winV c d) = true := okB_iff.2 ⟨by omega, by omega, hw.lo, by have := hw.hi; omega, by unfold gcdI; simp⟩
  have hb : ofB d c = true := by
    unfold ofB inR; simp; omega
  refine ⟨hb, by simp [ofU, hb], by simp [ofD, hb], ?_⟩
  rw [lessB_ok hok hok1]
  have := hr.less
  exact decide_eq_false (by omega)

set_option maxHeartbeats 4000000 in
set_option maxRecDepth 100000 in
theorem wFnRingGame (I : Impl7) (a : Option Addr) (len cap : Nat) (zs : List Int) (w : World) (h : IsRow .u8 w a len cap zs) :
    Calls Try.prog 7 #[.slice a len cap] w fun e w' => e = .returned (.bool true) ∧ Below w.heap.size w w' := by
  have hle := byte_len h
  by_cases hbig : (1048576 : Int) < (len : Int)
  · go_enter Try.func7, Try.ntmps7
    go_wp2_with fail
    go_ret
    exact ⟨rfl, Below.refl _ _⟩
  go_enter Try.func7, Try.ntmps7
  go_wp2_with fail
  refine (dDrawRingGame a len cap zs w h).mono ?_
  rintro e w1 ⟨c, d, rfl, ⟨p1, p2, p3, p4⟩, hb1⟩
  clear hbig hle
  have BEL0 := Lib.hid hb1
  have f1 := wf_small (x := c) (by omega) (by omega)
  have f2 := wf_small (x := d) (by omega) (by omega)
  clear hb1
  have hgl : (rinG c d).length ≤ maxLen := small_max (by have := (rinG_len c d).1; omega)
  go_wp2_with fail
  refine (I.ring c d f1 f2 _).mono ?_
  rintro e w2 ⟨TX0, cX0, rfl, hb2, ho2⟩
  have X0 := Lib.hid ho2.lt
  replace BEL0 := Lib.hid (belT BEL0.out hb2)
  clear hb2 ho2
  go_wp2_with fail
  refine (rinGame_spec c d _).mono ?_
  rintro e w3 ⟨TY0, cY0, rfl, hb3, ho3⟩
  have Y0 := Lib.hid ho3.lt
  replace X0 := Lib.hid (stillRows X0.out hb3)
  replace BEL0 := Lib.hid (belT BEL0.out hb3)
  clear hb3 ho3
  go_wp2_with fail
  refine (sameRows _ _ _ _ (rinG c d) _ _ hgl _ X0.out Y0.out).mono ?_
  rintro e w4 ⟨rfl, hq4⟩
  have hb4 : Below w3.heap.size w3 w4 := by obtain ⟨n, rfl⟩ := hq4; exact below_drewN (Below.refl _ _) n
  replace X0 := Lib.hid (stillRows X0.out hb4)
  replace Y0 := Lib.hid (stillRows Y0.out hb4)
  replace BEL0 := Lib.hid (belT BEL0.out hb4)
  clear hq4 hb4
  clear Y0
  rcases hb : winB c d with _ | _
  · skip
    have HN := Lib.hid (win_no hb)
    clear hb
    have HZ : Hid ((rinG c d).length = 0) := by rw [HN.out.2.1]; rfl
    have zz : (((rinG c d).length : Int) == 0) = true := by rw [HZ.out]; rfl
    have hv := HN.out.2.2.1
    go_wp2_with fail
    refine (I.wins c d f1 f2 _).mono ?_
    rintro e w5 ⟨rfl, hb5⟩
    replace X0 := Lib.hid (stillRows X0.out hb5)
    replace BEL0 := Lib.hid (belT BEL0.out hb5)
    clear hb5
    rw [hv]
    clear hv
    go_wp2_with fail
    refine (alive _).mono ?_
    rintro e w9 ⟨rfl, hb9⟩
    have hb8 := Lib.hid (belT (w := w5) (by exact (by repeat (first | exact Below.refl _ _ | assumption | exact bel1 (by assumption) | exact bel2 (by assumption) | exact bel3 (by assumption) | exact bel4 (by assumption) | refine Below.drew ?_ | refine below_drewN ?_ _ | refine Below.setCell ?_ (by first | (simp; done) | (simp; omega)) _ | refine Below.alloc ?_ (by first | (simp; done) | (simp; omega)) _))) hb9)
    clear hb9
    go_wp2_with fail
    go_ret
    exact ⟨by first | rfl | (simp; done) | (simp; omega), belT BEL0.out hb8.out⟩
  have HF := Lib.hid (win_facts hb)
  have hcd := winB_iff.1 hb
  obtain ⟨M, rfl⟩ : ∃ M : Nat, c = (M : Int) := ⟨c.toNat, by omega⟩
  have HR := Lib.hid (rin_facts hb)
  have HC := Lib.hid (ring_frac hb)
  have HSET : Hid (setB (rinG M d) (List.replicate M (1 : Int)) (List.replicate M (1 : Int)) = true) := HR.out.set
  have HSAF : Hid (safB (rinG M d) (List.replicate M (1 : Int)) = true ∧ safU (rinG M d) (List.replicate M (1 : Int)) = lowU d M ∧ safD (rinG M d) (List.replicate M (1 : Int)) = lowD d M) := ⟨HR.out.saf, HR.out.up, HR.out.down⟩
  have zz : (((rinG M d).length : Int) == 0) = false := by rw [beq_eq_false_iff_ne, HR.out.many]; omega
  clear hb
  obtain ⟨i0, hi0, hz0, hz1, hz2⟩ := info_parts infoI
  have HI0 := Lib.hid hi0
  have HZ0 := Lib.hid hz0
  have HZ1 := Lib.hid hz1
  have HZ2 := Lib.hid hz2
  clear hi0 hz0 hz1 hz2
  have G0 : Hid (Grows (w4.alloc (.cells #[] 3)) w4.heap.size (.slice (some ⟨w4.heap.size, 0, none⟩) 0 0) (List.replicate 0 1)) := Grows.lit w4 (Nat.le_refl _)
  have HB0 : Hid (Below w4.heap.size w4 (w4.alloc (.cells #[] 3))) := (Below.refl _ _).alloc (Nat.le_refl _) _
  go_wp2_with fail
  go_loopw [6, 7] (fun v i wr => ∃ k : Nat, k ≤ M ∧ i = .int .i64 (k : Int) ∧ Hid (Grows wr w4.heap.size v (List.replicate k 1)) ∧ Hid (Below w4.heap.size w4 wr)) (fun _ i _ => M - (intOf i).toNat)
  case atStart => exact ⟨0, Nat.zero_le _, rfl, G0, HB0⟩
  case round =>
    obtain ⟨k, hk, rfl, HO, HV⟩ := hrel
    have hlk : (List.replicate k (1 : Int)).length = k := List.length_replicate
    by_cases hlt : (k : Int) < (M : Int)
    · have hvs := HV.out.size
      go_wp2_with (at_builtin; refine wpList_append_own_at _ rfl (.tmp 45) (.tmp 46) _ rfl w4.heap.size 3 i0 (.int .i64 0) 1 8 Try.underlying36 HI0.out HZ0.out HZ1.out HZ2.out rfl (by decide) _ (List.replicate k (1 : Int)).length (vals (List.replicate k 1)) rfl (HO.out.alloc _) ⟨wr.heap.size, 0, none⟩ 1 1 [.int .i64 1] rfl rfl (cell_one_new _ _ _) ?c2 ?c3 ?c4 ?c5 ?_)
      case c2 => first | rfl | (intro u hu; simp at hu; subst hu; rfl)
      case c3 => rw [hlk]; unfold maxLen; omega
      case c4 => rw [hlk]; omega
      case c5 => first | omega | (simp; omega)
      intro v' w6 hown hgrow _ _
      have HN : Hid (Grows w6 w4.heap.size v' (List.replicate (k + 1) 1)) := by rw [show List.replicate (k + 1) (1 : Int) = List.replicate k 1 ++ [1] from List.replicate_succ']; exact Grows.snoc (by first | exact hown | (rw [hlk]; exact hown))
      have HV2 : Hid (Below w4.heap.size w4 w6) := HO.out.below hgrow HV.out (Nat.le_refl _) hvs
      clear hown hgrow
      go_wp2_with fail
      go_roundw
      case rel => exact ⟨k + 1, by omega, by go_num, HN, HV2⟩
      case measure => first | (simp [intOf]; done) | (simp [intOf]; omega) | omega
    · have hkM : k = M := by omega
      rw [hkM] at HO
      obtain ⟨A9, c9, hv9, _, ho9⟩ := HO.out.own
      subst hv9
      have RB := Lib.hid (own_lt ho9)
      clear ho9 HO hlk
      have hbV := HV.out
      clear HV
      replace X0 := Lib.hid (stillRows X0.out hbV)
      replace BEL0 := Lib.hid (belT BEL0.out hbV)
      clear hbV
      rw [List.length_replicate]
      have hrl : (List.replicate M (1 : Int)).length = M := List.length_replicate
      have HSF : Hid (∀ w' : World, Below wr.heap.size wr w' → Calls Try.prog 28 #[.slice TX0 (rinG M d).length cX0, .slice A9 M c9] w' (Adds (FracRes (lowU d M) (lowD d M) true) w')) := fun w' hb => by
        have := safe_impl TX0 A9 cX0 c9 (rinG M d) (List.replicate M (1 : Int)) hgl (by omega) w' (stillRows X0.out hb) (stillInts RB.out hb)
        rwa [hrl, HSAF.out.1, HSAF.out.2.1, HSAF.out.2.2] at this
      have HST : Hid (∀ w' : World, Rows2 w' (· < w'.heap.size) TX0 (rinG M d) → Ints w' (· < w'.heap.size) A9 (List.replicate M (1 : Int)) → Calls Try.prog 32 #[.slice TX0 (rinG M d).length cX0, .slice A9 M c9, .slice A9 M c9] w' (Adds (.bool true) w')) := fun w' h1 h2 => by
        have := set_impl TX0 A9 A9 cX0 c9 c9 (rinG M d) (List.replicate M (1 : Int)) (List.replicate M (1 : Int)) hgl (by omega) (by omega) w' h1 h2 h2
        rwa [hrl, HSET.out] at this
      clear hrl
      go_wp2_with fail
      refine (HSF.out _ (Below.refl _ _)).mono ?_
      rintro e w11 ⟨rfl, hb11⟩
      clear HSF
      replace X0 := Lib.hid (stillRows X0.out hb11)
      replace RB := Lib.hid (stillInts RB.out hb11)
      replace BEL0 := Lib.hid (belT BEL0.out hb11)
      clear hb11
      try unfold FracRes
      go_wp2_with fail
      obtain ⟨WFA, hWFA⟩ : ∃ WFA : World, WFA = w11.alloc (.cells #[.int .i64 (lowU d M), .int .i64 (lowD d M)] 31) := ⟨_, rfl⟩
      have hbWFA : Below w11.heap.size w11 WFA := by rw [hWFA]; exact (Below.refl _ _).alloc (Nat.le_refl _) _
      have FA : Hid (Box2 WFA w11.heap.size (lowU d M) (lowD d M)) := by show Box2 _ _ _ _; rw [hWFA]; exact Box2.new _ _ _
      rw [← hWFA]
      clear hWFA
      replace X0 := Lib.hid (stillRows X0.out hbWFA)
      replace RB := Lib.hid (stillInts RB.out hbWFA)
      replace BEL0 := Lib.hid (belT BEL0.out hbWFA)
      clear hbWFA
      have cFA0 := FA.out.c0
      have cFA1 := FA.out.c1
      have lFA := FA.out.lt
      go_wp2_with fail
      refine (of_impl d M _).mono ?_
      rintro e w12 ⟨rfl, hb12⟩
      rw [HC.out.1, HC.out.2.1, HC.out.2.2.1]
      clear cFA0 cFA1
      clear lFA
      replace X0 := Lib.hid (stillRows X0.out hb12)
      replace RB := Lib.hid (stillInts RB.out hb12)
      replace FA := Lib.hid (FA.out.still hb12)
      replace BEL0 := Lib.hid (belT BEL0.out hb12)
      clear hb12
      have cFA0 := FA.out.c0
      have cFA1 := FA.out.c1
      have lFA := FA.out.lt
      go_wp2_with fail
      obtain ⟨WFB, hWFB⟩ : ∃ WFB : World, WFB = w12.alloc (.cells #[.int .i64 (lowU d M), .int .i64 (lowD d M)] 31) := ⟨_, rfl⟩
      have hbWFB : Below w12.heap.size w12 WFB := by rw [hWFB]; exact (Below.refl _ _).alloc (Nat.le_refl _) _
      have FB : Hid (Box2 WFB w12.heap.size (lowU d M) (lowD d M)) := by show Box2 _ _ _ _; rw [hWFB]; exact Box2.new _ _ _
      rw [← hWFB]
      clear hWFB
      replace X0 := Lib.hid (stillRows X0.out hbWFB)
      replace RB := Lib.hid (stillInts RB.out hbWFB)
      replace FA := Lib.hid (FA.out.still hbWFB)
      replace BEL0 := Lib.hid (belT BEL0.out hbWFB)
      clear hbWFB
      clear cFA0 cFA1
      clear lFA
      have sFA0 := stays FA.out.lt FA.out.c0
      have sFA1 := stays FA.out.lt FA.out.c1
      have sFB0 := stays FB.out.lt FB.out.c0
      have sFB1 := stays FB.out.lt FB.out.c1
      have HW : Hid (∀ w', Calls Try.prog 17 #[.int .i64 M, .int .i64 d] w' (Adds (.int .i64 (winV M d)) w')) := fun w' => I.wins M d f1 f2 w'
      have HLS : Hid (∀ w', Calls Try.prog 37 #[.agg #[.int .i64 (lowU d M), .int .i64 (lowD d M)], .agg #[.int .i64 1, .int .i64 (winV M d)]] w' (Adds (.bool false) w')) := fun w' => by
        have := less_impl (lowU d M) (lowD d M) 1 (winV M d) w'
        rwa [HC.out.2.2.2] at this
      have zU : (lowU d M == lowU d M) = true := by simp
      have zD : (lowD d M == lowD d M) = true := by simp
      have HS2 : Hid (∀ w' : World, Below WFB.heap.size WFB w' → Calls Try.prog 32 #[.slice TX0 (rinG M d).length cX0, .slice A9 M c9, .slice A9 M c9] w' (Adds (.bool true) w')) := fun w' hb => HST.out w' (stillRows X0.out hb) (stillInts RB.out hb)
      go_region_held3 (fun w' => Below WFB.heap.size WFB w')
        (first | exact Below.refl _ _ | exact Below.drew (Below.refl _ _) | (refine Below.drew ?_; assumption) | exact belT (by assumption) (by assumption) | assumption)
        (first | (go_at_call 32; refine (HS2.out _ (by first | exact Below.refl _ _ | exact Below.drew (Below.refl _ _) | (refine Below.drew ?_; assumption) | exact belT (by assumption) (by assumption) | assumption)).mono ?_; rintro e w21 ⟨rfl, hb21⟩) | (go_at_call 17; refine (HW.out _).mono ?_; rintro e w22 ⟨rfl, hb22⟩) | (go_at_call 37; refine (HLS.out _).mono ?_; rintro e w23 ⟨rfl, hb23⟩))
      go_wp2_with fail
      go_ret
      exact ⟨by simp, belT BEL0.out (by assumption)⟩

end Go.Proofs.Ythdlepfkifngmaa
