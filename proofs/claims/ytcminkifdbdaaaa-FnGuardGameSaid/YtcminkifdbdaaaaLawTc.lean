/- The walk of the law of GuardGame, over contracts of the program's functions. (Written by wip/gen/law9.py.) -/
import Derived.Test.YtcminkifdbdaaaaNE
import Derived.Test.YtcminkifdbdaaaaNF
import Derived.Test.YtcminkifdbdaaaaNG
import Derived.Test.YtcminkifdbdaaaaLawT
import Derived.Test.YtcminkifdbdaaaaMA
import Derived.Test.YtcminkifdbdaaaaMO
import Derived.Test.YtcminkifdbdaaaaMI
namespace Go.Proofs.Ytcminkifdbdaaaa
set_option linter.unusedSimpArgs false
set_option linter.unusedVariables false
open Go.RowKit

set_option maxHeartbeats 4000000 in
set_option maxRecDepth 100000 in
theorem wFnGuardGame (I : Impl9) (a : Option Addr) (len cap : Nat) (zs : List Int) (w : World) (h : IsRow .u8 w a len cap zs) :
    Calls Try.prog 5 #[.slice a len cap] w fun e w' => e = .returned (.bool true) ∧ Below w.heap.size w w' := by
  have hle := byte_len h
  by_cases hbig : (1048576 : Int) < (len : Int)
  · go_enter Try.func5, Try.ntmps5
    go_wp2_with fail
    go_ret
    exact ⟨rfl, Below.refl _ _⟩
  go_enter Try.func5, Try.ntmps5
  go_wp2_with fail
  refine (dDrawGuardGame a len cap zs w h).mono ?_
  rintro e w1 ⟨P, A, c, l, rfl, ⟨p1, p2⟩, ⟨hl9, hlz⟩, hlc, hb1, ho1⟩
  clear hbig hle
  have BEL0 := Lib.hid hb1
  have fP := wf_town (z := P) p1 (by omega)
  have hlm : l.length ≤ maxLen := by unfold maxLen; omega
  have L0 : Hid (Ints w1 (· < w1.heap.size) A l) := own_lt ho1
  have HLZ := Lib.hid hlz
  have fW := Lib.hid (WfL.small hlz)
  clear hb1 ho1 hlz
  unfold twnV
  obtain ⟨WB, hWB⟩ : ∃ WB : World, WB = w1.alloc (.cells #[.int .i64 P, .slice A l.length c] 25) := ⟨_, rfl⟩
  have hbWB : Below w1.heap.size w1 WB := by rw [hWB]; exact (Below.refl _ _).alloc (Nat.le_refl _) _
  have FB : Hid (BoxT WB w1.heap.size P A l.length c) := by show BoxT _ _ _ _ _ _; rw [hWB]; exact BoxT.new w1 P A l.length c
  have cX0 := FB.out.c0
  have cX1 := FB.out.c1
  rw [hWB] at cX0 cX1
  have HWB := Lib.hid hWB
  clear hWB
  go_wp2_with fail
  rw [← HWB.out]
  clear cX0 cX1
  replace L0 := Lib.hid (stillInts L0.out hbWB)
  replace BEL0 := Lib.hid (belT BEL0.out hbWB)
  clear hbWB
  have hgl : (grdI P l).length ≤ maxLen := grdI_max P l
  refine (I.game P fP A c l (by omega) fW.out _ L0.out).mono ?_
  rintro e w2 ⟨TX0, cX0, rfl, hb2, ho2⟩
  have X0 := Lib.hid ho2.lt
  replace L0 := Lib.hid (stillInts L0.out hb2)
  replace FB := Lib.hid (FB.out.still hb2)
  replace BEL0 := Lib.hid (belT BEL0.out hb2)
  clear hb2 ho2
  have cB0 := FB.out.c0
  have cB1 := FB.out.c1
  have ltB := FB.out.lt
  go_wp2_with fail
  clear cB0 cB1 ltB
  refine (guardGame_spec P A c l hlm _ L0.out).mono ?_
  rintro e w3 ⟨TY0, cY0, rfl, hb3, ho3⟩
  have Y0 := Lib.hid ho3.lt
  replace L0 := Lib.hid (stillInts L0.out hb3)
  replace FB := Lib.hid (FB.out.still hb3)
  replace X0 := Lib.hid (stillRows X0.out hb3)
  replace BEL0 := Lib.hid (belT BEL0.out hb3)
  clear hb3 ho3
  have cB0 := FB.out.c0
  have cB1 := FB.out.c1
  have ltB := FB.out.lt
  go_wp2_with fail
  clear cB0 cB1 ltB
  refine (sameRows _ _ _ _ (grdI P l) _ _ hgl _ X0.out Y0.out).mono ?_
  rintro e w4 ⟨rfl, hq4⟩
  have hb4 : Below w3.heap.size w3 w4 := by obtain ⟨n, rfl⟩ := hq4; exact below_drewN (Below.refl _ _) n
  replace L0 := Lib.hid (stillInts L0.out hb4)
  replace FB := Lib.hid (FB.out.still hb4)
  replace X0 := Lib.hid (stillRows X0.out hb4)
  replace Y0 := Lib.hid (stillRows Y0.out hb4)
  replace BEL0 := Lib.hid (belT BEL0.out hb4)
  clear hq4 hb4
  clear Y0
  rcases Nat.eq_zero_or_pos (waysI P l).length with hw0 | hw0
  · skip
    have zz : (((grdI P l).length : Int) == 0) = true := by rw [(twn_nil hw0).1]; rfl
    have cB0 := FB.out.c0
    have cB1 := FB.out.c1
    have ltB := FB.out.lt
    go_wp2_with fail
    clear cB0 cB1 ltB
    refine (I.ways P fP A c l (by omega) fW.out _ L0.out).mono ?_
    rintro e w5 ⟨TZ0, cZ0, rfl, hb5, ho5⟩
    have Z0 : Hid (Ints w5 (· < w5.heap.size) TZ0 _) := own_lt ho5
    replace L0 := Lib.hid (stillInts L0.out hb5)
    replace FB := Lib.hid (FB.out.still hb5)
    replace X0 := Lib.hid (stillRows X0.out hb5)
    replace BEL0 := Lib.hid (belT BEL0.out hb5)
    clear hb5 ho5
    have zw : (((waysI P l).length : Int) == 0) = true := by rw [hw0]; rfl
    have hwl : ((waysI P l).length : Int) = 0 := by rw [hw0]; rfl
    go_wp2_with fail
    refine (alive _).mono ?_
    rintro e w99 ⟨rfl, hb9⟩
    have hb8 := Lib.hid (belT (w := w5) (by exact (by repeat (first | exact Below.refl _ _ | assumption | exact bel1 (by assumption) | exact bel2 (by assumption) | exact bel3 (by assumption) | exact bel4 (by assumption) | refine Below.drew ?_ | refine below_drewN ?_ _ | refine Below.setCell ?_ (by first | (simp; done) | (simp; omega)) _ | refine Below.alloc ?_ (by first | (simp; done) | (simp; omega)) _))) hb9)
    clear hb9
    go_wp2_with fail
    go_ret
    exact ⟨by first | rfl | (simp; done) | (simp; omega), belT BEL0.out hb8.out⟩
  obtain ⟨hb, HF⟩ : ∃ _ : townB P l = true, Hid (TwnW P l) := ⟨town_way hw0, (twn_facts (town_way hw0)).way hw0⟩
  have hI := Lib.hid (twn_facts hb)
  have hlo := HF.out.lo
  have hmhi := hI.out.mhi
  have zz : (((grdI P l).length : Int) == 0) = false := by rw [beq_eq_false_iff_ne, HF.out.rows]; have := HF.out.some; omega
  clear hb
  have cB0 := FB.out.c0
  have cB1 := FB.out.c1
  have ltB := FB.out.lt
  go_wp2_with fail
  clear cB0 cB1 ltB
  refine (worth_impl _ _ (grdI P l) hgl _ X0.out).mono ?_
  rintro e w5 ⟨rfl, hb5⟩
  replace L0 := Lib.hid (stillInts L0.out hb5)
  replace FB := Lib.hid (FB.out.still hb5)
  replace X0 := Lib.hid (stillRows X0.out hb5)
  replace BEL0 := Lib.hid (belT BEL0.out hb5)
  clear hb5
  try unfold FracRes
  rcases hs : solB (grdI P l) with _ | _
  · skip
    have cB0 := FB.out.c0
    have cB1 := FB.out.c1
    have ltB := FB.out.lt
    go_wp2_with fail
    obtain ⟨WFA, hWFA⟩ : ∃ WFA : World, WFA = w5.alloc (.cells #[.int .i64 (solU (grdI P l)), .int .i64 (solD (grdI P l))] 37) := ⟨_, rfl⟩
    have hbWFA : Below w5.heap.size w5 WFA := by rw [hWFA]; exact (Below.refl _ _).alloc (Nat.le_refl _) _
    have FA : Hid (Box2 WFA w5.heap.size (solU (grdI P l)) (solD (grdI P l))) := by show Box2 _ _ _ _; rw [hWFA]; exact Box2.new _ _ _
    rw [← hWFA]
    clear hWFA
    replace L0 := Lib.hid (stillInts L0.out hbWFA)
    replace FB := Lib.hid (FB.out.still hbWFA)
    replace X0 := Lib.hid (stillRows X0.out hbWFA)
    replace BEL0 := Lib.hid (belT BEL0.out hbWFA)
    clear hbWFA
    clear cB0 cB1 ltB
    clear hs
    have cFA0 := FA.out.c0
    have cFA1 := FA.out.c1
    have lFA := FA.out.lt
    have cB0 := FB.out.c0
    have cB1 := FB.out.c1
    have ltB := FB.out.lt
    go_wp2_with fail
    clear cFA0 cFA1
    clear cB0 cB1 ltB
    have sFA0 := stays FA.out.lt FA.out.c0
    have sFA1 := stays FA.out.lt FA.out.c1
    have HM : Hid (∀ w', Below WFA.heap.size WFA w' → Calls Try.prog 30 #[.agg #[.int .i64 P, .slice A l.length c]] w' (Adds (.int .i64 (mostI P l)) w')) := fun w' hb => I.most P fP A c l (by omega) fW.out w' (stillInts L0.out hb)
    have sB0 := stays FB.out.lt FB.out.c0
    have sB1 := stays FB.out.lt FB.out.c1
    have HGM : Hid (∀ w' : World, Below WFA.heap.size WFA w' → Calls Try.prog 29 #[.slice TX0 (grdI P l).length cX0] w' (Adds (.bool true) w')) := fun w' hb => by
      have := (game_impl TX0 cX0 (grdI P l) _ hgl w' (stillRows X0.out hb)).mono fun _ _ => Same.adds
      rwa [HF.out.game] at this
    have zw : (mostI P l == mostI P l) = true := by simp
    refine wp_region_held_drew (S := fun w' => Below WFA.heap.size WFA w') (by kernel_rfl) (by first | exact Below.drew (Below.refl _ _) | exact Below.drew (by assumption)) (fun hHeld => ?_)
    refine wpAnyH_take (i := 0) (v := ?v0) rfl (by kernel_rfl) (by kernel_rfl) (by kernel_rfl) (fun _ _ _ h => h) (Or.inl ⟨by rfl, ?y0⟩) (by assumption) ?z0
    case y0 => (intro w hSw; go_simp; first | done | with_reducible rfl)
    try simp only [List.getElem_toArray, List.getElem_cons_succ, List.getElem_cons_zero, Act.put, List.setIfInBounds_toArray, List.set_cons_zero, List.set_cons_succ]
    refine wpAnyH_ready (rs := [1]) (by kernel_rfl) (by simp) ?_
    refine AllReadyH.cons rfl (fun K hK => ?_) AllReadyH.nil
    go_simp
    (go_at_call 29; refine (HGM.out _ (by first | exact Below.refl _ _ | exact Below.drew (Below.refl _ _) | (refine Below.drew ?_; assumption) | exact belT (by assumption) (by assumption) | assumption)).mono ?_; rintro e w8 ⟨rfl, hb8⟩)
    refine hK.out _ _ (by first | exact Below.refl _ _ | exact Below.drew (Below.refl _ _) | (refine Below.drew ?_; assumption) | exact belT (by assumption) (by assumption) | assumption) (fun hHeld => ?_)
    clear hK K
    try simp only [List.getElem_toArray, List.getElem_cons_succ, List.getElem_cons_zero, Act.put, List.setIfInBounds_toArray, List.set_cons_zero, List.set_cons_succ]
    refine wpAnyH_take (i := 2) (v := ?v2) rfl (by kernel_rfl) (by kernel_rfl) (by kernel_rfl) (fun _ _ _ h => h) (Or.inl ⟨by rfl, ?y2⟩) (by assumption) ?z2
    case y2 => (intro w hSw; go_simp; first | done | with_reducible rfl)
    try simp only [List.getElem_toArray, List.getElem_cons_succ, List.getElem_cons_zero, Act.put, List.setIfInBounds_toArray, List.set_cons_zero, List.set_cons_succ]
    refine wpAnyH_take (i := 3) (v := ?v3) rfl (by kernel_rfl) (by kernel_rfl) (by kernel_rfl) (fun _ _ _ h => h) (Or.inl ⟨by rfl, ?y3⟩) (by assumption) ?z3
    case y3 => (intro w hSw; go_simp; first | done | with_reducible rfl)
    try simp only [List.getElem_toArray, List.getElem_cons_succ, List.getElem_cons_zero, Act.put, List.setIfInBounds_toArray, List.set_cons_zero, List.set_cons_succ]
    refine wpAnyH_take (i := 4) (v := ?v4) rfl (by kernel_rfl) (by kernel_rfl) (by kernel_rfl) (fun _ _ _ h => h) (Or.inl ⟨by rfl, ?y4⟩) (by assumption) ?z4
    case y4 => (intro w hSw; go_simp; first | done | with_reducible rfl)
    try simp only [List.getElem_toArray, List.getElem_cons_succ, List.getElem_cons_zero, Act.put, List.setIfInBounds_toArray, List.set_cons_zero, List.set_cons_succ]
    refine wpAnyH_take (i := 5) (v := ?v5) rfl (by kernel_rfl) (by kernel_rfl) (by kernel_rfl) (fun _ _ _ h => h) (Or.inl ⟨by rfl, ?y5⟩) (by assumption) ?z5
    case y5 => (intro w hSw; go_simp; first | done | with_reducible rfl)
    try simp only [List.getElem_toArray, List.getElem_cons_succ, List.getElem_cons_zero, Act.put, List.setIfInBounds_toArray, List.set_cons_zero, List.set_cons_succ]
    refine wpAnyH_take (i := 6) rfl (by kernel_rfl) (by kernel_rfl) (by kernel_rfl) (fun _ _ _ h => h) (Or.inr ⟨by rfl, rfl⟩) (by assumption) ?_
    try simp only [List.getElem_toArray, List.getElem_cons_succ, List.getElem_cons_zero, Act.put, List.setIfInBounds_toArray, List.set_cons_zero, List.set_cons_succ]
    refine wpAnyH_take (i := 7) rfl (by kernel_rfl) (by kernel_rfl) (by kernel_rfl) (fun _ _ _ h => h) (Or.inr ⟨by rfl, rfl⟩) (by assumption) ?_
    try simp only [List.getElem_toArray, List.getElem_cons_succ, List.getElem_cons_zero, Act.put, List.setIfInBounds_toArray, List.set_cons_zero, List.set_cons_succ]
    refine wpAnyH_take (i := 8) rfl (by kernel_rfl) (by kernel_rfl) (by kernel_rfl) (fun _ _ _ h => h) (Or.inr ⟨by rfl, rfl⟩) (by assumption) ?_
    try simp only [List.getElem_toArray, List.getElem_cons_succ, List.getElem_cons_zero, Act.put, List.setIfInBounds_toArray, List.set_cons_zero, List.set_cons_succ]
    refine wpAnyH_take (i := 9) rfl (by kernel_rfl) (by kernel_rfl) (by kernel_rfl) (fun _ _ _ h => h) (Or.inr ⟨by rfl, rfl⟩) (by assumption) ?_
    try simp only [List.getElem_toArray, List.getElem_cons_succ, List.getElem_cons_zero, Act.put, List.setIfInBounds_toArray, List.set_cons_zero, List.set_cons_succ]
    refine wpAnyH_take (i := 10) rfl (by kernel_rfl) (by kernel_rfl) (by kernel_rfl) (fun _ _ _ h => h) (Or.inr ⟨by rfl, rfl⟩) (by assumption) ?_
    try simp only [List.getElem_toArray, List.getElem_cons_succ, List.getElem_cons_zero, Act.put, List.setIfInBounds_toArray, List.set_cons_zero, List.set_cons_succ]
    refine wpAnyH_take (i := 11) (v := ?v11) rfl (by kernel_rfl) (by kernel_rfl) (by kernel_rfl) (fun _ _ _ h => h) (Or.inl ⟨by rfl, ?y11⟩) (by assumption) ?z11
    case y11 => (intro w hSw; go_simp; first | done | with_reducible rfl)
    try simp only [List.getElem_toArray, List.getElem_cons_succ, List.getElem_cons_zero, Act.put, List.setIfInBounds_toArray, List.set_cons_zero, List.set_cons_succ]
    refine wpAnyH_take (i := 12) (v := ?v12) rfl (by kernel_rfl) (by kernel_rfl) (by kernel_rfl) (fun _ _ _ h => h) (Or.inl ⟨by rfl, ?y12⟩) (by assumption) ?z12
    case y12 => (intro w hSw; go_simp; first | done | with_reducible rfl)
    try simp only [List.getElem_toArray, List.getElem_cons_succ, List.getElem_cons_zero, Act.put, List.setIfInBounds_toArray, List.set_cons_zero, List.set_cons_succ]
    refine wpAnyH_take (i := 13) (v := ?v13) rfl (by kernel_rfl) (by kernel_rfl) (by kernel_rfl) (fun _ _ _ h => h) (Or.inl ⟨by rfl, ?y13⟩) (by assumption) ?z13
    case y13 => (intro w hSw; go_simp; first | done | with_reducible rfl)
    try simp only [List.getElem_toArray, List.getElem_cons_succ, List.getElem_cons_zero, Act.put, List.setIfInBounds_toArray, List.set_cons_zero, List.set_cons_succ]
    refine wpAnyH_done (by kernel_rfl) ?_ _
    go_wp2_with fail
    go_ret
    exact ⟨by simp, belT BEL0.out (by assumption)⟩
  · skip
    rw [(HF.out.sol hs).1, (HF.out.sol hs).2]
    have cB0 := FB.out.c0
    have cB1 := FB.out.c1
    have ltB := FB.out.lt
    go_wp2_with fail
    obtain ⟨WFA, hWFA⟩ : ∃ WFA : World, WFA = w5.alloc (.cells #[.int .i64 1, .int .i64 (mostI P l)] 37) := ⟨_, rfl⟩
    have hbWFA : Below w5.heap.size w5 WFA := by rw [hWFA]; exact (Below.refl _ _).alloc (Nat.le_refl _) _
    have FA : Hid (Box2 WFA w5.heap.size 1 (mostI P l)) := by show Box2 _ _ _ _; rw [hWFA]; exact Box2.new _ _ _
    rw [← hWFA]
    clear hWFA
    replace L0 := Lib.hid (stillInts L0.out hbWFA)
    replace FB := Lib.hid (FB.out.still hbWFA)
    replace X0 := Lib.hid (stillRows X0.out hbWFA)
    replace BEL0 := Lib.hid (belT BEL0.out hbWFA)
    clear hbWFA
    clear cB0 cB1 ltB
    clear hs
    have cFA0 := FA.out.c0
    have cFA1 := FA.out.c1
    have lFA := FA.out.lt
    have cB0 := FB.out.c0
    have cB1 := FB.out.c1
    have ltB := FB.out.lt
    go_wp2_with fail
    clear cFA0 cFA1
    clear cB0 cB1 ltB
    have sFA0 := stays FA.out.lt FA.out.c0
    have sFA1 := stays FA.out.lt FA.out.c1
    have HM : Hid (∀ w', Below WFA.heap.size WFA w' → Calls Try.prog 30 #[.agg #[.int .i64 P, .slice A l.length c]] w' (Adds (.int .i64 (mostI P l)) w')) := fun w' hb => I.most P fP A c l (by omega) fW.out w' (stillInts L0.out hb)
    have sB0 := stays FB.out.lt FB.out.c0
    have sB1 := stays FB.out.lt FB.out.c1
    have HGM : Hid (∀ w' : World, Below WFA.heap.size WFA w' → Calls Try.prog 29 #[.slice TX0 (grdI P l).length cX0] w' (Adds (.bool true) w')) := fun w' hb => by
      have := (game_impl TX0 cX0 (grdI P l) _ hgl w' (stillRows X0.out hb)).mono fun _ _ => Same.adds
      rwa [HF.out.game] at this
    have zw : (mostI P l == mostI P l) = true := by simp
    go_region_held3 (fun w' => Below WFA.heap.size WFA w')
      (first | exact Below.refl _ _ | exact Below.drew (Below.refl _ _) | (refine Below.drew ?_; assumption) | exact belT (by assumption) (by assumption) | assumption)
      (first | (go_at_call 29; refine (HGM.out _ (by first | exact Below.refl _ _ | exact Below.drew (Below.refl _ _) | (refine Below.drew ?_; assumption) | exact belT (by assumption) (by assumption) | assumption)).mono ?_; rintro e w8 ⟨rfl, hb8⟩) | (go_at_call 30; refine (HM.out _ (by first | exact Below.refl _ _ | exact Below.drew (Below.refl _ _) | (refine Below.drew ?_; assumption) | exact belT (by assumption) (by assumption) | assumption)).mono ?_; rintro e w9 ⟨rfl, hb9⟩))
    go_wp2_with fail
    go_ret
    exact ⟨by simp, belT BEL0.out (by assumption)⟩

end Go.Proofs.Ytcminkifdbdaaaa
