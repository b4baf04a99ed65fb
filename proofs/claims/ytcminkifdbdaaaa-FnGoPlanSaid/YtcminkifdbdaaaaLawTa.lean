/- The walk of the law of GoPlan, over contracts of the program's functions. (Written by wip/gen/law9.py.) -/
import Derived.Test.YtcminkifdbdaaaaNE
import Derived.Test.YtcminkifdbdaaaaNF
import Derived.Test.YtcminkifdbdaaaaNG
import Derived.Test.YtcminkifdbdaaaaLawT
import Derived.Test.YtcminkifdbdaaaaMA
import Derived.Test.YtcminkifdbdaaaaMO
import Derived.Test.YtcminkifdbdaaaaMI
namespace Go.Proofs.Ytcminkifdbdaaaa
set_option linter.unusedSimpArgs false
set_option linter.unusedVariables false
open Go.RowKit

set_option maxHeartbeats 4000000 in
set_option maxRecDepth 100000 in
theorem wFnGoPlan (I : Impl9) (a : Option Addr) (len cap : Nat) (zs : List Int) (w : World) (h : IsRow .u8 w a len cap zs) :
    Calls Try.prog 7 #[.slice a len cap] w fun e w' => e = .returned (.bool true) ∧ Below w.heap.size w w' := by
  have hle := byte_len h
  by_cases hbig : (1048576 : Int) < (len : Int)
  · go_enter Try.func7, Try.ntmps7
    go_wp2_with fail
    go_ret
    exact ⟨rfl, Below.refl _ _⟩
  go_enter Try.func7, Try.ntmps7
  go_wp2_with fail
  refine (dDrawGoPlan a len cap zs w h).mono ?_
  rintro e w1 ⟨P, A, c, l, rfl, ⟨p1, p2⟩, ⟨hl9, hlz⟩, hlc, hb1, ho1⟩
  clear hbig hle
  have BEL0 := Lib.hid hb1
  have fP := wf_town (z := P) p1 (by omega)
  have hlm : l.length ≤ maxLen := by unfold maxLen; omega
  have L0 : Hid (Ints w1 (· < w1.heap.size) A l) := own_lt ho1
  have HLZ := Lib.hid hlz
  have fW := Lib.hid (WfL.small hlz)
  clear hb1 ho1 hlz
  unfold twnV
  obtain ⟨WB, hWB⟩ : ∃ WB : World, WB = w1.alloc (.cells #[.int .i64 P, .slice A l.length c] 25) := ⟨_, rfl⟩
  have hbWB : Below w1.heap.size w1 WB := by rw [hWB]; exact (Below.refl _ _).alloc (Nat.le_refl _) _
  have FB : Hid (BoxT WB w1.heap.size P A l.length c) := by show BoxT _ _ _ _ _ _; rw [hWB]; exact BoxT.new w1 P A l.length c
  have cX0 := FB.out.c0
  have cX1 := FB.out.c1
  rw [hWB] at cX0 cX1
  have HWB := Lib.hid hWB
  clear hWB
  go_wp2_with fail
  rw [← HWB.out]
  clear cX0 cX1
  replace L0 := Lib.hid (stillInts L0.out hbWB)
  replace BEL0 := Lib.hid (belT BEL0.out hbWB)
  clear hbWB
  have hwl : (goI P l).length ≤ 16 := goI_sm P l
  have hwm : (goI P l).length ≤ maxLen := by unfold maxLen; omega
  have hgl : (grdI P l).length ≤ maxLen := grdI_max P l
  refine (I.go P fP A c l (by omega) fW.out _ L0.out).mono ?_
  rintro e w2 ⟨TX0, cX0, rfl, hb2, ho2⟩
  have X0 : Hid (Ints w2 (· < w2.heap.size) TX0 _) := own_lt ho2
  replace L0 := Lib.hid (stillInts L0.out hb2)
  replace FB := Lib.hid (FB.out.still hb2)
  replace BEL0 := Lib.hid (belT BEL0.out hb2)
  clear hb2 ho2
  have cB0 := FB.out.c0
  have cB1 := FB.out.c1
  have ltB := FB.out.lt
  go_wp2_with fail
  clear cB0 cB1 ltB
  refine (goPlan_spec P A c l hlm _ L0.out).mono ?_
  rintro e w3 ⟨TY0, cY0, rfl, hb3, ho3⟩
  have Y0 : Hid (Ints w3 (· < w3.heap.size) TY0 _) := own_lt ho3
  replace L0 := Lib.hid (stillInts L0.out hb3)
  replace FB := Lib.hid (FB.out.still hb3)
  replace X0 := Lib.hid (stillInts X0.out hb3)
  replace BEL0 := Lib.hid (belT BEL0.out hb3)
  clear hb3 ho3
  have cB0 := FB.out.c0
  have cB1 := FB.out.c1
  have ltB := FB.out.lt
  go_wp2_with fail
  clear cB0 cB1 ltB
  refine (sameInts _ _ _ _ (goI P l) _ _ hwm _ X0.out Y0.out).mono ?_
  rintro e w4 ⟨rfl, hq4⟩
  have hb4 : Below w3.heap.size w3 w4 := by obtain ⟨n, rfl⟩ := hq4; exact below_drewN (Below.refl _ _) n
  replace L0 := Lib.hid (stillInts L0.out hb4)
  replace FB := Lib.hid (FB.out.still hb4)
  replace X0 := Lib.hid (stillInts X0.out hb4)
  replace Y0 := Lib.hid (stillInts Y0.out hb4)
  replace BEL0 := Lib.hid (belT BEL0.out hb4)
  clear hq4 hb4
  clear Y0
  rcases Nat.eq_zero_or_pos (waysI P l).length with hw0 | hw0
  · skip
    have zz : (((goI P l).length : Int) == 0) = true := by rw [(twn_nil hw0).2.1]; rfl
    have cB0 := FB.out.c0
    have cB1 := FB.out.c1
    have ltB := FB.out.lt
    go_wp2_with fail
    clear cB0 cB1 ltB
    refine (I.ways P fP A c l (by omega) fW.out _ L0.out).mono ?_
    rintro e w5 ⟨TZ0, cZ0, rfl, hb5, ho5⟩
    have Z0 : Hid (Ints w5 (· < w5.heap.size) TZ0 _) := own_lt ho5
    replace L0 := Lib.hid (stillInts L0.out hb5)
    replace FB := Lib.hid (FB.out.still hb5)
    replace X0 := Lib.hid (stillInts X0.out hb5)
    replace BEL0 := Lib.hid (belT BEL0.out hb5)
    clear hb5 ho5
    have zw : (((waysI P l).length : Int) == 0) = true := by rw [hw0]; rfl
    have hwl : ((waysI P l).length : Int) = 0 := by rw [hw0]; rfl
    go_wp2_with fail
    refine (alive _).mono ?_
    rintro e w99 ⟨rfl, hb9⟩
    have hb8 := Lib.hid (belT (w := w5) (by exact (by repeat (first | exact Below.refl _ _ | assumption | exact bel1 (by assumption) | exact bel2 (by assumption) | exact bel3 (by assumption) | exact bel4 (by assumption) | refine Below.drew ?_ | refine below_drewN ?_ _ | refine Below.setCell ?_ (by first | (simp; done) | (simp; omega)) _ | refine Below.alloc ?_ (by first | (simp; done) | (simp; omega)) _))) hb9)
    clear hb9
    go_wp2_with fail
    go_ret
    exact ⟨by first | rfl | (simp; done) | (simp; omega), belT BEL0.out hb8.out⟩
  obtain ⟨hb, HF⟩ : ∃ _ : townB P l = true, Hid (TwnW P l) := ⟨town_way hw0, (twn_facts (town_way hw0)).way hw0⟩
  have hI := Lib.hid (twn_facts hb)
  have hlo := HF.out.lo
  have hmhi := hI.out.mhi
  have zz : (((goI P l).length : Int) == 0) = false := by rw [beq_eq_false_iff_ne, HF.out.go]; omega
  clear hb
  have cB0 := FB.out.c0
  have cB1 := FB.out.c1
  have ltB := FB.out.lt
  go_wp2_with fail
  clear cB0 cB1 ltB
  refine (guardGame_spec P A c l hlm _ L0.out).mono ?_
  rintro e w5 ⟨TG0, cG0, rfl, hb5, ho5⟩
  have G0 := Lib.hid ho5.lt
  replace L0 := Lib.hid (stillInts L0.out hb5)
  replace FB := Lib.hid (FB.out.still hb5)
  replace X0 := Lib.hid (stillInts X0.out hb5)
  replace BEL0 := Lib.hid (belT BEL0.out hb5)
  clear hb5 ho5
  have cB0 := FB.out.c0
  have cB1 := FB.out.c1
  have ltB := FB.out.lt
  go_wp2_with fail
  clear cB0 cB1 ltB
  refine (risk_impl _ _ _ _ (grdI P l) (goI P l) hgl (by omega) _ G0.out X0.out).mono ?_
  rintro e w6 ⟨rfl, hb6⟩
  replace L0 := Lib.hid (stillInts L0.out hb6)
  replace FB := Lib.hid (FB.out.still hb6)
  replace X0 := Lib.hid (stillInts X0.out hb6)
  replace G0 := Lib.hid (stillRows G0.out hb6)
  replace BEL0 := Lib.hid (belT BEL0.out hb6)
  clear hb6
  try unfold FracRes
  rw [HF.out.duel.rup, HF.out.duel.rdown, HF.out.duel.ris]
  have cB0 := FB.out.c0
  have cB1 := FB.out.c1
  have ltB := FB.out.lt
  go_wp2_with fail
  obtain ⟨WFA, hWFA⟩ : ∃ WFA : World, WFA = w6.alloc (.cells #[.int .i64 1, .int .i64 (mostI P l)] 37) := ⟨_, rfl⟩
  have hbWFA : Below w6.heap.size w6 WFA := by rw [hWFA]; exact (Below.refl _ _).alloc (Nat.le_refl _) _
  have FA : Hid (Box2 WFA w6.heap.size 1 (mostI P l)) := by show Box2 _ _ _ _; rw [hWFA]; exact Box2.new _ _ _
  rw [← hWFA]
  clear hWFA
  replace L0 := Lib.hid (stillInts L0.out hbWFA)
  replace FB := Lib.hid (FB.out.still hbWFA)
  replace X0 := Lib.hid (stillInts X0.out hbWFA)
  replace G0 := Lib.hid (stillRows G0.out hbWFA)
  replace BEL0 := Lib.hid (belT BEL0.out hbWFA)
  clear hbWFA
  clear cB0 cB1 ltB
  have sFA0 := stays FA.out.lt FA.out.c0
  have sFA1 := stays FA.out.lt FA.out.c1
  have HM : Hid (∀ w', Below WFA.heap.size WFA w' → Calls Try.prog 30 #[.agg #[.int .i64 P, .slice A l.length c]] w' (Adds (.int .i64 (mostI P l)) w')) := fun w' hb => I.most P fP A c l (by omega) fW.out w' (stillInts L0.out hb)
  have sB0 := stays FB.out.lt FB.out.c0
  have sB1 := stays FB.out.lt FB.out.c1
  go_region_held3 (fun w' => Below WFA.heap.size WFA w')
    (first | exact Below.refl _ _ | exact Below.drew (Below.refl _ _) | (refine Below.drew ?_; assumption) | exact belT (by assumption) (by assumption) | assumption)
    (first | (go_at_call 30; refine (HM.out _ (by first | exact Below.refl _ _ | exact Below.drew (Below.refl _ _) | (refine Below.drew ?_; assumption) | exact belT (by assumption) (by assumption) | assumption)).mono ?_; rintro e w28 ⟨rfl, hb8⟩))
  go_wp2_with fail
  go_ret
  exact ⟨by simp, belT BEL0.out (by assumption)⟩

end Go.Proofs.Ytcminkifdbdaaaa
