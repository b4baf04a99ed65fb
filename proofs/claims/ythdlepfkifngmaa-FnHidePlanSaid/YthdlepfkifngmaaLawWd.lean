/- The walk of the law of HidePlan, over contracts of the program's functions. (Written by wip/gen/law7.py.) -/
import Derived.Test.YthdlepfkifngmaaLawWa
import Derived.Test.YthdlepfkifngmaaMO
import Derived.Test.YthdlepfkifngmaaMI
import Derived.Test.YthdlepfkifngmaaExactWb
namespace Go.Proofs.Ythdlepfkifngmaa
set_option linter.unusedSimpArgs false
set_option linter.unusedVariables false
open Go.RowKit

set_option maxHeartbeats 4000000 in
set_option maxRecDepth 100000 in
theorem wFnHidePlan (I : Impl7) (a : Option Addr) (len cap : Nat) (zs : List Int) (w : World) (h : IsRow .u8 w a len cap zs) :
    Calls Try.prog 6 #[.slice a len cap] w fun e w' => e = .returned (.bool true) ∧ Below w.heap.size w w' := by
  have hle := byte_len h
  by_cases hbig : (1048576 : Int) < (len : Int)
  · go_enter Try.func6, Try.ntmps6
    go_wp2_with fail
    go_ret
    exact ⟨rfl, Below.refl _ _⟩
  go_enter Try.func6, Try.ntmps6
  go_wp2_with fail
  refine (dDrawHidePlan a len cap zs w h).mono ?_
  rintro e w1 ⟨c, d, rfl, ⟨p1, p2, p3, p4⟩, hb1⟩
  clear hbig hle
  have BEL0 := Lib.hid hb1
  have f1 := wf_small (x := c) (by omega) (by omega)
  have f2 := wf_small (x := d) (by omega) (by omega)
  clear hb1
  have hgl : (winG c d).length ≤ maxLen := small_max (by have := (winG_len c d).1; omega)
  have hwl : (hideL c d).length ≤ 16 := hideL_len c d
  have hkl : (lookL c d).length ≤ 16 := lookL_len c d
  have hwm : (hideL c d).length ≤ maxLen := by unfold maxLen; omega
  go_wp2_with fail
  refine (I.hide c d f1 f2 _).mono ?_
  rintro e w2 ⟨TX0, cX0, rfl, hb2, ho2⟩
  have X0 : Hid (Ints w2 (· < w2.heap.size) TX0 _) := own_lt ho2
  replace BEL0 := Lib.hid (belT BEL0.out hb2)
  clear hb2 ho2
  go_wp2_with fail
  refine (hidePlan_spec c d _).mono ?_
  rintro e w3 ⟨TY0, cY0, rfl, hb3, ho3⟩
  have Y0 : Hid (Ints w3 (· < w3.heap.size) TY0 _) := own_lt ho3
  replace X0 := Lib.hid (stillInts X0.out hb3)
  replace BEL0 := Lib.hid (belT BEL0.out hb3)
  clear hb3 ho3
  go_wp2_with fail
  refine (sameInts _ _ _ _ (hideL c d) _ _ hwm _ X0.out Y0.out).mono ?_
  rintro e w4 ⟨rfl, hq4⟩
  have hb4 : Below w3.heap.size w3 w4 := by obtain ⟨n, rfl⟩ := hq4; exact below_drewN (Below.refl _ _) n
  replace X0 := Lib.hid (stillInts X0.out hb4)
  replace Y0 := Lib.hid (stillInts Y0.out hb4)
  replace BEL0 := Lib.hid (belT BEL0.out hb4)
  clear hq4 hb4
  clear Y0
  rcases hb : winB c d with _ | _
  · skip
    have HN := Lib.hid (win_no hb)
    clear hb
    have HZ : Hid ((hideL c d).length = 0) := by rw [HN.out.2.2.2.2]; rfl
    have zz : (((hideL c d).length : Int) == 0) = true := by rw [HZ.out]; rfl
    have hv := HN.out.2.2.1
    go_wp2_with fail
    refine (I.wins c d f1 f2 _).mono ?_
    rintro e w5 ⟨rfl, hb5⟩
    replace X0 := Lib.hid (stillInts X0.out hb5)
    replace BEL0 := Lib.hid (belT BEL0.out hb5)
    clear hb5
    rw [hv]
    clear hv
    go_wp2_with fail
    refine (alive _).mono ?_
    rintro e w9 ⟨rfl, hb9⟩
    have hb8 := Lib.hid (belT (w := w5) (by exact (by repeat (first | exact Below.refl _ _ | assumption | exact bel1 (by assumption) | exact bel2 (by assumption) | exact bel3 (by assumption) | exact bel4 (by assumption) | refine Below.drew ?_ | refine below_drewN ?_ _ | refine Below.setCell ?_ (by first | (simp; done) | (simp; omega)) _ | refine Below.alloc ?_ (by first | (simp; done) | (simp; omega)) _))) hb9)
    clear hb9
    go_wp2_with fail
    go_ret
    exact ⟨by first | rfl | (simp; done) | (simp; omega), belT BEL0.out hb8.out⟩
  have HF := Lib.hid (win_facts hb)
  have hcd := winB_iff.1 hb
  have zz : (((hideL c d).length : Int) == 0) = false := by rw [beq_eq_false_iff_ne, HF.out.hide]; omega
  have HL := Lib.hid hwl
  clear hb
  go_wp2_with fail
  refine (winGame_spec c d _).mono ?_
  rintro e w5 ⟨TG0, cG0, rfl, hb5, ho5⟩
  have G0 := Lib.hid ho5.lt
  replace X0 := Lib.hid (stillInts X0.out hb5)
  replace BEL0 := Lib.hid (belT BEL0.out hb5)
  clear hb5 ho5
  go_wp2_with fail
  refine (risk_impl _ _ _ _ (winG c d) (hideL c d) hgl (by omega) _ G0.out X0.out).mono ?_
  rintro e w6 ⟨rfl, hb6⟩
  replace X0 := Lib.hid (stillInts X0.out hb6)
  replace G0 := Lib.hid (stillRows G0.out hb6)
  replace BEL0 := Lib.hid (belT BEL0.out hb6)
  clear hb6
  try unfold FracRes
  rw [HF.out.rup, HF.out.rdown, HF.out.ris]
  go_wp2_with fail
  obtain ⟨WFA, hWFA⟩ : ∃ WFA : World, WFA = w6.alloc (.cells #[.int .i64 1, .int .i64 (winV c d)] 31) := ⟨_, rfl⟩
  have hbWFA : Below w6.heap.size w6 WFA := by rw [hWFA]; exact (Below.refl _ _).alloc (Nat.le_refl _) _
  have FA : Hid (Box2 WFA w6.heap.size 1 (winV c d)) := by show Box2 _ _ _ _; rw [hWFA]; exact Box2.new _ _ _
  rw [← hWFA]
  clear hWFA
  replace X0 := Lib.hid (stillInts X0.out hbWFA)
  replace G0 := Lib.hid (stillRows G0.out hbWFA)
  replace BEL0 := Lib.hid (belT BEL0.out hbWFA)
  clear hbWFA
  have sFA0 := stays FA.out.lt FA.out.c0
  have sFA1 := stays FA.out.lt FA.out.c1
  have HW : Hid (∀ w', Calls Try.prog 17 #[.int .i64 c, .int .i64 d] w' (Adds (.int .i64 (winV c d)) w')) := fun w' => I.wins c d f1 f2 w'
  have HLK : Hid (∀ w', Calls Try.prog 27 #[.int .i64 c, .int .i64 d] w' (NewList w' (lookL c d))) := fun w' => lookPlan_spec c d w'
  have HST : Hid (∀ (w' : World) (B : Option Addr) (e : Nat), Below WFA.heap.size WFA w' → Ints w' (· < w'.heap.size) B (lookL c d) → Calls Try.prog 32 #[.slice TG0 (winG c d).length cG0, .slice B (lookL c d).length e, .slice TX0 (hideL c d).length cX0] w' (Adds (.bool true) w')) := fun w' B e hb h => by
    have := set_impl TG0 B TX0 cG0 e cX0 (winG c d) (lookL c d) (hideL c d) hgl (by omega) (by omega) w' (stillRows G0.out hb) h (stillInts X0.out hb)
    rwa [HF.out.set] at this
  go_region_held3 (fun w' => Below WFA.heap.size WFA w')
    (first | exact Below.refl _ _ | exact Below.drew (Below.refl _ _) | (refine Below.drew ?_; assumption) | exact belT (by assumption) (by assumption) | assumption)
    (first | (go_at_call 17; refine (HW.out _).mono ?_; rintro e w8 ⟨rfl, hb8⟩) | (go_at_call 27; refine (HLK.out _).mono ?_; rintro e w10 ⟨TB, cB, rfl, hb10, ho10⟩) | (go_at_call 32; refine (HST.out _ _ _ (by first | exact Below.refl _ _ | exact Below.drew (Below.refl _ _) | (refine Below.drew ?_; assumption) | exact belT (by assumption) (by assumption) | assumption) (by first | exact own_lt ho10 | exact stillInts (own_lt ho10) (Below.drew (Below.refl _ _)))).mono ?_; rintro e w12 ⟨rfl, hb12⟩))
  go_wp2_with fail
  go_ret
  exact ⟨by simp, belT BEL0.out (by assumption)⟩

end Go.Proofs.Ythdlepfkifngmaa
