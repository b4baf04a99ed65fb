/- The walk of the law of HideCells, over contracts of the program's functions. (Written by wip/gen/law8.py.) -/
import Derived.Test.YtcfmfpkmcngacaaNB
import Derived.Test.YtcfmfpkmcngacaaNA
import Derived.Test.YtcfmfpkmcngacaaLawT
import Derived.Test.YtcfmfpkmcngacaaMA
import Derived.Test.YtcfmfpkmcngacaaMO
import Derived.Test.YtcfmfpkmcngacaaMI
namespace Go.Proofs.Ytcfmfpkmcngacaa
set_option linter.unusedSimpArgs false
set_option linter.unusedVariables false
open Go.RowKit

set_option maxHeartbeats 4000000 in
set_option maxRecDepth 100000 in
theorem wFnHideCells (I : Impl8) (a : Option Addr) (len cap : Nat) (zs : List Int) (w : World) (h : IsRow .u8 w a len cap zs) :
    Calls Try.prog 6 #[.slice a len cap] w fun e w' => e = .returned (.bool true) ∧ Below w.heap.size w w' := by
  have hle := byte_len h
  by_cases hbig : (1048576 : Int) < (len : Int)
  · go_enter Try.func6, Try.ntmps6
    go_wp2_with fail
    go_ret
    exact ⟨rfl, Below.refl _ _⟩
  go_enter Try.func6, Try.ntmps6
  go_wp2_with fail
  refine (dDrawHideCells a len cap zs w h).mono ?_
  rintro e w1 ⟨R, C, S, rfl, ⟨p1, p2, p3, p4, f3⟩, hb1⟩
  clear hbig hle
  have BEL0 := Lib.hid hb1
  have f1 := wf_16 (z := R) (by omega) (by omega)
  have f2 := wf_16 (z := C) (by omega) (by omega)
  clear hb1
  unfold fldV
  obtain ⟨WB, hWB⟩ : ∃ WB : World, WB = w1.alloc (.cells #[.int .i64 R, .int .i64 C, .int .i64 S] 24) := ⟨_, rfl⟩
  have hbWB : Below w1.heap.size w1 WB := by rw [hWB]; exact (Below.refl _ _).alloc (Nat.le_refl _) _
  have FB : Hid (Box3 WB w1.heap.size R C S) := by show Box3 _ _ _ _ _; rw [hWB]; exact Box3.new w1 R C S
  have cX0 := FB.out.c0
  have cX1 := FB.out.c1
  have cX2 := FB.out.c2
  rw [hWB] at cX0 cX1 cX2
  have HWB := Lib.hid hWB
  clear hWB
  go_wp2_with fail
  rw [← HWB.out]
  clear cX0 cX1 cX2
  replace BEL0 := Lib.hid (belT BEL0.out hbWB)
  clear hbWB
  have hgl : (fldG R C S).length ≤ maxLen := small_max (by have := (fldG_len R C S).1; omega)
  have hwl : (hidL R C S).length ≤ 16 := hidL_len R C S
  have hwm : (hidL R C S).length ≤ maxLen := by unfold maxLen; omega
  refine (I.hide R C S f1 f2 f3 _).mono ?_
  rintro e w2 ⟨TX0, cX0, rfl, hb2, ho2⟩
  have X0 : Hid (Ints w2 (· < w2.heap.size) TX0 _) := own_lt ho2
  replace FB := Lib.hid (FB.out.still hb2)
  replace BEL0 := Lib.hid (belT BEL0.out hb2)
  clear hb2 ho2
  have cB0 := FB.out.c0
  have cB1 := FB.out.c1
  have cB2 := FB.out.c2
  have ltB := FB.out.lt
  go_wp2_with fail
  clear cB0 cB1 cB2 ltB
  refine (hideCells_spec R C S _).mono ?_
  rintro e w3 ⟨TY0, cY0, rfl, hb3, ho3⟩
  have Y0 : Hid (Ints w3 (· < w3.heap.size) TY0 _) := own_lt ho3
  replace FB := Lib.hid (FB.out.still hb3)
  replace X0 := Lib.hid (stillInts X0.out hb3)
  replace BEL0 := Lib.hid (belT BEL0.out hb3)
  clear hb3 ho3
  have cB0 := FB.out.c0
  have cB1 := FB.out.c1
  have cB2 := FB.out.c2
  have ltB := FB.out.lt
  go_wp2_with fail
  clear cB0 cB1 cB2 ltB
  refine (sameInts _ _ _ _ (hidL R C S) _ _ hwm _ X0.out Y0.out).mono ?_
  rintro e w4 ⟨rfl, hq4⟩
  have hb4 : Below w3.heap.size w3 w4 := by obtain ⟨n, rfl⟩ := hq4; exact below_drewN (Below.refl _ _) n
  replace FB := Lib.hid (FB.out.still hb4)
  replace X0 := Lib.hid (stillInts X0.out hb4)
  replace Y0 := Lib.hid (stillInts Y0.out hb4)
  replace BEL0 := Lib.hid (belT BEL0.out hb4)
  clear hq4 hb4
  clear Y0
  rcases hb : fldB R C S with _ | _
  · skip
    have HN := Lib.hid (fld_no hb)
    have hok : ∀ w', Calls Try.prog 16 #[.agg #[.int .i64 R, .int .i64 C, .int .i64 S]] w' (Adds (.bool false) w') := fun w' => by have := I.ok R C S f1 f2 f3 w'; rwa [hb] at this
    have HOK := Lib.hid hok
    clear hb hok
    have HZ : Hid ((hidL R C S).length = 0) := by rw [HN.out.2.2.1]; rfl
    have zz : (((hidL R C S).length : Int) == 0) = true := by rw [HZ.out]; rfl
    have cB0 := FB.out.c0
    have cB1 := FB.out.c1
    have cB2 := FB.out.c2
    have ltB := FB.out.lt
    go_wp2_with fail
    clear cB0 cB1 cB2 ltB
    refine (HOK.out _).mono ?_
    rintro e w5 ⟨rfl, hb5⟩
    replace FB := Lib.hid (FB.out.still hb5)
    replace X0 := Lib.hid (stillInts X0.out hb5)
    replace BEL0 := Lib.hid (belT BEL0.out hb5)
    clear hb5
    go_wp2_with fail
    refine (alive _).mono ?_
    rintro e w99 ⟨rfl, hb9⟩
    have hb8 := Lib.hid (belT (w := w5) (by exact (by repeat (first | exact Below.refl _ _ | assumption | exact bel1 (by assumption) | exact bel2 (by assumption) | exact bel3 (by assumption) | exact bel4 (by assumption) | refine Below.drew ?_ | refine below_drewN ?_ _ | refine Below.setCell ?_ (by first | (simp; done) | (simp; omega)) _ | refine Below.alloc ?_ (by first | (simp; done) | (simp; omega)) _))) hb9)
    clear hb9
    go_wp2_with fail
    go_ret
    exact ⟨by first | rfl | (simp; done) | (simp; omega), belT BEL0.out hb8.out⟩
  have HF := Lib.hid (fld_facts hb)
  have hpos := HF.out.pos
  have hlo := HF.out.lo
  have hhi := HF.out.hi
  have zz : (((hidL R C S).length : Int) == 0) = false := by rw [beq_eq_false_iff_ne]; have := HF.out.hide; omega
  have HL := Lib.hid hwl
  clear hb
  have cB0 := FB.out.c0
  have cB1 := FB.out.c1
  have cB2 := FB.out.c2
  have ltB := FB.out.lt
  go_wp2_with fail
  clear cB0 cB1 cB2 ltB
  refine (fldGame_spec R C S _).mono ?_
  rintro e w5 ⟨TG0, cG0, rfl, hb5, ho5⟩
  have G0 := Lib.hid ho5.lt
  replace FB := Lib.hid (FB.out.still hb5)
  replace X0 := Lib.hid (stillInts X0.out hb5)
  replace BEL0 := Lib.hid (belT BEL0.out hb5)
  clear hb5 ho5
  have cB0 := FB.out.c0
  have cB1 := FB.out.c1
  have cB2 := FB.out.c2
  have ltB := FB.out.lt
  go_wp2_with fail
  clear cB0 cB1 cB2 ltB
  refine (risk_impl _ _ _ _ (fldG R C S) (hidL R C S) hgl (by omega) _ G0.out X0.out).mono ?_
  rintro e w6 ⟨rfl, hb6⟩
  replace FB := Lib.hid (FB.out.still hb6)
  replace X0 := Lib.hid (stillInts X0.out hb6)
  replace G0 := Lib.hid (stillRows G0.out hb6)
  replace BEL0 := Lib.hid (belT BEL0.out hb6)
  clear hb6
  try unfold FracRes
  rw [HF.out.duel.rup, HF.out.duel.rdown, HF.out.duel.ris]
  have cB0 := FB.out.c0
  have cB1 := FB.out.c1
  have cB2 := FB.out.c2
  have ltB := FB.out.lt
  go_wp2_with fail
  obtain ⟨WFA, hWFA⟩ : ∃ WFA : World, WFA = w6.alloc (.cells #[.int .i64 1, .int .i64 (mosV R C S)] 40) := ⟨_, rfl⟩
  have hbWFA : Below w6.heap.size w6 WFA := by rw [hWFA]; exact (Below.refl _ _).alloc (Nat.le_refl _) _
  have FA : Hid (Box2 WFA w6.heap.size 1 (mosV R C S)) := by show Box2 _ _ _ _; rw [hWFA]; exact Box2.new _ _ _
  rw [← hWFA]
  clear hWFA
  replace FB := Lib.hid (FB.out.still hbWFA)
  replace X0 := Lib.hid (stillInts X0.out hbWFA)
  replace G0 := Lib.hid (stillRows G0.out hbWFA)
  replace BEL0 := Lib.hid (belT BEL0.out hbWFA)
  clear hbWFA
  clear cB0 cB1 cB2 ltB
  have sFA0 := stays FA.out.lt FA.out.c0
  have sFA1 := stays FA.out.lt FA.out.c1
  have HM : Hid (∀ w', Calls Try.prog 25 #[.agg #[.int .i64 R, .int .i64 C, .int .i64 S]] w' (Adds (.int .i64 (mosV R C S)) w')) := fun w' => I.most R C S f1 f2 f3 w'
  have sB0 := stays FB.out.lt FB.out.c0
  have sB1 := stays FB.out.lt FB.out.c1
  have sB2 := stays FB.out.lt FB.out.c2
  go_region_held3 (fun w' => Below WFA.heap.size WFA w')
    (first | exact Below.refl _ _ | exact Below.drew (Below.refl _ _) | (refine Below.drew ?_; assumption) | exact belT (by assumption) (by assumption) | assumption)
    (first | (go_at_call 25; refine (HM.out _).mono ?_; rintro e w28 ⟨rfl, hb8⟩))
  go_wp2_with fail
  go_ret
  exact ⟨by simp, belT BEL0.out (by assumption)⟩

end Go.Proofs.Ytcfmfpkmcngacaa
