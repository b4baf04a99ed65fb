/- The walk of the law of ShiftedOf. (Written by wip/gen/law4.py.) -/
import Derived.Test.YtgjbahlebhnoiaaMG
import Derived.Test.YtgjbahlebhnoiaaMF
import Derived.Test.YtgjbahlebhnoiaaMH
import Derived.Test.YtgjbahlebhnoiaaLawT
namespace Go.Proofs.Ytgjbahlebhnoiaa
set_option linter.unusedSimpArgs false
set_option linter.unusedVariables false
open Go.RowKit

set_option maxHeartbeats 4000000 in
set_option maxRecDepth 100000 in
theorem wFnShiftedOf (I : Impl4) (a : Option Addr) (len cap : Nat) (zs : List Int) (w : World) (h : IsRow .u8 w a len cap zs) :
    Calls Try.prog 6 #[.slice a len cap] w fun e w' => e = .returned (.bool true) ∧ Below w.heap.size w w' := by
  have hle := byte_len h
  by_cases hbig : (1048576 : Int) < (len : Int)
  · go_enter Try.func6, Try.ntmps6
    go_wp2_with fail
    go_ret
    exact ⟨rfl, Below.refl _ _⟩
  go_enter Try.func6, Try.ntmps6
  go_wp2_with fail
  refine (dDrawShiftedOf a len cap zs w h).mono ?_
  rintro e w1 ⟨g, T, c, b, rfl, hc1, hc2, hg17, hgr, hbl, hbh, hb1, ho1⟩
  clear hbig hle
  have BEL0 := Lib.hid hb1
  have R0 := Lib.hid ho1.lt
  have hl := small_max hg17
  clear hb1 ho1 hgr hc1 hc2
  have zB : (shiB g b != shiB g b) = false := by simp
  have hsl : (shi g b).length ≤ maxLen := small_max (by have := (shi_len g b).1; omega)
  go_wp2_with fail
  refine (I.shift _ _ g b hl _ R0.out).mono ?_
  rintro e w2 ⟨TX0, cX0, rfl, hb2, ho2⟩
  have X0 := Lib.hid ho2.lt
  replace R0 := Lib.hid (stillRows R0.out hb2)
  replace BEL0 := Lib.hid (belT BEL0.out hb2)
  clear hb2 ho2
  go_wp2_with fail
  refine (shi_spec _ _ g b hl _ R0.out).mono ?_
  rintro e w3 ⟨TY0, cY0, rfl, hb3, ho3⟩
  have Y0 := Lib.hid ho3.lt
  replace R0 := Lib.hid (stillRows R0.out hb3)
  replace X0 := Lib.hid (stillRows X0.out hb3)
  replace BEL0 := Lib.hid (belT BEL0.out hb3)
  clear hb3 ho3
  go_wp2_with fail
  refine (sameRows _ _ _ _ (shi g b) _ _ hsl _ X0.out Y0.out).mono ?_
  rintro e w4 ⟨rfl, hq4⟩
  have hb4 : Below w3.heap.size w3 w4 := by obtain ⟨n, rfl⟩ := hq4; exact below_drewN (Below.refl _ _) n
  replace R0 := Lib.hid (stillRows R0.out hb4)
  replace X0 := Lib.hid (stillRows X0.out hb4)
  replace Y0 := Lib.hid (stillRows Y0.out hb4)
  replace BEL0 := Lib.hid (belT BEL0.out hb4)
  clear hq4 hb4
  clear Y0
  rcases hb : shiB g b with _ | _
  · skip
    have HZ : Hid ((shi g b).length = 0) := by simp [Hid, shi, hb]
    have zz : (((shi g b).length : Int) == 0) = true := by rw [HZ.out]; rfl
    clear hb
    go_wp2_with fail
    refine (alive _).mono ?_
    rintro e w9 ⟨rfl, hb9⟩
    have hb8 := Lib.hid (belT (w := w4) (by exact (by repeat (first | exact Below.refl _ _ | assumption | exact bel1 (by assumption) | exact bel2 (by assumption) | exact bel3 (by assumption) | exact bel4 (by assumption) | refine Below.drew ?_ | refine below_drewN ?_ _ | refine Below.setCell ?_ (by first | (simp; done) | (simp; omega)) _ | refine Below.alloc ?_ (by first | (simp; done) | (simp; omega)) _))) hb9)
    clear hb9
    go_wp2_with fail
    go_ret
    exact ⟨by first | rfl | (simp; done) | (simp; omega), belT BEL0.out hb8.out⟩
  have HK := Lib.hid (shi_back hb)
  have HS := Lib.hid (shi_solB hb)
  have HP := Lib.hid (fun h => sol_shi (g := g) hb h)
  clear hb zB
  go_wp2_with fail
  refine (I.worth _ _ g hl _ R0.out).mono ?_
  rintro e w5 ⟨rfl, hb5⟩
  replace R0 := Lib.hid (stillRows R0.out hb5)
  replace X0 := Lib.hid (stillRows X0.out hb5)
  replace BEL0 := Lib.hid (belT BEL0.out hb5)
  clear hb5
  try unfold FracRes
  go_wp2_with fail
  obtain ⟨WFA, hWFA⟩ : ∃ WFA : World, WFA = w5.alloc (.cells #[.int .i64 (solU g), .int .i64 (solD g)] 32) := ⟨_, rfl⟩
  have hbWFA : Below w5.heap.size w5 WFA := by rw [hWFA]; exact (Below.refl _ _).alloc (Nat.le_refl _) _
  have FA : Hid (Box2 WFA w5.heap.size (solU g) (solD g)) := by show Box2 _ _ _ _; rw [hWFA]; exact Box2.new _ _ _
  rw [← hWFA]
  clear hWFA
  replace R0 := Lib.hid (stillRows R0.out hbWFA)
  replace X0 := Lib.hid (stillRows X0.out hbWFA)
  replace BEL0 := Lib.hid (belT BEL0.out hbWFA)
  clear hbWFA
  go_wp2_with fail
  refine (I.worth _ _ (shi g b) hsl _ X0.out).mono ?_
  rintro e w6 ⟨rfl, hb6⟩
  replace R0 := Lib.hid (stillRows R0.out hb6)
  replace X0 := Lib.hid (stillRows X0.out hb6)
  replace FA := Lib.hid (FA.out.still hb6)
  replace BEL0 := Lib.hid (belT BEL0.out hb6)
  clear hb6
  try unfold FracRes
  rw [HS.out]
  have cFA0 := FA.out.c0
  have cFA1 := FA.out.c1
  have lFA := FA.out.lt
  go_wp2_with fail
  obtain ⟨WFB, hWFB⟩ : ∃ WFB : World, WFB = w6.alloc (.cells #[.int .i64 (solU (shi g b)), .int .i64 (solD (shi g b))] 32) := ⟨_, rfl⟩
  have hbWFB : Below w6.heap.size w6 WFB := by rw [hWFB]; exact (Below.refl _ _).alloc (Nat.le_refl _) _
  have FB : Hid (Box2 WFB w6.heap.size (solU (shi g b)) (solD (shi g b))) := by show Box2 _ _ _ _; rw [hWFB]; exact Box2.new _ _ _
  rw [← hWFB]
  clear hWFB
  replace R0 := Lib.hid (stillRows R0.out hbWFB)
  replace X0 := Lib.hid (stillRows X0.out hbWFB)
  replace FA := Lib.hid (FA.out.still hbWFB)
  replace BEL0 := Lib.hid (belT BEL0.out hbWFB)
  clear hbWFB
  go_wp2_with fail
  refine (plus_impl (solU g) (solD g) b 1 _).mono ?_
  rintro e w7 ⟨rfl, hb7⟩
  replace R0 := Lib.hid (stillRows R0.out hb7)
  replace X0 := Lib.hid (stillRows X0.out hb7)
  replace FA := Lib.hid (FA.out.still hb7)
  replace FB := Lib.hid (FB.out.still hb7)
  replace BEL0 := Lib.hid (belT BEL0.out hb7)
  clear hb7
  clear cFA0 cFA1
  clear lFA
  have cFB0 := FB.out.c0
  have cFB1 := FB.out.c1
  have lFB := FB.out.lt
  go_wp2_with fail
  obtain ⟨WFC, hWFC⟩ : ∃ WFC : World, WFC = w7.alloc (.cells #[.int .i64 (psU (solU g) (solD g) b 1), .int .i64 (psD (solU g) (solD g) b 1)] 32) := ⟨_, rfl⟩
  have hbWFC : Below w7.heap.size w7 WFC := by rw [hWFC]; exact (Below.refl _ _).alloc (Nat.le_refl _) _
  have FC : Hid (Box2 WFC w7.heap.size (psU (solU g) (solD g) b 1) (psD (solU g) (solD g) b 1)) := by show Box2 _ _ _ _; rw [hWFC]; exact Box2.new _ _ _
  rw [← hWFC]
  clear hWFC
  replace R0 := Lib.hid (stillRows R0.out hbWFC)
  replace X0 := Lib.hid (stillRows X0.out hbWFC)
  replace FA := Lib.hid (FA.out.still hbWFC)
  replace FB := Lib.hid (FB.out.still hbWFC)
  replace BEL0 := Lib.hid (belT BEL0.out hbWFC)
  clear hbWFC
  clear cFB0 cFB1
  clear lFB
  have hw : IntKind.i64.wrap (-b) = -b := IntWalk.i64_in _ (by omega)
  go_wp2_with fail
  refine (I.shift _ _ (shi g b) (-b) hsl _ X0.out).mono ?_
  rintro e w8 ⟨TZ0, cZ0, rfl, hb8, ho8⟩
  rw [HK.out.2] at ho8 ⊢
  rw [HK.out.1]
  have Z0 := Lib.hid ho8.lt
  replace R0 := Lib.hid (stillRows R0.out hb8)
  replace X0 := Lib.hid (stillRows X0.out hb8)
  replace FA := Lib.hid (FA.out.still hb8)
  replace FB := Lib.hid (FB.out.still hb8)
  replace FC := Lib.hid (FC.out.still hb8)
  replace BEL0 := Lib.hid (belT BEL0.out hb8)
  clear hb8 ho8
  rcases hs : solB g with _ | _
  · skip
    clear hs HP HK HS hw
    clear X0
    clear FA
    go_wp2_with fail
    refine (sameRows _ _ _ _ g _ _ hl _ Z0.out R0.out).mono ?_
    rintro e w9 ⟨rfl, hq9⟩
    have hb9 : Below w8.heap.size w8 w9 := by obtain ⟨n, rfl⟩ := hq9; exact below_drewN (Below.refl _ _) n
    replace R0 := Lib.hid (stillRows R0.out hb9)
    replace FB := Lib.hid (FB.out.still hb9)
    replace FC := Lib.hid (FC.out.still hb9)
    replace Z0 := Lib.hid (stillRows Z0.out hb9)
    replace BEL0 := Lib.hid (belT BEL0.out hb9)
    clear hq9 hb9
    clear Z0
    clear R0
    go_wp2_with fail
    go_ret
    exact ⟨by simp, BEL0.out⟩
  · skip
    have HPS := Lib.hid (HP.out hs)
    rw [HPS.out.1]
    rw [HPS.out.2.1, HPS.out.2.2] at FC
    clear HPS
    clear hs HP HK HS hw
    clear X0
    clear FA
    go_wp2_with fail
    refine (sameRows _ _ _ _ g _ _ hl _ Z0.out R0.out).mono ?_
    rintro e w9 ⟨rfl, hq9⟩
    have hb9 : Below w8.heap.size w8 w9 := by obtain ⟨n, rfl⟩ := hq9; exact below_drewN (Below.refl _ _) n
    replace R0 := Lib.hid (stillRows R0.out hb9)
    replace FB := Lib.hid (FB.out.still hb9)
    replace FC := Lib.hid (FC.out.still hb9)
    replace Z0 := Lib.hid (stillRows Z0.out hb9)
    replace BEL0 := Lib.hid (belT BEL0.out hb9)
    clear hq9 hb9
    clear Z0
    clear R0
    have cFB0 := FB.out.c0
    have cFB1 := FB.out.c1
    have cFC0 := FC.out.c0
    have cFC1 := FC.out.c1
    go_wp2_with fail
    go_ret
    exact ⟨by simp, BEL0.out⟩

end Go.Proofs.Ytgjbahlebhnoiaa
