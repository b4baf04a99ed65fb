/- The walk of the law of WithoutColumn. (Written by wip/gen/law5.py.) -/
import Derived.Test.YtpiokclhalkmlaaLawY
import Derived.Test.YtpiokclhalkmlaaMO
namespace Go.Proofs.Ytpiokclhalkmlaa
set_option linter.unusedSimpArgs false
set_option linter.unusedVariables false
open Go.RowKit

set_option maxHeartbeats 4000000 in
set_option maxRecDepth 100000 in
theorem wFnWithoutColumn (a : Option Addr) (len cap : Nat) (zs : List Int) (w : World) (h : IsRow .u8 w a len cap zs) :
    Calls Try.prog 6 #[.slice a len cap] w fun e w' => e = .returned (.bool true) ∧ Below w.heap.size w w' := by
  have hle := byte_len h
  by_cases hbig : (1048576 : Int) < (len : Int)
  · go_enter Try.func6, Try.ntmps6
    go_wp2_with fail
    go_ret
    exact ⟨rfl, Below.refl _ _⟩
  go_enter Try.func6, Try.ntmps6
  go_wp2_with fail
  refine (dDrawWithoutColumn a len cap zs w h).mono ?_
  rintro e w1 ⟨g, T, c, b, rfl, hc1, hc2, hg17, hgr, hbl, hbh, hb1, ho1⟩
  clear hbig hle
  have BEL0 := Lib.hid hb1
  have R0 := Lib.hid ho1.lt
  have hl := small_max hg17
  clear hb1 ho1 hgr
  have zB : (woCB g b != woCB g b) = false := by simp
  have hxl : (woCT g b).length ≤ maxLen := woCT_max g b
  go_wp2_with fail
  refine (woCol_impl T c g b hl _ R0.out).mono ?_
  rintro e w2 ⟨TX0, cX0, rfl, _, _, hb2, ho2⟩
  have X0 := Lib.hid ho2.lt
  replace R0 := Lib.hid (stillRows R0.out hb2)
  replace BEL0 := Lib.hid (belT BEL0.out hb2)
  clear hb2 ho2
  go_wp2_with fail
  refine (woCol_spec T c g b hl _ R0.out).mono ?_
  rintro e w3 ⟨TY0, cY0, rfl, hb3, ho3⟩
  have Y0 := Lib.hid ho3.lt
  replace R0 := Lib.hid (stillRows R0.out hb3)
  replace X0 := Lib.hid (stillRows X0.out hb3)
  replace BEL0 := Lib.hid (belT BEL0.out hb3)
  clear hb3 ho3
  go_wp2_with fail
  refine (sameRows _ _ _ _ (woCT g b) _ _ hxl _ X0.out Y0.out).mono ?_
  rintro e w4 ⟨rfl, hq4⟩
  have hb4 : Below w3.heap.size w3 w4 := by obtain ⟨n, rfl⟩ := hq4; exact below_drewN (Below.refl _ _) n
  replace R0 := Lib.hid (stillRows R0.out hb4)
  replace X0 := Lib.hid (stillRows X0.out hb4)
  replace Y0 := Lib.hid (stillRows Y0.out hb4)
  replace BEL0 := Lib.hid (belT BEL0.out hb4)
  clear hq4 hb4
  clear Y0
  rcases hb : woCB g b with _ | _
  · skip
    have HZ : Hid ((woCT g b).length = 0) := by rw [woCT_no hb]; rfl
    have zz : (((woCT g b).length : Int) == 0) = true := by rw [HZ.out]; rfl
    clear hb
    go_wp2_with fail
    refine (alive _).mono ?_
    rintro e w9 ⟨rfl, hb9⟩
    have hb8 := Lib.hid (belT (w := w4) (by exact (by repeat (first | exact Below.refl _ _ | assumption | exact bel1 (by assumption) | exact bel2 (by assumption) | exact bel3 (by assumption) | exact bel4 (by assumption) | refine Below.drew ?_ | refine below_drewN ?_ _ | refine Below.setCell ?_ (by first | (simp; done) | (simp; omega)) _ | refine Below.alloc ?_ (by first | (simp; done) | (simp; omega)) _))) hb9)
    clear hb9
    go_wp2_with fail
    go_ret
    exact ⟨by first | rfl | (simp; done) | (simp; omega), belT BEL0.out hb8.out⟩
  obtain ⟨gx, lx, _⟩ := woCT_game hb
  have HGX := Lib.hid gx
  have HSOL := Lib.hid (fun hs => sol_woCT (g := g) hb hs)
  have HEQ := Lib.hid (fun hs (x : Int) hw => sol_woCT_eq (g := g) (b := x) hb hs hw)
  obtain ⟨hgm, h2, _, _⟩ := woCB_iff.1 hb
  have hlo := (Game.of hgm).lo
  have hhi := (Game.of hgm).hi
  have hmhi := (Game.of hgm).mhi
  clear hb gx zB hgm
  clear lx
  have HW : Hid (∀ (k : Nat) (w' : World), Below w4.heap.size w4 w' → Calls Try.prog 19 #[.slice T g.length c, .int .i64 b, .int .i64 (k : Int)] w' (Adds (.bool (wcB g b (k : Int))) w')) := fun k w' hb' => worseCol_impl T c g b (k : Int) hl w' (stillRows R0.out hb')
  obtain ⟨bt, ot, rfl⟩ := R0.out.some (by omega)
  obtain ⟨hSt, A0, c0, hc00, hl0, hm0, _⟩ := R0.out.row (i := 0) (by omega)
  rw [Nat.add_zero] at hc00
  unfold maxLen at hm0
  have HC0 : Hid (∀ w' : World, Below w4.heap.size w4 w' → w'.cell? ⟨bt, ot, none⟩ = some (.slice A0 (rowAt g 0).length c0)) := fun w' hb' => (hb'.cell (p := ⟨bt, ot, none⟩) hSt).trans hc00
  clear hc00
  go_wp2_with fail
  go_loopw [9, 10] (fun v i wr => ∃ k : Nat, k ≤ (rowAt g 0).length ∧ i = .int .i64 k ∧ v = .bool (anyN (fun j => wcB g b (j : Int)) k) ∧ Hid (Below w4.heap.size w4 wr)) (fun _ i _ => (rowAt g 0).length - (intOf i).toNat)
  case atStart => exact ⟨0, Nat.zero_le _, rfl, rfl, Below.refl _ _⟩
  case round =>
    obtain ⟨k, hk, rfl, rfl, HV⟩ := hrel
    have hc0 := HC0.out _ HV.out
    by_cases hlt : k < (rowAt g 0).length
    · rcases hp : anyN (fun j => wcB g b (j : Int)) k with _ | _
      · have HS : Hid (anyN (fun j => wcB g b (j : Int)) (k + 1) = wcB g b (k : Int)) := by show (anyN _ k || _) = _; rw [hp]; rfl
        clear hp
        go_wp2_with fail
        refine (HW.out k _ HV.out).mono ?_
        rintro e w5 ⟨rfl, hb5⟩
        have HV2 := Lib.hid (belT HV.out hb5)
        clear hb5
        go_wp2_with fail
        go_roundw
        case rel => exact ⟨k + 1, by omega, by go_num, by rw [HS.out], HV2⟩
        case measure => simp [intOf]; omega
      · have HS : Hid (anyN (fun j => wcB g b (j : Int)) (k + 1) = true) := by show (anyN _ k || _) = _; rw [hp]; rfl
        clear hp
        go_wp2_with fail
        go_roundw
        case rel => exact ⟨k + 1, by omega, by go_num, by rw [HS.out], HV⟩
        case measure => simp [intOf]; omega
    · obtain rfl : k = (rowAt g 0).length := by omega
      have hbV := HV.out
      clear HV HW
      replace R0 := Lib.hid (stillRows R0.out hbV)
      replace X0 := Lib.hid (stillRows X0.out hbV)
      replace BEL0 := Lib.hid (belT BEL0.out hbV)
      clear hbV
      clear HC0
      rcases hs : solB g with _ | _
      · skip
        have HS1 := Lib.hid hs
        clear hs HSOL HEQ
        go_wp2_with fail
        refine (worth_impl _ _ g hl _ R0.out).mono ?_
        rintro e w11 ⟨rfl, hb11⟩
        replace R0 := Lib.hid (stillRows R0.out hb11)
        replace X0 := Lib.hid (stillRows X0.out hb11)
        replace BEL0 := Lib.hid (belT BEL0.out hb11)
        clear hb11
        try unfold FracRes
        rw [HS1.out]
        go_wp2_with fail
        obtain ⟨WFA, hWFA⟩ : ∃ WFA : World, WFA = w11.alloc (.cells #[.int .i64 (solU g), .int .i64 (solD g)] 38) := ⟨_, rfl⟩
        have hbWFA : Below w11.heap.size w11 WFA := by rw [hWFA]; exact (Below.refl _ _).alloc (Nat.le_refl _) _
        have FA : Hid (Box2 WFA w11.heap.size (solU g) (solD g)) := by show Box2 _ _ _ _; rw [hWFA]; exact Box2.new _ _ _
        rw [← hWFA]
        clear hWFA
        replace R0 := Lib.hid (stillRows R0.out hbWFA)
        replace X0 := Lib.hid (stillRows X0.out hbWFA)
        replace BEL0 := Lib.hid (belT BEL0.out hbWFA)
        clear hbWFA
        clear R0
        go_wp2_with fail
        refine (worth_impl _ _ (woCT g b) hxl _ X0.out).mono ?_
        rintro e w12 ⟨rfl, hb12⟩
        replace X0 := Lib.hid (stillRows X0.out hb12)
        replace FA := Lib.hid (FA.out.still hb12)
        replace BEL0 := Lib.hid (belT BEL0.out hb12)
        clear hb12
        try unfold FracRes
        have cFA0 := FA.out.c0
        have cFA1 := FA.out.c1
        have lFA := FA.out.lt
        go_wp2_with fail
        obtain ⟨WFB, hWFB⟩ : ∃ WFB : World, WFB = w12.alloc (.cells #[.int .i64 (solU (woCT g b)), .int .i64 (solD (woCT g b))] 38) := ⟨_, rfl⟩
        have hbWFB : Below w12.heap.size w12 WFB := by rw [hWFB]; exact (Below.refl _ _).alloc (Nat.le_refl _) _
        have FB : Hid (Box2 WFB w12.heap.size (solU (woCT g b)) (solD (woCT g b))) := by show Box2 _ _ _ _; rw [hWFB]; exact Box2.new _ _ _
        rw [← hWFB]
        clear hWFB
        replace X0 := Lib.hid (stillRows X0.out hbWFB)
        replace FA := Lib.hid (FA.out.still hbWFB)
        replace BEL0 := Lib.hid (belT BEL0.out hbWFB)
        clear hbWFB
        clear cFA0 cFA1
        clear lFA
        refine (game_impl _ _ (woCT g b) _ hxl _ X0.out).mono ?_
        rintro e wz ⟨rfl, rfl⟩
        rw [HGX.out]
        go_wp2_with fail
        go_ret
        exact ⟨by first | rfl | (simp; done), BEL0.out⟩
      obtain ⟨hx1, hl1⟩ := HSOL.out hs
      have HS1 := Lib.hid hs
      have HX1 := Lib.hid hx1
      clear hx1 HSOL
      rcases hw : anyN (fun j => wcB g b (j : Int)) (rowAt g 0).length with _ | _
      · skip
        have HL := Lib.hid hl1
        clear hs hw hl1 HEQ
        go_wp2_with fail
        refine (worth_impl _ _ g hl _ R0.out).mono ?_
        rintro e w11 ⟨rfl, hb11⟩
        replace R0 := Lib.hid (stillRows R0.out hb11)
        replace X0 := Lib.hid (stillRows X0.out hb11)
        replace BEL0 := Lib.hid (belT BEL0.out hb11)
        clear hb11
        try unfold FracRes
        try rw [HS1.out]
        go_wp2_with fail
        obtain ⟨WFA, hWFA⟩ : ∃ WFA : World, WFA = w11.alloc (.cells #[.int .i64 (solU g), .int .i64 (solD g)] 38) := ⟨_, rfl⟩
        have hbWFA : Below w11.heap.size w11 WFA := by rw [hWFA]; exact (Below.refl _ _).alloc (Nat.le_refl _) _
        have FA : Hid (Box2 WFA w11.heap.size (solU g) (solD g)) := by show Box2 _ _ _ _; rw [hWFA]; exact Box2.new _ _ _
        rw [← hWFA]
        clear hWFA
        replace R0 := Lib.hid (stillRows R0.out hbWFA)
        replace X0 := Lib.hid (stillRows X0.out hbWFA)
        replace BEL0 := Lib.hid (belT BEL0.out hbWFA)
        clear hbWFA
        clear R0
        go_wp2_with fail
        refine (worth_impl _ _ (woCT g b) hxl _ X0.out).mono ?_
        rintro e w12 ⟨rfl, hb12⟩
        replace X0 := Lib.hid (stillRows X0.out hb12)
        replace FA := Lib.hid (FA.out.still hb12)
        replace BEL0 := Lib.hid (belT BEL0.out hb12)
        clear hb12
        try unfold FracRes
        rw [HX1.out]
        have cFA0 := FA.out.c0
        have cFA1 := FA.out.c1
        have lFA := FA.out.lt
        go_wp2_with fail
        obtain ⟨WFB, hWFB⟩ : ∃ WFB : World, WFB = w12.alloc (.cells #[.int .i64 (solU (woCT g b)), .int .i64 (solD (woCT g b))] 38) := ⟨_, rfl⟩
        have hbWFB : Below w12.heap.size w12 WFB := by rw [hWFB]; exact (Below.refl _ _).alloc (Nat.le_refl _) _
        have FB : Hid (Box2 WFB w12.heap.size (solU (woCT g b)) (solD (woCT g b))) := by show Box2 _ _ _ _; rw [hWFB]; exact Box2.new _ _ _
        rw [← hWFB]
        clear hWFB
        replace X0 := Lib.hid (stillRows X0.out hbWFB)
        replace FA := Lib.hid (FA.out.still hbWFB)
        replace BEL0 := Lib.hid (belT BEL0.out hbWFB)
        clear hbWFB
        clear cFA0 cFA1
        clear lFA
        refine (game_impl _ _ (woCT g b) _ hxl _ X0.out).mono ?_
        rintro e wz ⟨rfl, rfl⟩
        rw [HGX.out]
        have cFA0 := FA.out.c0
        have cFA1 := FA.out.c1
        have cFB0 := FB.out.c0
        have cFB1 := FB.out.c1
        go_wp2_with fail
        refine (less_impl (solU (woCT g b)) (solD (woCT g b)) (solU g) (solD g) _).mono ?_
        rintro e w13 ⟨rfl, hb13⟩
        rw [HL.out]
        clear cFA0 cFA1
        clear cFB0 cFB1
        replace X0 := Lib.hid (stillRows X0.out hb13)
        replace FA := Lib.hid (FA.out.still hb13)
        replace FB := Lib.hid (FB.out.still hb13)
        replace BEL0 := Lib.hid (belT BEL0.out hb13)
        clear hb13
        have cFA0 := FA.out.c0
        have cFA1 := FA.out.c1
        have cFB0 := FB.out.c0
        have cFB1 := FB.out.c1
        go_wp2_with fail
        go_ret
        exact ⟨by first | rfl | (simp; done), BEL0.out⟩
      · skip
        obtain ⟨j, _, hj⟩ := anyN_iff.1 hw
        have HE := Lib.hid (HEQ.out hs (j : Int) hj)
        rw [HE.out.1, HE.out.2] at hl1
        have HL := Lib.hid hl1
        clear hs hw hl1 hj HEQ
        go_wp2_with fail
        refine (worth_impl _ _ g hl _ R0.out).mono ?_
        rintro e w11 ⟨rfl, hb11⟩
        replace R0 := Lib.hid (stillRows R0.out hb11)
        replace X0 := Lib.hid (stillRows X0.out hb11)
        replace BEL0 := Lib.hid (belT BEL0.out hb11)
        clear hb11
        try unfold FracRes
        try rw [HS1.out]
        go_wp2_with fail
        obtain ⟨WFA, hWFA⟩ : ∃ WFA : World, WFA = w11.alloc (.cells #[.int .i64 (solU g), .int .i64 (solD g)] 38) := ⟨_, rfl⟩
        have hbWFA : Below w11.heap.size w11 WFA := by rw [hWFA]; exact (Below.refl _ _).alloc (Nat.le_refl _) _
        have FA : Hid (Box2 WFA w11.heap.size (solU g) (solD g)) := by show Box2 _ _ _ _; rw [hWFA]; exact Box2.new _ _ _
        rw [← hWFA]
        clear hWFA
        replace R0 := Lib.hid (stillRows R0.out hbWFA)
        replace X0 := Lib.hid (stillRows X0.out hbWFA)
        replace BEL0 := Lib.hid (belT BEL0.out hbWFA)
        clear hbWFA
        clear R0
        go_wp2_with fail
        refine (worth_impl _ _ (woCT g b) hxl _ X0.out).mono ?_
        rintro e w12 ⟨rfl, hb12⟩
        replace X0 := Lib.hid (stillRows X0.out hb12)
        replace FA := Lib.hid (FA.out.still hb12)
        replace BEL0 := Lib.hid (belT BEL0.out hb12)
        clear hb12
        try unfold FracRes
        rw [HX1.out]
        rw [HE.out.1, HE.out.2]
        have cFA0 := FA.out.c0
        have cFA1 := FA.out.c1
        have lFA := FA.out.lt
        go_wp2_with fail
        obtain ⟨WFB, hWFB⟩ : ∃ WFB : World, WFB = w12.alloc (.cells #[.int .i64 (solU g), .int .i64 (solD g)] 38) := ⟨_, rfl⟩
        have hbWFB : Below w12.heap.size w12 WFB := by rw [hWFB]; exact (Below.refl _ _).alloc (Nat.le_refl _) _
        have FB : Hid (Box2 WFB w12.heap.size (solU g) (solD g)) := by show Box2 _ _ _ _; rw [hWFB]; exact Box2.new _ _ _
        rw [← hWFB]
        clear hWFB
        replace X0 := Lib.hid (stillRows X0.out hbWFB)
        replace FA := Lib.hid (FA.out.still hbWFB)
        replace BEL0 := Lib.hid (belT BEL0.out hbWFB)
        clear hbWFB
        clear cFA0 cFA1
        clear lFA
        refine (game_impl _ _ (woCT g b) _ hxl _ X0.out).mono ?_
        rintro e wz ⟨rfl, rfl⟩
        rw [HGX.out]
        have cFA0 := FA.out.c0
        have cFA1 := FA.out.c1
        have cFB0 := FB.out.c0
        have cFB1 := FB.out.c1
        go_wp2_with fail
        refine (less_impl (solU g) (solD g) (solU g) (solD g) _).mono ?_
        rintro e w13 ⟨rfl, hb13⟩
        rw [HL.out]
        clear cFA0 cFA1
        clear cFB0 cFB1
        replace X0 := Lib.hid (stillRows X0.out hb13)
        replace FA := Lib.hid (FA.out.still hb13)
        replace FB := Lib.hid (FB.out.still hb13)
        replace BEL0 := Lib.hid (belT BEL0.out hb13)
        clear hb13
        have cFA0 := FA.out.c0
        have cFA1 := FA.out.c1
        have cFB0 := FB.out.c0
        have cFB1 := FB.out.c1
        go_wp2_with fail
        go_ret
        exact ⟨by first | rfl | (simp; done), BEL0.out⟩

end Go.Proofs.Ytpiokclhalkmlaa
