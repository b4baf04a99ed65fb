/- The walk of the law of BoxGame, over contracts of the program's functions. (Written by wip/gen/law6.py.) -/
import Derived.Test.YtjmmkbhdldeciaaLawBa
import Derived.Test.YtjmmkbhdldeciaaMO
namespace Go.Proofs.Ytjmmkbhdldeciaa
set_option linter.unusedSimpArgs false
set_option linter.unusedVariables false
open Go.RowKit

set_option maxHeartbeats 4000000 in
set_option maxRecDepth 100000 in
theorem wFnBoxGame (I : Impl6) (a : Option Addr) (len cap : Nat) (zs : List Int) (w : World) (h : IsRow .u8 w a len cap zs) :
    Calls Try.prog 4 #[.slice a len cap] w fun e w' => e = .returned (.bool true) ∧ Below w.heap.size w w' := by
  have hle := byte_len h
  by_cases hbig : (1048576 : Int) < (len : Int)
  · go_enter Try.func4, Try.ntmps4
    go_wp2_with fail
    go_ret
    exact ⟨rfl, Below.refl _ _⟩
  go_enter Try.func4, Try.ntmps4
  go_wp2_with fail
  refine (dDrawBoxGame a len cap zs w h).mono ?_
  rintro e w1 ⟨l, A, c, rfl, hl7, hb1, ho1⟩
  clear hbig hle
  have BEL0 := Lib.hid hb1
  have R0 : Hid (Ints w1 (· < w1.heap.size) A l) := ho1.ints.mono fun b hb => hb.2
  have hl : l.length ≤ 1048576 := by omega
  have hlm : l.length ≤ maxLen := by unfold maxLen; omega
  clear hb1 ho1
  have hgl : (boxG l).length ≤ maxLen := small_max (by have := (boxG_len l).1; omega)
  go_wp2_with fail
  refine (I.game A c l hl _ R0.out).mono ?_
  rintro e w2 ⟨TX0, cX0, rfl, hb2, ho2⟩
  have X0 := Lib.hid ho2.lt
  replace R0 := Lib.hid (stillInts R0.out hb2)
  replace BEL0 := Lib.hid (belT BEL0.out hb2)
  clear hb2 ho2
  go_wp2_with fail
  refine (boxGame_spec A c l hlm _ R0.out).mono ?_
  rintro e w3 ⟨TY0, cY0, rfl, hb3, ho3⟩
  have Y0 := Lib.hid ho3.lt
  replace R0 := Lib.hid (stillInts R0.out hb3)
  replace X0 := Lib.hid (stillRows X0.out hb3)
  replace BEL0 := Lib.hid (belT BEL0.out hb3)
  clear hb3 ho3
  go_wp2_with fail
  refine (sameRows _ _ _ _ (boxG l) _ _ hgl _ X0.out Y0.out).mono ?_
  rintro e w4 ⟨rfl, hq4⟩
  have hb4 : Below w3.heap.size w3 w4 := by obtain ⟨n, rfl⟩ := hq4; exact below_drewN (Below.refl _ _) n
  replace R0 := Lib.hid (stillInts R0.out hb4)
  replace X0 := Lib.hid (stillRows X0.out hb4)
  replace Y0 := Lib.hid (stillRows Y0.out hb4)
  replace BEL0 := Lib.hid (belT BEL0.out hb4)
  clear hq4 hb4
  clear Y0
  rcases hb : boxesB l with _ | _
  · skip
    have HZ : Hid ((boxG l).length = 0) := by rw [boxG_no hb]; rfl
    have zz : (((boxG l).length : Int) == 0) = true := by rw [HZ.out]; rfl
    have HB := Lib.hid hb
    clear hb
    go_wp2_with fail
    refine (I.ok A c l hl _ R0.out).mono ?_
    rintro e w5 ⟨rfl, hb5⟩
    replace R0 := Lib.hid (stillInts R0.out hb5)
    replace X0 := Lib.hid (stillRows X0.out hb5)
    replace BEL0 := Lib.hid (belT BEL0.out hb5)
    clear hb5
    rw [HB.out]
    go_wp2_with fail
    refine (alive _).mono ?_
    rintro e w9 ⟨rfl, hb9⟩
    have hb8 := Lib.hid (belT (w := w5) (by exact (by repeat (first | exact Below.refl _ _ | assumption | exact bel1 (by assumption) | exact bel2 (by assumption) | exact bel3 (by assumption) | exact bel4 (by assumption) | refine Below.drew ?_ | refine below_drewN ?_ _ | refine Below.setCell ?_ (by first | (simp; done) | (simp; omega)) _ | refine Below.alloc ?_ (by first | (simp; done) | (simp; omega)) _))) hb9)
    clear hb9
    go_wp2_with fail
    go_ret
    exact ⟨by first | rfl | (simp; done) | (simp; omega), belT BEL0.out hb8.out⟩
  have HX := Lib.hid (boxesB_iff.1 hb)
  have HGL : Hid ((boxG l).length = l.length) := by rw [boxG_yes hb]; exact boxT_length l
  have HROOF := Lib.hid (box_roof hb)
  have HFLOOR := Lib.hid (fun h2 => box_floor hb h2)
  have HGB : Hid (gameB (boxG l) = true) := (boxG_gameB l).trans hb
  have hlo := HX.out.lo
  have hhi := HX.out.hi
  have zz : (((boxG l).length : Int) == 0) = false := by rw [beq_eq_false_iff_ne, HGL.out]; omega
  clear hb
  obtain ⟨bl, ol, hA, hSl, _⟩ := R0.out (by omega)
  subst hA
  go_wp2_with fail
  go_loop [5, 6] (fun v i => ∃ k : Nat, k ≤ l.length ∧ i = .int .i64 k ∧ v = .int .i64 (minN l k)) (fun _ i => l.length - (intOf i).toNat)
  case atStart => exact ⟨0, Nat.zero_le _, rfl, rfl⟩
  case round =>
    obtain ⟨k, hk, rfl, rfl⟩ := hrel
    by_cases hlt : k < l.length
    · obtain ⟨b', o', e', _, hc⟩ := R0.out.at_ hlt
      injection e' with e'; injection e' with e1 e2
      subst e1 e2
      have hck := hc k hlt
      have hmin : (if nth l k < minN l k then nth l k else minN l k) = minN l (k + 1) := rfl
      clear hc
      go_wp2_with fail
      go_round
      case rel => exact ⟨k + 1, by omega, by go_num, congrArg (Value.int .i64) (by rw [← hmin]; split <;> omega)⟩
      case measure => simp [intOf]; omega
    · obtain rfl : k = l.length := by omega
      go_wp2_with fail
      refine (floor_impl _ _ (boxG l) hgl _ X0.out).mono ?_
      rintro e w5 ⟨rfl, hb5⟩
      replace R0 := Lib.hid (stillInts R0.out hb5)
      replace X0 := Lib.hid (stillRows X0.out hb5)
      replace BEL0 := Lib.hid (belT BEL0.out hb5)
      clear hb5
      go_wp2_with fail
      refine (roof_impl _ _ (boxG l) hgl _ X0.out).mono ?_
      rintro e w6 ⟨rfl, hb6⟩
      replace R0 := Lib.hid (stillInts R0.out hb6)
      replace X0 := Lib.hid (stillRows X0.out hb6)
      replace BEL0 := Lib.hid (belT BEL0.out hb6)
      clear hb6
      go_wp2_with fail
      refine (game_impl _ _ (boxG l) _ hgl _ X0.out).mono ?_
      rintro e wz ⟨rfl, rfl⟩
      rw [HGB.out, HROOF.out]
      have zM : (minN l l.length == minN l l.length) = true := by simp
      by_cases h1 : l.length = 1
      · skip
        have z1 : ((l.length : Int) == 1) = true := by rw [h1]; rfl
        clear h1
        go_wp2_with fail
        go_ret
        exact ⟨by first | rfl | (simp; done), BEL0.out⟩
      · skip
        have z1 : ((l.length : Int) == 1) = false := by rw [beq_eq_false_iff_ne]; omega
        rw [HFLOOR.out (by omega)]
        clear h1
        go_wp2_with fail
        go_ret
        exact ⟨by first | rfl | (simp; done), BEL0.out⟩

end Go.Proofs.Ytjmmkbhdldeciaa
