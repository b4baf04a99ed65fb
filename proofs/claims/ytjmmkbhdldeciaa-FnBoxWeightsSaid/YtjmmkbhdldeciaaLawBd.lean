/- The walk of the law of BoxWeights, over contracts of the program's functions. (Written by wip/gen/law6.py.) -/
import Derived.Test.YtjmmkbhdldeciaaLawBa
import Derived.Test.YtjmmkbhdldeciaaMO
import Derived.Test.YtjmmkbhdldeciaaMI
namespace Go.Proofs.Ytjmmkbhdldeciaa
set_option linter.unusedSimpArgs false
set_option linter.unusedVariables false
open Go.RowKit

set_option maxHeartbeats 4000000 in
set_option maxRecDepth 100000 in
theorem wFnBoxWeights (I : Impl6) (a : Option Addr) (len cap : Nat) (zs : List Int) (w : World) (h : IsRow .u8 w a len cap zs) :
    Calls Try.prog 6 #[.slice a len cap] w fun e w' => e = .returned (.bool true) ∧ Below w.heap.size w w' := by
  have hle := byte_len h
  by_cases hbig : (1048576 : Int) < (len : Int)
  · go_enter Try.func6, Try.ntmps6
    go_wp2_with fail
    go_ret
    exact ⟨rfl, Below.refl _ _⟩
  go_enter Try.func6, Try.ntmps6
  go_wp2_with fail
  refine (dDrawBoxWeights a len cap zs w h).mono ?_
  rintro e w1 ⟨l, A, c, rfl, hl7, hb1, ho1⟩
  clear hbig hle
  have BEL0 := Lib.hid hb1
  have R0 : Hid (Ints w1 (· < w1.heap.size) A l) := ho1.ints.mono fun b hb => hb.2
  have hl : l.length ≤ 1048576 := by omega
  have hlm : l.length ≤ maxLen := by unfold maxLen; omega
  clear hb1 ho1
  have hgl : (boxG l).length ≤ maxLen := small_max (by have := (boxG_len l).1; omega)
  have hwl : (boxWts l).length ≤ 6 := boxWts_len l
  have hwm : (boxWts l).length ≤ maxLen := by unfold maxLen; omega
  go_wp2_with fail
  refine (I.weights A c l hl _ R0.out).mono ?_
  rintro e w2 ⟨TX0, cX0, rfl, hb2, ho2⟩
  have X0 : Hid (Ints w2 (· < w2.heap.size) TX0 _) := own_lt ho2
  replace R0 := Lib.hid (stillInts R0.out hb2)
  replace BEL0 := Lib.hid (belT BEL0.out hb2)
  clear hb2 ho2
  go_wp2_with fail
  refine (boxWts_spec A c l hlm _ R0.out).mono ?_
  rintro e w3 ⟨TY0, cY0, rfl, hb3, ho3⟩
  have Y0 : Hid (Ints w3 (· < w3.heap.size) TY0 _) := own_lt ho3
  replace R0 := Lib.hid (stillInts R0.out hb3)
  replace X0 := Lib.hid (stillInts X0.out hb3)
  replace BEL0 := Lib.hid (belT BEL0.out hb3)
  clear hb3 ho3
  go_wp2_with fail
  refine (sameInts _ _ _ _ (boxWts l) _ _ hwm _ X0.out Y0.out).mono ?_
  rintro e w4 ⟨rfl, hq4⟩
  have hb4 : Below w3.heap.size w3 w4 := by obtain ⟨n, rfl⟩ := hq4; exact below_drewN (Below.refl _ _) n
  replace R0 := Lib.hid (stillInts R0.out hb4)
  replace X0 := Lib.hid (stillInts X0.out hb4)
  replace Y0 := Lib.hid (stillInts Y0.out hb4)
  replace BEL0 := Lib.hid (belT BEL0.out hb4)
  clear hq4 hb4
  clear Y0
  rcases hb : boxesB l with _ | _
  · skip
    have HZ : Hid ((boxWts l).length = 0) := by rw [(bx_no hb).2.2]; rfl
    have zz : (((boxWts l).length : Int) == 0) = true := by rw [HZ.out]; rfl
    have HB := Lib.hid hb
    clear hb
    go_wp2_with fail
    refine (I.ok A c l hl _ R0.out).mono ?_
    rintro e w5 ⟨rfl, hb5⟩
    replace R0 := Lib.hid (stillInts R0.out hb5)
    replace X0 := Lib.hid (stillInts X0.out hb5)
    replace BEL0 := Lib.hid (belT BEL0.out hb5)
    clear hb5
    rw [HB.out]
    go_wp2_with fail
    refine (alive _).mono ?_
    rintro e w9 ⟨rfl, hb9⟩
    have hb8 := Lib.hid (belT (w := w5) (by exact (by repeat (first | exact Below.refl _ _ | assumption | exact bel1 (by assumption) | exact bel2 (by assumption) | exact bel3 (by assumption) | exact bel4 (by assumption) | refine Below.drew ?_ | refine below_drewN ?_ _ | refine Below.setCell ?_ (by first | (simp; done) | (simp; omega)) _ | refine Below.alloc ?_ (by first | (simp; done) | (simp; omega)) _))) hb9)
    clear hb9
    go_wp2_with fail
    go_ret
    exact ⟨by first | rfl | (simp; done) | (simp; omega), belT BEL0.out hb8.out⟩
  have HX := Lib.hid (boxesB_iff.1 hb)
  have HLW : Hid ((boxWts l).length = l.length) := by rw [boxWts_yes hb]; exact wts_length l
  have HP : Hid (∀ k, k < l.length → nth l k * nth (boxWts l) k = ovW l) := fun k hk => by rw [boxWts_yes hb, nth_wts l k hk, Int.mul_comm]; exact wt_mul (boxesB_iff.1 hb) hk
  have HSET : Hid (setB (boxG l) (boxWts l) (boxWts l) = true) := by rw [boxWts_yes hb, boxG_yes hb]; exact box_set (boxesB_iff.1 hb)
  have HOV := Lib.hid (Boxes.ov (boxesB_iff.1 hb))
  have hlo := HX.out.lo
  have hhi := HX.out.hi
  have zz : (((boxWts l).length : Int) == 0) = false := by rw [beq_eq_false_iff_ne, HLW.out]; omega
  have HW : Hid (∀ k, k < l.length → IntKind.i64.wrap (nth l k * nth (boxWts l) k) = ovW l) := fun k hk => by rw [HP.out k hk]; exact IntWalk.i64_in _ ⟨by have := HOV.out.1; omega, by have := HOV.out.2; omega⟩
  clear hb
  go_wp2_with fail
  go_loopw [5] (fun i wr => ∃ k : Nat, k ≤ l.length ∧ i = .int .i64 k ∧ ∃ n, wr = w4.drewN n) (fun i _ => l.length - (intOf i).toNat)
  case atStart => exact ⟨0, Nat.zero_le _, rfl, 0, rfl⟩
  case round =>
    obtain ⟨k, hk, rfl, nw, rfl⟩ := hrel
    by_cases hlt : k < l.length
    · obtain ⟨bl, ol, hA, _, hc⟩ := R0.out.at_ hlt
      subst hA
      have hck := hc k hlt
      have hc0 := hc 0 (by omega)
      obtain ⟨bx, ox, hB, _, hd⟩ := X0.out.at_ (i := k) (by rw [HLW.out]; exact hlt)
      subst hB
      have hdk := hd k (by rw [HLW.out]; exact hlt)
      have hd0 := hd 0 (by rw [HLW.out]; omega)
      have hwk := HW.out k hlt
      have hwz := HW.out 0 (by omega)
      have q1 : (0 : Int) ≤ (k : Int) := by omega
      have q2 : (k : Int) < (l.length : Int) := by omega
      have q3 : (k : Int) < ((boxWts l).length : Int) := by rw [HLW.out]; omega
      have q4 : (0 : Int) < (l.length : Int) := by omega
      have q5 : (0 : Int) < ((boxWts l).length : Int) := by rw [HLW.out]; omega
      have q6 : 0 < l.length := by omega
      have q7 : 0 < (boxWts l).length := by rw [HLW.out]; omega
      have q8 : l ≠ [] := by intro h; rw [h] at q6; exact absurd q6 (by decide)
      have q9 : (boxWts l) ≠ [] := by intro h; rw [h] at q7; exact absurd q7 (by decide)
      simp only [Nat.add_zero] at hc0 hd0
      clear hc hd
      go_wp2_with fail
      go_quiet (fail)
      go_wp2_with fail
      go_roundw
      case rel => exact ⟨k + 1, by omega, by go_num, _, by first | rfl | (rw [World.drewN_drewN])⟩
      case measure => simp [intOf]; omega
    · obtain rfl : k = l.length := by omega
      obtain ⟨wr, hwr⟩ : ∃ wr, wr = w4.drewN nw := ⟨_, rfl⟩
      have hbV : Below w4.heap.size w4 wr := by rw [hwr]; exact below_drewN (Below.refl _ _) nw
      rw [← hwr]
      clear hwr
      replace R0 := Lib.hid (stillInts R0.out hbV)
      replace X0 := Lib.hid (stillInts X0.out hbV)
      replace BEL0 := Lib.hid (belT BEL0.out hbV)
      clear hbV
      go_wp2_with fail
      refine (I.game A c l hl _ R0.out).mono ?_
      rintro e w11 ⟨TG0, cG0, rfl, hb11, ho11⟩
      have G0 := Lib.hid ho11.lt
      replace R0 := Lib.hid (stillInts R0.out hb11)
      replace X0 := Lib.hid (stillInts X0.out hb11)
      replace BEL0 := Lib.hid (belT BEL0.out hb11)
      clear hb11 ho11
      go_wp2_with fail
      refine (set_impl _ _ _ _ _ _ (boxG l) (boxWts l) (boxWts l) hgl (by omega) (by omega) _ G0.out X0.out X0.out).mono ?_
      rintro e w9 ⟨rfl, hb9⟩
      rw [HSET.out]
      have BEL9 := Lib.hid (belT BEL0.out hb9)
      clear hb9
      go_wp2_with fail
      go_ret
      exact ⟨by first | rfl | (simp; done), BEL9.out⟩

end Go.Proofs.Ytjmmkbhdldeciaa
