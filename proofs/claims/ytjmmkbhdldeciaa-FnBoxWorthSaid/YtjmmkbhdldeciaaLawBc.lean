/- The walk of the law of BoxWorth, over contracts of the program's functions. (Written by wip/gen/law6.py.) -/
import Derived.Test.YtjmmkbhdldeciaaLawBa
import Derived.Test.YtjmmkbhdldeciaaMO
namespace Go.Proofs.Ytjmmkbhdldeciaa
set_option linter.unusedSimpArgs false
set_option linter.unusedVariables false
open Go.RowKit

set_option maxHeartbeats 4000000 in
set_option maxRecDepth 100000 in
theorem wFnBoxWorth (I : Impl6) (a : Option Addr) (len cap : Nat) (zs : List Int) (w : World) (h : IsRow .u8 w a len cap zs) :
    Calls Try.prog 5 #[.slice a len cap] w fun e w' => e = .returned (.bool true) ∧ Below w.heap.size w w' := by
  have hle := byte_len h
  by_cases hbig : (1048576 : Int) < (len : Int)
  · go_enter Try.func5, Try.ntmps5
    go_wp2_with fail
    go_ret
    exact ⟨rfl, Below.refl _ _⟩
  go_enter Try.func5, Try.ntmps5
  go_wp2_with fail
  refine (dDrawBoxWorth a len cap zs w h).mono ?_
  rintro e w1 ⟨l, A, c, rfl, hl7, hb1, ho1⟩
  clear hbig hle
  have BEL0 := Lib.hid hb1
  have R0 : Hid (Ints w1 (· < w1.heap.size) A l) := ho1.ints.mono fun b hb => hb.2
  have hl : l.length ≤ 1048576 := by omega
  have hlm : l.length ≤ maxLen := by unfold maxLen; omega
  clear hb1 ho1
  have hgl : (boxG l).length ≤ maxLen := small_max (by have := (boxG_len l).1; omega)
  go_wp2_with fail
  refine (I.worth A c l hl _ R0.out).mono ?_
  rintro e w2 ⟨rfl, hb2⟩
  replace R0 := Lib.hid (stillInts R0.out hb2)
  replace BEL0 := Lib.hid (belT BEL0.out hb2)
  clear hb2
  try unfold FracRes
  go_wp2_with fail
  obtain ⟨WFA, hWFA⟩ : ∃ WFA : World, WFA = w2.alloc (.cells #[.int .i64 (bxU l), .int .i64 (bxD l)] 35) := ⟨_, rfl⟩
  have hbWFA : Below w2.heap.size w2 WFA := by rw [hWFA]; exact (Below.refl _ _).alloc (Nat.le_refl _) _
  have FA : Hid (Box2 WFA w2.heap.size (bxU l) (bxD l)) := by show Box2 _ _ _ _; rw [hWFA]; exact Box2.new _ _ _
  rw [← hWFA]
  clear hWFA
  replace R0 := Lib.hid (stillInts R0.out hbWFA)
  replace BEL0 := Lib.hid (belT BEL0.out hbWFA)
  clear hbWFA
  go_wp2_with fail
  refine (boxWorth_spec A c l hlm _ R0.out).mono ?_
  rintro e w3 ⟨rfl, hb3⟩
  replace R0 := Lib.hid (stillInts R0.out hb3)
  replace FA := Lib.hid (FA.out.still hb3)
  replace BEL0 := Lib.hid (belT BEL0.out hb3)
  clear hb3
  try unfold FracRes
  have cFA0 := FA.out.c0
  have cFA1 := FA.out.c1
  have ltA := FA.out.lt
  rcases hb : boxesB l with _ | _
  · skip
    have HU := Lib.hid (bx_no hb)
    rw [HU.out.1] at cFA0
    rw [HU.out.2.1] at cFA1
    rw [HU.out.1, HU.out.2.1]
    clear hb
    go_wp2_with fail
    refine (alive _).mono ?_
    rintro e w9 ⟨rfl, hb9⟩
    have hb8 := Lib.hid (belT (w := w3) (by exact (by repeat (first | exact Below.refl _ _ | assumption | exact bel1 (by assumption) | exact bel2 (by assumption) | exact bel3 (by assumption) | exact bel4 (by assumption) | refine Below.drew ?_ | refine below_drewN ?_ _ | refine Below.setCell ?_ (by first | (simp; done) | (simp; omega)) _ | refine Below.alloc ?_ (by first | (simp; done) | (simp; omega)) _))) hb9)
    clear hb9
    go_wp2_with fail
    go_ret
    exact ⟨by first | rfl | (simp; done), belT BEL0.out hb8.out⟩
  have zU : (bxU l != bxU l) = false := by simp
  have zD : (bxD l != bxD l) = false := by simp
  have HX := Lib.hid (boxesB_iff.1 hb)
  have HLESS : Hid (∀ (k : Nat) (w' : World), k < l.length → Calls Try.prog 27 #[.agg #[.int .i64 (nth l k), .int .i64 1], .agg #[.int .i64 (bxU l), .int .i64 (bxD l)]] w' fun e w'' => e = .returned (.bool false) ∧ Below w'.heap.size w' w'') := fun k w' hk => by have := less_impl (nth l k) 1 (bxU l) (bxD l) w'; rwa [bx_less hb hk] at this
  have HSOL := Lib.hid (bx_sol hb)
  have hhi := HX.out.hi
  clear hb
  go_wp2_with fail
  clear cFA0 cFA1
  clear ltA zU zD
  obtain ⟨WFB, hWFB⟩ : ∃ WFB : World, WFB = w3.alloc (.cells #[.int .i64 (bxU l), .int .i64 (bxD l)] 35) := ⟨_, rfl⟩
  have hbWFB : Below w3.heap.size w3 WFB := by rw [hWFB]; exact (by repeat (first | exact Below.refl _ _ | assumption | exact bel1 (by assumption) | exact bel2 (by assumption) | exact bel3 (by assumption) | exact bel4 (by assumption) | refine Below.drew ?_ | refine below_drewN ?_ _ | refine Below.setCell ?_ (by first | (simp; done) | (simp; omega)) _ | refine Below.alloc ?_ (by first | (simp; done) | (simp; omega)) _))
  rw [← hWFB]
  clear hWFB
  replace R0 := Lib.hid (stillInts R0.out hbWFB)
  replace FA := Lib.hid (FA.out.still hbWFB)
  replace BEL0 := Lib.hid (belT BEL0.out hbWFB)
  clear hbWFB
  go_loopw [8] (fun i wr => ∃ k : Nat, k ≤ l.length ∧ i = .int .i64 k ∧ Hid (Below WFB.heap.size WFB wr)) (fun i _ => l.length - (intOf i).toNat)
  case atStart => exact ⟨0, Nat.zero_le _, rfl, Below.refl _ _⟩
  case round =>
    obtain ⟨k, hk, rfl, HV⟩ := hrel
    by_cases hlt : k < l.length
    · obtain ⟨bl, ol, hA, hSl, hc⟩ := (stillInts R0.out HV.out).at_ hlt
      subst hA
      have FW := FA.out.still HV.out
      have E1 := stays (p := bl) hSl (hc k hlt)
      have E2 := stays FW.lt FW.c0
      have E3 := stays FW.lt FW.c1
      have q1 : (0 : Int) ≤ (k : Int) := by omega
      have q2 : (k : Int) < (l.length : Int) := by omega
      clear hc FW
      go_wp2_with fail
      go_region_held3 (fun w' => Below wr.heap.size wr w')
        (first | exact Below.refl _ _ | exact Below.drew (Below.refl _ _) | (refine Below.drew ?_; assumption) | exact belT (by assumption) (by assumption) | assumption)
        ((go_at_call 27; refine (HLESS.out k _ hlt).mono ?_; rintro e w5 ⟨rfl, hb5⟩))
      have hbk : Below wr.heap.size wr w5 := by assumption
      clear E1 E2 E3
      go_wp2_with fail
      go_roundw
      case rel => exact ⟨k + 1, by omega, by go_num, belT HV.out hbk⟩
      case measure => simp [intOf]; omega
    · obtain rfl : k = l.length := by omega
      have hbV := HV.out
      clear HV HLESS
      replace R0 := Lib.hid (stillInts R0.out hbV)
      replace FA := Lib.hid (FA.out.still hbV)
      replace BEL0 := Lib.hid (belT BEL0.out hbV)
      clear hbV
      go_wp2_with fail
      refine (I.game A c l hl _ R0.out).mono ?_
      rintro e w11 ⟨TX0, cX0, rfl, hb11, ho11⟩
      have X0 := Lib.hid ho11.lt
      replace R0 := Lib.hid (stillInts R0.out hb11)
      replace FA := Lib.hid (FA.out.still hb11)
      replace BEL0 := Lib.hid (belT BEL0.out hb11)
      clear hb11 ho11
      go_wp2_with fail
      refine (worth_impl _ _ (boxG l) hgl _ X0.out).mono ?_
      rintro e w12 ⟨rfl, hb12⟩
      replace R0 := Lib.hid (stillInts R0.out hb12)
      replace FA := Lib.hid (FA.out.still hb12)
      replace X0 := Lib.hid (stillRows X0.out hb12)
      replace BEL0 := Lib.hid (belT BEL0.out hb12)
      clear hb12
      try unfold FracRes
      rw [HSOL.out.1]
      by_cases h4 : l.length ≤ 4
      · skip
        rw [(HSOL.out.2 h4).1, (HSOL.out.2 h4).2, decide_eq_true h4]
        have z4 : decide ((l.length : Int) ≤ 4) = true := decide_eq_true (by omega)
        have z5 : decide (l.length ≤ 4) = true := decide_eq_true (by omega)
        have cFA0 := FA.out.c0
        have cFA1 := FA.out.c1
        have lFA := FA.out.lt
        go_wp2_with fail
        go_ret
        exact ⟨by first | rfl | (simp; done), belT BEL0.out (by exact (by repeat (first | exact Below.refl _ _ | assumption | exact bel1 (by assumption) | exact bel2 (by assumption) | exact bel3 (by assumption) | exact bel4 (by assumption) | refine Below.drew ?_ | refine below_drewN ?_ _ | refine Below.setCell ?_ (by first | (simp; done) | (simp; omega)) _ | refine Below.alloc ?_ (by first | (simp; done) | (simp; omega)) _)))⟩
      · skip
        rw [decide_eq_false h4]
        have z4 : decide ((l.length : Int) ≤ 4) = false := decide_eq_false (by omega)
        have z5 : decide (l.length ≤ 4) = false := decide_eq_false (by omega)
        go_wp2_with fail
        obtain ⟨WFC, hWFC⟩ : ∃ WFC : World, WFC = w12.alloc (.cells #[.int .i64 (solU (boxG l)), .int .i64 (solD (boxG l))] 35) := ⟨_, rfl⟩
        have hbWFC : Below w12.heap.size w12 WFC := by rw [hWFC]; exact (Below.refl _ _).alloc (Nat.le_refl _) _
        have FC : Hid (Box2 WFC w12.heap.size (solU (boxG l)) (solD (boxG l))) := by show Box2 _ _ _ _; rw [hWFC]; exact Box2.new _ _ _
        rw [← hWFC]
        clear hWFC
        replace R0 := Lib.hid (stillInts R0.out hbWFC)
        replace FA := Lib.hid (FA.out.still hbWFC)
        replace X0 := Lib.hid (stillRows X0.out hbWFC)
        replace BEL0 := Lib.hid (belT BEL0.out hbWFC)
        clear hbWFC
        have cFA0 := FA.out.c0
        have cFA1 := FA.out.c1
        have cFC0 := FC.out.c0
        have cFC1 := FC.out.c1
        go_wp2_with fail
        go_ret
        exact ⟨by first | rfl | (simp; done), BEL0.out⟩

end Go.Proofs.Ytjmmkbhdldeciaa
