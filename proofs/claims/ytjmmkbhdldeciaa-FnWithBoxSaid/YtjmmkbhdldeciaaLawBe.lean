/- The walk of the law of WithBox, over contracts of the program's functions. (Written by wip/gen/law6.py.) -/
import Derived.Test.YtjmmkbhdldeciaaLawBa
import Derived.Test.YtjmmkbhdldeciaaMO
import Derived.Test.YtjmmkbhdldeciaaMI
namespace Go.Proofs.Ytjmmkbhdldeciaa
set_option linter.unusedSimpArgs false
set_option linter.unusedVariables false
open Go.RowKit

set_option maxHeartbeats 4000000 in
set_option maxRecDepth 100000 in
theorem wFnWithBox (I : Impl6) (a : Option Addr) (len cap : Nat) (zs : List Int) (w : World) (h : IsRow .u8 w a len cap zs) :
    Calls Try.prog 7 #[.slice a len cap] w fun e w' => e = .returned (.bool true) ∧ Below w.heap.size w w' := by
  have hle := byte_len h
  by_cases hbig : (1048576 : Int) < (len : Int)
  · go_enter Try.func7, Try.ntmps7
    go_wp2_with fail
    go_ret
    exact ⟨rfl, Below.refl _ _⟩
  go_enter Try.func7, Try.ntmps7
  go_wp2_with fail
  refine (dDrawWithBox a len cap zs w h).mono ?_
  rintro e w1 ⟨l, A, c, v, rfl, hl7, hb1, ho1⟩
  clear hbig hle
  have BEL0 := Lib.hid hb1
  have R0 : Hid (Ints w1 (· < w1.heap.size) A l) := ho1.ints.mono fun b hb => hb.2
  have hl : l.length ≤ 1048576 := by omega
  have hlm : l.length ≤ maxLen := by unfold maxLen; omega
  clear hb1 ho1
  have hwl : (wbL l v).length ≤ 6 := wb_len l v
  have hwm : (wbL l v).length ≤ maxLen := by unfold maxLen; omega
  have hw20 : (wbL l v).length ≤ 1048576 := by omega
  go_wp2_with fail
  refine (I.further A c l v hl _ R0.out).mono ?_
  rintro e w2 ⟨TX0, cX0, rfl, q1, q2, hb2, ho2⟩
  have X0 : Hid (Ints w2 (· < w2.heap.size) TX0 _) := own_lt ho2
  replace R0 := Lib.hid (stillInts R0.out hb2)
  replace BEL0 := Lib.hid (belT BEL0.out hb2)
  clear hb2 ho2
  have Q1 := Lib.hid q1
  have Q2 := Lib.hid q2
  clear q1 q2
  go_wp2_with fail
  refine (withBox_spec A c l v hl _ R0.out).mono ?_
  rintro e w3 ⟨TY0, cY0, rfl, hb3, ho3⟩
  have Y0 : Hid (Ints w3 (· < w3.heap.size) TY0 _) := own_lt ho3
  replace R0 := Lib.hid (stillInts R0.out hb3)
  replace X0 := Lib.hid (stillInts X0.out hb3)
  replace BEL0 := Lib.hid (belT BEL0.out hb3)
  clear hb3 ho3
  go_wp2_with fail
  refine (sameInts _ _ _ _ (wbL l v) _ _ hwm _ X0.out Y0.out).mono ?_
  rintro e w4 ⟨rfl, hq4⟩
  have hb4 : Below w3.heap.size w3 w4 := by obtain ⟨n, rfl⟩ := hq4; exact below_drewN (Below.refl _ _) n
  replace R0 := Lib.hid (stillInts R0.out hb4)
  replace X0 := Lib.hid (stillInts X0.out hb4)
  replace Y0 := Lib.hid (stillInts Y0.out hb4)
  replace BEL0 := Lib.hid (belT BEL0.out hb4)
  clear hq4 hb4
  clear Y0
  have zB : (wbB l v != wbB l v) = false := by simp
  rcases hb : wbB l v with _ | _
  · skip
    rw [hb] at zB
    have HZ : Hid ((wbL l v).length = 0) := by rw [wb_no hb]; rfl
    have zz : (((wbL l v).length : Int) == 0) = true := by rw [HZ.out]; rfl
    clear hb
    go_wp2_with fail
    refine (alive _).mono ?_
    rintro e w9 ⟨rfl, hb9⟩
    have hb8 := Lib.hid (belT (w := w4) (by exact (by repeat (first | exact Below.refl _ _ | assumption | exact bel1 (by assumption) | exact bel2 (by assumption) | exact bel3 (by assumption) | exact bel4 (by assumption) | refine Below.drew ?_ | refine below_drewN ?_ _ | refine Below.setCell ?_ (by first | (simp; done) | (simp; omega)) _ | refine Below.alloc ?_ (by first | (simp; done) | (simp; omega)) _))) hb9)
    clear hb9
    go_wp2_with fail
    go_ret
    exact ⟨by first | rfl | (simp; done) | (simp; omega), belT BEL0.out hb8.out⟩
  rw [hb] at zB
  have HY := Lib.hid (wb_yes hb)
  have HLESS := Lib.hid (wb_less hb)
  have HLN : Hid ((wbL l v).length = l.length + 1) := by show _ = _; rw [HY.out.1]; simp
  have HPRE : Hid (∀ i, i < l.length → nth (wbL l v) i = nth l i) := fun i hi => by rw [HY.out.1]; exact nth_snoc_lt _ _ _ hi
  clear hb
  go_wp2_with fail
  refine (I.worth A c l hl _ R0.out).mono ?_
  rintro e w5 ⟨rfl, hb5⟩
  replace R0 := Lib.hid (stillInts R0.out hb5)
  replace X0 := Lib.hid (stillInts X0.out hb5)
  replace BEL0 := Lib.hid (belT BEL0.out hb5)
  clear hb5
  try unfold FracRes
  rw [HY.out.2.1]
  go_wp2_with fail
  obtain ⟨WFA, hWFA⟩ : ∃ WFA : World, WFA = w5.alloc (.cells #[.int .i64 (bxU l), .int .i64 (bxD l)] 35) := ⟨_, rfl⟩
  have hbWFA : Below w5.heap.size w5 WFA := by rw [hWFA]; exact (Below.refl _ _).alloc (Nat.le_refl _) _
  have FA : Hid (Box2 WFA w5.heap.size (bxU l) (bxD l)) := by show Box2 _ _ _ _; rw [hWFA]; exact Box2.new _ _ _
  rw [← hWFA]
  clear hWFA
  replace R0 := Lib.hid (stillInts R0.out hbWFA)
  replace X0 := Lib.hid (stillInts X0.out hbWFA)
  replace BEL0 := Lib.hid (belT BEL0.out hbWFA)
  clear hbWFA
  go_wp2_with fail
  refine (I.worth _ _ (wbL l v) hw20 _ X0.out).mono ?_
  rintro e w6 ⟨rfl, hb6⟩
  replace R0 := Lib.hid (stillInts R0.out hb6)
  replace X0 := Lib.hid (stillInts X0.out hb6)
  replace FA := Lib.hid (FA.out.still hb6)
  replace BEL0 := Lib.hid (belT BEL0.out hb6)
  clear hb6
  try unfold FracRes
  have HBX : Hid (boxesB (wbL l v) = true) := by rw [HY.out.1]; exact HY.out.2.2
  rw [HBX.out]
  have cFA0 := FA.out.c0
  have cFA1 := FA.out.c1
  have lFA := FA.out.lt
  go_wp2_with fail
  clear cFA0 cFA1
  clear lFA
  obtain ⟨WFB, hWFB⟩ : ∃ WFB : World, WFB = w6.alloc (.cells #[.int .i64 (bxU (wbL l v)), .int .i64 (bxD (wbL l v))] 35) := ⟨_, rfl⟩
  have hbWFB : Below w6.heap.size w6 WFB := by rw [hWFB]; exact (by repeat (first | exact Below.refl _ _ | assumption | exact bel1 (by assumption) | exact bel2 (by assumption) | exact bel3 (by assumption) | exact bel4 (by assumption) | refine Below.drew ?_ | refine below_drewN ?_ _ | refine Below.setCell ?_ (by first | (simp; done) | (simp; omega)) _ | refine Below.alloc ?_ (by first | (simp; done) | (simp; omega)) _))
  rw [← hWFB]
  clear hWFB
  replace R0 := Lib.hid (stillInts R0.out hbWFB)
  replace X0 := Lib.hid (stillInts X0.out hbWFB)
  replace FA := Lib.hid (FA.out.still hbWFB)
  replace BEL0 := Lib.hid (belT BEL0.out hbWFB)
  clear hbWFB
  have HLS := Lib.hid (less_impl (bxU (wbL l v)) (bxD (wbL l v)) (bxU l) (bxD l) WFB)
  rw [HLESS.out] at HLS
  refine HLS.out.mono ?_
  rintro e w7 ⟨rfl, hb7⟩
  clear HLS
  replace R0 := Lib.hid (stillInts R0.out hb7)
  replace X0 := Lib.hid (stillInts X0.out hb7)
  replace FA := Lib.hid (FA.out.still hb7)
  replace BEL0 := Lib.hid (belT BEL0.out hb7)
  clear hb7
  obtain ⟨bx, ox, hB, _, hd⟩ := X0.out.at_ (i := 0) (by rw [HLN.out]; omega)
  subst hB
  have HPX : Hid (Ints w7 (· < w7.heap.size) (some ⟨bx, ox, none⟩) l) := fun h0 => by
    obtain ⟨b', o', e', hS, hc⟩ := X0.out (by rw [HLN.out]; omega)
    exact ⟨b', o', e', hS, fun i hi => by rw [hc i (by rw [HLN.out]; omega), HPRE.out i hi]⟩
  have q1 : l.length ≤ cX0 := by have := Q1.out; rw [HLN.out] at this; omega
  have q2 : cX0 ≤ maxLen := Q2.out
  have q3 : (l.length : Int) ≤ (cX0 : Int) := by omega
  clear hd
  go_wp2_with fail
  refine (sameInts _ _ _ _ l _ _ hlm _ HPX.out R0.out).mono ?_
  rintro e w9 ⟨rfl, hq9⟩
  have BEL9 : Hid (Below w.heap.size w w9) := by obtain ⟨n, rfl⟩ := hq9; exact below_drewN BEL0.out n
  clear hq9
  go_wp2_with fail
  go_ret
  exact ⟨by first | rfl | (simp; done), BEL9.out⟩

end Go.Proofs.Ytjmmkbhdldeciaa
