/- The walk of the law of RiskOf. (Written by wip/gen/law3.py.) -/
import Derived.Test.YtjojilimdhekfaaExactM
import Derived.Test.YtjojilimdhekfaaMmath3
import Derived.Test.YtjojilimdhekfaaDrawY
import Derived.Test.YtjojilimdhekfaaLawT
namespace Go.Proofs.Ytjojilimdhekfaa
set_option linter.unusedSimpArgs false
set_option linter.unusedVariables false
open Go.RowKit

set_option maxHeartbeats 4000000 in
set_option maxRecDepth 100000 in
theorem wFnRiskOf (I : Impl3) (a : Option Addr) (len cap : Nat) (zs : List Int) (w : World) (h : IsRow .u8 w a len cap zs) :
    Calls Try.prog 5 #[.slice a len cap] w fun e w' => e = .returned (.bool true) ∧ Below w.heap.size w w' := by
  have hle := byte_len h
  by_cases hbig : (1048576 : Int) < (len : Int)
  · go_enter Try.func5, Try.ntmps5
    go_wp2_with fail
    go_ret
    exact ⟨rfl, Below.refl _ _⟩
  go_enter Try.func5, Try.ntmps5
  go_wp2_with fail
  refine (dDrawRiskOf a len cap zs w h).mono ?_
  rintro e w1 ⟨g, y, T, A, c, d, rfl, hg17, hgr, hy18, hb1, r0, r1⟩
  clear hbig hle
  have BEL0 := Lib.hid hb1
  have R0 := Lib.hid r0
  have R1 := Lib.hid r1
  have hl := small_max hg17
  clear hb1 r0 r1 hgr
  go_wp2_with fail
  refine (I.risk _ _ _ _ g y hl (by omega) _ R0.out R1.out).mono ?_
  rintro e w2 ⟨rfl, hb2⟩
  replace R0 := Lib.hid (stillRows R0.out hb2)
  replace R1 := Lib.hid (stillInts R1.out hb2)
  replace BEL0 := Lib.hid (belT BEL0.out hb2)
  clear hb2
  try unfold FracRes
  go_wp2_with fail
  obtain ⟨WFA, hWFA⟩ : ∃ WFA : World, WFA = w2.alloc (.cells #[.int .i64 (risU g y), .int .i64 (risD g y)] 28) := ⟨_, rfl⟩
  have hbWFA : Below w2.heap.size w2 WFA := by rw [hWFA]; exact (Below.refl _ _).alloc (Nat.le_refl _) _
  have FA : Hid (Box2 WFA w2.heap.size (risU g y) (risD g y)) := by show Box2 _ _ _ _; rw [hWFA]; exact Box2.new _ _ _
  rw [← hWFA]
  clear hWFA
  replace R0 := Lib.hid (stillRows R0.out hbWFA)
  replace R1 := Lib.hid (stillInts R1.out hbWFA)
  replace BEL0 := Lib.hid (belT BEL0.out hbWFA)
  clear hbWFA
  go_wp2_with fail
  refine (risk_spec _ _ _ _ g y hl (by omega) _ R0.out R1.out).mono ?_
  rintro e w3 ⟨rfl, hb3⟩
  replace R0 := Lib.hid (stillRows R0.out hb3)
  replace R1 := Lib.hid (stillInts R1.out hb3)
  replace FA := Lib.hid (FA.out.still hb3)
  replace BEL0 := Lib.hid (belT BEL0.out hb3)
  clear hb3
  try unfold FracRes
  have cFA0 := FA.out.c0
  have cFA1 := FA.out.c1
  have ltA := FA.out.lt
  rcases hb : risB g y with _ | _
  · skip
    have HU : Hid (risU g y = 0) := by simp [Hid, risU, hb]
    have HD : Hid (risD g y = 0) := by simp [Hid, risD, hb]
    rw [HU.out] at cFA0
    rw [HD.out] at cFA1
    rw [HU.out, HD.out]
    clear hb
    go_wp2_with fail
    refine (alive _).mono ?_
    rintro e w9 ⟨rfl, hb9⟩
    have hb8 := Lib.hid (belT (w := w3) (by exact (by repeat (first | exact Below.refl _ _ | assumption | exact bel1 (by assumption) | exact bel2 (by assumption) | exact bel3 (by assumption) | exact bel4 (by assumption) | refine Below.drew ?_ | refine below_drewN ?_ _ | refine Below.setCell ?_ (by first | (simp; done) | (simp; omega)) _ | refine Below.alloc ?_ (by first | (simp; done) | (simp; omega)) _))) hb9)
    clear hb9
    go_wp2_with fail
    go_ret
    exact ⟨rfl, belT BEL0.out hb8.out⟩
  have zU : (risU g y != risU g y) = false := by simp
  have zD : (risD g y != risD g y) = false := by simp
  have HB := Lib.hid hb
  clear hb
  go_wp2_with fail
  clear cFA0 cFA1
  clear ltA zU zD
  obtain ⟨WFB, hWFB⟩ : ∃ WFB : World, WFB = w3.alloc (.cells #[.int .i64 (risU g y), .int .i64 (risD g y)] 28) := ⟨_, rfl⟩
  have hbWFB : Below w3.heap.size w3 WFB := by rw [hWFB]; exact (by repeat (first | exact Below.refl _ _ | assumption | exact bel1 (by assumption) | exact bel2 (by assumption) | exact bel3 (by assumption) | exact bel4 (by assumption) | refine Below.drew ?_ | refine below_drewN ?_ _ | refine Below.setCell ?_ (by first | (simp; done) | (simp; omega)) _ | refine Below.alloc ?_ (by first | (simp; done) | (simp; omega)) _))
  rw [← hWFB]
  clear hWFB
  replace R0 := Lib.hid (stillRows R0.out hbWFB)
  replace R1 := Lib.hid (stillInts R1.out hbWFB)
  replace FA := Lib.hid (FA.out.still hbWFB)
  replace BEL0 := Lib.hid (belT BEL0.out hbWFB)
  clear hbWFB
  have HT := Lib.hid (ris_turned HB.out)
  obtain ⟨hsl, hsr⟩ := turned_len g
  have hl2 : (turned g).length ≤ maxLen := small_max (by omega)
  clear hsr hsl
  refine (turned_impl _ _ g hl _ R0.out).mono ?_
  rintro e w5 ⟨X, cx, rfl, b5, o5⟩
  have R2 := Lib.hid o5.lt
  replace R0 := Lib.hid (stillRows R0.out b5)
  replace R1 := Lib.hid (stillInts R1.out b5)
  replace FA := Lib.hid (FA.out.still b5)
  replace BEL0 := Lib.hid (belT BEL0.out b5)
  clear b5 o5
  go_wp2_with fail
  refine (I.safe _ _ _ _ (turned g) y hl2 (by omega) _ R2.out R1.out).mono ?_
  rintro e w6 ⟨rfl, hb6⟩
  replace R0 := Lib.hid (stillRows R0.out hb6)
  replace R1 := Lib.hid (stillInts R1.out hb6)
  replace FA := Lib.hid (FA.out.still hb6)
  replace R2 := Lib.hid (stillRows R2.out hb6)
  replace BEL0 := Lib.hid (belT BEL0.out hb6)
  clear hb6
  try unfold FracRes
  rw [HT.out.1]
  have HM : Hid (mnU (safU (turned g) y) (safD (turned g) y) = risU g y ∧ mnD (safU (turned g) y) (safD (turned g) y) = risD g y) := by
    have hok := saf_okB HT.out.1
    simp only [Hid, mnU, mnD, hok, if_true]; rw [HT.out.2.1, HT.out.2.2]; exact ⟨Int.neg_neg _, rfl⟩
  clear R0
  clear R1
  clear R2
  go_wp2_with fail
  obtain ⟨WFC, hWFC⟩ : ∃ WFC : World, WFC = w6.alloc (.cells #[.int .i64 (safU (turned g) y), .int .i64 (safD (turned g) y)] 28) := ⟨_, rfl⟩
  have hbWFC : Below w6.heap.size w6 WFC := by rw [hWFC]; exact (Below.refl _ _).alloc (Nat.le_refl _) _
  have FC : Hid (Box2 WFC w6.heap.size (safU (turned g) y) (safD (turned g) y)) := by show Box2 _ _ _ _; rw [hWFC]; exact Box2.new _ _ _
  rw [← hWFC]
  clear hWFC
  replace FA := Lib.hid (FA.out.still hbWFC)
  replace BEL0 := Lib.hid (belT BEL0.out hbWFC)
  clear hbWFC
  have HC : Hid (∀ w, Calls Try.prog 26 #[.agg #[.int .i64 (safU (turned g) y), .int .i64 (safD (turned g) y)]] w fun e w' => e = .returned (.agg #[.int .i64 (risU g y), .int .i64 (risD g y)]) ∧ Below w.heap.size w w') := fun w => by have := minus_impl (safU (turned g) y) (safD (turned g) y) w; rwa [HM.out.1, HM.out.2] at this
  have sFA0 := stays FA.out.lt FA.out.c0
  have sFA1 := stays FA.out.lt FA.out.c1
  have sFC0 := stays FC.out.lt FC.out.c0
  have sFC1 := stays FC.out.lt FC.out.c1
  go_region_held3 (fun w' => Below WFC.heap.size WFC w')
    (first | exact Below.refl _ _ | exact Below.drew (Below.refl _ _) | (refine Below.drew ?_; assumption) | exact belT (by assumption) (by assumption) | assumption)
    (first | (go_at_call 26; refine (HC.out _).mono ?_; rintro e w8 ⟨rfl, hb8⟩))
  go_wp2_with fail
  go_ret
  exact ⟨by simp, belT BEL0.out (by assumption)⟩

end Go.Proofs.Ytjojilimdhekfaa
