/- The walks of the exact laws on mixtures, over contracts of the program's functions. (Written by wip/gen/exm.py.) -/
import Derived.Test.YtjojilimdhekfaaMixU
import Derived.Test.YtjojilimdhekfaaExactS
namespace Go.Proofs.Ytjojilimdhekfaa
set_option linter.unusedSimpArgs false
set_option linter.unusedVariables false
open Go.RowKit

theorem stillInts {w w' : World} {A : Option Addr} {l : List Int} (h : Ints w (· < w.heap.size) A l) (hb : Below w.heap.size w w') : Ints w' (· < w'.heap.size) A l :=
  (keepInts hb h).mono fun b hlt => by have := hb.size; omega

/-- a fraction in a block of its own -/
structure Box2 (w : World) (b : Nat) (u d : Int) : Prop where
  lt : b < w.heap.size
  c0 : w.cell? ⟨b, 0, none⟩ = some (.int .i64 u)
  c1 : w.cell? ⟨b, 1, none⟩ = some (.int .i64 d)

theorem Box2.new (w : World) (u d : Int) : Box2 (w.alloc (.cells #[.int .i64 u, .int .i64 d] 28)) w.heap.size u d := ⟨by simp, by simp [go_sem], by simp [go_sem]⟩

theorem Box2.still {w w' : World} {b : Nat} {u d : Int} (h : Box2 w b u d) (hb : Below w.heap.size w w') : Box2 w' b u d :=
  ⟨Nat.lt_of_lt_of_le h.lt hb.size, (hb.cell (p := ⟨b, 0, none⟩) h.lt).trans h.c0, (hb.cell (p := ⟨b, 1, none⟩) h.lt).trans h.c1⟩

/-- what the program's functions on mixtures are asked -/
structure Impl3 : Prop where
  mix : ∀ (A : Option Addr) (c : Nat) (l : List Int) (many : Int) (_ : l.length ≤ 4294967296) (w : World) (_ : Ints w (· < w.heap.size) A l),
    Calls Try.prog 74 #[.slice A l.length c, .int .i64 many] w (Adds (.bool (mixB l many)) w)
  avg : ∀ (T A B : Option Addr) (c d e : Nat) (g : List (List Int)) (x y : List Int) (_ : g.length ≤ maxLen) (_ : x.length ≤ 4294967296) (_ : y.length ≤ 4294967296) (w : World) (_ : Rows2 w (· < w.heap.size) T g) (_ : Ints w (· < w.heap.size) A x) (_ : Ints w (· < w.heap.size) B y),
    Calls Try.prog 14 #[.slice T g.length c, .slice A x.length d, .slice B y.length e] w (Adds (FracRes (avgU g x y) (avgD g x y) (avgB g x y)) w)
  safe : ∀ (T A : Option Addr) (c d : Nat) (g : List (List Int)) (x : List Int) (_ : g.length ≤ maxLen) (_ : x.length ≤ 4294967296) (w : World) (_ : Rows2 w (· < w.heap.size) T g) (_ : Ints w (· < w.heap.size) A x),
    Calls Try.prog 17 #[.slice T g.length c, .slice A x.length d] w (Adds (FracRes (safU g x) (safD g x) (safB g x)) w)
  risk : ∀ (T A : Option Addr) (c d : Nat) (g : List (List Int)) (y : List Int) (_ : g.length ≤ maxLen) (_ : y.length ≤ 4294967296) (w : World) (_ : Rows2 w (· < w.heap.size) T g) (_ : Ints w (· < w.heap.size) A y),
    Calls Try.prog 18 #[.slice T g.length c, .slice A y.length d] w (Adds (FracRes (risU g y) (risD g y) (risB g y)) w)
  set : ∀ (T A B : Option Addr) (c d e : Nat) (g : List (List Int)) (x y : List Int) (_ : g.length ≤ maxLen) (_ : x.length ≤ 4294967296) (_ : y.length ≤ 4294967296) (w : World) (_ : Rows2 w (· < w.heap.size) T g) (_ : Ints w (· < w.heap.size) A x) (_ : Ints w (· < w.heap.size) B y),
    Calls Try.prog 28 #[.slice T g.length c, .slice A x.length d, .slice B y.length e] w (Adds (.bool (setB g x y)) w)
  best : ∀ (T A : Option Addr) (c d : Nat) (g : List (List Int)) (y : List Int) (_ : g.length ≤ maxLen) (_ : y.length ≤ 4294967296) (w : World) (_ : Rows2 w (· < w.heap.size) T g) (_ : Ints w (· < w.heap.size) A y),
    Calls Try.prog 31 #[.slice T g.length c, .slice A y.length d] w (NewList w (bestL g y))

set_option maxHeartbeats 2000000 in
set_option maxRecDepth 100000 in
theorem wFnExactAverageOf (I : Impl3) (A0 : Option Addr) (c0 : Nat) (x0 : List (List Int)) (l0 : x0.length ≤ maxLen) (A1 : Option Addr) (c1 : Nat) (x1 : List Int) (l1 : x1.length ≤ maxLen) (A2 : Option Addr) (c2 : Nat) (x2 : List Int) (l2 : x2.length ≤ maxLen) (w : World) (r0 : Rows2 w (· < w.heap.size) A0 x0) (r1 : Ints w (· < w.heap.size) A1 x1) (r2 : Ints w (· < w.heap.size) A2 x2) :
    Calls Try.prog 8 #[.slice A0 x0.length c0, .slice A1 x1.length c1, .slice A2 x2.length c2] w (Adds (.bool true) w) := by
  have R0 := Lib.hid r0
  have R1 := Lib.hid r1
  have R2 := Lib.hid r2
  clear r0
  clear r1
  clear r2
  have m1 := l1
  unfold maxLen at m1
  by_cases big1 : (1048576 : Int) < (x1.length : Int)
  · go_enter Try.func8, Try.ntmps8
    go_wp2_with fail
    go_ret
    exact Adds.of rfl (Below.refl _ _)
  have s1 : x1.length ≤ 1048576 := by omega
  have m2 := l2
  unfold maxLen at m2
  by_cases big2 : (1048576 : Int) < (x2.length : Int)
  · go_enter Try.func8, Try.ntmps8
    go_wp2_with fail
    go_ret
    exact Adds.of rfl (Below.refl _ _)
  have s2 : x2.length ≤ 1048576 := by omega
  go_enter Try.func8, Try.ntmps8
  go_wp2_with fail
  refine (szIntSS A0 c0 x0 _ 1048576 l0 (by omega) (by omega) _ R0.out).mono ?_
  rintro e wz ⟨q0, rfl, rfl, hq0⟩
  by_cases hz0 : q0 < 0
  · clear hq0
    go_wp2_with fail
    go_ret
    exact Adds.of rfl (Below.refl _ _)
  have hsum0 : (x0.length : Int) + (sumN x0 x0.length : Nat) ≤ 1048576 := by omega
  have hm0 : ∀ i, i < x0.length → (rowAt x0 i).length ≤ 4294967296 := fun i hi => by have := row_le_sumN x0 hi; omega
  have HM0 := Lib.hid hm0
  have t0 : x0.length ≤ 4294967296 := by omega
  have st0 : sumN x0 x0.length ≤ 1048576 := by omega
  clear hq0 hsum0 hm0
  go_wp2_with fail
  refine (toIntSS A0 c0 x0 t0 HM0.out _ R0.out).mono ?_
  rintro e w1 ⟨rfl, hL1⟩
  have S0 := Lib.hid (NewRows.reads hL1 HM0.out)
  have hb1 := NewRows.bel hL1
  replace R0 := Lib.hid (stillRows R0.out hb1)
  replace R1 := Lib.hid (stillInts R1.out hb1)
  replace R2 := Lib.hid (stillInts R2.out hb1)
  have BEL0 := Lib.hid hb1
  clear hb1 hL1
  go_wp2_with fail
  refine (toIntS A1 c1 x1 (by omega) _ R1.out).mono ?_
  rintro e w2 ⟨⟨rfl, hb2, hs2, hr2⟩, hz2⟩
  clear hz2
  have S1 : Hid (Ints w2 (· < w2.heap.size) _ x1) := hr2.ints hs2
  replace R0 := Lib.hid (stillRows R0.out hb2)
  replace R1 := Lib.hid (stillInts R1.out hb2)
  replace R2 := Lib.hid (stillInts R2.out hb2)
  replace S0 := Lib.hid (stillRows S0.out hb2)
  replace BEL0 := Lib.hid (belT BEL0.out hb2)
  clear hb2 hs2 hr2
  go_wp2_with fail
  refine (toIntS A2 c2 x2 (by omega) _ R2.out).mono ?_
  rintro e w3 ⟨⟨rfl, hb3, hs3, hr3⟩, hz3⟩
  clear hz3
  have S2 : Hid (Ints w3 (· < w3.heap.size) _ x2) := hr3.ints hs3
  replace R0 := Lib.hid (stillRows R0.out hb3)
  replace R1 := Lib.hid (stillInts R1.out hb3)
  replace R2 := Lib.hid (stillInts R2.out hb3)
  replace S0 := Lib.hid (stillRows S0.out hb3)
  replace S1 := Lib.hid (stillInts S1.out hb3)
  replace BEL0 := Lib.hid (belT BEL0.out hb3)
  clear hb3 hs3 hr3
  go_wp2_with fail
  refine (avg_spec _ _ _ _ _ _ x0 x1 x2 l0 (by omega) (by omega) _ S0.out S1.out S2.out).mono ?_
  rintro e w4 ⟨rfl, hb4⟩
  replace R0 := Lib.hid (stillRows R0.out hb4)
  replace R1 := Lib.hid (stillInts R1.out hb4)
  replace R2 := Lib.hid (stillInts R2.out hb4)
  replace S0 := Lib.hid (stillRows S0.out hb4)
  replace S1 := Lib.hid (stillInts S1.out hb4)
  replace S2 := Lib.hid (stillInts S2.out hb4)
  replace BEL0 := Lib.hid (belT BEL0.out hb4)
  clear hb4
  clear S0
  clear S1
  clear S2
  try unfold FracRes
  go_wp2_with fail
  obtain ⟨WFA, hWFA⟩ : ∃ WFA : World, WFA = w4.alloc (.cells #[.int .i64 (avgU x0 x1 x2), .int .i64 (avgD x0 x1 x2)] 28) := ⟨_, rfl⟩
  have hbWFA : Below w4.heap.size w4 WFA := by rw [hWFA]; exact (Below.refl _ _).alloc (Nat.le_refl _) _
  have FA : Hid (Box2 WFA w4.heap.size (avgU x0 x1 x2) (avgD x0 x1 x2)) := by show Box2 _ _ _ _; rw [hWFA]; exact Box2.new _ _ _
  rw [← hWFA]
  clear hWFA
  replace R0 := Lib.hid (stillRows R0.out hbWFA)
  replace R1 := Lib.hid (stillInts R1.out hbWFA)
  replace R2 := Lib.hid (stillInts R2.out hbWFA)
  replace BEL0 := Lib.hid (belT BEL0.out hbWFA)
  clear hbWFA
  go_wp2_with fail
  refine (toIntSS A0 c0 x0 t0 HM0.out _ R0.out).mono ?_
  rintro e w5 ⟨rfl, hL5⟩
  have X0 := Lib.hid (NewRows.reads hL5 HM0.out)
  have hb5 := NewRows.bel hL5
  replace R0 := Lib.hid (stillRows R0.out hb5)
  replace R1 := Lib.hid (stillInts R1.out hb5)
  replace R2 := Lib.hid (stillInts R2.out hb5)
  replace FA := Lib.hid (FA.out.still hb5)
  replace BEL0 := Lib.hid (belT BEL0.out hb5)
  clear hb5 hL5
  go_wp2_with fail
  refine (toIntS A1 c1 x1 (by omega) _ R1.out).mono ?_
  rintro e w6 ⟨⟨rfl, hb6, hs6, hr6⟩, hz6⟩
  clear hz6
  have X1 : Hid (Ints w6 (· < w6.heap.size) _ x1) := hr6.ints hs6
  replace R0 := Lib.hid (stillRows R0.out hb6)
  replace R1 := Lib.hid (stillInts R1.out hb6)
  replace R2 := Lib.hid (stillInts R2.out hb6)
  replace FA := Lib.hid (FA.out.still hb6)
  replace X0 := Lib.hid (stillRows X0.out hb6)
  replace BEL0 := Lib.hid (belT BEL0.out hb6)
  clear hb6 hs6 hr6
  go_wp2_with fail
  refine (toIntS A2 c2 x2 (by omega) _ R2.out).mono ?_
  rintro e w7 ⟨⟨rfl, hb7, hs7, hr7⟩, hz7⟩
  clear hz7
  have X2 : Hid (Ints w7 (· < w7.heap.size) _ x2) := hr7.ints hs7
  replace R0 := Lib.hid (stillRows R0.out hb7)
  replace R1 := Lib.hid (stillInts R1.out hb7)
  replace R2 := Lib.hid (stillInts R2.out hb7)
  replace FA := Lib.hid (FA.out.still hb7)
  replace X0 := Lib.hid (stillRows X0.out hb7)
  replace X1 := Lib.hid (stillInts X1.out hb7)
  replace BEL0 := Lib.hid (belT BEL0.out hb7)
  clear hb7 hs7 hr7
  go_wp2_with fail
  refine (I.avg _ _ _ _ _ _ x0 x1 x2 l0 (by omega) (by omega) _ X0.out X1.out X2.out).mono ?_
  rintro e w8 ⟨rfl, hb8⟩
  replace R0 := Lib.hid (stillRows R0.out hb8)
  replace R1 := Lib.hid (stillInts R1.out hb8)
  replace R2 := Lib.hid (stillInts R2.out hb8)
  replace FA := Lib.hid (FA.out.still hb8)
  replace X0 := Lib.hid (stillRows X0.out hb8)
  replace X1 := Lib.hid (stillInts X1.out hb8)
  replace X2 := Lib.hid (stillInts X2.out hb8)
  replace BEL0 := Lib.hid (belT BEL0.out hb8)
  clear hb8
  try unfold FracRes
  have zB : (avgB x0 x1 x2 != avgB x0 x1 x2) = false := by simp
  have cFA0 := FA.out.c0
  have cFA1 := FA.out.c1
  have ltFA := FA.out.lt
  go_wp2_with fail
  refine (eqFrac_same _ _ _).mono ?_
  rintro e w9 ⟨rfl, hb9'⟩
  have hb9 := bel1 hb9'
  clear hb9'
  clear cFA0 cFA1
  clear ltFA
  clear FA
  replace R0 := Lib.hid (stillRows R0.out hb9)
  replace R1 := Lib.hid (stillInts R1.out hb9)
  replace R2 := Lib.hid (stillInts R2.out hb9)
  replace X0 := Lib.hid (stillRows X0.out hb9)
  replace X1 := Lib.hid (stillInts X1.out hb9)
  replace X2 := Lib.hid (stillInts X2.out hb9)
  replace BEL0 := Lib.hid (belT BEL0.out hb9)
  clear hb9
  go_wp2_with fail
  refine (toIntSS A0 c0 x0 t0 HM0.out _ R0.out).mono ?_
  rintro e w10 ⟨rfl, hL10⟩
  have E0 := Lib.hid (NewRows.reads hL10 HM0.out)
  have hb10 := NewRows.bel hL10
  replace R0 := Lib.hid (stillRows R0.out hb10)
  replace R1 := Lib.hid (stillInts R1.out hb10)
  replace R2 := Lib.hid (stillInts R2.out hb10)
  replace X0 := Lib.hid (stillRows X0.out hb10)
  replace X1 := Lib.hid (stillInts X1.out hb10)
  replace X2 := Lib.hid (stillInts X2.out hb10)
  replace BEL0 := Lib.hid (belT BEL0.out hb10)
  clear hb10 hL10
  go_wp2_with fail
  refine (eqIntSS _ _ _ _ x0 _ _ l0 _ X0.out E0.out).mono ?_
  rintro e w11 ⟨rfl, hq11⟩
  have hb11 : Below w10.heap.size w10 w11 := by obtain ⟨n, rfl⟩ := hq11; exact below_drewN (Below.refl _ _) n
  replace R0 := Lib.hid (stillRows R0.out hb11)
  replace R1 := Lib.hid (stillInts R1.out hb11)
  replace R2 := Lib.hid (stillInts R2.out hb11)
  replace X0 := Lib.hid (stillRows X0.out hb11)
  replace X1 := Lib.hid (stillInts X1.out hb11)
  replace X2 := Lib.hid (stillInts X2.out hb11)
  replace E0 := Lib.hid (stillRows E0.out hb11)
  replace BEL0 := Lib.hid (belT BEL0.out hb11)
  clear hq11 hb11
  clear E0
  clear X0
  go_wp2_with fail
  refine (toIntS A1 c1 x1 (by omega) _ R1.out).mono ?_
  rintro e w12 ⟨⟨rfl, hb12, hs12, hr12⟩, hz12⟩
  clear hz12
  have E1 : Hid (Ints w12 (· < w12.heap.size) _ x1) := hr12.ints hs12
  replace R0 := Lib.hid (stillRows R0.out hb12)
  replace R1 := Lib.hid (stillInts R1.out hb12)
  replace R2 := Lib.hid (stillInts R2.out hb12)
  replace X1 := Lib.hid (stillInts X1.out hb12)
  replace X2 := Lib.hid (stillInts X2.out hb12)
  replace BEL0 := Lib.hid (belT BEL0.out hb12)
  clear hb12 hs12 hr12
  go_wp2_with fail
  refine (eqIntS _ _ _ _ x1 _ _ l1 _ X1.out E1.out).mono ?_
  rintro e w13 ⟨rfl, hq13⟩
  have hb13 : Below w12.heap.size w12 w13 := by obtain ⟨n, rfl⟩ := hq13; exact below_drewN (Below.refl _ _) n
  replace R0 := Lib.hid (stillRows R0.out hb13)
  replace R1 := Lib.hid (stillInts R1.out hb13)
  replace R2 := Lib.hid (stillInts R2.out hb13)
  replace X1 := Lib.hid (stillInts X1.out hb13)
  replace X2 := Lib.hid (stillInts X2.out hb13)
  replace E1 := Lib.hid (stillInts E1.out hb13)
  replace BEL0 := Lib.hid (belT BEL0.out hb13)
  clear hq13 hb13
  clear E1
  clear X1
  go_wp2_with fail
  refine (toIntS A2 c2 x2 (by omega) _ R2.out).mono ?_
  rintro e w14 ⟨⟨rfl, hb14, hs14, hr14⟩, hz14⟩
  clear hz14
  have E2 : Hid (Ints w14 (· < w14.heap.size) _ x2) := hr14.ints hs14
  replace R0 := Lib.hid (stillRows R0.out hb14)
  replace R1 := Lib.hid (stillInts R1.out hb14)
  replace R2 := Lib.hid (stillInts R2.out hb14)
  replace X2 := Lib.hid (stillInts X2.out hb14)
  replace BEL0 := Lib.hid (belT BEL0.out hb14)
  clear hb14 hs14 hr14
  go_wp2_with fail
  refine (eqIntS _ _ _ _ x2 _ _ l2 _ X2.out E2.out).mono ?_
  rintro e w15 ⟨rfl, hq15⟩
  have hb15 : Below w14.heap.size w14 w15 := by obtain ⟨n, rfl⟩ := hq15; exact below_drewN (Below.refl _ _) n
  replace R0 := Lib.hid (stillRows R0.out hb15)
  replace R1 := Lib.hid (stillInts R1.out hb15)
  replace R2 := Lib.hid (stillInts R2.out hb15)
  replace X2 := Lib.hid (stillInts X2.out hb15)
  replace E2 := Lib.hid (stillInts E2.out hb15)
  replace BEL0 := Lib.hid (belT BEL0.out hb15)
  clear hq15 hb15
  clear E2
  clear X2
  go_wp2_with fail
  go_ret
  exact Adds.of rfl BEL0.out

set_option maxHeartbeats 2000000 in
set_option maxRecDepth 100000 in
theorem wFnExactSafeOf (I : Impl3) (A0 : Option Addr) (c0 : Nat) (x0 : List (List Int)) (l0 : x0.length ≤ maxLen) (A1 : Option Addr) (c1 : Nat) (x1 : List Int) (l1 : x1.length ≤ maxLen) (w : World) (r0 : Rows2 w (· < w.heap.size) A0 x0) (r1 : Ints w (· < w.heap.size) A1 x1) :
    Calls Try.prog 9 #[.slice A0 x0.length c0, .slice A1 x1.length c1] w (Adds (.bool true) w) := by
  have R0 := Lib.hid r0
  have R1 := Lib.hid r1
  clear r0
  clear r1
  have m1 := l1
  unfold maxLen at m1
  by_cases big1 : (1048576 : Int) < (x1.length : Int)
  · go_enter Try.func9, Try.ntmps9
    go_wp2_with fail
    go_ret
    exact Adds.of rfl (Below.refl _ _)
  have s1 : x1.length ≤ 1048576 := by omega
  go_enter Try.func9, Try.ntmps9
  go_wp2_with fail
  refine (szIntSS A0 c0 x0 _ 1048576 l0 (by omega) (by omega) _ R0.out).mono ?_
  rintro e wz ⟨q0, rfl, rfl, hq0⟩
  by_cases hz0 : q0 < 0
  · clear hq0
    go_wp2_with fail
    go_ret
    exact Adds.of rfl (Below.refl _ _)
  have hsum0 : (x0.length : Int) + (sumN x0 x0.length : Nat) ≤ 1048576 := by omega
  have hm0 : ∀ i, i < x0.length → (rowAt x0 i).length ≤ 4294967296 := fun i hi => by have := row_le_sumN x0 hi; omega
  have HM0 := Lib.hid hm0
  have t0 : x0.length ≤ 4294967296 := by omega
  have st0 : sumN x0 x0.length ≤ 1048576 := by omega
  clear hq0 hsum0 hm0
  go_wp2_with fail
  refine (toIntSS A0 c0 x0 t0 HM0.out _ R0.out).mono ?_
  rintro e w1 ⟨rfl, hL1⟩
  have S0 := Lib.hid (NewRows.reads hL1 HM0.out)
  have hb1 := NewRows.bel hL1
  replace R0 := Lib.hid (stillRows R0.out hb1)
  replace R1 := Lib.hid (stillInts R1.out hb1)
  have BEL0 := Lib.hid hb1
  clear hb1 hL1
  go_wp2_with fail
  refine (toIntS A1 c1 x1 (by omega) _ R1.out).mono ?_
  rintro e w2 ⟨⟨rfl, hb2, hs2, hr2⟩, hz2⟩
  clear hz2
  have S1 : Hid (Ints w2 (· < w2.heap.size) _ x1) := hr2.ints hs2
  replace R0 := Lib.hid (stillRows R0.out hb2)
  replace R1 := Lib.hid (stillInts R1.out hb2)
  replace S0 := Lib.hid (stillRows S0.out hb2)
  replace BEL0 := Lib.hid (belT BEL0.out hb2)
  clear hb2 hs2 hr2
  go_wp2_with fail
  refine (safe_spec _ _ _ _ x0 x1 l0 (by omega) _ S0.out S1.out).mono ?_
  rintro e w3 ⟨rfl, hb3⟩
  replace R0 := Lib.hid (stillRows R0.out hb3)
  replace R1 := Lib.hid (stillInts R1.out hb3)
  replace S0 := Lib.hid (stillRows S0.out hb3)
  replace S1 := Lib.hid (stillInts S1.out hb3)
  replace BEL0 := Lib.hid (belT BEL0.out hb3)
  clear hb3
  clear S0
  clear S1
  try unfold FracRes
  go_wp2_with fail
  obtain ⟨WFA, hWFA⟩ : ∃ WFA : World, WFA = w3.alloc (.cells #[.int .i64 (safU x0 x1), .int .i64 (safD x0 x1)] 28) := ⟨_, rfl⟩
  have hbWFA : Below w3.heap.size w3 WFA := by rw [hWFA]; exact (Below.refl _ _).alloc (Nat.le_refl _) _
  have FA : Hid (Box2 WFA w3.heap.size (safU x0 x1) (safD x0 x1)) := by show Box2 _ _ _ _; rw [hWFA]; exact Box2.new _ _ _
  rw [← hWFA]
  clear hWFA
  replace R0 := Lib.hid (stillRows R0.out hbWFA)
  replace R1 := Lib.hid (stillInts R1.out hbWFA)
  replace BEL0 := Lib.hid (belT BEL0.out hbWFA)
  clear hbWFA
  go_wp2_with fail
  refine (toIntSS A0 c0 x0 t0 HM0.out _ R0.out).mono ?_
  rintro e w4 ⟨rfl, hL4⟩
  have X0 := Lib.hid (NewRows.reads hL4 HM0.out)
  have hb4 := NewRows.bel hL4
  replace R0 := Lib.hid (stillRows R0.out hb4)
  replace R1 := Lib.hid (stillInts R1.out hb4)
  replace FA := Lib.hid (FA.out.still hb4)
  replace BEL0 := Lib.hid (belT BEL0.out hb4)
  clear hb4 hL4
  go_wp2_with fail
  refine (toIntS A1 c1 x1 (by omega) _ R1.out).mono ?_
  rintro e w5 ⟨⟨rfl, hb5, hs5, hr5⟩, hz5⟩
  clear hz5
  have X1 : Hid (Ints w5 (· < w5.heap.size) _ x1) := hr5.ints hs5
  replace R0 := Lib.hid (stillRows R0.out hb5)
  replace R1 := Lib.hid (stillInts R1.out hb5)
  replace FA := Lib.hid (FA.out.still hb5)
  replace X0 := Lib.hid (stillRows X0.out hb5)
  replace BEL0 := Lib.hid (belT BEL0.out hb5)
  clear hb5 hs5 hr5
  go_wp2_with fail
  refine (I.safe _ _ _ _ x0 x1 l0 (by omega) _ X0.out X1.out).mono ?_
  rintro e w6 ⟨rfl, hb6⟩
  replace R0 := Lib.hid (stillRows R0.out hb6)
  replace R1 := Lib.hid (stillInts R1.out hb6)
  replace FA := Lib.hid (FA.out.still hb6)
  replace X0 := Lib.hid (stillRows X0.out hb6)
  replace X1 := Lib.hid (stillInts X1.out hb6)
  replace BEL0 := Lib.hid (belT BEL0.out hb6)
  clear hb6
  try unfold FracRes
  have zB : (safB x0 x1 != safB x0 x1) = false := by simp
  have cFA0 := FA.out.c0
  have cFA1 := FA.out.c1
  have ltFA := FA.out.lt
  go_wp2_with fail
  refine (eqFrac_same _ _ _).mono ?_
  rintro e w7 ⟨rfl, hb7'⟩
  have hb7 := bel1 hb7'
  clear hb7'
  clear cFA0 cFA1
  clear ltFA
  clear FA
  replace R0 := Lib.hid (stillRows R0.out hb7)
  replace R1 := Lib.hid (stillInts R1.out hb7)
  replace X0 := Lib.hid (stillRows X0.out hb7)
  replace X1 := Lib.hid (stillInts X1.out hb7)
  replace BEL0 := Lib.hid (belT BEL0.out hb7)
  clear hb7
  go_wp2_with fail
  refine (toIntSS A0 c0 x0 t0 HM0.out _ R0.out).mono ?_
  rintro e w8 ⟨rfl, hL8⟩
  have E0 := Lib.hid (NewRows.reads hL8 HM0.out)
  have hb8 := NewRows.bel hL8
  replace R0 := Lib.hid (stillRows R0.out hb8)
  replace R1 := Lib.hid (stillInts R1.out hb8)
  replace X0 := Lib.hid (stillRows X0.out hb8)
  replace X1 := Lib.hid (stillInts X1.out hb8)
  replace BEL0 := Lib.hid (belT BEL0.out hb8)
  clear hb8 hL8
  go_wp2_with fail
  refine (eqIntSS _ _ _ _ x0 _ _ l0 _ X0.out E0.out).mono ?_
  rintro e w9 ⟨rfl, hq9⟩
  have hb9 : Below w8.heap.size w8 w9 := by obtain ⟨n, rfl⟩ := hq9; exact below_drewN (Below.refl _ _) n
  replace R0 := Lib.hid (stillRows R0.out hb9)
  replace R1 := Lib.hid (stillInts R1.out hb9)
  replace X0 := Lib.hid (stillRows X0.out hb9)
  replace X1 := Lib.hid (stillInts X1.out hb9)
  replace E0 := Lib.hid (stillRows E0.out hb9)
  replace BEL0 := Lib.hid (belT BEL0.out hb9)
  clear hq9 hb9
  clear E0
  clear X0
  go_wp2_with fail
  refine (toIntS A1 c1 x1 (by omega) _ R1.out).mono ?_
  rintro e w10 ⟨⟨rfl, hb10, hs10, hr10⟩, hz10⟩
  clear hz10
  have E1 : Hid (Ints w10 (· < w10.heap.size) _ x1) := hr10.ints hs10
  replace R0 := Lib.hid (stillRows R0.out hb10)
  replace R1 := Lib.hid (stillInts R1.out hb10)
  replace X1 := Lib.hid (stillInts X1.out hb10)
  replace BEL0 := Lib.hid (belT BEL0.out hb10)
  clear hb10 hs10 hr10
  go_wp2_with fail
  refine (eqIntS _ _ _ _ x1 _ _ l1 _ X1.out E1.out).mono ?_
  rintro e w11 ⟨rfl, hq11⟩
  have hb11 : Below w10.heap.size w10 w11 := by obtain ⟨n, rfl⟩ := hq11; exact below_drewN (Below.refl _ _) n
  replace R0 := Lib.hid (stillRows R0.out hb11)
  replace R1 := Lib.hid (stillInts R1.out hb11)
  replace X1 := Lib.hid (stillInts X1.out hb11)
  replace E1 := Lib.hid (stillInts E1.out hb11)
  replace BEL0 := Lib.hid (belT BEL0.out hb11)
  clear hq11 hb11
  clear E1
  clear X1
  go_wp2_with fail
  go_ret
  exact Adds.of rfl BEL0.out

set_option maxHeartbeats 2000000 in
set_option maxRecDepth 100000 in
theorem wFnExactRiskOf (I : Impl3) (A0 : Option Addr) (c0 : Nat) (x0 : List (List Int)) (l0 : x0.length ≤ maxLen) (A1 : Option Addr) (c1 : Nat) (x1 : List Int) (l1 : x1.length ≤ maxLen) (w : World) (r0 : Rows2 w (· < w.heap.size) A0 x0) (r1 : Ints w (· < w.heap.size) A1 x1) :
    Calls Try.prog 10 #[.slice A0 x0.length c0, .slice A1 x1.length c1] w (Adds (.bool true) w) := by
  have R0 := Lib.hid r0
  have R1 := Lib.hid r1
  clear r0
  clear r1
  have m1 := l1
  unfold maxLen at m1
  by_cases big1 : (1048576 : Int) < (x1.length : Int)
  · go_enter Try.func10, Try.ntmps10
    go_wp2_with fail
    go_ret
    exact Adds.of rfl (Below.refl _ _)
  have s1 : x1.length ≤ 1048576 := by omega
  go_enter Try.func10, Try.ntmps10
  go_wp2_with fail
  refine (szIntSS A0 c0 x0 _ 1048576 l0 (by omega) (by omega) _ R0.out).mono ?_
  rintro e wz ⟨q0, rfl, rfl, hq0⟩
  by_cases hz0 : q0 < 0
  · clear hq0
    go_wp2_with fail
    go_ret
    exact Adds.of rfl (Below.refl _ _)
  have hsum0 : (x0.length : Int) + (sumN x0 x0.length : Nat) ≤ 1048576 := by omega
  have hm0 : ∀ i, i < x0.length → (rowAt x0 i).length ≤ 4294967296 := fun i hi => by have := row_le_sumN x0 hi; omega
  have HM0 := Lib.hid hm0
  have t0 : x0.length ≤ 4294967296 := by omega
  have st0 : sumN x0 x0.length ≤ 1048576 := by omega
  clear hq0 hsum0 hm0
  go_wp2_with fail
  refine (toIntSS A0 c0 x0 t0 HM0.out _ R0.out).mono ?_
  rintro e w1 ⟨rfl, hL1⟩
  have S0 := Lib.hid (NewRows.reads hL1 HM0.out)
  have hb1 := NewRows.bel hL1
  replace R0 := Lib.hid (stillRows R0.out hb1)
  replace R1 := Lib.hid (stillInts R1.out hb1)
  have BEL0 := Lib.hid hb1
  clear hb1 hL1
  go_wp2_with fail
  refine (toIntS A1 c1 x1 (by omega) _ R1.out).mono ?_
  rintro e w2 ⟨⟨rfl, hb2, hs2, hr2⟩, hz2⟩
  clear hz2
  have S1 : Hid (Ints w2 (· < w2.heap.size) _ x1) := hr2.ints hs2
  replace R0 := Lib.hid (stillRows R0.out hb2)
  replace R1 := Lib.hid (stillInts R1.out hb2)
  replace S0 := Lib.hid (stillRows S0.out hb2)
  replace BEL0 := Lib.hid (belT BEL0.out hb2)
  clear hb2 hs2 hr2
  go_wp2_with fail
  refine (risk_spec _ _ _ _ x0 x1 l0 (by omega) _ S0.out S1.out).mono ?_
  rintro e w3 ⟨rfl, hb3⟩
  replace R0 := Lib.hid (stillRows R0.out hb3)
  replace R1 := Lib.hid (stillInts R1.out hb3)
  replace S0 := Lib.hid (stillRows S0.out hb3)
  replace S1 := Lib.hid (stillInts S1.out hb3)
  replace BEL0 := Lib.hid (belT BEL0.out hb3)
  clear hb3
  clear S0
  clear S1
  try unfold FracRes
  go_wp2_with fail
  obtain ⟨WFA, hWFA⟩ : ∃ WFA : World, WFA = w3.alloc (.cells #[.int .i64 (risU x0 x1), .int .i64 (risD x0 x1)] 28) := ⟨_, rfl⟩
  have hbWFA : Below w3.heap.size w3 WFA := by rw [hWFA]; exact (Below.refl _ _).alloc (Nat.le_refl _) _
  have FA : Hid (Box2 WFA w3.heap.size (risU x0 x1) (risD x0 x1)) := by show Box2 _ _ _ _; rw [hWFA]; exact Box2.new _ _ _
  rw [← hWFA]
  clear hWFA
  replace R0 := Lib.hid (stillRows R0.out hbWFA)
  replace R1 := Lib.hid (stillInts R1.out hbWFA)
  replace BEL0 := Lib.hid (belT BEL0.out hbWFA)
  clear hbWFA
  go_wp2_with fail
  refine (toIntSS A0 c0 x0 t0 HM0.out _ R0.out).mono ?_
  rintro e w4 ⟨rfl, hL4⟩
  have X0 := Lib.hid (NewRows.reads hL4 HM0.out)
  have hb4 := NewRows.bel hL4
  replace R0 := Lib.hid (stillRows R0.out hb4)
  replace R1 := Lib.hid (stillInts R1.out hb4)
  replace FA := Lib.hid (FA.out.still hb4)
  replace BEL0 := Lib.hid (belT BEL0.out hb4)
  clear hb4 hL4
  go_wp2_with fail
  refine (toIntS A1 c1 x1 (by omega) _ R1.out).mono ?_
  rintro e w5 ⟨⟨rfl, hb5, hs5, hr5⟩, hz5⟩
  clear hz5
  have X1 : Hid (Ints w5 (· < w5.heap.size) _ x1) := hr5.ints hs5
  replace R0 := Lib.hid (stillRows R0.out hb5)
  replace R1 := Lib.hid (stillInts R1.out hb5)
  replace FA := Lib.hid (FA.out.still hb5)
  replace X0 := Lib.hid (stillRows X0.out hb5)
  replace BEL0 := Lib.hid (belT BEL0.out hb5)
  clear hb5 hs5 hr5
  go_wp2_with fail
  refine (I.risk _ _ _ _ x0 x1 l0 (by omega) _ X0.out X1.out).mono ?_
  rintro e w6 ⟨rfl, hb6⟩
  replace R0 := Lib.hid (stillRows R0.out hb6)
  replace R1 := Lib.hid (stillInts R1.out hb6)
  replace FA := Lib.hid (FA.out.still hb6)
  replace X0 := Lib.hid (stillRows X0.out hb6)
  replace X1 := Lib.hid (stillInts X1.out hb6)
  replace BEL0 := Lib.hid (belT BEL0.out hb6)
  clear hb6
  try unfold FracRes
  have zB : (risB x0 x1 != risB x0 x1) = false := by simp
  have cFA0 := FA.out.c0
  have cFA1 := FA.out.c1
  have ltFA := FA.out.lt
  go_wp2_with fail
  refine (eqFrac_same _ _ _).mono ?_
  rintro e w7 ⟨rfl, hb7'⟩
  have hb7 := bel1 hb7'
  clear hb7'
  clear cFA0 cFA1
  clear ltFA
  clear FA
  replace R0 := Lib.hid (stillRows R0.out hb7)
  replace R1 := Lib.hid (stillInts R1.out hb7)
  replace X0 := Lib.hid (stillRows X0.out hb7)
  replace X1 := Lib.hid (stillInts X1.out hb7)
  replace BEL0 := Lib.hid (belT BEL0.out hb7)
  clear hb7
  go_wp2_with fail
  refine (toIntSS A0 c0 x0 t0 HM0.out _ R0.out).mono ?_
  rintro e w8 ⟨rfl, hL8⟩
  have E0 := Lib.hid (NewRows.reads hL8 HM0.out)
  have hb8 := NewRows.bel hL8
  replace R0 := Lib.hid (stillRows R0.out hb8)
  replace R1 := Lib.hid (stillInts R1.out hb8)
  replace X0 := Lib.hid (stillRows X0.out hb8)
  replace X1 := Lib.hid (stillInts X1.out hb8)
  replace BEL0 := Lib.hid (belT BEL0.out hb8)
  clear hb8 hL8
  go_wp2_with fail
  refine (eqIntSS _ _ _ _ x0 _ _ l0 _ X0.out E0.out).mono ?_
  rintro e w9 ⟨rfl, hq9⟩
  have hb9 : Below w8.heap.size w8 w9 := by obtain ⟨n, rfl⟩ := hq9; exact below_drewN (Below.refl _ _) n
  replace R0 := Lib.hid (stillRows R0.out hb9)
  replace R1 := Lib.hid (stillInts R1.out hb9)
  replace X0 := Lib.hid (stillRows X0.out hb9)
  replace X1 := Lib.hid (stillInts X1.out hb9)
  replace E0 := Lib.hid (stillRows E0.out hb9)
  replace BEL0 := Lib.hid (belT BEL0.out hb9)
  clear hq9 hb9
  clear E0
  clear X0
  go_wp2_with fail
  refine (toIntS A1 c1 x1 (by omega) _ R1.out).mono ?_
  rintro e w10 ⟨⟨rfl, hb10, hs10, hr10⟩, hz10⟩
  clear hz10
  have E1 : Hid (Ints w10 (· < w10.heap.size) _ x1) := hr10.ints hs10
  replace R0 := Lib.hid (stillRows R0.out hb10)
  replace R1 := Lib.hid (stillInts R1.out hb10)
  replace X1 := Lib.hid (stillInts X1.out hb10)
  replace BEL0 := Lib.hid (belT BEL0.out hb10)
  clear hb10 hs10 hr10
  go_wp2_with fail
  refine (eqIntS _ _ _ _ x1 _ _ l1 _ X1.out E1.out).mono ?_
  rintro e w11 ⟨rfl, hq11⟩
  have hb11 : Below w10.heap.size w10 w11 := by obtain ⟨n, rfl⟩ := hq11; exact below_drewN (Below.refl _ _) n
  replace R0 := Lib.hid (stillRows R0.out hb11)
  replace R1 := Lib.hid (stillInts R1.out hb11)
  replace X1 := Lib.hid (stillInts X1.out hb11)
  replace E1 := Lib.hid (stillInts E1.out hb11)
  replace BEL0 := Lib.hid (belT BEL0.out hb11)
  clear hq11 hb11
  clear E1
  clear X1
  go_wp2_with fail
  go_ret
  exact Adds.of rfl BEL0.out

set_option maxHeartbeats 2000000 in
set_option maxRecDepth 100000 in
theorem wFnExactSettledOk (I : Impl3) (A0 : Option Addr) (c0 : Nat) (x0 : List (List Int)) (l0 : x0.length ≤ maxLen) (A1 : Option Addr) (c1 : Nat) (x1 : List Int) (l1 : x1.length ≤ maxLen) (A2 : Option Addr) (c2 : Nat) (x2 : List Int) (l2 : x2.length ≤ maxLen) (w : World) (r0 : Rows2 w (· < w.heap.size) A0 x0) (r1 : Ints w (· < w.heap.size) A1 x1) (r2 : Ints w (· < w.heap.size) A2 x2) :
    Calls Try.prog 11 #[.slice A0 x0.length c0, .slice A1 x1.length c1, .slice A2 x2.length c2] w (Adds (.bool true) w) := by
  have R0 := Lib.hid r0
  have R1 := Lib.hid r1
  have R2 := Lib.hid r2
  clear r0
  clear r1
  clear r2
  have m1 := l1
  unfold maxLen at m1
  by_cases big1 : (1048576 : Int) < (x1.length : Int)
  · go_enter Try.func11, Try.ntmps11
    go_wp2_with fail
    go_ret
    exact Adds.of rfl (Below.refl _ _)
  have s1 : x1.length ≤ 1048576 := by omega
  have m2 := l2
  unfold maxLen at m2
  by_cases big2 : (1048576 : Int) < (x2.length : Int)
  · go_enter Try.func11, Try.ntmps11
    go_wp2_with fail
    go_ret
    exact Adds.of rfl (Below.refl _ _)
  have s2 : x2.length ≤ 1048576 := by omega
  go_enter Try.func11, Try.ntmps11
  go_wp2_with fail
  refine (szIntSS A0 c0 x0 _ 1048576 l0 (by omega) (by omega) _ R0.out).mono ?_
  rintro e wz ⟨q0, rfl, rfl, hq0⟩
  by_cases hz0 : q0 < 0
  · clear hq0
    go_wp2_with fail
    go_ret
    exact Adds.of rfl (Below.refl _ _)
  have hsum0 : (x0.length : Int) + (sumN x0 x0.length : Nat) ≤ 1048576 := by omega
  have hm0 : ∀ i, i < x0.length → (rowAt x0 i).length ≤ 4294967296 := fun i hi => by have := row_le_sumN x0 hi; omega
  have HM0 := Lib.hid hm0
  have t0 : x0.length ≤ 4294967296 := by omega
  have st0 : sumN x0 x0.length ≤ 1048576 := by omega
  clear hq0 hsum0 hm0
  go_wp2_with fail
  refine (toIntSS A0 c0 x0 t0 HM0.out _ R0.out).mono ?_
  rintro e w1 ⟨rfl, hL1⟩
  have S0 := Lib.hid (NewRows.reads hL1 HM0.out)
  have hb1 := NewRows.bel hL1
  replace R0 := Lib.hid (stillRows R0.out hb1)
  replace R1 := Lib.hid (stillInts R1.out hb1)
  replace R2 := Lib.hid (stillInts R2.out hb1)
  have BEL0 := Lib.hid hb1
  clear hb1 hL1
  go_wp2_with fail
  refine (toIntS A1 c1 x1 (by omega) _ R1.out).mono ?_
  rintro e w2 ⟨⟨rfl, hb2, hs2, hr2⟩, hz2⟩
  clear hz2
  have S1 : Hid (Ints w2 (· < w2.heap.size) _ x1) := hr2.ints hs2
  replace R0 := Lib.hid (stillRows R0.out hb2)
  replace R1 := Lib.hid (stillInts R1.out hb2)
  replace R2 := Lib.hid (stillInts R2.out hb2)
  replace S0 := Lib.hid (stillRows S0.out hb2)
  replace BEL0 := Lib.hid (belT BEL0.out hb2)
  clear hb2 hs2 hr2
  go_wp2_with fail
  refine (toIntS A2 c2 x2 (by omega) _ R2.out).mono ?_
  rintro e w3 ⟨⟨rfl, hb3, hs3, hr3⟩, hz3⟩
  clear hz3
  have S2 : Hid (Ints w3 (· < w3.heap.size) _ x2) := hr3.ints hs3
  replace R0 := Lib.hid (stillRows R0.out hb3)
  replace R1 := Lib.hid (stillInts R1.out hb3)
  replace R2 := Lib.hid (stillInts R2.out hb3)
  replace S0 := Lib.hid (stillRows S0.out hb3)
  replace S1 := Lib.hid (stillInts S1.out hb3)
  replace BEL0 := Lib.hid (belT BEL0.out hb3)
  clear hb3 hs3 hr3
  go_wp2_with fail
  refine (set_spec _ _ _ _ _ _ x0 x1 x2 l0 (by omega) (by omega) _ S0.out S1.out S2.out).mono ?_
  rintro e w4 ⟨rfl, hb4⟩
  replace R0 := Lib.hid (stillRows R0.out hb4)
  replace R1 := Lib.hid (stillInts R1.out hb4)
  replace R2 := Lib.hid (stillInts R2.out hb4)
  replace S0 := Lib.hid (stillRows S0.out hb4)
  replace S1 := Lib.hid (stillInts S1.out hb4)
  replace S2 := Lib.hid (stillInts S2.out hb4)
  replace BEL0 := Lib.hid (belT BEL0.out hb4)
  clear hb4
  clear S0
  clear S1
  clear S2
  go_wp2_with fail
  refine (toIntSS A0 c0 x0 t0 HM0.out _ R0.out).mono ?_
  rintro e w5 ⟨rfl, hL5⟩
  have X0 := Lib.hid (NewRows.reads hL5 HM0.out)
  have hb5 := NewRows.bel hL5
  replace R0 := Lib.hid (stillRows R0.out hb5)
  replace R1 := Lib.hid (stillInts R1.out hb5)
  replace R2 := Lib.hid (stillInts R2.out hb5)
  replace BEL0 := Lib.hid (belT BEL0.out hb5)
  clear hb5 hL5
  go_wp2_with fail
  refine (toIntS A1 c1 x1 (by omega) _ R1.out).mono ?_
  rintro e w6 ⟨⟨rfl, hb6, hs6, hr6⟩, hz6⟩
  clear hz6
  have X1 : Hid (Ints w6 (· < w6.heap.size) _ x1) := hr6.ints hs6
  replace R0 := Lib.hid (stillRows R0.out hb6)
  replace R1 := Lib.hid (stillInts R1.out hb6)
  replace R2 := Lib.hid (stillInts R2.out hb6)
  replace X0 := Lib.hid (stillRows X0.out hb6)
  replace BEL0 := Lib.hid (belT BEL0.out hb6)
  clear hb6 hs6 hr6
  go_wp2_with fail
  refine (toIntS A2 c2 x2 (by omega) _ R2.out).mono ?_
  rintro e w7 ⟨⟨rfl, hb7, hs7, hr7⟩, hz7⟩
  clear hz7
  have X2 : Hid (Ints w7 (· < w7.heap.size) _ x2) := hr7.ints hs7
  replace R0 := Lib.hid (stillRows R0.out hb7)
  replace R1 := Lib.hid (stillInts R1.out hb7)
  replace R2 := Lib.hid (stillInts R2.out hb7)
  replace X0 := Lib.hid (stillRows X0.out hb7)
  replace X1 := Lib.hid (stillInts X1.out hb7)
  replace BEL0 := Lib.hid (belT BEL0.out hb7)
  clear hb7 hs7 hr7
  go_wp2_with fail
  refine (I.set _ _ _ _ _ _ x0 x1 x2 l0 (by omega) (by omega) _ X0.out X1.out X2.out).mono ?_
  rintro e w8 ⟨rfl, hb8⟩
  replace R0 := Lib.hid (stillRows R0.out hb8)
  replace R1 := Lib.hid (stillInts R1.out hb8)
  replace R2 := Lib.hid (stillInts R2.out hb8)
  replace X0 := Lib.hid (stillRows X0.out hb8)
  replace X1 := Lib.hid (stillInts X1.out hb8)
  replace X2 := Lib.hid (stillInts X2.out hb8)
  replace BEL0 := Lib.hid (belT BEL0.out hb8)
  clear hb8
  have zB : (setB x0 x1 x2 != setB x0 x1 x2) = false := by simp
  go_wp2_with fail
  refine (toIntSS A0 c0 x0 t0 HM0.out _ R0.out).mono ?_
  rintro e w9 ⟨rfl, hL9⟩
  have E0 := Lib.hid (NewRows.reads hL9 HM0.out)
  have hb9 := NewRows.bel hL9
  replace R0 := Lib.hid (stillRows R0.out hb9)
  replace R1 := Lib.hid (stillInts R1.out hb9)
  replace R2 := Lib.hid (stillInts R2.out hb9)
  replace X0 := Lib.hid (stillRows X0.out hb9)
  replace X1 := Lib.hid (stillInts X1.out hb9)
  replace X2 := Lib.hid (stillInts X2.out hb9)
  replace BEL0 := Lib.hid (belT BEL0.out hb9)
  clear hb9 hL9
  go_wp2_with fail
  refine (eqIntSS _ _ _ _ x0 _ _ l0 _ X0.out E0.out).mono ?_
  rintro e w10 ⟨rfl, hq10⟩
  have hb10 : Below w9.heap.size w9 w10 := by obtain ⟨n, rfl⟩ := hq10; exact below_drewN (Below.refl _ _) n
  replace R0 := Lib.hid (stillRows R0.out hb10)
  replace R1 := Lib.hid (stillInts R1.out hb10)
  replace R2 := Lib.hid (stillInts R2.out hb10)
  replace X0 := Lib.hid (stillRows X0.out hb10)
  replace X1 := Lib.hid (stillInts X1.out hb10)
  replace X2 := Lib.hid (stillInts X2.out hb10)
  replace E0 := Lib.hid (stillRows E0.out hb10)
  replace BEL0 := Lib.hid (belT BEL0.out hb10)
  clear hq10 hb10
  clear E0
  clear X0
  go_wp2_with fail
  refine (toIntS A1 c1 x1 (by omega) _ R1.out).mono ?_
  rintro e w11 ⟨⟨rfl, hb11, hs11, hr11⟩, hz11⟩
  clear hz11
  have E1 : Hid (Ints w11 (· < w11.heap.size) _ x1) := hr11.ints hs11
  replace R0 := Lib.hid (stillRows R0.out hb11)
  replace R1 := Lib.hid (stillInts R1.out hb11)
  replace R2 := Lib.hid (stillInts R2.out hb11)
  replace X1 := Lib.hid (stillInts X1.out hb11)
  replace X2 := Lib.hid (stillInts X2.out hb11)
  replace BEL0 := Lib.hid (belT BEL0.out hb11)
  clear hb11 hs11 hr11
  go_wp2_with fail
  refine (eqIntS _ _ _ _ x1 _ _ l1 _ X1.out E1.out).mono ?_
  rintro e w12 ⟨rfl, hq12⟩
  have hb12 : Below w11.heap.size w11 w12 := by obtain ⟨n, rfl⟩ := hq12; exact below_drewN (Below.refl _ _) n
  replace R0 := Lib.hid (stillRows R0.out hb12)
  replace R1 := Lib.hid (stillInts R1.out hb12)
  replace R2 := Lib.hid (stillInts R2.out hb12)
  replace X1 := Lib.hid (stillInts X1.out hb12)
  replace X2 := Lib.hid (stillInts X2.out hb12)
  replace E1 := Lib.hid (stillInts E1.out hb12)
  replace BEL0 := Lib.hid (belT BEL0.out hb12)
  clear hq12 hb12
  clear E1
  clear X1
  go_wp2_with fail
  refine (toIntS A2 c2 x2 (by omega) _ R2.out).mono ?_
  rintro e w13 ⟨⟨rfl, hb13, hs13, hr13⟩, hz13⟩
  clear hz13
  have E2 : Hid (Ints w13 (· < w13.heap.size) _ x2) := hr13.ints hs13
  replace R0 := Lib.hid (stillRows R0.out hb13)
  replace R1 := Lib.hid (stillInts R1.out hb13)
  replace R2 := Lib.hid (stillInts R2.out hb13)
  replace X2 := Lib.hid (stillInts X2.out hb13)
  replace BEL0 := Lib.hid (belT BEL0.out hb13)
  clear hb13 hs13 hr13
  go_wp2_with fail
  refine (eqIntS _ _ _ _ x2 _ _ l2 _ X2.out E2.out).mono ?_
  rintro e w14 ⟨rfl, hq14⟩
  have hb14 : Below w13.heap.size w13 w14 := by obtain ⟨n, rfl⟩ := hq14; exact below_drewN (Below.refl _ _) n
  replace R0 := Lib.hid (stillRows R0.out hb14)
  replace R1 := Lib.hid (stillInts R1.out hb14)
  replace R2 := Lib.hid (stillInts R2.out hb14)
  replace X2 := Lib.hid (stillInts X2.out hb14)
  replace E2 := Lib.hid (stillInts E2.out hb14)
  replace BEL0 := Lib.hid (belT BEL0.out hb14)
  clear hq14 hb14
  clear E2
  clear X2
  go_wp2_with fail
  go_ret
  exact Adds.of rfl BEL0.out

end Go.Proofs.Ytjojilimdhekfaa
