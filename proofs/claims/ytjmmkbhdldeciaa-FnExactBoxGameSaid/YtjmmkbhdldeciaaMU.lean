/- Texts in one: ExactBa, Impl6, DrawBx. -/
import Derived.Test.YtjmmkbhdldeciaaMS
import Derived.Test.YtjmmkbhdldeciaaMG
import Derived.Test.YtjmmkbhdldeciaaMQ
import Derived.Test.YtjmmkbhdldeciaaMJ
import Derived.Test.YtjmmkbhdldeciaaMH
import Derived.Laws.OwnMore
namespace Go.Proofs.Ytjmmkbhdldeciaa
set_option linter.unusedSimpArgs false
set_option linter.unusedVariables false
open Go.RowKit

/-- the same, its capacity that of a slice -/
def ListResC (w : World) (l : List Int) (b : Bool) (e : Ending) (w' : World) : Prop :=
  ∃ (A : Option Addr) (c : Nat), e = .returned (.tuple #[.slice A l.length c, .bool b]) ∧ l.length ≤ c ∧ c ≤ maxLen ∧ Below w.heap.size w w' ∧ OwnI w' w.heap.size w'.heap.size A l

theorem ListResC.plain {w w' : World} {l : List Int} {b : Bool} {e : Ending} (h : ListResC w l b e w') : ListRes w l b e w' := by
  obtain ⟨A, c, he, _, _, hb, ho⟩ := h; exact ⟨A, c, he, hb, ho⟩

/-- what the program's functions on boxes are asked -/
structure Impl6 : Prop where
  ok : ∀ (A : Option Addr) (c : Nat) (l : List Int) (_ : l.length ≤ 1048576) (w : World) (_ : Ints w (· < w.heap.size) A l),
    Calls Try.prog 14 #[.slice A l.length c] w (Adds (.bool (boxesB l)) w)
  game : ∀ (A : Option Addr) (c : Nat) (l : List Int) (_ : l.length ≤ 1048576) (w : World) (_ : Ints w (· < w.heap.size) A l),
    Calls Try.prog 18 #[.slice A l.length c] w (NewTable w (boxG l))
  worth : ∀ (A : Option Addr) (c : Nat) (l : List Int) (_ : l.length ≤ 1048576) (w : World) (_ : Ints w (· < w.heap.size) A l),
    Calls Try.prog 25 #[.slice A l.length c] w (Adds (FracRes (bxU l) (bxD l) (boxesB l)) w)
  weights : ∀ (A : Option Addr) (c : Nat) (l : List Int) (_ : l.length ≤ 1048576) (w : World) (_ : Ints w (· < w.heap.size) A l),
    Calls Try.prog 30 #[.slice A l.length c] w (NewList w (boxWts l))
  further : ∀ (A : Option Addr) (c : Nat) (l : List Int) (v : Int) (_ : l.length ≤ 1048576) (w : World) (_ : Ints w (· < w.heap.size) A l),
    Calls Try.prog 35 #[.slice A l.length c, .int .i64 v] w (ListResC w (wbL l v) (wbB l v))

set_option maxHeartbeats 2000000 in
set_option maxRecDepth 100000 in
theorem wFnExactBoxesOk (I : Impl6) (A0 : Option Addr) (c0 : Nat) (x0 : List Int) (l0 : x0.length ≤ maxLen) (w : World) (r0 : Ints w (· < w.heap.size) A0 x0) :
    Calls Try.prog 8 #[.slice A0 x0.length c0] w (Adds (.bool true) w) := by
  have R0 := Lib.hid r0
  clear r0
  have m0 := l0
  unfold maxLen at m0
  by_cases big0 : (1048576 : Int) < (x0.length : Int)
  · go_enter Try.func8, Try.ntmps8
    go_wp2_with fail
    go_ret
    exact Adds.of rfl (Below.refl _ _)
  have s0 : x0.length ≤ 1048576 := by omega
  go_enter Try.func8, Try.ntmps8
  go_wp2_with fail
  refine (toIntS A0 c0 x0 (by omega) _ R0.out).mono ?_
  rintro e w1 ⟨⟨rfl, hb1, hs1, hr1⟩, hz1⟩
  clear hz1
  have S0 : Hid (Ints w1 (· < w1.heap.size) _ x0) := hr1.ints hs1
  replace R0 := Lib.hid (stillInts R0.out hb1)
  have BEL0 := Lib.hid hb1
  clear hb1 hs1 hr1
  go_wp2_with fail
  refine ((boxes_spec _ _ x0 _ l0 _ S0.out).mono fun _ _ => Same.adds).mono ?_
  rintro e w2 ⟨rfl, hb2⟩
  replace R0 := Lib.hid (stillInts R0.out hb2)
  replace S0 := Lib.hid (stillInts S0.out hb2)
  replace BEL0 := Lib.hid (belT BEL0.out hb2)
  clear hb2
  clear S0
  go_wp2_with fail
  refine (toIntS A0 c0 x0 (by omega) _ R0.out).mono ?_
  rintro e w3 ⟨⟨rfl, hb3, hs3, hr3⟩, hz3⟩
  clear hz3
  have X0 : Hid (Ints w3 (· < w3.heap.size) _ x0) := hr3.ints hs3
  replace R0 := Lib.hid (stillInts R0.out hb3)
  replace BEL0 := Lib.hid (belT BEL0.out hb3)
  clear hb3 hs3 hr3
  go_wp2_with fail
  refine (I.ok _ _ x0 s0 _ X0.out).mono ?_
  rintro e w4 ⟨rfl, hb4⟩
  replace R0 := Lib.hid (stillInts R0.out hb4)
  replace X0 := Lib.hid (stillInts X0.out hb4)
  replace BEL0 := Lib.hid (belT BEL0.out hb4)
  clear hb4
  have zB : (boxesB x0 != boxesB x0) = false := by simp
  go_wp2_with fail
  refine (toIntS A0 c0 x0 (by omega) _ R0.out).mono ?_
  rintro e w5 ⟨⟨rfl, hb5, hs5, hr5⟩, hz5⟩
  clear hz5
  have E0 : Hid (Ints w5 (· < w5.heap.size) _ x0) := hr5.ints hs5
  replace R0 := Lib.hid (stillInts R0.out hb5)
  replace X0 := Lib.hid (stillInts X0.out hb5)
  replace BEL0 := Lib.hid (belT BEL0.out hb5)
  clear hb5 hs5 hr5
  go_wp2_with fail
  refine (eqIntS _ _ _ _ x0 _ _ l0 _ X0.out E0.out).mono ?_
  rintro e w6 ⟨rfl, hq6⟩
  have hb6 : Below w5.heap.size w5 w6 := by obtain ⟨n, rfl⟩ := hq6; exact below_drewN (Below.refl _ _) n
  replace R0 := Lib.hid (stillInts R0.out hb6)
  replace X0 := Lib.hid (stillInts X0.out hb6)
  replace E0 := Lib.hid (stillInts E0.out hb6)
  replace BEL0 := Lib.hid (belT BEL0.out hb6)
  clear hq6 hb6
  clear E0
  clear X0
  go_wp2_with fail
  go_ret
  exact Adds.of rfl BEL0.out

set_option maxHeartbeats 2000000 in
set_option maxRecDepth 100000 in
theorem wFnExactBoxWorth (I : Impl6) (A0 : Option Addr) (c0 : Nat) (x0 : List Int) (l0 : x0.length ≤ maxLen) (w : World) (r0 : Ints w (· < w.heap.size) A0 x0) :
    Calls Try.prog 10 #[.slice A0 x0.length c0] w (Adds (.bool true) w) := by
  have R0 := Lib.hid r0
  clear r0
  have m0 := l0
  unfold maxLen at m0
  by_cases big0 : (1048576 : Int) < (x0.length : Int)
  · go_enter Try.func10, Try.ntmps10
    go_wp2_with fail
    go_ret
    exact Adds.of rfl (Below.refl _ _)
  have s0 : x0.length ≤ 1048576 := by omega
  go_enter Try.func10, Try.ntmps10
  go_wp2_with fail
  refine (toIntS A0 c0 x0 (by omega) _ R0.out).mono ?_
  rintro e w1 ⟨⟨rfl, hb1, hs1, hr1⟩, hz1⟩
  clear hz1
  have S0 : Hid (Ints w1 (· < w1.heap.size) _ x0) := hr1.ints hs1
  replace R0 := Lib.hid (stillInts R0.out hb1)
  have BEL0 := Lib.hid hb1
  clear hb1 hs1 hr1
  go_wp2_with fail
  refine (boxWorth_spec _ _ x0 l0 _ S0.out).mono ?_
  rintro e w2 ⟨rfl, hb2⟩
  replace R0 := Lib.hid (stillInts R0.out hb2)
  replace S0 := Lib.hid (stillInts S0.out hb2)
  replace BEL0 := Lib.hid (belT BEL0.out hb2)
  clear hb2
  clear S0
  try unfold FracRes
  go_wp2_with fail
  obtain ⟨WFA, hWFA⟩ : ∃ WFA : World, WFA = w2.alloc (.cells #[.int .i64 (bxU x0), .int .i64 (bxD x0)] 35) := ⟨_, rfl⟩
  have hbWFA : Below w2.heap.size w2 WFA := by rw [hWFA]; exact (Below.refl _ _).alloc (Nat.le_refl _) _
  have FA : Hid (Box2 WFA w2.heap.size (bxU x0) (bxD x0)) := by show Box2 _ _ _ _; rw [hWFA]; exact Box2.new _ _ _
  rw [← hWFA]
  clear hWFA
  replace R0 := Lib.hid (stillInts R0.out hbWFA)
  replace BEL0 := Lib.hid (belT BEL0.out hbWFA)
  clear hbWFA
  go_wp2_with fail
  refine (toIntS A0 c0 x0 (by omega) _ R0.out).mono ?_
  rintro e w3 ⟨⟨rfl, hb3, hs3, hr3⟩, hz3⟩
  clear hz3
  have X0 : Hid (Ints w3 (· < w3.heap.size) _ x0) := hr3.ints hs3
  replace R0 := Lib.hid (stillInts R0.out hb3)
  replace FA := Lib.hid (FA.out.still hb3)
  replace BEL0 := Lib.hid (belT BEL0.out hb3)
  clear hb3 hs3 hr3
  go_wp2_with fail
  refine (I.worth _ _ x0 s0 _ X0.out).mono ?_
  rintro e w4 ⟨rfl, hb4⟩
  replace R0 := Lib.hid (stillInts R0.out hb4)
  replace FA := Lib.hid (FA.out.still hb4)
  replace X0 := Lib.hid (stillInts X0.out hb4)
  replace BEL0 := Lib.hid (belT BEL0.out hb4)
  clear hb4
  try unfold FracRes
  have zB : (boxesB x0 != boxesB x0) = false := by simp
  have cFA0 := FA.out.c0
  have cFA1 := FA.out.c1
  have ltFA := FA.out.lt
  go_wp2_with fail
  refine (eqFrac_same _ _ _).mono ?_
  rintro e w5 ⟨rfl, hb5'⟩
  have hb5 := bel1 hb5'
  clear hb5'
  clear cFA0 cFA1
  clear ltFA
  clear FA
  replace R0 := Lib.hid (stillInts R0.out hb5)
  replace X0 := Lib.hid (stillInts X0.out hb5)
  replace BEL0 := Lib.hid (belT BEL0.out hb5)
  clear hb5
  go_wp2_with fail
  refine (toIntS A0 c0 x0 (by omega) _ R0.out).mono ?_
  rintro e w6 ⟨⟨rfl, hb6, hs6, hr6⟩, hz6⟩
  clear hz6
  have E0 : Hid (Ints w6 (· < w6.heap.size) _ x0) := hr6.ints hs6
  replace R0 := Lib.hid (stillInts R0.out hb6)
  replace X0 := Lib.hid (stillInts X0.out hb6)
  replace BEL0 := Lib.hid (belT BEL0.out hb6)
  clear hb6 hs6 hr6
  go_wp2_with fail
  refine (eqIntS _ _ _ _ x0 _ _ l0 _ X0.out E0.out).mono ?_
  rintro e w7 ⟨rfl, hq7⟩
  have hb7 : Below w6.heap.size w6 w7 := by obtain ⟨n, rfl⟩ := hq7; exact below_drewN (Below.refl _ _) n
  replace R0 := Lib.hid (stillInts R0.out hb7)
  replace X0 := Lib.hid (stillInts X0.out hb7)
  replace E0 := Lib.hid (stillInts E0.out hb7)
  replace BEL0 := Lib.hid (belT BEL0.out hb7)
  clear hq7 hb7
  clear E0
  clear X0
  go_wp2_with fail
  go_ret
  exact Adds.of rfl BEL0.out

end Go.Proofs.Ytjmmkbhdldeciaa

namespace Go.Proofs.Ytjmmkbhdldeciaa
set_option linter.unusedSimpArgs false
set_option linter.unusedVariables false
open Go.RowKit

set_option maxHeartbeats 400000 in
theorem boxOkI (n : Int) (w : World) :
    Calls Try.prog 47 #[.int .i64 n] w (Same (.bool (inR n 1 9)) w) := by
  by_cases h1 : 1 ≤ n
  · by_cases h2 : n ≤ 9
    · have hf : inR n 1 9 = true := by simp [inR, h1, h2]
      rw [hf]
      go_enter Try.func47, Try.ntmps47
      go_wp2
      go_ret
      exact Same.of (by simp; try omega)
    · have hf : inR n 1 9 = false := by simp [inR, h2]
      rw [hf]
      have hd : decide (n ≤ (9 : Int)) = false := by simp; omega
      go_enter Try.func47, Try.ntmps47
      go_wp2
      go_ret
      exact Same.of (by simp; try omega)
  · have hf : inR n 1 9 = false := by simp [inR, h1]
    rw [hf]
    have hd : decide ((1 : Int) ≤ n) = false := by simp; omega
    go_enter Try.func47, Try.ntmps47
    go_wp2
    go_ret
    exact Same.of (by simp; try omega)

set_option maxHeartbeats 1000000 in
theorem boxes_impl (A : Option Addr) (c : Nat) (l : List Int) (S : Nat → Prop) (hl : l.length ≤ maxLen) (w : World) (h : Ints w S A l) :
    Calls Try.prog 14 #[.slice A l.length c] w (Same (.bool (boxesB l)) w) := by
  unfold maxLen at hl
  have HH := Lib.hid h
  clear h
  by_cases h1 : l.length < 1
  · have hf : boxesB l = false := by simp [boxesB, fewB]; omega
    rw [hf]
    go_enter Try.func14, Try.ntmps14
    go_wp2
    go_ret
    exact Same.of rfl
  by_cases h6 : 6 < l.length
  · have hf : boxesB l = false := by simp [boxesB, fewB]; omega
    rw [hf]
    go_enter Try.func14, Try.ntmps14
    go_wp2
    go_ret
    exact Same.of rfl
  have hfew : fewB l.length = true := fewB_iff.2 ⟨by omega, by omega⟩
  have HFEW := Lib.hid hfew
  clear hfew
  go_enter Try.func14, Try.ntmps14
  go_wp2_with fail
  go_loop [15] (fun i => ∃ k : Nat, k ≤ l.length ∧ i = .int .i64 k ∧ Hid (rngB l k = true)) (fun i => l.length - (intOf i).toNat)
  case atStart => exact ⟨0, Nat.zero_le _, rfl, rfl⟩
  case round =>
    obtain ⟨k, hk, rfl, H⟩ := hrel
    by_cases hlt : k < l.length
    · obtain ⟨b, off, rfl, hS, hc⟩ := HH.out.at_ hlt
      have hck := hc k hlt
      clear hc
      rcases hb : inR (nth l k) 1 9 with _ | _
      · have hno : Hid (boxesB l = false) := by show boxesB l = false; unfold boxesB; rw [rngB_no hb hlt]; simp
        have HB := Lib.hid hb
        clear hb
        go_wp2_with (go_at_call 47; refine (boxOkI _ _).mono ?_; rintro e w1 ⟨rfl, rfl⟩; rw [HB.out])
        go_ret
        exact Same.of (by rw [hno.out]; rfl)
      · have hy : Hid (rngB l (k + 1) = true) := by show (rngB l k && _) = true; rw [H.out, hb]; rfl
        have HB := Lib.hid hb
        clear hb
        go_wp2_with (go_at_call 47; refine (boxOkI _ _).mono ?_; rintro e w1 ⟨rfl, rfl⟩; rw [HB.out])
        go_round
        case rel => exact ⟨k + 1, by omega, by go_num, hy⟩
        case measure => simp [intOf]; omega
    · obtain rfl : k = l.length := by omega
      have hy : Hid (boxesB l = true) := by show boxesB l = _; unfold boxesB; rw [H.out, HFEW.out]; rfl
      go_wp2_with fail
      go_ret
      exact Same.of (by rw [hy.out]; rfl)

set_option maxHeartbeats 1000000 in
theorem commonI (a v q m : Int) (ha : 1 ≤ a) (ha' : a ≤ 2520) (hv : 1 ≤ v) (hv' : v ≤ 9) (h1 : a.tdiv (gcdI a v) = q) (h2 : IntKind.i64.wrap q = q) (h3 : q * v = m) (h4 : IntKind.i64.wrap m = m) (h5 : gcdI a v ≠ 0) (w : World) :
    Calls Try.prog 74 #[.int .i64 a, .int .i64 v] w (Adds (.int .i64 m) w) := by
  obtain ⟨d, hd⟩ : ∃ d, gcdI a v = d := ⟨_, rfl⟩
  have HD : Hid (∀ w', Calls Try.prog 70 #[.int .i64 a, .int .i64 v] w' (Adds (.int .i64 d) w')) := fun w' => (divisor_int a v (by omega) (by omega) (by omega) (by omega) w').mono (by rintro e w1 ⟨rfl, hb1⟩; rw [hd]; exact Adds.of rfl hb1)
  rw [hd] at h1 h5
  clear hd
  have HM := Lib.hid h3
  rw [← h3] at h4
  clear h3
  go_enter Try.func74, Try.ntmps74
  go_wp2_with fail
  refine (HD.out _).mono ?_
  rintro e w1 ⟨rfl, hb1⟩
  go_wp2_with fail
  go_ret
  rw [HM.out]
  exact Adds.of rfl hb1

theorem common_enters : ∀ (args : Array Value) (w : World), (callFunc 74 args).run Try.prog w = .ok (.enter 74 args) w := enters_of Try.func74 (by kernel_rfl) rfl

set_option maxHeartbeats 1000000 in
theorem multiple_impl (A : Option Addr) (c : Nat) (l : List Int) (hx : Boxes l) (w : World) (h : Ints w (· < w.heap.size) A l) :
    Calls Try.prog 73 #[.slice A l.length c, .int .i64 1, .func (.func 74) #[] #[]] w (Adds (.int .i64 (ovW l)) w) := by
  have hl := hx.hi
  have HX := Lib.hid hx
  have HH := Lib.hid h
  have hE := common_enters
  clear h hx
  go_enter Try.func73, Try.ntmps73
  go_wp2_with fail
  go_loopw [7, 13] (fun v i wr => ∃ k : Nat, k ≤ l.length ∧ i = .int .i64 k ∧ v = .int .i64 (ovN l k) ∧ Hid (Below w.heap.size w wr)) (fun _ i _ => l.length - (intOf i).toNat)
  case atStart => exact ⟨0, Nat.zero_le _, rfl, rfl, Below.refl _ _⟩
  case round =>
    obtain ⟨k, hk, rfl, rfl, HB⟩ := hrel
    by_cases hlt : k < l.length
    · obtain ⟨q, hq1, hq2, hq3, hq4, hq5, hq6, hq7⟩ := ov_step HX.out hlt
      have v1 := HX.out.vlo k hlt
      have v2 := HX.out.vhi k hlt
      obtain ⟨b, off, rfl, hS, hc⟩ := (keepInts HB.out HH.out).at_ hlt
      have hck := hc k hlt
      have HC : Hid (∀ w', Calls Try.prog 74 #[.int .i64 (ovN l k), .int .i64 (nth l k)] w' (Adds (.int .i64 (ovN l (k + 1))) w')) := fun w' => commonI _ _ q _ hq6 hq7 v1 v2 hq1 hq2 hq3 (by rw [← hq3]; exact hq4) hq5 w'
      clear hc hq1 hq2 hq3 hq4 hq5
      go_wp2_with fail
      refine (HC.out _).mono ?_
      rintro e w1 ⟨rfl, hb1⟩
      have HB' : Hid (Below w.heap.size w w1) := belT HB.out hb1
      clear hb1
      go_wp2_with fail
      go_roundw
      case rel => exact ⟨k + 1, by omega, by go_num, rfl, HB'⟩
      case measure => simp [intOf]; omega
    · obtain rfl : k = l.length := by omega
      go_wp2_with fail
      go_ret
      exact Adds.of rfl HB.out

set_option maxHeartbeats 1000000 in
theorem multipleOf (A : Option Addr) (c : Nat) (l : List Int) (hx : Boxes l) (w : World) (h : Ints w (· < w.heap.size) A l) :
    Calls Try.prog 58 #[.slice A l.length c] w (Adds (.int .i64 (ovW l)) w) := by
  have HX := Lib.hid hx
  have HH := Lib.hid h
  clear h hx
  go_enter Try.func58, Try.ntmps58
  go_wp2_with fail
  refine (multiple_impl _ _ _ HX.out _ HH.out).mono ?_
  rintro e w1 ⟨rfl, hb1⟩
  go_wp2_with fail
  go_ret
  exact Adds.of rfl hb1

set_option maxHeartbeats 2000000 in
set_option maxRecDepth 100000 in
theorem boxWts_impl (A : Option Addr) (c : Nat) (l : List Int) (hl : l.length ≤ maxLen) (w : World) (h : Ints w (· < w.heap.size) A l) :
    Calls Try.prog 30 #[.slice A l.length c] w (NewList w (boxWts l)) := by
  have HOK := Lib.hid (boxes_impl A c l _ hl w h)
  have HH := Lib.hid h
  clear h
  rcases hb : boxesB l with _ | _
  · rw [hb] at HOK
    rw [(bx_no hb).2.2]
    clear hb hl
    go_enter Try.func30, Try.ntmps30
    go_wp2_with (go_at_call 14; refine HOK.out.mono ?_; rintro e w1 ⟨rfl, rfl⟩)
    go_ret
    exact NewList.of rfl (Grows.nil _ _) (Below.refl _ _)
  · have hx := boxesB_iff.1 hb
    rw [hb] at HOK
    rw [boxWts_yes hb]
    have hlen := hx.hi
    have hlo := hx.lo
    have HX := Lib.hid hx
    obtain ⟨o1, o2⟩ := hx.ov
    have HM := Lib.hid (multipleOf A c l hx w HH.out)
    have HL := Lib.hid (wts_length l)
    have hmk := run_make_row' (P := Try.prog) 23 3 _ 8 Try.underlying23 infoI rfl .i64 .i64 l.length (by omega) (by omega)
    clear hb hl hx
    go_enter Try.func30, Try.ntmps30
    go_wp2_with (first | (go_at_call 14; refine HOK.out.mono ?_; rintro e w1 ⟨rfl, rfl⟩) | (go_at_call 58; refine HM.out.mono ?_; rintro e w1 ⟨rfl, hb1⟩))
    have HB1 := Lib.hid hb1
    clear hb1 hmk
    have F0 : Hid (Filled w1 (w1.alloc (.cells (madeCells #[.int .i64 0] l.length) 3)) (wts l) 0) := by
      have := Filled.start w1 (wts l); rw [HL.out] at this; exact this
    go_loopw [17] (fun i wr => ∃ k : Nat, k ≤ l.length ∧ i = .int .i64 k ∧ Hid (Filled w1 wr (wts l) k)) (fun i _ => l.length - (intOf i).toNat)
    case atStart => exact ⟨0, Nat.zero_le _, rfl, F0.out⟩
    case round =>
      obtain ⟨k, hk, rfl, HF⟩ := hrel
      by_cases hlt : k < l.length
      · have v1 := HX.out.vlo k hlt
        have v2 := HX.out.vhi k hlt
        obtain ⟨t1, t2⟩ := wt_bd HX.out hlt
        have e1 := wtN_quo HX.out hlt
        have w2 : IntKind.i64.wrap (wtN l k) = wtN l k := IntWalk.i64_in _ ⟨by omega, by omega⟩
        obtain ⟨b, off, rfl, hS, hc⟩ := (keepInts (belT HB1.out HF.out.bel) HH.out).at_ hlt
        have hck := hc k hlt
        have hlt' : k < (wts l).length := by rw [HL.out]; exact hlt
        have hcell := HF.out.row.cell (i := k) hlt'
        have hfr := HF.out.row.frozen k
        have HN2 : Hid (Filled w1 (wr.setCell ⟨w1.heap.size, k, none⟩ (.int .i64 (wtN l k))) (wts l) (k + 1)) := by
          have := HF.out.step; rw [nth_wts l k hlt] at this; exact this
        clear hc
        go_wp2_with fail
        go_roundw
        case rel => exact ⟨k + 1, by omega, by go_num, HN2⟩
        case measure => simp [intOf]; omega
      · obtain rfl : k = l.length := by omega
        have HD := HF.out
        rw [← HL.out] at HD
        have HROW : Hid (IntRow wr w1.heap.size (wts l)) := HD.done
        have HBW : Hid (Below w.heap.size w wr) := belT HB1.out HD.bel
        have hz := HD.size
        have hz1 := HB1.out.size
        have HON : Hid (OwnI wr w.heap.size wr.heap.size (some ⟨w1.heap.size, 0, none⟩) (wts l)) := fun _ => ⟨w1.heap.size, (wts l).length, _, rfl, hz1, by omega, HROW.out, Nat.le_refl _, fun _ _ => rfl⟩
        clear hz hz1 HD
        go_wp2_with fail
        go_ret
        exact ⟨_, l.length, by rw [HL.out]; rfl, HBW.out, HON.out⟩

/-- one number of a row of 0 makes it whole -/
theorem LayIn.one {w wr : World} {g : List (List Int)} {k j : Nat} {v : Int} (h : LayIn w wr g k 0) (hv : ∀ i, i < (rowAt g k).length → nth (rowAt g k) i = if i = j then v else 0) :
    Laying w (wr.setCell ⟨w.heap.size + 1 + k, j, none⟩ (.int .i64 v)) g (k + 1) := by
  refine ⟨h.bel.setCell (by show w.heap.size ≤ w.heap.size + 1 + k; omega) _, by simp [World.setCell, h.size]; omega, h.top.setOther (by show w.heap.size ≠ w.heap.size + 1 + k; omega) _, fun i hi => ?_⟩
  by_cases e : i = k
  · subst e
    refine (h.cur.set j _).congr fun x hx => ?_
    rw [hv x hx]
    by_cases e : x = j
    · rw [if_pos e, if_pos e]
    · rw [if_neg e, if_neg e]; simp
  · exact (h.rows i (by omega)).setOther (by show w.heap.size + 1 + i ≠ w.heap.size + 1 + k; omega) _

set_option maxHeartbeats 2000000 in
set_option maxRecDepth 100000 in
theorem boxGame_impl (A : Option Addr) (c : Nat) (l : List Int) (hl : l.length ≤ maxLen) (w : World) (h : Ints w (· < w.heap.size) A l) :
    Calls Try.prog 18 #[.slice A l.length c] w (NewTable w (boxG l)) := by
  have HOK := Lib.hid (boxes_impl A c l _ hl w h)
  have HH := Lib.hid h
  clear h
  rcases hb : boxesB l with _ | _
  · rw [hb] at HOK
    rw [boxG_no hb]
    clear hb hl
    go_enter Try.func18, Try.ntmps18
    go_wp2_with (go_at_call 14; refine HOK.out.mono ?_; rintro e w1 ⟨rfl, rfl⟩)
    go_ret
    exact ⟨none, 0, rfl, Below.refl _ _, fun h0 => absurd h0 (by simp)⟩
  · have hx := boxesB_iff.1 hb
    rw [hb] at HOK
    rw [boxG_yes hb]
    have hlen := hx.hi
    have hlo := hx.lo
    have HX := Lib.hid hx
    have HL := Lib.hid (boxT_length l)
    have HRL : Hid (∀ i, i < l.length → (rowAt (boxT l) i).length = l.length) := fun i hi => by rw [rowAt_boxT l i hi, boxRow_length]
    have HRN : Hid (∀ i, i < l.length → ∀ j, j < l.length → nth (rowAt (boxT l) i) j = if j = i then nth l i else 0) := fun i hi j hj => by rw [rowAt_boxT l i hi, nth_boxRow l i j hj]
    have hmk1 := run_make_row' (P := Try.prog) 28 23 _ 24 Try.underlying28 infoR rfl .i64 .i64 l.length (by omega) (by omega)
    have hmk2 := run_make_row' (P := Try.prog) 23 3 _ 8 Try.underlying23 infoI rfl .i64 .i64 l.length (by omega) (by omega)
    have F0 : Hid (Laying w (w.alloc (.cells (madeCells #[.slice none 0 0] l.length) 23)) (boxT l) 0) := by
      have := Laying.start w (boxT l); rw [HL.out] at this; exact this
    clear hb hl hx
    go_enter Try.func18, Try.ntmps18
    go_wp2_with (go_at_call 14; refine HOK.out.mono ?_; rintro e w1 ⟨rfl, rfl⟩)
    clear hmk1
    go_loopw [14] (fun i wr => ∃ k : Nat, k ≤ l.length ∧ i = .int .i64 k ∧ Hid (Laying w wr (boxT l) k)) (fun i _ => l.length - (intOf i).toNat)
    case atStart => exact ⟨0, Nat.zero_le _, rfl, F0.out⟩
    case round =>
      obtain ⟨k, hk, rfl, HF⟩ := hrel
      by_cases hlt : k < l.length
      · have HC := Lib.hid (HRL.out k hlt)
        have hlt' : k < (boxT l).length := by rw [HL.out]; exact hlt
        obtain ⟨b, off, rfl, hS, hc⟩ := (keepInts HF.out.bel HH.out).at_ hlt
        have hck := hc k hlt
        have hst1 : ∀ o, (wr.alloc o).cell? ⟨w.heap.size, k, none⟩ = some (.slice none 0 0) := fun o => by
          have := ((HF.out.top).alloc o).cell (i := k) hlt'; rwa [if_neg (by omega)] at this
        have hst2 : ∀ o, (wr.alloc o).frozen? ⟨w.heap.size, k, none⟩ = false := fun o => (HF.out.top.alloc o).frozen k
        have HI : Hid (LayIn w ((wr.alloc (.cells (madeCells #[.int .i64 0] l.length) 3)).setCell ⟨w.heap.size, k, none⟩ (.slice (some ⟨wr.heap.size, 0, none⟩) l.length l.length)) (boxT l) k 0) := by
          have := HF.out.open_; rw [HC.out] at this; exact this
        have hws : wr.heap.size = w.heap.size + 1 + k := HF.out.size
        have HWS := Lib.hid hws
        have hst3 : ((wr.alloc (.cells (madeCells #[.int .i64 0] l.length) 3)).setCell ⟨w.heap.size, k, none⟩ (.slice (some ⟨wr.heap.size, 0, none⟩) l.length l.length)).cell? ⟨w.heap.size, k, none⟩ = some (.slice (some ⟨wr.heap.size, 0, none⟩) l.length l.length) := by
          have := HI.out.cell hlt'; rw [HC.out, ← hws] at this; exact this
        obtain ⟨z, hst4⟩ : ∃ z, ((wr.alloc (.cells (madeCells #[.int .i64 0] l.length) 3)).setCell ⟨w.heap.size, k, none⟩ (.slice (some ⟨wr.heap.size, 0, none⟩) l.length l.length)).cell? ⟨wr.heap.size, k, none⟩ = some z := ⟨_, by have := HI.out.cur.cell (i := k) (by rw [HC.out]; exact hlt); rw [← hws] at this; exact this⟩
        have hst5 : ((wr.alloc (.cells (madeCells #[.int .i64 0] l.length) 3)).setCell ⟨w.heap.size, k, none⟩ (.slice (some ⟨wr.heap.size, 0, none⟩) l.length l.length)).frozen? ⟨wr.heap.size, k, none⟩ = false := by have := HI.out.cur.frozen k; rw [← hws] at this; exact this
        have HN : Hid (Laying w (((wr.alloc (.cells (madeCells #[.int .i64 0] l.length) 3)).setCell ⟨w.heap.size, k, none⟩ (.slice (some ⟨wr.heap.size, 0, none⟩) l.length l.length)).setCell ⟨wr.heap.size, k, none⟩ (.int .i64 (nth l k))) (boxT l) (k + 1)) := by
          have := HI.out.one (j := k) (v := nth l k) (fun i hi => by rw [HC.out] at hi; exact HRN.out k hlt i hi); rw [← hws] at this; exact this
        clear hc hws
        go_wp2_with fail
        go_roundw
        case rel => exact ⟨k + 1, by omega, by go_num, HN⟩
        case measure => simp [intOf]; omega
      · obtain rfl : k = l.length := by omega
        have HD : Hid (Laid w wr (boxT l)) := by have := HF.out; rw [← HL.out] at this; exact this
        have HOWN := Lib.hid (Laid.own HD.out (fun i hi => by rw [HL.out] at hi; rw [HRL.out i hi]; unfold maxLen; omega))
        have HBL := Lib.hid HD.out.bel
        clear HF
        go_wp2_with fail
        go_ret
        exact ⟨_, l.length, by rw [HL.out]; rfl, HBL.out, HOWN.out⟩

set_option maxHeartbeats 2000000 in
set_option maxRecDepth 100000 in
theorem boxWorth_impl (A : Option Addr) (c : Nat) (l : List Int) (hl : l.length ≤ maxLen) (w : World) (h : Ints w (· < w.heap.size) A l) :
    Calls Try.prog 25 #[.slice A l.length c] w (Adds (FracRes (bxU l) (bxD l) (boxesB l)) w) := by
  have HH := Lib.hid h
  clear h
  obtain ⟨W, hW⟩ : ∃ W : World, W = (w.alloc (.cells #[(Value.int .i64 0), (Value.int .i64 0)] 35)) := ⟨_, rfl⟩
  have hzW : W.heap.size = w.heap.size + 1 := by rw [hW]; simp
  have hbW : Below w.heap.size w W := by rw [hW]; exact (Below.refl _ _).alloc (Nat.le_refl _) _
  have r00 := stays (p := w.heap.size) (o := 0) (by omega) (show W.cell? ⟨w.heap.size, 0, none⟩ = some ((Value.int .i64 0)) from by rw [hW]; simp [go_sem])
  have g00 := staysF (p := w.heap.size) (o := 0) (by omega) (show W.frozen? ⟨w.heap.size, 0, none⟩ = false from by rw [hW]; simp [go_sem])
  have r01 := stays (p := w.heap.size) (o := 1) (by omega) (show W.cell? ⟨w.heap.size, 1, none⟩ = some ((Value.int .i64 0)) from by rw [hW]; simp [go_sem])
  have g01 := staysF (p := w.heap.size) (o := 1) (by omega) (show W.frozen? ⟨w.heap.size, 1, none⟩ = false from by rw [hW]; simp [go_sem])
  have HW : Hid (Ints W (· < W.heap.size) A l) := (keepInts hbW HH.out).lt hbW.size
  have HOK : Hid (∀ c, Calls Try.prog 14 #[.slice A l.length c] W (Same (.bool (boxesB l)) W)) := fun c => boxes_impl A c l _ hl W HW.out
  have HzW := Lib.hid hzW
  have HBW := Lib.hid hbW
  have HEQ := Lib.hid hW
  rcases hb : boxesB l with _ | _
  · have hno := Lib.hid (bx_no hb)
    rw [hb] at HOK
    clear hb hW hzW hbW
    rw [hno.out.1, hno.out.2.1]
    have e00 := r00 W (Below.refl _ _)
    have e01 := r01 W (Below.refl _ _)
    have f00 := g00 W (Below.refl _ _)
    have f01 := g01 W (Below.refl _ _)
    have hlt : w.heap.size < W.heap.size := by have := HzW.out; omega
    clear r00 r01 g00 g01
    go_enter Try.func25, Try.ntmps25
    go_wp2_with fail
    rw [← HEQ.out]
    refine (HOK.out _).mono ?_
    rintro e w1 ⟨rfl, rfl⟩
    go_wp2_with fail
    refine bodyPost_ret (v := FracRes 0 0 false) (by simp [results, Try.results25, go_sem, FracRes, e00, e01, hlt, Nat.ne_of_lt hlt, Nat.ne_of_gt hlt]) rfl ⟨rfl, ?_⟩
    exact ((HBW.out.setCell (Nat.le_refl _) _).setCell (Nat.le_refl _) _)
  · have hx := boxesB_iff.1 hb
    have hlen := hx.hi
    obtain ⟨o1, o2⟩ := hx.ov
    obtain ⟨s1, s2⟩ := sm_bd hx
    have hU := Lib.hid (bxU_yes hb)
    have hD := Lib.hid (bxD_yes hb)
    have hof : ofB (ovW l) (smW l) = true := ofB_iff.2 ⟨by omega, by omega, by omega, by omega, by omega⟩
    have HM : Hid (∀ (w' : World), Below W.heap.size W w' → ∀ c, Calls Try.prog 58 #[.slice A l.length c] w' (Adds (.int .i64 (ovW l)) w')) := fun w' hb' c => multipleOf A c l hx w' ((keepInts hb' HW.out).lt hb'.size)
    have HB : Hid (∀ (w' : World), Below W.heap.size W w' → ∀ c, Calls Try.prog 30 #[.slice A l.length c] w' (NewList w' (wts l))) := fun w' hb' c => by
      have := boxWts_impl A c l hl w' ((keepInts hb' HW.out).lt hb'.size); rw [boxWts_yes hb] at this; exact this
    have HSM : Hid (∀ (A' : Option Addr) (c' : Nat) (w' : World) (lo : Nat), OwnI w' lo w'.heap.size A' (wts l) → Calls Try.prog 59 #[.slice A' (wts l).length c'] w' (Adds (.int .i64 (smW l)) w')) := fun A' c' w' lo ho => by
      have hwb := wts_bd hx
      have := sumOfI 2520 (by omega) A' c' (wts l) _ (by rw [wts_length]; omega) (fun i hi => by rw [wts_length] at hi; have := hwb i hi; omega) w' ho.ints
      rw [wts_length] at this ⊢
      have e : smW l = sumI l.length (nth (wts l)) := sumW_I _ _
      rw [e]
      exact this.mono fun _ _ => Same.adds
    have HF : Hid (∀ (w' : World), Calls Try.prog 57 #[.int .i64 (ovW l), .int .i64 (smW l)] w' (Adds (FracRes (lowU (ovW l) (smW l)) (lowD (ovW l) (smW l)) true) w')) := fun w' => (of_yes_impl _ _ hof w').mono (by rintro e w1 ⟨rfl, hb1⟩; exact Adds.of rfl hb1)
    rw [hb] at HOK
    clear hb hW hzW hbW hx hof
    rw [hU.out, hD.out]
    go_enter Try.func25, Try.ntmps25
    go_wp2_with fail
    rw [← HEQ.out]
    refine (HOK.out _).mono ?_
    rintro e w1 ⟨rfl, rfl⟩
    go_wp2_with fail
    refine (HM.out _ (Below.refl _ _) _).mono ?_
    rintro e w1 ⟨rfl, hb1⟩
    go_wp2_with fail
    refine (HB.out _ hb1 _).mono ?_
    rintro e w2 ⟨A', c', rfl, hb2, ho⟩
    go_wp2_with fail
    refine (HSM.out _ _ _ _ ho).mono ?_
    rintro e w3 ⟨rfl, hb3⟩
    go_wp2_with fail
    refine (HF.out _).mono ?_
    rintro e w4 ⟨rfl, hb4⟩
    have hb14 : Below W.heap.size W w4 := belT (belT (belT hb1 hb2) hb3) hb4
    have e00 := r00 _ hb14
    have e01 := r01 _ hb14
    have f00 := g00 _ hb14
    have f01 := g01 _ hb14
    have hlt : w.heap.size < w4.heap.size := by have := hb14.size; have := HzW.out; omega
    have HBB := Lib.hid (belT HBW.out hb14)
    clear r00 r01 g00 g01 hb14 hb1 hb2 hb3 hb4 ho
    try unfold FracRes
    go_wp2_with fail
    refine bodyPost_ret (v := FracRes (lowU (ovW l) (smW l)) (lowD (ovW l) (smW l)) true) (by simp [results, Try.results25, go_sem, FracRes, e00, e01, hlt, Nat.ne_of_lt hlt, Nat.ne_of_gt hlt]) rfl ⟨rfl, ?_⟩
    exact ((HBB.out.setCell (Nat.le_refl _) _).setCell (Nat.le_refl _) _)

set_option maxHeartbeats 4000000 in
set_option maxRecDepth 100000 in
theorem concatI2 (b0 : Nat) (c0 : Nat) (A1 A2 : Addr) (n1 c1 n2 c2 : Nat) (xs ys : List Value) (hx : xs.length = n1) (hy : ys.length = n2) (hn : n1 + n2 ≤ 1000) (h0 : 0 < n1 + n2)
    (ox : ∀ u ∈ xs, u.oneCell' = true) (oy : ∀ u ∈ ys, u.oneCell' = true) (w : World) (hb0 : b0 < w.heap.size) (hb1 : A1.block < w.heap.size) (hb2 : A2.block < w.heap.size)
    (k0 : w.cell? ⟨b0, 0, none⟩ = some (.slice (some A1) n1 c1)) (k1 : w.cell? ⟨b0, 1, none⟩ = some (.slice (some A2) n2 c2))
    (hxs : ∀ w', Below w.heap.size w w' → ∀ j u, xs[j]? = some u → w'.cell? (A1.add j) = some u) (hys : ∀ w', Below w.heap.size w w' → ∀ j u, ys[j]? = some u → w'.cell? (A2.add j) = some u) :
    Calls Try.prog 67 #[.slice (some ⟨b0, 0, none⟩) 2 c0] w fun e w' => ∃ v, e = .returned v ∧ Below w.heap.size w w' ∧ w'.ownsRow w.heap.size 3 1 v (n1 + n2) (xs ++ ys) := by
  obtain ⟨i0, hi0, hz0, hz1, hz2⟩ := info_parts infoI
  have HI0 := Lib.hid hi0
  have HZ0 := Lib.hid hz0
  have HZ1 := Lib.hid hz1
  have HZ2 := Lib.hid hz2
  have HXS := Lib.hid hxs
  have HYS := Lib.hid hys
  have HK0 : Hid (∀ w', Below w.heap.size w w' → w'.cell? ⟨b0, 0, none⟩ = some (.slice (some A1) n1 c1)) := fun w' hb => (hb.cell (p := ⟨b0, 0, none⟩) hb0).trans k0
  have HK1 : Hid (∀ w', Below w.heap.size w w' → w'.cell? ⟨b0, 1, none⟩ = some (.slice (some A2) n2 c2)) := fun w' hb => (hb.cell (p := ⟨b0, 1, none⟩) hb0).trans k1
  have HX := Lib.hid hx
  have HY := Lib.hid hy
  have HOX := Lib.hid ox
  have HOY := Lib.hid oy
  have cc : ((n1 : Int) + (n2 : Int)) = ((n1 + n2 : Nat) : Int) := by omega
  have HCC := Lib.hid cc
  have s2 : IntKind.i64.wrap ((n1 : Int) + (n2 : Int)) = (n1 : Int) + (n2 : Int) := IntWalk.i64_in _ ⟨by omega, by omega⟩
  have s1 : IntKind.i64.wrap (n1 : Int) = (n1 : Int) := IntWalk.i64_in _ ⟨by omega, by omega⟩
  have HG := Lib.hid (growI (n1 + n2) h0 hn w)
  clear hi0 hz0 hz1 hz2 hxs hys hx hy ox oy cc hb1 hb2
  go_enter Try.func67, Try.ntmps67
  go_wp2_with fail
  go_loop [3, 11] (fun s i => (s = .int .i64 0 ∧ i = .int .i64 0) ∨ (s = .int .i64 n1 ∧ i = .int .i64 1) ∨ (s = .int .i64 ((n1 : Int) + (n2 : Int)) ∧ i = .int .i64 2)) (fun _ i => 2 - (intOf i).toNat)
  case atStart => exact .inl ⟨rfl, rfl⟩
  case round =>
    rcases hrel with ⟨rfl, rfl⟩ | ⟨rfl, rfl⟩ | ⟨rfl, rfl⟩
    · go_wp2_with fail
      go_round
      case rel => exact .inr (.inl ⟨by first | rfl | (simp; done) | go_num, by first | rfl | go_num⟩)
      case measure => simp [intOf]
    · go_wp2_with fail
      go_round
      case rel => exact .inr (.inr ⟨by first | rfl | (simp; done) | go_num, by first | rfl | go_num⟩)
      case measure => simp [intOf]
    · clear k0 k1 s1 s2
      rw [HCC.out]
      go_wp2_with fail
      refine HG.out.mono ?_
      rintro e w1 ⟨v1, rfl, hb1, ho1⟩
      have HB1 := Lib.hid hb1
      have HO1 := Lib.hid ho1
      clear hb1 ho1
      go_wp2_with fail
      go_loopw [6, 27] (fun v i wr => ∃ k : Nat, k ≤ 2 ∧ i = .int .i64 k ∧ Hid (wr.ownsRow w.heap.size 3 1 v (preN xs ys k).length (preN xs ys k)) ∧ Hid (Below w.heap.size w wr)) (fun _ i _ => 2 - (intOf i).toNat)
      case atStart => exact ⟨0, Nat.zero_le _, rfl, HO1.out, HB1⟩
      case round =>
        obtain ⟨k, hk, rfl, HO, HB⟩ := hrel
        have hk3 : k = 0 ∨ k = 1 ∨ k = 2 := by omega
        have hws := HB.out.size
        have kk0 := HK0.out _ HB.out
        have kk1 := HK1.out _ HB.out
        rcases hk3 with rfl | rfl | rfl
        · have HN := Lib.hid (HXS.out _ HB.out)
          clear kk1
          go_wp2_with (at_builtin; refine wpList_append_own_at _ rfl (.tmp 31) (.tmp 32) _ rfl w.heap.size 3 i0 (.int .i64 0) 1 8 Try.underlying23 HI0.out HZ0.out HZ1.out HZ2.out rfl (by decide) _ 0 [] rfl HO.out A1 n1 c1 xs rfl (by rw [HX.out, Nat.mul_one]) HN.out HOX.out (by unfold maxLen; omega) (by omega) hws ?_)
          intro v' w4 hown hgrow _ _
          have HO2 : Hid (w4.ownsRow w.heap.size 3 1 v' (preN xs ys 1).length (preN xs ys 1)) := by
            show w4.ownsRow w.heap.size 3 1 v' xs.length xs
            rw [HX.out]; simpa using hown
          have HB2 : Hid (Below w.heap.size w w4) := HB.out.grown hgrow hws (fun k hk => by have := (World.ownsRow.lt HO.out) k hk; omega)
          clear hown hgrow
          go_wp2_with fail
          go_roundw
          case rel => exact ⟨1, by omega, by go_num, HO2, HB2⟩
          case measure => simp [intOf]
        · have HN := Lib.hid (HYS.out _ HB.out)
          clear kk0
          have HO' := Lib.hid (own_pre1 HO.out HX.out)
          go_wp2_with (at_builtin; refine wpList_append_own_at _ rfl (.tmp 31) (.tmp 32) _ rfl w.heap.size 3 i0 (.int .i64 0) 1 8 Try.underlying23 HI0.out HZ0.out HZ1.out HZ2.out rfl (by decide) _ n1 xs rfl HO'.out A2 n2 c2 ys rfl (by rw [HY.out, Nat.mul_one]) HN.out HOY.out (by unfold maxLen; omega) (by omega) hws ?_)
          intro v' w4 hown hgrow _ _
          have HO2 : Hid (w4.ownsRow w.heap.size 3 1 v' (preN xs ys 2).length (preN xs ys 2)) := by
            show w4.ownsRow w.heap.size 3 1 v' (xs ++ ys).length (xs ++ ys)
            rw [List.length_append, HX.out, HY.out]; exact hown
          have HB2 : Hid (Below w.heap.size w w4) := HB.out.grown hgrow hws (fun k hk => by have := (World.ownsRow.lt HO.out) k hk; omega)
          clear hown hgrow
          go_wp2_with fail
          go_roundw
          case rel => exact ⟨2, by omega, by go_num, HO2, HB2⟩
          case measure => simp [intOf]
        · clear kk0 kk1
          have HO' := Lib.hid (own_pre2 HO.out HX.out HY.out)
          go_wp2_with fail
          go_ret
          exact ⟨_, rfl, HB.out, HO'.out⟩

theorem Grows.ownC {w : World} {base : Nat} {v : Value} {l : List Int} (h : Grows w base v l) : ∃ (A : Option Addr) (c : Nat), v = .slice A l.length c ∧ l.length ≤ c ∧ c ≤ maxLen ∧ OwnI w base w.heap.size A l := by
  have hc : ∀ A n c, v = .slice A n c → c ≤ maxLen := fun A n c e => by
    obtain ⟨h1, ⟨h2, _⟩ | ⟨b, cap, cur, h2, h3, h4, h5, h6, h7, h8⟩⟩ := h
    · rw [h2] at e; cases e; exact Nat.zero_le _
    · rw [h2] at e; cases e; exact h6
  obtain ⟨A, c, e, h1, h2⟩ := h.own
  exact ⟨A, c, e, h1, hc _ _ _ e, h2⟩

set_option maxHeartbeats 2000000 in
set_option maxRecDepth 100000 in
theorem withBox_impl (A : Option Addr) (c : Nat) (l : List Int) (v : Int) (hl : l.length ≤ 1048576) (w : World) (h : Ints w (· < w.heap.size) A l) :
    Calls Try.prog 35 #[.slice A l.length c, .int .i64 v] w (ListResC w (wbL l v) (wbB l v)) := by
  have HH := Lib.hid h
  have hlm : l.length ≤ maxLen := by unfold maxLen; omega
  have HOK := Lib.hid (boxes_impl A c l _ hlm w h)
  have HV := Lib.hid (boxOkI v w)
  clear h
  have NO : ∀ w' : World, w' = w → wbB l v = false → ∀ x, x = Value.tuple #[.slice none 0 0, .bool false] → ListResC w (wbL l v) (wbB l v) (.returned x) w' := fun w' e hb x hx => by
    subst e; rw [wb_no hb, hb, hx]; exact ⟨none, 0, rfl, Nat.le_refl _, by unfold maxLen; omega, Below.refl _ _, fun h0 => absurd h0 (by simp)⟩
  replace NO := Lib.hid NO
  rcases hb : boxesB l with _ | _
  · rw [hb] at HOK
    have hw : Hid (wbB l v = false) := by show wbB l v = false; unfold wbB; rw [hb]; rfl
    clear hb
    go_enter Try.func35, Try.ntmps35
    go_wp2_with (go_at_call 14; refine HOK.out.mono ?_; rintro e w1 ⟨rfl, rfl⟩)
    go_ret2
    exact NO.out _ rfl hw.out _ rfl
  have hx := boxesB_iff.1 hb
  rw [hb] at HOK
  have hlen := hx.hi
  have hlo := hx.lo
  have hnth : nth (l ++ [v]) l.length = v := by unfold nth; simp
  have hrng : rngB (l ++ [v]) l.length = rngB l l.length := by
    rw [Bool.eq_iff_iff, rngB_iff, rngB_iff]
    exact ⟨fun h i hi => by have := h i hi; rwa [nth_snoc_lt l v i hi] at this, fun h i hi => by rw [nth_snoc_lt l v i hi]; exact h i hi⟩
  have hr2 : rngB l l.length = true := rngB_iff.2 hx.rng
  have hbb : boxesB (l ++ [v]) = (fewB (l.length + 1) && inR v 1 9) := by
    unfold boxesB; rw [List.length_append]
    show (fewB (l.length + 1) && (rngB (l ++ [v]) l.length && inR (nth (l ++ [v]) l.length) 1 9)) = _
    rw [hrng, hr2, hnth]; rfl
  by_cases h6 : l.length = 6
  · have hw : Hid (wbB l v = false) := by show wbB l v = false; unfold wbB; rw [hbb, h6]; simp [fewB]
    have e6 : ((l.length : Int) == 6) = true := by rw [h6]; rfl
    clear hb hbb hrng hr2 hnth hx h6
    go_enter Try.func35, Try.ntmps35
    go_wp2_with (go_at_call 14; refine HOK.out.mono ?_; rintro e w1 ⟨rfl, rfl⟩)
    go_ret2
    exact NO.out _ rfl hw.out _ rfl
  have e6 : ((l.length : Int) == 6) = false := by rw [beq_eq_false_iff_ne]; omega
  rcases hv : inR v 1 9 with _ | _
  · rw [hv] at HV
    have hw : Hid (wbB l v = false) := by show wbB l v = false; unfold wbB; rw [hbb, hv]; simp
    clear hb hbb hrng hr2 hnth hx hv
    go_enter Try.func35, Try.ntmps35
    go_wp2_with (first | (go_at_call 14; refine HOK.out.mono ?_; rintro e w1 ⟨rfl, rfl⟩) | (go_at_call 47; refine HV.out.mono ?_; rintro e w1 ⟨rfl, rfl⟩))
    go_ret2
    exact NO.out _ rfl hw.out _ rfl
  have hw : wbB l v = true := by unfold wbB; rw [hb, hbb, hv, fewB_iff.2 ⟨by omega, by omega⟩]; rfl
  rw [(wb_yes hw).1, hw]
  rw [hv] at HV
  clear hb hbb hrng hr2 hnth hw hv hx NO
  obtain ⟨b, off, rfl, hS, hcell⟩ := HH.out.at_ (show 0 < l.length by omega)
  have hcv : CellsV w b off (vals l) := fun j u hj => by
    have hj' : j < l.length := by have := List.getElem?_eq_some_iff.1 hj; obtain ⟨h1, _⟩ := this; rwa [vals_length] at h1
    rw [vals_get l j hj'] at hj; injection hj with hj; subst hj; exact hcell j hj'
  have HCV := Lib.hid hcv
  clear hcell hcv
  have HCON : Hid (∀ W : World, Below w.heap.size w W → W.heap.size = w.heap.size + 2 → W.cell? ⟨w.heap.size, 0, none⟩ = some (.int .i64 v) →
      W.cell? ⟨w.heap.size + 1, 0, none⟩ = some (.slice (some ⟨b, off, none⟩) l.length c) → W.cell? ⟨w.heap.size + 1, 1, none⟩ = some (.slice (some ⟨w.heap.size, 0, none⟩) 1 1) →
      Calls Try.prog 67 #[.slice (some ⟨w.heap.size + 1, 0, none⟩) 2 2] W fun e w' => ∃ (B : Option Addr) (d : Nat), e = .returned (.slice B (l ++ [v]).length d) ∧ (l ++ [v]).length ≤ d ∧ d ≤ maxLen ∧ Below w.heap.size w w' ∧ OwnI w' w.heap.size w'.heap.size B (l ++ [v])) := fun W hbW hz hv0 k0 k1 => by
    have hnw : ∀ w', Below W.heap.size W w' → ∀ j u, (vals [v])[j]? = some u → w'.cell? ((⟨w.heap.size, 0, none⟩ : Addr).add j) = some u := fun w' hw' j u hj => by
      cases j with
      | zero =>
        simp [vals] at hj; subst hj
        show w'.cell? ⟨w.heap.size, 0, none⟩ = _
        exact (hw'.cell (p := ⟨w.heap.size, 0, none⟩) (by show w.heap.size < W.heap.size; omega)).trans hv0
      | succ j => simp [vals] at hj
    have key := concatI2 (w.heap.size + 1) 2 ⟨b, off, none⟩ ⟨w.heap.size, 0, none⟩ l.length c 1 1 (vals l) (vals [v]) (vals_length l) rfl (by omega) (by omega) vals_one vals_one W (by omega) (by show b < _; omega) (by show w.heap.size < _; omega) k0 k1
      (fun w' hw' => ((HCV.out.keep hS hbW).keep (B := W.heap.size) (by omega) hw').news) hnw
    refine key.mono ?_
    rintro e w' ⟨x, rfl, hb', ho'⟩
    have ho2 := ownsRow_base ho' (b' := w.heap.size) (by omega)
    have hg : Grows w' w.heap.size x (l ++ [v]) := by
      show w'.ownsRow _ _ _ _ _ _
      rw [List.length_append, show vals (l ++ [v]) = vals l ++ vals [v] from by simp [vals]]; exact ho2
    obtain ⟨B, d, rfl, h1, h2, h3⟩ := Grows.ownC hg
    exact ⟨B, d, rfl, h1, h2, hbW.trans (hb'.mono (by omega)), h3⟩
  clear HCV
  go_enter Try.func35, Try.ntmps35
  go_wp2_with (first | (go_at_call 14; refine HOK.out.mono ?_; rintro e w1 ⟨rfl, rfl⟩) | (go_at_call 47; refine HV.out.mono ?_; rintro e w1 ⟨rfl, rfl⟩))
  refine (HCON.out _ (((Below.refl _ _).alloc (Nat.le_refl _) _).alloc (by simp) _) (by simp) (by simp [go_sem]) (by simp [go_sem]) (by simp [go_sem])).mono ?_
  rintro e w1 ⟨B, d, rfl, h1, h2, h3, h4⟩
  have H1 := Lib.hid h1
  have H2 := Lib.hid h2
  have H3 := Lib.hid h3
  have H4 := Lib.hid h4
  clear h1 h2 h3 h4 HCON
  go_wp2_with fail
  go_ret2
  exact ⟨B, d, by simp, H1.out, H2.out, H3.out, H4.out⟩

theorem impl6 : Impl6 :=
  ⟨fun A c l hl w h => (boxes_impl A c l _ (by unfold maxLen; omega) w h).mono fun _ _ => Same.adds,
   fun A c l hl w h => boxGame_impl A c l (by unfold maxLen; omega) w h,
   fun A c l hl w h => boxWorth_impl A c l (by unfold maxLen; omega) w h,
   fun A c l hl w h => boxWts_impl A c l (by unfold maxLen; omega) w h,
   fun A c l v hl w h => withBox_impl A c l v hl w h⟩

end Go.Proofs.Ytjmmkbhdldeciaa

namespace Go.Proofs.Ytjmmkbhdldeciaa
set_option linter.unusedSimpArgs false
set_option linter.unusedVariables false
open Go.RowKit

/-- what a drawn list is -/
def DrawnL (n : Nat) (w : World) (a : Option Addr) (len cap : Nat) (zs : List Int) (p : Int) (e : Ending) (w' : World) : Prop :=
  ∃ (l : List Int) (A : Option Addr) (c : Nat) (p' : Int), e = .returned (.slice A l.length c) ∧ l.length ≤ 7 ∧ Kept n w w' ∧ Reader n w' a len cap zs p' ∧ p ≤ p' ∧ p' ≤ p + 30 ∧ OwnI w' w.heap.size w'.heap.size A l

/-- while boxes are drawn -/
def Boxing (n : Nat) (w wr : World) (a : Option Addr) (len cap : Nat) (zs : List Int) (p : Int) (v : Value) (m : Nat) : Prop :=
  ∃ (l : List Int) (p' : Int), l.length = m ∧ Grows wr w.heap.size v l ∧ Kept n w wr ∧ Reader n wr a len cap zs p' ∧ p ≤ p' ∧ p' ≤ p + (m : Int)

theorem OwnI.poke0 {w : World} {lo hi b : Nat} {l : List Int} (h : OwnI w lo hi (some ⟨b, 0, none⟩) l) (h0 : 0 < l.length) (x : Int) : OwnI (w.setCell ⟨b, 0, none⟩ (.int .i64 x)) lo hi (some ⟨b, 0, none⟩) (l.set 0 x) := by
  obtain ⟨b', N, f, e, h1, h2, h3, h4, h5⟩ := h h0
  injection e with e; injection e with e; subst e
  intro _
  refine ⟨b, N, _, rfl, h1, h2, h3.set 0 _, by simpa using h4, fun i hi => ?_⟩
  have hi' : i < l.length := by simpa using hi
  rw [nth_set _ _ _ hi']
  by_cases e : i = 0
  · rw [if_pos e, if_pos e]
  · rw [if_neg e, if_neg e]; exact h5 i hi'

theorem ones7 (w : World) {lo : Nat} (hlo : lo ≤ w.heap.size) : OwnI (w.alloc (.cells #[.int .i64 1, .int .i64 1, .int .i64 1, .int .i64 1, .int .i64 1, .int .i64 1, .int .i64 1] 3)) lo (w.heap.size + 1) (some ⟨w.heap.size, 0, none⟩) [1, 1, 1, 1, 1, 1, 1] := by
  intro _
  refine ⟨w.heap.size, 7, fun _ => .int .i64 1, rfl, hlo, by omega, World.rowIs_alloc w #[.int .i64 1, .int .i64 1, .int .i64 1, .int .i64 1, .int .i64 1, .int .i64 1, .int .i64 1] _ _ (fun i hi => ?_), by simp, fun i hi => ?_⟩
  · have : i = 0 ∨ i = 1 ∨ i = 2 ∨ i = 3 ∨ i = 4 ∨ i = 5 ∨ i = 6 := by simp at hi; omega
    rcases this with rfl | rfl | rfl | rfl | rfl | rfl | rfl <;> rfl
  · have : i = 0 ∨ i = 1 ∨ i = 2 ∨ i = 3 ∨ i = 4 ∨ i = 5 ∨ i = 6 := by simp at hi; omega
    rcases this with rfl | rfl | rfl | rfl | rfl | rfl | rfl <;> rfl

set_option maxHeartbeats 4000000 in
set_option maxRecDepth 100000 in
theorem l20Boxes (n : Nat) (w : World) (a : Option Addr) (len cap : Nat) (zs : List Int) (p m : Int) (h : Reader n w a len cap zs p) (hp : p < 18000) (hm : 1 ≤ m) (hm' : m ≤ 30000) :
    Calls Try.prog 45 #[.pointer (some ⟨n, 0, none⟩), .int .i64 m] w (DrawnL n w a len cap zs p) := by
  have hnw := h.lt
  have hb0 : Below w.heap.size w (w.alloc (.cells #[] 3)) := (Below.refl _ _).alloc (Nat.le_refl _) _
  obtain ⟨W, hW⟩ : ∃ W, W = (w.alloc (.cells #[] 3)).alloc (.cells #[.int .i64 3, .int .i64 9] 3) := ⟨_, rfl⟩
  have hz : W.heap.size = w.heap.size + 2 := by rw [hW]; simp
  have hbW : Below w.heap.size w W := by rw [hW]; exact hb0.alloc (by simp) _
  have c0 : W.cell? ⟨w.heap.size + 1, 0, none⟩ = some (.int .i64 3) := by rw [hW]; simp [go_sem]
  have c1 : W.cell? ⟨w.heap.size + 1, 1, none⟩ = some (.int .i64 9) := by rw [hW]; simp [go_sem]
  have HG : Hid (Grows W w.heap.size (.slice (some ⟨w.heap.size, 0, none⟩) 0 0) []) := by rw [hW]; exact Grows.alloc (Grows.lit w (Nat.le_refl _)) _
  have HRW : Hid (Reader n W a len cap zs p) := h.of_below hbW
  have HK : Hid (Kept n w W) := Kept.of_below hbW
  obtain ⟨i0, hi0, hz0, hz1, hz2⟩ := info_parts infoI
  have HI0 := Lib.hid hi0
  have HZ0 := Lib.hid hz0
  have HZ1 := Lib.hid hz1
  have HZ2 := Lib.hid hz2
  have HEQ := Lib.hid hW
  clear hi0 hz0 hz1 hz2 hbW hb0 hW h
  go_enter Try.func45, Try.ntmps45
  go_wp2_with fail
  rw [← HEQ.out]
  refine (pick n W a len cap zs p 2 HRW.out (by omega) (by omega) (by omega)).mono ?_
  intro e w1 hP1
  obtain ⟨v, rfl, v0, v1, k1, R1⟩ := hP1
  have hs1 := k1.size
  have d0 : w1.cell? ⟨w.heap.size + 1, 0, none⟩ = some (.int .i64 3) := (k1.cell (by omega) (by omega)).trans c0
  have d1 : w1.cell? ⟨w.heap.size + 1, 1, none⟩ = some (.int .i64 9) := (k1.cell (by omega) (by omega)).trans c1
  have HK1 := Lib.hid (HK.out.trans k1)
  have HG1 := Lib.hid (HG.out.kept k1 hnw)
  have HR1 := Lib.hid R1
  clear c0 c1 k1 R1 HK HG HRW
  -- the greatest worth is 3 or 9
  have high : ∀ hi : Int, 1 ≤ hi → hi ≤ 9 → ∀ k : Int, True := fun _ _ _ _ => trivial
  clear high
  have hv : v = 0 ∨ v = 1 := by omega
  rcases hv with rfl | rfl
  all_goals
    clear v0 v1
    go_wp2_with fail
    clear d0 d1
    refine (pick n w1 a len cap zs (p + 1) 6 HR1.out (by omega) (by omega) (by omega)).mono ?_
    intro e w2 hP2
    obtain ⟨x, rfl, x0, x1, k2, R2⟩ := hP2
    have hs2 := k2.size
    have HK2 := Lib.hid (HK1.out.trans k2)
    have HG2 := Lib.hid (HG1.out.kept k2 hnw)
    have HR2 := Lib.hid R2
    have wx : IntKind.i64.wrap (1 + x) = 1 + x := IntWalk.i64_in _ ⟨by omega, by omega⟩
    clear k2 R2 HK1 HG1 HR1
    obtain ⟨y, hy⟩ : ∃ y : Nat, 1 + x = (y : Int) := ⟨(1 + x).toNat, by omega⟩
    have hy1 : 1 ≤ y := by omega
    have hy6 : y ≤ 6 := by omega
    rw [hy] at wx
    go_wp2_with fail
    have HY := Lib.hid hy
    clear hy x0 x1
    go_loopw [5, 7] (fun v i wr => ∃ j : Nat, j ≤ y ∧ i = .int .i64 j ∧ Hid (Boxing n w wr a len cap zs (p + 1 + 1) v (y - j))) (fun _ i _ => (intOf i).toNat)
    case atStart => exact ⟨y, Nat.le_refl _, by first | rfl | rw [HY.out], ⟨[], p + 1 + 1, by simp, HG2.out, HK2.out, HR2.out, by omega, by omega⟩⟩
    case round =>
      obtain ⟨j, hj, rfl, HX⟩ := hrel
      obtain ⟨l, q, hlen, hG, hK, hR, hq1, hq2⟩ := HX.out
      have HGt := Lib.hid hG
      have HKt := Lib.hid hK
      have HRt := Lib.hid hR
      have HLN := Lib.hid hlen
      have hle : l.length ≤ 6 := by omega
      clear HX hG hK hR hlen
      by_cases hj0 : 0 < j
      · go_wp2_with fail
        refine (pick n wr a len cap zs q _ HRt.out (by omega) (by omega) (by omega)).mono ?_
        intro e w3 hP3
        obtain ⟨x3, rfl, x30, x31, k3, R3⟩ := hP3
        have wx3 : IntKind.i64.wrap (1 + x3) = 1 + x3 := IntWalk.i64_in _ ⟨by omega, by omega⟩
        have wj : IntKind.i64.wrap ((j : Int) - 1) = (j : Int) - 1 := IntWalk.i64_in _ ⟨by omega, by omega⟩
        have hs3 := k3.size
        have HG3 := Lib.hid (HGt.out.kept k3 hnw)
        have HK3 := Lib.hid (HKt.out.trans k3)
        have HR3 := Lib.hid R3
        have hks := HK3.out.size
        clear k3 R3 HGt HKt HRt x30 x31
        go_wp2_with (at_builtin; refine wpList_append_own_at _ rfl (.tmp 21) (.tmp 26) _ rfl w.heap.size 3 i0 (.int .i64 0) 1 8 Try.underlying23 HI0.out HZ0.out HZ1.out HZ2.out rfl (by decide) _ l.length (vals l) rfl (HG3.out.alloc _) ⟨w3.heap.size, 0, none⟩ 1 1 [.int .i64 (1 + x3)] rfl rfl (cell_one_new _ _ _) ?c2 ?c3 ?c4 ?c5 ?_)
        case c2 => first | rfl | (intro u hu; simp at hu; subst hu; rfl)
        case c3 => unfold maxLen; omega
        case c4 => omega
        case c5 => first | omega | (simp; omega)
        intro v' w4 hown hgrow _ _
        have HN : Hid (Boxing n w w4 a len cap zs (p + 1 + 1) v' (y - (j - 1))) := ⟨l ++ [1 + x3], q + 1, by have := HLN.out; simp; omega, Grows.snoc hown, HK3.out.appended hgrow (fun k hk => (World.ownsRow.lt HG3.out k hk).1), HR3.out.appended hgrow (fun k hk => by have := (World.ownsRow.lt HG3.out k hk).1; omega), by omega, by omega⟩
        clear hown hgrow
        go_wp2_with fail
        go_roundw
        case rel => exact ⟨j - 1, by omega, by first | go_num | (congr 1; omega), HN⟩
        case measure => simp [intOf]; omega
      · obtain rfl : j = 0 := by omega
        obtain ⟨A, cA, hv, hcA, hown⟩ := HGt.out.own
        subst hv
        have HOW := Lib.hid hown
        have hl1 : 0 < l.length := by have := HLN.out; omega
        obtain ⟨bA, NA, fA, hAe, hA1, hA2, hA3, hA4, hA5⟩ := hown hl1
        subst hAe
        have hkw := HKt.out.size
        clear hown
        go_wp2_with fail
        refine (odd n wr a len cap zs q m HRt.out (by omega) hm hm').mono ?_
        rintro e w3 ⟨t, rfl, k3, R3⟩
        have hs3 := k3.size
        have HK3 := Lib.hid (HKt.out.trans k3)
        have HR3 := Lib.hid R3
        have HO3 : Hid (OwnI w3 w.heap.size wr.heap.size (some ⟨bA, 0, none⟩) l) := HOW.out.kept k3 hnw (Nat.le_refl _)
        clear k3 R3
        cases t with
        | false =>
          go_wp2_with fail
          go_ret
          exact ⟨l, _, cA, q + 1, rfl, by omega, HK3.out, HR3.out, by omega, by omega, HO3.out.more (Nat.le_refl _) hs3⟩
        | true =>
          go_wp2_with fail
          refine (pick n w3 a len cap zs (q + 1) 3 HR3.out (by omega) (by omega) (by omega)).mono ?_
          intro e w4 hP4
          obtain ⟨z, rfl, z0, z1, k4, R4⟩ := hP4
          have hs4 := k4.size
          have HK4 := Lib.hid (HK3.out.trans k4)
          have HR4 := Lib.hid R4
          have HO4 : Hid (OwnI w4 w.heap.size wr.heap.size (some ⟨bA, 0, none⟩) l) := HO3.out.kept k4 hnw hs3
          have hnw4 := R4.lt
          clear k4 R4
          have hz3 : z = 0 ∨ z = 1 ∨ z = 2 := by omega
          rcases hz3 with rfl | rfl | rfl
          · clear z0 z1
            go_wp2_with fail
            go_ret
            exact ⟨[], _, 0, q + 1 + 1, rfl, by simp, HK4.out.alloc _, HR4.out.of_below ((Below.refl _ _).alloc (Nat.le_refl _) _), by omega, by omega, fun h => absurd h (by simp)⟩
          · clear z0 z1
            obtain ⟨W4, hW4⟩ : ∃ W4, W4 = w4.alloc (.cells #[.int .i64 0, .int .i64 10] 3) := ⟨_, rfl⟩
            have hb4 : Below w4.heap.size w4 W4 := by rw [hW4]; exact (Below.refl _ _).alloc (Nat.le_refl _) _
            have hz4 : W4.heap.size = w4.heap.size + 1 := by rw [hW4]; simp
            have e0 : W4.cell? ⟨w4.heap.size, 0, none⟩ = some (.int .i64 0) := by rw [hW4]; simp [go_sem]
            have e1 : W4.cell? ⟨w4.heap.size, 1, none⟩ = some (.int .i64 10) := by rw [hW4]; simp [go_sem]
            have HRW4 : Hid (Reader n W4 a len cap zs (q + 1 + 1)) := HR4.out.of_below hb4
            have HKW4 := Lib.hid (HK4.out.trans (Kept.of_below hb4))
            have HOW4 : Hid (OwnI W4 w.heap.size wr.heap.size (some ⟨bA, 0, none⟩) l) := HO4.out.keep fun b _ h2 => hb4.block b (by omega)
            have HE4 := Lib.hid hW4
            clear hW4 hb4
            go_wp2_with fail
            rw [← HE4.out]
            refine (pick n W4 a len cap zs (q + 1 + 1) 2 HRW4.out (by omega) (by omega) (by omega)).mono ?_
            intro e w5 hP5
            obtain ⟨u, rfl, u0, u1, k5, R5⟩ := hP5
            have hs5 := k5.size
            have f0 : w5.cell? ⟨w4.heap.size, 0, none⟩ = some (.int .i64 0) := (k5.cell (by omega) (by omega)).trans e0
            have f1 : w5.cell? ⟨w4.heap.size, 1, none⟩ = some (.int .i64 10) := (k5.cell (by omega) (by omega)).trans e1
            have HK5 := Lib.hid (HKW4.out.trans k5)
            have HR5 := Lib.hid R5
            have HO5 : Hid (OwnI w5 w.heap.size wr.heap.size (some ⟨bA, 0, none⟩) l) := HOW4.out.kept k5 hnw (by omega)
            obtain ⟨b', N', f', e', m1, m2, m3, m4, m5⟩ := HO5.out hl1
            injection e' with e'; injection e' with e'; subst e'
            have g0 := m3.cell (i := 0) (by omega)
            have g1 := m3.frozen 0
            have q0 : (0 : Int) < (l.length : Int) := by omega
            have hu : u = 0 ∨ u = 1 := by omega
            clear k5 R5 e0 e1 m3 m5
            rcases hu with rfl | rfl
            all_goals
              clear u0 u1
              go_wp2_with fail
              go_ret
              exact ⟨l.set 0 _, _, cA, q + 1 + 1 + 1, by simp, by simp; omega, HK5.out.setNew (q := ⟨bA, 0, none⟩) m1 _, HR5.out.setFar (q := ⟨bA, 0, none⟩) (show n < bA by omega) _, by omega, by omega, (HO5.out.poke0 hl1 _).more (Nat.le_refl _) (by simp [World.setCell]; omega)⟩
          · clear z0 z1
            go_wp2_with fail
            go_ret
            exact ⟨[1, 1, 1, 1, 1, 1, 1], _, 7, q + 1 + 1, rfl, by simp, HK4.out.alloc _, HR4.out.of_below ((Below.refl _ _).alloc (Nat.le_refl _) _), by omega, by omega, by
              have := ones7 w4 (lo := w.heap.size) HK4.out.size
              simpa using this⟩

/-- drawn boxes; drawn boxes and a number -/
def DrawnB (w : World) (e : Ending) (w' : World) : Prop :=
  ∃ (l : List Int) (A : Option Addr) (c : Nat), e = .returned (.slice A l.length c) ∧ l.length ≤ 7 ∧ Below w.heap.size w w' ∧ OwnI w' w.heap.size w'.heap.size A l

def DrawnBI (w : World) (e : Ending) (w' : World) : Prop :=
  ∃ (l : List Int) (A : Option Addr) (c : Nat) (v : Int), e = .returned (.tuple #[.slice A l.length c, .int .i64 v]) ∧ l.length ≤ 7 ∧ Below w.heap.size w w' ∧ OwnI w' w.heap.size w'.heap.size A l

set_option maxHeartbeats 400000 in
theorem dDrawBoxesOk (a : Option Addr) (len cap : Nat) (zs : List Int) (w : World) (h : IsRow .u8 w a len cap zs) :
    Calls Try.prog 13 #[.slice a len cap] w (DrawnB w) := by
  go_enter Try.func13, Try.ntmps13
  go_wp2_with fail
  refine (l20Open a len cap zs w h).mono ?_
  rintro e w1 ⟨rfl, hb1, a1, len1, cap1, zs1, R1⟩
  go_wp2_with fail
  refine (l20Boxes w.heap.size w1 a1 len1 cap1 zs1 0 2 R1 (by omega) (by omega) (by omega)).mono ?_
  rintro e w2 ⟨l, A, c, p', rfl, hl, hK, _, _, _, ho⟩
  have HB := Lib.hid (hb1.trans (hK.below (Nat.le_refl _) hb1.size))
  have HO := Lib.hid (ho.more hb1.size (Nat.le_refl _))
  clear R1 hK ho
  go_wp2_with fail
  go_ret
  exact ⟨l, A, c, rfl, hl, HB.out, HO.out⟩

set_option maxHeartbeats 400000 in
theorem dDrawBoxGame (a : Option Addr) (len cap : Nat) (zs : List Int) (w : World) (h : IsRow .u8 w a len cap zs) :
    Calls Try.prog 17 #[.slice a len cap] w (DrawnB w) := by
  go_enter Try.func17, Try.ntmps17
  go_wp2_with fail
  refine (l20Open a len cap zs w h).mono ?_
  rintro e w1 ⟨rfl, hb1, a1, len1, cap1, zs1, R1⟩
  go_wp2_with fail
  refine (l20Boxes w.heap.size w1 a1 len1 cap1 zs1 0 9 R1 (by omega) (by omega) (by omega)).mono ?_
  rintro e w2 ⟨l, A, c, p', rfl, hl, hK, _, _, _, ho⟩
  have HB := Lib.hid (hb1.trans (hK.below (Nat.le_refl _) hb1.size))
  have HO := Lib.hid (ho.more hb1.size (Nat.le_refl _))
  clear R1 hK ho
  go_wp2_with fail
  go_ret
  exact ⟨l, A, c, rfl, hl, HB.out, HO.out⟩

set_option maxHeartbeats 400000 in
theorem dDrawBoxWorth (a : Option Addr) (len cap : Nat) (zs : List Int) (w : World) (h : IsRow .u8 w a len cap zs) :
    Calls Try.prog 24 #[.slice a len cap] w (DrawnB w) := by
  go_enter Try.func24, Try.ntmps24
  go_wp2_with fail
  refine (l20Open a len cap zs w h).mono ?_
  rintro e w1 ⟨rfl, hb1, a1, len1, cap1, zs1, R1⟩
  go_wp2_with fail
  refine (l20Boxes w.heap.size w1 a1 len1 cap1 zs1 0 9 R1 (by omega) (by omega) (by omega)).mono ?_
  rintro e w2 ⟨l, A, c, p', rfl, hl, hK, _, _, _, ho⟩
  have HB := Lib.hid (hb1.trans (hK.below (Nat.le_refl _) hb1.size))
  have HO := Lib.hid (ho.more hb1.size (Nat.le_refl _))
  clear R1 hK ho
  go_wp2_with fail
  go_ret
  exact ⟨l, A, c, rfl, hl, HB.out, HO.out⟩

set_option maxHeartbeats 400000 in
theorem dDrawBoxWeights (a : Option Addr) (len cap : Nat) (zs : List Int) (w : World) (h : IsRow .u8 w a len cap zs) :
    Calls Try.prog 29 #[.slice a len cap] w (DrawnB w) := by
  go_enter Try.func29, Try.ntmps29
  go_wp2_with fail
  refine (l20Open a len cap zs w h).mono ?_
  rintro e w1 ⟨rfl, hb1, a1, len1, cap1, zs1, R1⟩
  go_wp2_with fail
  refine (l20Boxes w.heap.size w1 a1 len1 cap1 zs1 0 9 R1 (by omega) (by omega) (by omega)).mono ?_
  rintro e w2 ⟨l, A, c, p', rfl, hl, hK, _, _, _, ho⟩
  have HB := Lib.hid (hb1.trans (hK.below (Nat.le_refl _) hb1.size))
  have HO := Lib.hid (ho.more hb1.size (Nat.le_refl _))
  clear R1 hK ho
  go_wp2_with fail
  go_ret
  exact ⟨l, A, c, rfl, hl, HB.out, HO.out⟩

set_option maxHeartbeats 400000 in
theorem dDrawWithBox (a : Option Addr) (len cap : Nat) (zs : List Int) (w : World) (h : IsRow .u8 w a len cap zs) :
    Calls Try.prog 34 #[.slice a len cap] w (DrawnBI w) := by
  go_enter Try.func34, Try.ntmps34
  go_wp2_with fail
  refine (l20Open a len cap zs w h).mono ?_
  rintro e w1 ⟨rfl, hb1, a1, len1, cap1, zs1, R1⟩
  go_wp2_with fail
  refine (l20Boxes w.heap.size w1 a1 len1 cap1 zs1 0 12 R1 (by omega) (by omega) (by omega)).mono ?_
  rintro e w2 ⟨l, A, c, p', rfl, hl, hK, hR, hp1, hp2, ho⟩
  have HK := Lib.hid hK
  have HO := Lib.hid ho
  have hn1 := R1.lt
  clear R1 hK ho
  go_wp2_with fail
  refine (pick w.heap.size w2 a1 len1 cap1 zs1 p' 11 hR (by omega) (by omega) (by omega)).mono ?_
  intro e w3 hP3
  obtain ⟨x, rfl, x0, x1, k3, R3⟩ := hP3
  have HB := Lib.hid (hb1.trans ((HK.out.trans k3).below (Nat.le_refl _) hb1.size))
  have HO3 : Hid (OwnI w3 w1.heap.size w2.heap.size A l) := HO.out.kept k3 hn1 (Nat.le_refl _)
  have hs3 := k3.size
  clear k3 R3 hR
  go_wp2_with fail
  go_ret2
  exact ⟨l, A, c, x, rfl, hl, HB.out, HO3.out.more hb1.size hs3⟩

end Go.Proofs.Ytjmmkbhdldeciaa
