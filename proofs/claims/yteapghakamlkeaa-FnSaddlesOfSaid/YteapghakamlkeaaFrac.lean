/- The walks of the functions on fractions that the games need. (Put together by wip/gen/games0.py.) -/
import Derived.Test.YteapghakamlkeaaProg
import Derived.Test.YteapghakamlkeaaMath
import Derived.WalkKit
import Derived.WalkSpells
import Derived.WalkLawsBesides
import Derived.IntWalk
import Derived.Lib.Hide
import Derived.RegionTactic
import Derived.ChangeAlike
import Derived.Deep.QuietTactic
import Derived.BigQuiet
import Derived.BigRegion
import Derived.Deep.RegionHeld3
import Derived.Deep.RegionWith
namespace Go.Proofs.Yteapghakamlkeaa
set_option linter.unusedSimpArgs false
set_option linter.unusedVariables false
open Go.RowKit

theorem ret_int {k : IntKind} {a b : Int} (h : a = b) : Ending.returned (.int k a) = .returned (.int k b) := by rw [h]

/-- what lies below a world's blocks reads as it did -/
theorem bcell {W w1 : World} (hb : Below W.heap.size W w1) : (∀ b o, b < W.heap.size → w1.cell? ⟨b, o, none⟩ = W.cell? ⟨b, o, none⟩) ∧ (∀ b o, b < W.heap.size → w1.frozen? ⟨b, o, none⟩ = W.frozen? ⟨b, o, none⟩) :=
  ⟨fun b o h => hb.cell (p := ⟨b, o, none⟩) h, fun b o h => hb.frozen (p := ⟨b, o, none⟩) h⟩

set_option maxHeartbeats 400000 in
theorem divisor_int (a b : Int) (ha : -4611686018427387904 ≤ a) (ha' : a ≤ 4611686018427387904) (hb : -4611686018427387904 ≤ b) (hb' : b ≤ 4611686018427387904) (w : World) :
    Calls Try.prog 58 #[.int .i64 a, .int .i64 b] w fun e w' => e = .returned (.int .i64 (gcdI a b)) ∧ Below w.heap.size w w' := by
  go_enter Try.func58, Try.ntmps58
  go_wp2
  go_loopw [0, 1] (fun x y wr => ∃ a' b' : Int, -4611686018427387904 ≤ a' ∧ a' ≤ 4611686018427387904 ∧ -4611686018427387904 ≤ b' ∧ b' ≤ 4611686018427387904 ∧ x = .int .i64 a' ∧ y = .int .i64 b' ∧ Hid (gcdI a' b' = gcdI a b) ∧ Below w.heap.size w wr) (fun _ y _ => (intOf y).natAbs)
  case atStart => exact ⟨a, b, ha, ha', hb, hb', rfl, rfl, rfl, Below.refl _ _⟩
  case round =>
    obtain ⟨a', b', h1, h2, h3, h4, rfl, rfl, H, hbel⟩ := hrel
    by_cases hz : b' = 0
    · subst hz
      have hm := gcdI_zero a'
      rw [H.out] at hm
      have HM : Hid (gcdI a b = max a' (-a')) := hm
      clear hm H
      go_wp2
      all_goals
        go_ret
        exact ⟨ret_int (by rw [HM.out]; omega), by assumption⟩
    · have hz1 : (b' == 0) = false := by simp [hz]
      have hz2 : (b' != 0) = true := by simp [hz]
      go_wp2
      go_quiet (fail)
      go_wp2
      go_roundw
      case rel => exact ⟨b', a'.tmod b', h3, h4, (tmod_in a' b' h1 h2).1, (tmod_in a' b' h1 h2).2, rfl, rfl, (gcdI_tmod a' b').trans H.out, below_drewN hbel _⟩
      case measure => exact tmod_lt a' b' hz

set_option maxHeartbeats 400000 in
theorem part_int (n : Int) (w : World) :
    Calls Try.prog 57 #[.int .i64 n] w fun e w' => e = .returned (.bool (inR n (-1000000000) 1000000000)) ∧ w = w' := by
  by_cases h1 : -1000000000 ≤ n
  · by_cases h2 : n ≤ 1000000000
    · have hf : inR n (-1000000000) 1000000000 = true := by simp [inR, h1, h2]
      go_enter Try.func57, Try.ntmps57
      go_wp2
      go_ret
      exact ⟨by simp [hf], rfl⟩
    · have hf : inR n (-1000000000) 1000000000 = false := by simp [inR, h2]
      go_enter Try.func57, Try.ntmps57
      go_wp2
      go_ret
      exact ⟨by simp [hf], rfl⟩
  · have hf : inR n (-1000000000) 1000000000 = false := by simp [inR, h1]
    go_enter Try.func57, Try.ntmps57
    go_wp2
    go_ret
    exact ⟨by simp [hf], rfl⟩

set_option maxHeartbeats 400000 in
theorem in_spec (n lo hi : Int) (w : World) :
    Calls Try.prog 44 #[.int .i64 n, .int .i64 lo, .int .i64 hi] w fun e w' => e = .returned (.bool (inR n lo hi)) ∧ w = w' := by
  by_cases h1 : lo ≤ n
  · by_cases h2 : n ≤ hi
    · have hf : inR n lo hi = true := by simp [inR, h1, h2]
      go_enter Try.func44, Try.ntmps44
      go_wp2
      go_ret
      exact ⟨by simp [hf], rfl⟩
    · have hf : inR n lo hi = false := by simp [inR, h2]
      go_enter Try.func44, Try.ntmps44
      go_wp2
      go_ret
      exact ⟨by simp [hf], rfl⟩
  · have hf : inR n lo hi = false := by simp [inR, h1]
    go_enter Try.func44, Try.ntmps44
    go_wp2
    go_ret
    exact ⟨by simp [hf], rfl⟩

set_option maxHeartbeats 400000 in
theorem fracOk_impl (u d : Int) (w : World) :
    Calls Try.prog 45 #[.agg #[.int .i64 u, .int .i64 d]] w fun e w' => e = .returned (.bool (okB u d)) ∧ Below w.heap.size w w' := by
  have hb0 : Below w.heap.size w (w.alloc (.cells #[.int .i64 u, .int .i64 d] 45)) := (Below.refl _ _).alloc (Nat.le_refl _) _
  rcases hu : inR u (-1000000000) 1000000000 with _ | _
  · have hf : okB u d = false := okB_no (by have := inR_no hu; omega)
    have Hf := Lib.hid hf
    clear hf
    go_enter Try.func45, Try.ntmps45
    go_wp2_with (go_at_call 57; refine (part_int _ _).mono ?_; rintro e w' ⟨rfl, rfl⟩)
    go_ret
    exact ⟨by simp [Hf.out], hb0⟩
  rcases hd : inR d (-1000000000) 1000000000 with _ | _
  · have hf : okB u d = false := okB_no (by have := inR_no hd; omega)
    have Hf := Lib.hid hf
    clear hf
    go_enter Try.func45, Try.ntmps45
    go_wp2_with (go_at_call 57; refine (part_int _ _).mono ?_; rintro e w' ⟨rfl, rfl⟩)
    go_ret
    exact ⟨by simp [Hf.out], hb0⟩
  have bu := inR_yes hu
  have bd := inR_yes hd
  by_cases hp : 0 < d
  · have hfin : okB u d = (gcdI u d == 1) := by
      rw [Bool.eq_iff_iff, okB_iff, beq_iff_eq]
      omega
    have Hf := Lib.hid hfin
    clear hfin
    go_enter Try.func45, Try.ntmps45
    go_wp2_with (first | (go_at_call 57; refine (part_int _ _).mono ?_; rintro e w' ⟨rfl, rfl⟩) | (go_at_call 58; refine (divisor_int _ _ (by omega) (by omega) (by omega) (by omega) _).mono ?_; rintro e w' ⟨rfl, hb1⟩))
    go_ret
    exact ⟨by simp [Hf.out], hb0.trans (hb1.mono (by simp))⟩
  · have hf : okB u d = false := okB_no (by omega)
    have Hf := Lib.hid hf
    clear hf
    go_enter Try.func45, Try.ntmps45
    go_wp2_with (go_at_call 57; refine (part_int _ _).mono ?_; rintro e w' ⟨rfl, rfl⟩)
    go_ret
    exact ⟨by simp [Hf.out], hb0⟩

theorem ret_two {k : IntKind} {a b c d : Int} (h : a = c) (h' : b = d) : Ending.returned (.tuple #[.int k a, .int k b]) = .returned (.tuple #[.int k c, .int k d]) := by rw [h, h']

theorem bel1 {w w1 : World} {o : Obj} (h : Below (w.alloc o).heap.size (w.alloc o) w1) : Below w.heap.size w w1 :=
  ((Below.refl _ _).alloc (Nat.le_refl _) _).trans (h.mono (by simp))

theorem bel2 {w w1 : World} {o p : Obj} (h : Below ((w.alloc o).alloc p).heap.size ((w.alloc o).alloc p) w1) : Below w.heap.size w w1 := bel1 ((bel1 h).mono (by simp))

theorem bel3 {w w1 : World} {o p q : Obj} (h : Below (((w.alloc o).alloc p).alloc q).heap.size (((w.alloc o).alloc p).alloc q) w1) : Below w.heap.size w w1 := bel1 ((bel2 h).mono (by simp))

theorem bel4 {w w1 : World} {o p q r : Obj} (h : Below ((((w.alloc o).alloc p).alloc q).alloc r).heap.size ((((w.alloc o).alloc p).alloc q).alloc r) w1) : Below w.heap.size w w1 := bel1 ((bel3 h).mono (by simp))

theorem belT {w w1 w2 : World} (h1 : Below w.heap.size w w1) (h2 : Below w1.heap.size w1 w2) : Below w.heap.size w w2 := h1.trans (h2.mono h1.size)

/-- a cell that stays through whatever only adds blocks: a rule for the walk -/
theorem stays {W : World} {p o : Nat} {a : Value} (hp : p < W.heap.size) (h : W.cell? ⟨p, o, none⟩ = some a) : ∀ w1, Below W.heap.size W w1 → w1.cell? ⟨p, o, none⟩ = some a :=
  fun _ hb => (hb.cell (p := ⟨p, o, none⟩) hp).trans h

theorem staysF {W : World} {p o : Nat} {b : Bool} (hp : p < W.heap.size) (h : W.frozen? ⟨p, o, none⟩ = b) : ∀ w1, Below W.heap.size W w1 → w1.frozen? ⟨p, o, none⟩ = b :=
  fun _ hb => (hb.frozen (p := ⟨p, o, none⟩) hp).trans h

theorem fracOk_impl_v (u d : Int) (b : Bool) (h : okB u d = b) (w : World) :
    Calls Try.prog 45 #[.agg #[.int .i64 u, .int .i64 d]] w fun e w' => e = .returned (.bool b) ∧ Below w.heap.size w w' := by
  subst h; exact fracOk_impl u d w

set_option maxHeartbeats 400000 in
theorem alive (w : World) :
    Calls Try.prog 16 #[] w fun e w' => e = .returned (.bool true) ∧ Below w.heap.size w w' := by
  have k1 : okB 1 2 = true := by decide
  have k2 : okB 2 2 = false := by decide
  go_enter Try.func16, Try.ntmps16
  go_wp2_with fail
  refine (fracOk_impl_v _ _ _ k1 _).mono ?_
  rintro e w1 ⟨rfl, hb1⟩
  go_wp2_with fail
  refine (fracOk_impl_v _ _ _ k2 _).mono ?_
  rintro e w2 ⟨rfl, hb2⟩
  have hk := belT hb1 hb2
  go_wp2_with fail
  go_ret
  exact ⟨rfl, by repeat (first | exact Below.refl _ _ | assumption | exact bel1 (by assumption) | exact bel2 (by assumption) | exact bel3 (by assumption) | exact bel4 (by assumption) | refine Below.drew ?_ | refine below_drewN ?_ _ | refine Below.setCell ?_ (by first | (simp; done) | (simp; omega)) _ | refine Below.alloc ?_ (by first | (simp; done) | (simp; omega)) _)⟩

theorem belA {W w1 : World} {o : Obj} (h : Below W.heap.size W w1) : Below W.heap.size W (w1.alloc o) := h.alloc h.size _
end Go.Proofs.Yteapghakamlkeaa
