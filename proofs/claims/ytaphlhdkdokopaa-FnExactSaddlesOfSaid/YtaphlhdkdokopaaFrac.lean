/- The walks of the functions on fractions: what each call gives, and that it writes nothing that was there. -/
import Derived.Test.YtaphlhdkdokopaaProg
import Derived.Test.YtaphlhdkdokopaaMath
import Derived.WalkKit
import Derived.WalkSpells
import Derived.WalkLawsBesides
import Derived.IntWalk
import Derived.Lib.Hide
import Derived.RegionTactic
import Derived.ChangeAlike
import Derived.Deep.QuietTactic
import Derived.BigQuiet
namespace Go.Proofs.Ytaphlhdkdokopaa
set_option linter.unusedSimpArgs false
set_option linter.unusedVariables false
open Go.RowKit

theorem ret_int {k : IntKind} {a b : Int} (h : a = b) : Ending.returned (.int k a) = .returned (.int k b) := by rw [h]

/-- what lies below a world's blocks reads as it did -/
theorem bcell {W w1 : World} (hb : Below W.heap.size W w1) : (∀ b o, b < W.heap.size → w1.cell? ⟨b, o, none⟩ = W.cell? ⟨b, o, none⟩) ∧ (∀ b o, b < W.heap.size → w1.frozen? ⟨b, o, none⟩ = W.frozen? ⟨b, o, none⟩) :=
  ⟨fun b o h => hb.cell (p := ⟨b, o, none⟩) h, fun b o h => hb.frozen (p := ⟨b, o, none⟩) h⟩

set_option maxHeartbeats 400000 in
theorem divisor_int (a b : Int) (ha : -4611686018427387904 ≤ a) (ha' : a ≤ 4611686018427387904) (hb : -4611686018427387904 ≤ b) (hb' : b ≤ 4611686018427387904) (w : World) :
    Calls Try.prog 59 #[.int .i64 a, .int .i64 b] w fun e w' => e = .returned (.int .i64 (gcdI a b)) ∧ Below w.heap.size w w' := by
  go_enter Try.func59, Try.ntmps59
  go_wp2
  go_loopw [0, 1] (fun x y wr => ∃ a' b' : Int, -4611686018427387904 ≤ a' ∧ a' ≤ 4611686018427387904 ∧ -4611686018427387904 ≤ b' ∧ b' ≤ 4611686018427387904 ∧ x = .int .i64 a' ∧ y = .int .i64 b' ∧ Hid (gcdI a' b' = gcdI a b) ∧ Below w.heap.size w wr) (fun _ y _ => (intOf y).natAbs)
  case atStart => exact ⟨a, b, ha, ha', hb, hb', rfl, rfl, rfl, Below.refl _ _⟩
  case round =>
    obtain ⟨a', b', h1, h2, h3, h4, rfl, rfl, H, hbel⟩ := hrel
    by_cases hz : b' = 0
    · subst hz
      have hm := gcdI_zero a'
      rw [H.out] at hm
      have HM : Hid (gcdI a b = max a' (-a')) := hm
      clear hm H
      go_wp2
      all_goals
        go_ret
        exact ⟨ret_int (by rw [HM.out]; omega), by assumption⟩
    · have hz1 : (b' == 0) = false := by simp [hz]
      have hz2 : (b' != 0) = true := by simp [hz]
      go_wp2
      go_quiet (fail)
      go_wp2
      go_roundw
      case rel => exact ⟨b', a'.tmod b', h3, h4, (tmod_in a' b' h1 h2).1, (tmod_in a' b' h1 h2).2, rfl, rfl, (gcdI_tmod a' b').trans H.out, below_drewN hbel _⟩
      case measure => exact tmod_lt a' b' hz

set_option maxHeartbeats 400000 in
theorem part_int (n : Int) (w : World) :
    Calls Try.prog 58 #[.int .i64 n] w fun e w' => e = .returned (.bool (inR n (-1000000000) 1000000000)) ∧ w = w' := by
  by_cases h1 : -1000000000 ≤ n
  · by_cases h2 : n ≤ 1000000000
    · have hf : inR n (-1000000000) 1000000000 = true := by simp [inR, h1, h2]
      go_enter Try.func58, Try.ntmps58
      go_wp2
      go_ret
      exact ⟨by simp [hf], rfl⟩
    · have hf : inR n (-1000000000) 1000000000 = false := by simp [inR, h2]
      go_enter Try.func58, Try.ntmps58
      go_wp2
      go_ret
      exact ⟨by simp [hf], rfl⟩
  · have hf : inR n (-1000000000) 1000000000 = false := by simp [inR, h1]
    go_enter Try.func58, Try.ntmps58
    go_wp2
    go_ret
    exact ⟨by simp [hf], rfl⟩

set_option maxHeartbeats 400000 in
theorem in_spec (n lo hi : Int) (w : World) :
    Calls Try.prog 44 #[.int .i64 n, .int .i64 lo, .int .i64 hi] w fun e w' => e = .returned (.bool (inR n lo hi)) ∧ w = w' := by
  by_cases h1 : lo ≤ n
  · by_cases h2 : n ≤ hi
    · have hf : inR n lo hi = true := by simp [inR, h1, h2]
      go_enter Try.func44, Try.ntmps44
      go_wp2
      go_ret
      exact ⟨by simp [hf], rfl⟩
    · have hf : inR n lo hi = false := by simp [inR, h2]
      go_enter Try.func44, Try.ntmps44
      go_wp2
      go_ret
      exact ⟨by simp [hf], rfl⟩
  · have hf : inR n lo hi = false := by simp [inR, h1]
    go_enter Try.func44, Try.ntmps44
    go_wp2
    go_ret
    exact ⟨by simp [hf], rfl⟩

set_option maxHeartbeats 400000 in
theorem fracOk_impl (u d : Int) (w : World) :
    Calls Try.prog 45 #[.agg #[.int .i64 u, .int .i64 d]] w fun e w' => e = .returned (.bool (okB u d)) ∧ Below w.heap.size w w' := by
  have hb0 : Below w.heap.size w (w.alloc (.cells #[.int .i64 u, .int .i64 d] 45)) := (Below.refl _ _).alloc (Nat.le_refl _) _
  rcases hu : inR u (-1000000000) 1000000000 with _ | _
  · have hf : okB u d = false := okB_no (by have := inR_no hu; omega)
    have Hf := Lib.hid hf
    clear hf
    go_enter Try.func45, Try.ntmps45
    go_wp2_with (go_at_call 58; refine (part_int _ _).mono ?_; rintro e w' ⟨rfl, rfl⟩)
    go_ret
    exact ⟨by simp [Hf.out], hb0⟩
  rcases hd : inR d (-1000000000) 1000000000 with _ | _
  · have hf : okB u d = false := okB_no (by have := inR_no hd; omega)
    have Hf := Lib.hid hf
    clear hf
    go_enter Try.func45, Try.ntmps45
    go_wp2_with (go_at_call 58; refine (part_int _ _).mono ?_; rintro e w' ⟨rfl, rfl⟩)
    go_ret
    exact ⟨by simp [Hf.out], hb0⟩
  have bu := inR_yes hu
  have bd := inR_yes hd
  by_cases hp : 0 < d
  · have hfin : okB u d = (gcdI u d == 1) := by
      rw [Bool.eq_iff_iff, okB_iff, beq_iff_eq]
      omega
    have Hf := Lib.hid hfin
    clear hfin
    go_enter Try.func45, Try.ntmps45
    go_wp2_with (first | (go_at_call 58; refine (part_int _ _).mono ?_; rintro e w' ⟨rfl, rfl⟩) | (go_at_call 59; refine (divisor_int _ _ (by omega) (by omega) (by omega) (by omega) _).mono ?_; rintro e w' ⟨rfl, hb1⟩))
    go_ret
    exact ⟨by simp [Hf.out], hb0.trans (hb1.mono (by simp))⟩
  · have hf : okB u d = false := okB_no (by omega)
    have Hf := Lib.hid hf
    clear hf
    go_enter Try.func45, Try.ntmps45
    go_wp2_with (go_at_call 58; refine (part_int _ _).mono ?_; rintro e w' ⟨rfl, rfl⟩)
    go_ret
    exact ⟨by simp [Hf.out], hb0⟩

theorem low_neg64 {u d : Int} (h : d < 0) (hu : -4611686018427387904 ≤ u) (hu' : u ≤ 4611686018427387904) (hd : -4611686018427387904 ≤ d) (hd' : d ≤ 4611686018427387904) :
    lowU u d = wrap64 (-u.tdiv (gcdI u d)) ∧ lowD u d = wrap64 (-d.tdiv (gcdI u d)) := by
  obtain ⟨e1, e2⟩ := low_neg (u := u) h
  have q1 := tdiv_in u (-gcdI u d) hu hu'
  have q2 := tdiv_in d (-gcdI u d) hd hd'
  rw [e1, e2]
  simp only [Int.tdiv_neg] at q1 q2 ⊢
  exact ⟨(IntWalk.wrap64_in _ ⟨by omega, by omega⟩).symm, (IntWalk.wrap64_in _ ⟨by omega, by omega⟩).symm⟩

theorem ret_two {k : IntKind} {a b c d : Int} (h : a = c) (h' : b = d) : Ending.returned (.tuple #[.int k a, .int k b]) = .returned (.tuple #[.int k c, .int k d]) := by rw [h, h']

end Go.Proofs.Ytaphlhdkdokopaa
