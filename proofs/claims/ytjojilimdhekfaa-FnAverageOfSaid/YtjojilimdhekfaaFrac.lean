/- The walks of the functions on fractions: what each call gives, and that it writes nothing that was there. -/
import Derived.Test.YtjojilimdhekfaaProg
import Derived.Test.YtjojilimdhekfaaMath
import Derived.WalkKit
import Derived.WalkSpells
import Derived.WalkLawsBesides
import Derived.IntWalk
import Derived.Lib.Hide
import Derived.RegionTactic
import Derived.ChangeAlike
import Derived.Deep.QuietTactic
import Derived.BigQuiet
namespace Go.Proofs.Ytjojilimdhekfaa
set_option linter.unusedSimpArgs false
set_option linter.unusedVariables false
open Go.RowKit

theorem ret_int {k : IntKind} {a b : Int} (h : a = b) : Ending.returned (.int k a) = .returned (.int k b) := by rw [h]

/-- what lies below a world's blocks reads as it did -/
theorem bcell {W w1 : World} (hb : Below W.heap.size W w1) : (∀ b o, b < W.heap.size → w1.cell? ⟨b, o, none⟩ = W.cell? ⟨b, o, none⟩) ∧ (∀ b o, b < W.heap.size → w1.frozen? ⟨b, o, none⟩ = W.frozen? ⟨b, o, none⟩) :=
  ⟨fun b o h => hb.cell (p := ⟨b, o, none⟩) h, fun b o h => hb.frozen (p := ⟨b, o, none⟩) h⟩

set_option maxHeartbeats 400000 in
theorem divisor_int (a b : Int) (ha : -4611686018427387904 ≤ a) (ha' : a ≤ 4611686018427387904) (hb : -4611686018427387904 ≤ b) (hb' : b ≤ 4611686018427387904) (w : World) :
    Calls Try.prog 81 #[.int .i64 a, .int .i64 b] w fun e w' => e = .returned (.int .i64 (gcdI a b)) ∧ Below w.heap.size w w' := by
  go_enter Try.func81, Try.ntmps81
  go_wp2
  go_loopw [0, 1] (fun x y wr => ∃ a' b' : Int, -4611686018427387904 ≤ a' ∧ a' ≤ 4611686018427387904 ∧ -4611686018427387904 ≤ b' ∧ b' ≤ 4611686018427387904 ∧ x = .int .i64 a' ∧ y = .int .i64 b' ∧ Hid (gcdI a' b' = gcdI a b) ∧ Below w.heap.size w wr) (fun _ y _ => (intOf y).natAbs)
  case atStart => exact ⟨a, b, ha, ha', hb, hb', rfl, rfl, rfl, Below.refl _ _⟩
  case round =>
    obtain ⟨a', b', h1, h2, h3, h4, rfl, rfl, H, hbel⟩ := hrel
    by_cases hz : b' = 0
    · subst hz
      have hm := gcdI_zero a'
      rw [H.out] at hm
      have HM : Hid (gcdI a b = max a' (-a')) := hm
      clear hm H
      go_wp2
      all_goals
        go_ret
        exact ⟨ret_int (by rw [HM.out]; omega), by assumption⟩
    · have hz1 : (b' == 0) = false := by simp [hz]
      have hz2 : (b' != 0) = true := by simp [hz]
      go_wp2
      go_quiet (fail)
      go_wp2
      go_roundw
      case rel => exact ⟨b', a'.tmod b', h3, h4, (tmod_in a' b' h1 h2).1, (tmod_in a' b' h1 h2).2, rfl, rfl, (gcdI_tmod a' b').trans H.out, below_drewN hbel _⟩
      case measure => exact tmod_lt a' b' hz

set_option maxHeartbeats 400000 in
theorem part_int (n : Int) (w : World) :
    Calls Try.prog 80 #[.int .i64 n] w fun e w' => e = .returned (.bool (inR n (-1000000000) 1000000000)) ∧ w = w' := by
  by_cases h1 : -1000000000 ≤ n
  · by_cases h2 : n ≤ 1000000000
    · have hf : inR n (-1000000000) 1000000000 = true := by simp [inR, h1, h2]
      go_enter Try.func80, Try.ntmps80
      go_wp2
      go_ret
      exact ⟨by simp [hf], rfl⟩
    · have hf : inR n (-1000000000) 1000000000 = false := by simp [inR, h2]
      go_enter Try.func80, Try.ntmps80
      go_wp2
      go_ret
      exact ⟨by simp [hf], rfl⟩
  · have hf : inR n (-1000000000) 1000000000 = false := by simp [inR, h1]
    go_enter Try.func80, Try.ntmps80
    go_wp2
    go_ret
    exact ⟨by simp [hf], rfl⟩

set_option maxHeartbeats 400000 in
theorem in_spec (n lo hi : Int) (w : World) :
    Calls Try.prog 79 #[.int .i64 n, .int .i64 lo, .int .i64 hi] w fun e w' => e = .returned (.bool (inR n lo hi)) ∧ w = w' := by
  by_cases h1 : lo ≤ n
  · by_cases h2 : n ≤ hi
    · have hf : inR n lo hi = true := by simp [inR, h1, h2]
      go_enter Try.func79, Try.ntmps79
      go_wp2
      go_ret
      exact ⟨by simp [hf], rfl⟩
    · have hf : inR n lo hi = false := by simp [inR, h2]
      go_enter Try.func79, Try.ntmps79
      go_wp2
      go_ret
      exact ⟨by simp [hf], rfl⟩
  · have hf : inR n lo hi = false := by simp [inR, h1]
    go_enter Try.func79, Try.ntmps79
    go_wp2
    go_ret
    exact ⟨by simp [hf], rfl⟩

set_option maxHeartbeats 400000 in
theorem size_spec (n : Int) (hn : -4611686018427387904 ≤ n) (hn' : n ≤ 4611686018427387904) (w : World) :
    Calls Try.prog 89 #[.int .i64 n] w fun e w' => e = .returned (.int .i64 (max n (-n))) ∧ w = w' := by
  go_enter Try.func89, Try.ntmps89
  go_wp2
  all_goals
    go_ret
    exact ⟨ret_int (by omega), rfl⟩

set_option maxHeartbeats 400000 in
theorem common_spec (a b : Int) (ha : -4611686018427387904 ≤ a) (ha' : a ≤ 4611686018427387904) (hb : -4611686018427387904 ≤ b) (hb' : b ≤ 4611686018427387904) (w : World) :
    Calls Try.prog 78 #[.int .i64 a, .int .i64 b] w fun e w' => e = .returned (.int .i64 (gcdI a b)) ∧ Below w.heap.size w w' := by
  have H0 : Hid (gcdI (max a (-a)) (max b (-b)) = gcdI a b) := gcdI_abs a b
  obtain ⟨m, hm⟩ : ∃ m : Int, m = max a (-a) := ⟨_, rfl⟩
  obtain ⟨n, hn⟩ : ∃ n : Int, n = max b (-b) := ⟨_, rfl⟩
  have hm1 : 0 ≤ m := by omega
  have hm2 : m ≤ 4611686018427387904 := by omega
  have hn1 : 0 ≤ n := by omega
  have hn2 : n ≤ 4611686018427387904 := by omega
  rw [← hm, ← hn] at H0
  have Hm := Lib.hid hm
  have Hn := Lib.hid hn
  clear hm hn
  go_enter Try.func78, Try.ntmps78
  go_wp2_with fail
  refine (size_spec a ha ha' _).mono ?_
  rintro e w' ⟨rfl, rfl⟩
  rw [← Hm.out]
  go_wp2_with fail
  refine (size_spec b hb hb' _).mono ?_
  rintro e w' ⟨rfl, rfl⟩
  rw [← Hn.out]
  go_wp2_with fail
  go_loopw [0, 1] (fun x y wr => ∃ a' b' : Int, 0 ≤ a' ∧ a' ≤ 4611686018427387904 ∧ 0 ≤ b' ∧ b' ≤ 4611686018427387904 ∧ x = .int .i64 a' ∧ y = .int .i64 b' ∧ Hid (gcdI a' b' = gcdI a b) ∧ Below w.heap.size w wr) (fun _ y _ => (intOf y).natAbs)
  case atStart => exact ⟨m, n, hm1, hm2, hn1, hn2, rfl, rfl, H0.out, Below.refl _ _⟩
  case round =>
    obtain ⟨a', b', h1, h2, h3, h4, rfl, rfl, H, hbel⟩ := hrel
    by_cases hz : b' = 0
    · subst hz
      have hm := gcdI_zero a'
      rw [H.out] at hm
      have HM : Hid (gcdI a b = max a' (-a')) := hm
      clear hm H
      go_wp2
      go_ret
      exact ⟨ret_int (by rw [HM.out]; omega), by assumption⟩
    · have hz1 : 0 < b' := by omega
      have hm1 : a' % b' < b' := Int.emod_lt_of_pos _ hz1
      have hm2 : 0 ≤ a' % b' := Int.emod_nonneg _ hz
      go_wp2
      go_roundw
      case rel => exact ⟨b', a' % b', h3, h4, hm2, by omega, rfl, rfl, (gcdI_emod a' b' h1).trans H.out, hbel⟩
      case measure => simp [intOf]; omega

set_option maxHeartbeats 400000 in
theorem fracOk_impl (u d : Int) (w : World) :
    Calls Try.prog 58 #[.agg #[.int .i64 u, .int .i64 d]] w fun e w' => e = .returned (.bool (okB u d)) ∧ Below w.heap.size w w' := by
  have hb0 : Below w.heap.size w (w.alloc (.cells #[.int .i64 u, .int .i64 d] 28)) := (Below.refl _ _).alloc (Nat.le_refl _) _
  rcases hu : inR u (-1000000000) 1000000000 with _ | _
  · have hf : okB u d = false := okB_no (by have := inR_no hu; omega)
    have Hf := Lib.hid hf
    clear hf
    go_enter Try.func58, Try.ntmps58
    go_wp2_with (go_at_call 80; refine (part_int _ _).mono ?_; rintro e w' ⟨rfl, rfl⟩)
    go_ret
    exact ⟨by simp [Hf.out], hb0⟩
  rcases hd : inR d (-1000000000) 1000000000 with _ | _
  · have hf : okB u d = false := okB_no (by have := inR_no hd; omega)
    have Hf := Lib.hid hf
    clear hf
    go_enter Try.func58, Try.ntmps58
    go_wp2_with (go_at_call 80; refine (part_int _ _).mono ?_; rintro e w' ⟨rfl, rfl⟩)
    go_ret
    exact ⟨by simp [Hf.out], hb0⟩
  have bu := inR_yes hu
  have bd := inR_yes hd
  by_cases hp : 0 < d
  · have hfin : okB u d = (gcdI u d == 1) := by
      rw [Bool.eq_iff_iff, okB_iff, beq_iff_eq]
      omega
    have Hf := Lib.hid hfin
    clear hfin
    go_enter Try.func58, Try.ntmps58
    go_wp2_with (first | (go_at_call 80; refine (part_int _ _).mono ?_; rintro e w' ⟨rfl, rfl⟩) | (go_at_call 81; refine (divisor_int _ _ (by omega) (by omega) (by omega) (by omega) _).mono ?_; rintro e w' ⟨rfl, hb1⟩))
    go_ret
    exact ⟨by simp [Hf.out], hb0.trans (hb1.mono (by simp))⟩
  · have hf : okB u d = false := okB_no (by omega)
    have Hf := Lib.hid hf
    clear hf
    go_enter Try.func58, Try.ntmps58
    go_wp2_with (go_at_call 80; refine (part_int _ _).mono ?_; rintro e w' ⟨rfl, rfl⟩)
    go_ret
    exact ⟨by simp [Hf.out], hb0⟩

set_option maxHeartbeats 400000 in
theorem fracOk_spec (u d : Int) (w : World) :
    Calls Try.prog 57 #[.agg #[.int .i64 u, .int .i64 d]] w fun e w' => e = .returned (.bool (okB u d)) ∧ Below w.heap.size w w' := by
  have hb0 : Below w.heap.size w (w.alloc (.cells #[.int .i64 u, .int .i64 d] 28)) := (Below.refl _ _).alloc (Nat.le_refl _) _
  rcases hu : inR u (-1000000000) 1000000000 with _ | _
  · have hf : okB u d = false := okB_no (by have := inR_no hu; omega)
    have Hf := Lib.hid hf
    clear hf
    go_enter Try.func57, Try.ntmps57
    go_wp2_with (go_at_call 79; refine (in_spec _ _ _ _).mono ?_; rintro e w' ⟨rfl, rfl⟩)
    go_ret
    exact ⟨by simp [Hf.out], hb0⟩
  rcases hd : inR d 1 1000000000 with _ | _
  · have hf : okB u d = false := okB_no (by have := inR_no hd; omega)
    have Hf := Lib.hid hf
    clear hf
    go_enter Try.func57, Try.ntmps57
    go_wp2_with (go_at_call 79; refine (in_spec _ _ _ _).mono ?_; rintro e w' ⟨rfl, rfl⟩)
    go_ret
    exact ⟨by simp [Hf.out], hb0⟩
  have bu := inR_yes hu
  have bd := inR_yes hd
  have hfin : okB u d = (gcdI u d == 1) := by
    rw [Bool.eq_iff_iff, okB_iff, beq_iff_eq]
    omega
  have Hf := Lib.hid hfin
  clear hfin
  go_enter Try.func57, Try.ntmps57
  go_wp2_with (first | (go_at_call 79; refine (in_spec _ _ _ _).mono ?_; rintro e w' ⟨rfl, rfl⟩) | (go_at_call 78; refine (common_spec _ _ (by omega) (by omega) (by omega) (by omega) _).mono ?_; rintro e w' ⟨rfl, hb1⟩))
  go_ret
  exact ⟨by simp [Hf.out], hb0.trans (hb1.mono (by simp))⟩

theorem low_neg64 {u d : Int} (h : d < 0) (hu : -4611686018427387904 ≤ u) (hu' : u ≤ 4611686018427387904) (hd : -4611686018427387904 ≤ d) (hd' : d ≤ 4611686018427387904) :
    lowU u d = wrap64 (-u.tdiv (gcdI u d)) ∧ lowD u d = wrap64 (-d.tdiv (gcdI u d)) := by
  obtain ⟨e1, e2⟩ := low_neg (u := u) h
  have q1 := tdiv_in u (-gcdI u d) hu hu'
  have q2 := tdiv_in d (-gcdI u d) hd hd'
  rw [e1, e2]
  simp only [Int.tdiv_neg] at q1 q2 ⊢
  exact ⟨(IntWalk.wrap64_in _ ⟨by omega, by omega⟩).symm, (IntWalk.wrap64_in _ ⟨by omega, by omega⟩).symm⟩

theorem ret_two {k : IntKind} {a b c d : Int} (h : a = c) (h' : b = d) : Ending.returned (.tuple #[.int k a, .int k b]) = .returned (.tuple #[.int k c, .int k d]) := by rw [h, h']

end Go.Proofs.Ytjojilimdhekfaa
