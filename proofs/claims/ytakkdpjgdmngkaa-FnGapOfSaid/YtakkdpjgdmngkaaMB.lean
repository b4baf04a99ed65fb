/- Texts in one: Frac, FracB, FracC, FracD, FracE, All. -/
import Derived.Test.YtakkdpjgdmngkaaProg
import Derived.Test.YtakkdpjgdmngkaaMA
import Derived.WalkKit
import Derived.WalkSpells
import Derived.WalkLawsBesides
import Derived.IntWalk
import Derived.Lib.Hide
import Derived.RegionTactic
import Derived.ChangeAlike
import Derived.Deep.QuietTactic
import Derived.BigQuiet
import Derived.Deep.RegionWith
import Derived.Deep.RegionHeld3
import Derived.BigRegion
import Derived.Deep.OwnRows
namespace Go.Proofs.Ytakkdpjgdmngkaa
set_option linter.unusedSimpArgs false
set_option linter.unusedVariables false
open Go.RowKit

theorem ret_int {k : IntKind} {a b : Int} (h : a = b) : Ending.returned (.int k a) = .returned (.int k b) := by rw [h]

/-- what lies below a world's blocks reads as it did -/
theorem bcell {W w1 : World} (hb : Below W.heap.size W w1) : (∀ b o, b < W.heap.size → w1.cell? ⟨b, o, none⟩ = W.cell? ⟨b, o, none⟩) ∧ (∀ b o, b < W.heap.size → w1.frozen? ⟨b, o, none⟩ = W.frozen? ⟨b, o, none⟩) :=
  ⟨fun b o h => hb.cell (p := ⟨b, o, none⟩) h, fun b o h => hb.frozen (p := ⟨b, o, none⟩) h⟩

set_option maxHeartbeats 400000 in
theorem divisor_int (a b : Int) (ha : -4611686018427387904 ≤ a) (ha' : a ≤ 4611686018427387904) (hb : -4611686018427387904 ≤ b) (hb' : b ≤ 4611686018427387904) (w : World) :
    Calls Try.prog 74 #[.int .i64 a, .int .i64 b] w fun e w' => e = .returned (.int .i64 (gcdI a b)) ∧ Below w.heap.size w w' := by
  go_enter Try.func74, Try.ntmps74
  go_wp2
  go_loopw [0, 1] (fun x y wr => ∃ a' b' : Int, -4611686018427387904 ≤ a' ∧ a' ≤ 4611686018427387904 ∧ -4611686018427387904 ≤ b' ∧ b' ≤ 4611686018427387904 ∧ x = .int .i64 a' ∧ y = .int .i64 b' ∧ Hid (gcdI a' b' = gcdI a b) ∧ Below w.heap.size w wr) (fun _ y _ => (intOf y).natAbs)
  case atStart => exact ⟨a, b, ha, ha', hb, hb', rfl, rfl, rfl, Below.refl _ _⟩
  case round =>
    obtain ⟨a', b', h1, h2, h3, h4, rfl, rfl, H, hbel⟩ := hrel
    by_cases hz : b' = 0
    · subst hz
      have hm := gcdI_zero a'
      rw [H.out] at hm
      have HM : Hid (gcdI a b = max a' (-a')) := hm
      clear hm H
      go_wp2
      all_goals
        go_ret
        exact ⟨ret_int (by rw [HM.out]; omega), by assumption⟩
    · have hz1 : (b' == 0) = false := by simp [hz]
      have hz2 : (b' != 0) = true := by simp [hz]
      go_wp2
      go_quiet (fail)
      go_wp2
      go_roundw
      case rel => exact ⟨b', a'.tmod b', h3, h4, (tmod_in a' b' h1 h2).1, (tmod_in a' b' h1 h2).2, rfl, rfl, (gcdI_tmod a' b').trans H.out, below_drewN hbel _⟩
      case measure => exact tmod_lt a' b' hz

set_option maxHeartbeats 400000 in
theorem part_int (n : Int) (w : World) :
    Calls Try.prog 73 #[.int .i64 n] w fun e w' => e = .returned (.bool (inR n (-1000000000) 1000000000)) ∧ w = w' := by
  by_cases h1 : -1000000000 ≤ n
  · by_cases h2 : n ≤ 1000000000
    · have hf : inR n (-1000000000) 1000000000 = true := by simp [inR, h1, h2]
      go_enter Try.func73, Try.ntmps73
      go_wp2
      go_ret
      exact ⟨by simp [hf], rfl⟩
    · have hf : inR n (-1000000000) 1000000000 = false := by simp [inR, h2]
      go_enter Try.func73, Try.ntmps73
      go_wp2
      go_ret
      exact ⟨by simp [hf], rfl⟩
  · have hf : inR n (-1000000000) 1000000000 = false := by simp [inR, h1]
    go_enter Try.func73, Try.ntmps73
    go_wp2
    go_ret
    exact ⟨by simp [hf], rfl⟩

set_option maxHeartbeats 400000 in
theorem in_spec (n lo hi : Int) (w : World) :
    Calls Try.prog 41 #[.int .i64 n, .int .i64 lo, .int .i64 hi] w fun e w' => e = .returned (.bool (inR n lo hi)) ∧ w = w' := by
  by_cases h1 : lo ≤ n
  · by_cases h2 : n ≤ hi
    · have hf : inR n lo hi = true := by simp [inR, h1, h2]
      go_enter Try.func41, Try.ntmps41
      go_wp2
      go_ret
      exact ⟨by simp [hf], rfl⟩
    · have hf : inR n lo hi = false := by simp [inR, h2]
      go_enter Try.func41, Try.ntmps41
      go_wp2
      go_ret
      exact ⟨by simp [hf], rfl⟩
  · have hf : inR n lo hi = false := by simp [inR, h1]
    go_enter Try.func41, Try.ntmps41
    go_wp2
    go_ret
    exact ⟨by simp [hf], rfl⟩

set_option maxHeartbeats 400000 in
theorem size_spec (n : Int) (hn : -4611686018427387904 ≤ n) (hn' : n ≤ 4611686018427387904) (w : World) :
    Calls Try.prog 113 #[.int .i64 n] w fun e w' => e = .returned (.int .i64 (max n (-n))) ∧ w = w' := by
  go_enter Try.func113, Try.ntmps113
  go_wp2
  all_goals
    go_ret
    exact ⟨ret_int (by omega), rfl⟩

set_option maxHeartbeats 400000 in
theorem common_spec (a b : Int) (ha : -4611686018427387904 ≤ a) (ha' : a ≤ 4611686018427387904) (hb : -4611686018427387904 ≤ b) (hb' : b ≤ 4611686018427387904) (w : World) :
    Calls Try.prog 104 #[.int .i64 a, .int .i64 b] w fun e w' => e = .returned (.int .i64 (gcdI a b)) ∧ Below w.heap.size w w' := by
  have H0 : Hid (gcdI (max a (-a)) (max b (-b)) = gcdI a b) := gcdI_abs a b
  obtain ⟨m, hm⟩ : ∃ m : Int, m = max a (-a) := ⟨_, rfl⟩
  obtain ⟨n, hn⟩ : ∃ n : Int, n = max b (-b) := ⟨_, rfl⟩
  have hm1 : 0 ≤ m := by omega
  have hm2 : m ≤ 4611686018427387904 := by omega
  have hn1 : 0 ≤ n := by omega
  have hn2 : n ≤ 4611686018427387904 := by omega
  rw [← hm, ← hn] at H0
  have Hm := Lib.hid hm
  have Hn := Lib.hid hn
  clear hm hn
  go_enter Try.func104, Try.ntmps104
  go_wp2_with fail
  refine (size_spec a ha ha' _).mono ?_
  rintro e w' ⟨rfl, rfl⟩
  rw [← Hm.out]
  go_wp2_with fail
  refine (size_spec b hb hb' _).mono ?_
  rintro e w' ⟨rfl, rfl⟩
  rw [← Hn.out]
  go_wp2_with fail
  go_loopw [0, 1] (fun x y wr => ∃ a' b' : Int, 0 ≤ a' ∧ a' ≤ 4611686018427387904 ∧ 0 ≤ b' ∧ b' ≤ 4611686018427387904 ∧ x = .int .i64 a' ∧ y = .int .i64 b' ∧ Hid (gcdI a' b' = gcdI a b) ∧ Below w.heap.size w wr) (fun _ y _ => (intOf y).natAbs)
  case atStart => exact ⟨m, n, hm1, hm2, hn1, hn2, rfl, rfl, H0.out, Below.refl _ _⟩
  case round =>
    obtain ⟨a', b', h1, h2, h3, h4, rfl, rfl, H, hbel⟩ := hrel
    by_cases hz : b' = 0
    · subst hz
      have hm := gcdI_zero a'
      rw [H.out] at hm
      have HM : Hid (gcdI a b = max a' (-a')) := hm
      clear hm H
      go_wp2
      go_ret
      exact ⟨ret_int (by rw [HM.out]; omega), by assumption⟩
    · have hz1 : 0 < b' := by omega
      have hm1 : a' % b' < b' := Int.emod_lt_of_pos _ hz1
      have hm2 : 0 ≤ a' % b' := Int.emod_nonneg _ hz
      go_wp2
      go_roundw
      case rel => exact ⟨b', a' % b', h3, h4, hm2, by omega, rfl, rfl, (gcdI_emod a' b' h1).trans H.out, hbel⟩
      case measure => simp [intOf]; omega

set_option maxHeartbeats 400000 in
theorem fracOk_impl (u d : Int) (w : World) :
    Calls Try.prog 45 #[.agg #[.int .i64 u, .int .i64 d]] w fun e w' => e = .returned (.bool (okB u d)) ∧ Below w.heap.size w w' := by
  have hb0 : Below w.heap.size w (w.alloc (.cells #[.int .i64 u, .int .i64 d] 34)) := (Below.refl _ _).alloc (Nat.le_refl _) _
  rcases hu : inR u (-1000000000) 1000000000 with _ | _
  · have hf : okB u d = false := okB_no (by have := inR_no hu; omega)
    have Hf := Lib.hid hf
    clear hf
    go_enter Try.func45, Try.ntmps45
    go_wp2_with (go_at_call 73; refine (part_int _ _).mono ?_; rintro e w' ⟨rfl, rfl⟩)
    go_ret
    exact ⟨by simp [Hf.out], hb0⟩
  rcases hd : inR d (-1000000000) 1000000000 with _ | _
  · have hf : okB u d = false := okB_no (by have := inR_no hd; omega)
    have Hf := Lib.hid hf
    clear hf
    go_enter Try.func45, Try.ntmps45
    go_wp2_with (go_at_call 73; refine (part_int _ _).mono ?_; rintro e w' ⟨rfl, rfl⟩)
    go_ret
    exact ⟨by simp [Hf.out], hb0⟩
  have bu := inR_yes hu
  have bd := inR_yes hd
  by_cases hp : 0 < d
  · have hfin : okB u d = (gcdI u d == 1) := by
      rw [Bool.eq_iff_iff, okB_iff, beq_iff_eq]
      omega
    have Hf := Lib.hid hfin
    clear hfin
    go_enter Try.func45, Try.ntmps45
    go_wp2_with (first | (go_at_call 73; refine (part_int _ _).mono ?_; rintro e w' ⟨rfl, rfl⟩) | (go_at_call 74; refine (divisor_int _ _ (by omega) (by omega) (by omega) (by omega) _).mono ?_; rintro e w' ⟨rfl, hb1⟩))
    go_ret
    exact ⟨by simp [Hf.out], hb0.trans (hb1.mono (by simp))⟩
  · have hf : okB u d = false := okB_no (by omega)
    have Hf := Lib.hid hf
    clear hf
    go_enter Try.func45, Try.ntmps45
    go_wp2_with (go_at_call 73; refine (part_int _ _).mono ?_; rintro e w' ⟨rfl, rfl⟩)
    go_ret
    exact ⟨by simp [Hf.out], hb0⟩

set_option maxHeartbeats 400000 in
theorem fracOk_spec (u d : Int) (w : World) :
    Calls Try.prog 88 #[.agg #[.int .i64 u, .int .i64 d]] w fun e w' => e = .returned (.bool (okB u d)) ∧ Below w.heap.size w w' := by
  have hb0 : Below w.heap.size w (w.alloc (.cells #[.int .i64 u, .int .i64 d] 34)) := (Below.refl _ _).alloc (Nat.le_refl _) _
  rcases hu : inR u (-1000000000) 1000000000 with _ | _
  · have hf : okB u d = false := okB_no (by have := inR_no hu; omega)
    have Hf := Lib.hid hf
    clear hf
    go_enter Try.func88, Try.ntmps88
    go_wp2_with (go_at_call 41; refine (in_spec _ _ _ _).mono ?_; rintro e w' ⟨rfl, rfl⟩)
    go_ret
    exact ⟨by simp [Hf.out], hb0⟩
  rcases hd : inR d 1 1000000000 with _ | _
  · have hf : okB u d = false := okB_no (by have := inR_no hd; omega)
    have Hf := Lib.hid hf
    clear hf
    go_enter Try.func88, Try.ntmps88
    go_wp2_with (go_at_call 41; refine (in_spec _ _ _ _).mono ?_; rintro e w' ⟨rfl, rfl⟩)
    go_ret
    exact ⟨by simp [Hf.out], hb0⟩
  have bu := inR_yes hu
  have bd := inR_yes hd
  have hfin : okB u d = (gcdI u d == 1) := by
    rw [Bool.eq_iff_iff, okB_iff, beq_iff_eq]
    omega
  have Hf := Lib.hid hfin
  clear hfin
  go_enter Try.func88, Try.ntmps88
  go_wp2_with (first | (go_at_call 41; refine (in_spec _ _ _ _).mono ?_; rintro e w' ⟨rfl, rfl⟩) | (go_at_call 104; refine (common_spec _ _ (by omega) (by omega) (by omega) (by omega) _).mono ?_; rintro e w' ⟨rfl, hb1⟩))
  go_ret
  exact ⟨by simp [Hf.out], hb0.trans (hb1.mono (by simp))⟩

theorem low_neg64 {u d : Int} (h : d < 0) (hu : -4611686018427387904 ≤ u) (hu' : u ≤ 4611686018427387904) (hd : -4611686018427387904 ≤ d) (hd' : d ≤ 4611686018427387904) :
    lowU u d = wrap64 (-u.tdiv (gcdI u d)) ∧ lowD u d = wrap64 (-d.tdiv (gcdI u d)) := by
  obtain ⟨e1, e2⟩ := low_neg (u := u) h
  have q1 := tdiv_in u (-gcdI u d) hu hu'
  have q2 := tdiv_in d (-gcdI u d) hd hd'
  rw [e1, e2]
  simp only [Int.tdiv_neg] at q1 q2 ⊢
  exact ⟨(IntWalk.wrap64_in _ ⟨by omega, by omega⟩).symm, (IntWalk.wrap64_in _ ⟨by omega, by omega⟩).symm⟩

theorem ret_two {k : IntKind} {a b c d : Int} (h : a = c) (h' : b = d) : Ending.returned (.tuple #[.int k a, .int k b]) = .returned (.tuple #[.int k c, .int k d]) := by rw [h, h']

end Go.Proofs.Ytakkdpjgdmngkaa

namespace Go.Proofs.Ytakkdpjgdmngkaa
set_option linter.unusedSimpArgs false
set_option linter.unusedVariables false
open Go.RowKit

set_option maxHeartbeats 400000 in
theorem divisor_i64 (a b : Int) (ha : -4611686018427387904 ≤ a) (ha' : a ≤ 4611686018427387904) (hb : -4611686018427387904 ≤ b) (hb' : b ≤ 4611686018427387904) (w : World) :
    Calls Try.prog 106 #[.int .i64 a, .int .i64 b] w fun e w' => e = .returned (.int .i64 (gcdI a b)) ∧ Below w.heap.size w w' := by
  go_enter Try.func106, Try.ntmps106
  go_wp2
  go_loopw [0, 1] (fun x y wr => ∃ a' b' : Int, -4611686018427387904 ≤ a' ∧ a' ≤ 4611686018427387904 ∧ -4611686018427387904 ≤ b' ∧ b' ≤ 4611686018427387904 ∧ x = .int .i64 a' ∧ y = .int .i64 b' ∧ Hid (gcdI a' b' = gcdI a b) ∧ Below w.heap.size w wr) (fun _ y _ => (intOf y).natAbs)
  case atStart => exact ⟨a, b, ha, ha', hb, hb', rfl, rfl, rfl, Below.refl _ _⟩
  case round =>
    obtain ⟨a', b', h1, h2, h3, h4, rfl, rfl, H, hbel⟩ := hrel
    by_cases hz : b' = 0
    · subst hz
      have hm := gcdI_zero a'
      rw [H.out] at hm
      have HM : Hid (gcdI a b = max a' (-a')) := hm
      clear hm H
      go_wp2
      all_goals
        go_ret
        exact ⟨ret_int (by rw [HM.out]; omega), by assumption⟩
    · have hz1 : (b' == 0) = false := by simp [hz]
      have hz2 : (b' != 0) = true := by simp [hz]
      go_wp2
      go_quiet (fail)
      go_wp2
      go_roundw
      case rel => exact ⟨b', a'.tmod b', h3, h4, (tmod_in a' b' h1 h2).1, (tmod_in a' b' h1 h2).2, rfl, rfl, (gcdI_tmod a' b').trans H.out, below_drewN hbel _⟩
      case measure => exact tmod_lt a' b' hz

set_option maxHeartbeats 400000 in
theorem part_i64 (n : Int) (w : World) :
    Calls Try.prog 94 #[.int .i64 n] w fun e w' => e = .returned (.bool (inR n (-1000000000) 1000000000)) ∧ w = w' := by
  by_cases h1 : -1000000000 ≤ n
  · by_cases h2 : n ≤ 1000000000
    · have hf : inR n (-1000000000) 1000000000 = true := by simp [inR, h1, h2]
      go_enter Try.func94, Try.ntmps94
      go_wp2
      go_ret
      exact ⟨by simp [hf], rfl⟩
    · have hf : inR n (-1000000000) 1000000000 = false := by simp [inR, h2]
      go_enter Try.func94, Try.ntmps94
      go_wp2
      go_ret
      exact ⟨by simp [hf], rfl⟩
  · have hf : inR n (-1000000000) 1000000000 = false := by simp [inR, h1]
    go_enter Try.func94, Try.ntmps94
    go_wp2
    go_ret
    exact ⟨by simp [hf], rfl⟩

set_option maxHeartbeats 400000 in
theorem low_i64 (u d : Int) (hu : -4611686018427387904 ≤ u) (hu' : u ≤ 4611686018427387904) (hd : -4611686018427387904 ≤ d) (hd' : d ≤ 4611686018427387904) (hz : d ≠ 0) (w : World) :
    Calls Try.prog 93 #[.int .i64 u, .int .i64 d] w fun e w' => e = .returned (.tuple #[.int .i64 (lowU u d), .int .i64 (lowD u d)]) ∧ Below w.heap.size w w' := by
  have g1 := gcdI_pos u d hz
  have g2 := gcdI_le_right u d hz
  by_cases hn : d < 0
  · have H := Lib.hid (low_neg64 hn hu hu' hd hd')
    have z1 : (-gcdI u d == 0) = false := by simp; omega
    go_enter Try.func93, Try.ntmps93
    go_wp2_with (go_at_call 106; refine (divisor_i64 _ _ hu hu' hd hd' _).mono ?_; rintro e w' ⟨rfl, hb1⟩)
    go_quiet (fail)
    go_wp2
    go_ret2
    exact ⟨ret_two H.out.1.symm H.out.2.symm, below_drewN hb1 _⟩
  · have H := Lib.hid (low_pos (u := u) hn)
    have q1 := tdiv_in u (gcdI u d) hu hu'
    have q2 := tdiv_in d (gcdI u d) hd hd'
    have z1 : (gcdI u d == 0) = false := by simp; omega
    go_enter Try.func93, Try.ntmps93
    go_wp2_with (go_at_call 106; refine (divisor_i64 _ _ hu hu' hd hd' _).mono ?_; rintro e w' ⟨rfl, hb1⟩)
    go_quiet (fail)
    go_wp2
    go_ret2
    exact ⟨ret_two H.out.1.symm H.out.2.symm, below_drewN hb1 _⟩

theorem bel1 {w w1 : World} {o : Obj} (h : Below (w.alloc o).heap.size (w.alloc o) w1) : Below w.heap.size w w1 :=
  ((Below.refl _ _).alloc (Nat.le_refl _) _).trans (h.mono (by simp))

theorem bel2 {w w1 : World} {o p : Obj} (h : Below ((w.alloc o).alloc p).heap.size ((w.alloc o).alloc p) w1) : Below w.heap.size w w1 := bel1 ((bel1 h).mono (by simp))

theorem bel3 {w w1 : World} {o p q : Obj} (h : Below (((w.alloc o).alloc p).alloc q).heap.size (((w.alloc o).alloc p).alloc q) w1) : Below w.heap.size w w1 := bel1 ((bel2 h).mono (by simp))

theorem bel4 {w w1 : World} {o p q r : Obj} (h : Below ((((w.alloc o).alloc p).alloc q).alloc r).heap.size ((((w.alloc o).alloc p).alloc q).alloc r) w1) : Below w.heap.size w w1 := bel1 ((bel3 h).mono (by simp))

theorem belT {w w1 w2 : World} (h1 : Below w.heap.size w w1) (h2 : Below w1.heap.size w1 w2) : Below w.heap.size w w2 := h1.trans (h2.mono h1.size)

set_option maxHeartbeats 400000 in
theorem l1frac (u d : Int) (hu : -4611686018427387904 ≤ u) (hu' : u ≤ 4611686018427387904) (hd : -4611686018427387904 ≤ d) (hd' : d ≤ 4611686018427387904) (hz : d ≠ 0) (w : World) :
    Calls Try.prog 86 #[.int .i64 u, .int .i64 d] w fun e w' => e = .returned (.agg #[.int .i64 (lowU u d), .int .i64 (lowD u d)]) ∧ Below w.heap.size w w' := by
  have g1 := gcdI_pos u d hz
  have g2 := gcdI_le_right u d hz
  by_cases hn : d < 0
  · have H := Lib.hid (low_neg64 hn hu hu' hd hd')
    have z1 : (-gcdI u d == 0) = false := by simp; omega
    go_enter Try.func86, Try.ntmps86
    go_wp2_with (go_at_call 104; refine (common_spec _ _ hu hu' hd hd' _).mono ?_; rintro e w1 ⟨rfl, hb1⟩; obtain ⟨hc1, hf1⟩ := bcell hb1)
    go_region
    go_wp2
    refine bodyPost_ret (v := .agg #[.int .i64 (wrap64 (-u.tdiv (gcdI u d))), .int .i64 (wrap64 (-d.tdiv (gcdI u d)))]) (by simp [results, Try.results86, go_sem, hc1]) rfl ⟨by rw [H.out.1, H.out.2], ?_⟩
    exact (((bel1 hb1).setCell (Nat.le_refl _) _).setCell (Nat.le_refl _) _).drew
  · have H := Lib.hid (low_pos (u := u) hn)
    have q1 := tdiv_in u (gcdI u d) hu hu'
    have q2 := tdiv_in d (gcdI u d) hd hd'
    have z1 : (gcdI u d == 0) = false := by simp; omega
    have z2 : decide (d < 0) = false := by simp; omega
    go_enter Try.func86, Try.ntmps86
    go_wp2_with (go_at_call 104; refine (common_spec _ _ hu hu' hd hd' _).mono ?_; rintro e w1 ⟨rfl, hb1⟩; obtain ⟨hc1, hf1⟩ := bcell hb1)
    go_region
    go_wp2
    refine bodyPost_ret (v := .agg #[.int .i64 (u.tdiv (gcdI u d)), .int .i64 (d.tdiv (gcdI u d))]) (by simp [results, Try.results86, go_sem, hc1]) rfl ⟨by rw [H.out.1, H.out.2], ?_⟩
    exact (((bel1 hb1).setCell (Nat.le_refl _) _).setCell (Nat.le_refl _) _).drew

set_option maxHeartbeats 400000 in
theorem crosswise (fu fd gu gd : Int) (h1 : -4611686018427387904 ≤ fu * gd) (h2 : fu * gd ≤ 4611686018427387904) (w : World) :
    Calls Try.prog 79 #[.agg #[.int .i64 fu, .int .i64 fd], .agg #[.int .i64 gu, .int .i64 gd]] w fun e w' => e = .returned (.int .i64 (fu * gd)) ∧ Below w.heap.size w w' := by
  go_enter Try.func79, Try.ntmps79
  go_wp2
  go_ret
  exact ⟨rfl, by repeat (first | exact Below.refl _ _ | assumption | exact bel1 (by assumption) | exact bel2 (by assumption) | exact bel3 (by assumption) | exact bel4 (by assumption) | refine Below.drew ?_ | refine below_drewN ?_ _ | refine Below.setCell ?_ (by first | (simp; done) | (simp; omega)) _ | refine Below.alloc ?_ (by first | (simp; done) | (simp; omega)) _)⟩

set_option maxHeartbeats 400000 in
theorem minus_no_impl (u d : Int) (h : okB u d = false) (w : World) :
    Calls Try.prog 84 #[.agg #[.int .i64 u, .int .i64 d]] w fun e w' => e = .returned (.agg #[.int .i64 0, .int .i64 0]) ∧ Below w.heap.size w w' := by
  go_enter Try.func84, Try.ntmps84
  go_wp2_with (go_at_call 45; refine (fracOk_impl _ _ _).mono ?_; rintro e w1 ⟨rfl, hb1⟩; obtain ⟨hc1, hf1⟩ := bcell hb1)
  refine bodyPost_ret (v := .agg #[.int .i64 0, .int .i64 0]) (by simp [results, Try.results84, go_sem, hc1]) rfl ⟨rfl, by repeat (first | exact Below.refl _ _ | assumption | exact bel1 (by assumption) | exact bel2 (by assumption) | exact bel3 (by assumption) | exact bel4 (by assumption) | refine Below.drew ?_ | refine below_drewN ?_ _ | refine Below.setCell ?_ (by first | (simp; done) | (simp; omega)) _ | refine Below.alloc ?_ (by first | (simp; done) | (simp; omega)) _)⟩

set_option maxHeartbeats 400000 in
theorem minus_yes_impl (u d : Int) (h : okB u d = true) (w : World) :
    Calls Try.prog 84 #[.agg #[.int .i64 u, .int .i64 d]] w fun e w' => e = .returned (.agg #[.int .i64 (-u), .int .i64 d]) ∧ Below w.heap.size w w' := by
  obtain ⟨a1, a2, _, _, _⟩ := okB_iff.1 h
  go_enter Try.func84, Try.ntmps84
  go_wp2_with (go_at_call 45; refine (fracOk_impl _ _ _).mono ?_; rintro e w1 ⟨rfl, hb1⟩; obtain ⟨hc1, hf1⟩ := bcell hb1)
  refine bodyPost_ret (v := .agg #[.int .i64 (-u), .int .i64 d]) (by simp [results, Try.results84, go_sem, hc1]) rfl ⟨rfl, by repeat (first | exact Below.refl _ _ | assumption | exact bel1 (by assumption) | exact bel2 (by assumption) | exact bel3 (by assumption) | exact bel4 (by assumption) | refine Below.drew ?_ | refine below_drewN ?_ _ | refine Below.setCell ?_ (by first | (simp; done) | (simp; omega)) _ | refine Below.alloc ?_ (by first | (simp; done) | (simp; omega)) _)⟩

set_option maxHeartbeats 400000 in
theorem minus_no_spec (u d : Int) (h : okB u d = false) (w : World) :
    Calls Try.prog 61 #[.agg #[.int .i64 u, .int .i64 d]] w fun e w' => e = .returned (.agg #[.int .i64 0, .int .i64 0]) ∧ Below w.heap.size w w' := by
  go_enter Try.func61, Try.ntmps61
  go_wp2_with (go_at_call 88; refine (fracOk_spec _ _ _).mono ?_; rintro e w1 ⟨rfl, hb1⟩; obtain ⟨hc1, hf1⟩ := bcell hb1)
  refine bodyPost_ret (v := .agg #[.int .i64 0, .int .i64 0]) (by simp [results, Try.results61, go_sem, hc1]) rfl ⟨rfl, by repeat (first | exact Below.refl _ _ | assumption | exact bel1 (by assumption) | exact bel2 (by assumption) | exact bel3 (by assumption) | exact bel4 (by assumption) | refine Below.drew ?_ | refine below_drewN ?_ _ | refine Below.setCell ?_ (by first | (simp; done) | (simp; omega)) _ | refine Below.alloc ?_ (by first | (simp; done) | (simp; omega)) _)⟩

set_option maxHeartbeats 400000 in
theorem minus_yes_spec (u d : Int) (h : okB u d = true) (w : World) :
    Calls Try.prog 61 #[.agg #[.int .i64 u, .int .i64 d]] w fun e w' => e = .returned (.agg #[.int .i64 (-u), .int .i64 d]) ∧ Below w.heap.size w w' := by
  obtain ⟨a1, a2, _, _, _⟩ := okB_iff.1 h
  go_enter Try.func61, Try.ntmps61
  go_wp2_with (go_at_call 88; refine (fracOk_spec _ _ _).mono ?_; rintro e w1 ⟨rfl, hb1⟩; obtain ⟨hc1, hf1⟩ := bcell hb1)
  refine bodyPost_ret (v := .agg #[.int .i64 (-u), .int .i64 d]) (by simp [results, Try.results61, go_sem, hc1]) rfl ⟨rfl, by repeat (first | exact Below.refl _ _ | assumption | exact bel1 (by assumption) | exact bel2 (by assumption) | exact bel3 (by assumption) | exact bel4 (by assumption) | refine Below.drew ?_ | refine below_drewN ?_ _ | refine Below.setCell ?_ (by first | (simp; done) | (simp; omega)) _ | refine Below.alloc ?_ (by first | (simp; done) | (simp; omega)) _)⟩

/-- may FracOf divide them? -/
def ofB (u d : Int) : Bool := inR u (-1000000000) 1000000000 && inR d (-1000000000) 1000000000 && !(d == 0)

end Go.Proofs.Ytakkdpjgdmngkaa

namespace Go.Proofs.Ytakkdpjgdmngkaa
set_option linter.unusedSimpArgs false
set_option linter.unusedVariables false
open Go.RowKit

/-- a cell that stays through whatever only adds blocks: a rule for the walk -/
theorem stays {W : World} {p o : Nat} {a : Value} (hp : p < W.heap.size) (h : W.cell? ⟨p, o, none⟩ = some a) : ∀ w1, Below W.heap.size W w1 → w1.cell? ⟨p, o, none⟩ = some a :=
  fun _ hb => (hb.cell (p := ⟨p, o, none⟩) hp).trans h

theorem staysF {W : World} {p o : Nat} {b : Bool} (hp : p < W.heap.size) (h : W.frozen? ⟨p, o, none⟩ = b) : ∀ w1, Below W.heap.size W w1 → w1.frozen? ⟨p, o, none⟩ = b :=
  fun _ hb => (hb.frozen (p := ⟨p, o, none⟩) hp).trans h

/-- what a cell holds -/
def held (w : World) (p o : Nat) : Value := (w.cell? ⟨p, o, none⟩).getD .nilFunc

/-- all blocks of W but p, a fraction, are as they were; none below w is touched -/
structure Boxed (w W : World) (p : Nat) (w' : World) : Prop where
  bel : Below w.heap.size w w'
  size : W.heap.size ≤ w'.heap.size
  block : ∀ b, b < W.heap.size → b ≠ p → w'.heap[b]? = W.heap[b]?
  row : ∃ f, w'.rowIs p 34 2 f

theorem Boxed.cell {w W w' : World} {p : Nat} (h : Boxed w W p w') {o : Nat} (ho : o < 2) : w'.cell? ⟨p, o, none⟩ = some (held w' p o) := by
  obtain ⟨f, hf⟩ := h.row
  unfold held; rw [hf.cell ho]; rfl

theorem Boxed.frozen {w W w' : World} {p : Nat} (h : Boxed w W p w') (o : Nat) : w'.frozen? ⟨p, o, none⟩ = false := by
  obtain ⟨f, hf⟩ := h.row
  exact hf.frozen o

theorem Boxed.drew {w W w' : World} {p : Nat} (h : Boxed w W p w') : Boxed w W p w'.drew := ⟨h.bel.drew, h.size, h.block, h.row⟩

theorem Boxed.call {w W w1 w2 : World} {p : Nat} (hb : Below w1.heap.size w1 w2) (hp : p < W.heap.size) (h : Boxed w W p w1) : Boxed w W p w2 := by
  obtain ⟨f, hf⟩ := h.row
  have hs := h.size
  exact ⟨belT h.bel hb, Nat.le_trans h.size hb.size, fun b hlt hne => (hb.block b (by omega)).trans (h.block b hlt hne), f, hf.of_block (hb.block p (by omega))⟩

theorem Boxed.store {w W w1 : World} {p : Nat} (a b : Value) (hp : w.heap.size ≤ p) (h : Boxed w W p w1) : Boxed w W p ((w1.setCell ⟨p, 0, none⟩ a).setCell ⟨p, 1, none⟩ b) := by
  obtain ⟨f, hf⟩ := h.row
  refine ⟨(h.bel.setCell hp _).setCell hp _, by simpa [World.setCell] using h.size, fun b hlt hne => ?_, _, (hf.set 0 a).set 1 b⟩
  rw [Deep.blk_setCell_other _ _ _ _ (by simpa using hne), Deep.blk_setCell_other _ _ _ _ (by simpa using hne)]
  exact h.block b hlt hne

theorem staysB {w W : World} {p b o : Nat} {a : Value} (hb : b < W.heap.size) (hne : b ≠ p) (h : W.cell? ⟨b, o, none⟩ = some a) : ∀ w1, Boxed w W p w1 → w1.cell? ⟨b, o, none⟩ = some a :=
  fun _ k => (World.cell?_of_block (w := W) (k.block b hb hne)).trans h

/-- are lowest terms small enough -/
def ovB (a b : Int) : Bool := inR (lowU a b) (-1000000000) 1000000000 && inR (lowD a b) (-1000000000) 1000000000

set_option maxHeartbeats 1000000 in
theorem over_yes (a b : Int) (q1 : -4611686018427387904 ≤ a) (q2 : a ≤ 4611686018427387904) (q3 : -4611686018427387904 ≤ b) (q4 : b ≤ 4611686018427387904) (q5 : b ≠ 0) (h : ovB a b = true) (w : World) :
    Calls Try.prog 76 #[.int .i64 a, .int .i64 b] w fun e w' => e = .returned (.tuple #[.agg #[.int .i64 (lowU a b), .int .i64 (lowD a b)], .bool true]) ∧ Below w.heap.size w w' := by
  obtain ⟨i1, i2⟩ : inR (lowU a b) (-1000000000) 1000000000 = true ∧ inR (lowD a b) (-1000000000) 1000000000 = true := by simpa [ovB] using h
  clear h
  go_enter Try.func76, Try.ntmps76
  go_wp2_with fail
  obtain ⟨W, hW⟩ : ∃ W : World, W = (w.alloc (.cells #[(Value.int .i64 0), (Value.int .i64 0)] 34)) := ⟨_, rfl⟩
  have hzW : W.heap.size = w.heap.size + 1 := by rw [hW]; simp
  have hbW : Below w.heap.size w W := by rw [hW]; exact (by repeat (first | exact Below.refl _ _ | assumption | exact bel1 (by assumption) | exact bel2 (by assumption) | exact bel3 (by assumption) | exact bel4 (by assumption) | refine Below.drew ?_ | refine below_drewN ?_ _ | refine Below.setCell ?_ (by first | (simp; done) | (simp; omega)) _ | refine Below.alloc ?_ (by first | (simp; done) | (simp; omega)) _))
  have r00 := stays (p := w.heap.size) (o := 0) (by omega) (show W.cell? ⟨w.heap.size, 0, none⟩ = some ((Value.int .i64 0)) from by rw [hW]; simp [go_sem])
  have g00 := staysF (p := w.heap.size) (o := 0) (by omega) (show W.frozen? ⟨w.heap.size, 0, none⟩ = false from by rw [hW]; simp [go_sem])
  have r01 := stays (p := w.heap.size) (o := 1) (by omega) (show W.cell? ⟨w.heap.size, 1, none⟩ = some ((Value.int .i64 0)) from by rw [hW]; simp [go_sem])
  have g01 := staysF (p := w.heap.size) (o := 1) (by omega) (show W.frozen? ⟨w.heap.size, 1, none⟩ = false from by rw [hW]; simp [go_sem])
  rw [← hW]
  clear hW
  have HzW := Lib.hid hzW
  clear hzW
  refine (low_i64 _ _ q1 q2 q3 q4 q5 _).mono ?_
  rintro e w1 ⟨rfl, hb1⟩
  have hk : Below W.heap.size W w1 := hb1
  go_wp2_with (go_at_call 94; refine (part_i64 _ _).mono ?_; rintro e w1 ⟨rfl, rfl⟩)
  have hk2 := belT hbW hk
  refine bodyPost_ret (v := .tuple #[.agg #[.int .i64 (lowU a b), .int .i64 (lowD a b)], .bool true]) (by simp [results, Try.results76, go_sem, r00 _ hk, r01 _ hk]) rfl ⟨rfl, by repeat (first | exact Below.refl _ _ | assumption | exact bel1 (by assumption) | exact bel2 (by assumption) | exact bel3 (by assumption) | exact bel4 (by assumption) | refine Below.drew ?_ | refine below_drewN ?_ _ | refine Below.setCell ?_ (by first | (simp; done) | (simp; omega)) _ | refine Below.alloc ?_ (by first | (simp; done) | (simp; omega)) _)⟩

set_option maxHeartbeats 1000000 in
theorem over_no1 (a b : Int) (q1 : -4611686018427387904 ≤ a) (q2 : a ≤ 4611686018427387904) (q3 : -4611686018427387904 ≤ b) (q4 : b ≤ 4611686018427387904) (q5 : b ≠ 0) (i1 : inR (lowU a b) (-1000000000) 1000000000 = false) (w : World) :
    Calls Try.prog 76 #[.int .i64 a, .int .i64 b] w fun e w' => e = .returned (.tuple #[.agg #[.int .i64 0, .int .i64 0], .bool false]) ∧ Below w.heap.size w w' := by
  go_enter Try.func76, Try.ntmps76
  go_wp2_with fail
  obtain ⟨W, hW⟩ : ∃ W : World, W = (w.alloc (.cells #[(Value.int .i64 0), (Value.int .i64 0)] 34)) := ⟨_, rfl⟩
  have hzW : W.heap.size = w.heap.size + 1 := by rw [hW]; simp
  have hbW : Below w.heap.size w W := by rw [hW]; exact (by repeat (first | exact Below.refl _ _ | assumption | exact bel1 (by assumption) | exact bel2 (by assumption) | exact bel3 (by assumption) | exact bel4 (by assumption) | refine Below.drew ?_ | refine below_drewN ?_ _ | refine Below.setCell ?_ (by first | (simp; done) | (simp; omega)) _ | refine Below.alloc ?_ (by first | (simp; done) | (simp; omega)) _))
  have r00 := stays (p := w.heap.size) (o := 0) (by omega) (show W.cell? ⟨w.heap.size, 0, none⟩ = some ((Value.int .i64 0)) from by rw [hW]; simp [go_sem])
  have g00 := staysF (p := w.heap.size) (o := 0) (by omega) (show W.frozen? ⟨w.heap.size, 0, none⟩ = false from by rw [hW]; simp [go_sem])
  have r01 := stays (p := w.heap.size) (o := 1) (by omega) (show W.cell? ⟨w.heap.size, 1, none⟩ = some ((Value.int .i64 0)) from by rw [hW]; simp [go_sem])
  have g01 := staysF (p := w.heap.size) (o := 1) (by omega) (show W.frozen? ⟨w.heap.size, 1, none⟩ = false from by rw [hW]; simp [go_sem])
  rw [← hW]
  clear hW
  have HzW := Lib.hid hzW
  clear hzW
  refine (low_i64 _ _ q1 q2 q3 q4 q5 _).mono ?_
  rintro e w1 ⟨rfl, hb1⟩
  have hk : Below W.heap.size W w1 := hb1
  go_wp2_with (go_at_call 94; refine (part_i64 _ _).mono ?_; rintro e w1 ⟨rfl, rfl⟩)
  have hk2 := belT hbW hk
  refine bodyPost_ret (v := .tuple #[.agg #[.int .i64 0, .int .i64 0], .bool false]) (by simp [results, Try.results76, go_sem, r00 _ hk, r01 _ hk]) rfl ⟨rfl, by repeat (first | exact Below.refl _ _ | assumption | exact bel1 (by assumption) | exact bel2 (by assumption) | exact bel3 (by assumption) | exact bel4 (by assumption) | refine Below.drew ?_ | refine below_drewN ?_ _ | refine Below.setCell ?_ (by first | (simp; done) | (simp; omega)) _ | refine Below.alloc ?_ (by first | (simp; done) | (simp; omega)) _)⟩

set_option maxHeartbeats 1000000 in
theorem over_no2 (a b : Int) (q1 : -4611686018427387904 ≤ a) (q2 : a ≤ 4611686018427387904) (q3 : -4611686018427387904 ≤ b) (q4 : b ≤ 4611686018427387904) (q5 : b ≠ 0) (i1 : inR (lowU a b) (-1000000000) 1000000000 = true) (i2 : inR (lowD a b) (-1000000000) 1000000000 = false) (w : World) :
    Calls Try.prog 76 #[.int .i64 a, .int .i64 b] w fun e w' => e = .returned (.tuple #[.agg #[.int .i64 0, .int .i64 0], .bool false]) ∧ Below w.heap.size w w' := by
  go_enter Try.func76, Try.ntmps76
  go_wp2_with fail
  obtain ⟨W, hW⟩ : ∃ W : World, W = (w.alloc (.cells #[(Value.int .i64 0), (Value.int .i64 0)] 34)) := ⟨_, rfl⟩
  have hzW : W.heap.size = w.heap.size + 1 := by rw [hW]; simp
  have hbW : Below w.heap.size w W := by rw [hW]; exact (by repeat (first | exact Below.refl _ _ | assumption | exact bel1 (by assumption) | exact bel2 (by assumption) | exact bel3 (by assumption) | exact bel4 (by assumption) | refine Below.drew ?_ | refine below_drewN ?_ _ | refine Below.setCell ?_ (by first | (simp; done) | (simp; omega)) _ | refine Below.alloc ?_ (by first | (simp; done) | (simp; omega)) _))
  have r00 := stays (p := w.heap.size) (o := 0) (by omega) (show W.cell? ⟨w.heap.size, 0, none⟩ = some ((Value.int .i64 0)) from by rw [hW]; simp [go_sem])
  have g00 := staysF (p := w.heap.size) (o := 0) (by omega) (show W.frozen? ⟨w.heap.size, 0, none⟩ = false from by rw [hW]; simp [go_sem])
  have r01 := stays (p := w.heap.size) (o := 1) (by omega) (show W.cell? ⟨w.heap.size, 1, none⟩ = some ((Value.int .i64 0)) from by rw [hW]; simp [go_sem])
  have g01 := staysF (p := w.heap.size) (o := 1) (by omega) (show W.frozen? ⟨w.heap.size, 1, none⟩ = false from by rw [hW]; simp [go_sem])
  rw [← hW]
  clear hW
  have HzW := Lib.hid hzW
  clear hzW
  refine (low_i64 _ _ q1 q2 q3 q4 q5 _).mono ?_
  rintro e w1 ⟨rfl, hb1⟩
  have hk : Below W.heap.size W w1 := hb1
  go_wp2_with (go_at_call 94; refine (part_i64 _ _).mono ?_; rintro e w1 ⟨rfl, rfl⟩)
  have hk2 := belT hbW hk
  refine bodyPost_ret (v := .tuple #[.agg #[.int .i64 0, .int .i64 0], .bool false]) (by simp [results, Try.results76, go_sem, r00 _ hk, r01 _ hk]) rfl ⟨rfl, by repeat (first | exact Below.refl _ _ | assumption | exact bel1 (by assumption) | exact bel2 (by assumption) | exact bel3 (by assumption) | exact bel4 (by assumption) | refine Below.drew ?_ | refine below_drewN ?_ _ | refine Below.setCell ?_ (by first | (simp; done) | (simp; omega)) _ | refine Below.alloc ?_ (by first | (simp; done) | (simp; omega)) _)⟩

theorem over_no (a b : Int) (q1 : -4611686018427387904 ≤ a) (q2 : a ≤ 4611686018427387904) (q3 : -4611686018427387904 ≤ b) (q4 : b ≤ 4611686018427387904) (q5 : b ≠ 0) (h : ovB a b = false) (w : World) :
    Calls Try.prog 76 #[.int .i64 a, .int .i64 b] w fun e w' => e = .returned (.tuple #[.agg #[.int .i64 0, .int .i64 0], .bool false]) ∧ Below w.heap.size w w' := by
  rcases i1 : inR (lowU a b) (-1000000000) 1000000000 with _ | _
  · exact over_no1 a b q1 q2 q3 q4 q5 i1 w
  · exact over_no2 a b q1 q2 q3 q4 q5 i1 (by simpa [ovB, i1] using h) w

set_option maxHeartbeats 1000000 in
theorem less (fu fd gu gd : Int) (q6 : -4611686018427387904 ≤ fu * gd) (q7 : fu * gd ≤ 4611686018427387904) (q8 : -4611686018427387904 ≤ gu * fd) (q9 : gu * fd ≤ 4611686018427387904) (w : World) :
    Calls Try.prog 50 #[.agg #[.int .i64 fu, .int .i64 fd], .agg #[.int .i64 gu, .int .i64 gd]] w fun e w' => e = .returned (.bool (decide (fu * gd < gu * fd))) ∧ Below w.heap.size w w' := by
  go_enter Try.func50, Try.ntmps50
  go_wp2_with fail
  obtain ⟨W, hW⟩ : ∃ W : World, W = ((w.alloc (.cells #[(Value.int .i64 fu), (Value.int .i64 fd)] 34)).alloc (.cells #[(Value.int .i64 gu), (Value.int .i64 gd)] 34)) := ⟨_, rfl⟩
  have hzW : W.heap.size = w.heap.size + 2 := by rw [hW]; simp
  have hbW : Below w.heap.size w W := by rw [hW]; exact (by repeat (first | exact Below.refl _ _ | assumption | exact bel1 (by assumption) | exact bel2 (by assumption) | exact bel3 (by assumption) | exact bel4 (by assumption) | refine Below.drew ?_ | refine below_drewN ?_ _ | refine Below.setCell ?_ (by first | (simp; done) | (simp; omega)) _ | refine Below.alloc ?_ (by first | (simp; done) | (simp; omega)) _))
  have r00 := stays (p := w.heap.size) (o := 0) (by omega) (show W.cell? ⟨w.heap.size, 0, none⟩ = some ((Value.int .i64 fu)) from by rw [hW]; simp [go_sem])
  have r01 := stays (p := w.heap.size) (o := 1) (by omega) (show W.cell? ⟨w.heap.size, 1, none⟩ = some ((Value.int .i64 fd)) from by rw [hW]; simp [go_sem])
  have r10 := stays (p := w.heap.size + 1) (o := 0) (by omega) (show W.cell? ⟨w.heap.size + 1, 0, none⟩ = some ((Value.int .i64 gu)) from by rw [hW]; simp [go_sem])
  have r11 := stays (p := w.heap.size + 1) (o := 1) (by omega) (show W.cell? ⟨w.heap.size + 1, 1, none⟩ = some ((Value.int .i64 gd)) from by rw [hW]; simp [go_sem])
  rw [← hW]
  clear hW
  have HzW := Lib.hid hzW
  clear hzW
  go_region_held3 (fun w' => Below W.heap.size W w')
    (first | exact Below.refl _ _ | exact Below.drew (Below.refl _ _) | (refine Below.drew ?_; assumption) | exact belT (by assumption) (by assumption) | assumption)
    (first | (go_at_call 79; refine (crosswise _ _ _ _ (by assumption) (by assumption) _).mono ?_; rintro e w1 ⟨rfl, hb1⟩))
  go_wp2
  have hk : Below W.heap.size W w1 := by assumption
  have hk2 := belT hbW hk
  go_ret
  exact ⟨by simp, by repeat (first | exact Below.refl _ _ | assumption | exact bel1 (by assumption) | exact bel2 (by assumption) | exact bel3 (by assumption) | exact bel4 (by assumption) | refine Below.drew ?_ | refine below_drewN ?_ _ | refine Below.setCell ?_ (by first | (simp; done) | (simp; omega)) _ | refine Below.alloc ?_ (by first | (simp; done) | (simp; omega)) _)⟩

set_option maxHeartbeats 1000000 in
theorem more (fu fd gu gd : Int) (q6 : -4611686018427387904 ≤ fu * gd) (q7 : fu * gd ≤ 4611686018427387904) (q8 : -4611686018427387904 ≤ gu * fd) (q9 : gu * fd ≤ 4611686018427387904) (w : World) :
    Calls Try.prog 52 #[.agg #[.int .i64 fu, .int .i64 fd], .agg #[.int .i64 gu, .int .i64 gd]] w fun e w' => e = .returned (.bool (decide (gu * fd < fu * gd))) ∧ Below w.heap.size w w' := by
  go_enter Try.func52, Try.ntmps52
  go_wp2_with fail
  obtain ⟨W, hW⟩ : ∃ W : World, W = ((w.alloc (.cells #[(Value.int .i64 fu), (Value.int .i64 fd)] 34)).alloc (.cells #[(Value.int .i64 gu), (Value.int .i64 gd)] 34)) := ⟨_, rfl⟩
  have hzW : W.heap.size = w.heap.size + 2 := by rw [hW]; simp
  have hbW : Below w.heap.size w W := by rw [hW]; exact (by repeat (first | exact Below.refl _ _ | assumption | exact bel1 (by assumption) | exact bel2 (by assumption) | exact bel3 (by assumption) | exact bel4 (by assumption) | refine Below.drew ?_ | refine below_drewN ?_ _ | refine Below.setCell ?_ (by first | (simp; done) | (simp; omega)) _ | refine Below.alloc ?_ (by first | (simp; done) | (simp; omega)) _))
  have r00 := stays (p := w.heap.size) (o := 0) (by omega) (show W.cell? ⟨w.heap.size, 0, none⟩ = some ((Value.int .i64 fu)) from by rw [hW]; simp [go_sem])
  have r01 := stays (p := w.heap.size) (o := 1) (by omega) (show W.cell? ⟨w.heap.size, 1, none⟩ = some ((Value.int .i64 fd)) from by rw [hW]; simp [go_sem])
  have r10 := stays (p := w.heap.size + 1) (o := 0) (by omega) (show W.cell? ⟨w.heap.size + 1, 0, none⟩ = some ((Value.int .i64 gu)) from by rw [hW]; simp [go_sem])
  have r11 := stays (p := w.heap.size + 1) (o := 1) (by omega) (show W.cell? ⟨w.heap.size + 1, 1, none⟩ = some ((Value.int .i64 gd)) from by rw [hW]; simp [go_sem])
  rw [← hW]
  clear hW
  have HzW := Lib.hid hzW
  clear hzW
  refine (less _ _ _ _ q8 q9 q6 q7 _).mono ?_
  rintro e w1 ⟨rfl, hb1⟩
  have hk2 := belT hbW hb1
  go_wp2_with fail
  go_ret
  exact ⟨by simp, by repeat (first | exact Below.refl _ _ | assumption | exact bel1 (by assumption) | exact bel2 (by assumption) | exact bel3 (by assumption) | exact bel4 (by assumption) | refine Below.drew ?_ | refine below_drewN ?_ _ | refine Below.setCell ?_ (by first | (simp; done) | (simp; omega)) _ | refine Below.alloc ?_ (by first | (simp; done) | (simp; omega)) _)⟩

set_option maxHeartbeats 1000000 in
theorem plus_yes (fu fd gu gd : Int) (hf : okB fu fd = true) (hg : okB gu gd = true) (hp : plB fu fd gu gd = true) (w : World) :
    Calls Try.prog 103 #[.agg #[.int .i64 fu, .int .i64 fd], .agg #[.int .i64 gu, .int .i64 gd]] w fun e w' => e = .returned (.tuple #[.agg #[.int .i64 (plU fu fd gu gd), .int .i64 (plD fu fd gu gd)], .bool true]) ∧ Below w.heap.size w w' := by
  obtain ⟨a1, a2, a3, a4, _⟩ := okB_iff.1 hf
  obtain ⟨b1, b2, b3, b4, _⟩ := okB_iff.1 hg
  have m1 := mul_in a1 a2 (show 0 ≤ gd by omega) b4
  have m2 := mul_in b1 b2 (show 0 ≤ fd by omega) a4
  have m3 := mul_in (show -1000000000 ≤ fd by omega) a4 (show 0 ≤ gd by omega) b4
  have m4 := mul_pos a3 b3
  have HO : Hid (ovB (fu * gd + gu * fd) (fd * gd) = true) := hp
  clear hf hg hp
  have q1 : -4611686018427387904 ≤ fu * gd + gu * fd := by omega
  have q2 : fu * gd + gu * fd ≤ 4611686018427387904 := by omega
  have q3 : -4611686018427387904 ≤ fd * gd := by omega
  have q4 : fd * gd ≤ 4611686018427387904 := by omega
  have q5 : fd * gd ≠ 0 := by omega
  have q6 : -4611686018427387904 ≤ fu * gd := by omega
  have q7 : fu * gd ≤ 4611686018427387904 := by omega
  have q8 : -4611686018427387904 ≤ gu * fd := by omega
  have q9 : gu * fd ≤ 4611686018427387904 := by omega
  have x1 : IntKind.i64.wrap (fu * gd + gu * fd) = fu * gd + gu * fd := IntWalk.i64_in _ (by omega)
  have x2 : IntKind.i64.wrap (fd * gd) = fd * gd := IntWalk.i64_in _ (by omega)
  go_enter Try.func103, Try.ntmps103
  go_wp2_with fail
  obtain ⟨W, hW⟩ : ∃ W : World, W = (((w.alloc (.cells #[(Value.int .i64 fu), (Value.int .i64 fd)] 34)).alloc (.cells #[(Value.int .i64 gu), (Value.int .i64 gd)] 34)).alloc (.cells #[(Value.int .i64 0), (Value.int .i64 0)] 34)) := ⟨_, rfl⟩
  have hzW : W.heap.size = w.heap.size + 3 := by rw [hW]; simp
  have hbW : Below w.heap.size w W := by rw [hW]; exact (by repeat (first | exact Below.refl _ _ | assumption | exact bel1 (by assumption) | exact bel2 (by assumption) | exact bel3 (by assumption) | exact bel4 (by assumption) | refine Below.drew ?_ | refine below_drewN ?_ _ | refine Below.setCell ?_ (by first | (simp; done) | (simp; omega)) _ | refine Below.alloc ?_ (by first | (simp; done) | (simp; omega)) _))
  have r00 := staysB (w := w) (p := w.heap.size + 2) (b := w.heap.size) (o := 0) (by omega) (by omega) (show W.cell? ⟨w.heap.size, 0, none⟩ = some ((Value.int .i64 fu)) from by rw [hW]; simp [go_sem])
  have r01 := staysB (w := w) (p := w.heap.size + 2) (b := w.heap.size) (o := 1) (by omega) (by omega) (show W.cell? ⟨w.heap.size, 1, none⟩ = some ((Value.int .i64 fd)) from by rw [hW]; simp [go_sem])
  have r10 := staysB (w := w) (p := w.heap.size + 2) (b := w.heap.size + 1) (o := 0) (by omega) (by omega) (show W.cell? ⟨w.heap.size + 1, 0, none⟩ = some ((Value.int .i64 gu)) from by rw [hW]; simp [go_sem])
  have r11 := staysB (w := w) (p := w.heap.size + 2) (b := w.heap.size + 1) (o := 1) (by omega) (by omega) (show W.cell? ⟨w.heap.size + 1, 1, none⟩ = some ((Value.int .i64 gd)) from by rw [hW]; simp [go_sem])
  have cp0 : ∀ w1, Boxed w W (w.heap.size + 2) w1 → w1.cell? ⟨w.heap.size + 2, 0, none⟩ = some (held w1 (w.heap.size + 2) 0) := fun _ h => h.cell (by omega)
  have gp0 : ∀ w1, Boxed w W (w.heap.size + 2) w1 → w1.frozen? ⟨w.heap.size + 2, 0, none⟩ = false := fun _ h => h.frozen 0
  have cp1 : ∀ w1, Boxed w W (w.heap.size + 2) w1 → w1.cell? ⟨w.heap.size + 2, 1, none⟩ = some (held w1 (w.heap.size + 2) 1) := fun _ h => h.cell (by omega)
  have gp1 : ∀ w1, Boxed w W (w.heap.size + 2) w1 → w1.frozen? ⟨w.heap.size + 2, 1, none⟩ = false := fun _ h => h.frozen 1
  have B0 : Boxed w W (w.heap.size + 2) W := ⟨hbW, Nat.le_refl _, fun _ _ _ => rfl, fun _ => .int .i64 0, by
    have hs : ((w.alloc (.cells #[(Value.int .i64 fu), (Value.int .i64 fd)] 34)).alloc (.cells #[(Value.int .i64 gu), (Value.int .i64 gd)] 34)).heap.size = w.heap.size + 2 := by simp
    rw [hW, ← hs]; exact World.rowIs_alloc _ #[.int .i64 0, .int .i64 0] _ _ (fun i hi => by have : i = 0 ∨ i = 1 := (by simp at hi; omega); rcases this with rfl | rfl <;> rfl)⟩
  rw [← hW]
  clear hW
  go_region_held3 (fun w' => Boxed w W (w.heap.size + 2) w')
    (first | assumption | exact Boxed.drew (by assumption) | exact Boxed.call (by assumption) (by omega) (by assumption) | exact Boxed.store _ _ (by omega) (by assumption))
    (first | (go_at_call 79; refine (crosswise _ _ _ _ (by assumption) (by assumption) _).mono ?_; rintro e w1 ⟨rfl, hb1⟩) | (go_at_call 76; refine (over_yes _ _ q1 q2 q3 q4 q5 HO.out _).mono ?_; rintro e w1 ⟨rfl, hb1⟩))
  have hk : Boxed w W (w.heap.size + 2) w1 := Boxed.call hb1 (by omega) (Boxed.call (by assumption) (by omega) (Boxed.call (by assumption) (by omega) B0.drew))
  go_wp2_with fail
  refine bodyPost_ret (v := .tuple #[.agg #[.int .i64 (lowU (fu * gd + gu * fd) (fd * gd)), .int .i64 (lowD (fu * gd + gu * fd) (fd * gd))], .bool true]) (by simp [results, Try.results103, go_sem, cp0 _ hk, cp1 _ hk, gp0 _ hk, gp1 _ hk]) rfl ⟨rfl, ?_⟩
  exact (hk.bel.setCell (by show _ ≤ w.heap.size + 1 + 1; omega) _).setCell (by show _ ≤ w.heap.size + 1 + 1; omega) _

set_option maxHeartbeats 1000000 in
theorem plus_no (fu fd gu gd : Int) (hf : okB fu fd = true) (hg : okB gu gd = true) (hp : plB fu fd gu gd = false) (w : World) :
    Calls Try.prog 103 #[.agg #[.int .i64 fu, .int .i64 fd], .agg #[.int .i64 gu, .int .i64 gd]] w fun e w' => e = .returned (.tuple #[.agg #[.int .i64 0, .int .i64 0], .bool false]) ∧ Below w.heap.size w w' := by
  obtain ⟨a1, a2, a3, a4, _⟩ := okB_iff.1 hf
  obtain ⟨b1, b2, b3, b4, _⟩ := okB_iff.1 hg
  have m1 := mul_in a1 a2 (show 0 ≤ gd by omega) b4
  have m2 := mul_in b1 b2 (show 0 ≤ fd by omega) a4
  have m3 := mul_in (show -1000000000 ≤ fd by omega) a4 (show 0 ≤ gd by omega) b4
  have m4 := mul_pos a3 b3
  have HO : Hid (ovB (fu * gd + gu * fd) (fd * gd) = false) := hp
  clear hf hg hp
  have q1 : -4611686018427387904 ≤ fu * gd + gu * fd := by omega
  have q2 : fu * gd + gu * fd ≤ 4611686018427387904 := by omega
  have q3 : -4611686018427387904 ≤ fd * gd := by omega
  have q4 : fd * gd ≤ 4611686018427387904 := by omega
  have q5 : fd * gd ≠ 0 := by omega
  have q6 : -4611686018427387904 ≤ fu * gd := by omega
  have q7 : fu * gd ≤ 4611686018427387904 := by omega
  have q8 : -4611686018427387904 ≤ gu * fd := by omega
  have q9 : gu * fd ≤ 4611686018427387904 := by omega
  have x1 : IntKind.i64.wrap (fu * gd + gu * fd) = fu * gd + gu * fd := IntWalk.i64_in _ (by omega)
  have x2 : IntKind.i64.wrap (fd * gd) = fd * gd := IntWalk.i64_in _ (by omega)
  go_enter Try.func103, Try.ntmps103
  go_wp2_with fail
  obtain ⟨W, hW⟩ : ∃ W : World, W = (((w.alloc (.cells #[(Value.int .i64 fu), (Value.int .i64 fd)] 34)).alloc (.cells #[(Value.int .i64 gu), (Value.int .i64 gd)] 34)).alloc (.cells #[(Value.int .i64 0), (Value.int .i64 0)] 34)) := ⟨_, rfl⟩
  have hzW : W.heap.size = w.heap.size + 3 := by rw [hW]; simp
  have hbW : Below w.heap.size w W := by rw [hW]; exact (by repeat (first | exact Below.refl _ _ | assumption | exact bel1 (by assumption) | exact bel2 (by assumption) | exact bel3 (by assumption) | exact bel4 (by assumption) | refine Below.drew ?_ | refine below_drewN ?_ _ | refine Below.setCell ?_ (by first | (simp; done) | (simp; omega)) _ | refine Below.alloc ?_ (by first | (simp; done) | (simp; omega)) _))
  have r00 := staysB (w := w) (p := w.heap.size + 2) (b := w.heap.size) (o := 0) (by omega) (by omega) (show W.cell? ⟨w.heap.size, 0, none⟩ = some ((Value.int .i64 fu)) from by rw [hW]; simp [go_sem])
  have r01 := staysB (w := w) (p := w.heap.size + 2) (b := w.heap.size) (o := 1) (by omega) (by omega) (show W.cell? ⟨w.heap.size, 1, none⟩ = some ((Value.int .i64 fd)) from by rw [hW]; simp [go_sem])
  have r10 := staysB (w := w) (p := w.heap.size + 2) (b := w.heap.size + 1) (o := 0) (by omega) (by omega) (show W.cell? ⟨w.heap.size + 1, 0, none⟩ = some ((Value.int .i64 gu)) from by rw [hW]; simp [go_sem])
  have r11 := staysB (w := w) (p := w.heap.size + 2) (b := w.heap.size + 1) (o := 1) (by omega) (by omega) (show W.cell? ⟨w.heap.size + 1, 1, none⟩ = some ((Value.int .i64 gd)) from by rw [hW]; simp [go_sem])
  have cp0 : ∀ w1, Boxed w W (w.heap.size + 2) w1 → w1.cell? ⟨w.heap.size + 2, 0, none⟩ = some (held w1 (w.heap.size + 2) 0) := fun _ h => h.cell (by omega)
  have gp0 : ∀ w1, Boxed w W (w.heap.size + 2) w1 → w1.frozen? ⟨w.heap.size + 2, 0, none⟩ = false := fun _ h => h.frozen 0
  have cp1 : ∀ w1, Boxed w W (w.heap.size + 2) w1 → w1.cell? ⟨w.heap.size + 2, 1, none⟩ = some (held w1 (w.heap.size + 2) 1) := fun _ h => h.cell (by omega)
  have gp1 : ∀ w1, Boxed w W (w.heap.size + 2) w1 → w1.frozen? ⟨w.heap.size + 2, 1, none⟩ = false := fun _ h => h.frozen 1
  have B0 : Boxed w W (w.heap.size + 2) W := ⟨hbW, Nat.le_refl _, fun _ _ _ => rfl, fun _ => .int .i64 0, by
    have hs : ((w.alloc (.cells #[(Value.int .i64 fu), (Value.int .i64 fd)] 34)).alloc (.cells #[(Value.int .i64 gu), (Value.int .i64 gd)] 34)).heap.size = w.heap.size + 2 := by simp
    rw [hW, ← hs]; exact World.rowIs_alloc _ #[.int .i64 0, .int .i64 0] _ _ (fun i hi => by have : i = 0 ∨ i = 1 := (by simp at hi; omega); rcases this with rfl | rfl <;> rfl)⟩
  rw [← hW]
  clear hW
  go_region_held3 (fun w' => Boxed w W (w.heap.size + 2) w')
    (first | assumption | exact Boxed.drew (by assumption) | exact Boxed.call (by assumption) (by omega) (by assumption) | exact Boxed.store _ _ (by omega) (by assumption))
    (first | (go_at_call 79; refine (crosswise _ _ _ _ (by assumption) (by assumption) _).mono ?_; rintro e w1 ⟨rfl, hb1⟩) | (go_at_call 76; refine (over_no _ _ q1 q2 q3 q4 q5 HO.out _).mono ?_; rintro e w1 ⟨rfl, hb1⟩))
  have hk : Boxed w W (w.heap.size + 2) w1 := Boxed.call hb1 (by omega) (Boxed.call (by assumption) (by omega) (Boxed.call (by assumption) (by omega) B0.drew))
  go_wp2_with fail
  refine bodyPost_ret (v := .tuple #[.agg #[.int .i64 0, .int .i64 0], .bool false]) (by simp [results, Try.results103, go_sem, cp0 _ hk, cp1 _ hk, gp0 _ hk, gp1 _ hk]) rfl ⟨rfl, ?_⟩
  exact (hk.bel.setCell (by show _ ≤ w.heap.size + 1 + 1; omega) _).setCell (by show _ ≤ w.heap.size + 1 + 1; omega) _

end Go.Proofs.Ytakkdpjgdmngkaa

namespace Go.Proofs.Ytakkdpjgdmngkaa
set_option linter.unusedSimpArgs false
set_option linter.unusedVariables false
open Go.RowKit

set_option maxHeartbeats 1000000 in
theorem plusOf_yes_impl (fu fd gu gd : Int) (hf : okB fu fd = true) (hg : okB gu gd = true) (hp : plB fu fd gu gd = true) (w : World) :
    Calls Try.prog 83 #[.agg #[.int .i64 fu, .int .i64 fd], .agg #[.int .i64 gu, .int .i64 gd]] w fun e w' => e = .returned (.tuple #[.agg #[.int .i64 (plU fu fd gu gd), .int .i64 (plD fu fd gu gd)], .bool true]) ∧ Below w.heap.size w w' := by
  go_enter Try.func83, Try.ntmps83
  go_wp2_with fail
  obtain ⟨W, hW⟩ : ∃ W : World, W = (((w.alloc (.cells #[(Value.int .i64 fu), (Value.int .i64 fd)] 34)).alloc (.cells #[(Value.int .i64 gu), (Value.int .i64 gd)] 34)).alloc (.cells #[(Value.int .i64 0), (Value.int .i64 0)] 34)) := ⟨_, rfl⟩
  have hzW : W.heap.size = w.heap.size + 3 := by rw [hW]; simp
  have hbW : Below w.heap.size w W := by rw [hW]; exact (by repeat (first | exact Below.refl _ _ | assumption | exact bel1 (by assumption) | exact bel2 (by assumption) | exact bel3 (by assumption) | exact bel4 (by assumption) | refine Below.drew ?_ | refine below_drewN ?_ _ | refine Below.setCell ?_ (by first | (simp; done) | (simp; omega)) _ | refine Below.alloc ?_ (by first | (simp; done) | (simp; omega)) _))
  have r00 := stays (p := w.heap.size) (o := 0) (by omega) (show W.cell? ⟨w.heap.size, 0, none⟩ = some ((Value.int .i64 fu)) from by rw [hW]; simp [go_sem])
  have r01 := stays (p := w.heap.size) (o := 1) (by omega) (show W.cell? ⟨w.heap.size, 1, none⟩ = some ((Value.int .i64 fd)) from by rw [hW]; simp [go_sem])
  have r10 := stays (p := w.heap.size + 1) (o := 0) (by omega) (show W.cell? ⟨w.heap.size + 1, 0, none⟩ = some ((Value.int .i64 gu)) from by rw [hW]; simp [go_sem])
  have r11 := stays (p := w.heap.size + 1) (o := 1) (by omega) (show W.cell? ⟨w.heap.size + 1, 1, none⟩ = some ((Value.int .i64 gd)) from by rw [hW]; simp [go_sem])
  have r20 := stays (p := w.heap.size + 2) (o := 0) (by omega) (show W.cell? ⟨w.heap.size + 2, 0, none⟩ = some ((Value.int .i64 0)) from by rw [hW]; simp [go_sem])
  have g20 := staysF (p := w.heap.size + 2) (o := 0) (by omega) (show W.frozen? ⟨w.heap.size + 2, 0, none⟩ = false from by rw [hW]; simp [go_sem])
  have r21 := stays (p := w.heap.size + 2) (o := 1) (by omega) (show W.cell? ⟨w.heap.size + 2, 1, none⟩ = some ((Value.int .i64 0)) from by rw [hW]; simp [go_sem])
  have g21 := staysF (p := w.heap.size + 2) (o := 1) (by omega) (show W.frozen? ⟨w.heap.size + 2, 1, none⟩ = false from by rw [hW]; simp [go_sem])
  rw [← hW]
  clear hW
  have HzW := Lib.hid hzW
  clear hzW
  go_wp2_with (first | (go_at_call 45; refine (fracOk_impl _ _ _).mono ?_; rintro e w1 ⟨rfl, hb1⟩; have hk := belT (by first | exact Below.refl W.heap.size _ | exact Below.drew (Below.refl W.heap.size _) | assumption) hb1) | (go_at_call 103; refine (plus_yes _ _ _ _ hf hg hp _).mono ?_; rintro e w1 ⟨rfl, hb1⟩; have hk := belT (by first | exact Below.refl W.heap.size _ | exact Below.drew (Below.refl W.heap.size _) | assumption) hb1))
  have hk2 := belT hbW hk
  refine bodyPost_ret (v := .tuple #[.agg #[.int .i64 (plU fu fd gu gd), .int .i64 (plD fu fd gu gd)], .bool true]) (by simp [results, Try.results83, go_sem, r20 _ hk, r21 _ hk]) rfl ⟨rfl, by repeat (first | exact Below.refl _ _ | assumption | exact bel1 (by assumption) | exact bel2 (by assumption) | exact bel3 (by assumption) | exact bel4 (by assumption) | refine Below.drew ?_ | refine below_drewN ?_ _ | refine Below.setCell ?_ (by first | (simp; done) | (simp; omega)) _ | refine Below.alloc ?_ (by first | (simp; done) | (simp; omega)) _)⟩

set_option maxHeartbeats 1000000 in
theorem plusOf_no3_impl (fu fd gu gd : Int) (hf : okB fu fd = true) (hg : okB gu gd = true) (hp : plB fu fd gu gd = false) (w : World) :
    Calls Try.prog 83 #[.agg #[.int .i64 fu, .int .i64 fd], .agg #[.int .i64 gu, .int .i64 gd]] w fun e w' => e = .returned (.tuple #[.agg #[.int .i64 0, .int .i64 0], .bool false]) ∧ Below w.heap.size w w' := by
  go_enter Try.func83, Try.ntmps83
  go_wp2_with fail
  obtain ⟨W, hW⟩ : ∃ W : World, W = (((w.alloc (.cells #[(Value.int .i64 fu), (Value.int .i64 fd)] 34)).alloc (.cells #[(Value.int .i64 gu), (Value.int .i64 gd)] 34)).alloc (.cells #[(Value.int .i64 0), (Value.int .i64 0)] 34)) := ⟨_, rfl⟩
  have hzW : W.heap.size = w.heap.size + 3 := by rw [hW]; simp
  have hbW : Below w.heap.size w W := by rw [hW]; exact (by repeat (first | exact Below.refl _ _ | assumption | exact bel1 (by assumption) | exact bel2 (by assumption) | exact bel3 (by assumption) | exact bel4 (by assumption) | refine Below.drew ?_ | refine below_drewN ?_ _ | refine Below.setCell ?_ (by first | (simp; done) | (simp; omega)) _ | refine Below.alloc ?_ (by first | (simp; done) | (simp; omega)) _))
  have r00 := stays (p := w.heap.size) (o := 0) (by omega) (show W.cell? ⟨w.heap.size, 0, none⟩ = some ((Value.int .i64 fu)) from by rw [hW]; simp [go_sem])
  have r01 := stays (p := w.heap.size) (o := 1) (by omega) (show W.cell? ⟨w.heap.size, 1, none⟩ = some ((Value.int .i64 fd)) from by rw [hW]; simp [go_sem])
  have r10 := stays (p := w.heap.size + 1) (o := 0) (by omega) (show W.cell? ⟨w.heap.size + 1, 0, none⟩ = some ((Value.int .i64 gu)) from by rw [hW]; simp [go_sem])
  have r11 := stays (p := w.heap.size + 1) (o := 1) (by omega) (show W.cell? ⟨w.heap.size + 1, 1, none⟩ = some ((Value.int .i64 gd)) from by rw [hW]; simp [go_sem])
  have r20 := stays (p := w.heap.size + 2) (o := 0) (by omega) (show W.cell? ⟨w.heap.size + 2, 0, none⟩ = some ((Value.int .i64 0)) from by rw [hW]; simp [go_sem])
  have g20 := staysF (p := w.heap.size + 2) (o := 0) (by omega) (show W.frozen? ⟨w.heap.size + 2, 0, none⟩ = false from by rw [hW]; simp [go_sem])
  have r21 := stays (p := w.heap.size + 2) (o := 1) (by omega) (show W.cell? ⟨w.heap.size + 2, 1, none⟩ = some ((Value.int .i64 0)) from by rw [hW]; simp [go_sem])
  have g21 := staysF (p := w.heap.size + 2) (o := 1) (by omega) (show W.frozen? ⟨w.heap.size + 2, 1, none⟩ = false from by rw [hW]; simp [go_sem])
  rw [← hW]
  clear hW
  have HzW := Lib.hid hzW
  clear hzW
  go_wp2_with (first | (go_at_call 45; refine (fracOk_impl _ _ _).mono ?_; rintro e w1 ⟨rfl, hb1⟩; have hk := belT (by first | exact Below.refl W.heap.size _ | exact Below.drew (Below.refl W.heap.size _) | assumption) hb1) | (go_at_call 103; refine (plus_no _ _ _ _ hf hg hp _).mono ?_; rintro e w1 ⟨rfl, hb1⟩; have hk := belT (by first | exact Below.refl W.heap.size _ | exact Below.drew (Below.refl W.heap.size _) | assumption) hb1))
  have hk2 := belT hbW hk
  refine bodyPost_ret (v := .tuple #[.agg #[.int .i64 0, .int .i64 0], .bool false]) (by simp [results, Try.results83, go_sem, r20 _ hk, r21 _ hk]) rfl ⟨rfl, by repeat (first | exact Below.refl _ _ | assumption | exact bel1 (by assumption) | exact bel2 (by assumption) | exact bel3 (by assumption) | exact bel4 (by assumption) | refine Below.drew ?_ | refine below_drewN ?_ _ | refine Below.setCell ?_ (by first | (simp; done) | (simp; omega)) _ | refine Below.alloc ?_ (by first | (simp; done) | (simp; omega)) _)⟩

set_option maxHeartbeats 1000000 in
theorem plusOf_no1_impl (fu fd gu gd : Int) (hf : okB fu fd = false) (w : World) :
    Calls Try.prog 83 #[.agg #[.int .i64 fu, .int .i64 fd], .agg #[.int .i64 gu, .int .i64 gd]] w fun e w' => e = .returned (.tuple #[.agg #[.int .i64 0, .int .i64 0], .bool false]) ∧ Below w.heap.size w w' := by
  go_enter Try.func83, Try.ntmps83
  go_wp2_with fail
  obtain ⟨W, hW⟩ : ∃ W : World, W = (((w.alloc (.cells #[(Value.int .i64 fu), (Value.int .i64 fd)] 34)).alloc (.cells #[(Value.int .i64 gu), (Value.int .i64 gd)] 34)).alloc (.cells #[(Value.int .i64 0), (Value.int .i64 0)] 34)) := ⟨_, rfl⟩
  have hzW : W.heap.size = w.heap.size + 3 := by rw [hW]; simp
  have hbW : Below w.heap.size w W := by rw [hW]; exact (by repeat (first | exact Below.refl _ _ | assumption | exact bel1 (by assumption) | exact bel2 (by assumption) | exact bel3 (by assumption) | exact bel4 (by assumption) | refine Below.drew ?_ | refine below_drewN ?_ _ | refine Below.setCell ?_ (by first | (simp; done) | (simp; omega)) _ | refine Below.alloc ?_ (by first | (simp; done) | (simp; omega)) _))
  have r00 := stays (p := w.heap.size) (o := 0) (by omega) (show W.cell? ⟨w.heap.size, 0, none⟩ = some ((Value.int .i64 fu)) from by rw [hW]; simp [go_sem])
  have r01 := stays (p := w.heap.size) (o := 1) (by omega) (show W.cell? ⟨w.heap.size, 1, none⟩ = some ((Value.int .i64 fd)) from by rw [hW]; simp [go_sem])
  have r10 := stays (p := w.heap.size + 1) (o := 0) (by omega) (show W.cell? ⟨w.heap.size + 1, 0, none⟩ = some ((Value.int .i64 gu)) from by rw [hW]; simp [go_sem])
  have r11 := stays (p := w.heap.size + 1) (o := 1) (by omega) (show W.cell? ⟨w.heap.size + 1, 1, none⟩ = some ((Value.int .i64 gd)) from by rw [hW]; simp [go_sem])
  have r20 := stays (p := w.heap.size + 2) (o := 0) (by omega) (show W.cell? ⟨w.heap.size + 2, 0, none⟩ = some ((Value.int .i64 0)) from by rw [hW]; simp [go_sem])
  have g20 := staysF (p := w.heap.size + 2) (o := 0) (by omega) (show W.frozen? ⟨w.heap.size + 2, 0, none⟩ = false from by rw [hW]; simp [go_sem])
  have r21 := stays (p := w.heap.size + 2) (o := 1) (by omega) (show W.cell? ⟨w.heap.size + 2, 1, none⟩ = some ((Value.int .i64 0)) from by rw [hW]; simp [go_sem])
  have g21 := staysF (p := w.heap.size + 2) (o := 1) (by omega) (show W.frozen? ⟨w.heap.size + 2, 1, none⟩ = false from by rw [hW]; simp [go_sem])
  rw [← hW]
  clear hW
  have HzW := Lib.hid hzW
  clear hzW
  go_wp2_with (go_at_call 45; refine (fracOk_impl _ _ _).mono ?_; rintro e w1 ⟨rfl, hb1⟩; have hk := belT (by first | exact Below.refl W.heap.size _ | exact Below.drew (Below.refl W.heap.size _) | assumption) hb1)
  have hk2 := belT hbW hk
  refine bodyPost_ret (v := .tuple #[.agg #[.int .i64 0, .int .i64 0], .bool false]) (by simp [results, Try.results83, go_sem, r20 _ hk, r21 _ hk]) rfl ⟨rfl, by repeat (first | exact Below.refl _ _ | assumption | exact bel1 (by assumption) | exact bel2 (by assumption) | exact bel3 (by assumption) | exact bel4 (by assumption) | refine Below.drew ?_ | refine below_drewN ?_ _ | refine Below.setCell ?_ (by first | (simp; done) | (simp; omega)) _ | refine Below.alloc ?_ (by first | (simp; done) | (simp; omega)) _)⟩

set_option maxHeartbeats 1000000 in
theorem plusOf_no2_impl (fu fd gu gd : Int) (hf : okB fu fd = true) (hg : okB gu gd = false) (w : World) :
    Calls Try.prog 83 #[.agg #[.int .i64 fu, .int .i64 fd], .agg #[.int .i64 gu, .int .i64 gd]] w fun e w' => e = .returned (.tuple #[.agg #[.int .i64 0, .int .i64 0], .bool false]) ∧ Below w.heap.size w w' := by
  go_enter Try.func83, Try.ntmps83
  go_wp2_with fail
  obtain ⟨W, hW⟩ : ∃ W : World, W = (((w.alloc (.cells #[(Value.int .i64 fu), (Value.int .i64 fd)] 34)).alloc (.cells #[(Value.int .i64 gu), (Value.int .i64 gd)] 34)).alloc (.cells #[(Value.int .i64 0), (Value.int .i64 0)] 34)) := ⟨_, rfl⟩
  have hzW : W.heap.size = w.heap.size + 3 := by rw [hW]; simp
  have hbW : Below w.heap.size w W := by rw [hW]; exact (by repeat (first | exact Below.refl _ _ | assumption | exact bel1 (by assumption) | exact bel2 (by assumption) | exact bel3 (by assumption) | exact bel4 (by assumption) | refine Below.drew ?_ | refine below_drewN ?_ _ | refine Below.setCell ?_ (by first | (simp; done) | (simp; omega)) _ | refine Below.alloc ?_ (by first | (simp; done) | (simp; omega)) _))
  have r00 := stays (p := w.heap.size) (o := 0) (by omega) (show W.cell? ⟨w.heap.size, 0, none⟩ = some ((Value.int .i64 fu)) from by rw [hW]; simp [go_sem])
  have r01 := stays (p := w.heap.size) (o := 1) (by omega) (show W.cell? ⟨w.heap.size, 1, none⟩ = some ((Value.int .i64 fd)) from by rw [hW]; simp [go_sem])
  have r10 := stays (p := w.heap.size + 1) (o := 0) (by omega) (show W.cell? ⟨w.heap.size + 1, 0, none⟩ = some ((Value.int .i64 gu)) from by rw [hW]; simp [go_sem])
  have r11 := stays (p := w.heap.size + 1) (o := 1) (by omega) (show W.cell? ⟨w.heap.size + 1, 1, none⟩ = some ((Value.int .i64 gd)) from by rw [hW]; simp [go_sem])
  have r20 := stays (p := w.heap.size + 2) (o := 0) (by omega) (show W.cell? ⟨w.heap.size + 2, 0, none⟩ = some ((Value.int .i64 0)) from by rw [hW]; simp [go_sem])
  have g20 := staysF (p := w.heap.size + 2) (o := 0) (by omega) (show W.frozen? ⟨w.heap.size + 2, 0, none⟩ = false from by rw [hW]; simp [go_sem])
  have r21 := stays (p := w.heap.size + 2) (o := 1) (by omega) (show W.cell? ⟨w.heap.size + 2, 1, none⟩ = some ((Value.int .i64 0)) from by rw [hW]; simp [go_sem])
  have g21 := staysF (p := w.heap.size + 2) (o := 1) (by omega) (show W.frozen? ⟨w.heap.size + 2, 1, none⟩ = false from by rw [hW]; simp [go_sem])
  rw [← hW]
  clear hW
  have HzW := Lib.hid hzW
  clear hzW
  go_wp2_with (go_at_call 45; refine (fracOk_impl _ _ _).mono ?_; rintro e w1 ⟨rfl, hb1⟩; have hk := belT (by first | exact Below.refl W.heap.size _ | exact Below.drew (Below.refl W.heap.size _) | assumption) hb1)
  have hk2 := belT hbW hk
  refine bodyPost_ret (v := .tuple #[.agg #[.int .i64 0, .int .i64 0], .bool false]) (by simp [results, Try.results83, go_sem, r20 _ hk, r21 _ hk]) rfl ⟨rfl, by repeat (first | exact Below.refl _ _ | assumption | exact bel1 (by assumption) | exact bel2 (by assumption) | exact bel3 (by assumption) | exact bel4 (by assumption) | refine Below.drew ?_ | refine below_drewN ?_ _ | refine Below.setCell ?_ (by first | (simp; done) | (simp; omega)) _ | refine Below.alloc ?_ (by first | (simp; done) | (simp; omega)) _)⟩

set_option maxHeartbeats 1000000 in
theorem plusOf_no1_spec (fu fd gu gd : Int) (hf : okB fu fd = false) (w : World) :
    Calls Try.prog 60 #[.agg #[.int .i64 fu, .int .i64 fd], .agg #[.int .i64 gu, .int .i64 gd]] w fun e w' => e = .returned (.tuple #[.agg #[.int .i64 0, .int .i64 0], .bool false]) ∧ Below w.heap.size w w' := by
  go_enter Try.func60, Try.ntmps60
  go_wp2_with fail
  obtain ⟨W, hW⟩ : ∃ W : World, W = (((w.alloc (.cells #[(Value.int .i64 fu), (Value.int .i64 fd)] 34)).alloc (.cells #[(Value.int .i64 gu), (Value.int .i64 gd)] 34)).alloc (.cells #[(Value.int .i64 0), (Value.int .i64 0)] 34)) := ⟨_, rfl⟩
  have hzW : W.heap.size = w.heap.size + 3 := by rw [hW]; simp
  have hbW : Below w.heap.size w W := by rw [hW]; exact (by repeat (first | exact Below.refl _ _ | assumption | exact bel1 (by assumption) | exact bel2 (by assumption) | exact bel3 (by assumption) | exact bel4 (by assumption) | refine Below.drew ?_ | refine below_drewN ?_ _ | refine Below.setCell ?_ (by first | (simp; done) | (simp; omega)) _ | refine Below.alloc ?_ (by first | (simp; done) | (simp; omega)) _))
  have r00 := stays (p := w.heap.size) (o := 0) (by omega) (show W.cell? ⟨w.heap.size, 0, none⟩ = some ((Value.int .i64 fu)) from by rw [hW]; simp [go_sem])
  have r01 := stays (p := w.heap.size) (o := 1) (by omega) (show W.cell? ⟨w.heap.size, 1, none⟩ = some ((Value.int .i64 fd)) from by rw [hW]; simp [go_sem])
  have r10 := stays (p := w.heap.size + 1) (o := 0) (by omega) (show W.cell? ⟨w.heap.size + 1, 0, none⟩ = some ((Value.int .i64 gu)) from by rw [hW]; simp [go_sem])
  have r11 := stays (p := w.heap.size + 1) (o := 1) (by omega) (show W.cell? ⟨w.heap.size + 1, 1, none⟩ = some ((Value.int .i64 gd)) from by rw [hW]; simp [go_sem])
  have r20 := stays (p := w.heap.size + 2) (o := 0) (by omega) (show W.cell? ⟨w.heap.size + 2, 0, none⟩ = some ((Value.int .i64 0)) from by rw [hW]; simp [go_sem])
  have g20 := staysF (p := w.heap.size + 2) (o := 0) (by omega) (show W.frozen? ⟨w.heap.size + 2, 0, none⟩ = false from by rw [hW]; simp [go_sem])
  have r21 := stays (p := w.heap.size + 2) (o := 1) (by omega) (show W.cell? ⟨w.heap.size + 2, 1, none⟩ = some ((Value.int .i64 0)) from by rw [hW]; simp [go_sem])
  have g21 := staysF (p := w.heap.size + 2) (o := 1) (by omega) (show W.frozen? ⟨w.heap.size + 2, 1, none⟩ = false from by rw [hW]; simp [go_sem])
  rw [← hW]
  clear hW
  have HzW := Lib.hid hzW
  clear hzW
  go_wp2_with (go_at_call 88; refine (fracOk_spec _ _ _).mono ?_; rintro e w1 ⟨rfl, hb1⟩; have hk := belT (by first | exact Below.refl W.heap.size _ | exact Below.drew (Below.refl W.heap.size _) | assumption) hb1)
  have hk2 := belT hbW hk
  refine bodyPost_ret (v := .tuple #[.agg #[.int .i64 0, .int .i64 0], .bool false]) (by simp [results, Try.results60, go_sem, r20 _ hk, r21 _ hk]) rfl ⟨rfl, by repeat (first | exact Below.refl _ _ | assumption | exact bel1 (by assumption) | exact bel2 (by assumption) | exact bel3 (by assumption) | exact bel4 (by assumption) | refine Below.drew ?_ | refine below_drewN ?_ _ | refine Below.setCell ?_ (by first | (simp; done) | (simp; omega)) _ | refine Below.alloc ?_ (by first | (simp; done) | (simp; omega)) _)⟩

set_option maxHeartbeats 1000000 in
theorem plusOf_no2_spec (fu fd gu gd : Int) (hf : okB fu fd = true) (hg : okB gu gd = false) (w : World) :
    Calls Try.prog 60 #[.agg #[.int .i64 fu, .int .i64 fd], .agg #[.int .i64 gu, .int .i64 gd]] w fun e w' => e = .returned (.tuple #[.agg #[.int .i64 0, .int .i64 0], .bool false]) ∧ Below w.heap.size w w' := by
  go_enter Try.func60, Try.ntmps60
  go_wp2_with fail
  obtain ⟨W, hW⟩ : ∃ W : World, W = (((w.alloc (.cells #[(Value.int .i64 fu), (Value.int .i64 fd)] 34)).alloc (.cells #[(Value.int .i64 gu), (Value.int .i64 gd)] 34)).alloc (.cells #[(Value.int .i64 0), (Value.int .i64 0)] 34)) := ⟨_, rfl⟩
  have hzW : W.heap.size = w.heap.size + 3 := by rw [hW]; simp
  have hbW : Below w.heap.size w W := by rw [hW]; exact (by repeat (first | exact Below.refl _ _ | assumption | exact bel1 (by assumption) | exact bel2 (by assumption) | exact bel3 (by assumption) | exact bel4 (by assumption) | refine Below.drew ?_ | refine below_drewN ?_ _ | refine Below.setCell ?_ (by first | (simp; done) | (simp; omega)) _ | refine Below.alloc ?_ (by first | (simp; done) | (simp; omega)) _))
  have r00 := stays (p := w.heap.size) (o := 0) (by omega) (show W.cell? ⟨w.heap.size, 0, none⟩ = some ((Value.int .i64 fu)) from by rw [hW]; simp [go_sem])
  have r01 := stays (p := w.heap.size) (o := 1) (by omega) (show W.cell? ⟨w.heap.size, 1, none⟩ = some ((Value.int .i64 fd)) from by rw [hW]; simp [go_sem])
  have r10 := stays (p := w.heap.size + 1) (o := 0) (by omega) (show W.cell? ⟨w.heap.size + 1, 0, none⟩ = some ((Value.int .i64 gu)) from by rw [hW]; simp [go_sem])
  have r11 := stays (p := w.heap.size + 1) (o := 1) (by omega) (show W.cell? ⟨w.heap.size + 1, 1, none⟩ = some ((Value.int .i64 gd)) from by rw [hW]; simp [go_sem])
  have r20 := stays (p := w.heap.size + 2) (o := 0) (by omega) (show W.cell? ⟨w.heap.size + 2, 0, none⟩ = some ((Value.int .i64 0)) from by rw [hW]; simp [go_sem])
  have g20 := staysF (p := w.heap.size + 2) (o := 0) (by omega) (show W.frozen? ⟨w.heap.size + 2, 0, none⟩ = false from by rw [hW]; simp [go_sem])
  have r21 := stays (p := w.heap.size + 2) (o := 1) (by omega) (show W.cell? ⟨w.heap.size + 2, 1, none⟩ = some ((Value.int .i64 0)) from by rw [hW]; simp [go_sem])
  have g21 := staysF (p := w.heap.size + 2) (o := 1) (by omega) (show W.frozen? ⟨w.heap.size + 2, 1, none⟩ = false from by rw [hW]; simp [go_sem])
  rw [← hW]
  clear hW
  have HzW := Lib.hid hzW
  clear hzW
  go_wp2_with (go_at_call 88; refine (fracOk_spec _ _ _).mono ?_; rintro e w1 ⟨rfl, hb1⟩; have hk := belT (by first | exact Below.refl W.heap.size _ | exact Below.drew (Below.refl W.heap.size _) | assumption) hb1)
  have hk2 := belT hbW hk
  refine bodyPost_ret (v := .tuple #[.agg #[.int .i64 0, .int .i64 0], .bool false]) (by simp [results, Try.results60, go_sem, r20 _ hk, r21 _ hk]) rfl ⟨rfl, by repeat (first | exact Below.refl _ _ | assumption | exact bel1 (by assumption) | exact bel2 (by assumption) | exact bel3 (by assumption) | exact bel4 (by assumption) | refine Below.drew ?_ | refine below_drewN ?_ _ | refine Below.setCell ?_ (by first | (simp; done) | (simp; omega)) _ | refine Below.alloc ?_ (by first | (simp; done) | (simp; omega)) _)⟩

end Go.Proofs.Ytakkdpjgdmngkaa

namespace Go.Proofs.Ytakkdpjgdmngkaa
set_option linter.unusedSimpArgs false
set_option linter.unusedVariables false
open Go.RowKit

set_option maxHeartbeats 1000000 in
theorem plusOf_yes_spec (fu fd gu gd : Int) (hf : okB fu fd = true) (hg : okB gu gd = true) (hp : plB fu fd gu gd = true) (w : World) :
    Calls Try.prog 60 #[.agg #[.int .i64 fu, .int .i64 fd], .agg #[.int .i64 gu, .int .i64 gd]] w fun e w' => e = .returned (.tuple #[.agg #[.int .i64 (plU fu fd gu gd), .int .i64 (plD fu fd gu gd)], .bool true]) ∧ Below w.heap.size w w' := by
  obtain ⟨a1, a2, a3, a4, _⟩ := okB_iff.1 hf
  obtain ⟨b1, b2, b3, b4, _⟩ := okB_iff.1 hg
  have m1 := mul_in a1 a2 (show 0 ≤ gd by omega) b4
  have m2 := mul_in b1 b2 (show 0 ≤ fd by omega) a4
  have m3 := mul_in (show -1000000000 ≤ fd by omega) a4 (show 0 ≤ gd by omega) b4
  have m4 := mul_pos a3 b3
  have hB := plB_ok hf hg
  rw [hp] at hB
  have i1 : okB (lowU (fu * gd + gu * fd) (fd * gd)) (lowD (fu * gd + gu * fd) (fd * gd)) = true := hB
  clear hB
  have q1 : -4611686018427387904 ≤ fu * gd + gu * fd := by omega
  have q2 : fu * gd + gu * fd ≤ 4611686018427387904 := by omega
  have q3 : -4611686018427387904 ≤ fd * gd := by omega
  have q4 : fd * gd ≤ 4611686018427387904 := by omega
  have q5 : fd * gd ≠ 0 := by omega
  have q6 : -4611686018427387904 ≤ fu * gd := by omega
  have q7 : fu * gd ≤ 4611686018427387904 := by omega
  have q8 : -4611686018427387904 ≤ gu * fd := by omega
  have q9 : gu * fd ≤ 4611686018427387904 := by omega
  go_enter Try.func60, Try.ntmps60
  go_wp2_with fail
  obtain ⟨W, hW⟩ : ∃ W : World, W = (((w.alloc (.cells #[(Value.int .i64 fu), (Value.int .i64 fd)] 34)).alloc (.cells #[(Value.int .i64 gu), (Value.int .i64 gd)] 34)).alloc (.cells #[(Value.int .i64 0), (Value.int .i64 0)] 34)) := ⟨_, rfl⟩
  have hzW : W.heap.size = w.heap.size + 3 := by rw [hW]; simp
  have hbW : Below w.heap.size w W := by rw [hW]; exact (by repeat (first | exact Below.refl _ _ | assumption | exact bel1 (by assumption) | exact bel2 (by assumption) | exact bel3 (by assumption) | exact bel4 (by assumption) | refine Below.drew ?_ | refine below_drewN ?_ _ | refine Below.setCell ?_ (by first | (simp; done) | (simp; omega)) _ | refine Below.alloc ?_ (by first | (simp; done) | (simp; omega)) _))
  have r00 := stays (p := w.heap.size) (o := 0) (by omega) (show W.cell? ⟨w.heap.size, 0, none⟩ = some ((Value.int .i64 fu)) from by rw [hW]; simp [go_sem])
  have r01 := stays (p := w.heap.size) (o := 1) (by omega) (show W.cell? ⟨w.heap.size, 1, none⟩ = some ((Value.int .i64 fd)) from by rw [hW]; simp [go_sem])
  have r10 := stays (p := w.heap.size + 1) (o := 0) (by omega) (show W.cell? ⟨w.heap.size + 1, 0, none⟩ = some ((Value.int .i64 gu)) from by rw [hW]; simp [go_sem])
  have r11 := stays (p := w.heap.size + 1) (o := 1) (by omega) (show W.cell? ⟨w.heap.size + 1, 1, none⟩ = some ((Value.int .i64 gd)) from by rw [hW]; simp [go_sem])
  have r20 := stays (p := w.heap.size + 2) (o := 0) (by omega) (show W.cell? ⟨w.heap.size + 2, 0, none⟩ = some ((Value.int .i64 0)) from by rw [hW]; simp [go_sem])
  have g20 := staysF (p := w.heap.size + 2) (o := 0) (by omega) (show W.frozen? ⟨w.heap.size + 2, 0, none⟩ = false from by rw [hW]; simp [go_sem])
  have r21 := stays (p := w.heap.size + 2) (o := 1) (by omega) (show W.cell? ⟨w.heap.size + 2, 1, none⟩ = some ((Value.int .i64 0)) from by rw [hW]; simp [go_sem])
  have g21 := staysF (p := w.heap.size + 2) (o := 1) (by omega) (show W.frozen? ⟨w.heap.size + 2, 1, none⟩ = false from by rw [hW]; simp [go_sem])
  rw [← hW]
  clear hW
  have HzW := Lib.hid hzW
  clear hzW
  go_wp2_with (go_at_call 88; refine (fracOk_spec _ _ _).mono ?_; rintro e w1 ⟨rfl, hb1⟩; have hk := belT (by first | exact Below.refl W.heap.size _ | exact Below.drew (Below.refl W.heap.size _) | assumption) hb1)
  refine (l1frac _ _ q1 q2 q3 q4 q5 _).mono ?_
  rintro e w2 ⟨rfl, hb2⟩
  have hk2 := belT hk hb2
  go_wp2_with fail
  obtain ⟨W2, hW2⟩ : ∃ W2 : World, W2 = (w2.alloc (.cells #[(Value.int .i64 (lowU (fu * gd + gu * fd) (fd * gd))), (Value.int .i64 (lowD (fu * gd + gu * fd) (fd * gd)))] 34)) := ⟨_, rfl⟩
  have hzW2 : W2.heap.size = w2.heap.size + 1 := by rw [hW2]; simp
  have hbW2 : Below w2.heap.size w2 W2 := by rw [hW2]; exact (by repeat (first | exact Below.refl _ _ | assumption | exact bel1 (by assumption) | exact bel2 (by assumption) | exact bel3 (by assumption) | exact bel4 (by assumption) | refine Below.drew ?_ | refine below_drewN ?_ _ | refine Below.setCell ?_ (by first | (simp; done) | (simp; omega)) _ | refine Below.alloc ?_ (by first | (simp; done) | (simp; omega)) _))
  have s00 := stays (p := w2.heap.size) (o := 0) (by omega) (show W2.cell? ⟨w2.heap.size, 0, none⟩ = some ((Value.int .i64 (lowU (fu * gd + gu * fd) (fd * gd)))) from by rw [hW2]; simp [go_sem])
  have s01 := stays (p := w2.heap.size) (o := 1) (by omega) (show W2.cell? ⟨w2.heap.size, 1, none⟩ = some ((Value.int .i64 (lowD (fu * gd + gu * fd) (fd * gd)))) from by rw [hW2]; simp [go_sem])
  rw [← hW2]
  clear hW2
  have HzW2 := Lib.hid hzW2
  clear hzW2
  refine (fracOk_spec _ _ _).mono ?_
  rintro e w3 ⟨rfl, hb3⟩
  have hk3 := belT (belT hk2 hbW2) hb3
  have hk4 := belT hbW hk3
  go_wp2_with fail
  refine bodyPost_ret (v := .tuple #[.agg #[.int .i64 (lowU (fu * gd + gu * fd) (fd * gd)), .int .i64 (lowD (fu * gd + gu * fd) (fd * gd))], .bool true]) (by simp [results, Try.results60, go_sem, r20 _ hk3, r21 _ hk3]) rfl ⟨rfl, by repeat (first | exact Below.refl _ _ | assumption | exact bel1 (by assumption) | exact bel2 (by assumption) | exact bel3 (by assumption) | exact bel4 (by assumption) | refine Below.drew ?_ | refine below_drewN ?_ _ | refine Below.setCell ?_ (by first | (simp; done) | (simp; omega)) _ | refine Below.alloc ?_ (by first | (simp; done) | (simp; omega)) _)⟩

set_option maxHeartbeats 1000000 in
theorem plusOf_no3_spec (fu fd gu gd : Int) (hf : okB fu fd = true) (hg : okB gu gd = true) (hp : plB fu fd gu gd = false) (w : World) :
    Calls Try.prog 60 #[.agg #[.int .i64 fu, .int .i64 fd], .agg #[.int .i64 gu, .int .i64 gd]] w fun e w' => e = .returned (.tuple #[.agg #[.int .i64 0, .int .i64 0], .bool false]) ∧ Below w.heap.size w w' := by
  obtain ⟨a1, a2, a3, a4, _⟩ := okB_iff.1 hf
  obtain ⟨b1, b2, b3, b4, _⟩ := okB_iff.1 hg
  have m1 := mul_in a1 a2 (show 0 ≤ gd by omega) b4
  have m2 := mul_in b1 b2 (show 0 ≤ fd by omega) a4
  have m3 := mul_in (show -1000000000 ≤ fd by omega) a4 (show 0 ≤ gd by omega) b4
  have m4 := mul_pos a3 b3
  have hB := plB_ok hf hg
  rw [hp] at hB
  have i1 : okB (lowU (fu * gd + gu * fd) (fd * gd)) (lowD (fu * gd + gu * fd) (fd * gd)) = false := hB
  clear hB
  have q1 : -4611686018427387904 ≤ fu * gd + gu * fd := by omega
  have q2 : fu * gd + gu * fd ≤ 4611686018427387904 := by omega
  have q3 : -4611686018427387904 ≤ fd * gd := by omega
  have q4 : fd * gd ≤ 4611686018427387904 := by omega
  have q5 : fd * gd ≠ 0 := by omega
  have q6 : -4611686018427387904 ≤ fu * gd := by omega
  have q7 : fu * gd ≤ 4611686018427387904 := by omega
  have q8 : -4611686018427387904 ≤ gu * fd := by omega
  have q9 : gu * fd ≤ 4611686018427387904 := by omega
  go_enter Try.func60, Try.ntmps60
  go_wp2_with fail
  obtain ⟨W, hW⟩ : ∃ W : World, W = (((w.alloc (.cells #[(Value.int .i64 fu), (Value.int .i64 fd)] 34)).alloc (.cells #[(Value.int .i64 gu), (Value.int .i64 gd)] 34)).alloc (.cells #[(Value.int .i64 0), (Value.int .i64 0)] 34)) := ⟨_, rfl⟩
  have hzW : W.heap.size = w.heap.size + 3 := by rw [hW]; simp
  have hbW : Below w.heap.size w W := by rw [hW]; exact (by repeat (first | exact Below.refl _ _ | assumption | exact bel1 (by assumption) | exact bel2 (by assumption) | exact bel3 (by assumption) | exact bel4 (by assumption) | refine Below.drew ?_ | refine below_drewN ?_ _ | refine Below.setCell ?_ (by first | (simp; done) | (simp; omega)) _ | refine Below.alloc ?_ (by first | (simp; done) | (simp; omega)) _))
  have r00 := stays (p := w.heap.size) (o := 0) (by omega) (show W.cell? ⟨w.heap.size, 0, none⟩ = some ((Value.int .i64 fu)) from by rw [hW]; simp [go_sem])
  have r01 := stays (p := w.heap.size) (o := 1) (by omega) (show W.cell? ⟨w.heap.size, 1, none⟩ = some ((Value.int .i64 fd)) from by rw [hW]; simp [go_sem])
  have r10 := stays (p := w.heap.size + 1) (o := 0) (by omega) (show W.cell? ⟨w.heap.size + 1, 0, none⟩ = some ((Value.int .i64 gu)) from by rw [hW]; simp [go_sem])
  have r11 := stays (p := w.heap.size + 1) (o := 1) (by omega) (show W.cell? ⟨w.heap.size + 1, 1, none⟩ = some ((Value.int .i64 gd)) from by rw [hW]; simp [go_sem])
  have r20 := stays (p := w.heap.size + 2) (o := 0) (by omega) (show W.cell? ⟨w.heap.size + 2, 0, none⟩ = some ((Value.int .i64 0)) from by rw [hW]; simp [go_sem])
  have g20 := staysF (p := w.heap.size + 2) (o := 0) (by omega) (show W.frozen? ⟨w.heap.size + 2, 0, none⟩ = false from by rw [hW]; simp [go_sem])
  have r21 := stays (p := w.heap.size + 2) (o := 1) (by omega) (show W.cell? ⟨w.heap.size + 2, 1, none⟩ = some ((Value.int .i64 0)) from by rw [hW]; simp [go_sem])
  have g21 := staysF (p := w.heap.size + 2) (o := 1) (by omega) (show W.frozen? ⟨w.heap.size + 2, 1, none⟩ = false from by rw [hW]; simp [go_sem])
  rw [← hW]
  clear hW
  have HzW := Lib.hid hzW
  clear hzW
  go_wp2_with (go_at_call 88; refine (fracOk_spec _ _ _).mono ?_; rintro e w1 ⟨rfl, hb1⟩; have hk := belT (by first | exact Below.refl W.heap.size _ | exact Below.drew (Below.refl W.heap.size _) | assumption) hb1)
  refine (l1frac _ _ q1 q2 q3 q4 q5 _).mono ?_
  rintro e w2 ⟨rfl, hb2⟩
  have hk2 := belT hk hb2
  go_wp2_with fail
  obtain ⟨W2, hW2⟩ : ∃ W2 : World, W2 = (w2.alloc (.cells #[(Value.int .i64 (lowU (fu * gd + gu * fd) (fd * gd))), (Value.int .i64 (lowD (fu * gd + gu * fd) (fd * gd)))] 34)) := ⟨_, rfl⟩
  have hzW2 : W2.heap.size = w2.heap.size + 1 := by rw [hW2]; simp
  have hbW2 : Below w2.heap.size w2 W2 := by rw [hW2]; exact (by repeat (first | exact Below.refl _ _ | assumption | exact bel1 (by assumption) | exact bel2 (by assumption) | exact bel3 (by assumption) | exact bel4 (by assumption) | refine Below.drew ?_ | refine below_drewN ?_ _ | refine Below.setCell ?_ (by first | (simp; done) | (simp; omega)) _ | refine Below.alloc ?_ (by first | (simp; done) | (simp; omega)) _))
  have s00 := stays (p := w2.heap.size) (o := 0) (by omega) (show W2.cell? ⟨w2.heap.size, 0, none⟩ = some ((Value.int .i64 (lowU (fu * gd + gu * fd) (fd * gd)))) from by rw [hW2]; simp [go_sem])
  have s01 := stays (p := w2.heap.size) (o := 1) (by omega) (show W2.cell? ⟨w2.heap.size, 1, none⟩ = some ((Value.int .i64 (lowD (fu * gd + gu * fd) (fd * gd)))) from by rw [hW2]; simp [go_sem])
  rw [← hW2]
  clear hW2
  have HzW2 := Lib.hid hzW2
  clear hzW2
  refine (fracOk_spec _ _ _).mono ?_
  rintro e w3 ⟨rfl, hb3⟩
  have hk3 := belT (belT hk2 hbW2) hb3
  have hk4 := belT hbW hk3
  go_wp2_with fail
  refine bodyPost_ret (v := .tuple #[.agg #[.int .i64 0, .int .i64 0], .bool false]) (by simp [results, Try.results60, go_sem, r20 _ hk3, r21 _ hk3]) rfl ⟨rfl, by repeat (first | exact Below.refl _ _ | assumption | exact bel1 (by assumption) | exact bel2 (by assumption) | exact bel3 (by assumption) | exact bel4 (by assumption) | refine Below.drew ?_ | refine below_drewN ?_ _ | refine Below.setCell ?_ (by first | (simp; done) | (simp; omega)) _ | refine Below.alloc ?_ (by first | (simp; done) | (simp; omega)) _)⟩

theorem fracOk_impl_v (u d : Int) (b : Bool) (h : okB u d = b) (w : World) :
    Calls Try.prog 45 #[.agg #[.int .i64 u, .int .i64 d]] w fun e w' => e = .returned (.bool b) ∧ Below w.heap.size w w' := by
  subst h; exact fracOk_impl u d w

/-- is it less? -/
def lessB (fu fd gu gd : Int) : Bool := okB fu fd && okB gu gd && decide (fu * gd < gu * fd)

theorem lessB_ok {fu fd gu gd : Int} (hf : okB fu fd = true) (hg : okB gu gd = true) : lessB fu fd gu gd = decide (fu * gd < gu * fd) := by simp [lessB, hf, hg]

set_option maxHeartbeats 1000000 in
theorem less_no1_impl (fu fd gu gd : Int) (hf : okB fu fd = false) (w : World) :
    Calls Try.prog 20 #[.agg #[.int .i64 fu, .int .i64 fd], .agg #[.int .i64 gu, .int .i64 gd]] w fun e w' => e = .returned (.bool (lessB fu fd gu gd)) ∧ Below w.heap.size w w' := by
  have hfin : lessB fu fd gu gd = false := by simp [lessB, hf]
  have Hf := Lib.hid hfin
  clear hfin
  go_enter Try.func20, Try.ntmps20
  go_wp2_with fail
  obtain ⟨W, hW⟩ : ∃ W : World, W = ((w.alloc (.cells #[(Value.int .i64 fu), (Value.int .i64 fd)] 34)).alloc (.cells #[(Value.int .i64 gu), (Value.int .i64 gd)] 34)) := ⟨_, rfl⟩
  have hzW : W.heap.size = w.heap.size + 2 := by rw [hW]; simp
  have hbW : Below w.heap.size w W := by rw [hW]; exact (by repeat (first | exact Below.refl _ _ | assumption | exact bel1 (by assumption) | exact bel2 (by assumption) | exact bel3 (by assumption) | exact bel4 (by assumption) | refine Below.drew ?_ | refine below_drewN ?_ _ | refine Below.setCell ?_ (by first | (simp; done) | (simp; omega)) _ | refine Below.alloc ?_ (by first | (simp; done) | (simp; omega)) _))
  have r00 := stays (p := w.heap.size) (o := 0) (by omega) (show W.cell? ⟨w.heap.size, 0, none⟩ = some ((Value.int .i64 fu)) from by rw [hW]; simp [go_sem])
  have r01 := stays (p := w.heap.size) (o := 1) (by omega) (show W.cell? ⟨w.heap.size, 1, none⟩ = some ((Value.int .i64 fd)) from by rw [hW]; simp [go_sem])
  have r10 := stays (p := w.heap.size + 1) (o := 0) (by omega) (show W.cell? ⟨w.heap.size + 1, 0, none⟩ = some ((Value.int .i64 gu)) from by rw [hW]; simp [go_sem])
  have r11 := stays (p := w.heap.size + 1) (o := 1) (by omega) (show W.cell? ⟨w.heap.size + 1, 1, none⟩ = some ((Value.int .i64 gd)) from by rw [hW]; simp [go_sem])
  rw [← hW]
  clear hW
  have HzW := Lib.hid hzW
  clear hzW
  go_wp2_with (go_at_call 45; refine (fracOk_impl _ _ _).mono ?_; rintro e w1 ⟨rfl, hb1⟩; have hk := belT (by first | exact Below.refl W.heap.size _ | exact Below.drew (Below.refl W.heap.size _) | assumption) hb1)
  have hk2 := belT hbW hk
  go_ret
  exact ⟨by simp [Hf.out], by repeat (first | exact Below.refl _ _ | assumption | exact bel1 (by assumption) | exact bel2 (by assumption) | exact bel3 (by assumption) | exact bel4 (by assumption) | refine Below.drew ?_ | refine below_drewN ?_ _ | refine Below.setCell ?_ (by first | (simp; done) | (simp; omega)) _ | refine Below.alloc ?_ (by first | (simp; done) | (simp; omega)) _)⟩

set_option maxHeartbeats 1000000 in
theorem less_no2_impl (fu fd gu gd : Int) (hf : okB fu fd = true) (hg : okB gu gd = false) (w : World) :
    Calls Try.prog 20 #[.agg #[.int .i64 fu, .int .i64 fd], .agg #[.int .i64 gu, .int .i64 gd]] w fun e w' => e = .returned (.bool (lessB fu fd gu gd)) ∧ Below w.heap.size w w' := by
  have hfin : lessB fu fd gu gd = false := by simp [lessB, hg]
  have Hf := Lib.hid hfin
  clear hfin
  go_enter Try.func20, Try.ntmps20
  go_wp2_with fail
  obtain ⟨W, hW⟩ : ∃ W : World, W = ((w.alloc (.cells #[(Value.int .i64 fu), (Value.int .i64 fd)] 34)).alloc (.cells #[(Value.int .i64 gu), (Value.int .i64 gd)] 34)) := ⟨_, rfl⟩
  have hzW : W.heap.size = w.heap.size + 2 := by rw [hW]; simp
  have hbW : Below w.heap.size w W := by rw [hW]; exact (by repeat (first | exact Below.refl _ _ | assumption | exact bel1 (by assumption) | exact bel2 (by assumption) | exact bel3 (by assumption) | exact bel4 (by assumption) | refine Below.drew ?_ | refine below_drewN ?_ _ | refine Below.setCell ?_ (by first | (simp; done) | (simp; omega)) _ | refine Below.alloc ?_ (by first | (simp; done) | (simp; omega)) _))
  have r00 := stays (p := w.heap.size) (o := 0) (by omega) (show W.cell? ⟨w.heap.size, 0, none⟩ = some ((Value.int .i64 fu)) from by rw [hW]; simp [go_sem])
  have r01 := stays (p := w.heap.size) (o := 1) (by omega) (show W.cell? ⟨w.heap.size, 1, none⟩ = some ((Value.int .i64 fd)) from by rw [hW]; simp [go_sem])
  have r10 := stays (p := w.heap.size + 1) (o := 0) (by omega) (show W.cell? ⟨w.heap.size + 1, 0, none⟩ = some ((Value.int .i64 gu)) from by rw [hW]; simp [go_sem])
  have r11 := stays (p := w.heap.size + 1) (o := 1) (by omega) (show W.cell? ⟨w.heap.size + 1, 1, none⟩ = some ((Value.int .i64 gd)) from by rw [hW]; simp [go_sem])
  rw [← hW]
  clear hW
  have HzW := Lib.hid hzW
  clear hzW
  go_wp2_with (go_at_call 45; refine (fracOk_impl _ _ _).mono ?_; rintro e w1 ⟨rfl, hb1⟩; have hk := belT (by first | exact Below.refl W.heap.size _ | exact Below.drew (Below.refl W.heap.size _) | assumption) hb1)
  have hk2 := belT hbW hk
  go_ret
  exact ⟨by simp [Hf.out], by repeat (first | exact Below.refl _ _ | assumption | exact bel1 (by assumption) | exact bel2 (by assumption) | exact bel3 (by assumption) | exact bel4 (by assumption) | refine Below.drew ?_ | refine below_drewN ?_ _ | refine Below.setCell ?_ (by first | (simp; done) | (simp; omega)) _ | refine Below.alloc ?_ (by first | (simp; done) | (simp; omega)) _)⟩

set_option maxHeartbeats 1000000 in
theorem less_yes_impl (fu fd gu gd : Int) (hf : okB fu fd = true) (hg : okB gu gd = true) (w : World) :
    Calls Try.prog 20 #[.agg #[.int .i64 fu, .int .i64 fd], .agg #[.int .i64 gu, .int .i64 gd]] w fun e w' => e = .returned (.bool (lessB fu fd gu gd)) ∧ Below w.heap.size w w' := by
  have hfin := lessB_ok hf hg
  have Hf := Lib.hid hfin
  clear hfin
  obtain ⟨a1, a2, a3, a4, _⟩ := okB_iff.1 hf
  obtain ⟨b1, b2, b3, b4, _⟩ := okB_iff.1 hg
  have m1 := mul_in a1 a2 (show 0 ≤ gd by omega) b4
  have m2 := mul_in b1 b2 (show 0 ≤ fd by omega) a4
  have m3 := mul_in (show -1000000000 ≤ fd by omega) a4 (show 0 ≤ gd by omega) b4
  have m4 := mul_pos a3 b3
  have q1 : -4611686018427387904 ≤ fu * gd + gu * fd := by omega
  have q2 : fu * gd + gu * fd ≤ 4611686018427387904 := by omega
  have q3 : -4611686018427387904 ≤ fd * gd := by omega
  have q4 : fd * gd ≤ 4611686018427387904 := by omega
  have q5 : fd * gd ≠ 0 := by omega
  have q6 : -4611686018427387904 ≤ fu * gd := by omega
  have q7 : fu * gd ≤ 4611686018427387904 := by omega
  have q8 : -4611686018427387904 ≤ gu * fd := by omega
  have q9 : gu * fd ≤ 4611686018427387904 := by omega
  go_enter Try.func20, Try.ntmps20
  go_wp2_with fail
  obtain ⟨W, hW⟩ : ∃ W : World, W = ((w.alloc (.cells #[(Value.int .i64 fu), (Value.int .i64 fd)] 34)).alloc (.cells #[(Value.int .i64 gu), (Value.int .i64 gd)] 34)) := ⟨_, rfl⟩
  have hzW : W.heap.size = w.heap.size + 2 := by rw [hW]; simp
  have hbW : Below w.heap.size w W := by rw [hW]; exact (by repeat (first | exact Below.refl _ _ | assumption | exact bel1 (by assumption) | exact bel2 (by assumption) | exact bel3 (by assumption) | exact bel4 (by assumption) | refine Below.drew ?_ | refine below_drewN ?_ _ | refine Below.setCell ?_ (by first | (simp; done) | (simp; omega)) _ | refine Below.alloc ?_ (by first | (simp; done) | (simp; omega)) _))
  have r00 := stays (p := w.heap.size) (o := 0) (by omega) (show W.cell? ⟨w.heap.size, 0, none⟩ = some ((Value.int .i64 fu)) from by rw [hW]; simp [go_sem])
  have r01 := stays (p := w.heap.size) (o := 1) (by omega) (show W.cell? ⟨w.heap.size, 1, none⟩ = some ((Value.int .i64 fd)) from by rw [hW]; simp [go_sem])
  have r10 := stays (p := w.heap.size + 1) (o := 0) (by omega) (show W.cell? ⟨w.heap.size + 1, 0, none⟩ = some ((Value.int .i64 gu)) from by rw [hW]; simp [go_sem])
  have r11 := stays (p := w.heap.size + 1) (o := 1) (by omega) (show W.cell? ⟨w.heap.size + 1, 1, none⟩ = some ((Value.int .i64 gd)) from by rw [hW]; simp [go_sem])
  rw [← hW]
  clear hW
  have HzW := Lib.hid hzW
  clear hzW
  go_wp2_with (first | (go_at_call 45; refine (fracOk_impl _ _ _).mono ?_; rintro e w1 ⟨rfl, hb1⟩; have hk := belT (by first | exact Below.refl W.heap.size _ | exact Below.drew (Below.refl W.heap.size _) | assumption) hb1) | (go_at_call 50; refine (less _ _ _ _ q6 q7 q8 q9 _).mono ?_; rintro e w1 ⟨rfl, hb1⟩; have hk := belT (by first | exact Below.refl W.heap.size _ | exact Below.drew (Below.refl W.heap.size _) | assumption) hb1))
  have hk2 := belT hbW hk
  go_ret
  exact ⟨by simp [Hf.out], by repeat (first | exact Below.refl _ _ | assumption | exact bel1 (by assumption) | exact bel2 (by assumption) | exact bel3 (by assumption) | exact bel4 (by assumption) | refine Below.drew ?_ | refine below_drewN ?_ _ | refine Below.setCell ?_ (by first | (simp; done) | (simp; omega)) _ | refine Below.alloc ?_ (by first | (simp; done) | (simp; omega)) _)⟩

set_option maxHeartbeats 1000000 in
theorem less_no1_spec (fu fd gu gd : Int) (hf : okB fu fd = false) (w : World) :
    Calls Try.prog 62 #[.agg #[.int .i64 fu, .int .i64 fd], .agg #[.int .i64 gu, .int .i64 gd]] w fun e w' => e = .returned (.bool (lessB fu fd gu gd)) ∧ Below w.heap.size w w' := by
  have hfin : lessB fu fd gu gd = false := by simp [lessB, hf]
  have Hf := Lib.hid hfin
  clear hfin
  go_enter Try.func62, Try.ntmps62
  go_wp2_with fail
  obtain ⟨W, hW⟩ : ∃ W : World, W = ((w.alloc (.cells #[(Value.int .i64 fu), (Value.int .i64 fd)] 34)).alloc (.cells #[(Value.int .i64 gu), (Value.int .i64 gd)] 34)) := ⟨_, rfl⟩
  have hzW : W.heap.size = w.heap.size + 2 := by rw [hW]; simp
  have hbW : Below w.heap.size w W := by rw [hW]; exact (by repeat (first | exact Below.refl _ _ | assumption | exact bel1 (by assumption) | exact bel2 (by assumption) | exact bel3 (by assumption) | exact bel4 (by assumption) | refine Below.drew ?_ | refine below_drewN ?_ _ | refine Below.setCell ?_ (by first | (simp; done) | (simp; omega)) _ | refine Below.alloc ?_ (by first | (simp; done) | (simp; omega)) _))
  have r00 := stays (p := w.heap.size) (o := 0) (by omega) (show W.cell? ⟨w.heap.size, 0, none⟩ = some ((Value.int .i64 fu)) from by rw [hW]; simp [go_sem])
  have r01 := stays (p := w.heap.size) (o := 1) (by omega) (show W.cell? ⟨w.heap.size, 1, none⟩ = some ((Value.int .i64 fd)) from by rw [hW]; simp [go_sem])
  have r10 := stays (p := w.heap.size + 1) (o := 0) (by omega) (show W.cell? ⟨w.heap.size + 1, 0, none⟩ = some ((Value.int .i64 gu)) from by rw [hW]; simp [go_sem])
  have r11 := stays (p := w.heap.size + 1) (o := 1) (by omega) (show W.cell? ⟨w.heap.size + 1, 1, none⟩ = some ((Value.int .i64 gd)) from by rw [hW]; simp [go_sem])
  rw [← hW]
  clear hW
  have HzW := Lib.hid hzW
  clear hzW
  go_wp2_with (go_at_call 88; refine (fracOk_spec _ _ _).mono ?_; rintro e w1 ⟨rfl, hb1⟩; have hk := belT (by first | exact Below.refl W.heap.size _ | exact Below.drew (Below.refl W.heap.size _) | assumption) hb1)
  have hk2 := belT hbW hk
  go_ret
  exact ⟨by simp [Hf.out], by repeat (first | exact Below.refl _ _ | assumption | exact bel1 (by assumption) | exact bel2 (by assumption) | exact bel3 (by assumption) | exact bel4 (by assumption) | refine Below.drew ?_ | refine below_drewN ?_ _ | refine Below.setCell ?_ (by first | (simp; done) | (simp; omega)) _ | refine Below.alloc ?_ (by first | (simp; done) | (simp; omega)) _)⟩

set_option maxHeartbeats 1000000 in
theorem less_no2_spec (fu fd gu gd : Int) (hf : okB fu fd = true) (hg : okB gu gd = false) (w : World) :
    Calls Try.prog 62 #[.agg #[.int .i64 fu, .int .i64 fd], .agg #[.int .i64 gu, .int .i64 gd]] w fun e w' => e = .returned (.bool (lessB fu fd gu gd)) ∧ Below w.heap.size w w' := by
  have hfin : lessB fu fd gu gd = false := by simp [lessB, hg]
  have Hf := Lib.hid hfin
  clear hfin
  go_enter Try.func62, Try.ntmps62
  go_wp2_with fail
  obtain ⟨W, hW⟩ : ∃ W : World, W = ((w.alloc (.cells #[(Value.int .i64 fu), (Value.int .i64 fd)] 34)).alloc (.cells #[(Value.int .i64 gu), (Value.int .i64 gd)] 34)) := ⟨_, rfl⟩
  have hzW : W.heap.size = w.heap.size + 2 := by rw [hW]; simp
  have hbW : Below w.heap.size w W := by rw [hW]; exact (by repeat (first | exact Below.refl _ _ | assumption | exact bel1 (by assumption) | exact bel2 (by assumption) | exact bel3 (by assumption) | exact bel4 (by assumption) | refine Below.drew ?_ | refine below_drewN ?_ _ | refine Below.setCell ?_ (by first | (simp; done) | (simp; omega)) _ | refine Below.alloc ?_ (by first | (simp; done) | (simp; omega)) _))
  have r00 := stays (p := w.heap.size) (o := 0) (by omega) (show W.cell? ⟨w.heap.size, 0, none⟩ = some ((Value.int .i64 fu)) from by rw [hW]; simp [go_sem])
  have r01 := stays (p := w.heap.size) (o := 1) (by omega) (show W.cell? ⟨w.heap.size, 1, none⟩ = some ((Value.int .i64 fd)) from by rw [hW]; simp [go_sem])
  have r10 := stays (p := w.heap.size + 1) (o := 0) (by omega) (show W.cell? ⟨w.heap.size + 1, 0, none⟩ = some ((Value.int .i64 gu)) from by rw [hW]; simp [go_sem])
  have r11 := stays (p := w.heap.size + 1) (o := 1) (by omega) (show W.cell? ⟨w.heap.size + 1, 1, none⟩ = some ((Value.int .i64 gd)) from by rw [hW]; simp [go_sem])
  rw [← hW]
  clear hW
  have HzW := Lib.hid hzW
  clear hzW
  go_wp2_with (go_at_call 88; refine (fracOk_spec _ _ _).mono ?_; rintro e w1 ⟨rfl, hb1⟩; have hk := belT (by first | exact Below.refl W.heap.size _ | exact Below.drew (Below.refl W.heap.size _) | assumption) hb1)
  have hk2 := belT hbW hk
  go_ret
  exact ⟨by simp [Hf.out], by repeat (first | exact Below.refl _ _ | assumption | exact bel1 (by assumption) | exact bel2 (by assumption) | exact bel3 (by assumption) | exact bel4 (by assumption) | refine Below.drew ?_ | refine below_drewN ?_ _ | refine Below.setCell ?_ (by first | (simp; done) | (simp; omega)) _ | refine Below.alloc ?_ (by first | (simp; done) | (simp; omega)) _)⟩

set_option maxHeartbeats 1000000 in
theorem less_yes_spec (fu fd gu gd : Int) (hf : okB fu fd = true) (hg : okB gu gd = true) (w : World) :
    Calls Try.prog 62 #[.agg #[.int .i64 fu, .int .i64 fd], .agg #[.int .i64 gu, .int .i64 gd]] w fun e w' => e = .returned (.bool (lessB fu fd gu gd)) ∧ Below w.heap.size w w' := by
  have hfin := lessB_ok hf hg
  have Hf := Lib.hid hfin
  clear hfin
  obtain ⟨a1, a2, a3, a4, _⟩ := okB_iff.1 hf
  obtain ⟨b1, b2, b3, b4, _⟩ := okB_iff.1 hg
  have m1 := mul_in a1 a2 (show 0 ≤ gd by omega) b4
  have m2 := mul_in b1 b2 (show 0 ≤ fd by omega) a4
  have m3 := mul_in (show -1000000000 ≤ fd by omega) a4 (show 0 ≤ gd by omega) b4
  have m4 := mul_pos a3 b3
  have q1 : -4611686018427387904 ≤ fu * gd + gu * fd := by omega
  have q2 : fu * gd + gu * fd ≤ 4611686018427387904 := by omega
  have q3 : -4611686018427387904 ≤ fd * gd := by omega
  have q4 : fd * gd ≤ 4611686018427387904 := by omega
  have q5 : fd * gd ≠ 0 := by omega
  have q6 : -4611686018427387904 ≤ fu * gd := by omega
  have q7 : fu * gd ≤ 4611686018427387904 := by omega
  have q8 : -4611686018427387904 ≤ gu * fd := by omega
  have q9 : gu * fd ≤ 4611686018427387904 := by omega
  go_enter Try.func62, Try.ntmps62
  go_wp2_with fail
  obtain ⟨W, hW⟩ : ∃ W : World, W = ((w.alloc (.cells #[(Value.int .i64 fu), (Value.int .i64 fd)] 34)).alloc (.cells #[(Value.int .i64 gu), (Value.int .i64 gd)] 34)) := ⟨_, rfl⟩
  have hzW : W.heap.size = w.heap.size + 2 := by rw [hW]; simp
  have hbW : Below w.heap.size w W := by rw [hW]; exact (by repeat (first | exact Below.refl _ _ | assumption | exact bel1 (by assumption) | exact bel2 (by assumption) | exact bel3 (by assumption) | exact bel4 (by assumption) | refine Below.drew ?_ | refine below_drewN ?_ _ | refine Below.setCell ?_ (by first | (simp; done) | (simp; omega)) _ | refine Below.alloc ?_ (by first | (simp; done) | (simp; omega)) _))
  have r00 := stays (p := w.heap.size) (o := 0) (by omega) (show W.cell? ⟨w.heap.size, 0, none⟩ = some ((Value.int .i64 fu)) from by rw [hW]; simp [go_sem])
  have r01 := stays (p := w.heap.size) (o := 1) (by omega) (show W.cell? ⟨w.heap.size, 1, none⟩ = some ((Value.int .i64 fd)) from by rw [hW]; simp [go_sem])
  have r10 := stays (p := w.heap.size + 1) (o := 0) (by omega) (show W.cell? ⟨w.heap.size + 1, 0, none⟩ = some ((Value.int .i64 gu)) from by rw [hW]; simp [go_sem])
  have r11 := stays (p := w.heap.size + 1) (o := 1) (by omega) (show W.cell? ⟨w.heap.size + 1, 1, none⟩ = some ((Value.int .i64 gd)) from by rw [hW]; simp [go_sem])
  rw [← hW]
  clear hW
  have HzW := Lib.hid hzW
  clear hzW
  go_wp2_with (go_at_call 88; refine (fracOk_spec _ _ _).mono ?_; rintro e w1 ⟨rfl, hb1⟩; have hk := belT (by first | exact Below.refl W.heap.size _ | exact Below.drew (Below.refl W.heap.size _) | assumption) hb1)
  have hk2 := belT hbW hk
  go_ret
  exact ⟨by simp [Hf.out], by repeat (first | exact Below.refl _ _ | assumption | exact bel1 (by assumption) | exact bel2 (by assumption) | exact bel3 (by assumption) | exact bel4 (by assumption) | refine Below.drew ?_ | refine below_drewN ?_ _ | refine Below.setCell ?_ (by first | (simp; done) | (simp; omega)) _ | refine Below.alloc ?_ (by first | (simp; done) | (simp; omega)) _)⟩

end Go.Proofs.Ytakkdpjgdmngkaa

namespace Go.Proofs.Ytakkdpjgdmngkaa
set_option linter.unusedSimpArgs false
set_option linter.unusedVariables false
open Go.RowKit

def ofD (u d : Int) : Int := if ofB u d = true then lowD u d else 0

def mnU (u d : Int) : Int := if okB u d = true then -u else 0

def mnD (u d : Int) : Int := if okB u d = true then d else 0

def psB (fu fd gu gd : Int) : Bool := okB fu fd && okB gu gd && plB fu fd gu gd

def psU (fu fd gu gd : Int) : Int := if psB fu fd gu gd = true then plU fu fd gu gd else 0

def psD (fu fd gu gd : Int) : Int := if psB fu fd gu gd = true then plD fu fd gu gd else 0

theorem minus_impl (u d : Int) (w : World) :
    Calls Try.prog 84 #[.agg #[.int .i64 u, .int .i64 d]] w fun e w' => e = .returned (.agg #[.int .i64 (mnU u d), .int .i64 (mnD u d)]) ∧ Below w.heap.size w w' := by
  rcases h : okB u d with _ | _
  · have e1 : mnU u d = 0 := by simp [mnU, h]
    have e2 : mnD u d = 0 := by simp [mnD, h]
    rw [e1, e2]; exact minus_no_impl u d h w
  · have e1 : mnU u d = -u := by simp [mnU, h]
    have e2 : mnD u d = d := by simp [mnD, h]
    rw [e1, e2]; exact minus_yes_impl u d h w

theorem plus_impl (fu fd gu gd : Int) (w : World) :
    Calls Try.prog 83 #[.agg #[.int .i64 fu, .int .i64 fd], .agg #[.int .i64 gu, .int .i64 gd]] w fun e w' => e = .returned (.tuple #[.agg #[.int .i64 (psU fu fd gu gd), .int .i64 (psD fu fd gu gd)], .bool (psB fu fd gu gd)]) ∧ Below w.heap.size w w' := by
  rcases h1 : okB fu fd with _ | _
  · have e0 : psB fu fd gu gd = false := by simp [psB, h1]
    have e1 : psU fu fd gu gd = 0 := by simp [psU, e0]
    have e2 : psD fu fd gu gd = 0 := by simp [psD, e0]
    rw [e0, e1, e2]; exact plusOf_no1_impl fu fd gu gd h1 w
  rcases h2 : okB gu gd with _ | _
  · have e0 : psB fu fd gu gd = false := by simp [psB, h2]
    have e1 : psU fu fd gu gd = 0 := by simp [psU, e0]
    have e2 : psD fu fd gu gd = 0 := by simp [psD, e0]
    rw [e0, e1, e2]; exact plusOf_no2_impl fu fd gu gd h1 h2 w
  rcases h3 : plB fu fd gu gd with _ | _
  · have e0 : psB fu fd gu gd = false := by simp [psB, h3]
    have e1 : psU fu fd gu gd = 0 := by simp [psU, e0]
    have e2 : psD fu fd gu gd = 0 := by simp [psD, e0]
    rw [e0, e1, e2]; exact plusOf_no3_impl fu fd gu gd h1 h2 h3 w
  · have e0 : psB fu fd gu gd = true := by simp [psB, h1, h2, h3]
    have e1 : psU fu fd gu gd = plU fu fd gu gd := by simp [psU, e0]
    have e2 : psD fu fd gu gd = plD fu fd gu gd := by simp [psD, e0]
    rw [e0, e1, e2]; exact plusOf_yes_impl fu fd gu gd h1 h2 h3 w

theorem less_impl (fu fd gu gd : Int) (w : World) :
    Calls Try.prog 20 #[.agg #[.int .i64 fu, .int .i64 fd], .agg #[.int .i64 gu, .int .i64 gd]] w fun e w' => e = .returned (.bool (lessB fu fd gu gd)) ∧ Below w.heap.size w w' := by
  rcases h1 : okB fu fd with _ | _
  · exact less_no1_impl fu fd gu gd h1 w
  rcases h2 : okB gu gd with _ | _
  · exact less_no2_impl fu fd gu gd h1 h2 w
  · exact less_yes_impl fu fd gu gd h1 h2 w

theorem minus_spec (u d : Int) (w : World) :
    Calls Try.prog 61 #[.agg #[.int .i64 u, .int .i64 d]] w fun e w' => e = .returned (.agg #[.int .i64 (mnU u d), .int .i64 (mnD u d)]) ∧ Below w.heap.size w w' := by
  rcases h : okB u d with _ | _
  · have e1 : mnU u d = 0 := by simp [mnU, h]
    have e2 : mnD u d = 0 := by simp [mnD, h]
    rw [e1, e2]; exact minus_no_spec u d h w
  · have e1 : mnU u d = -u := by simp [mnU, h]
    have e2 : mnD u d = d := by simp [mnD, h]
    rw [e1, e2]; exact minus_yes_spec u d h w

theorem plus_spec (fu fd gu gd : Int) (w : World) :
    Calls Try.prog 60 #[.agg #[.int .i64 fu, .int .i64 fd], .agg #[.int .i64 gu, .int .i64 gd]] w fun e w' => e = .returned (.tuple #[.agg #[.int .i64 (psU fu fd gu gd), .int .i64 (psD fu fd gu gd)], .bool (psB fu fd gu gd)]) ∧ Below w.heap.size w w' := by
  rcases h1 : okB fu fd with _ | _
  · have e0 : psB fu fd gu gd = false := by simp [psB, h1]
    have e1 : psU fu fd gu gd = 0 := by simp [psU, e0]
    have e2 : psD fu fd gu gd = 0 := by simp [psD, e0]
    rw [e0, e1, e2]; exact plusOf_no1_spec fu fd gu gd h1 w
  rcases h2 : okB gu gd with _ | _
  · have e0 : psB fu fd gu gd = false := by simp [psB, h2]
    have e1 : psU fu fd gu gd = 0 := by simp [psU, e0]
    have e2 : psD fu fd gu gd = 0 := by simp [psD, e0]
    rw [e0, e1, e2]; exact plusOf_no2_spec fu fd gu gd h1 h2 w
  rcases h3 : plB fu fd gu gd with _ | _
  · have e0 : psB fu fd gu gd = false := by simp [psB, h3]
    have e1 : psU fu fd gu gd = 0 := by simp [psU, e0]
    have e2 : psD fu fd gu gd = 0 := by simp [psD, e0]
    rw [e0, e1, e2]; exact plusOf_no3_spec fu fd gu gd h1 h2 h3 w
  · have e0 : psB fu fd gu gd = true := by simp [psB, h1, h2, h3]
    have e1 : psU fu fd gu gd = plU fu fd gu gd := by simp [psU, e0]
    have e2 : psD fu fd gu gd = plD fu fd gu gd := by simp [psD, e0]
    rw [e0, e1, e2]; exact plusOf_yes_spec fu fd gu gd h1 h2 h3 w

theorem less_spec (fu fd gu gd : Int) (w : World) :
    Calls Try.prog 62 #[.agg #[.int .i64 fu, .int .i64 fd], .agg #[.int .i64 gu, .int .i64 gd]] w fun e w' => e = .returned (.bool (lessB fu fd gu gd)) ∧ Below w.heap.size w w' := by
  rcases h1 : okB fu fd with _ | _
  · exact less_no1_spec fu fd gu gd h1 w
  rcases h2 : okB gu gd with _ | _
  · exact less_no2_spec fu fd gu gd h1 h2 w
  · exact less_yes_spec fu fd gu gd h1 h2 w

set_option maxHeartbeats 400000 in
theorem eqFrac_same (u d : Int) (w : World) :
    Calls Try.prog 34 #[.agg #[.int .i64 u, .int .i64 d], .agg #[.int .i64 u, .int .i64 d]] w fun e w' => e = .returned (.bool true) ∧ Below w.heap.size w w' := by
  have z1 : (u != u) = false := by simp
  have z2 : (d != d) = false := by simp
  go_enter Try.func34, Try.ntmps34
  go_wp2
  go_ret
  exact ⟨rfl, by repeat (first | exact Below.refl _ _ | assumption | exact bel1 (by assumption) | exact bel2 (by assumption) | exact bel3 (by assumption) | exact bel4 (by assumption) | refine Below.drew ?_ | refine below_drewN ?_ _ | refine Below.setCell ?_ (by first | (simp; done) | (simp; omega)) _ | refine Below.alloc ?_ (by first | (simp; done) | (simp; omega)) _)⟩

set_option maxHeartbeats 400000 in
theorem alive (w : World) :
    Calls Try.prog 13 #[] w fun e w' => e = .returned (.bool true) ∧ Below w.heap.size w w' := by
  have k1 : okB 1 2 = true := by decide
  have k2 : okB 2 2 = false := by decide
  go_enter Try.func13, Try.ntmps13
  go_wp2_with fail
  refine (fracOk_impl_v _ _ _ k1 _).mono ?_
  rintro e w1 ⟨rfl, hb1⟩
  go_wp2_with fail
  refine (fracOk_impl_v _ _ _ k2 _).mono ?_
  rintro e w2 ⟨rfl, hb2⟩
  have hk := belT hb1 hb2
  go_wp2_with fail
  go_ret
  exact ⟨rfl, by repeat (first | exact Below.refl _ _ | assumption | exact bel1 (by assumption) | exact bel2 (by assumption) | exact bel3 (by assumption) | exact bel4 (by assumption) | refine Below.drew ?_ | refine below_drewN ?_ _ | refine Below.setCell ?_ (by first | (simp; done) | (simp; omega)) _ | refine Below.alloc ?_ (by first | (simp; done) | (simp; omega)) _)⟩

end Go.Proofs.Ytakkdpjgdmngkaa
