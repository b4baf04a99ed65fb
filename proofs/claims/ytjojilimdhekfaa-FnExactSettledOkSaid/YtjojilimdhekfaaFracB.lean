/- The walks of the functions on fractions, second part: sums, signs, order. -/
import Derived.Test.YtjojilimdhekfaaFrac
import Derived.Deep.RegionWith
import Derived.Deep.RegionHeld3
import Derived.BigRegion
namespace Go.Proofs.Ytjojilimdhekfaa
set_option linter.unusedSimpArgs false
set_option linter.unusedVariables false
open Go.RowKit

set_option maxHeartbeats 400000 in
theorem divisor_i64 (a b : Int) (ha : -4611686018427387904 ≤ a) (ha' : a ≤ 4611686018427387904) (hb : -4611686018427387904 ≤ b) (hb' : b ≤ 4611686018427387904) (w : World) :
    Calls Try.prog 88 #[.int .i64 a, .int .i64 b] w fun e w' => e = .returned (.int .i64 (gcdI a b)) ∧ Below w.heap.size w w' := by
  go_enter Try.func88, Try.ntmps88
  go_wp2
  go_loopw [0, 1] (fun x y wr => ∃ a' b' : Int, -4611686018427387904 ≤ a' ∧ a' ≤ 4611686018427387904 ∧ -4611686018427387904 ≤ b' ∧ b' ≤ 4611686018427387904 ∧ x = .int .i64 a' ∧ y = .int .i64 b' ∧ Hid (gcdI a' b' = gcdI a b) ∧ Below w.heap.size w wr) (fun _ y _ => (intOf y).natAbs)
  case atStart => exact ⟨a, b, ha, ha', hb, hb', rfl, rfl, rfl, Below.refl _ _⟩
  case round =>
    obtain ⟨a', b', h1, h2, h3, h4, rfl, rfl, H, hbel⟩ := hrel
    by_cases hz : b' = 0
    · subst hz
      have hm := gcdI_zero a'
      rw [H.out] at hm
      have HM : Hid (gcdI a b = max a' (-a')) := hm
      clear hm H
      go_wp2
      all_goals
        go_ret
        exact ⟨ret_int (by rw [HM.out]; omega), by assumption⟩
    · have hz1 : (b' == 0) = false := by simp [hz]
      have hz2 : (b' != 0) = true := by simp [hz]
      go_wp2
      go_quiet (fail)
      go_wp2
      go_roundw
      case rel => exact ⟨b', a'.tmod b', h3, h4, (tmod_in a' b' h1 h2).1, (tmod_in a' b' h1 h2).2, rfl, rfl, (gcdI_tmod a' b').trans H.out, below_drewN hbel _⟩
      case measure => exact tmod_lt a' b' hz

set_option maxHeartbeats 400000 in
theorem part_i64 (n : Int) (w : World) :
    Calls Try.prog 76 #[.int .i64 n] w fun e w' => e = .returned (.bool (inR n (-1000000000) 1000000000)) ∧ w = w' := by
  by_cases h1 : -1000000000 ≤ n
  · by_cases h2 : n ≤ 1000000000
    · have hf : inR n (-1000000000) 1000000000 = true := by simp [inR, h1, h2]
      go_enter Try.func76, Try.ntmps76
      go_wp2
      go_ret
      exact ⟨by simp [hf], rfl⟩
    · have hf : inR n (-1000000000) 1000000000 = false := by simp [inR, h2]
      go_enter Try.func76, Try.ntmps76
      go_wp2
      go_ret
      exact ⟨by simp [hf], rfl⟩
  · have hf : inR n (-1000000000) 1000000000 = false := by simp [inR, h1]
    go_enter Try.func76, Try.ntmps76
    go_wp2
    go_ret
    exact ⟨by simp [hf], rfl⟩

set_option maxHeartbeats 400000 in
theorem low_i64 (u d : Int) (hu : -4611686018427387904 ≤ u) (hu' : u ≤ 4611686018427387904) (hd : -4611686018427387904 ≤ d) (hd' : d ≤ 4611686018427387904) (hz : d ≠ 0) (w : World) :
    Calls Try.prog 75 #[.int .i64 u, .int .i64 d] w fun e w' => e = .returned (.tuple #[.int .i64 (lowU u d), .int .i64 (lowD u d)]) ∧ Below w.heap.size w w' := by
  have g1 := gcdI_pos u d hz
  have g2 := gcdI_le_right u d hz
  by_cases hn : d < 0
  · have H := Lib.hid (low_neg64 hn hu hu' hd hd')
    have z1 : (-gcdI u d == 0) = false := by simp; omega
    go_enter Try.func75, Try.ntmps75
    go_wp2_with (go_at_call 88; refine (divisor_i64 _ _ hu hu' hd hd' _).mono ?_; rintro e w' ⟨rfl, hb1⟩)
    go_quiet (fail)
    go_wp2
    go_ret2
    exact ⟨ret_two H.out.1.symm H.out.2.symm, below_drewN hb1 _⟩
  · have H := Lib.hid (low_pos (u := u) hn)
    have q1 := tdiv_in u (gcdI u d) hu hu'
    have q2 := tdiv_in d (gcdI u d) hd hd'
    have z1 : (gcdI u d == 0) = false := by simp; omega
    go_enter Try.func75, Try.ntmps75
    go_wp2_with (go_at_call 88; refine (divisor_i64 _ _ hu hu' hd hd' _).mono ?_; rintro e w' ⟨rfl, hb1⟩)
    go_quiet (fail)
    go_wp2
    go_ret2
    exact ⟨ret_two H.out.1.symm H.out.2.symm, below_drewN hb1 _⟩

theorem bel1 {w w1 : World} {o : Obj} (h : Below (w.alloc o).heap.size (w.alloc o) w1) : Below w.heap.size w w1 :=
  ((Below.refl _ _).alloc (Nat.le_refl _) _).trans (h.mono (by simp))

theorem bel2 {w w1 : World} {o p : Obj} (h : Below ((w.alloc o).alloc p).heap.size ((w.alloc o).alloc p) w1) : Below w.heap.size w w1 := bel1 ((bel1 h).mono (by simp))

theorem bel3 {w w1 : World} {o p q : Obj} (h : Below (((w.alloc o).alloc p).alloc q).heap.size (((w.alloc o).alloc p).alloc q) w1) : Below w.heap.size w w1 := bel1 ((bel2 h).mono (by simp))

theorem bel4 {w w1 : World} {o p q r : Obj} (h : Below ((((w.alloc o).alloc p).alloc q).alloc r).heap.size ((((w.alloc o).alloc p).alloc q).alloc r) w1) : Below w.heap.size w w1 := bel1 ((bel3 h).mono (by simp))

theorem belT {w w1 w2 : World} (h1 : Below w.heap.size w w1) (h2 : Below w1.heap.size w1 w2) : Below w.heap.size w w2 := h1.trans (h2.mono h1.size)

set_option maxHeartbeats 400000 in
theorem l1frac (u d : Int) (hu : -4611686018427387904 ≤ u) (hu' : u ≤ 4611686018427387904) (hd : -4611686018427387904 ≤ d) (hd' : d ≤ 4611686018427387904) (hz : d ≠ 0) (w : World) :
    Calls Try.prog 55 #[.int .i64 u, .int .i64 d] w fun e w' => e = .returned (.agg #[.int .i64 (lowU u d), .int .i64 (lowD u d)]) ∧ Below w.heap.size w w' := by
  have g1 := gcdI_pos u d hz
  have g2 := gcdI_le_right u d hz
  by_cases hn : d < 0
  · have H := Lib.hid (low_neg64 hn hu hu' hd hd')
    have z1 : (-gcdI u d == 0) = false := by simp; omega
    go_enter Try.func55, Try.ntmps55
    go_wp2_with (go_at_call 78; refine (common_spec _ _ hu hu' hd hd' _).mono ?_; rintro e w1 ⟨rfl, hb1⟩; obtain ⟨hc1, hf1⟩ := bcell hb1)
    go_region
    go_wp2
    refine bodyPost_ret (v := .agg #[.int .i64 (wrap64 (-u.tdiv (gcdI u d))), .int .i64 (wrap64 (-d.tdiv (gcdI u d)))]) (by simp [results, Try.results55, go_sem, hc1]) rfl ⟨by rw [H.out.1, H.out.2], ?_⟩
    exact (((bel1 hb1).setCell (Nat.le_refl _) _).setCell (Nat.le_refl _) _).drew
  · have H := Lib.hid (low_pos (u := u) hn)
    have q1 := tdiv_in u (gcdI u d) hu hu'
    have q2 := tdiv_in d (gcdI u d) hd hd'
    have z1 : (gcdI u d == 0) = false := by simp; omega
    have z2 : decide (d < 0) = false := by simp; omega
    go_enter Try.func55, Try.ntmps55
    go_wp2_with (go_at_call 78; refine (common_spec _ _ hu hu' hd hd' _).mono ?_; rintro e w1 ⟨rfl, hb1⟩; obtain ⟨hc1, hf1⟩ := bcell hb1)
    go_region
    go_wp2
    refine bodyPost_ret (v := .agg #[.int .i64 (u.tdiv (gcdI u d)), .int .i64 (d.tdiv (gcdI u d))]) (by simp [results, Try.results55, go_sem, hc1]) rfl ⟨by rw [H.out.1, H.out.2], ?_⟩
    exact (((bel1 hb1).setCell (Nat.le_refl _) _).setCell (Nat.le_refl _) _).drew

set_option maxHeartbeats 400000 in
theorem crosswise (fu fd gu gd : Int) (h1 : -4611686018427387904 ≤ fu * gd) (h2 : fu * gd ≤ 4611686018427387904) (w : World) :
    Calls Try.prog 83 #[.agg #[.int .i64 fu, .int .i64 fd], .agg #[.int .i64 gu, .int .i64 gd]] w fun e w' => e = .returned (.int .i64 (fu * gd)) ∧ Below w.heap.size w w' := by
  go_enter Try.func83, Try.ntmps83
  go_wp2
  go_ret
  exact ⟨rfl, by repeat (first | exact Below.refl _ _ | assumption | exact bel1 (by assumption) | exact bel2 (by assumption) | exact bel3 (by assumption) | exact bel4 (by assumption) | refine Below.drew ?_ | refine below_drewN ?_ _ | refine Below.setCell ?_ (by first | (simp; done) | (simp; omega)) _ | refine Below.alloc ?_ (by first | (simp; done) | (simp; omega)) _)⟩

set_option maxHeartbeats 400000 in
theorem minus_no_impl (u d : Int) (h : okB u d = false) (w : World) :
    Calls Try.prog 26 #[.agg #[.int .i64 u, .int .i64 d]] w fun e w' => e = .returned (.agg #[.int .i64 0, .int .i64 0]) ∧ Below w.heap.size w w' := by
  go_enter Try.func26, Try.ntmps26
  go_wp2_with (go_at_call 58; refine (fracOk_impl _ _ _).mono ?_; rintro e w1 ⟨rfl, hb1⟩; obtain ⟨hc1, hf1⟩ := bcell hb1)
  refine bodyPost_ret (v := .agg #[.int .i64 0, .int .i64 0]) (by simp [results, Try.results26, go_sem, hc1]) rfl ⟨rfl, by repeat (first | exact Below.refl _ _ | assumption | exact bel1 (by assumption) | exact bel2 (by assumption) | exact bel3 (by assumption) | exact bel4 (by assumption) | refine Below.drew ?_ | refine below_drewN ?_ _ | refine Below.setCell ?_ (by first | (simp; done) | (simp; omega)) _ | refine Below.alloc ?_ (by first | (simp; done) | (simp; omega)) _)⟩

set_option maxHeartbeats 400000 in
theorem minus_yes_impl (u d : Int) (h : okB u d = true) (w : World) :
    Calls Try.prog 26 #[.agg #[.int .i64 u, .int .i64 d]] w fun e w' => e = .returned (.agg #[.int .i64 (-u), .int .i64 d]) ∧ Below w.heap.size w w' := by
  obtain ⟨a1, a2, _, _, _⟩ := okB_iff.1 h
  go_enter Try.func26, Try.ntmps26
  go_wp2_with (go_at_call 58; refine (fracOk_impl _ _ _).mono ?_; rintro e w1 ⟨rfl, hb1⟩; obtain ⟨hc1, hf1⟩ := bcell hb1)
  refine bodyPost_ret (v := .agg #[.int .i64 (-u), .int .i64 d]) (by simp [results, Try.results26, go_sem, hc1]) rfl ⟨rfl, by repeat (first | exact Below.refl _ _ | assumption | exact bel1 (by assumption) | exact bel2 (by assumption) | exact bel3 (by assumption) | exact bel4 (by assumption) | refine Below.drew ?_ | refine below_drewN ?_ _ | refine Below.setCell ?_ (by first | (simp; done) | (simp; omega)) _ | refine Below.alloc ?_ (by first | (simp; done) | (simp; omega)) _)⟩

/-- may FracOf divide them? -/
def ofB (u d : Int) : Bool := inR u (-1000000000) 1000000000 && inR d (-1000000000) 1000000000 && !(d == 0)

theorem ofB_iff {u d : Int} : ofB u d = true ↔ (-1000000000 ≤ u ∧ u ≤ 1000000000 ∧ -1000000000 ≤ d ∧ d ≤ 1000000000 ∧ d ≠ 0) := by
  unfold ofB inR; simp; omega

end Go.Proofs.Ytjojilimdhekfaa
