/- Texts in one: Frac, FracB, FracC, FracD, FracE, All. -/
import Derived.Test.YtlmaeadbomnhlaaGreatProg
import Derived.Test.YtlmaeadbomnhlaaGreatMA
import Derived.WalkKit
import Derived.WalkSpells
import Derived.WalkLawsBesides
import Derived.IntWalk
import Derived.Lib.Hide
import Derived.RegionTactic
import Derived.ChangeAlike
import Derived.Deep.QuietTactic
import Derived.BigQuiet
import Derived.Deep.RegionWith
import Derived.Deep.RegionHeld3
import Derived.BigRegion
import Derived.Deep.OwnRows
namespace Go.Proofs.YtlmaeadbomnhlaaGreat
set_option linter.unusedSimpArgs false
set_option linter.unusedVariables false
open Go.RowKit
theorem ret_int {k : IntKind} {a b : Int} (h : a = b) : Ending.returned (.int k a) = .returned (.int k b) := by rw [h]
set_option maxHeartbeats 400000 in
theorem divisor_int (a b : Int) (ha : -4611686018427387904 ≤ a) (ha' : a ≤ 4611686018427387904) (hb : -4611686018427387904 ≤ b) (hb' : b ≤ 4611686018427387904) (w : World) :
    Calls Tryz.prog 45 #[.int .i64 a, .int .i64 b] w fun e w' => e = .returned (.int .i64 (gcdI a b)) ∧ Below w.heap.size w w' := by
  go_enter Tryz.func45, Tryz.ntmps45
  go_wp2
  go_loopw [0, 1] (fun x y wr => ∃ a' b' : Int, -4611686018427387904 ≤ a' ∧ a' ≤ 4611686018427387904 ∧ -4611686018427387904 ≤ b' ∧ b' ≤ 4611686018427387904 ∧ x = .int .i64 a' ∧ y = .int .i64 b' ∧ Hid (gcdI a' b' = gcdI a b) ∧ Below w.heap.size w wr) (fun _ y _ => (intOf y).natAbs)
  case atStart => exact ⟨a, b, ha, ha', hb, hb', rfl, rfl, rfl, Below.refl _ _⟩
  case round =>
    obtain ⟨a', b', h1, h2, h3, h4, rfl, rfl, H, hbel⟩ := hrel
    by_cases hz : b' = 0
    · subst hz
      have hm := gcdI_zero a'
      rw [H.out] at hm
      have HM : Hid (gcdI a b = max a' (-a')) := hm
      clear hm H
      go_wp2
      all_goals
        go_ret
        exact ⟨ret_int (by rw [HM.out]; omega), by assumption⟩
    · have hz1 : (b' == 0) = false := by simp [hz]
      have hz2 : (b' != 0) = true := by simp [hz]
      go_wp2
      go_quiet (fail)
      go_wp2
      go_roundw
      case rel => exact ⟨b', a'.tmod b', h3, h4, (tmod_in a' b' h1 h2).1, (tmod_in a' b' h1 h2).2, rfl, rfl, (gcdI_tmod a' b').trans H.out, below_drewN hbel _⟩
      case measure => exact tmod_lt a' b' hz
set_option maxHeartbeats 400000 in
theorem part_int (n : Int) (w : World) :
    Calls Tryz.prog 44 #[.int .i64 n] w fun e w' => e = .returned (.bool (inR n (-1000000000) 1000000000)) ∧ w = w' := by
  by_cases h1 : -1000000000 ≤ n
  · by_cases h2 : n ≤ 1000000000
    · have hf : inR n (-1000000000) 1000000000 = true := by simp [inR, h1, h2]
      go_enter Tryz.func44, Tryz.ntmps44
      go_wp2
      go_ret
      exact ⟨by simp [hf], rfl⟩
    · have hf : inR n (-1000000000) 1000000000 = false := by simp [inR, h2]
      go_enter Tryz.func44, Tryz.ntmps44
      go_wp2
      go_ret
      exact ⟨by simp [hf], rfl⟩
  · have hf : inR n (-1000000000) 1000000000 = false := by simp [inR, h1]
    go_enter Tryz.func44, Tryz.ntmps44
    go_wp2
    go_ret
    exact ⟨by simp [hf], rfl⟩
set_option maxHeartbeats 400000 in
theorem in_spec (n lo hi : Int) (w : World) :
    Calls Tryz.prog 37 #[.int .i64 n, .int .i64 lo, .int .i64 hi] w fun e w' => e = .returned (.bool (inR n lo hi)) ∧ w = w' := by
  by_cases h1 : lo ≤ n
  · by_cases h2 : n ≤ hi
    · have hf : inR n lo hi = true := by simp [inR, h1, h2]
      go_enter Tryz.func37, Tryz.ntmps37
      go_wp2
      go_ret
      exact ⟨by simp [hf], rfl⟩
    · have hf : inR n lo hi = false := by simp [inR, h2]
      go_enter Tryz.func37, Tryz.ntmps37
      go_wp2
      go_ret
      exact ⟨by simp [hf], rfl⟩
  · have hf : inR n lo hi = false := by simp [inR, h1]
    go_enter Tryz.func37, Tryz.ntmps37
    go_wp2
    go_ret
    exact ⟨by simp [hf], rfl⟩
set_option maxHeartbeats 400000 in
theorem fracOk_impl (u d : Int) (w : World) :
    Calls Tryz.prog 23 #[.agg #[.int .i64 u, .int .i64 d]] w fun e w' => e = .returned (.bool (okB u d)) ∧ Below w.heap.size w w' := by
  have hb0 : Below w.heap.size w (w.alloc (.cells #[.int .i64 u, .int .i64 d] 37)) := (Below.refl _ _).alloc (Nat.le_refl _) _
  rcases hu : inR u (-1000000000) 1000000000 with _ | _
  · have hf : okB u d = false := okB_no (by have := inR_no hu; omega)
    have Hf := Lib.hid hf
    clear hf
    go_enter Tryz.func23, Tryz.ntmps23
    go_wp2_with (go_at_call 44; refine (part_int _ _).mono ?_; rintro e w' ⟨rfl, rfl⟩)
    go_ret
    exact ⟨by simp [Hf.out], hb0⟩
  rcases hd : inR d (-1000000000) 1000000000 with _ | _
  · have hf : okB u d = false := okB_no (by have := inR_no hd; omega)
    have Hf := Lib.hid hf
    clear hf
    go_enter Tryz.func23, Tryz.ntmps23
    go_wp2_with (go_at_call 44; refine (part_int _ _).mono ?_; rintro e w' ⟨rfl, rfl⟩)
    go_ret
    exact ⟨by simp [Hf.out], hb0⟩
  have bu := inR_yes hu
  have bd := inR_yes hd
  by_cases hp : 0 < d
  · have hfin : okB u d = (gcdI u d == 1) := by
      rw [Bool.eq_iff_iff, okB_iff, beq_iff_eq]
      omega
    have Hf := Lib.hid hfin
    clear hfin
    go_enter Tryz.func23, Tryz.ntmps23
    go_wp2_with (first | (go_at_call 44; refine (part_int _ _).mono ?_; rintro e w' ⟨rfl, rfl⟩) | (go_at_call 45; refine (divisor_int _ _ (by omega) (by omega) (by omega) (by omega) _).mono ?_; rintro e w' ⟨rfl, hb1⟩))
    go_ret
    exact ⟨by simp [Hf.out], hb0.trans (hb1.mono (by simp))⟩
  · have hf : okB u d = false := okB_no (by omega)
    have Hf := Lib.hid hf
    clear hf
    go_enter Tryz.func23, Tryz.ntmps23
    go_wp2_with (go_at_call 44; refine (part_int _ _).mono ?_; rintro e w' ⟨rfl, rfl⟩)
    go_ret
    exact ⟨by simp [Hf.out], hb0⟩
theorem low_neg64 {u d : Int} (h : d < 0) (hu : -4611686018427387904 ≤ u) (hu' : u ≤ 4611686018427387904) (hd : -4611686018427387904 ≤ d) (hd' : d ≤ 4611686018427387904) :
    lowU u d = wrap64 (-u.tdiv (gcdI u d)) ∧ lowD u d = wrap64 (-d.tdiv (gcdI u d)) := by
  obtain ⟨e1, e2⟩ := low_neg (u := u) h
  have q1 := tdiv_in u (-gcdI u d) hu hu'
  have q2 := tdiv_in d (-gcdI u d) hd hd'
  rw [e1, e2]
  simp only [Int.tdiv_neg] at q1 q2 ⊢
  exact ⟨(IntWalk.wrap64_in _ ⟨by omega, by omega⟩).symm, (IntWalk.wrap64_in _ ⟨by omega, by omega⟩).symm⟩
theorem ret_two {k : IntKind} {a b c d : Int} (h : a = c) (h' : b = d) : Ending.returned (.tuple #[.int k a, .int k b]) = .returned (.tuple #[.int k c, .int k d]) := by rw [h, h']
end Go.Proofs.YtlmaeadbomnhlaaGreat

namespace Go.Proofs.YtlmaeadbomnhlaaGreat
set_option linter.unusedSimpArgs false
set_option linter.unusedVariables false
open Go.RowKit
set_option maxHeartbeats 400000 in
theorem divisor_i64 (a b : Int) (ha : -4611686018427387904 ≤ a) (ha' : a ≤ 4611686018427387904) (hb : -4611686018427387904 ≤ b) (hb' : b ≤ 4611686018427387904) (w : World) :
    Calls Tryz.prog 112 #[.int .i64 a, .int .i64 b] w fun e w' => e = .returned (.int .i64 (gcdI a b)) ∧ Below w.heap.size w w' := by
  go_enter Tryz.func112, Tryz.ntmps112
  go_wp2
  go_loopw [0, 1] (fun x y wr => ∃ a' b' : Int, -4611686018427387904 ≤ a' ∧ a' ≤ 4611686018427387904 ∧ -4611686018427387904 ≤ b' ∧ b' ≤ 4611686018427387904 ∧ x = .int .i64 a' ∧ y = .int .i64 b' ∧ Hid (gcdI a' b' = gcdI a b) ∧ Below w.heap.size w wr) (fun _ y _ => (intOf y).natAbs)
  case atStart => exact ⟨a, b, ha, ha', hb, hb', rfl, rfl, rfl, Below.refl _ _⟩
  case round =>
    obtain ⟨a', b', h1, h2, h3, h4, rfl, rfl, H, hbel⟩ := hrel
    by_cases hz : b' = 0
    · subst hz
      have hm := gcdI_zero a'
      rw [H.out] at hm
      have HM : Hid (gcdI a b = max a' (-a')) := hm
      clear hm H
      go_wp2
      all_goals
        go_ret
        exact ⟨ret_int (by rw [HM.out]; omega), by assumption⟩
    · have hz1 : (b' == 0) = false := by simp [hz]
      have hz2 : (b' != 0) = true := by simp [hz]
      go_wp2
      go_quiet (fail)
      go_wp2
      go_roundw
      case rel => exact ⟨b', a'.tmod b', h3, h4, (tmod_in a' b' h1 h2).1, (tmod_in a' b' h1 h2).2, rfl, rfl, (gcdI_tmod a' b').trans H.out, below_drewN hbel _⟩
      case measure => exact tmod_lt a' b' hz
set_option maxHeartbeats 400000 in
theorem part_i64 (n : Int) (w : World) :
    Calls Tryz.prog 106 #[.int .i64 n] w fun e w' => e = .returned (.bool (inR n (-1000000000) 1000000000)) ∧ w = w' := by
  by_cases h1 : -1000000000 ≤ n
  · by_cases h2 : n ≤ 1000000000
    · have hf : inR n (-1000000000) 1000000000 = true := by simp [inR, h1, h2]
      go_enter Tryz.func106, Tryz.ntmps106
      go_wp2
      go_ret
      exact ⟨by simp [hf], rfl⟩
    · have hf : inR n (-1000000000) 1000000000 = false := by simp [inR, h2]
      go_enter Tryz.func106, Tryz.ntmps106
      go_wp2
      go_ret
      exact ⟨by simp [hf], rfl⟩
  · have hf : inR n (-1000000000) 1000000000 = false := by simp [inR, h1]
    go_enter Tryz.func106, Tryz.ntmps106
    go_wp2
    go_ret
    exact ⟨by simp [hf], rfl⟩
set_option maxHeartbeats 400000 in
theorem low_i64 (u d : Int) (hu : -4611686018427387904 ≤ u) (hu' : u ≤ 4611686018427387904) (hd : -4611686018427387904 ≤ d) (hd' : d ≤ 4611686018427387904) (hz : d ≠ 0) (w : World) :
    Calls Tryz.prog 105 #[.int .i64 u, .int .i64 d] w fun e w' => e = .returned (.tuple #[.int .i64 (lowU u d), .int .i64 (lowD u d)]) ∧ Below w.heap.size w w' := by
  have g1 := gcdI_pos u d hz
  have g2 := gcdI_le_right u d hz
  by_cases hn : d < 0
  · have H := Lib.hid (low_neg64 hn hu hu' hd hd')
    have z1 : (-gcdI u d == 0) = false := by simp; omega
    go_enter Tryz.func105, Tryz.ntmps105
    go_wp2_with (go_at_call 112; refine (divisor_i64 _ _ hu hu' hd hd' _).mono ?_; rintro e w' ⟨rfl, hb1⟩)
    go_quiet (fail)
    go_wp2
    go_ret2
    exact ⟨ret_two H.out.1.symm H.out.2.symm, below_drewN hb1 _⟩
  · have H := Lib.hid (low_pos (u := u) hn)
    have q1 := tdiv_in u (gcdI u d) hu hu'
    have q2 := tdiv_in d (gcdI u d) hd hd'
    have z1 : (gcdI u d == 0) = false := by simp; omega
    go_enter Tryz.func105, Tryz.ntmps105
    go_wp2_with (go_at_call 112; refine (divisor_i64 _ _ hu hu' hd hd' _).mono ?_; rintro e w' ⟨rfl, hb1⟩)
    go_quiet (fail)
    go_wp2
    go_ret2
    exact ⟨ret_two H.out.1.symm H.out.2.symm, below_drewN hb1 _⟩
theorem bel1 {w w1 : World} {o : Obj} (h : Below (w.alloc o).heap.size (w.alloc o) w1) : Below w.heap.size w w1 :=
  ((Below.refl _ _).alloc (Nat.le_refl _) _).trans (h.mono (by simp))
theorem bel2 {w w1 : World} {o p : Obj} (h : Below ((w.alloc o).alloc p).heap.size ((w.alloc o).alloc p) w1) : Below w.heap.size w w1 := bel1 ((bel1 h).mono (by simp))
theorem bel3 {w w1 : World} {o p q : Obj} (h : Below (((w.alloc o).alloc p).alloc q).heap.size (((w.alloc o).alloc p).alloc q) w1) : Below w.heap.size w w1 := bel1 ((bel2 h).mono (by simp))
theorem bel4 {w w1 : World} {o p q r : Obj} (h : Below ((((w.alloc o).alloc p).alloc q).alloc r).heap.size ((((w.alloc o).alloc p).alloc q).alloc r) w1) : Below w.heap.size w w1 := bel1 ((bel3 h).mono (by simp))
theorem belT {w w1 w2 : World} (h1 : Below w.heap.size w w1) (h2 : Below w1.heap.size w1 w2) : Below w.heap.size w w2 := h1.trans (h2.mono h1.size)
set_option maxHeartbeats 400000 in
theorem crosswise (fu fd gu gd : Int) (h1 : -4611686018427387904 ≤ fu * gd) (h2 : fu * gd ≤ 4611686018427387904) (w : World) :
    Calls Tryz.prog 95 #[.agg #[.int .i64 fu, .int .i64 fd], .agg #[.int .i64 gu, .int .i64 gd]] w fun e w' => e = .returned (.int .i64 (fu * gd)) ∧ Below w.heap.size w w' := by
  go_enter Tryz.func95, Tryz.ntmps95
  go_wp2
  go_ret
  exact ⟨rfl, by repeat (first | exact Below.refl _ _ | assumption | exact bel1 (by assumption) | exact bel2 (by assumption) | exact bel3 (by assumption) | exact bel4 (by assumption) | refine Below.drew ?_ | refine below_drewN ?_ _ | refine Below.setCell ?_ (by first | (simp; done) | (simp; omega)) _ | refine Below.alloc ?_ (by first | (simp; done) | (simp; omega)) _)⟩
def ofB (u d : Int) : Bool := inR u (-1000000000) 1000000000 && inR d (-1000000000) 1000000000 && !(d == 0)
end Go.Proofs.YtlmaeadbomnhlaaGreat

namespace Go.Proofs.YtlmaeadbomnhlaaGreat
set_option linter.unusedSimpArgs false
set_option linter.unusedVariables false
open Go.RowKit
theorem stays {W : World} {p o : Nat} {a : Value} (hp : p < W.heap.size) (h : W.cell? ⟨p, o, none⟩ = some a) : ∀ w1, Below W.heap.size W w1 → w1.cell? ⟨p, o, none⟩ = some a :=
  fun _ hb => (hb.cell (p := ⟨p, o, none⟩) hp).trans h
theorem staysF {W : World} {p o : Nat} {b : Bool} (hp : p < W.heap.size) (h : W.frozen? ⟨p, o, none⟩ = b) : ∀ w1, Below W.heap.size W w1 → w1.frozen? ⟨p, o, none⟩ = b :=
  fun _ hb => (hb.frozen (p := ⟨p, o, none⟩) hp).trans h
def held (w : World) (p o : Nat) : Value := (w.cell? ⟨p, o, none⟩).getD .nilFunc
structure Boxed (w W : World) (p : Nat) (w' : World) : Prop where
  bel : Below w.heap.size w w'
  size : W.heap.size ≤ w'.heap.size
  block : ∀ b, b < W.heap.size → b ≠ p → w'.heap[b]? = W.heap[b]?
  row : ∃ f, w'.rowIs p 37 2 f
theorem Boxed.cell {w W w' : World} {p : Nat} (h : Boxed w W p w') {o : Nat} (ho : o < 2) : w'.cell? ⟨p, o, none⟩ = some (held w' p o) := by
  obtain ⟨f, hf⟩ := h.row
  unfold held; rw [hf.cell ho]; rfl
theorem Boxed.frozen {w W w' : World} {p : Nat} (h : Boxed w W p w') (o : Nat) : w'.frozen? ⟨p, o, none⟩ = false := by
  obtain ⟨f, hf⟩ := h.row
  exact hf.frozen o
theorem Boxed.drew {w W w' : World} {p : Nat} (h : Boxed w W p w') : Boxed w W p w'.drew := ⟨h.bel.drew, h.size, h.block, h.row⟩
theorem Boxed.call {w W w1 w2 : World} {p : Nat} (hb : Below w1.heap.size w1 w2) (hp : p < W.heap.size) (h : Boxed w W p w1) : Boxed w W p w2 := by
  obtain ⟨f, hf⟩ := h.row
  have hs := h.size
  exact ⟨belT h.bel hb, Nat.le_trans h.size hb.size, fun b hlt hne => (hb.block b (by omega)).trans (h.block b hlt hne), f, hf.of_block (hb.block p (by omega))⟩
theorem Boxed.store {w W w1 : World} {p : Nat} (a b : Value) (hp : w.heap.size ≤ p) (h : Boxed w W p w1) : Boxed w W p ((w1.setCell ⟨p, 0, none⟩ a).setCell ⟨p, 1, none⟩ b) := by
  obtain ⟨f, hf⟩ := h.row
  refine ⟨(h.bel.setCell hp _).setCell hp _, by simpa [World.setCell] using h.size, fun b hlt hne => ?_, _, (hf.set 0 a).set 1 b⟩
  rw [Deep.blk_setCell_other _ _ _ _ (by simpa using hne), Deep.blk_setCell_other _ _ _ _ (by simpa using hne)]
  exact h.block b hlt hne
def ovB (a b : Int) : Bool := inR (lowU a b) (-1000000000) 1000000000 && inR (lowD a b) (-1000000000) 1000000000
set_option maxHeartbeats 1000000 in
theorem over_yes (a b : Int) (q1 : -4611686018427387904 ≤ a) (q2 : a ≤ 4611686018427387904) (q3 : -4611686018427387904 ≤ b) (q4 : b ≤ 4611686018427387904) (q5 : b ≠ 0) (h : ovB a b = true) (w : World) :
    Calls Tryz.prog 92 #[.int .i64 a, .int .i64 b] w fun e w' => e = .returned (.tuple #[.agg #[.int .i64 (lowU a b), .int .i64 (lowD a b)], .bool true]) ∧ Below w.heap.size w w' := by
  obtain ⟨i1, i2⟩ : inR (lowU a b) (-1000000000) 1000000000 = true ∧ inR (lowD a b) (-1000000000) 1000000000 = true := by simpa [ovB] using h
  clear h
  go_enter Tryz.func92, Tryz.ntmps92
  go_wp2_with fail
  obtain ⟨W, hW⟩ : ∃ W : World, W = (w.alloc (.cells #[(Value.int .i64 0), (Value.int .i64 0)] 37)) := ⟨_, rfl⟩
  have hzW : W.heap.size = w.heap.size + 1 := by rw [hW]; simp
  have hbW : Below w.heap.size w W := by rw [hW]; exact (by repeat (first | exact Below.refl _ _ | assumption | exact bel1 (by assumption) | exact bel2 (by assumption) | exact bel3 (by assumption) | exact bel4 (by assumption) | refine Below.drew ?_ | refine below_drewN ?_ _ | refine Below.setCell ?_ (by first | (simp; done) | (simp; omega)) _ | refine Below.alloc ?_ (by first | (simp; done) | (simp; omega)) _))
  have r00 := stays (p := w.heap.size) (o := 0) (by omega) (show W.cell? ⟨w.heap.size, 0, none⟩ = some ((Value.int .i64 0)) from by rw [hW]; simp [go_sem])
  have g00 := staysF (p := w.heap.size) (o := 0) (by omega) (show W.frozen? ⟨w.heap.size, 0, none⟩ = false from by rw [hW]; simp [go_sem])
  have r01 := stays (p := w.heap.size) (o := 1) (by omega) (show W.cell? ⟨w.heap.size, 1, none⟩ = some ((Value.int .i64 0)) from by rw [hW]; simp [go_sem])
  have g01 := staysF (p := w.heap.size) (o := 1) (by omega) (show W.frozen? ⟨w.heap.size, 1, none⟩ = false from by rw [hW]; simp [go_sem])
  rw [← hW]
  clear hW
  have HzW := Lib.hid hzW
  clear hzW
  refine (low_i64 _ _ q1 q2 q3 q4 q5 _).mono ?_
  rintro e w1 ⟨rfl, hb1⟩
  have hk : Below W.heap.size W w1 := hb1
  go_wp2_with (go_at_call 106; refine (part_i64 _ _).mono ?_; rintro e w1 ⟨rfl, rfl⟩)
  have hk2 := belT hbW hk
  refine bodyPost_ret (v := .tuple #[.agg #[.int .i64 (lowU a b), .int .i64 (lowD a b)], .bool true]) (by simp [results, Tryz.results92, go_sem, r00 _ hk, r01 _ hk]) rfl ⟨rfl, by repeat (first | exact Below.refl _ _ | assumption | exact bel1 (by assumption) | exact bel2 (by assumption) | exact bel3 (by assumption) | exact bel4 (by assumption) | refine Below.drew ?_ | refine below_drewN ?_ _ | refine Below.setCell ?_ (by first | (simp; done) | (simp; omega)) _ | refine Below.alloc ?_ (by first | (simp; done) | (simp; omega)) _)⟩
set_option maxHeartbeats 1000000 in
theorem less (fu fd gu gd : Int) (q6 : -4611686018427387904 ≤ fu * gd) (q7 : fu * gd ≤ 4611686018427387904) (q8 : -4611686018427387904 ≤ gu * fd) (q9 : gu * fd ≤ 4611686018427387904) (w : World) :
    Calls Tryz.prog 72 #[.agg #[.int .i64 fu, .int .i64 fd], .agg #[.int .i64 gu, .int .i64 gd]] w fun e w' => e = .returned (.bool (decide (fu * gd < gu * fd))) ∧ Below w.heap.size w w' := by
  go_enter Tryz.func72, Tryz.ntmps72
  go_wp2_with fail
  obtain ⟨W, hW⟩ : ∃ W : World, W = ((w.alloc (.cells #[(Value.int .i64 fu), (Value.int .i64 fd)] 37)).alloc (.cells #[(Value.int .i64 gu), (Value.int .i64 gd)] 37)) := ⟨_, rfl⟩
  have hzW : W.heap.size = w.heap.size + 2 := by rw [hW]; simp
  have hbW : Below w.heap.size w W := by rw [hW]; exact (by repeat (first | exact Below.refl _ _ | assumption | exact bel1 (by assumption) | exact bel2 (by assumption) | exact bel3 (by assumption) | exact bel4 (by assumption) | refine Below.drew ?_ | refine below_drewN ?_ _ | refine Below.setCell ?_ (by first | (simp; done) | (simp; omega)) _ | refine Below.alloc ?_ (by first | (simp; done) | (simp; omega)) _))
  have r00 := stays (p := w.heap.size) (o := 0) (by omega) (show W.cell? ⟨w.heap.size, 0, none⟩ = some ((Value.int .i64 fu)) from by rw [hW]; simp [go_sem])
  have r01 := stays (p := w.heap.size) (o := 1) (by omega) (show W.cell? ⟨w.heap.size, 1, none⟩ = some ((Value.int .i64 fd)) from by rw [hW]; simp [go_sem])
  have r10 := stays (p := w.heap.size + 1) (o := 0) (by omega) (show W.cell? ⟨w.heap.size + 1, 0, none⟩ = some ((Value.int .i64 gu)) from by rw [hW]; simp [go_sem])
  have r11 := stays (p := w.heap.size + 1) (o := 1) (by omega) (show W.cell? ⟨w.heap.size + 1, 1, none⟩ = some ((Value.int .i64 gd)) from by rw [hW]; simp [go_sem])
  rw [← hW]
  clear hW
  have HzW := Lib.hid hzW
  clear hzW
  go_region_held3 (fun w' => Below W.heap.size W w')
    (first | exact Below.refl _ _ | exact Below.drew (Below.refl _ _) | (refine Below.drew ?_; assumption) | exact belT (by assumption) (by assumption) | assumption)
    (first | (go_at_call 95; refine (crosswise _ _ _ _ (by assumption) (by assumption) _).mono ?_; rintro e w1 ⟨rfl, hb1⟩))
  go_wp2
  have hk : Below W.heap.size W w1 := by assumption
  have hk2 := belT hbW hk
  go_ret
  exact ⟨by simp, by repeat (first | exact Below.refl _ _ | assumption | exact bel1 (by assumption) | exact bel2 (by assumption) | exact bel3 (by assumption) | exact bel4 (by assumption) | refine Below.drew ?_ | refine below_drewN ?_ _ | refine Below.setCell ?_ (by first | (simp; done) | (simp; omega)) _ | refine Below.alloc ?_ (by first | (simp; done) | (simp; omega)) _)⟩
set_option maxHeartbeats 1000000 in
theorem more (fu fd gu gd : Int) (q6 : -4611686018427387904 ≤ fu * gd) (q7 : fu * gd ≤ 4611686018427387904) (q8 : -4611686018427387904 ≤ gu * fd) (q9 : gu * fd ≤ 4611686018427387904) (w : World) :
    Calls Tryz.prog 89 #[.agg #[.int .i64 fu, .int .i64 fd], .agg #[.int .i64 gu, .int .i64 gd]] w fun e w' => e = .returned (.bool (decide (gu * fd < fu * gd))) ∧ Below w.heap.size w w' := by
  go_enter Tryz.func89, Tryz.ntmps89
  go_wp2_with fail
  obtain ⟨W, hW⟩ : ∃ W : World, W = ((w.alloc (.cells #[(Value.int .i64 fu), (Value.int .i64 fd)] 37)).alloc (.cells #[(Value.int .i64 gu), (Value.int .i64 gd)] 37)) := ⟨_, rfl⟩
  have hzW : W.heap.size = w.heap.size + 2 := by rw [hW]; simp
  have hbW : Below w.heap.size w W := by rw [hW]; exact (by repeat (first | exact Below.refl _ _ | assumption | exact bel1 (by assumption) | exact bel2 (by assumption) | exact bel3 (by assumption) | exact bel4 (by assumption) | refine Below.drew ?_ | refine below_drewN ?_ _ | refine Below.setCell ?_ (by first | (simp; done) | (simp; omega)) _ | refine Below.alloc ?_ (by first | (simp; done) | (simp; omega)) _))
  have r00 := stays (p := w.heap.size) (o := 0) (by omega) (show W.cell? ⟨w.heap.size, 0, none⟩ = some ((Value.int .i64 fu)) from by rw [hW]; simp [go_sem])
  have r01 := stays (p := w.heap.size) (o := 1) (by omega) (show W.cell? ⟨w.heap.size, 1, none⟩ = some ((Value.int .i64 fd)) from by rw [hW]; simp [go_sem])
  have r10 := stays (p := w.heap.size + 1) (o := 0) (by omega) (show W.cell? ⟨w.heap.size + 1, 0, none⟩ = some ((Value.int .i64 gu)) from by rw [hW]; simp [go_sem])
  have r11 := stays (p := w.heap.size + 1) (o := 1) (by omega) (show W.cell? ⟨w.heap.size + 1, 1, none⟩ = some ((Value.int .i64 gd)) from by rw [hW]; simp [go_sem])
  rw [← hW]
  clear hW
  have HzW := Lib.hid hzW
  clear hzW
  refine (less _ _ _ _ q8 q9 q6 q7 _).mono ?_
  rintro e w1 ⟨rfl, hb1⟩
  have hk2 := belT hbW hb1
  go_wp2_with fail
  go_ret
  exact ⟨by simp, by repeat (first | exact Below.refl _ _ | assumption | exact bel1 (by assumption) | exact bel2 (by assumption) | exact bel3 (by assumption) | exact bel4 (by assumption) | refine Below.drew ?_ | refine below_drewN ?_ _ | refine Below.setCell ?_ (by first | (simp; done) | (simp; omega)) _ | refine Below.alloc ?_ (by first | (simp; done) | (simp; omega)) _)⟩
end Go.Proofs.YtlmaeadbomnhlaaGreat

namespace Go.Proofs.YtlmaeadbomnhlaaGreat
set_option linter.unusedSimpArgs false
set_option linter.unusedVariables false
open Go.RowKit
end Go.Proofs.YtlmaeadbomnhlaaGreat

namespace Go.Proofs.YtlmaeadbomnhlaaGreat
set_option linter.unusedSimpArgs false
set_option linter.unusedVariables false
open Go.RowKit
theorem fracOk_impl_v (u d : Int) (b : Bool) (h : okB u d = b) (w : World) :
    Calls Tryz.prog 23 #[.agg #[.int .i64 u, .int .i64 d]] w fun e w' => e = .returned (.bool b) ∧ Below w.heap.size w w' := by
  subst h; exact fracOk_impl u d w
def lessB (fu fd gu gd : Int) : Bool := okB fu fd && okB gu gd && decide (fu * gd < gu * fd)
end Go.Proofs.YtlmaeadbomnhlaaGreat

namespace Go.Proofs.YtlmaeadbomnhlaaGreat
set_option linter.unusedSimpArgs false
set_option linter.unusedVariables false
open Go.RowKit
def ofD (u d : Int) : Int := if ofB u d = true then lowD u d else 0
set_option maxHeartbeats 400000 in
theorem alive (w : World) :
    Calls Tryz.prog 9 #[] w fun e w' => e = .returned (.bool true) ∧ Below w.heap.size w w' := by
  have k1 : okB 1 2 = true := by decide
  have k2 : okB 2 2 = false := by decide
  go_enter Tryz.func9, Tryz.ntmps9
  go_wp2_with fail
  refine (fracOk_impl_v _ _ _ k1 _).mono ?_
  rintro e w1 ⟨rfl, hb1⟩
  go_wp2_with fail
  refine (fracOk_impl_v _ _ _ k2 _).mono ?_
  rintro e w2 ⟨rfl, hb2⟩
  have hk := belT hb1 hb2
  go_wp2_with fail
  go_ret
  exact ⟨rfl, by repeat (first | exact Below.refl _ _ | assumption | exact bel1 (by assumption) | exact bel2 (by assumption) | exact bel3 (by assumption) | exact bel4 (by assumption) | refine Below.drew ?_ | refine below_drewN ?_ _ | refine Below.setCell ?_ (by first | (simp; done) | (simp; omega)) _ | refine Below.alloc ?_ (by first | (simp; done) | (simp; omega)) _)⟩
end Go.Proofs.YtlmaeadbomnhlaaGreat
