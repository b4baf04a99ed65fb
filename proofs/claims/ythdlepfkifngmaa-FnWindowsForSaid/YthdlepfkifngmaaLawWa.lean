/- The walk of the law of WindowsFor, over contracts of the program's functions. (Written by wip/gen/law7.py.) -/
import Derived.Test.YthdlepfkifngmaaMV
import Derived.Test.YthdlepfkifngmaaMT
import Derived.Test.YthdlepfkifngmaaDrawWn
import Derived.Test.YthdlepfkifngmaaLawT
import Derived.Test.YthdlepfkifngmaaMA
namespace Go.Proofs.Ythdlepfkifngmaa
set_option linter.unusedSimpArgs false
set_option linter.unusedVariables false
open Go.RowKit

theorem set_01 {l : List Int} (h : ∀ i, i < l.length → 0 ≤ nth l i ∧ nth l i ≤ 1) (k : Nat) : ∀ i, i < (l.set k 1).length → 0 ≤ nth (l.set k 1) i ∧ nth (l.set k 1) i ≤ 1 := by
  intro i hi
  rw [List.length_set] at hi
  rw [nth_setk _ _ _ _ hi]
  split
  · omega
  · exact h i hi

theorem lookTo_01 (m n k : Nat) : ∀ i, i < (lookTo m n k).length → 0 ≤ nth (lookTo m n k) i ∧ nth (lookTo m n k) i ≤ 1 := by
  induction k with
  | zero => intro i _; show 0 ≤ nth (List.replicate _ 0) i ∧ nth (List.replicate _ 0) i ≤ 1; rw [nth_zeros]; omega
  | succ k ih => exact set_01 ih _

theorem hideTo_01 (m n k : Nat) : ∀ i, i < (hideTo m n k).length → 0 ≤ nth (hideTo m n k) i ∧ nth (hideTo m n k) i ≤ 1 := by
  induction k with
  | zero => intro i _; show 0 ≤ nth (List.replicate _ 0) i ∧ nth (List.replicate _ 0) i ≤ 1; rw [nth_zeros]; omega
  | succ k ih => exact set_01 ih _

theorem look_01 (c d : Int) (i : Nat) : i < (lookL c d).length → 0 ≤ nth (lookL c d) i ∧ nth (lookL c d) i ≤ 1 := by
  rcases hb : winB c d with _ | _
  · rw [(win_no hb).2.2.2.1]; intro h; simp at h
  · obtain ⟨m, n, rfl, rfl, _⟩ := win_nat hb
    rw [(win_yes hb).2.2.2.1]; exact lookTo_01 _ _ _ i

theorem hide_01 (c d : Int) (i : Nat) : i < (hideL c d).length → 0 ≤ nth (hideL c d) i ∧ nth (hideL c d) i ≤ 1 := by
  rcases hb : winB c d with _ | _
  · rw [(win_no hb).2.2.2.2]; intro h; simp at h
  · obtain ⟨m, n, rfl, rfl, _⟩ := win_nat hb
    rw [(win_yes hb).2.2.2.2]; exact hideTo_01 _ _ _ i

theorem sum_small {l : List Int} (h : l.length ≤ 16) (h1 : ∀ i, i < l.length → 0 ≤ nth l i ∧ nth l i ≤ 1) (k : Nat) (hk : k ≤ l.length) : 0 ≤ sumW l k ∧ sumW l k ≤ k := by
  induction k with
  | zero => simp [sumW]
  | succ k ih =>
    have a := ih (by omega)
    have b := h1 k (by omega)
    simp only [sumW]; omega

theorem look_sums (c d : Int) : ∀ k, k ≤ (lookL c d).length → 0 ≤ sumW (lookL c d) k ∧ sumW (lookL c d) k ≤ 16 := by
  intro k hk
  have h := lookL_len c d
  have a := sum_small (l := lookL c d) h (fun i hi => look_01 c d i hi) k hk
  omega

theorem hide_sums (c d : Int) : ∀ k, k ≤ (hideL c d).length → 0 ≤ sumW (hideL c d) k ∧ sumW (hideL c d) k ≤ 16 := by
  intro k hk
  have h := hideL_len c d
  have a := sum_small (l := hideL c d) h (fun i hi => hide_01 c d i hi) k hk
  omega

set_option maxHeartbeats 4000000 in
set_option maxRecDepth 100000 in
theorem wFnWindowsFor (I : Impl7) (a : Option Addr) (len cap : Nat) (zs : List Int) (w : World) (h : IsRow .u8 w a len cap zs) :
    Calls Try.prog 4 #[.slice a len cap] w fun e w' => e = .returned (.bool true) ∧ Below w.heap.size w w' := by
  have hle := byte_len h
  by_cases hbig : (1048576 : Int) < (len : Int)
  · go_enter Try.func4, Try.ntmps4
    go_wp2_with fail
    go_ret
    exact ⟨rfl, Below.refl _ _⟩
  go_enter Try.func4, Try.ntmps4
  go_wp2_with fail
  refine (dDrawWindowsFor a len cap zs w h).mono ?_
  rintro e w1 ⟨c, d, rfl, ⟨p1, p2, p3, p4⟩, hb1⟩
  clear hbig hle
  have BEL0 := Lib.hid hb1
  have f1 := wf_small (x := c) (by omega) (by omega)
  have f2 := wf_small (x := d) (by omega) (by omega)
  clear hb1
  go_wp2_with fail
  refine (I.wins c d f1 f2 _).mono ?_
  rintro e w2 ⟨rfl, hb2⟩
  replace BEL0 := Lib.hid (belT BEL0.out hb2)
  clear hb2
  go_wp2_with fail
  refine (winsFor_spec c d _).mono ?_
  rintro e wz ⟨rfl, rfl⟩
  have zV : (winV c d != winV c d) = false := by simp
  rcases hb : winB c d with _ | _
  · skip
    have HN := Lib.hid (win_no hb)
    clear hb
    have hv : winV c d = -1 := HN.out.2.2.1
    rw [hv]
    rw [hv] at zV
    clear hv
    go_wp2_with fail
    refine (alive _).mono ?_
    rintro e w9 ⟨rfl, hb9⟩
    have hb8 := Lib.hid (belT (w := w2) (by exact (by repeat (first | exact Below.refl _ _ | assumption | exact bel1 (by assumption) | exact bel2 (by assumption) | exact bel3 (by assumption) | exact bel4 (by assumption) | refine Below.drew ?_ | refine below_drewN ?_ _ | refine Below.setCell ?_ (by first | (simp; done) | (simp; omega)) _ | refine Below.alloc ?_ (by first | (simp; done) | (simp; omega)) _))) hb9)
    clear hb9
    go_wp2_with fail
    go_ret
    exact ⟨by first | rfl | (simp; done) | (simp; omega), belT BEL0.out hb8.out⟩
  have HF := Lib.hid (win_facts hb)
  have hcd := winB_iff.1 hb
  have hlo := HF.out.lo
  have hneg : decide (winV c d < 0) = false := decide_eq_false (by omega)
  have HL := Lib.hid (lookL_len c d)
  have HH := Lib.hid (hideL_len c d)
  have HBX0 := Lib.hid (look_sums c d)
  have HBY0 := Lib.hid (hide_sums c d)
  clear hb
  go_wp2_with fail
  refine (I.look c d f1 f2 _).mono ?_
  rintro e w3 ⟨TX0, cX0, rfl, hb3, ho3⟩
  have X0 : Hid (Ints w3 (· < w3.heap.size) TX0 _) := own_lt ho3
  replace BEL0 := Lib.hid (belT BEL0.out hb3)
  clear hb3 ho3
  go_wp2_with fail
  go_loop [6, 8] (fun v i => ∃ k : Nat, k ≤ (lookL c d).length ∧ i = .int .i64 k ∧ v = .int .i64 (sumW (lookL c d) k)) (fun _ i => (lookL c d).length - (intOf i).toNat)
  case atStart => exact ⟨0, Nat.zero_le _, rfl, rfl⟩
  case round =>
    obtain ⟨k, hk, rfl, rfl⟩ := hrel
    by_cases hlt : k < (lookL c d).length
    · obtain ⟨b', o', e', _, hc⟩ := X0.out.at_ hlt
      subst e'
      have hck := hc k hlt
      have hsm : sumW (lookL c d) k + nth (lookL c d) k = sumW (lookL c d) (k + 1) := rfl
      have hbd := HBX0.out (k + 1) (by omega)
      have hl16 : (lookL c d).length ≤ 16 := by first | exact lookL_len c d | exact hideL_len c d
      have hw : IntKind.i64.wrap (sumW (lookL c d) (k + 1)) = sumW (lookL c d) (k + 1) := IntWalk.i64_in _ ⟨by omega, by omega⟩
      clear hc
      go_wp2_with fail
      go_round
      case rel => exact ⟨k + 1, by omega, by go_num, by first | rfl | rw [hsm]⟩
      case measure => simp [intOf]; omega
    · obtain rfl : k = (lookL c d).length := by omega
      rw [HF.out.suml]
      go_wp2_with fail
      refine (I.hide c d f1 f2 _).mono ?_
      rintro e w4 ⟨TY0, cY0, rfl, hb4, ho4⟩
      have Y0 : Hid (Ints w4 (· < w4.heap.size) TY0 _) := own_lt ho4
      replace X0 := Lib.hid (stillInts X0.out hb4)
      replace BEL0 := Lib.hid (belT BEL0.out hb4)
      clear hb4 ho4
      go_wp2_with fail
      go_loop [9, 11] (fun v i => ∃ k : Nat, k ≤ (hideL c d).length ∧ i = .int .i64 k ∧ v = .int .i64 (sumW (hideL c d) k)) (fun _ i => (hideL c d).length - (intOf i).toNat)
      case atStart => exact ⟨0, Nat.zero_le _, rfl, rfl⟩
      case round =>
        obtain ⟨k, hk, rfl, rfl⟩ := hrel
        by_cases hlt : k < (hideL c d).length
        · obtain ⟨b', o', e', _, hc⟩ := Y0.out.at_ hlt
          subst e'
          have hck := hc k hlt
          have hsm : sumW (hideL c d) k + nth (hideL c d) k = sumW (hideL c d) (k + 1) := rfl
          have hbd := HBY0.out (k + 1) (by omega)
          have hl16 : (hideL c d).length ≤ 16 := by first | exact lookL_len c d | exact hideL_len c d
          have hw : IntKind.i64.wrap (sumW (hideL c d) (k + 1)) = sumW (hideL c d) (k + 1) := IntWalk.i64_in _ ⟨by omega, by omega⟩
          clear hc
          go_wp2_with fail
          go_round
          case rel => exact ⟨k + 1, by omega, by go_num, by first | rfl | rw [hsm]⟩
          case measure => simp [intOf]; omega
        · obtain rfl : k = (hideL c d).length := by omega
          rw [HF.out.sumh]
          have hge : decide (1 ≤ winV c d) = true := decide_eq_true hlo
          have zz : (winV c d == winV c d) = true := by simp
          go_wp2_with fail
          go_ret
          exact ⟨by first | rfl | (simp; done), BEL0.out⟩

end Go.Proofs.Ythdlepfkifngmaa
