/- The program's desks: LaidOk, DeskOk. -/
import Derived.Test.YtlmaeadbomnhlaaGreatQB
import Derived.Test.YtlmaeadbomnhlaaGreatMK
namespace Go.Proofs.YtlmaeadbomnhlaaGreat
set_option linter.unusedSimpArgs false
set_option linter.unusedVariables false
open Go.RowKit

theorem laid_solB' (g : List (List Int)) : laidB g = solB' g := by unfold laidB solB'; rw [Bool.and_assoc]

set_option maxHeartbeats 1000000 in
theorem laid_impl (A : Option Addr) (c : Nat) (g : List (List Int)) (S : Nat → Prop) (hl : g.length ≤ maxLen) (w : World) (h : Rows2 w S A g) :
    Calls Tryz.prog 22 #[.slice A g.length c] w (Same (.bool (laidB g)) w) := by
  have HS := Lib.hid (solvedOkI A c g S hl w h)
  rw [laid_solB']
  clear h
  go_enter Tryz.func22, Tryz.ntmps22
  go_wp2_with (go_at_call 43; refine HS.out.mono ?_; rintro e w1 ⟨rfl, rfl⟩)
  go_ret
  exact Same.of rfl

set_option maxHeartbeats 2000000 in
theorem deskOk_impl (A B : Option Addr) (c k : Nat) (d : Dk) (hx : d.now.length ≤ maxLen) (hy : d.past.length ≤ maxLen) (w : World) (h : Rows2 w (· < w.heap.size) A d.now) (h' : Rows3 w (· < w.heap.size) B d.past) :
    Calls Tryz.prog 8 #[dskV A d.now.length c B d.past.length k] w (Adds (.bool (dkB d)) w) := by
  have hy' := hy
  unfold maxLen at hy'
  unfold dskV
  have H1 := Lib.hid h
  have H2 := Lib.hid h'
  clear h h'
  obtain ⟨W, hW, hB, hbW, hzW⟩ := dsk_world w (.slice A d.now.length c) (.slice B d.past.length k)
  have HW := Lib.hid hbW
  have e0 := hB.c0
  have e1 := hB.c1
  clear hB hbW
  go_enter Tryz.func8, Tryz.ntmps8
  go_wp2_with fail
  rw [← hW]
  clear hW
  go_loopw [8] (fun i wr => ∃ j : Nat, j ≤ d.past.length ∧ i = .int .i64 j ∧ Hid (∀ i, i < j → laidB (tabAt d.past i) = true) ∧ wr = W) (fun i _ => d.past.length - (intOf i).toNat)
  case atStart => exact ⟨0, Nat.zero_le _, rfl, fun i hi => absurd hi (Nat.not_lt_zero _), rfl⟩
  case round =>
    obtain ⟨j, hj, rfl, HA, rfl⟩ := hrel
    by_cases hlt : j < d.past.length
    · obtain ⟨b, off, rfl⟩ := H2.out.some (by omega)
      obtain ⟨hS, Aj, cj, hcj, hlj, hmj, hij⟩ := (keepTabs HW.out H2.out).tab hlt
      have HL := Lib.hid (laid_impl Aj cj (tabAt d.past j) _ (Nat.le_trans hlj hmj) _ hij)
      unfold maxLen at hmj
      clear hij
      rcases hb : laidB (tabAt d.past j) with _ | _
      · have HF := Lib.hid (dk_not_past hlt hb)
        rw [hb] at HL
        clear hb
        go_wp2_with (go_at_call 22; refine HL.out.mono ?_; rintro e w1 ⟨rfl, rfl⟩)
        go_ret
        rw [HF.out]
        exact ⟨rfl, HW.out⟩
      · have HN : Hid (∀ i, i < j + 1 → laidB (tabAt d.past i) = true) := fun i hi => by
          by_cases e : i = j
          · rw [e]; exact hb
          · exact HA.out i (by omega)
        rw [hb] at HL
        clear hb
        go_wp2_with (go_at_call 22; refine HL.out.mono ?_; rintro e w1 ⟨rfl, rfl⟩)
        go_roundw
        case rel => exact ⟨j + 1, by omega, by go_num, HN, by trivial⟩
        case measure => simp [intOf]; omega
    · obtain rfl : j = d.past.length := by omega
      have HL := Lib.hid (laid_impl A c d.now _ hx _ (keepRows HW.out H1.out))
      rcases hb : laidB d.now with _ | _
      · have HF := Lib.hid (dk_not_now hb)
        rw [hb] at HL
        clear hb
        go_wp2_with (go_at_call 22; refine HL.out.mono ?_; rintro e w1 ⟨rfl, rfl⟩)
        go_ret
        rw [HF.out]
        exact ⟨rfl, HW.out⟩
      · rw [hb] at HL
        by_cases h8 : d.past.length ≤ 8
        · have gd : decide ((d.past.length : Int) ≤ 8) = true := decide_eq_true (by omega)
          have HF : Hid (dkB d = true) := dkB_iff.2 ⟨pastB_at.2 HA.out, hb, h8⟩
          clear hb
          go_wp2_with (go_at_call 22; refine HL.out.mono ?_; rintro e w1 ⟨rfl, rfl⟩)
          go_ret
          rw [HF.out]
          exact ⟨rfl, HW.out⟩
        · have gd : decide ((d.past.length : Int) ≤ 8) = false := decide_eq_false (by omega)
          have HF := Lib.hid (dk_not_many h8)
          clear hb
          go_wp2_with (go_at_call 22; refine HL.out.mono ?_; rintro e w1 ⟨rfl, rfl⟩)
          go_ret
          rw [HF.out]
          exact ⟨rfl, HW.out⟩

end Go.Proofs.YtlmaeadbomnhlaaGreat
