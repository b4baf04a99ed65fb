/- Texts in one: DeskIf, DeskIg, ConcatT, DeskIh, DeskIi. -/
import Derived.Test.YtlmaeadbomnhlabDoorQG
import Derived.Test.YtlmaeadbomnhlabDoorQD
import Derived.Test.YtlmaeadbomnhlabDoorMK
import Derived.Test.YtlmaeadbomnhlabDoorNI
import Derived.Test.YtlmaeadbomnhlabDoorMC
import Derived.Test.YtlmaeadbomnhlabDoorQB
import Derived.Test.YtlmaeadbomnhlabDoorOE
namespace Go.Proofs.YtlmaeadbomnhlabDoor
set_option linter.unusedSimpArgs false
set_option linter.unusedVariables false
open Go.RowKit

/-- are all numbers 0 that a deed's kind does not name -/
def plainB (a : Dd) : Bool := decide (a.kind = 0 ∨ (a.row = 0 ∧ a.col = 0 ∧ (a.kind = 2 ∨ a.num = 0)))

theorem plainB_iff {a : Dd} : plainB a = true ↔ (a.kind = 0 ∨ (a.row = 0 ∧ a.col = 0 ∧ (a.kind = 2 ∨ a.num = 0))) := by unfold plainB; rw [decide_eq_true_eq]

/-- a deed in a block of its own -/
theorem deed_box (w : World) (k r c n : Int) : ∃ W, W = w.alloc (.cells #[.int .i64 k, .int .i64 r, .int .i64 c, .int .i64 n] 25) ∧ Below w.heap.size w W ∧ W.heap.size = w.heap.size + 1 ∧
    (W.cell? ⟨w.heap.size, 0, none⟩ = some (.int .i64 k) ∧ W.cell? ⟨w.heap.size, 1, none⟩ = some (.int .i64 r) ∧ W.cell? ⟨w.heap.size, 2, none⟩ = some (.int .i64 c) ∧ W.cell? ⟨w.heap.size, 3, none⟩ = some (.int .i64 n)) :=
  ⟨_, rfl, (Below.refl _ _).alloc (Nat.le_refl _) _, by simp, by simp [go_sem], by simp [go_sem], by simp [go_sem], by simp [go_sem]⟩

set_option maxHeartbeats 2000000 in
theorem plain_impl (a : Dd) (w : World) : Calls Tryd.prog 36 #[ddV a] w (Adds (.bool (plainB a)) w) := by
  obtain ⟨P, hP⟩ : ∃ P, plainB a = P := ⟨_, rfl⟩
  rw [hP]
  have HP : Hid ((a.kind = 0 ∨ (a.row = 0 ∧ a.col = 0 ∧ (a.kind = 2 ∨ a.num = 0))) ↔ P = true) := by show _ ↔ _; rw [← hP, plainB_iff]
  clear hP
  obtain ⟨kind, row, col, num⟩ := a
  unfold ddV
  simp only at HP ⊢
  obtain ⟨W, hW, hbW, hzW, c0, c1, c2, c3⟩ := deed_box w kind row col num
  have HBW := Lib.hid hbW
  clear hbW hzW
  by_cases k0 : kind = 0
  · have e0 : (kind == 0) = true := by rw [beq_iff_eq]; omega
    have HG : Hid (P = true) := HP.out.1 (by omega)
    clear HP k0
    go_enter Tryd.func36, Tryd.ntmps36
    go_wp2_with fail
    go_ret
    rw [← hW]
    exact Adds.of (by rw [HG.out]; rfl) HBW.out
  · have e0 : (kind == 0) = false := by rw [beq_eq_false_iff_ne]; omega
    by_cases k2 : kind = 2
    · have e2 : (kind == 2) = true := by rw [beq_iff_eq]; omega
      by_cases r0 : row = 0
      · have e3 : (row == 0) = true := by rw [beq_iff_eq]; omega
        by_cases q0 : col = 0
        · have e4 : (col == 0) = true := by rw [beq_iff_eq]; omega
          have HG : Hid (P = true) := HP.out.1 (by omega)
          clear HP k0 k2 r0 q0
          go_enter Tryd.func36, Tryd.ntmps36
          go_wp2_with fail
          go_ret
          rw [← hW]
          exact Adds.of (by rw [HG.out]; rfl) HBW.out
        · have e4 : (col == 0) = false := by rw [beq_eq_false_iff_ne]; omega
          have HG : Hid (P = false) := (Bool.eq_false_iff.2 fun hh => by have := HP.out.2 hh; omega)
          clear HP k0 k2 r0 q0
          go_enter Tryd.func36, Tryd.ntmps36
          go_wp2_with fail
          go_ret
          rw [← hW]
          exact Adds.of (by rw [HG.out]; rfl) HBW.out
      · have e3 : (row == 0) = false := by rw [beq_eq_false_iff_ne]; omega
        have HG : Hid (P = false) := (Bool.eq_false_iff.2 fun hh => by have := HP.out.2 hh; omega)
        clear HP k0 k2 r0
        go_enter Tryd.func36, Tryd.ntmps36
        go_wp2_with fail
        go_ret
        rw [← hW]
        exact Adds.of (by rw [HG.out]; rfl) HBW.out
    · have e2 : (kind == 2) = false := by rw [beq_eq_false_iff_ne]; omega
      by_cases r0 : row = 0
      · have e3 : (row == 0) = true := by rw [beq_iff_eq]; omega
        by_cases q0 : col = 0
        · have e4 : (col == 0) = true := by rw [beq_iff_eq]; omega
          by_cases n0 : num = 0
          · have e5 : (num == 0) = true := by rw [beq_iff_eq]; omega
            have HG : Hid (P = true) := HP.out.1 (by omega)
            clear HP k0 k2 r0 q0 n0
            go_enter Tryd.func36, Tryd.ntmps36
            go_wp2_with fail
            go_ret
            rw [← hW]
            exact Adds.of (by rw [HG.out]; rfl) HBW.out
          · have e5 : (num == 0) = false := by rw [beq_eq_false_iff_ne]; omega
            have HG : Hid (P = false) := (Bool.eq_false_iff.2 fun hh => by have := HP.out.2 hh; omega)
            clear HP k0 k2 r0 q0 n0
            go_enter Tryd.func36, Tryd.ntmps36
            go_wp2_with fail
            go_ret
            rw [← hW]
            exact Adds.of (by rw [HG.out]; rfl) HBW.out
        · have e4 : (col == 0) = false := by rw [beq_eq_false_iff_ne]; omega
          have HG : Hid (P = false) := (Bool.eq_false_iff.2 fun hh => by have := HP.out.2 hh; omega)
          clear HP k0 k2 r0 q0
          go_enter Tryd.func36, Tryd.ntmps36
          go_wp2_with fail
          go_ret
          rw [← hW]
          exact Adds.of (by rw [HG.out]; rfl) HBW.out
      · have e3 : (row == 0) = false := by rw [beq_eq_false_iff_ne]; omega
        have HG : Hid (P = false) := (Bool.eq_false_iff.2 fun hh => by have := HP.out.2 hh; omega)
        clear HP k0 k2 r0
        go_enter Tryd.func36, Tryd.ntmps36
        go_wp2_with fail
        go_ret
        rw [← hW]
        exact Adds.of (by rw [HG.out]; rfl) HBW.out

end Go.Proofs.YtlmaeadbomnhlabDoor

namespace Go.Proofs.YtlmaeadbomnhlabDoor
set_option linter.unusedSimpArgs false
set_option linter.unusedVariables false
open Go.RowKit



end Go.Proofs.YtlmaeadbomnhlabDoor

namespace Go.Proofs.YtlmaeadbomnhlabDoor
set_option linter.unusedSimpArgs false
set_option linter.unusedVariables false
open Go.RowKit



end Go.Proofs.YtlmaeadbomnhlabDoor

namespace Go.Proofs.YtlmaeadbomnhlabDoor
set_option linter.unusedSimpArgs false
set_option linter.unusedVariables false
open Go.RowKit



end Go.Proofs.YtlmaeadbomnhlabDoor

namespace Go.Proofs.YtlmaeadbomnhlabDoor
set_option linter.unusedSimpArgs false
set_option linter.unusedVariables false
open Go.RowKit



end Go.Proofs.YtlmaeadbomnhlabDoor
