/- What the laws ask of desks: is one that is none like another one. -/
import Derived.Test.YtlmaeadbomnhlaaGreatQF
namespace Go.Proofs.YtlmaeadbomnhlaaGreat
set_option linter.unusedSimpArgs false
set_option linter.unusedVariables false
open Go.RowKit

set_option maxHeartbeats 400000 in
theorem sameRows_off (A B : Option Addr) (c k m n : Nat) (hne : m ≠ n) (w : World) : Calls Tryz.prog 21 #[.slice A m c, .slice B n k] w (Same (.bool false) w) := by
  have z : ((m : Int) != (n : Int)) = true := by rw [bne_iff_ne]; omega
  clear hne
  go_enter Tryz.func21, Tryz.ntmps21
  go_wp2_with fail
  go_ret
  exact Same.of rfl

set_option maxHeartbeats 2000000 in
theorem sameDesk_zero (A B A' B' : Option Addr) (c k c' k' n m : Nat) (w : World) :
    Calls Tryz.prog 7 #[.agg #[.slice A 0 c, .slice B 0 k], .agg #[.slice A' n c', .slice B' m k']] w fun e w' => ∃ b : Bool, e = .returned (.bool b) ∧ Below w.heap.size w w' := by
  obtain ⟨W, hW⟩ : ∃ W : World, W = (w.alloc (.cells #[.slice A 0 c, .slice B 0 k] 26)).alloc (.cells #[.slice A' n c', .slice B' m k'] 26) := ⟨_, rfl⟩
  have hbW : Below w.heap.size w W := by rw [hW]; exact ((Below.refl _ _).alloc (Nat.le_refl _) _).alloc (by simp) _
  have a0 : W.cell? ⟨w.heap.size, 0, none⟩ = some (.slice A 0 c) := by rw [hW]; simp [go_sem]
  have a1 : W.cell? ⟨w.heap.size, 1, none⟩ = some (.slice B 0 k) := by rw [hW]; simp [go_sem]
  have b0 : W.cell? ⟨w.heap.size + 1, 0, none⟩ = some (.slice A' n c') := by rw [hW]; simp [go_sem]
  have b1 : W.cell? ⟨w.heap.size + 1, 1, none⟩ = some (.slice B' m k') := by rw [hW]; simp [go_sem]
  have HBW := Lib.hid hbW
  clear hbW
  by_cases hn : n = 0
  · subst hn
    have HS : Hid (Calls Tryz.prog 21 #[.slice A 0 c, .slice A' 0 c'] W (Quiet (.bool true) W)) := sameRows A A' c c' [] (fun _ => True) (fun _ => True) (by simp) W (fun h => absurd h (by simp)) (fun h => absurd h (by simp))
    by_cases hm : m = 0
    · subst hm
      go_enter Tryz.func7, Tryz.ntmps7
      go_wp2_with fail
      try rw [← hW]
      clear hW
      refine HS.out.mono ?_
      rintro e w1 ⟨rfl, n0, rfl⟩
      have a1' : (W.drewN n0).cell? ⟨w.heap.size, 1, none⟩ = some (.slice B 0 k) := a1
      have b1' : (W.drewN n0).cell? ⟨w.heap.size + 1, 1, none⟩ = some (.slice B' 0 k') := b1
      clear a0 b0
      go_wp2_with fail
      go_loopw [5] (fun i wr => i = .int .i64 0 ∧ wr = W.drewN n0) (fun _ _ => 0)
      case atStart => exact ⟨rfl, rfl⟩
      case round =>
        obtain ⟨rfl, rfl⟩ := hrel
        go_wp2_with fail
        go_ret
        exact ⟨_, rfl, below_drewN HBW.out n0⟩
    · have z : ((0 : Int) != (m : Int)) = true := by rw [bne_iff_ne]; omega
      clear hm
      go_enter Tryz.func7, Tryz.ntmps7
      go_wp2_with fail
      try rw [← hW]
      clear hW
      refine HS.out.mono ?_
      rintro e w1 ⟨rfl, n0, rfl⟩
      have a1' : (W.drewN n0).cell? ⟨w.heap.size, 1, none⟩ = some (.slice B 0 k) := a1
      have b1' : (W.drewN n0).cell? ⟨w.heap.size + 1, 1, none⟩ = some (.slice B' m k') := b1
      clear a0 b0
      go_wp2_with fail
      go_ret
      exact ⟨_, rfl, below_drewN HBW.out n0⟩
  · have HS : Hid (Calls Tryz.prog 21 #[.slice A 0 c, .slice A' n c'] W (Same (.bool false) W)) := sameRows_off A A' c c' 0 n (fun e => hn e.symm) W
    go_enter Tryz.func7, Tryz.ntmps7
    go_wp2_with fail
    try rw [← hW]
    clear hW
    refine HS.out.mono ?_
    rintro e w1 ⟨rfl, rfl⟩
    go_wp2_with fail
    go_ret
    exact ⟨_, rfl, HBW.out⟩

end Go.Proofs.YtlmaeadbomnhlaaGreat
