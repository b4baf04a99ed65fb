/- Texts in one: DeskK, DrawJa, LawT, LawG, LawJa, LawJb. -/
import Derived.Test.YtlmaeadbomnhlaaGreatQA
import Derived.Test.YtlmaeadbomnhlaaGreatMH
import Derived.Test.YtlmaeadbomnhlaaGreatMG
import Derived.Test.YtlmaeadbomnhlaaGreatQE
namespace Go.Proofs.YtlmaeadbomnhlaaGreat
set_option linter.unusedSimpArgs false
set_option linter.unusedVariables false
open Go.RowKit
set_option maxHeartbeats 4000000 in
set_option maxRecDepth 100000 in
theorem sameDesk_c (A B A' B' : Option Addr) (c k c' k' : Nat) (d : Dk) (hx : d.now.length ≤ maxLen) (hy : d.past.length ≤ maxLen) (w : World) (h1 : Rows2 w (· < w.heap.size) A d.now) (h2 : Rows3 w (· < w.heap.size) B d.past) (h3 : Rows2 w (· < w.heap.size) A' d.now) (h4 : Rows3 w (· < w.heap.size) B' d.past) :
    Calls Tryz.prog 7 #[.agg #[.slice A d.now.length c, .slice B d.past.length k], .agg #[.slice A' d.now.length c', .slice B' d.past.length k']] w (Adds (.bool true) w) := by
  have hy' := hy
  unfold maxLen at hy'
  obtain ⟨W, hW⟩ : ∃ W : World, W = (w.alloc (.cells #[.slice A d.now.length c, .slice B d.past.length k] 26)).alloc (.cells #[.slice A' d.now.length c', .slice B' d.past.length k'] 26) := ⟨_, rfl⟩
  have hbW : Below w.heap.size w W := by rw [hW]; exact ((Below.refl _ _).alloc (Nat.le_refl _) _).alloc (by simp) _
  have a0 : W.cell? ⟨w.heap.size, 0, none⟩ = some (.slice A d.now.length c) := by rw [hW]; simp [go_sem]
  have a1 : W.cell? ⟨w.heap.size, 1, none⟩ = some (.slice B d.past.length k) := by rw [hW]; simp [go_sem]
  have b0 : W.cell? ⟨w.heap.size + 1, 0, none⟩ = some (.slice A' d.now.length c') := by rw [hW]; simp [go_sem]
  have b1 : W.cell? ⟨w.heap.size + 1, 1, none⟩ = some (.slice B' d.past.length k') := by rw [hW]; simp [go_sem]
  have H1 := Lib.hid (keepRows hbW h1)
  have H2 := Lib.hid (keepTabs hbW h2)
  have H3 := Lib.hid (keepRows hbW h3)
  have H4 := Lib.hid (keepTabs hbW h4)
  have HBW := Lib.hid hbW
  have z1 : ((d.past.length : Int) != (d.past.length : Int)) = false := by simp
  clear h1 h2 h3 h4 hbW
  go_enter Tryz.func7, Tryz.ntmps7
  go_wp2_with fail
  try rw [← hW]
  clear hW
  refine (sameRows _ _ _ _ d.now _ _ hx _ H1.out H3.out).mono ?_
  rintro e w1 ⟨rfl, n0, rfl⟩
  have HA := Lib.hid (And.intro a1 b1)
  have a1' : (W.drewN n0).cell? ⟨w.heap.size, 1, none⟩ = some (.slice B d.past.length k) := a1
  have b1' : (W.drewN n0).cell? ⟨w.heap.size + 1, 1, none⟩ = some (.slice B' d.past.length k') := b1
  clear a0 b0 a1 b1
  go_wp2_with fail
  clear a1' b1'
  go_loopw [5] (fun i wr => ∃ j : Nat, j ≤ d.past.length ∧ i = .int .i64 j ∧ ∃ n, wr = W.drewN n) (fun i _ => d.past.length - (intOf i).toNat)
  case atStart => exact ⟨0, Nat.zero_le _, rfl, ⟨_, rfl⟩⟩
  case round =>
    obtain ⟨j, hj, rfl, n, rfl⟩ := hrel
    have c1 : (W.drewN n).cell? ⟨w.heap.size, 1, none⟩ = some (.slice B d.past.length k) := HA.out.1
    have d1 : (W.drewN n).cell? ⟨w.heap.size + 1, 1, none⟩ = some (.slice B' d.past.length k') := HA.out.2
    have e1 := HA.out.1
    have e2 := HA.out.2
    by_cases hlt : j < d.past.length
    · obtain ⟨b, off, rfl⟩ := H2.out.some (by omega)
      obtain ⟨b', off', rfl⟩ := H4.out.some (by omega)
      obtain ⟨hS, Aj, cj, hcj, hlj, hmj, hij⟩ := H2.out.tab hlt
      obtain ⟨hS', Bj, dj, hdj, hlj', hmj', hij'⟩ := H4.out.tab hlt
      have HI := Lib.hid hij
      have HJ := Lib.hid hij'
      have hm2 := Nat.le_trans hlj hmj
      clear hij hij'
      unfold maxLen at hmj hmj'
      go_wp2_with fail
      go_quiet ((go_at_call 21; exact quietAdd (sameRows _ _ _ _ (tabAt d.past j) _ _ hm2 _ (HI.out.drewN _) (HJ.out.drewN _))))
      go_wp2_with fail
      go_roundw
      case rel => exact ⟨j + 1, by omega, by go_num, ⟨_, rfl⟩⟩
      case measure => simp [intOf]; omega
    · obtain rfl : j = d.past.length := by omega
      go_wp2_with fail
      go_ret
      exact Adds.of rfl (below_drewN HBW.out n)
end Go.Proofs.YtlmaeadbomnhlaaGreat

namespace Go.Proofs.YtlmaeadbomnhlaaGreat
set_option linter.unusedSimpArgs false
set_option linter.unusedVariables false
open Go.RowKit
end Go.Proofs.YtlmaeadbomnhlaaGreat

namespace Go.Proofs.YtlmaeadbomnhlaaGreat
set_option linter.unusedSimpArgs false
set_option linter.unusedVariables false
open Go.RowKit
theorem byte_len {w : World} {a : Option Addr} {len cap : Nat} {zs : List Int} (h : IsRow .u8 w a len cap zs) : len ≤ 9223372036854775807 := by
  rcases h with ⟨_, rfl, _, _⟩ | ⟨x, _, h1, h2, _⟩
  · omega
  · unfold maxLen at h2; omega
end Go.Proofs.YtlmaeadbomnhlaaGreat

namespace Go.Proofs.YtlmaeadbomnhlaaGreat
set_option linter.unusedSimpArgs false
set_option linter.unusedVariables false
open Go.RowKit
theorem oneRow {w : World} {b b' : Nat} {x : Int} {S : Nat → Prop} (h1 : w.cell? ⟨b, 0, none⟩ = some (.slice (some ⟨b', 0, none⟩) 1 1)) (h2 : w.cell? ⟨b', 0, none⟩ = some (.int .i64 x)) (hb : S b) (hb' : S b') : Rows2 w S (some ⟨b, 0, none⟩) [[x]] := by
  intro _
  refine ⟨b, 0, rfl, hb, fun i hi => ?_⟩
  have e : i = 0 := by simpa using hi
  subst e
  refine ⟨some ⟨b', 0, none⟩, 1, h1, Nat.le_refl _, by unfold maxLen; omega, fun _ => ⟨b', 0, rfl, hb', fun j hj => ?_⟩⟩
  have e : j = 0 := by have : j < 1 := hj; omega
  subst e
  exact h2
end Go.Proofs.YtlmaeadbomnhlaaGreat

namespace Go.Proofs.YtlmaeadbomnhlaaGreat
set_option linter.unusedSimpArgs false
set_option linter.unusedVariables false
open Go.RowKit
end Go.Proofs.YtlmaeadbomnhlaaGreat

namespace Go.Proofs.YtlmaeadbomnhlaaGreat
set_option linter.unusedSimpArgs false
set_option linter.unusedVariables false
open Go.RowKit
end Go.Proofs.YtlmaeadbomnhlaaGreat
