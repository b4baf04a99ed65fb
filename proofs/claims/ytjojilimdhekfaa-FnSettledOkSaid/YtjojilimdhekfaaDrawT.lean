/- A table is drawn out of a code; the comparisons of the laws. (Written by wip/gen/drawt.py.) -/
import Derived.Test.YtjojilimdhekfaaDrawG
import Derived.Test.YtjojilimdhekfaaGmath2
import Derived.Test.YtjojilimdhekfaaTurnS
namespace Go.Proofs.Ytjojilimdhekfaa
set_option linter.unusedSimpArgs false
set_option linter.unusedVariables false
open Go.RowKit

/-- what a drawn table is -/
def DrawnT (w : World) (e : Ending) (w' : World) : Prop :=
  ∃ (g : List (List Int)) (T : Option Addr) (c : Nat), e = .returned (.slice T g.length c) ∧ g.length ≤ c ∧ c ≤ maxLen ∧ g.length ≤ 17 ∧ (∀ i, i < g.length → (rowAt g i).length ≤ 16) ∧ Below w.heap.size w w' ∧ OwnR w' w.heap.size w'.heap.size T g

theorem DrawnT.of {w w1 : World} {a : Option Addr} {len cap : Nat} {zs : List Int} {e : Ending} {w' : World} (hb : Below w.heap.size w w1) (hR : Reader w.heap.size w1 a len cap zs 0) (h : DrawnG w.heap.size w1 a len cap zs 0 e w') : DrawnT w e w' := by
  obtain ⟨g, T, c, p', he, h1, h2, h3, h4, hK, _, _, _, ho⟩ := h
  exact ⟨g, T, c, he, h1, h2, h3, h4, hb.trans (hK.below (Nat.le_refl _) hb.size), ho.more hb.size (Nat.le_refl _)⟩

set_option maxHeartbeats 1000000 in
theorem sameInts (A B : Option Addr) (c d : Nat) (l : List Int) (S T : Nat → Prop) (hl : l.length ≤ maxLen) (w : World) (h : Ints w S A l) (h' : Ints w T B l) :
    Calls Try.prog 32 #[.slice A l.length c, .slice B l.length d] w (Quiet (.bool true) w) := by
  unfold maxLen at hl
  have z1 : ((l.length : Int) != (l.length : Int)) = false := by simp
  have HH := Lib.hid h
  have HK := Lib.hid h'
  clear h h'
  go_enter Try.func32, Try.ntmps32
  go_wp2_with fail
  go_loopw [5] (fun i wr => ∃ k : Nat, k ≤ l.length ∧ i = .int .i64 k ∧ ∃ n, wr = w.drewN n) (fun i _ => l.length - (intOf i).toNat)
  case atStart => exact ⟨0, Nat.zero_le _, rfl, (by first | exact ⟨0, rfl⟩ | exact ⟨_, rfl⟩ | exact ⟨_, World.drewN_drewN _ _ _⟩ | (simp only [World.drewN_drewN]; exact ⟨_, rfl⟩))⟩
  case round =>
    obtain ⟨k, hk, rfl, n, rfl⟩ := hrel
    by_cases hlt : k < l.length
    · obtain ⟨b, off, rfl, hS, hc⟩ := HH.out.at_ hlt
      obtain ⟨b', off', rfl, hS', hc'⟩ := HK.out.at_ hlt
      have hck := hc k hlt
      have hck' := hc' k hlt
      have z2 : (nth l k != nth l k) = false := by simp
      clear hc hc'
      go_wp2_with fail
      go_quiet (fail)
      go_wp2_with fail
      go_roundw
      case rel => exact ⟨k + 1, by omega, by go_num, (by first | exact ⟨0, rfl⟩ | exact ⟨_, rfl⟩ | exact ⟨_, World.drewN_drewN _ _ _⟩ | (simp only [World.drewN_drewN]; exact ⟨_, rfl⟩))⟩
      case measure => simp [intOf]; omega
    · obtain rfl : k = l.length := by omega
      go_wp2_with fail
      go_ret
      exact Quiet.ofD rfl (by first | exact ⟨0, rfl⟩ | exact ⟨_, rfl⟩ | exact ⟨_, World.drewN_drewN _ _ _⟩ | (simp only [World.drewN_drewN]; exact ⟨_, rfl⟩))

set_option maxHeartbeats 1000000 in
theorem ascend (A : Option Addr) (c : Nat) (l : List Int) (S : Nat → Prop) (hl : l.length ≤ 4294967296) (hs : l.Pairwise (· < ·)) (w : World) (h : Ints w S A l) :
    Calls Try.prog 34 #[.slice A l.length c] w (Quiet (.bool true) w) := by
  have HH := Lib.hid h
  have HS := Lib.hid hs
  clear h hs
  go_enter Try.func34, Try.ntmps34
  go_wp2_with fail
  go_loopw [3] (fun i wr => ∃ k : Nat, (1 : Int) ≤ k ∧ i = .int .i64 k ∧ ∃ n, wr = w.drewN n) (fun i _ => l.length - (intOf i).toNat)
  case atStart => exact ⟨1, by omega, rfl, (by first | exact ⟨0, rfl⟩ | exact ⟨_, rfl⟩ | exact ⟨_, World.drewN_drewN _ _ _⟩ | (simp only [World.drewN_drewN]; exact ⟨_, rfl⟩))⟩
  case round =>
    obtain ⟨k, hk, rfl, n, rfl⟩ := hrel
    by_cases hlt : k < l.length
    · obtain ⟨b, off, rfl, hS, hc⟩ := HH.out.at_ hlt
      have hck := hc k hlt
      have hck' := hc (k - 1) (by omega)
      have hlt' := sorted_nth HS.out (i := k - 1) (j := k) (by omega) hlt
      have z : decide (nth l k ≤ nth l (k - 1)) = false := decide_eq_false (by omega)
      have q1 : IntKind.i64.wrap ((k : Int) - 1) = (k : Int) - 1 := IntWalk.i64_in _ (by omega)
      have q2 : ((k : Int) - 1).toNat = k - 1 := by omega
      have q3 : (0 : Int) ≤ (k : Int) - 1 := by omega
      have q4 : (k : Int) - 1 < (l.length : Int) := by omega
      clear hc hlt'
      go_wp2_with fail
      go_quiet (fail)
      clear q1 q2
      go_wp2_with fail
      go_roundw
      case rel => exact ⟨k + 1, by omega, by go_num, (by first | exact ⟨0, rfl⟩ | exact ⟨_, rfl⟩ | exact ⟨_, World.drewN_drewN _ _ _⟩ | (simp only [World.drewN_drewN]; exact ⟨_, rfl⟩))⟩
      case measure => simp [intOf]; omega
    · go_wp2_with fail
      go_ret
      exact Quiet.ofD rfl (by first | exact ⟨0, rfl⟩ | exact ⟨_, rfl⟩ | exact ⟨_, World.drewN_drewN _ _ _⟩ | (simp only [World.drewN_drewN]; exact ⟨_, rfl⟩))

end Go.Proofs.Ytjojilimdhekfaa
