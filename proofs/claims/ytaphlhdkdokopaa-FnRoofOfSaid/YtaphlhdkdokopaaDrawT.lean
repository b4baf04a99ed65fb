/- A table is drawn out of a code; the comparisons of the laws. (Written by wip/gen/drawt.py.) -/
import Derived.Test.YtaphlhdkdokopaaDrawG
import Derived.Test.YtaphlhdkdokopaaGmath2
import Derived.Test.YtaphlhdkdokopaaTurnS
namespace Go.Proofs.Ytaphlhdkdokopaa
set_option linter.unusedSimpArgs false
set_option linter.unusedVariables false
open Go.RowKit

/-- what a drawn table is -/
def DrawnT (w : World) (e : Ending) (w' : World) : Prop :=
  ∃ (g : List (List Int)) (T : Option Addr) (c : Nat), e = .returned (.slice T g.length c) ∧ g.length ≤ c ∧ c ≤ maxLen ∧ g.length ≤ 17 ∧ (∀ i, i < g.length → (rowAt g i).length ≤ 16) ∧ Below w.heap.size w w' ∧ OwnR w' w.heap.size w'.heap.size T g

theorem DrawnT.of {w w1 : World} {a : Option Addr} {len cap : Nat} {zs : List Int} {e : Ending} {w' : World} (hb : Below w.heap.size w w1) (hR : Reader w.heap.size w1 a len cap zs 0) (h : DrawnG w.heap.size w1 a len cap zs 0 e w') : DrawnT w e w' := by
  obtain ⟨g, T, c, p', he, h1, h2, h3, h4, hK, _, _, _, ho⟩ := h
  exact ⟨g, T, c, he, h1, h2, h3, h4, hb.trans (hK.below (Nat.le_refl _) hb.size), ho.more hb.size (Nat.le_refl _)⟩

set_option maxHeartbeats 400000 in
theorem dDrawGameOk (a : Option Addr) (len cap : Nat) (zs : List Int) (w : World) (h : IsRow .u8 w a len cap zs) :
    Calls Try.prog 13 #[.slice a len cap] w (DrawnT w) := by
  go_enter Try.func13, Try.ntmps13
  go_wp2_with fail
  refine (l20Open a len cap zs w h).mono ?_
  rintro e w1 ⟨rfl, hb1, a1, len1, cap1, zs1, R1⟩
  go_wp2_with fail
  refine (l20Game w.heap.size w1 a1 len1 cap1 zs1 0 5 2 R1 (by omega) (by omega) (by omega) (by omega) (by omega)).mono ?_
  intro e w2 hD
  have HD := Lib.hid (DrawnT.of hb1 R1 hD)
  obtain ⟨g, T, c, rfl, hg1, hg2, hg3, hg4, hbel, hown⟩ := HD.out
  clear hD R1
  go_wp2_with fail
  go_ret
  exact ⟨g, T, c, rfl, hg1, hg2, hg3, hg4, hbel, hown⟩

set_option maxHeartbeats 400000 in
theorem dDrawFloorOf (a : Option Addr) (len cap : Nat) (zs : List Int) (w : World) (h : IsRow .u8 w a len cap zs) :
    Calls Try.prog 17 #[.slice a len cap] w (DrawnT w) := by
  go_enter Try.func17, Try.ntmps17
  go_wp2_with fail
  refine (l20Open a len cap zs w h).mono ?_
  rintro e w1 ⟨rfl, hb1, a1, len1, cap1, zs1, R1⟩
  go_wp2_with fail
  refine (l20Game w.heap.size w1 a1 len1 cap1 zs1 0 5 9 R1 (by omega) (by omega) (by omega) (by omega) (by omega)).mono ?_
  intro e w2 hD
  have HD := Lib.hid (DrawnT.of hb1 R1 hD)
  obtain ⟨g, T, c, rfl, hg1, hg2, hg3, hg4, hbel, hown⟩ := HD.out
  clear hD R1
  go_wp2_with fail
  go_ret
  exact ⟨g, T, c, rfl, hg1, hg2, hg3, hg4, hbel, hown⟩

set_option maxHeartbeats 400000 in
theorem dDrawRoofOf (a : Option Addr) (len cap : Nat) (zs : List Int) (w : World) (h : IsRow .u8 w a len cap zs) :
    Calls Try.prog 21 #[.slice a len cap] w (DrawnT w) := by
  go_enter Try.func21, Try.ntmps21
  go_wp2_with fail
  refine (l20Open a len cap zs w h).mono ?_
  rintro e w1 ⟨rfl, hb1, a1, len1, cap1, zs1, R1⟩
  go_wp2_with fail
  refine (l20Game w.heap.size w1 a1 len1 cap1 zs1 0 5 9 R1 (by omega) (by omega) (by omega) (by omega) (by omega)).mono ?_
  intro e w2 hD
  have HD := Lib.hid (DrawnT.of hb1 R1 hD)
  obtain ⟨g, T, c, rfl, hg1, hg2, hg3, hg4, hbel, hown⟩ := HD.out
  clear hD R1
  go_wp2_with fail
  go_ret
  exact ⟨g, T, c, rfl, hg1, hg2, hg3, hg4, hbel, hown⟩

set_option maxHeartbeats 400000 in
theorem dDrawSaddlesOf (a : Option Addr) (len cap : Nat) (zs : List Int) (w : World) (h : IsRow .u8 w a len cap zs) :
    Calls Try.prog 24 #[.slice a len cap] w (DrawnT w) := by
  go_enter Try.func24, Try.ntmps24
  go_wp2_with fail
  refine (l20Open a len cap zs w h).mono ?_
  rintro e w1 ⟨rfl, hb1, a1, len1, cap1, zs1, R1⟩
  go_wp2_with fail
  refine (l20Game w.heap.size w1 a1 len1 cap1 zs1 0 4 9 R1 (by omega) (by omega) (by omega) (by omega) (by omega)).mono ?_
  intro e w2 hD
  have HD := Lib.hid (DrawnT.of hb1 R1 hD)
  obtain ⟨g, T, c, rfl, hg1, hg2, hg3, hg4, hbel, hown⟩ := HD.out
  clear hD R1
  go_wp2_with fail
  go_ret
  exact ⟨g, T, c, rfl, hg1, hg2, hg3, hg4, hbel, hown⟩

set_option maxHeartbeats 400000 in
theorem dDrawTurnedOf (a : Option Addr) (len cap : Nat) (zs : List Int) (w : World) (h : IsRow .u8 w a len cap zs) :
    Calls Try.prog 29 #[.slice a len cap] w (DrawnT w) := by
  go_enter Try.func29, Try.ntmps29
  go_wp2_with fail
  refine (l20Open a len cap zs w h).mono ?_
  rintro e w1 ⟨rfl, hb1, a1, len1, cap1, zs1, R1⟩
  go_wp2_with fail
  refine (l20Game w.heap.size w1 a1 len1 cap1 zs1 0 5 9 R1 (by omega) (by omega) (by omega) (by omega) (by omega)).mono ?_
  intro e w2 hD
  have HD := Lib.hid (DrawnT.of hb1 R1 hD)
  obtain ⟨g, T, c, rfl, hg1, hg2, hg3, hg4, hbel, hown⟩ := HD.out
  clear hD R1
  go_wp2_with fail
  go_ret
  exact ⟨g, T, c, rfl, hg1, hg2, hg3, hg4, hbel, hown⟩

set_option maxHeartbeats 1000000 in
theorem sameInts (A B : Option Addr) (c d : Nat) (l : List Int) (S T : Nat → Prop) (hl : l.length ≤ maxLen) (w : World) (h : Ints w S A l) (h' : Ints w T B l) :
    Calls Try.prog 26 #[.slice A l.length c, .slice B l.length d] w (Quiet (.bool true) w) := by
  unfold maxLen at hl
  have z1 : ((l.length : Int) != (l.length : Int)) = false := by simp
  have HH := Lib.hid h
  have HK := Lib.hid h'
  clear h h'
  go_enter Try.func26, Try.ntmps26
  go_wp2_with fail
  go_loopw [5] (fun i wr => ∃ k : Nat, k ≤ l.length ∧ i = .int .i64 k ∧ ∃ n, wr = w.drewN n) (fun i _ => l.length - (intOf i).toNat)
  case atStart => exact ⟨0, Nat.zero_le _, rfl, (by first | exact ⟨0, rfl⟩ | exact ⟨_, rfl⟩ | exact ⟨_, World.drewN_drewN _ _ _⟩ | (simp only [World.drewN_drewN]; exact ⟨_, rfl⟩))⟩
  case round =>
    obtain ⟨k, hk, rfl, n, rfl⟩ := hrel
    by_cases hlt : k < l.length
    · obtain ⟨b, off, rfl, hS, hc⟩ := HH.out.at_ hlt
      obtain ⟨b', off', rfl, hS', hc'⟩ := HK.out.at_ hlt
      have hck := hc k hlt
      have hck' := hc' k hlt
      have z2 : (nth l k != nth l k) = false := by simp
      clear hc hc'
      go_wp2_with fail
      go_quiet (fail)
      go_wp2_with fail
      go_roundw
      case rel => exact ⟨k + 1, by omega, by go_num, (by first | exact ⟨0, rfl⟩ | exact ⟨_, rfl⟩ | exact ⟨_, World.drewN_drewN _ _ _⟩ | (simp only [World.drewN_drewN]; exact ⟨_, rfl⟩))⟩
      case measure => simp [intOf]; omega
    · obtain rfl : k = l.length := by omega
      go_wp2_with fail
      go_ret
      exact Quiet.ofD rfl (by first | exact ⟨0, rfl⟩ | exact ⟨_, rfl⟩ | exact ⟨_, World.drewN_drewN _ _ _⟩ | (simp only [World.drewN_drewN]; exact ⟨_, rfl⟩))

set_option maxHeartbeats 1000000 in
theorem sameRows (A B : Option Addr) (c d : Nat) (g : List (List Int)) (S T : Nat → Prop) (hl : g.length ≤ maxLen) (w : World) (h : Rows2 w S A g) (h' : Rows2 w T B g) :
    Calls Try.prog 30 #[.slice A g.length c, .slice B g.length d] w (Quiet (.bool true) w) := by
  unfold maxLen at hl
  have z1 : ((g.length : Int) != (g.length : Int)) = false := by simp
  have HH := Lib.hid h
  have HK := Lib.hid h'
  clear h h'
  go_enter Try.func30, Try.ntmps30
  go_wp2_with fail
  go_loopw [5] (fun i wr => ∃ k : Nat, k ≤ g.length ∧ i = .int .i64 k ∧ ∃ n, wr = w.drewN n) (fun i _ => g.length - (intOf i).toNat)
  case atStart => exact ⟨0, Nat.zero_le _, rfl, (by first | exact ⟨0, rfl⟩ | exact ⟨_, rfl⟩ | exact ⟨_, World.drewN_drewN _ _ _⟩ | (simp only [World.drewN_drewN]; exact ⟨_, rfl⟩))⟩
  case round =>
    obtain ⟨k, hk, rfl, n, rfl⟩ := hrel
    by_cases hlt : k < g.length
    · obtain ⟨b, off, rfl⟩ := HH.out.some (by omega)
      obtain ⟨b', off', rfl⟩ := HK.out.some (by omega)
      obtain ⟨hS, Ak, ck, hck, hlk, hmk, hik⟩ := HH.out.row hlt
      obtain ⟨hS', Bk, dk, hdk, hlk', hmk', hik'⟩ := HK.out.row hlt
      have HI := Lib.hid hik
      have HJ := Lib.hid hik'
      clear hik hik'
      have hmk2 := hmk
      unfold maxLen at hmk hmk'
      go_wp2_with fail
      go_quiet ((go_at_call 26; exact quietAdd (sameInts _ _ _ _ (rowAt g k) S T (Nat.le_trans hlk hmk2) _ (HI.out.drewN _) (HJ.out.drewN _))))
      go_wp2_with fail
      go_roundw
      case rel => exact ⟨k + 1, by omega, by go_num, (by first | exact ⟨0, rfl⟩ | exact ⟨_, rfl⟩ | exact ⟨_, World.drewN_drewN _ _ _⟩ | (simp only [World.drewN_drewN]; exact ⟨_, rfl⟩))⟩
      case measure => simp [intOf]; omega
    · obtain rfl : k = g.length := by omega
      go_wp2_with fail
      go_ret
      exact Quiet.ofD rfl (by first | exact ⟨0, rfl⟩ | exact ⟨_, rfl⟩ | exact ⟨_, World.drewN_drewN _ _ _⟩ | (simp only [World.drewN_drewN]; exact ⟨_, rfl⟩))

set_option maxHeartbeats 1000000 in
theorem ascend (A : Option Addr) (c : Nat) (l : List Int) (S : Nat → Prop) (hl : l.length ≤ 4294967296) (hs : l.Pairwise (· < ·)) (w : World) (h : Ints w S A l) :
    Calls Try.prog 28 #[.slice A l.length c] w (Quiet (.bool true) w) := by
  have HH := Lib.hid h
  have HS := Lib.hid hs
  clear h hs
  go_enter Try.func28, Try.ntmps28
  go_wp2_with fail
  go_loopw [3] (fun i wr => ∃ k : Nat, (1 : Int) ≤ k ∧ i = .int .i64 k ∧ ∃ n, wr = w.drewN n) (fun i _ => l.length - (intOf i).toNat)
  case atStart => exact ⟨1, by omega, rfl, (by first | exact ⟨0, rfl⟩ | exact ⟨_, rfl⟩ | exact ⟨_, World.drewN_drewN _ _ _⟩ | (simp only [World.drewN_drewN]; exact ⟨_, rfl⟩))⟩
  case round =>
    obtain ⟨k, hk, rfl, n, rfl⟩ := hrel
    by_cases hlt : k < l.length
    · obtain ⟨b, off, rfl, hS, hc⟩ := HH.out.at_ hlt
      have hck := hc k hlt
      have hck' := hc (k - 1) (by omega)
      have hlt' := sorted_nth HS.out (i := k - 1) (j := k) (by omega) hlt
      have z : decide (nth l k ≤ nth l (k - 1)) = false := decide_eq_false (by omega)
      have q1 : IntKind.i64.wrap ((k : Int) - 1) = (k : Int) - 1 := IntWalk.i64_in _ (by omega)
      have q2 : ((k : Int) - 1).toNat = k - 1 := by omega
      have q3 : (0 : Int) ≤ (k : Int) - 1 := by omega
      have q4 : (k : Int) - 1 < (l.length : Int) := by omega
      clear hc hlt'
      go_wp2_with fail
      go_quiet (fail)
      clear q1 q2
      go_wp2_with fail
      go_roundw
      case rel => exact ⟨k + 1, by omega, by go_num, (by first | exact ⟨0, rfl⟩ | exact ⟨_, rfl⟩ | exact ⟨_, World.drewN_drewN _ _ _⟩ | (simp only [World.drewN_drewN]; exact ⟨_, rfl⟩))⟩
      case measure => simp [intOf]; omega
    · go_wp2_with fail
      go_ret
      exact Quiet.ofD rfl (by first | exact ⟨0, rfl⟩ | exact ⟨_, rfl⟩ | exact ⟨_, World.drewN_drewN _ _ _⟩ | (simp only [World.drewN_drewN]; exact ⟨_, rfl⟩))

end Go.Proofs.Ytaphlhdkdokopaa
