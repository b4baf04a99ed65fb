/- The walks of the specification's floors and roofs. -/
import Derived.Test.YtjojilimdhekfaaGameS
namespace Go.Proofs.Ytjojilimdhekfaa
set_option linter.unusedSimpArgs false
set_option linter.unusedVariables false
open Go.RowKit

set_option maxHeartbeats 1000000 in
theorem l2Low (A : Option Addr) (c : Nat) (g : List (List Int)) (S : Nat → Prop) (i : Nat) (hi : i < g.length) (hl : g.length ≤ maxLen) (h0 : 0 < (rowAt g i).length) (w : World) (h : Rows2 w S A g) :
    Calls Try.prog 67 #[.slice A g.length c, .int .i64 (i : Int)] w (Same (.int .i64 (lowN (rowAt g i) (rowAt g i).length)) w) := by
  unfold maxLen at hl
  obtain ⟨b, off, rfl, hS, hc⟩ := h.at_ hi
  obtain ⟨Ai, ci, hci, hli, hmi, hii⟩ := hc i hi
  unfold maxLen at hmi
  obtain ⟨b', off', rfl, hS', hcell⟩ := hii.at_ h0
  have hc0 := hcell 0 h0
  rw [Nat.add_zero] at hc0
  have HC := Lib.hid hcell
  clear hcell hc
  go_enter Try.func67, Try.ntmps67
  go_wp2_with fail
  go_loop [5, 6] (fun v j => ∃ k : Nat, 1 ≤ k ∧ k ≤ (rowAt g i).length ∧ j = .int .i64 k ∧ v = .int .i64 (lowN (rowAt g i) k)) (fun _ j => (rowAt g i).length - (intOf j).toNat)
  case atStart => exact ⟨1, Nat.le_refl _, h0, rfl, by rw [lowN_one]⟩
  case round =>
    obtain ⟨k, hk1, hk, rfl, rfl⟩ := hrel
    by_cases hlt : k < (rowAt g i).length
    · have hck := HC.out k hlt
      go_wp2_with fail
      all_goals
        go_round
        case rel => exact ⟨k + 1, by omega, by omega, by go_num, by simp only [lowN]; congr 1; omega⟩
        case measure => simp [intOf]; omega
    · obtain rfl : k = (rowAt g i).length := by omega
      go_wp2_with fail
      go_ret
      exact Same.of rfl

set_option maxHeartbeats 1000000 in
theorem l2High (A : Option Addr) (c : Nat) (g : List (List Int)) (m : Nat) (S : Nat → Prop) (j : Nat) (hg : Game g m) (hj : j < m) (w : World) (h : Rows2 w S A g) :
    Calls Try.prog 86 #[.slice A g.length c, .int .i64 (j : Int)] w (Same (.int .i64 (highN (col g j) g.length)) w) := by
  have hl := hg.hi
  have h0 := hg.lo
  have hm := hg.mhi
  obtain ⟨b, off, rfl⟩ := h.some (by omega)
  obtain ⟨b', off', c', hc1, hc2, hc3, hS', hc0⟩ := h.cell (i := 0) (j := j) (by omega) (by rw [hg.len 0 (by omega)]; exact hj)
  rw [Nat.add_zero] at hc1
  have hle : (rowAt g 0).length ≤ 16 := by rw [hg.len 0 (by omega)]; omega
  have hlt0 : j < (rowAt g 0).length := by rw [hg.len 0 (by omega)]; omega
  unfold maxLen at hc3
  go_enter Try.func86, Try.ntmps86
  go_wp2_with fail
  go_loop [5, 6] (fun v i => ∃ k : Nat, 1 ≤ k ∧ k ≤ g.length ∧ i = .int .i64 k ∧ v = .int .i64 (highN (col g j) k)) (fun _ i => g.length - (intOf i).toNat)
  case atStart => exact ⟨1, Nat.le_refl _, h0, rfl, by rw [highN_one, nth_col _ _ _ (by omega)]⟩
  case round =>
    obtain ⟨k, hk1, hk, rfl, rfl⟩ := hrel
    by_cases hlt : k < g.length
    · obtain ⟨b2, off2, c2, hd1, hd2, hd3, hS2, hd0⟩ := h.cell (i := k) (j := j) hlt (by rw [hg.len k hlt]; exact hj)
      have hltk : j < (rowAt g k).length := by rw [hg.len k hlt]; omega
      unfold maxLen at hd3
      have HN := Lib.hid (nth_col g j k hlt)
      clear hc0 hc1
      go_wp2_with fail
      all_goals
        go_round
        case rel => exact ⟨k + 1, by omega, by omega, by go_num, by simp only [highN]; rw [HN.out]; congr 1; omega⟩
        case measure => simp [intOf]; omega
    · obtain rfl : k = g.length := by omega
      go_wp2_with fail
      go_ret
      exact Same.of rfl

set_option maxHeartbeats 1000000 in
theorem floor_spec (A : Option Addr) (c : Nat) (g : List (List Int)) (S : Nat → Prop) (hl : g.length ≤ maxLen) (w : World) (h : Rows2 w S A g) :
    Calls Try.prog 22 #[.slice A g.length c] w (Quiet (.tuple #[.int .i64 (floV g), .int .i64 (floA g), .bool (gameB g)]) w) := by
  rcases hb : gameB g with _ | _
  · have H1 : Hid (floV g = 0) := by simp [Hid, floV, hb]
    have H2 : Hid (floA g = -1) := by simp [Hid, floA, hb]
    have HB := Lib.hid hb
    clear hb
    go_enter Try.func22, Try.ntmps22
    go_wp2_with fail
    refine (game_spec _ _ _ S hl _ h).mono ?_
    rintro e w1 ⟨rfl, n, rfl⟩
    rw [HB.out]
    go_wp2_with fail
    go_ret3
    exact Quiet.ofD (by rw [H1.out, H2.out]; rfl) (by first | exact ⟨0, rfl⟩ | exact ⟨_, rfl⟩ | exact ⟨_, World.drewN_drewN _ _ _⟩ | (simp only [World.drewN_drewN]; exact ⟨_, rfl⟩))
  · have hg := Game.of hb
    have hg1 := hg.lo
    have hg2 := hg.hi
    have h0 : ∀ i, i < g.length → 0 < (rowAt g i).length := fun i hi => by rw [hg.len i hi]; exact hg.mlo
    have H1 : Hid (floV g = lowN (rowAt g (floorAt g)) (rowAt g (floorAt g)).length) := by
      show floV g = _
      simp only [floV, hb, if_true]; unfold floorV; exact nth_lows g _ (bestN_lt _ _ (by omega) (Nat.le_refl _))
    have H2 : Hid (floA g = (floorAt g : Int)) := by simp [Hid, floA, hb]
    have HB := Lib.hid hb
    have HG := Lib.hid h0
    have HR := Lib.hid h
    clear hb h0 h
    go_enter Try.func22, Try.ntmps22
    go_wp2_with fail
    refine (game_spec _ _ _ S hl _ HR.out).mono ?_
    rintro e w1 ⟨rfl, n, rfl⟩
    rw [HB.out]
    go_wp2_with fail
    go_loop [5, 6] (fun v i => ∃ k : Nat, 1 ≤ k ∧ k ≤ g.length ∧ i = .int .i64 k ∧ v = .int .i64 (bestN gtB (lows g) k : Nat)) (fun _ i => g.length - (intOf i).toNat)
    case atStart => exact ⟨1, Nat.le_refl _, hg1, rfl, by rw [bestN_one]; rfl⟩
    case round =>
      obtain ⟨k, hk1, hk, rfl, rfl⟩ := hrel
      by_cases hlt : k < g.length
      · have hbl : bestN gtB (lows g) k < g.length := bestN_lt _ _ (by omega) hk
        have HN1 := Lib.hid (nth_lows g k hlt)
        have HN2 := Lib.hid (nth_lows g _ hbl)
        go_wp2_with fail
        refine (l2Low _ _ g S k hlt hl (HG.out k hlt) _ (HR.out.drewN n)).mono ?_
        rintro e w1 ⟨rfl, rfl⟩
        go_wp2_with fail
        refine (l2Low _ _ g S _ hbl hl (HG.out _ hbl) _ (HR.out.drewN n)).mono ?_
        rintro e w1 ⟨rfl, rfl⟩
        have HS : Hid (bestN gtB (lows g) (k + 1) = if lowN (rowAt g (bestN gtB (lows g) k)) (rowAt g (bestN gtB (lows g) k)).length < lowN (rowAt g k) (rowAt g k).length then k else bestN gtB (lows g) k) := by
          show bestN _ _ _ = _
          simp only [bestN, gtB, decide_eq_true_eq]; rw [HN1.out, HN2.out]
        go_wp2_with fail
        all_goals
          go_round
          case rel => exact ⟨k + 1, by omega, by omega, by go_num, by rw [HS.out]; first | rw [if_pos (by assumption)] | rw [if_neg (by omega)]⟩
          case measure => simp [intOf]; omega
      · obtain rfl : k = g.length := by omega
        have hbl : bestN gtB (lows g) g.length < g.length := bestN_lt _ _ (by omega) hk
        go_wp2_with fail
        refine (l2Low _ _ g S _ hbl hl (HG.out _ hbl) _ (HR.out.drewN n)).mono ?_
        rintro e w1 ⟨rfl, rfl⟩
        go_wp2_with fail
        go_ret3
        exact Quiet.ofD (by rw [H1.out, H2.out]; rfl) (by first | exact ⟨0, rfl⟩ | exact ⟨_, rfl⟩ | exact ⟨_, World.drewN_drewN _ _ _⟩ | (simp only [World.drewN_drewN]; exact ⟨_, rfl⟩))

end Go.Proofs.Ytjojilimdhekfaa
