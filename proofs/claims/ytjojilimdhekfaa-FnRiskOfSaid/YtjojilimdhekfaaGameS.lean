/- The walks of the functions on games, the specification's: GameOk. -/
import Derived.Test.YtjojilimdhekfaaGame
namespace Go.Proofs.Ytjojilimdhekfaa
set_option linter.unusedSimpArgs false
set_option linter.unusedVariables false
open Go.RowKit

theorem inR_in (n : Int) : inR n (-9) 9 = inB n := by simp [inR, inB]

theorem inR_side (n : Nat) : inR (n : Int) 1 16 = sideB n := by
  rw [Bool.eq_iff_iff]; simp [inR, sideB]; omega

set_option maxHeartbeats 1000000 in
theorem game_spec (A : Option Addr) (c : Nat) (g : List (List Int)) (S : Nat → Prop) (hl : g.length ≤ maxLen) (w : World) (h : Rows2 w S A g) :
    Calls Try.prog 64 #[.slice A g.length c] w (Quiet (.bool (gameB g)) w) := by
  unfold maxLen at hl
  have HH := Lib.hid h
  clear h
  go_enter Try.func64, Try.ntmps64
  go_wp2_with fail
  go_loopw [3] (fun i wr => ∃ k : Nat, k ≤ g.length ∧ i = .int .i64 k ∧ Hid (rowsB g k = true) ∧ ∃ n, wr = w.drewN n) (fun i _ => g.length - (intOf i).toNat)
  case atStart => exact ⟨0, Nat.zero_le _, rfl, rfl, 0, rfl⟩
  case round =>
    obtain ⟨k, hk, rfl, H, n0, rfl⟩ := hrel
    by_cases hlt : k < g.length
    · obtain ⟨b, off, rfl, hS, hc⟩ := HH.out.at_ hlt
      obtain ⟨A0, c0, hc0, hl0, hm0, hi0⟩ := hc 0 (by omega)
      rw [Nat.add_zero] at hc0
      obtain ⟨Ak, ck, hck, hlk, hmk, hik⟩ := hc k hlt
      have p0 : 0 < g.length := by omega
      clear hc
      unfold maxLen at hmk hm0
      have HI := Lib.hid hik
      clear hik hi0
      by_cases h1 : (rowAt g k).length = (rowAt g 0).length
      · have h1' : (((rowAt g k).length : Int) != ((rowAt g 0).length : Int)) = false := by simp [h1]
        have H1 := Lib.hid h1
        clear h1
        go_wp2_with fail
        go_quiet (fail)
        go_wp2_with fail
        go_loopw [4] (fun j wr => ∃ m : Nat, m ≤ (rowAt g k).length ∧ j = .int .i64 m ∧ Hid (numsB (rowAt g k) m = true) ∧ ∃ n, wr = w.drewN n) (fun j _ => (rowAt g k).length - (intOf j).toNat)
        case atStart => exact ⟨0, Nat.zero_le _, rfl, rfl, (by first | exact ⟨0, rfl⟩ | exact ⟨_, rfl⟩ | exact ⟨_, World.drewN_drewN _ _ _⟩ | (simp only [World.drewN_drewN]; exact ⟨_, rfl⟩))⟩
        case round =>
          obtain ⟨m, hm, rfl, H2, n1, rfl⟩ := hrel
          by_cases hlt2 : m < (rowAt g k).length
          · obtain ⟨b', off', rfl, hS', hcm⟩ := HI.out.at_ hlt2
            have hcm := hcm m hlt2
            rcases h3 : inB (nth (rowAt g k) m) with _ | _
            · have hno : Hid (gameB g = false) := by
                have := rowsB_no (g := g) (k := k) (n := g.length) (by simp [rowB, H1.out]; rw [← H1.out]; exact numsB_no h3 hlt2) hlt
                simp [Hid, gameB, this]
              have H3 := Lib.hid h3
              clear h3
              go_wp2_with (go_at_call 79; refine (in_spec _ _ _ _).mono ?_; rintro e w1 ⟨rfl, rfl⟩; rw [inR_in, H3.out])
              go_ret
              exact Quiet.ofD (by rw [hno.out]; rfl) (by first | exact ⟨0, rfl⟩ | exact ⟨_, rfl⟩ | exact ⟨_, World.drewN_drewN _ _ _⟩ | (simp only [World.drewN_drewN]; exact ⟨_, rfl⟩))
            · have hy : Hid (numsB (rowAt g k) (m + 1) = true) := by show (numsB _ m && _) = true; rw [H2.out, h3]; rfl
              have H3 := Lib.hid h3
              clear h3
              go_wp2_with (go_at_call 79; refine (in_spec _ _ _ _).mono ?_; rintro e w1 ⟨rfl, rfl⟩; rw [inR_in, H3.out])
              go_roundw
              case rel => exact ⟨m + 1, by omega, by go_num, hy, (by first | exact ⟨0, rfl⟩ | exact ⟨_, rfl⟩ | exact ⟨_, World.drewN_drewN _ _ _⟩ | (simp only [World.drewN_drewN]; exact ⟨_, rfl⟩))⟩
              case measure => simp [intOf]; omega
          · obtain rfl : m = (rowAt g k).length := by omega
            have hy : Hid (rowsB g (k + 1) = true) := by show (rowsB g k && rowB _ _) = true; rw [H.out]; simp [rowB, H1.out]; rw [← H1.out]; exact H2.out
            go_wp2_with fail
            go_roundw
            case rel => exact ⟨k + 1, by omega, by go_num, hy, (by first | exact ⟨0, rfl⟩ | exact ⟨_, rfl⟩ | exact ⟨_, World.drewN_drewN _ _ _⟩ | (simp only [World.drewN_drewN]; exact ⟨_, rfl⟩))⟩
            case measure => simp [intOf]; omega
      · have h1' : (((rowAt g k).length : Int) != ((rowAt g 0).length : Int)) = true := by simp; omega
        have hno : Hid (gameB g = false) := by
          have := rowsB_no (g := g) (k := k) (n := g.length) (by simp [rowB, h1]) hlt
          simp [Hid, gameB, this]
        go_wp2_with fail
        go_quiet (fail)
        go_wp2_with fail
        go_ret
        exact Quiet.ofD (by rw [hno.out]; rfl) (by first | exact ⟨0, rfl⟩ | exact ⟨_, rfl⟩ | exact ⟨_, World.drewN_drewN _ _ _⟩ | (simp only [World.drewN_drewN]; exact ⟨_, rfl⟩))
    · obtain rfl : k = g.length := by omega
      rcases hs : sideB g.length with _ | _
      · have hno : Hid (gameB g = false) := by simp [Hid, gameB, hs]
        have HS := Lib.hid hs
        clear hs
        go_wp2_with (go_at_call 79; refine (in_spec _ _ _ _).mono ?_; rintro e w1 ⟨rfl, rfl⟩; rw [inR_side, HS.out])
        go_ret
        exact Quiet.ofD (by rw [hno.out]; rfl) (by first | exact ⟨0, rfl⟩ | exact ⟨_, rfl⟩ | exact ⟨_, World.drewN_drewN _ _ _⟩ | (simp only [World.drewN_drewN]; exact ⟨_, rfl⟩))
      · have hg1 := sideB_iff.1 hs
        have hy : Hid (gameB g = sideB (rowAt g 0).length) := by have := H.out; simp [Hid, gameB, hs, this]
        have HS := Lib.hid hs
        obtain ⟨b, off, rfl, hS, hc⟩ := HH.out.at_ (i := 0) (by omega)
        obtain ⟨A0, c0, hc0, hl0, hm0, hi0⟩ := hc 0 (by omega)
        rw [Nat.add_zero] at hc0
        clear hs hc hi0
        go_wp2_with fail
        refine (in_spec _ _ _ _).mono ?_
        rintro e w1 ⟨rfl, rfl⟩
        rw [inR_side, HS.out]
        go_wp2_with fail
        refine (in_spec _ _ _ _).mono ?_
        rintro e w1 ⟨rfl, rfl⟩
        rw [inR_side]
        go_wp2_with fail
        go_ret
        exact Quiet.ofD (by rw [hy.out]; rfl) (by first | exact ⟨0, rfl⟩ | exact ⟨_, rfl⟩ | exact ⟨_, World.drewN_drewN _ _ _⟩ | (simp only [World.drewN_drewN]; exact ⟨_, rfl⟩))

end Go.Proofs.Ytjojilimdhekfaa
