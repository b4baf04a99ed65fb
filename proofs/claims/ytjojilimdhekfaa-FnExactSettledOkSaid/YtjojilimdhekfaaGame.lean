/- The walks of the functions on games: GameOk. -/
import Derived.Test.YtjojilimdhekfaaMem
namespace Go.Proofs.Ytjojilimdhekfaa
set_option linter.unusedSimpArgs false
set_option linter.unusedVariables false
open Go.RowKit

set_option maxHeartbeats 400000 in
theorem sideOk (n : Nat) (hn : n ≤ 9223372036854775807) (w : World) :
    Calls Try.prog 84 #[.int .i64 (n : Int)] w (Same (.bool (sideB n)) w) := by
  by_cases h1 : 1 ≤ n
  · by_cases h2 : n ≤ 16
    · have hf : sideB n = true := by simp [sideB, h1, h2]
      rw [hf]
      go_enter Try.func84, Try.ntmps84
      go_wp2
      go_ret
      exact Same.of (by simp; try omega)
    · have hf : sideB n = false := by simp [sideB, h2]
      rw [hf]
      go_enter Try.func84, Try.ntmps84
      go_wp2
      go_ret
      exact Same.of (by simp; try omega)
  · have hf : sideB n = false := by simp [sideB, h1]
    rw [hf]
    have hd : decide ((1 : Int) ≤ (n : Int)) = false := by simp; omega
    go_enter Try.func84, Try.ntmps84
    go_wp2
    go_ret
    exact Same.of (by simp; try omega)

set_option maxHeartbeats 400000 in
theorem numberOk (n : Int) (w : World) :
    Calls Try.prog 90 #[.int .i64 n] w (Same (.bool (inB n)) w) := by
  by_cases h1 : -9 ≤ n
  · by_cases h2 : n ≤ 9
    · have hf : inB n = true := inB_iff.2 ⟨h1, h2⟩
      rw [hf]
      go_enter Try.func90, Try.ntmps90
      go_wp2
      go_ret
      exact Same.of (by simp; try omega)
    · have hf : inB n = false := inB_false.2 (.inr (by omega))
      rw [hf]
      have hd : decide (n ≤ (9 : Int)) = false := by simp; omega
      go_enter Try.func90, Try.ntmps90
      go_wp2
      go_ret
      exact Same.of (by simp; try omega)
  · have hf : inB n = false := inB_false.2 (.inl (by omega))
    rw [hf]
    have hd : decide ((-9 : Int) ≤ n) = false := by simp; omega
    go_enter Try.func90, Try.ntmps90
    go_wp2
    go_ret
    exact Same.of (by simp; try omega)

set_option maxHeartbeats 400000 in
theorem numbersOk (A : Option Addr) (c : Nat) (l : List Int) (S : Nat → Prop) (hl : l.length ≤ maxLen) (w : World) (h : Ints w S A l) :
    Calls Try.prog 85 #[.slice A l.length c] w (Same (.bool (numsB l l.length)) w) := by
  unfold maxLen at hl
  go_enter Try.func85, Try.ntmps85
  go_wp2
  go_loop [7] (fun i => ∃ k : Nat, k ≤ l.length ∧ i = .int .i64 k ∧ Hid (numsB l k = true)) (fun i => l.length - (intOf i).toNat)
  case atStart => exact ⟨0, Nat.zero_le _, rfl, rfl⟩
  case round =>
    obtain ⟨k, hk, rfl, H⟩ := hrel
    by_cases hlt : k < l.length
    · obtain ⟨b, off, rfl, hS, hc⟩ := h.at_ hlt
      have hck := hc k hlt
      clear hc
      rcases hb : inB (nth l k) with _ | _
      · have hno : Hid (numsB l l.length = false) := numsB_no hb hlt
        have HB := Lib.hid hb
        clear hb
        go_wp2_with (go_at_call 90; refine (numberOk _ _).mono ?_; rintro e w1 ⟨rfl, rfl⟩; rw [HB.out])
        go_ret
        exact Same.of (by rw [hno.out]; rfl)
      · have hy : Hid (numsB l (k + 1) = true) := by show (numsB l k && _) = true; rw [H.out, hb]; rfl
        have HB := Lib.hid hb
        clear hb
        go_wp2_with (go_at_call 90; refine (numberOk _ _).mono ?_; rintro e w1 ⟨rfl, rfl⟩; rw [HB.out])
        go_round
        case rel => exact ⟨k + 1, by omega, by go_num, hy⟩
        case measure => simp [intOf]; omega
    · obtain rfl : k = l.length := by omega
      go_wp2
      go_ret
      exact Same.of (by rw [H.out]; rfl)

set_option maxHeartbeats 1000000 in
theorem game_impl (A : Option Addr) (c : Nat) (g : List (List Int)) (S : Nat → Prop) (hl : g.length ≤ maxLen) (w : World) (h : Rows2 w S A g) :
    Calls Try.prog 68 #[.slice A g.length c] w (Same (.bool (gameB g)) w) := by
  unfold maxLen at hl
  rcases hs : sideB g.length with _ | _
  · have hno : Hid (gameB g = false) := by simp [Hid, gameB, hs]
    have HS := Lib.hid hs
    clear hs
    go_enter Try.func68, Try.ntmps68
    go_wp2_with fail
    refine (sideOk _ hl _).mono ?_
    rintro e w1 ⟨rfl, rfl⟩
    rw [HS.out]
    go_wp2_with fail
    go_ret
    exact Same.of (by rw [hno.out]; rfl)
  have hg1 := sideB_iff.1 hs
  obtain ⟨b, off, rfl, hS, hc⟩ := h.at_ (i := 0) (by omega)
  obtain ⟨A0, c0, hc0, hl0, hm0, hi0⟩ := hc 0 (by omega)
  rw [Nat.add_zero] at hc0
  unfold maxLen at hm0
  rcases hs0 : sideB (rowAt g 0).length with _ | _
  · have hno : Hid (gameB g = false) := by simp [Hid, gameB, hs, hs0]
    have HS := Lib.hid hs
    have HS0 := Lib.hid hs0
    clear hs hs0 hc
    go_enter Try.func68, Try.ntmps68
    go_wp2_with fail
    refine (sideOk _ hl _).mono ?_
    rintro e w1 ⟨rfl, rfl⟩
    rw [HS.out]
    go_wp2_with fail
    refine (sideOk _ (by omega) _).mono ?_
    rintro e w1 ⟨rfl, rfl⟩
    rw [HS0.out]
    go_wp2_with fail
    go_ret
    exact Same.of (by rw [hno.out]; rfl)
  have hg2 := sideB_iff.1 hs0
  have hg : ∀ n, rowsB g g.length = n → Hid (gameB g = n) := by intro n hn; simp [Hid, gameB, hs, hs0, hn]
  have HG := Lib.hid hg
  have HS := Lib.hid hs
  have HS0 := Lib.hid hs0
  have HC := Lib.hid hc
  clear hs hs0 hc hg
  go_enter Try.func68, Try.ntmps68
  go_wp2_with fail
  refine (sideOk _ hl _).mono ?_
  rintro e w1 ⟨rfl, rfl⟩
  rw [HS.out]
  go_wp2_with fail
  refine (sideOk _ (by omega) _).mono ?_
  rintro e w1 ⟨rfl, rfl⟩
  rw [HS0.out]
  go_wp2_with fail
  go_loop [19] (fun i => ∃ k : Nat, k ≤ g.length ∧ i = .int .i64 k ∧ Hid (rowsB g k = true)) (fun i => g.length - (intOf i).toNat)
  case atStart => exact ⟨0, Nat.zero_le _, rfl, rfl⟩
  case round =>
    obtain ⟨k, hk, rfl, H⟩ := hrel
    by_cases hlt : k < g.length
    · obtain ⟨Ak, ck, hck, hlk, hmk, hik⟩ := HC.out k hlt
      unfold maxLen at hmk
      by_cases h1 : (rowAt g k).length = (rowAt g 0).length
      · have h1' : (((rowAt g k).length : Int) != ((rowAt g 0).length : Int)) = false := by simp [h1]
        have H1 := Lib.hid h1
        clear h1
        go_wp2_with fail
        refine (numbersOk _ _ (rowAt g k) S (by unfold maxLen; omega) _ hik).mono ?_
        rintro e w1 ⟨rfl, rfl⟩
        rcases h2 : numsB (rowAt g k) (rowAt g k).length with _ | _
        · have hno := HG.out _ (rowsB_no (k := k) (by simp [rowB, H1.out]; rw [← H1.out]; exact h2) hlt)
          go_wp2_with fail
          go_ret
          exact Same.of (by rw [hno.out]; rfl)
        · have hy : Hid (rowsB g (k + 1) = true) := by show (rowsB g k && rowB _ _) = true; rw [H.out]; simp [rowB, H1.out]; rw [← H1.out]; exact h2
          clear h2
          go_wp2_with fail
          go_round
          case rel => exact ⟨k + 1, by omega, by go_num, hy⟩
          case measure => simp [intOf]; omega
      · have h1' : (((rowAt g k).length : Int) != ((rowAt g 0).length : Int)) = true := by simp; omega
        have hno := HG.out _ (rowsB_no (k := k) (by simp [rowB, h1]) hlt)
        go_wp2_with fail
        go_ret
        exact Same.of (by rw [hno.out]; rfl)
    · obtain rfl : k = g.length := by omega
      have hy := HG.out _ H.out
      go_wp2_with fail
      go_ret
      exact Same.of (by rw [hy.out]; rfl)

end Go.Proofs.Ytjojilimdhekfaa
