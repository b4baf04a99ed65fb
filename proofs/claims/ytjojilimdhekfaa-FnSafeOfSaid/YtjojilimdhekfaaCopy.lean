/- The walks of what the exact laws call: sizes, copies, comparisons. -/
import Derived.Test.YtjojilimdhekfaaFloor
namespace Go.Proofs.Ytjojilimdhekfaa
set_option linter.unusedSimpArgs false
set_option linter.unusedVariables false
open Go.RowKit

set_option maxHeartbeats 400000 in
theorem szIntS (A : Option Addr) (c n : Nat) (left : Int) (hn : n ≤ 9223372036854775807) (h0 : 0 ≤ left) (h1 : left ≤ 4294967296) (w : World) :
    Calls Try.prog 71 #[.slice A n c, .int .i64 left] w (Same (.int .i64 (if left - (n : Int) < 0 then -1 else left - (n : Int))) w) := by
  by_cases h : left - (n : Int) < 0
  · rw [if_pos h]
    go_enter Try.func71, Try.ntmps71
    go_wp2
    go_ret
    exact Same.of rfl
  · rw [if_neg h]
    go_enter Try.func71, Try.ntmps71
    go_wp2
    go_ret
    exact Same.of rfl

/-- what szIntSS leaves: a number below 0, or the table is small -/
def Sized (g : List (List Int)) (left : Int) (w : World) (e : Ending) (w' : World) : Prop :=
  ∃ r : Int, e = .returned (.int .i64 r) ∧ w = w' ∧ (r < 0 ∨ (0 ≤ r ∧ (g.length : Int) + (sumN g g.length : Nat) ≤ left))

set_option maxHeartbeats 1000000 in
theorem szIntSS (A : Option Addr) (c : Nat) (g : List (List Int)) (S : Nat → Prop) (left : Int) (hl : g.length ≤ maxLen) (h0 : 0 ≤ left) (h1 : left ≤ 4294967296) (w : World) (h : Rows2 w S A g) :
    Calls Try.prog 35 #[.slice A g.length c, .int .i64 left] w (Sized g left w) := by
  unfold maxLen at hl
  by_cases hb : left - (g.length : Int) < 0
  · go_enter Try.func35, Try.ntmps35
    go_wp2_with fail
    go_ret
    exact ⟨-1, rfl, rfl, .inl (by omega)⟩
  · have HH := Lib.hid h
    clear h
    go_enter Try.func35, Try.ntmps35
    go_wp2_with fail
    go_loop [1, 5] (fun v i => ∃ (k : Nat) (r : Int), k ≤ g.length ∧ i = .int .i64 k ∧ v = .int .i64 r ∧ 0 ≤ r ∧ r ≤ left ∧ (g.length : Int) + (sumN g k : Nat) + r ≤ left) (fun _ i => g.length - (intOf i).toNat)
    case atStart => exact ⟨0, _, Nat.zero_le _, rfl, rfl, by omega, by omega, by simp [sumN]; omega⟩
    case round =>
      obtain ⟨k, r, hk, rfl, rfl, hr0, hr1, hr2⟩ := hrel
      by_cases hlt : k < g.length
      · obtain ⟨b, off, rfl⟩ := HH.out.some (by omega)
        obtain ⟨hS, Ak, ck, hck, hlk, hmk, _⟩ := HH.out.row hlt
        unfold maxLen at hmk
        by_cases hb2 : r - ((rowAt g k).length : Int) < 0
        · go_wp2_with fail
          refine (szIntS _ _ _ _ (by omega) hr0 (by omega) _).mono ?_
          rintro e w1 ⟨rfl, rfl⟩
          rw [if_pos (by omega)]
          go_wp2_with fail
          go_ret
          exact ⟨-1, rfl, rfl, .inl (by omega)⟩
        · go_wp2_with fail
          refine (szIntS _ _ _ _ (by omega) hr0 (by omega) _).mono ?_
          rintro e w1 ⟨rfl, rfl⟩
          rw [if_neg (by omega)]
          go_wp2_with fail
          go_round
          case rel => exact ⟨k + 1, _, by omega, by go_num, rfl, by omega, by omega, by simp only [sumN]; omega⟩
          case measure => simp [intOf]; omega
      · obtain rfl : k = g.length := by omega
        go_wp2_with fail
        go_ret
        exact ⟨r, rfl, rfl, .inr ⟨hr0, by omega⟩⟩

set_option maxHeartbeats 1000000 in
theorem toIntS (A : Option Addr) (c : Nat) (l : List Int) (hl : l.length ≤ 4294967296) (w : World) (h : Ints w (· < w.heap.size) A l) :
    Calls Try.prog 37 #[.slice A l.length c] w (fun e w' => NewInts w l e w' ∧ w'.heap.size = w.heap.size + 1) := by
  have hmk := run_make_row' (P := Try.prog) 24 3 _ 8 Try.underlying24 infoI rfl .i64 .i64 l.length (by omega) (by omega)
  have HH := Lib.hid h
  have F0 := Lib.hid (Filled.start w l)
  clear h
  go_enter Try.func37, Try.ntmps37
  go_wp2_with fail
  clear hmk
  go_loopw [4] (fun i wr => ∃ k : Nat, k ≤ l.length ∧ i = .int .i64 k ∧ Hid (Filled w wr l k)) (fun i _ => l.length - (intOf i).toNat)
  case atStart => exact ⟨0, Nat.zero_le _, rfl, F0⟩
  case round =>
    obtain ⟨k, hk, rfl, HF⟩ := hrel
    by_cases hlt : k < l.length
    · obtain ⟨b, off, rfl, hS, hc⟩ := (keepInts HF.out.bel HH.out).at_ hlt
      have hck := hc k hlt
      have hcell := HF.out.row.cell (i := k) hlt
      have hfr := HF.out.row.frozen k
      have HN := Lib.hid HF.out.step
      clear hc
      go_wp2_with fail
      go_roundw
      case rel => exact ⟨k + 1, by omega, by go_num, HN⟩
      case measure => simp [intOf]; omega
    · obtain rfl : k = l.length := by omega
      go_wp2_with fail
      go_ret
      exact ⟨⟨rfl, HF.out.bel, by rw [HF.out.size]; omega, HF.out.done⟩, HF.out.size⟩

set_option maxHeartbeats 1000000 in
theorem toIntSS (A : Option Addr) (c : Nat) (g : List (List Int)) (hl : g.length ≤ 4294967296) (hm : ∀ i, i < g.length → (rowAt g i).length ≤ 4294967296) (w : World) (h : Rows2 w (· < w.heap.size) A g) :
    Calls Try.prog 36 #[.slice A g.length c] w (NewRows w g) := by
  have hmk := run_make_row' (P := Try.prog) 23 24 _ 24 Try.underlying23 infoR rfl .i64 .i64 g.length (by omega) (by omega)
  have HH := Lib.hid h
  have HM := Lib.hid hm
  have F0 := Lib.hid (Laying.start w g)
  clear h hm
  go_enter Try.func36, Try.ntmps36
  go_wp2_with fail
  clear hmk
  go_loopw [4] (fun i wr => ∃ k : Nat, k ≤ g.length ∧ i = .int .i64 k ∧ Hid (Laying w wr g k)) (fun i _ => g.length - (intOf i).toNat)
  case atStart => exact ⟨0, Nat.zero_le _, rfl, F0⟩
  case round =>
    obtain ⟨k, hk, rfl, HF⟩ := hrel
    by_cases hlt : k < g.length
    · obtain ⟨b, off, rfl⟩ := HH.out.some (by omega)
      obtain ⟨hS, Ak, ck, hck, hlk, hmk, hik⟩ := (keepRows HF.out.bel HH.out).row hlt
      have hsz := HF.out.size
      have HI := Lib.hid (hik.mono (T := (· < wr.heap.size)) (fun b hb => by omega))
      unfold maxLen at hmk
      have HSZ := Lib.hid hsz
      clear hik hsz
      go_wp2_with fail
      refine (toIntS _ _ (rowAt g k) (HM.out k hlt) _ HI.out).mono ?_
      rintro e w1 ⟨⟨rfl, hb1, hs1, hr1⟩, hs2⟩
      have hcell := (HF.out.top.of_block (hb1.block _ (by have := HSZ.out; omega))).cell (i := k) hlt
      rw [if_neg (by omega)] at hcell
      have hfr := (HF.out.top.of_block (hb1.block _ (by have := HSZ.out; omega))).frozen k
      have HN := Lib.hid (HF.out.next hb1 hs2 hr1)
      clear hs2 hr1
      go_wp2_with fail
      go_roundw
      case rel => exact ⟨k + 1, by omega, by go_num, HN⟩
      case measure => simp [intOf]; omega
    · obtain rfl : k = g.length := by omega
      go_wp2_with fail
      go_ret
      exact ⟨rfl, HF.out⟩

set_option maxHeartbeats 1000000 in
theorem eqIntS (A B : Option Addr) (c d : Nat) (l : List Int) (S T : Nat → Prop) (hl : l.length ≤ maxLen) (w : World) (h : Ints w S A l) (h' : Ints w T B l) :
    Calls Try.prog 40 #[.slice A l.length c, .slice B l.length d] w (Quiet (.bool true) w) := by
  unfold maxLen at hl
  have z1 : ((l.length : Int) != (l.length : Int)) = false := by simp
  have HH := Lib.hid h
  have HK := Lib.hid h'
  clear h h'
  go_enter Try.func40, Try.ntmps40
  go_wp2_with fail
  go_loopw [5] (fun i wr => ∃ k : Nat, k ≤ l.length ∧ i = .int .i64 k ∧ ∃ n, wr = w.drewN n) (fun i _ => l.length - (intOf i).toNat)
  case atStart => exact ⟨0, Nat.zero_le _, rfl, (by first | exact ⟨0, rfl⟩ | exact ⟨_, rfl⟩ | exact ⟨_, World.drewN_drewN _ _ _⟩ | (simp only [World.drewN_drewN]; exact ⟨_, rfl⟩))⟩
  case round =>
    obtain ⟨k, hk, rfl, n, rfl⟩ := hrel
    by_cases hlt : k < l.length
    · obtain ⟨b, off, rfl, hS, hc⟩ := HH.out.at_ hlt
      obtain ⟨b', off', rfl, hS', hc'⟩ := HK.out.at_ hlt
      have hck := hc k hlt
      have hck' := hc' k hlt
      have z2 : (nth l k != nth l k) = false := by simp
      clear hc hc'
      go_wp2_with fail
      go_quiet (fail)
      go_wp2_with fail
      go_roundw
      case rel => exact ⟨k + 1, by omega, by go_num, (by first | exact ⟨0, rfl⟩ | exact ⟨_, rfl⟩ | exact ⟨_, World.drewN_drewN _ _ _⟩ | (simp only [World.drewN_drewN]; exact ⟨_, rfl⟩))⟩
      case measure => simp [intOf]; omega
    · obtain rfl : k = l.length := by omega
      go_wp2_with fail
      go_ret
      exact Quiet.ofD rfl (by first | exact ⟨0, rfl⟩ | exact ⟨_, rfl⟩ | exact ⟨_, World.drewN_drewN _ _ _⟩ | (simp only [World.drewN_drewN]; exact ⟨_, rfl⟩))

set_option maxHeartbeats 1000000 in
theorem eqIntSS (A B : Option Addr) (c d : Nat) (g : List (List Int)) (S T : Nat → Prop) (hl : g.length ≤ maxLen) (w : World) (h : Rows2 w S A g) (h' : Rows2 w T B g) :
    Calls Try.prog 39 #[.slice A g.length c, .slice B g.length d] w (Quiet (.bool true) w) := by
  unfold maxLen at hl
  have z1 : ((g.length : Int) != (g.length : Int)) = false := by simp
  have HH := Lib.hid h
  have HK := Lib.hid h'
  clear h h'
  go_enter Try.func39, Try.ntmps39
  go_wp2_with fail
  go_loopw [5] (fun i wr => ∃ k : Nat, k ≤ g.length ∧ i = .int .i64 k ∧ ∃ n, wr = w.drewN n) (fun i _ => g.length - (intOf i).toNat)
  case atStart => exact ⟨0, Nat.zero_le _, rfl, (by first | exact ⟨0, rfl⟩ | exact ⟨_, rfl⟩ | exact ⟨_, World.drewN_drewN _ _ _⟩ | (simp only [World.drewN_drewN]; exact ⟨_, rfl⟩))⟩
  case round =>
    obtain ⟨k, hk, rfl, n, rfl⟩ := hrel
    by_cases hlt : k < g.length
    · obtain ⟨b, off, rfl⟩ := HH.out.some (by omega)
      obtain ⟨b', off', rfl⟩ := HK.out.some (by omega)
      obtain ⟨hS, Ak, ck, hck, hlk, hmk, hik⟩ := HH.out.row hlt
      obtain ⟨hS', Bk, dk, hdk, hlk', hmk', hik'⟩ := HK.out.row hlt
      have HI := Lib.hid hik
      have HJ := Lib.hid hik'
      clear hik hik'
      have hmk2 := hmk
      unfold maxLen at hmk hmk'
      go_wp2_with fail
      go_quiet ((go_at_call 40; exact quietAdd (eqIntS _ _ _ _ (rowAt g k) S T (Nat.le_trans hlk hmk2) _ (HI.out.drewN _) (HJ.out.drewN _))))
      go_wp2_with fail
      go_roundw
      case rel => exact ⟨k + 1, by omega, by go_num, (by first | exact ⟨0, rfl⟩ | exact ⟨_, rfl⟩ | exact ⟨_, World.drewN_drewN _ _ _⟩ | (simp only [World.drewN_drewN]; exact ⟨_, rfl⟩))⟩
      case measure => simp [intOf]; omega
    · obtain rfl : k = g.length := by omega
      go_wp2_with fail
      go_ret
      exact Quiet.ofD rfl (by first | exact ⟨0, rfl⟩ | exact ⟨_, rfl⟩ | exact ⟨_, World.drewN_drewN _ _ _⟩ | (simp only [World.drewN_drewN]; exact ⟨_, rfl⟩))

end Go.Proofs.Ytjojilimdhekfaa
