/- The walk of the program's game from the other side. -/
import Derived.Test.YtjojilimdhekfaaMark
namespace Go.Proofs.Ytjojilimdhekfaa
set_option linter.unusedSimpArgs false
set_option linter.unusedVariables false
open Go.RowKit

/-- while the columns are given the other sign: those before j are, and of column j the first i numbers -/
structure Turning (w wr : World) (g : List (List Int)) (j i : Nat) : Prop where
  bel : Below w.heap.size w wr
  size : wr.heap.size = w.heap.size + 1 + (rowAt g 0).length
  top : wr.rowIs w.heap.size 24 (rowAt g 0).length (fun r => .slice (some ⟨w.heap.size + 1 + r, 0, none⟩) g.length g.length)
  rows : ∀ r, r < (rowAt g 0).length → wr.rowIs (w.heap.size + 1 + r) 3 g.length (fun x => .int .i64 (if r < j ∨ (r = j ∧ x < i) then -nth (rowAt g x) r else nth (rowAt g x) r))

theorem Turning.start {w wr : World} {g : List (List Int)} (h : Laid w wr (cols g)) : Turning w wr g 0 0 := by
  have hl := cols_length g
  refine ⟨h.bel, by rw [Laying.size h, hl], ?_, fun r hr => ?_⟩
  · have := Laying.top h
    rw [hl] at this
    exact this.congr (fun r hr => by rw [if_pos hr, rowAt_cols_length g r hr])
  · have := Laying.rows h r (by rw [hl]; exact hr)
    unfold IntRow at this
    rw [rowAt_cols_length g r hr] at this
    exact this.congr (fun x hx => by rw [if_neg (by omega), nth_cols g r x hr hx])

theorem Turning.step {w wr : World} {g : List (List Int)} {j i : Nat} (h : Turning w wr g j i) (hj : j < (rowAt g 0).length) : Turning w (wr.setCell ⟨w.heap.size + 1 + j, i, none⟩ (.int .i64 (-nth (rowAt g i) j))) g j (i + 1) := by
  refine ⟨h.bel.setCell (by show w.heap.size ≤ w.heap.size + 1 + j; omega) _, by simp [World.setCell, h.size], h.top.setOther (by show w.heap.size ≠ w.heap.size + 1 + j; omega) _, fun r hr => ?_⟩
  by_cases e : r = j
  · subst e
    refine ((h.rows r hr).set i _).congr (fun x _ => ?_)
    by_cases e : x = i
    · subst e; rw [if_pos rfl, if_pos (.inr ⟨rfl, Nat.lt_succ_self _⟩)]
    · rw [if_neg e]
      by_cases hx : x < i
      · rw [if_pos (.inr ⟨rfl, hx⟩), if_pos (.inr ⟨rfl, by omega⟩)]
      · rw [if_neg (by omega), if_neg (by omega)]
  · refine ((h.rows r hr).setOther (by show w.heap.size + 1 + r ≠ w.heap.size + 1 + j; omega) _).congr (fun x _ => ?_)
    by_cases hx : r < j
    · rw [if_pos (.inl hx), if_pos (.inl hx)]
    · rw [if_neg (by omega), if_neg (by omega)]

theorem Turning.next {w wr : World} {g : List (List Int)} {j : Nat} (h : Turning w wr g j g.length) : Turning w wr g (j + 1) 0 :=
  ⟨h.bel, h.size, h.top, fun r hr => (h.rows r hr).congr (fun x hx => by
    by_cases e : r ≤ j
    · rw [if_pos (by omega), if_pos (by omega)]
    · rw [if_neg (by omega), if_neg (by omega)])⟩

theorem Turning.done {w wr : World} {g : List (List Int)} (h : Turning w wr g (rowAt g 0).length 0) : Laid w wr (turnedL g) := by
  have hl := turnedL_length g
  refine ⟨h.bel, by rw [h.size, hl], ?_, fun r hr => ?_⟩
  · rw [hl]
    exact h.top.congr (fun r hr => by rw [if_pos hr, turnedL_row_length g r hr])
  · rw [hl] at hr
    unfold IntRow
    rw [turnedL_row_length g r hr]
    exact (h.rows r hr).congr (fun x hx => by rw [if_pos (.inl hr), nth_turnedL g r x hr hx])

/-- what a call leaves that hands back a table of its own -/
def NewTable (w : World) (g : List (List Int)) (e : Ending) (w' : World) : Prop :=
  ∃ (T : Option Addr) (c : Nat), e = .returned (.slice T g.length c) ∧ Below w.heap.size w w' ∧ OwnR w' w.heap.size w'.heap.size T g

set_option maxHeartbeats 1000000 in
theorem turned_impl (A : Option Addr) (c : Nat) (g : List (List Int)) (hl : g.length ≤ maxLen) (w : World) (h : Rows2 w (· < w.heap.size) A g) :
    Calls Try.prog 25 #[.slice A g.length c] w (NewTable w (turned g)) := by
  rcases hb : gameB g with _ | _
  · have H1 : Hid (turned g = []) := by simp [Hid, turned, hb]
    have HB := Lib.hid hb
    clear hb
    go_enter Try.func25, Try.ntmps25
    go_wp2_with fail
    refine (game_impl _ _ _ _ hl _ h).mono ?_
    rintro e w1 ⟨rfl, rfl⟩
    rw [HB.out]
    go_wp2_with fail
    go_ret
    rw [H1.out]
    exact ⟨none, 0, rfl, Below.refl _ _, fun h0 => absurd h0 (by simp)⟩
  have hg := Game.of hb
  have hg1 := hg.lo
  have hg2 := hg.hi
  have hg3 := hg.mlo
  have hg4 := hg.mhi
  have H1 : Hid (turned g = turnedL g) := by simp [Hid, turned, hb]
  have HB := Lib.hid hb
  have HR := Lib.hid h
  have HG := Lib.hid hg
  have HCL := Lib.hid (cols_length g)
  clear hb h hg
  go_enter Try.func25, Try.ntmps25
  go_wp2_with fail
  refine (game_impl _ _ _ _ hl _ HR.out).mono ?_
  rintro e w1 ⟨rfl, rfl⟩
  rw [HB.out]
  go_wp2_with fail
  refine (columnsOf _ _ g _ HG.out _ HR.out).mono ?_
  rintro e w1 ⟨rfl, hL⟩
  rw [HCL.out]
  have T0 := Lib.hid (Turning.start hL)
  clear hL
  go_wp2_with fail
  go_loopw [14] (fun j wr => ∃ k : Nat, k ≤ (rowAt g 0).length ∧ j = .int .i64 k ∧ Hid (Turning w wr g k 0)) (fun j _ => (rowAt g 0).length - (intOf j).toNat)
  case atStart => exact ⟨0, Nat.zero_le _, rfl, T0⟩
  case round =>
    obtain ⟨k, hk, rfl, HT⟩ := hrel
    by_cases hlt : k < (rowAt g 0).length
    · have hct := HT.out.top.cell (i := k) hlt
      go_wp2_with fail
      clear hct
      go_loopw [20] (fun i wr => ∃ m : Nat, m ≤ g.length ∧ i = .int .i64 m ∧ Hid (Turning w wr g k m)) (fun i _ => g.length - (intOf i).toNat)
      case atStart => exact ⟨0, Nat.zero_le _, rfl, HT⟩
      case round =>
        clear HT
        obtain ⟨m, hm, rfl, HT⟩ := hrel
        by_cases hlm : m < g.length
        · have hc := (HT.out.rows k hlt).cell (i := m) hlm
          rw [if_neg (by omega)] at hc
          have hf := (HT.out.rows k hlt).frozen m
          have hn1 := HG.out.nlo m hlm k hlt
          have hn2 := HG.out.nhi m hlm k hlt
          have HN := Lib.hid (HT.out.step hlt)
          go_wp2_with fail
          go_roundw
          case rel => exact ⟨m + 1, by omega, by go_num, HN⟩
          case measure => simp [intOf]; omega
        · obtain rfl : m = g.length := by omega
          have HN := Lib.hid HT.out.next
          go_wp2_with fail
          go_roundw
          case rel => exact ⟨k + 1, by omega, by go_num, HN⟩
          case measure => simp [intOf]; omega
    · obtain rfl : k = (rowAt g 0).length := by omega
      go_wp2_with fail
      go_ret
      have HD := HT.out.done
      rw [H1.out]
      refine ⟨some ⟨w.heap.size, 0, none⟩, (rowAt g 0).length, by rw [turnedL_length]; rfl, HD.bel, Laid.own HD fun i hi => ?_⟩
      rw [turnedL_length] at hi
      rw [turnedL_row_length g i hi]; exact hl

end Go.Proofs.Ytjojilimdhekfaa
