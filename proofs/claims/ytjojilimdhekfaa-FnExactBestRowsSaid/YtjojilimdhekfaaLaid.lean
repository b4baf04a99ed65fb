/- Words for memory: rows that a call lays in new blocks, one after the other. -/
import Derived.Test.YtjojilimdhekfaaBest
namespace Go.Proofs.Ytjojilimdhekfaa
set_option linter.unusedSimpArgs false
set_option linter.unusedVariables false
open Go.RowKit

/-- while rows are laid: the first k rows of g lie in blocks of their own behind the outer one -/
structure Laying (w wr : World) (g : List (List Int)) (k : Nat) : Prop where
  bel : Below w.heap.size w wr
  size : wr.heap.size = w.heap.size + 1 + k
  top : wr.rowIs w.heap.size 24 g.length (fun j => if j < k then .slice (some ⟨w.heap.size + 1 + j, 0, none⟩) (rowAt g j).length (rowAt g j).length else .slice none 0 0)
  rows : ∀ j, j < k → IntRow wr (w.heap.size + 1 + j) (rowAt g j)

/-- all rows are laid -/
def Laid (w w' : World) (g : List (List Int)) : Prop := Laying w w' g g.length

theorem Laying.start (w : World) (g : List (List Int)) : Laying w (w.alloc (.cells (madeCells #[.slice none 0 0] g.length) 24)) g 0 :=
  ⟨(Below.refl _ _).alloc (Nat.le_refl _) _, by simp, (World.rowIs_made w _ _ _).congr (fun j _ => by simp), fun j hj => absurd hj (Nat.not_lt_zero _)⟩

theorem Laying.drewN {w wr : World} {g : List (List Int)} {k : Nat} (h : Laying w wr g k) (n : Nat) : Laying w (wr.drewN n) g k := ⟨below_drewN h.bel n, h.size, h.top, h.rows⟩

theorem Laying.drew {w wr : World} {g : List (List Int)} {k : Nat} (h : Laying w wr g k) : Laying w wr.drew g k := ⟨h.bel.drew, h.size, h.top, h.rows⟩

/-- a row that a call made is stored -/
theorem Laying.next {w wr w2 : World} {g : List (List Int)} {k : Nat} (h : Laying w wr g k) (hb : Below wr.heap.size wr w2) (hs : w2.heap.size = wr.heap.size + 1) (hr : IntRow w2 wr.heap.size (rowAt g k)) :
    Laying w (w2.setCell ⟨w.heap.size, k, none⟩ (.slice (some ⟨wr.heap.size, 0, none⟩) (rowAt g k).length (rowAt g k).length)) g (k + 1) := by
  have hz := h.size
  rw [hz] at hr ⊢
  refine ⟨(h.bel.trans (hb.mono (by omega))).setCell (Nat.le_refl _) _, by simp only [World.setCell, Array.size_modify]; omega, ((h.top.of_block (hb.block _ (by omega))).set k _).congr (fun j _ => ?_), fun j hj => ?_⟩
  · by_cases e : j = k
    · subst e; simp
    · rw [if_neg e]
      by_cases hlt : j < k
      · rw [if_pos hlt, if_pos (by omega)]
      · rw [if_neg hlt, if_neg (by omega)]
  · by_cases e : j = k
    · subst e; exact hr.setOther (by show w.heap.size + 1 + j ≠ w.heap.size; omega) _
    · exact ((h.rows j (by omega)).of_block (hb.block _ (by omega))).setOther (by show w.heap.size + 1 + j ≠ w.heap.size; omega) _

theorem Laying.cell {w wr : World} {g : List (List Int)} {k : Nat} (h : Laying w wr g k) {j : Nat} (hj : j < k) (hk : k ≤ g.length) : wr.cell? ⟨w.heap.size, j, none⟩ = some (.slice (some ⟨w.heap.size + 1 + j, 0, none⟩) (rowAt g j).length (rowAt g j).length) := by
  have := h.top.cell (i := j) (by omega); rwa [if_pos hj] at this

theorem Laying.empty {w wr : World} {g : List (List Int)} {k : Nat} (h : Laying w wr g k) (hk : k < g.length) : wr.cell? ⟨w.heap.size, k, none⟩ = some (.slice none 0 0) := by
  have := h.top.cell (i := k) hk; rwa [if_neg (by omega)] at this

/-- while row k is filled in place: its first r numbers are there -/
structure LayIn (w wr : World) (g : List (List Int)) (k r : Nat) : Prop where
  bel : Below w.heap.size w wr
  size : wr.heap.size = w.heap.size + 1 + k + 1
  top : wr.rowIs w.heap.size 24 g.length (fun j => if j < k + 1 then .slice (some ⟨w.heap.size + 1 + j, 0, none⟩) (rowAt g j).length (rowAt g j).length else .slice none 0 0)
  rows : ∀ j, j < k → IntRow wr (w.heap.size + 1 + j) (rowAt g j)
  cur : wr.rowIs (w.heap.size + 1 + k) 3 (rowAt g k).length (fun i => .int .i64 (if i < r then nth (rowAt g k) i else 0))

theorem Laying.open_ {w wr : World} {g : List (List Int)} {k : Nat} (h : Laying w wr g k) :
    LayIn w ((wr.alloc (.cells (madeCells #[.int .i64 0] (rowAt g k).length) 3)).setCell ⟨w.heap.size, k, none⟩ (.slice (some ⟨wr.heap.size, 0, none⟩) (rowAt g k).length (rowAt g k).length)) g k 0 := by
  have hz := h.size
  have hnew := World.rowIs_made wr (.int .i64 0) (rowAt g k).length 3
  rw [hz] at hnew ⊢
  refine ⟨(h.bel.alloc (by omega) _).setCell (Nat.le_refl _) _, by simp [World.setCell, hz], ((h.top.alloc _).set k _).congr (fun j _ => ?_), fun j hj => ((h.rows j hj).alloc _).setOther (by show w.heap.size + 1 + j ≠ w.heap.size; omega) _,
    (hnew.setOther (by show w.heap.size + 1 + k ≠ w.heap.size; omega) _).congr (fun i _ => by simp)⟩
  by_cases e : j = k
  · subst e; simp
  · rw [if_neg e]
    by_cases hlt : j < k
    · rw [if_pos hlt, if_pos (by omega)]
    · rw [if_neg hlt, if_neg (by omega)]

theorem LayIn.drewN {w wr : World} {g : List (List Int)} {k r : Nat} (h : LayIn w wr g k r) (n : Nat) : LayIn w (wr.drewN n) g k r := ⟨below_drewN h.bel n, h.size, h.top, h.rows, h.cur⟩

theorem LayIn.drew {w wr : World} {g : List (List Int)} {k r : Nat} (h : LayIn w wr g k r) : LayIn w wr.drew g k r := ⟨h.bel.drew, h.size, h.top, h.rows, h.cur⟩

theorem LayIn.step {w wr : World} {g : List (List Int)} {k r : Nat} (h : LayIn w wr g k r) : LayIn w (wr.setCell ⟨w.heap.size + 1 + k, r, none⟩ (.int .i64 (nth (rowAt g k) r))) g k (r + 1) := by
  refine ⟨h.bel.setCell (by show w.heap.size ≤ w.heap.size + 1 + k; omega) _, by simp [World.setCell, h.size], h.top.setOther (by show w.heap.size ≠ w.heap.size + 1 + k; omega) _,
    fun j hj => (h.rows j hj).setOther (by show w.heap.size + 1 + j ≠ w.heap.size + 1 + k; omega) _, (h.cur.set r _).congr (fun i _ => ?_)⟩
  by_cases e : i = r
  · subst e; simp
  · rw [if_neg e]
    by_cases hlt : i < r
    · rw [if_pos hlt, if_pos (by omega)]
    · rw [if_neg hlt, if_neg (by omega)]

theorem LayIn.close {w wr : World} {g : List (List Int)} {k : Nat} (h : LayIn w wr g k (rowAt g k).length) : Laying w wr g (k + 1) :=
  ⟨h.bel, by rw [h.size]; omega, h.top, fun j hj => by
    by_cases e : j = k
    · subst e; exact h.cur.congr (fun i hi => by rw [if_pos hi])
    · exact h.rows j (by omega)⟩

theorem LayIn.cell {w wr : World} {g : List (List Int)} {k r : Nat} (h : LayIn w wr g k r) (hk : k < g.length) : wr.cell? ⟨w.heap.size, k, none⟩ = some (.slice (some ⟨w.heap.size + 1 + k, 0, none⟩) (rowAt g k).length (rowAt g k).length) := by
  have := h.top.cell (i := k) hk; rwa [if_pos (by omega)] at this

theorem Laid.rows2 {w w' : World} {g : List (List Int)} (h : Laid w w' g) {S : Nat → Prop} (hS : ∀ b, w.heap.size ≤ b → b < w'.heap.size → S b) (hm : ∀ i, i < g.length → (rowAt g i).length ≤ maxLen) : Rows2 w' S (some ⟨w.heap.size, 0, none⟩) g := by
  have hz := Laying.size h
  intro h0
  refine ⟨_, 0, rfl, hS _ (Nat.le_refl _) (by omega), fun i hi => ⟨_, _, by rw [Nat.zero_add]; exact Laying.cell h hi (Nat.le_refl _), Nat.le_refl _, hm i hi, (Laying.rows h i hi).ints (hS _ (by omega) (by omega))⟩⟩

/-- what a call leaves that hands back new rows -/
def NewRows (w : World) (g : List (List Int)) (e : Ending) (w' : World) : Prop :=
  e = .returned (.slice (some ⟨w.heap.size, 0, none⟩) g.length g.length) ∧ Laid w w' g

theorem rowAt_cols_length (g : List (List Int)) (j : Nat) (h : j < (rowAt g 0).length) : (rowAt (cols g) j).length = g.length := by rw [rowAt_cols g j h, col_length]

theorem nth_cols (g : List (List Int)) (j i : Nat) (h : j < (rowAt g 0).length) (hi : i < g.length) : nth (rowAt (cols g) j) i = nth (rowAt g i) j := by rw [rowAt_cols g j h, nth_col g j i hi]

set_option maxHeartbeats 1000000 in
theorem columnsOf (A : Option Addr) (c : Nat) (g : List (List Int)) (m : Nat) (hg : Game g m) (w : World) (h : Rows2 w (· < w.heap.size) A g) :
    Calls Try.prog 61 #[.slice A g.length c] w (NewRows w (cols g)) := by
  obtain ⟨hb, hm⟩ := hg.to
  subst hm
  have h1 := hg.lo
  have h2 := hg.hi
  have h3 := hg.mlo
  have h4 := hg.mhi
  have hmk1 := run_make_row' (P := Try.prog) 23 24 _ 24 Try.underlying23 infoR rfl .i64 .i64 (rowAt g 0).length (by omega) (by omega)
  obtain ⟨b, off, rfl⟩ := h.some (by omega)
  obtain ⟨hS, A0, c0, hc0, hl0, hm0, _⟩ := h.row (i := 0) (by omega)
  rw [Nat.add_zero] at hc0
  unfold maxLen at hm0
  have HG := Lib.hid hg
  have HH := Lib.hid h
  have HL := Lib.hid (cols_length g)
  have F0 : Hid (Laying w (w.alloc (.cells (madeCells #[.slice none 0 0] (rowAt g 0).length) 24)) (cols g) 0) := by
    have := Laying.start w (cols g); rw [HL.out] at this; exact this
  clear h hg hb
  go_enter Try.func61, Try.ntmps61
  go_wp2_with fail
  clear hmk1 hc0
  go_loopw [14] (fun i wr => ∃ k : Nat, k ≤ (rowAt g 0).length ∧ i = .int .i64 k ∧ Hid (Laying w wr (cols g) k)) (fun i _ => (rowAt g 0).length - (intOf i).toNat)
  case atStart => exact ⟨0, Nat.zero_le _, rfl, F0⟩
  case round =>
    obtain ⟨k, hk, rfl, HF⟩ := hrel
    by_cases hlt : k < (rowAt g 0).length
    · have HC := Lib.hid (rowAt_cols_length g k hlt)
      have hlt' : k < (cols g).length := by rw [HL.out]; exact hlt
      have hmk2 := run_make_row' (P := Try.prog) 24 3 _ 8 Try.underlying24 infoI rfl .i64 .i64 g.length (by omega) (by omega)
      have hst1 : ∀ o, (wr.alloc o).cell? ⟨w.heap.size, k, none⟩ = some (.slice none 0 0) := fun o => by
        have := ((HF.out.top).alloc o).cell (i := k) hlt'; rwa [if_neg (by omega)] at this
      have hst2 : ∀ o, (wr.alloc o).frozen? ⟨w.heap.size, k, none⟩ = false := fun o => (HF.out.top.alloc o).frozen k
      have HI : Hid (LayIn w ((wr.alloc (.cells (madeCells #[.int .i64 0] g.length) 3)).setCell ⟨w.heap.size, k, none⟩ (.slice (some ⟨wr.heap.size, 0, none⟩) g.length g.length)) (cols g) k 0) := by
        have := HF.out.open_; rw [HC.out] at this; exact this
      go_wp2_with fail
      clear hmk2 hst1 hst2
      go_loopw [25] (fun i wi => ∃ r : Nat, r ≤ g.length ∧ i = .int .i64 r ∧ Hid (LayIn w wi (cols g) k r)) (fun i _ => g.length - (intOf i).toNat)
      case atStart => exact ⟨0, Nat.zero_le _, rfl, HI⟩
      case round =>
        obtain ⟨r, hr, rfl, HI⟩ := hrel
        by_cases hlr : r < g.length
        · have R := keepRows HI.out.bel HH.out
          obtain ⟨b2, off2, c2, hd1, hd2, hd3, hS2, hd0⟩ := R.cell (i := r) (j := k) hlr (by rw [HG.out.len r hlr]; exact hlt)
          have hlk : k < (rowAt g r).length := by rw [HG.out.len r hlr]; exact hlt
          unfold maxLen at hd3
          have g1 : wr.cell? ⟨w.heap.size, k, none⟩ = some (.slice (some ⟨w.heap.size + 1 + k, 0, none⟩) g.length g.length) := by have := HI.out.cell hlt'; rwa [HC.out] at this
          have g2 : ∃ z, wr.cell? ⟨w.heap.size + 1 + k, r, none⟩ = some z := ⟨_, HI.out.cur.cell (i := r) (by rw [HC.out]; exact hlr)⟩
          obtain ⟨z, g2⟩ := g2
          have g3 : wr.frozen? ⟨w.heap.size + 1 + k, r, none⟩ = false := HI.out.cur.frozen r
          have HN : Hid (LayIn w (wr.setCell ⟨w.heap.size + 1 + k, r, none⟩ (.int .i64 (nth (rowAt g r) k))) (cols g) k (r + 1)) := by
            have := HI.out.step; rw [nth_cols g k r hlt hlr] at this; exact this
          have q1 : (0 : Int) ≤ (k : Int) := by omega
          have q2 : (k : Int) < ((rowAt g r).length : Int) := by omega
          have q3 : (0 : Int) ≤ (r : Int) := by omega
          have q4 : (r : Int) < (g.length : Int) := by omega
          have q5 : (k : Int) < ((rowAt g 0).length : Int) := by omega
          clear HI R
          go_wp2_with fail
          go_region
          all_goals go_wp2_with fail
          all_goals go_roundw
          all_goals first | (simp [intOf]; omega) | exact ⟨r + 1, by omega, by go_num, HN.out.drew⟩
        · obtain rfl : r = g.length := by omega
          have HN : Hid (Laying w wr (cols g) (k + 1)) := by
            have := HI.out; rw [← HC.out] at this; exact this.close
          go_wp2_with fail
          go_roundw
          case rel => exact ⟨k + 1, by omega, by go_num, HN⟩
          case measure => simp [intOf]; omega
    · obtain rfl : k = (rowAt g 0).length := by omega
      go_wp2_with fail
      go_ret
      have HD := HF.out
      rw [← HL.out] at HD
      exact ⟨by rw [HL.out]; rfl, HD⟩

end Go.Proofs.Ytjojilimdhekfaa
