/- The walks of the program's folds: the better number, the best of a list, the best of each line. -/
import Derived.Test.YtaphlhdkdokopaaGameS
import Derived.Deep.OwnRows
import Derived.Shelf.Abstract
namespace Go.Proofs.Ytaphlhdkdokopaa
set_option linter.unusedSimpArgs false
set_option linter.unusedVariables false
open Go.RowKit

theorem infoI : (Try.prog.info? 3).map (fun i => (i.zero, i.size, i.bytes)) = some (some (.int .i64 0), 1, 8) := by kernel_rfl

theorem infoR : (Try.prog.info? 26).map (fun i => (i.zero, i.size, i.bytes)) = some (some (.slice none 0 0), 1, 24) := by kernel_rfl

/-- a function that tells the better one of two numbers, and leaves the world alone -/
structure Better (f : FuncId) (bet : Int → Int → Bool) : Prop where
  enters : ∀ (args : Array Value) (w : World), (callFunc f args).run Try.prog w = .ok (.enter f args) w
  calls : ∀ (a b : Int) (w : World), Calls Try.prog f #[.int .i64 a, .int .i64 b] w (Same (.bool (bet a b)) w)

set_option maxHeartbeats 400000 in
theorem lower : Better 48 ltB := by
  refine ⟨enters_of Try.func48 (by kernel_rfl) rfl, ?_⟩
  intro a b w
  by_cases h : a < b
  · have hf : ltB a b = true := by simp [ltB, h]
    rw [hf]
    go_enter Try.func48, Try.ntmps48
    go_wp2
    go_ret
    exact Same.of (by simp; try omega)
  · have hf : ltB a b = false := by simp [ltB, h]
    rw [hf]
    go_enter Try.func48, Try.ntmps48
    go_wp2
    go_ret
    exact Same.of (by simp; try omega)

set_option maxHeartbeats 400000 in
theorem higher : Better 49 gtB := by
  refine ⟨enters_of Try.func49 (by kernel_rfl) rfl, ?_⟩
  intro a b w
  by_cases h : b < a
  · have hf : gtB a b = true := by simp [gtB, h]
    rw [hf]
    go_enter Try.func49, Try.ntmps49
    go_wp2
    go_ret
    exact Same.of (by simp; try omega)
  · have hf : gtB a b = false := by simp [gtB, h]
    rw [hf]
    go_enter Try.func49, Try.ntmps49
    go_wp2
    go_ret
    exact Same.of (by simp; try omega)

set_option maxHeartbeats 1000000 in
theorem bestOf (f : FuncId) (bet : Int → Int → Bool) (hf : Better f bet) (A : Option Addr) (c : Nat) (l : List Int) (S : Nat → Prop) (h0 : 0 < l.length) (hl : l.length ≤ maxLen) (w : World) (h : Ints w S A l) :
    Calls Try.prog 46 #[.slice A l.length c, .func (.func f) #[] #[]] w (Same (.tuple #[.int .i64 (nth l (bestN bet l l.length)), .int .i64 (bestN bet l l.length : Nat)]) w) := by
  unfold maxLen at hl
  obtain ⟨b, off, rfl, hS, hcell⟩ := h.at_ h0
  have HC := Lib.hid hcell
  have HF := Lib.hid hf.calls
  have hE := hf.enters
  clear hcell hf h
  go_enter Try.func46, Try.ntmps46
  go_wp2_with fail
  go_loop [6, 11] (fun v i => ∃ k : Nat, k ≤ l.length ∧ i = .int .i64 k ∧ v = .int .i64 (bestN bet l k : Nat)) (fun _ i => l.length - (intOf i).toNat)
  case atStart => exact ⟨0, Nat.zero_le _, rfl, rfl⟩
  case round =>
    obtain ⟨k, hk, rfl, rfl⟩ := hrel
    have hbl : bestN bet l k < l.length := bestN_lt _ _ h0 hk
    have hcb := HC.out _ hbl
    by_cases hlt : k < l.length
    · have hck := HC.out k hlt
      go_wp2_with fail
      refine (HF.out _ _ _).mono ?_
      rintro e w1 ⟨rfl, rfl⟩
      rcases hb : bet (nth l k) (nth l (bestN bet l k)) with _ | _
      · have HS : Hid (bestN bet l (k + 1) = bestN bet l k) := by show bestN _ _ _ = _; simp [bestN, hb]
        clear hb
        go_wp2_with fail
        go_round
        case rel => exact ⟨k + 1, by omega, by go_num, by rw [HS.out]⟩
        case measure => simp [intOf]; omega
      · have HS : Hid (bestN bet l (k + 1) = k) := by show bestN _ _ _ = _; simp [bestN, hb]
        clear hb
        go_wp2_with fail
        go_round
        case rel => exact ⟨k + 1, by omega, by go_num, by rw [HS.out]⟩
        case measure => simp [intOf]; omega
    · obtain rfl : k = l.length := by omega
      go_wp2_with fail
      go_ret2
      exact Same.of rfl

/-- a row of numbers of the call's own: block b holds l -/
def IntRow (w : World) (b : Nat) (l : List Int) : Prop := w.rowIs b 3 l.length (fun i => .int .i64 (nth l i))

theorem IntRow.ints {w : World} {b : Nat} {l : List Int} {S : Nat → Prop} (h : IntRow w b l) (hb : S b) : Ints w S (some ⟨b, 0, none⟩) l :=
  fun _ => ⟨b, 0, rfl, hb, fun i hi => by rw [Nat.zero_add]; exact h.cell hi⟩

theorem keepRows {w w' : World} {B : Nat} {A : Option Addr} {g : List (List Int)} (hb : Below B w w') (h : Rows2 w (· < B) A g) : Rows2 w' (· < B) A g := h.keep hb.block

theorem keepInts {w w' : World} {B : Nat} {A : Option Addr} {l : List Int} (hb : Below B w w') (h : Ints w (· < B) A l) : Ints w' (· < B) A l := h.keep hb.block

/-- while a row is filled: its first k numbers are those of l -/
structure Filled (w wr : World) (l : List Int) (k : Nat) : Prop where
  bel : Below w.heap.size w wr
  size : wr.heap.size = w.heap.size + 1
  row : wr.rowIs w.heap.size 3 l.length (fun i => .int .i64 (if i < k then nth l i else 0))

theorem Filled.start (w : World) (l : List Int) : Filled w (w.alloc (.cells (madeCells #[.int .i64 0] l.length) 3)) l 0 :=
  ⟨(Below.refl _ _).alloc (Nat.le_refl _) _, by simp, (World.rowIs_made w _ l.length _).congr (fun i _ => by simp)⟩

theorem Filled.step {w wr : World} {l : List Int} {k : Nat} (h : Filled w wr l k) : Filled w (wr.setCell ⟨w.heap.size, k, none⟩ (.int .i64 (nth l k))) l (k + 1) := by
  refine ⟨h.bel.setCell (Nat.le_refl _) _, by simp [World.setCell, h.size], (h.row.set k _).congr (fun i _ => ?_)⟩
  by_cases e : i = k
  · subst e; simp
  · rw [if_neg e]
    by_cases hlt : i < k
    · rw [if_pos hlt, if_pos (by omega)]
    · rw [if_neg hlt, if_neg (by omega)]

theorem Filled.drewN {w wr : World} {l : List Int} {k : Nat} (h : Filled w wr l k) (n : Nat) : Filled w (wr.drewN n) l k := ⟨below_drewN h.bel n, h.size, h.row.of_block rfl⟩

theorem Filled.done {w wr : World} {l : List Int} (h : Filled w wr l l.length) : IntRow wr w.heap.size l := h.row.congr (fun i hi => by rw [if_pos hi])

/-- what a call leaves that hands back a new row of numbers -/
def NewInts (w : World) (l : List Int) (e : Ending) (w' : World) : Prop :=
  e = .returned (.slice (some ⟨w.heap.size, 0, none⟩) l.length l.length) ∧ Below w.heap.size w w' ∧ w.heap.size < w'.heap.size ∧ IntRow w' w.heap.size l

set_option maxHeartbeats 1000000 in
theorem bestOfEach (f : FuncId) (bet : Int → Int → Bool) (hf : Better f bet) (A : Option Addr) (c : Nat) (g : List (List Int)) (hl : g.length ≤ 4294967296) (h0 : ∀ i, i < g.length → 0 < (rowAt g i).length) (w : World) (h : Rows2 w (· < w.heap.size) A g) :
    Calls Try.prog 47 #[.slice A g.length c, .func (.func f) #[] #[]] w (NewInts w (bests bet g)) := by
  have hmk := run_make_row' (P := Try.prog) 26 3 _ 8 Try.underlying26 infoI rfl .i64 .i64 g.length (by omega) (by omega)
  have HH := Lib.hid h
  have H0 := Lib.hid h0
  have HL := Lib.hid (bests_length bet g)
  have F0 : Hid (Filled w (w.alloc (.cells (madeCells #[.int .i64 0] g.length) 3)) (bests bet g) 0) := by
    have := Filled.start w (bests bet g); rw [HL.out] at this; exact this
  clear h h0
  go_enter Try.func47, Try.ntmps47
  go_wp2_with fail
  clear hmk
  go_loopw [13] (fun i wr => ∃ k : Nat, k ≤ g.length ∧ i = .int .i64 k ∧ Hid (Filled w wr (bests bet g) k)) (fun i _ => g.length - (intOf i).toNat)
  case atStart => exact ⟨0, Nat.zero_le _, rfl, F0⟩
  case round =>
    obtain ⟨k, hk, rfl, HF⟩ := hrel
    by_cases hlt : k < g.length
    · obtain ⟨b, off, rfl⟩ := HH.out.some (by omega)
      have R := keepRows HF.out.bel HH.out
      obtain ⟨hS, Ak, ck, hck, hlk, hmk, hik⟩ := R.row hlt
      unfold maxLen at hmk
      have hcell := HF.out.row.cell (i := k) (by rw [HL.out]; exact hlt)
      have hfr := HF.out.row.frozen k
      have HI := Lib.hid hik
      have HN := Lib.hid (nth_bests bet g k hlt)
      have HN2 : Hid (Filled w (wr.setCell ⟨w.heap.size, k, none⟩ (.int .i64 (nth (rowAt g k) (bestN bet (rowAt g k) (rowAt g k).length)))) (bests bet g) (k + 1)) := by
        have := HF.out.step; rw [HN.out] at this; exact this
      clear hik R
      go_wp2_with fail
      refine (bestOf f bet hf _ _ (rowAt g k) _ (H0.out k hlt) (by unfold maxLen; omega) _ HI.out).mono ?_
      rintro e w1 ⟨rfl, rfl⟩
      go_wp2_with fail
      go_roundw
      case rel => exact ⟨k + 1, by omega, by go_num, HN2⟩
      case measure => simp [intOf]; omega
    · obtain rfl : k = g.length := by omega
      go_wp2_with fail
      go_ret
      have HD := HF.out
      rw [← HL.out] at HD
      refine ⟨by rw [HL.out]; rfl, HD.bel, by rw [HD.size]; omega, HD.done⟩

end Go.Proofs.Ytaphlhdkdokopaa
