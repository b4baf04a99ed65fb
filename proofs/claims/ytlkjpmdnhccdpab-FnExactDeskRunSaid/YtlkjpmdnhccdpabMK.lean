/- Texts in one: ImplH, ImplI, ImplJ, ImplK, ImplL. -/
import Derived.Test.YtlkjpmdnhccdpabMJ
import Derived.Test.YtlkjpmdnhccdpabMF
import Derived.Test.YtlkjpmdnhccdpabMG
import Derived.Deep.RegionWith
namespace Go.Proofs.Ytlkjpmdnhccdpab
set_option linter.unusedSimpArgs false
set_option linter.unusedVariables false
open Go.RowKit

/-- a table of rows of one length -/
structure Shape (g : List (List Int)) (m : Nat) : Prop where
  lo : 1 ≤ g.length
  hi : g.length ≤ 16
  mlo : 1 ≤ m
  mhi : m ≤ 16
  len : ∀ i, i < g.length → (rowAt g i).length = m

set_option maxHeartbeats 1000000 in
theorem columnsShape (A : Option Addr) (c : Nat) (g : List (List Int)) (m : Nat) (hg : Shape g m) (w : World) (h : Rows2 w (· < w.heap.size) A g) :
    Calls Try.prog 72 #[.slice A g.length c] w (NewRows w (cols g)) := by
  have h1 := hg.lo
  have hm := hg.len 0 (by omega)
  subst hm
  have h2 := hg.hi
  have h3 := hg.mlo
  have h4 := hg.mhi
  have hmk1 := run_make_row' (P := Try.prog) 22 61 _ 24 Try.underlying22 infoR rfl .i64 .i64 (rowAt g 0).length (by omega) (by omega)
  obtain ⟨b, off, rfl⟩ := h.some (by omega)
  obtain ⟨hS, A0, c0, hc0, hl0, hm0, _⟩ := h.row (i := 0) (by omega)
  rw [Nat.add_zero] at hc0
  unfold maxLen at hm0
  have HG := Lib.hid hg
  have HH := Lib.hid h
  have HL := Lib.hid (cols_length g)
  have F0 : Hid (Laying w (w.alloc (.cells (madeCells #[.slice none 0 0] (rowAt g 0).length) 61)) (cols g) 0) := by
    have := Laying.start w (cols g); rw [HL.out] at this; exact this
  clear h hg
  go_enter Try.func72, Try.ntmps72
  go_wp2_with fail
  clear hmk1 hc0
  go_loopw [14] (fun i wr => ∃ k : Nat, k ≤ (rowAt g 0).length ∧ i = .int .i64 k ∧ Hid (Laying w wr (cols g) k)) (fun i _ => (rowAt g 0).length - (intOf i).toNat)
  case atStart => exact ⟨0, Nat.zero_le _, rfl, F0⟩
  case round =>
    obtain ⟨k, hk, rfl, HF⟩ := hrel
    by_cases hlt : k < (rowAt g 0).length
    · have HC := Lib.hid (rowAt_cols_length g k hlt)
      have hlt' : k < (cols g).length := by rw [HL.out]; exact hlt
      have hmk2 := run_make_row' (P := Try.prog) 61 3 _ 8 Try.underlying61 infoI rfl .i64 .i64 g.length (by omega) (by omega)
      have hst1 : ∀ o, (wr.alloc o).cell? ⟨w.heap.size, k, none⟩ = some (.slice none 0 0) := fun o => by
        have := ((HF.out.top).alloc o).cell (i := k) hlt'; rwa [if_neg (by omega)] at this
      have hst2 : ∀ o, (wr.alloc o).frozen? ⟨w.heap.size, k, none⟩ = false := fun o => (HF.out.top.alloc o).frozen k
      have HI : Hid (LayIn w ((wr.alloc (.cells (madeCells #[.int .i64 0] g.length) 3)).setCell ⟨w.heap.size, k, none⟩ (.slice (some ⟨wr.heap.size, 0, none⟩) g.length g.length)) (cols g) k 0) := by
        have := HF.out.open_; rw [HC.out] at this; exact this
      go_wp2_with fail
      clear hmk2 hst1 hst2
      go_loopw [25] (fun i wi => ∃ r : Nat, r ≤ g.length ∧ i = .int .i64 r ∧ Hid (LayIn w wi (cols g) k r)) (fun i _ => g.length - (intOf i).toNat)
      case atStart => exact ⟨0, Nat.zero_le _, rfl, HI⟩
      case round =>
        obtain ⟨r, hr, rfl, HI⟩ := hrel
        by_cases hlr : r < g.length
        · have R := keepRows HI.out.bel HH.out
          obtain ⟨b2, off2, c2, hd1, hd2, hd3, hS2, hd0⟩ := R.cell (i := r) (j := k) hlr (by rw [HG.out.len r hlr]; exact hlt)
          have hlk : k < (rowAt g r).length := by rw [HG.out.len r hlr]; exact hlt
          unfold maxLen at hd3
          have g1 : wr.cell? ⟨w.heap.size, k, none⟩ = some (.slice (some ⟨w.heap.size + 1 + k, 0, none⟩) g.length g.length) := by have := HI.out.cell hlt'; rwa [HC.out] at this
          have g2 : ∃ z, wr.cell? ⟨w.heap.size + 1 + k, r, none⟩ = some z := ⟨_, HI.out.cur.cell (i := r) (by rw [HC.out]; exact hlr)⟩
          obtain ⟨z, g2⟩ := g2
          have g3 : wr.frozen? ⟨w.heap.size + 1 + k, r, none⟩ = false := HI.out.cur.frozen r
          have HN : Hid (LayIn w (wr.setCell ⟨w.heap.size + 1 + k, r, none⟩ (.int .i64 (nth (rowAt g r) k))) (cols g) k (r + 1)) := by
            have := HI.out.step; rw [nth_cols g k r hlt hlr] at this; exact this
          have q1 : (0 : Int) ≤ (k : Int) := by omega
          have q2 : (k : Int) < ((rowAt g r).length : Int) := by omega
          have q3 : (0 : Int) ≤ (r : Int) := by omega
          have q4 : (r : Int) < (g.length : Int) := by omega
          have q5 : (k : Int) < ((rowAt g 0).length : Int) := by omega
          clear HI R
          go_wp2_with fail
          go_region
          all_goals go_wp2_with fail
          all_goals go_roundw
          all_goals first | (simp [intOf]; omega) | exact ⟨r + 1, by omega, by go_num, HN.out.drew⟩
        · obtain rfl : r = g.length := by omega
          have HN : Hid (Laying w wr (cols g) (k + 1)) := by
            have := HI.out; rw [← HC.out] at this; exact this.close
          go_wp2_with fail
          go_roundw
          case rel => exact ⟨k + 1, by omega, by go_num, HN⟩
          case measure => simp [intOf]; omega
    · obtain rfl : k = (rowAt g 0).length := by omega
      go_wp2_with fail
      go_ret
      have HD := HF.out
      rw [← HL.out] at HD
      exact ⟨by rw [HL.out]; rfl, HD⟩

theorem gcdN_up {l : List Int} {B : Int} (hB : 0 ≤ B) : ∀ k, (∀ i, i < k → -B ≤ nth l i ∧ nth l i ≤ B) → gcdN l k ≤ B
  | 0, _ => hB
  | k + 1, h => by
    have ih := gcdN_up hB k (fun i hi => h i (by omega))
    have hk := h k (by omega)
    simp only [gcdN]
    by_cases e : nth l k = 0
    · rw [e, gcdI_zero]; have := gcdN_nonneg l k; omega
    · have := gcdI_le_right (gcdN l k) (nth l k) e; omega

/-- what a call leaves that hands back weights to be read, and a truth -/
def WRes (w : World) (l : List Int) (e : Ending) (w' : World) : Prop :=
  ∃ (A : Option Addr) (c : Nat), e = .returned (.tuple #[.slice A (wV l).length c, .bool (wOk l)]) ∧ Below w.heap.size w w' ∧ Ints w' (· < w'.heap.size) A (wV l)

theorem WRes.no {w w' : World} {l : List Int} {x : Value} (h : wOk l = false) (hx : x = .tuple #[.slice none 0 0, .bool false]) (hb : Below w.heap.size w w') : WRes w l (.returned x) w' := by
  have e : wV l = [] := by simp [wV, h]
  exact ⟨none, 0, by rw [hx, e, h]; rfl, hb, by rw [e]; exact Ints.nil _ _ _⟩

end Go.Proofs.Ytlkjpmdnhccdpab

namespace Go.Proofs.Ytlkjpmdnhccdpab
set_option linter.unusedSimpArgs false
set_option linter.unusedVariables false
open Go.RowKit

/-- while the weights of a set are put at their places: the first k are there -/
structure Sprd (w wr : World) (P : Nat → Bool) (x : List Int) (n k : Nat) : Prop where
  bel : Below w.heap.size w wr
  row : wr.rowIs w.heap.size 3 n (fun j => .int .i64 (if (P j && decide (cnt P j < k)) = true then nth x (cnt P j) else 0))

theorem Sprd.start (w : World) (P : Nat → Bool) (x : List Int) (n : Nat) : Sprd w (w.alloc (.cells (madeCells #[.int .i64 0] n) 3)) P x n 0 :=
  ⟨(Below.refl _ _).alloc (Nat.le_refl _) _, (World.rowIs_made w _ n _).congr (fun i _ => by simp)⟩

theorem Sprd.still {w wr w2 : World} {P : Nat → Bool} {x : List Int} {n k : Nat} (h : Sprd w wr P x n k) (hb : Below wr.heap.size wr w2) : Sprd w w2 P x n k :=
  ⟨belT h.bel hb, h.row.of_block (hb.block _ h.row.lt)⟩

theorem Sprd.step {w wr : World} {P : Nat → Bool} {x : List Int} {n k a : Nat} (h : Sprd w wr P x n k) (ha : a < n) (hp : P a = true) (hc : cnt P a = k) : Sprd w (wr.setCell ⟨w.heap.size, a, none⟩ (.int .i64 (nth x k))) P x n (k + 1) := by
  refine ⟨h.bel.setCell (Nat.le_refl _) _, (h.row.set a _).congr (fun j hj => ?_)⟩
  by_cases e : j = a
  · subst e; simp [hp, hc]
  · rw [if_neg e]
    by_cases hpj : P j = true
    · have hne : cnt P j ≠ k := by
        intro he
        have h1 := sel_cnt (P := P) (i := j) (k := n) hj hpj
        have h2 := sel_cnt (P := P) (i := a) (k := n) ha hp
        rw [he] at h1; rw [hc] at h2; omega
      by_cases hlt : cnt P j < k
      · simp [hpj, hlt, show cnt P j < k + 1 by omega]
      · simp [hpj, hlt, show ¬ cnt P j < k + 1 by omega]
    · simp [hpj]

theorem Sprd.done {w wr : World} {P : Nat → Bool} {x : List Int} {n k : Nat} (h : Sprd w wr P x n k) (hk : cnt P n ≤ k) : IntRow wr w.heap.size (spr P x n) := by
  have := h.row
  rw [← spr_length P x n] at this
  refine this.congr (fun i hi => ?_)
  rw [spr_length] at hi
  rw [nth_spr P x hi]
  by_cases hp : P i = true
  · have := cnt_lt hi hp
    simp [hp, show cnt P i < k by omega]
  · simp [hp]

theorem cnt_upto {P : Nat → Bool} {k m : Nat} (hk : k ≤ m) (h : ∀ i, k ≤ i → i < m → P i = false) : cnt P m = cnt P k := by
  induction m with
  | zero => have : k = 0 := (by omega); rw [this]
  | succ m ih =>
    by_cases e : k = m + 1
    · rw [e]
    · rw [cnt_no (h m (by omega) (by omega))]; exact ih (by omega) (fun i h1 h2 => h i h1 (by omega))

def solB' (g : List (List Int)) : Bool := gameB g && decide (g.length ≤ 4) && decide ((rowAt g 0).length ≤ 4)

set_option maxHeartbeats 1000000 in
theorem solvedOkI (T : Option Addr) (c : Nat) (g : List (List Int)) (S : Nat → Prop) (hl : g.length ≤ maxLen) (w : World) (h : Rows2 w S T g) :
    Calls Try.prog 43 #[.slice T g.length c] w (Same (.bool (solB' g)) w) := by
  have HG : Hid (∀ w', Rows2 w' S T g → Calls Try.prog 58 #[.slice T g.length c] w' (Same (.bool (gameB g)) w')) := fun w' h' => game_impl T c g S hl w' h'
  have HR := Lib.hid h
  unfold maxLen at hl
  rcases hb : gameB g with _ | _
  · have hf : solB' g = false := by simp [solB', hb]
    rw [hb] at HG
    rw [hf]
    clear hb h hf
    go_enter Try.func43, Try.ntmps43
    go_wp2_with (go_at_call 58; refine (HG.out _ HR.out).mono ?_; rintro e w1 ⟨rfl, rfl⟩)
    go_ret
    exact Same.of rfl
  · have hg := Game.of hb
    have hp := hg.lo
    obtain ⟨b, off, rfl⟩ := h.some (by omega)
    obtain ⟨hS, A0, c0, hc0, hl0, hm0, _⟩ := h.row (i := 0) (by omega)
    rw [Nat.add_zero] at hc0
    unfold maxLen at hm0
    have hp2 : (0 : Int) < (g.length : Int) := by omega
    rw [hb] at HG
    by_cases h4 : g.length ≤ 4
    · have hf : solB' g = decide ((rowAt g 0).length ≤ 4) := by simp [solB', hb, h4]
      rw [hf]
      clear hb h hf hg
      go_enter Try.func43, Try.ntmps43
      go_wp2_with (go_at_call 58; refine (HG.out _ HR.out).mono ?_; rintro e w1 ⟨rfl, rfl⟩)
      go_ret
      exact Same.of (by simp; try omega)
    · have hf : solB' g = false := by simp [solB', h4]
      have hd : decide ((g.length : Int) ≤ 4) = false := by simp; omega
      rw [hf]
      clear hb h hf hg
      go_enter Try.func43, Try.ntmps43
      go_wp2_with (go_at_call 58; refine (HG.out _ HR.out).mono ?_; rintro e w1 ⟨rfl, rfl⟩)
      go_ret
      exact Same.of rfl

end Go.Proofs.Ytlkjpmdnhccdpab

namespace Go.Proofs.Ytlkjpmdnhccdpab
set_option linter.unusedSimpArgs false
set_option linter.unusedVariables false
open Go.RowKit

def tolB (g : List (List Int)) (rows cols : Int) : Bool := inR rows 1 (pw g.length) && inR cols 1 (pw (rowAt g 0).length) && (popN rows.toNat == popN cols.toNat)

theorem inR_nat {n : Int} {m : Nat} (hm : m ≤ 4) (h : inR n 1 (pw m) = true) : ∃ r : Nat, n = (r : Int) ∧ 1 ≤ r ∧ r < 2 ^ m ∧ r < 16 := by
  have h' := h
  unfold inR at h'
  rw [decide_eq_true_eq] at h'
  obtain ⟨r, rfl⟩ := Int.eq_ofNat_of_zero_le (a := n) (by omega)
  obtain ⟨h1, h2⟩ := pw_lt h
  have := pw_le hm
  exact ⟨r, rfl, h1, h2, by omega⟩

theorem pop_pos {s : Nat} (h : s < 16) (h1 : 1 ≤ s) : 1 ≤ popN s := by
  rw [pop_tab h]
  rcases cases16 h with rfl | rfl | rfl | rfl | rfl | rfl | rfl | rfl | rfl | rfl | rfl | rfl | rfl | rfl | rfl | rfl <;> first | omega | decide

theorem sumT_X {p : List (List Int)} : sumT (cofT p) = sX p p.length := by
  refine ext_nth (by rw [sumT_length, cofT_length, sX_length]) (fun i hi => ?_)
  rw [sumT_length, cofT_length] at hi
  rw [nth_sumT _ (by rw [cofT_length]; exact hi), nth_sX _ hi, cofT_row_length p hi]
  exact sumI_congr (fun j hj => nth_cofT p hi hj)

theorem sumT_Y {p : List (List Int)} (h0 : 0 < p.length) : sumT (cols (cofT p)) = sY p p.length := by
  have hl : (rowAt (cofT p) 0).length = p.length := cofT_row_length p h0
  refine ext_nth (by rw [sumT_length, cols_length, sY_length, hl]) (fun i hi => ?_)
  rw [sumT_length, cols_length, hl] at hi
  rw [nth_sumT _ (by rw [cols_length, hl]; exact hi), nth_sY _ hi, rowAt_cols_length _ _ (by rw [hl]; exact hi), cofT_length]
  exact sumI_congr (fun j hj => by rw [nth_cols _ _ _ (by rw [hl]; exact hi) (by rw [cofT_length]; exact hj), nth_cofT p hj hi]; rfl)

theorem cofT_shape {p : List (List Int)} {k : Nat} (h : Square p k) (h0 : 1 ≤ k) (h4 : k ≤ 4) : Shape (cofT p) k := by
  have hl := h.len
  exact ⟨by rw [cofT_length]; omega, by rw [cofT_length]; omega, h0, by omega, fun i hi => by rw [cofT_length] at hi; rw [cofT_row_length p hi]; omega⟩

theorem cofT_bd {p : List (List Int)} {k : Nat} (h : Square p (k + 1)) (h4 : k ≤ 3) (i j : Nat) (hi : i < k + 1) (hj : j < k + 1) : -4374 ≤ nth (rowAt (cofT p) i) j ∧ nth (rowAt (cofT p) i) j ≤ 4374 := by
  have hl := h.len
  rw [nth_cofT p (by omega) (by omega)]
  exact cofA_bd h4 h hi hj

end Go.Proofs.Ytlkjpmdnhccdpab

namespace Go.Proofs.Ytlkjpmdnhccdpab
set_option linter.unusedSimpArgs false
set_option linter.unusedVariables false
open Go.RowKit

theorem TwoOwn.no {w w' : World} {x : Value} (hx : x = .tuple #[.slice none 0 0, .slice none 0 0, .bool false]) (hb : Below w.heap.size w w') : TwoOwn w [] [] false (.returned x) w' :=
  ⟨none, 0, none, 0, by rw [hx]; rfl, hb, fun h => absurd h (by simp), fun h => absurd h (by simp), fun h => absurd h (by simp)⟩

theorem solB'_parts {g : List (List Int)} (h : solB' g = true) : gameB g = true ∧ g.length ≤ 4 ∧ (rowAt g 0).length ≤ 4 := by
  unfold solB' at h; simp only [Bool.and_eq_true, decide_eq_true_eq] at h; exact ⟨h.1.1, h.1.2, h.2⟩

end Go.Proofs.Ytlkjpmdnhccdpab

namespace Go.Proofs.Ytlkjpmdnhccdpab
set_option linter.unusedSimpArgs false
set_option linter.unusedVariables false
open Go.RowKit

theorem inR_inB (b : Int) : inR b (-9) 9 = inB b := by
  unfold inR inB; rw [Bool.eq_iff_iff, Bool.and_eq_true]; simp only [decide_eq_true_eq]

set_option maxHeartbeats 1000000 in
theorem shift_un (T : Option Addr) (c : Nat) (g : List (List Int)) (b : Int) (hl : g.length ≤ maxLen) (w : World) (h : Rows2 w (· < w.heap.size) T g) (hs : gameB g = false) :
    Calls Try.prog 65 #[.slice T g.length c, .int .i64 b] w (TabRes w [] false) := by
  have HS := Lib.hid (game_impl T c g _ hl w h)
  rw [hs] at HS
  clear h hl hs
  go_enter Try.func65, Try.ntmps65
  go_wp2_with (go_at_call 58; refine HS.out.mono ?_; rintro e w1 ⟨rfl, rfl⟩)
  go_ret2
  exact TabRes.none (A := none) rfl (Below.refl _ _)

set_option maxHeartbeats 1000000 in
theorem shift_by (T : Option Addr) (c : Nat) (g : List (List Int)) (b : Int) (hl : g.length ≤ maxLen) (w : World) (h : Rows2 w (· < w.heap.size) T g) (hs : gameB g = true) (hb : inB b = false) :
    Calls Try.prog 65 #[.slice T g.length c, .int .i64 b] w (TabRes w [] false) := by
  have HS := Lib.hid (game_impl T c g _ hl w h)
  have HB := Lib.hid (numberOk b w)
  rw [hs] at HS
  rw [hb] at HB
  clear h hl hs hb
  go_enter Try.func65, Try.ntmps65
  go_wp2_with (first | (go_at_call 58; refine HS.out.mono ?_; rintro e w1 ⟨rfl, rfl⟩) | (go_at_call 73; refine HB.out.mono ?_; rintro e w1 ⟨rfl, rfl⟩))
  go_ret2
  exact TabRes.none (A := none) rfl (Below.refl _ _)

set_option maxHeartbeats 2000000 in
set_option maxRecDepth 100000 in
theorem shift_made (T : Option Addr) (c : Nat) (g t : List (List Int)) (b : Int) (p : Bool) (hl : g.length ≤ maxLen) (w : World) (h : Rows2 w (· < w.heap.size) T g) (hs : gameB g = true) (hb : inB b = true)
    (ht1 : t.length = g.length) (ht2 : ∀ i, i < g.length → (rowAt t i).length = (rowAt g 0).length) (ht3 : ∀ i j, i < g.length → j < (rowAt g 0).length → nth (rowAt t i) j = nth (rowAt g i) j + b) (hp : gameB t = p) :
    Calls Try.prog 65 #[.slice T g.length c, .int .i64 b] w (TabRes w (bif p then t else []) p) := by
  have hg := Game.of hs
  have h0 := hg.lo
  have h16 := hg.hi
  have n0 := hg.mlo
  have n16 := hg.mhi
  obtain ⟨hb1, hb2⟩ := inB_iff.1 hb
  have HS := Lib.hid (game_impl T c g _ hl w h)
  have HB : Hid (∀ w', Calls Try.prog 73 #[.int .i64 b] w' (Same (.bool true) w')) := fun w' => by have := numberOk b w'; rw [hb] at this; exact this
  rw [hs] at HS
  have HGM : Hid (∀ (A : Option Addr) (c' : Nat) (w' : World), Rows2 w' (· < w'.heap.size) A t → Calls Try.prog 58 #[.slice A g.length c'] w' (Same (.bool p) w')) := fun A c' w' h' => by
    have := game_impl A c' t _ (by rw [ht1]; exact hl) w' h'; rw [hp, ht1] at this; exact this
  have HG := Lib.hid hg
  have HR := Lib.hid h
  have HL := Lib.hid ht1
  have HRL := Lib.hid ht2
  have HN3 := Lib.hid ht3
  have hmk1 := run_make_row' (P := Try.prog) 22 61 _ 24 Try.underlying22 infoR rfl .i64 .i64 g.length (by omega) (by omega)
  have hmk2 := run_make_row' (P := Try.prog) 61 3 _ 8 Try.underlying61 infoI rfl .i64 .i64 (rowAt g 0).length (by omega) (by omega)
  have F0 : Hid (Laying w (w.alloc (.cells (madeCells #[.slice none 0 0] g.length) 61)) t 0) := by
    have := Laying.start w t; rw [ht1] at this; exact this
  clear h hl hs hb hg ht1 ht2 ht3 hp
  go_enter Try.func65, Try.ntmps65
  go_wp2_with (first | (go_at_call 58; refine HS.out.mono ?_; rintro e w1 ⟨rfl, rfl⟩) | (go_at_call 73; refine (HB.out _).mono ?_; rintro e w1 ⟨rfl, rfl⟩))
  clear hmk1
  go_loopw [24] (fun i wr => ∃ k : Nat, k ≤ g.length ∧ i = .int .i64 k ∧ Hid (Laying w wr t k)) (fun i _ => g.length - (intOf i).toNat)
  case atStart => exact ⟨0, Nat.zero_le _, rfl, F0⟩
  case round =>
    obtain ⟨k, hk, rfl, HF⟩ := hrel
    by_cases hlt : k < g.length
    · have HC := Lib.hid (HRL.out k hlt)
      have hlt' : k < t.length := by rw [HL.out]; exact hlt
      have hgl := HG.out.len k hlt
      obtain ⟨bt, ot, rfl⟩ := HR.out.some (by omega)
      obtain ⟨hS, Ak, ck, hck, hlk, hmk, hik⟩ := (keepRows HF.out.bel HR.out).row hlt
      rw [hgl] at hck hlk
      unfold maxLen at hmk
      have hst1 : ∀ o, (wr.alloc o).cell? ⟨w.heap.size, k, none⟩ = some (.slice none 0 0) := fun o => by
        have := ((HF.out.top).alloc o).cell (i := k) hlt'; rwa [if_neg (by omega)] at this
      have hst2 : ∀ o, (wr.alloc o).frozen? ⟨w.heap.size, k, none⟩ = false := fun o => (HF.out.top.alloc o).frozen k
      have HI : Hid (LayIn w ((wr.alloc (.cells (madeCells #[.int .i64 0] (rowAt g 0).length) 3)).setCell ⟨w.heap.size, k, none⟩ (.slice (some ⟨wr.heap.size, 0, none⟩) (rowAt g 0).length (rowAt g 0).length)) t k 0) := by
        have := HF.out.open_; rw [HC.out] at this; exact this
      have HIK := Lib.hid hik
      have HGL := Lib.hid hgl
      clear hik hgl
      go_wp2_with fail
      clear hst1 hst2
      go_loopw [37] (fun i wi => ∃ r : Nat, r ≤ (rowAt g 0).length ∧ i = .int .i64 r ∧ Hid (LayIn w wi t k r)) (fun i _ => (rowAt g 0).length - (intOf i).toNat)
      case atStart => exact ⟨0, Nat.zero_le _, rfl, HI⟩
      case round =>
        obtain ⟨r, hr, rfl, HI⟩ := hrel
        by_cases hlr : r < (rowAt g 0).length
        · have R := keepRows HI.out.bel HR.out
          obtain ⟨b2, off2, c2, hd1, hd2, hd3, hS2, hd0⟩ := R.cell (i := k) (j := r) hlt (by rw [HGL.out]; exact hlr)
          have e1 := (R.row hlt).2
          have hd0' : Ak = some ⟨b2, off2, none⟩ := by
            have e := (HI.out.bel.cell (p := ⟨bt, ot + k, none⟩) hS)
            have e2 := (HF.out.bel.cell (p := ⟨bt, ot + k, none⟩) hS)
            rw [e] at hd1
            rw [e2] at hck
            rw [hck, HGL.out] at hd1
            cases hd1; rfl
          subst hd0'
          have g1 : wr.cell? ⟨w.heap.size, k, none⟩ = some (.slice (some ⟨w.heap.size + 1 + k, 0, none⟩) (rowAt g 0).length (rowAt g 0).length) := by have := HI.out.cell hlt'; rwa [HC.out] at this
          obtain ⟨z, g2⟩ : ∃ z, wr.cell? ⟨w.heap.size + 1 + k, r, none⟩ = some z := ⟨_, HI.out.cur.cell (i := r) (by rw [HC.out]; exact hlr)⟩
          have g3 : wr.frozen? ⟨w.heap.size + 1 + k, r, none⟩ = false := HI.out.cur.frozen r
          have HN : Hid (LayIn w (wr.setCell ⟨w.heap.size + 1 + k, r, none⟩ (.int .i64 (nth (rowAt g k) r + b))) t k (r + 1)) := by
            have := HI.out.step; rw [HN3.out k r hlt hlr] at this; exact this
          have hx1 := HG.out.nlo k hlt r hlr
          have hx2 := HG.out.nhi k hlt r hlr
          have hw1 : IntKind.i64.wrap (nth (rowAt g k) r + b) = nth (rowAt g k) r + b := IntWalk.i64_in _ (by omega)
          have q1 : (0 : Int) ≤ (k : Int) := by omega
          have q2 : (k : Int) < (g.length : Int) := by omega
          have q3 : (0 : Int) ≤ (r : Int) := by omega
          have q4 : (r : Int) < ((rowAt g 0).length : Int) := by omega
          clear HI R e1 hd1 hd2 hd3
          go_wp2_with fail
          go_roundw
          case rel => exact ⟨r + 1, by omega, by go_num, HN⟩
          case measure => simp [intOf]; omega
        · have hre : r = (rowAt g 0).length := by omega
          subst hre
          have HN : Hid (Laying w wr t (k + 1)) := by
            have := HI.out; rw [← HC.out] at this; exact this.close
          go_wp2_with fail
          go_roundw
          case rel => exact ⟨k + 1, by omega, by go_num, HN⟩
          case measure => simp [intOf]; omega
    · obtain rfl : k = g.length := by omega
      have HD : Hid (Laid w wr t) := by have := HF.out; rw [← HL.out] at this; exact this
      have hm : ∀ i, i < t.length → (rowAt t i).length ≤ 4294967296 := fun i hi => by rw [HRL.out i (by rw [← HL.out]; exact hi)]; omega
      have HRD := Lib.hid (NewRows.reads HD.out hm)
      have HOWN := Lib.hid (Laid.own HD.out (fun i hi => by have := hm i hi; unfold maxLen; omega))
      have HBL := Lib.hid HD.out.bel
      clear HF hm
      go_wp2_with fail
      refine (HGM.out _ _ _ HRD.out).mono ?_
      rintro e w1 ⟨rfl, rfl⟩
      cases p with
      | false =>
        go_wp2_with fail
        go_ret2
        exact TabRes.none (A := none) rfl HBL.out
      | true =>
        go_wp2_with fail
        go_ret2
        exact ⟨_, g.length, by show _ = Ending.returned (.tuple #[.slice _ t.length _, _]); rw [HL.out]; rfl, HBL.out, HOWN.out⟩

theorem shift_impl (T : Option Addr) (c : Nat) (g : List (List Int)) (b : Int) (hl : g.length ≤ maxLen) (w : World) (h : Rows2 w (· < w.heap.size) T g) :
    Calls Try.prog 65 #[.slice T g.length c, .int .i64 b] w (TabRes w (shi g b) (shiB g b)) := by
  rcases hs : gameB g with _ | _
  · have e : shiB g b = false := by simp [shiB, hs]
    rw [show shi g b = [] by simp [shi, e], e]
    exact shift_un T c g b hl w h hs
  rcases hb : inB b with _ | _
  · have e : shiB g b = false := by simp [shiB, inR_inB, hb]
    rw [show shi g b = [] by simp [shi, e], e]
    exact shift_by T c g b hl w h hs hb
  · have e : shiB g b = gameB (shiL g b) := by simp [shiB, inR_inB, hb, hs]
    have := shift_made T c g (shiL g b) b _ hl w h hs hb (shiL_length g b) (fun i hi => shiL_row_length g b i hi) (fun i j hi hj => nth_shiL g b i j hi hj) rfl
    rw [← e] at this
    rw [show shi g b = bif shiB g b then shiL g b else [] by unfold shi; cases shiB g b <;> rfl]
    exact this

end Go.Proofs.Ytlkjpmdnhccdpab
