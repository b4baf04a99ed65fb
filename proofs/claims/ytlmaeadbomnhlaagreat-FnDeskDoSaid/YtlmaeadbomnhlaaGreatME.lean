/- Texts in one: Without, DetS, Low, LowS, Ker, KerS, KerG. -/
import Derived.Test.YtlmaeadbomnhlaaGreatMA
import Derived.Test.YtlmaeadbomnhlaaGreatMC
import Derived.Test.YtlmaeadbomnhlaaGreatMD
import Derived.Deep.RegionHeld3
namespace Go.Proofs.YtlmaeadbomnhlaaGreat
set_option linter.unusedSimpArgs false
set_option linter.unusedVariables false
open Go.RowKit
end Go.Proofs.YtlmaeadbomnhlaaGreat

namespace Go.Proofs.YtlmaeadbomnhlaaGreat
set_option linter.unusedSimpArgs false
set_option linter.unusedVariables false
open Go.RowKit
def detF (m : List (List Int)) (j : Nat) : Int := sgI j * nth (rowAt m 0) j * detL (woL m 0 j)
theorem detL_zero {m : List (List Int)} (h : Square m 0) : detL m = 1 := by unfold detL; rw [h.len]; rfl
theorem detL_wo {m : List (List Int)} {k a b : Nat} (h : Square m (k + 1)) (ha : a < k + 1) (hb : b < k + 1) : detL (woL m a b) = detI k (woI (fun i j => nth (rowAt m i) j) a b) := by
  have e := h.len
  unfold detL
  rw [(h.wo ha hb).len]
  exact detI_congr (fun i j hi hj => nth_woL (by omega) (by omega) (by omega) (by omega))
theorem detL_succ {m : List (List Int)} {k : Nat} (h : Square m (k + 1)) : detL m = sumI m.length (detF m) := by
  have e := h.len
  unfold detL
  rw [e]
  unfold detI
  refine sumI_congr (fun j hj => ?_)
  unfold detF
  rw [detL_wo h (by omega) hj]
theorem detL_bd {m : List (List Int)} {k : Nat} (h : Square m k) : -(detB k) ≤ detL m ∧ detL m ≤ detB k := by
  unfold detL; rw [h.len]
  exact detI_bd k _ (fun i j hi hj => ⟨h.lo i j hi hj, h.hi i j hi hj⟩)
theorem detB_le {k : Nat} (h : k ≤ 3) : detB k ≤ 4374 := by
  have : k = 0 ∨ k = 1 ∨ k = 2 ∨ k = 3 := by omega
  rcases this with rfl | rfl | rfl | rfl <;> decide
theorem sgI_cases (j : Nat) : sgI j = 1 ∨ sgI j = -1 := by unfold sgI; split <;> simp
theorem prod3_bd {s x d : Int} (hs : s = 1 ∨ s = -1) (h1 : -9 ≤ x) (h2 : x ≤ 9) (h3 : -4374 ≤ d) (h4 : d ≤ 4374) : (-9 ≤ s * x ∧ s * x ≤ 9) ∧ -39366 ≤ s * x * d ∧ s * x * d ≤ 39366 := by
  have h : -9 ≤ s * x ∧ s * x ≤ 9 := by rcases hs with rfl | rfl <;> omega
  refine ⟨h, ?_⟩
  generalize s * x = y at *
  by_cases hy : 0 ≤ y
  · have := prod_bd hy h.2 h3 h4 (by omega); omega
  · have := prod_bd (a := -y) (A := 9) (by omega) (by omega) h3 h4 (by omega)
    rw [Int.neg_mul] at this; omega
end Go.Proofs.YtlmaeadbomnhlaaGreat

namespace Go.Proofs.YtlmaeadbomnhlaaGreat
set_option linter.unusedSimpArgs false
set_option linter.unusedVariables false
open Go.RowKit
def popN (s : Nat) : Nat := if h : s = 0 then 0 else s % 2 + popN (s / 2)
termination_by s
decreasing_by omega
theorem popN_zero : popN 0 = 0 := by unfold popN; simp
theorem popN_step {s : Nat} (h : 0 < s) : popN s = s % 2 + popN (s / 2) := by
  rw [popN]; simp [show s ≠ 0 by omega]
def gcdN (x : List Int) : Nat → Int
  | 0 => 0
  | k + 1 => gcdI (gcdN x k) (nth x k)
def lowTo (x : List Int) : Nat → List Int
  | 0 => []
  | k + 1 => lowTo x k ++ [(nth x k).tdiv (max (gcdN x x.length) 1)]
def lowL (x : List Int) : List Int := lowTo x x.length
theorem lowTo_length (x : List Int) (k : Nat) : (lowTo x k).length = k := by
  induction k with
  | zero => rfl
  | succ k ih => simp [lowTo, ih]
theorem lowL_length (x : List Int) : (lowL x).length = x.length := lowTo_length x _
theorem nth_lowTo (x : List Int) {k i : Nat} (h : i < k) : nth (lowTo x k) i = (nth x i).tdiv (max (gcdN x x.length) 1) := by
  induction k with
  | zero => omega
  | succ k ih =>
    simp only [lowTo]
    by_cases e : i = k
    · subst e
      have := nth_snoc_eq (lowTo x i) ((nth x i).tdiv (max (gcdN x x.length) 1))
      rw [lowTo_length] at this; exact this
    · rw [nth_snoc_lt _ _ _ (by rw [lowTo_length]; omega)]; exact ih (by omega)
theorem nth_lowL (x : List Int) {i : Nat} (h : i < x.length) : nth (lowL x) i = (nth x i).tdiv (max (gcdN x x.length) 1) := nth_lowTo x h
end Go.Proofs.YtlmaeadbomnhlaaGreat

namespace Go.Proofs.YtlmaeadbomnhlaaGreat
set_option linter.unusedSimpArgs false
set_option linter.unusedVariables false
open Go.RowKit
end Go.Proofs.YtlmaeadbomnhlaaGreat

namespace Go.Proofs.YtlmaeadbomnhlaaGreat
set_option linter.unusedSimpArgs false
set_option linter.unusedVariables false
open Go.RowKit
def pw (k : Nat) : Int := 2 ^ k - 1
theorem pw_wrap {k : Nat} (h : k ≤ 4) : wrap64 (wrap64 (2 ^ k) - 1) = pw k := by
  have : k = 0 ∨ k = 1 ∨ k = 2 ∨ k = 3 ∨ k = 4 := by omega
  rcases this with rfl | rfl | rfl | rfl | rfl <;> (first | rfl | (simp [pw, wrap64]; done))
theorem pw_le {k : Nat} (h : k ≤ 4) : pw k ≤ 15 := by
  have : k = 0 ∨ k = 1 ∨ k = 2 ∨ k = 3 ∨ k = 4 := by omega
  rcases this with rfl | rfl | rfl | rfl | rfl <;> decide
def bP (r k : Nat) : Bool := (r / 2 ^ k) % 2 == 1
theorem cnt_front (P : Nat → Bool) (k : Nat) : cnt P (k + 1) = (if P 0 = true then 1 else 0) + cnt (fun i => P (i + 1)) k := by
  induction k with
  | zero => simp [cnt]
  | succ k ih =>
    have e : cnt P (k + 1 + 1) = if P (k + 1) = true then cnt P (k + 1) + 1 else cnt P (k + 1) := rfl
    have e2 : cnt (fun i => P (i + 1)) (k + 1) = if P (k + 1) = true then cnt (fun i => P (i + 1)) k + 1 else cnt (fun i => P (i + 1)) k := rfl
    rw [e, e2, ih]; split <;> omega
theorem bP_succ (r k : Nat) : bP r (k + 1) = bP (r / 2) k := by
  unfold bP; rw [Nat.pow_succ, Nat.mul_comm, Nat.div_div_eq_div_mul]
theorem cnt_pop : ∀ (m r : Nat), r < 2 ^ m → cnt (bP r) m = popN r
  | 0, r, h => by
    have : r = 0 := by simpa using h
    subst this; rw [popN_zero]; rfl
  | m + 1, r, h => by
    rw [cnt_front]
    have e : (fun i => bP r (i + 1)) = bP (r / 2) := funext fun i => bP_succ r i
    rw [e, cnt_pop m (r / 2) (by rw [Nat.pow_succ] at h; omega)]
    by_cases h0 : 0 < r
    · rw [popN_step h0]
      unfold bP
      have : r / 2 ^ 0 = r := by simp
      rw [this]
      by_cases h1 : r % 2 = 1
      · simp [h1]
      · have h2 : r % 2 = 0 := by omega
        simp [h2]
    · have : r = 0 := by omega
      subst this; simp [popN_zero, bP]
theorem pw_lt {r m : Nat} (h : inR (r : Int) 1 (pw m) = true) : 1 ≤ r ∧ r < 2 ^ m := by
  unfold inR pw at h
  rw [decide_eq_true_eq] at h
  obtain ⟨h1, h2⟩ := h
  have e : ((2 ^ m : Nat) : Int) = (2 : Int) ^ m := by simp
  rw [← e] at h2
  generalize 2 ^ m = t at h2 ⊢
  omega
def pt (g : List (List Int)) (r q : Nat) : List (List Int) := selTab (bP r) (fun i => selRow (bP q) (nth (rowAt g i)) (rowAt g 0).length) g.length
def cfn (g : List (List Int)) (r q i j : Nat) : Int := if (bP r i && bP q j) = true then sgI (cnt (bP r) i + cnt (bP q) j) * detL (woL (pt g r q) (cnt (bP r) i) (cnt (bP q) j)) else 0
def kX (g : List (List Int)) (r q i : Nat) : Int := sumI (rowAt g 0).length (cfn g r q i)
def kY (g : List (List Int)) (r q j : Nat) : Int := sumI g.length (fun i => cfn g r q i j)
def kA (g : List (List Int)) (r q : Nat) : Int := sumI g.length (kX g r q)
def kE (g : List (List Int)) (r q : Nat) : Int := if kA g r q < 0 then -1 else 1
def kXL (g : List (List Int)) (r q : Nat) : List Int := (List.range g.length).map fun i => kE g r q * kX g r q i
def kYL (g : List (List Int)) (r q : Nat) : List Int := (List.range (rowAt g 0).length).map fun j => kE g r q * kY g r q j
def posB (l : List Int) : Nat → Bool
  | 0 => true
  | k + 1 => posB l k && decide (0 ≤ nth l k)
theorem posB_iff {l : List Int} {k : Nat} : posB l k = true ↔ ∀ i, i < k → 0 ≤ nth l i := by
  induction k with
  | zero => simp [posB]
  | succ k ih =>
    simp only [posB, Bool.and_eq_true, ih, decide_eq_true_eq]
    refine ⟨fun ⟨h1, h2⟩ i hi => ?_, fun h => ⟨fun i hi => h i (by omega), h k (by omega)⟩⟩
    rcases Nat.lt_or_eq_of_le (Nat.le_of_lt_succ hi) with h | rfl
    · exact h1 i h
    · exact h2
def kOk (g : List (List Int)) (r q : Nat) : Bool := !(kA g r q == 0) && posB (kXL g r q) g.length && posB (kYL g r q) (rowAt g 0).length
def kerB (g : List (List Int)) (rows cols : Int) : Bool :=
  gameB g && decide (g.length ≤ 4) && decide ((rowAt g 0).length ≤ 4) && inR rows 1 (pw g.length) && inR cols 1 (pw (rowAt g 0).length) && (popN rows.toNat == popN cols.toNat) && kOk g rows.toNat cols.toNat
def kerX (g : List (List Int)) (rows cols : Int) : List Int := if kerB g rows cols = true then lowL (kXL g rows.toNat cols.toNat) else []
def kerY (g : List (List Int)) (rows cols : Int) : List Int := if kerB g rows cols = true then lowL (kYL g rows.toNat cols.toNat) else []
def okX (g : List (List Int)) (r q : Nat) : List Int := if kOk g r q = true then lowL (kXL g r q) else []
def okY (g : List (List Int)) (r q : Nat) : List Int := if kOk g r q = true then lowL (kYL g r q) else []
theorem kXL_length (g : List (List Int)) (r q : Nat) : (kXL g r q).length = g.length := by simp [kXL]
theorem kYL_length (g : List (List Int)) (r q : Nat) : (kYL g r q).length = (rowAt g 0).length := by simp [kYL]
theorem nth_kXL (g : List (List Int)) (r q i : Nat) (h : i < g.length) : nth (kXL g r q) i = kE g r q * kX g r q i := by
  unfold kXL; rw [nth_map _ _ _ (by simpa using h)]; simp
theorem nth_kYL (g : List (List Int)) (r q j : Nat) (h : j < (rowAt g 0).length) : nth (kYL g r q) j = kE g r q * kY g r q j := by
  unfold kYL; rw [nth_map _ _ _ (by simpa using h)]; simp
structure Part (g : List (List Int)) (r q k : Nat) : Prop where
  game : Game g (rowAt g 0).length
  m4 : g.length ≤ 4
  n4 : (rowAt g 0).length ≤ 4
  rows : cnt (bP r) g.length = k
  cols : cnt (bP q) (rowAt g 0).length = k
theorem Part.square {g : List (List Int)} {r q k : Nat} (h : Part g r q k) : Square (pt g r q) k := by
  have hg := h.game
  have hrow : ∀ i, i < k → ((sel (bP r) g.length).getD i 0 < g.length) ∧ rowAt (pt g r q) i = selRow (bP q) (nth (rowAt g ((sel (bP r) g.length).getD i 0))) (rowAt g 0).length := fun i hi => by
    have h1 := sel_at (P := bP r) (k := g.length) (a := i) (by rw [h.rows]; exact hi)
    refine ⟨h1.1, ?_⟩
    unfold pt; rw [selTab_map, rowAt_map _ _ _ (by rw [sel_length, h.rows]; exact hi)]
  have hnth : ∀ i j, i < k → j < k → ∃ a b, a < g.length ∧ b < (rowAt g 0).length ∧ nth (rowAt (pt g r q) i) j = nth (rowAt g a) b := fun i j hi hj => by
    obtain ⟨h1, h2⟩ := hrow i hi
    have h3 := sel_at (P := bP q) (k := (rowAt g 0).length) (a := j) (by rw [h.cols]; exact hj)
    exact ⟨_, _, h1, h3.1, by rw [h2, selRow_map, nth_mapN _ _ _ (by rw [sel_length, h.cols]; exact hj)]⟩
  refine ⟨by unfold pt; rw [selTab_length, h.rows], fun i hi => by rw [(hrow i hi).2, selRow_length, h.cols], fun i j hi hj => ?_, fun i j hi hj => ?_⟩ <;> obtain ⟨a, b, h1, h2, h3⟩ := hnth i j hi hj <;> rw [h3]
  · exact hg.nlo a h1 b h2
  · exact hg.nhi a h1 b h2
theorem Part.k4 {g : List (List Int)} {r q k : Nat} (h : Part g r q k) : k ≤ 4 := by
  have := cnt_le (bP r) g.length; have := h.rows; have := h.m4; omega
theorem Part.at_ {g : List (List Int)} {r q k i j : Nat} (h : Part g r q k) (hi : i < g.length) (hj : j < (rowAt g 0).length) (h1 : bP r i = true) (h2 : bP q j = true) : cnt (bP r) i < k ∧ cnt (bP q) j < k := by
  have a := cnt_mono (bP r) (i := i + 1) (k := g.length) (by omega)
  have b := cnt_mono (bP q) (i := j + 1) (k := (rowAt g 0).length) (by omega)
  rw [cnt_yes h1, h.rows] at a
  rw [cnt_yes h2, h.cols] at b
  omega
theorem Part.wo {g : List (List Int)} {r q k i j : Nat} (h : Part g r q k) (hi : i < g.length) (hj : j < (rowAt g 0).length) (h1 : bP r i = true) (h2 : bP q j = true) : Square (woL (pt g r q) (cnt (bP r) i) (cnt (bP q) j)) (k - 1) ∧ k - 1 ≤ 3 := by
  obtain ⟨a, b⟩ := h.at_ hi hj h1 h2
  have hk := h.k4
  have hs := h.square
  obtain ⟨k', rfl⟩ : ∃ k', k = k' + 1 := ⟨k - 1, by omega⟩
  exact ⟨hs.wo a b, by omega⟩
theorem Part.cfn_bd {g : List (List Int)} {r q k : Nat} (h : Part g r q k) (i j : Nat) (hi : i < g.length) (hj : j < (rowAt g 0).length) : -4374 ≤ cfn g r q i j ∧ cfn g r q i j ≤ 4374 := by
  unfold cfn
  split
  · rename_i hb
    simp only [Bool.and_eq_true] at hb
    obtain ⟨hs, hk⟩ := h.wo hi hj hb.1 hb.2
    have h1 := detL_bd hs
    have h2 := detB_le hk
    rcases sgI_cases (cnt (bP r) i + cnt (bP q) j) with e | e <;> rw [e] <;> omega
  · omega
theorem Part.row_bd {g : List (List Int)} {r q k : Nat} (h : Part g r q k) (i n : Nat) (hi : i < g.length) (hn : n ≤ (rowAt g 0).length) : -17496 ≤ sumI n (cfn g r q i) ∧ sumI n (cfn g r q i) ≤ 17496 := by
  have := sumI_bd n (cfn g r q i) 4374 (fun j hj => h.cfn_bd i j hi (by omega))
  have := h.n4
  omega
theorem Part.col_bd {g : List (List Int)} {r q k : Nat} (h : Part g r q k) (j n : Nat) (hj : j < (rowAt g 0).length) (hn : n ≤ g.length) : -17496 ≤ sumI n (fun i => cfn g r q i j) ∧ sumI n (fun i => cfn g r q i j) ≤ 17496 := by
  have := sumI_bd n (fun i => cfn g r q i j) 4374 (fun i hi => h.cfn_bd i j (by omega) hj)
  have := h.m4
  omega
theorem cfn_row_no {g : List (List Int)} {r q i : Nat} (h : bP r i = false) (j : Nat) : cfn g r q i j = 0 := by simp [cfn, h]
theorem cfn_col_no {g : List (List Int)} {r q j : Nat} (h : bP q j = false) (i : Nat) : cfn g r q i j = 0 := by simp [cfn, h]
theorem kX_no {g : List (List Int)} {r q i : Nat} (h : bP r i = false) : kX g r q i = 0 := by
  unfold kX
  have : ∀ n, sumI n (cfn g r q i) = 0 := fun n => by
    induction n with
    | zero => rfl
    | succ n ih => simp only [sumI, ih, cfn_row_no h]; rfl
  exact this _
end Go.Proofs.YtlmaeadbomnhlaaGreat

namespace Go.Proofs.YtlmaeadbomnhlaaGreat
set_option linter.unusedSimpArgs false
set_option linter.unusedVariables false
open Go.RowKit
structure KSt (W0 wr : World) (g : List (List Int)) (r q k n : Nat) : Prop where
  bel : Below W0.heap.size W0 wr
  xs : wr.rowIs W0.heap.size 3 g.length (fun i => .int .i64 (if i < k then kX g r q i else if i = k then sumI n (cfn g r q k) else 0))
  ys : wr.rowIs (W0.heap.size + 1) 3 (rowAt g 0).length (fun j => .int .i64 (sumI k (fun i => cfn g r q i j) + (if j < n then cfn g r q k j else 0)))
theorem KSt.start (W0 : World) (g : List (List Int)) (r q : Nat) :
    KSt W0 ((W0.alloc (.cells (madeCells #[.int .i64 0] g.length) 3)).alloc (.cells (madeCells #[.int .i64 0] (rowAt g 0).length) 3)) g r q 0 0 := by
  have hs : (W0.alloc (.cells (madeCells #[.int .i64 0] g.length) 3)).heap.size = W0.heap.size + 1 := by simp
  refine ⟨((Below.refl _ _).alloc (Nat.le_refl _) _).alloc (by omega) _, ((World.rowIs_made W0 _ g.length _).alloc _).congr (fun i _ => by simp [sumI]), ?_⟩
  have := World.rowIs_made (W0.alloc (.cells (madeCells #[.int .i64 0] g.length) 3)) (.int .i64 0) (rowAt g 0).length 3
  rw [hs] at this
  exact this.congr (fun j _ => by simp [sumI])
theorem KSt.call {W0 wr w1 : World} {g : List (List Int)} {r q k n : Nat} (h : KSt W0 wr g r q k n) (hb : Below wr.heap.size wr w1) : KSt W0 w1 g r q k n :=
  ⟨belT h.bel hb, h.xs.of_block (hb.block _ h.xs.lt), h.ys.of_block (hb.block _ h.ys.lt)⟩
theorem KSt.skip {W0 wr : World} {g : List (List Int)} {r q k : Nat} (h : KSt W0 wr g r q k 0) (hb : bP r k = false) : KSt W0 wr g r q (k + 1) 0 := by
  refine ⟨h.bel, h.xs.congr (fun i _ => ?_), h.ys.congr (fun j _ => ?_)⟩
  · by_cases e : i = k
    · subst e; simp [sumI, kX_no hb]
    · by_cases hlt : i < k
      · simp [hlt, show i < k + 1 by omega]
      · have h1 : ¬ i < k + 1 := by omega
        by_cases e2 : i = k + 1
        · subst e2; simp [sumI, hlt, e]
        · simp [hlt, h1, e, e2]
  · simp [sumI, cfn_row_no hb]
theorem KSt.next {W0 wr : World} {g : List (List Int)} {r q k : Nat} (h : KSt W0 wr g r q k (rowAt g 0).length) : KSt W0 wr g r q (k + 1) 0 := by
  refine ⟨h.bel, h.xs.congr (fun i _ => ?_), h.ys.congr (fun j hj => ?_)⟩
  · by_cases e : i = k
    · subst e; simp [kX]
    · by_cases hlt : i < k
      · simp [hlt, show i < k + 1 by omega]
      · have h1 : ¬ i < k + 1 := by omega
        by_cases e2 : i = k + 1
        · subst e2; simp [sumI, hlt, e]
        · simp [hlt, h1, e, e2]
  · simp [sumI, hj]
theorem KSt.step {W0 wr : World} {g : List (List Int)} {r q k n : Nat} (h : KSt W0 wr g r q k n) :
    KSt W0 ((wr.setCell ⟨W0.heap.size, k, none⟩ (.int .i64 (sumI n (cfn g r q k) + cfn g r q k n))).setCell ⟨W0.heap.size + 1, n, none⟩ (.int .i64 (sumI k (fun i => cfn g r q i n) + cfn g r q k n))) g r q k (n + 1) := by
  refine ⟨(h.bel.setCell (Nat.le_refl _) _).setCell (by show W0.heap.size ≤ W0.heap.size + 1; omega) _,
    ((h.xs.set k _).setOther (by show W0.heap.size ≠ W0.heap.size + 1; omega) _).congr (fun i _ => ?_),
    ((h.ys.setOther (by show W0.heap.size + 1 ≠ W0.heap.size; omega) _).set n _).congr (fun j _ => ?_)⟩
  · by_cases e : i = k
    · subst e; simp [sumI]
    · by_cases hlt : i < k
      · simp [e, hlt]
      · simp [e, hlt]
  · by_cases e : j = n
    · subst e; simp
    · by_cases hlt : j < n
      · simp [e, hlt, show j < n + 1 by omega]
      · simp [e, hlt, show ¬ j < n + 1 by omega]
structure NSt (W0 wr : World) (b : Nat) (l : List Int) (e : Int) (k : Nat) (f : Nat → Int) : Prop where
  bel : Below W0.heap.size W0 wr
  row : wr.rowIs b 3 l.length (fun i => .int .i64 (if i < k then nth l i else f i))
theorem NSt.cell {W0 wr : World} {b k : Nat} {l : List Int} {e : Int} {f : Nat → Int} (h : NSt W0 wr b l e k f) (hk : k < l.length) : wr.cell? ⟨b, k, none⟩ = some (.int .i64 (f k)) := by
  have := h.row.cell hk; simpa using this
theorem NSt.set {W0 wr : World} {b k : Nat} {l : List Int} {e : Int} {f : Nat → Int} (h : NSt W0 wr b l e k f) (hb : W0.heap.size ≤ b) {x : Int} (hx : nth l k = x) : NSt W0 (wr.setCell ⟨b, k, none⟩ (.int .i64 x)) b l e (k + 1) f := by
  refine ⟨h.bel.setCell hb _, (h.row.set k _).congr (fun i _ => ?_)⟩
  by_cases e1 : i = k
  · subst e1; simp [hx]
  · by_cases hlt : i < k
    · simp [e1, hlt, show i < k + 1 by omega]
    · simp [e1, hlt, show ¬ i < k + 1 by omega]
theorem NSt.same {W0 wr : World} {b k : Nat} {l : List Int} {e : Int} {f : Nat → Int} (h : NSt W0 wr b l e k f) (hx : nth l k = f k) : NSt W0 wr b l e (k + 1) f := by
  refine ⟨h.bel, h.row.congr (fun i _ => ?_)⟩
  by_cases e1 : i = k
  · subst e1; simp [hx]
  · by_cases hlt : i < k
    · simp [hlt, show i < k + 1 by omega]
    · simp [hlt, show ¬ i < k + 1 by omega]
theorem NSt.ints {W0 wr : World} {b : Nat} {l : List Int} {e : Int} {f : Nat → Int} {S : Nat → Prop} (h : NSt W0 wr b l e l.length f) (hb : S b) : Ints wr S (some ⟨b, 0, none⟩) l :=
  IntRow.ints (h.row.congr (fun i hi => by simp [hi])) hb
def TwoLists (w : World) (l m : List Int) (b : Bool) (e : Ending) (w' : World) : Prop :=
  ∃ (A : Option Addr) (c : Nat) (B : Option Addr) (d : Nat), e = .returned (.tuple #[.slice A l.length c, .slice B m.length d, .bool b]) ∧ Below w.heap.size w w' ∧ OwnI w' w.heap.size w'.heap.size A l ∧ OwnI w' w.heap.size w'.heap.size B m
theorem TwoLists.none {w w' : World} {x : Value} {A B : Option Addr} (hx : x = .tuple #[.slice A 0 0, .slice B 0 0, .bool false]) (hb : Below w.heap.size w w') : TwoLists w [] [] false (.returned x) w' :=
  ⟨A, 0, B, 0, by rw [hx]; rfl, hb, fun h => absurd h (by simp), fun h => absurd h (by simp)⟩
end Go.Proofs.YtlmaeadbomnhlaaGreat

namespace Go.Proofs.YtlmaeadbomnhlaaGreat
set_option linter.unusedSimpArgs false
set_option linter.unusedVariables false
open Go.RowKit
theorem ker_none {g : List (List Int)} {rows cols : Int} (h : kerB g rows cols = false) : kerX g rows cols = [] ∧ kerY g rows cols = [] := by simp [kerX, kerY, h]
end Go.Proofs.YtlmaeadbomnhlaaGreat
