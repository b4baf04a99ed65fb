/- Texts in one: ImplD, ImplE, ImplF, ImplG. -/
import Derived.Test.YtlkjpmdnhccdpabME
import Derived.Laws.MakeOwn
namespace Go.Proofs.Ytlkjpmdnhccdpab
set_option linter.unusedSimpArgs false
set_option linter.unusedVariables false
open Go.RowKit

theorem cases16 {s : Nat} (h : s < 16) : s = 0 ∨ s = 1 ∨ s = 2 ∨ s = 3 ∨ s = 4 ∨ s = 5 ∨ s = 6 ∨ s = 7 ∨ s = 8 ∨ s = 9 ∨ s = 10 ∨ s = 11 ∨ s = 12 ∨ s = 13 ∨ s = 14 ∨ s = 15 := by omega

def popT (s : Nat) : Nat := [0, 1, 1, 2, 1, 2, 2, 3, 1, 2, 2, 3, 2, 3, 3, 4].getD s 0

theorem pop_tab {s : Nat} (h : s < 16) : popN s = popT s := by
  rcases cases16 h with rfl | rfl | rfl | rfl | rfl | rfl | rfl | rfl | rfl | rfl | rfl | rfl | rfl | rfl | rfl | rfl <;> simp [popN_step, popN_zero, popT]

theorem pop_le4 {s : Nat} (h : s < 16) : popN s ≤ 4 := by
  rw [pop_tab h]
  rcases cases16 h with rfl | rfl | rfl | rfl | rfl | rfl | rfl | rfl | rfl | rfl | rfl | rfl | rfl | rfl | rfl | rfl <;> decide

theorem and1 {t : Nat} (h : t < 16) : bits BinOp.and IntKind.i64 (t : Int) 1 = ((t % 2 : Nat) : Int) := by
  rcases cases16 h with rfl | rfl | rfl | rfl | rfl | rfl | rfl | rfl | rfl | rfl | rfl | rfl | rfl | rfl | rfl | rfl <;> decide +kernel

theorem shr_cast (s k : Nat) : (s : Int) / 2 ^ k = ((s / 2 ^ k : Nat) : Int) := by simp

theorem bP_ge {s k : Nat} (h : s / 2 ^ k = 0) {i : Nat} (hi : k ≤ i) : bP s i = false := by
  unfold bP
  have : s / 2 ^ i = 0 := by
    rw [Nat.div_eq_zero_iff] at h ⊢
    rcases h with h | h
    · exact absurd h (by have := Nat.two_pow_pos k; omega)
    · exact .inr (Nat.lt_of_lt_of_le h (Nat.pow_le_pow_right (by omega) hi))
  rw [this]; rfl

theorem bP_big {s : Nat} (h : s < 16) {i : Nat} (hi : 4 ≤ i) : bP s i = false := bP_ge (k := 4) (by rw [Nat.div_eq_zero_iff]; omega) hi

theorem selRow_upto {Q : Nat → Bool} {F : Nat → Int} {k m : Nat} (hk : k ≤ m) (h : ∀ i, k ≤ i → i < m → Q i = false) : selRow Q F m = selRow Q F k := by
  induction m with
  | zero => have : k = 0 := (by omega); rw [this]
  | succ m ih =>
    by_cases e : k = m + 1
    · rw [e]
    · rw [selRow_no (h m (by omega) (by omega))]; exact ih (by omega) (fun i h1 h2 => h i h1 (by omega))

theorem selTab_upto {Q : Nat → Bool} {F : Nat → List Int} {k m : Nat} (hk : k ≤ m) (h : ∀ i, k ≤ i → i < m → Q i = false) : selTab Q F m = selTab Q F k := by
  induction m with
  | zero => have : k = 0 := (by omega); rw [this]
  | succ m ih =>
    by_cases e : k = m + 1
    · rw [e]
    · rw [selTab_no (h m (by omega) (by omega))]; exact ih (by omega) (fun i h1 h2 => h i h1 (by omega))

/-- the places of a set, in ascending order -/
def plc (s : Nat) : List Int := selRow (bP s) (fun i => (i : Int)) 4

end Go.Proofs.Ytlkjpmdnhccdpab

namespace Go.Proofs.Ytlkjpmdnhccdpab
set_option linter.unusedSimpArgs false
set_option linter.unusedVariables false
open Go.RowKit

theorem plc_length (s : Nat) : (plc s).length = cnt (bP s) 4 := by unfold plc; rw [selRow_length]

theorem nth_plc (s i : Nat) (h : i < cnt (bP s) 4) : nth (plc s) i = ((sel (bP s) 4).getD i 0 : Nat) := by
  unfold plc; rw [selRow_map, nth_mapN _ _ _ (by rw [sel_length]; exact h)]

/-- the first places of a set, taken one by one -/
theorem sel_take (P : Nat → Bool) (k i : Nat) (h : i < cnt P k) : (sel P k).take (i + 1) = (sel P k).take i ++ [(sel P k).getD i 0] := by
  have hl : i < (sel P k).length := by rw [sel_length]; exact h
  rw [List.take_add_one, List.getElem?_eq_getElem hl]; simp [List.getD, hl]

/-- the part, by the places of two sets -/
def prt (g : List (List Int)) (r q : Nat) : List (List Int) := selTab (bP r) (fun i => selRow (bP q) (nth (rowAt g i)) 4) 4

/-- a row of the part, its first m numbers; the part, its first k rows -/
def rowUp (g : List (List Int)) (q a m : Nat) : List Int := ((sel (bP q) 4).take m).map (nth (rowAt g a))

def tabUp (g : List (List Int)) (r q k : Nat) : List (List Int) := ((sel (bP r) 4).take k).map (fun a => rowUp g q a (cnt (bP q) 4))

theorem rowUp_zero (g : List (List Int)) (q a : Nat) : rowUp g q a 0 = [] := rfl

theorem tabUp_zero (g : List (List Int)) (r q : Nat) : tabUp g r q 0 = [] := rfl

theorem rowUp_succ (g : List (List Int)) (q a m : Nat) (h : m < cnt (bP q) 4) : rowUp g q a (m + 1) = rowUp g q a m ++ [nth (rowAt g a) ((sel (bP q) 4).getD m 0)] := by
  unfold rowUp; rw [sel_take _ _ _ h, List.map_append]; rfl

theorem tabUp_succ (g : List (List Int)) (r q k : Nat) (h : k < cnt (bP r) 4) : tabUp g r q (k + 1) = tabUp g r q k ++ [rowUp g q ((sel (bP r) 4).getD k 0) (cnt (bP q) 4)] := by
  unfold tabUp; rw [sel_take _ _ _ h, List.map_append]; rfl

theorem rowUp_len (g : List (List Int)) (q a m : Nat) : (rowUp g q a m).length ≤ m := by unfold rowUp; rw [List.length_map]; exact List.length_take_le _ _

theorem tabUp_len (g : List (List Int)) (r q k : Nat) : (tabUp g r q k).length ≤ k := by unfold tabUp; rw [List.length_map]; exact List.length_take_le _ _

theorem prt_up (g : List (List Int)) (r q : Nat) : prt g r q = tabUp g r q (cnt (bP r) 4) := by
  unfold prt tabUp rowUp
  rw [selTab_map, ← sel_length (bP r) 4, List.take_length]
  congr 1; funext i; rw [← sel_length (bP q) 4, List.take_length]; exact selRow_map _ _ _

/-- all places of a table, without one -/
theorem bP_all {k i : Nat} (hk : k ≤ 4) : bP (2 ^ k - 1) i = decide (i < k) := by
  by_cases hi : i < 4
  · have h1 : k = 0 ∨ k = 1 ∨ k = 2 ∨ k = 3 ∨ k = 4 := by omega
    have h2 : i = 0 ∨ i = 1 ∨ i = 2 ∨ i = 3 := by omega
    rcases h1 with rfl | rfl | rfl | rfl | rfl <;> rcases h2 with rfl | rfl | rfl | rfl <;> decide
  · rw [bP_big (by have : k = 0 ∨ k = 1 ∨ k = 2 ∨ k = 3 ∨ k = 4 := (by omega); rcases this with rfl | rfl | rfl | rfl | rfl <;> decide) (by omega)]
    simp; omega

def less1 (k a : Nat) : Nat := 2 ^ k - 1 - 2 ^ a

theorem less1_lt {k : Nat} (hk : k ≤ 4) (a : Nat) : less1 k a < 16 := by
  have h1 : k = 0 ∨ k = 1 ∨ k = 2 ∨ k = 3 ∨ k = 4 := by omega
  have h2 : 2 ^ k - 1 < 16 := by rcases h1 with rfl | rfl | rfl | rfl | rfl <;> decide
  exact Nat.lt_of_le_of_lt (Nat.sub_le _ _) h2

theorem bP_less1 {k a i : Nat} (hk : k ≤ 4) (ha : a < k) : bP (less1 k a) i = (decide (i < k) && (i != a)) := by
  have hb := less1_lt hk a
  by_cases hi : i < 4
  · have h1 : k = 1 ∨ k = 2 ∨ k = 3 ∨ k = 4 := by omega
    have h2 : i = 0 ∨ i = 1 ∨ i = 2 ∨ i = 3 := by omega
    have h3 : a = 0 ∨ a = 1 ∨ a = 2 ∨ a = 3 := by omega
    rcases h1 with rfl | rfl | rfl | rfl <;> rcases h3 with rfl | rfl | rfl | rfl <;> (first | omega | (rcases h2 with rfl | rfl | rfl | rfl <;> decide))
  · rw [bP_big hb (by omega)]
    simp; omega

theorem selRow_congrQ {Q Q' : Nat → Bool} {F : Nat → Int} {k : Nat} (h : ∀ i, i < k → Q i = Q' i) : selRow Q F k = selRow Q' F k := by
  induction k with
  | zero => rfl
  | succ k ih => simp only [selRow]; rw [ih (fun i hi => h i (by omega)), h k (by omega)]

theorem selTab_congrQ {Q Q' : Nat → Bool} {F F' : Nat → List Int} {k : Nat} (h : ∀ i, i < k → Q i = Q' i) (hF : ∀ i, i < k → F i = F' i) : selTab Q F k = selTab Q' F' k := by
  induction k with
  | zero => rfl
  | succ k ih => simp only [selTab]; rw [ih (fun i hi => h i (by omega)) (fun i hi => hF i (by omega)), h k (by omega), hF k (by omega)]

/-- what is left of a table is its part without a row and a column -/
theorem prt_wo {m : List (List Int)} {k a b : Nat} (hk : k ≤ 4) (hl : m.length = k) (ha : a < k) (hb : b < k) : prt m (less1 k a) (less1 k b) = woL m a b := by
  unfold prt woL
  rw [hl, selTab_upto (k := k) hk (fun i h1 _ => by rw [bP_less1 hk ha]; simp; omega)]
  refine selTab_congrQ (fun i hi => by rw [bP_less1 hk ha]; simp [hi]) (fun i _ => ?_)
  rw [selRow_upto (k := k) hk (fun i h1 _ => by rw [bP_less1 hk hb]; simp; omega)]
  exact selRow_congrQ (fun i hi => by rw [bP_less1 hk hb]; simp [hi])

/-- a part of a game, of places that it has -/
theorem prt_pt {g : List (List Int)} {r q : Nat} (hm : g.length ≤ 4) (hn : (rowAt g 0).length ≤ 4) (hr : r < 2 ^ g.length) (hq : q < 2 ^ (rowAt g 0).length) : prt g r q = pt g r q := by
  unfold prt pt
  rw [selTab_upto (k := g.length) hm (fun i h1 _ => bP_ge (k := g.length) (Nat.div_eq_of_lt hr) h1)]
  refine selTab_congrQ (fun _ _ => rfl) (fun i _ => ?_)
  exact selRow_upto hn (fun i h1 _ => bP_ge (k := (rowAt g 0).length) (Nat.div_eq_of_lt hq) h1)

end Go.Proofs.Ytlkjpmdnhccdpab

namespace Go.Proofs.Ytlkjpmdnhccdpab
set_option linter.unusedSimpArgs false
set_option linter.unusedVariables false
open Go.RowKit

theorem less1_bits {k a : Nat} (hk : k ≤ 4) (ha : a < k) : bits BinOp.andNot IntKind.i64 (pw k) (wrap64 (2 ^ a)) = ((less1 k a : Nat) : Int) := by
  have h1 : k = 1 ∨ k = 2 ∨ k = 3 ∨ k = 4 := by omega
  have h3 : a = 0 ∨ a = 1 ∨ a = 2 ∨ a = 3 := by omega
  rcases h1 with rfl | rfl | rfl | rfl <;> rcases h3 with rfl | rfl | rfl | rfl <;> (first | omega | decide +kernel)

theorem less1_bits' {k a : Nat} (hk : k ≤ 4) (ha : a < k) : bits BinOp.andNot IntKind.i64 (pw k) (IntKind.i64.wrap (2 ^ a)) = ((less1 k a : Nat) : Int) := by
  have h1 : k = 1 ∨ k = 2 ∨ k = 3 ∨ k = 4 := by omega
  have h3 : a = 0 ∨ a = 1 ∨ a = 2 ∨ a = 3 := by omega
  rcases h1 with rfl | rfl | rfl | rfl <;> rcases h3 with rfl | rfl | rfl | rfl <;> (first | omega | decide +kernel)

/-- the cofactor of a row and a column -/
def cofA (m : List (List Int)) (a b : Nat) : Int := sgI (a + b) * detL (woL m a b)

theorem cofA_bd {m : List (List Int)} {k a b : Nat} (hk : k ≤ 3) (hsq : Square m (k + 1)) (ha : a < k + 1) (hb : b < k + 1) : -4374 ≤ cofA m a b ∧ cofA m a b ≤ 4374 := by
  have h1 := detL_bd (hsq.wo ha hb)
  have h2 := detB_le hk
  unfold cofA
  rcases sgI_cases (a + b) with e | e <;> rw [e] <;> omega

theorem detF_cof (m : List (List Int)) (j : Nat) : detF m j = nth (rowAt m 0) j * cofA m 0 j := by
  unfold detF cofA; rw [Nat.zero_add, Int.mul_left_comm, Int.mul_assoc]

end Go.Proofs.Ytlkjpmdnhccdpab

namespace Go.Proofs.Ytlkjpmdnhccdpab
set_option linter.unusedSimpArgs false
set_option linter.unusedVariables false
open Go.RowKit

/-- what a call leaves that hands back a table to be read -/
def ReadT (w : World) (g : List (List Int)) (e : Ending) (w' : World) : Prop :=
  ∃ (T : Option Addr) (c : Nat), e = .returned (.slice T g.length c) ∧ Below w.heap.size w w' ∧ Rows2 w' (· < w'.heap.size) T g

/-- while the rows of a table are made and filled one by one, each in a block of its own, wherever: k rows are done -/
structure Rowed (w wr : World) (g : List (List Int)) (R : Nat → Nat) (k : Nat) : Prop where
  bel : Below w.heap.size w wr
  top : wr.rowIs w.heap.size 61 g.length (fun j => if j < k then .slice (some ⟨R j, 0, none⟩) (rowAt g j).length (rowAt g j).length else .slice none 0 0)
  lt : ∀ j, j < k → w.heap.size < R j ∧ R j < wr.heap.size
  rows : ∀ j, j < k → IntRow wr (R j) (rowAt g j)

/-- row k is open: its first r numbers are there -/
structure RowIn (w wr : World) (g : List (List Int)) (R : Nat → Nat) (k r : Nat) : Prop where
  bel : Below w.heap.size w wr
  top : wr.rowIs w.heap.size 61 g.length (fun j => if j < k + 1 then .slice (some ⟨R j, 0, none⟩) (rowAt g j).length (rowAt g j).length else .slice none 0 0)
  lt : ∀ j, j < k + 1 → w.heap.size < R j ∧ R j < wr.heap.size
  rows : ∀ j, j < k → IntRow wr (R j) (rowAt g j)
  ne : ∀ j, j < k → R j ≠ R k
  cur : wr.rowIs (R k) 3 (rowAt g k).length (fun i => .int .i64 (if i < r then nth (rowAt g k) i else 0))

theorem Rowed.start (w : World) (g : List (List Int)) (R : Nat → Nat) : Rowed w (w.alloc (.cells (madeCells #[.slice none 0 0] g.length) 61)) g R 0 :=
  ⟨(Below.refl _ _).alloc (Nat.le_refl _) _, (World.rowIs_made w _ _ _).congr (fun j _ => by simp), fun j hj => absurd hj (Nat.not_lt_zero _), fun j hj => absurd hj (Nat.not_lt_zero _)⟩

theorem Rowed.topLt {w wr : World} {g : List (List Int)} {R : Nat → Nat} {k : Nat} (h : Rowed w wr g R k) : w.heap.size < wr.heap.size := h.top.lt

theorem Rowed.open_ {w wr : World} {g : List (List Int)} {R : Nat → Nat} {k : Nat} (h : Rowed w wr g R k) (hk : k < g.length) :
    ∃ R' : Nat → Nat, R' k = wr.heap.size ∧ RowIn w ((wr.alloc (.cells (madeCells #[.int .i64 0] (rowAt g k).length) 3)).setCell ⟨w.heap.size, k, none⟩ (.slice (some ⟨wr.heap.size, 0, none⟩) (rowAt g k).length (rowAt g k).length)) g R' k 0 := by
  have hlt := h.topLt
  have hnew := World.rowIs_made wr (.int .i64 0) (rowAt g k).length 3
  refine ⟨fun j => if j = k then wr.heap.size else R j, by simp, ⟨(h.bel.alloc (by omega) _).setCell (Nat.le_refl _) _, ((h.top.alloc _).set k _).congr (fun j _ => ?_), fun j hj => ?_, fun j hj => ?_, fun j hj => ?_, ?_⟩⟩
  · by_cases e : j = k
    · subst e; simp
    · rw [if_neg e]
      by_cases hj : j < k
      · rw [if_pos hj, if_pos (by omega), if_neg e]
      · rw [if_neg hj, if_neg (by omega)]
  · by_cases e : j = k
    · simp [e, World.setCell]; omega
    · have := h.lt j (by omega); simp [e, World.setCell]; omega
  · have hj' := h.lt j hj
    simp only [if_neg (show j ≠ k by omega)]
    exact ((h.rows j hj).alloc _).setOther (by show R j ≠ w.heap.size; omega) _
  · have hj' := h.lt j hj
    simp only [if_neg (show j ≠ k by omega), if_pos]; omega
  · simp only [if_pos]
    exact (hnew.setOther (by show wr.heap.size ≠ w.heap.size; omega) _).congr (fun i _ => by simp)

theorem RowIn.still {w wr w2 : World} {g : List (List Int)} {R : Nat → Nat} {k r : Nat} (h : RowIn w wr g R k r) (hb : Below wr.heap.size wr w2) : RowIn w w2 g R k r :=
  ⟨belT h.bel hb, h.top.of_block (hb.block _ h.top.lt), fun j hj => ⟨(h.lt j hj).1, Nat.lt_of_lt_of_le (h.lt j hj).2 hb.size⟩, fun j hj => (h.rows j hj).of_block (hb.block _ (h.lt j (by omega)).2), h.ne, h.cur.of_block (hb.block _ (h.lt k (by omega)).2)⟩

theorem RowIn.step {w wr : World} {g : List (List Int)} {R : Nat → Nat} {k r : Nat} (h : RowIn w wr g R k r) : RowIn w (wr.setCell ⟨R k, r, none⟩ (.int .i64 (nth (rowAt g k) r))) g R k (r + 1) := by
  have h1 := h.lt k (by omega)
  refine ⟨h.bel.setCell (by show w.heap.size ≤ R k; omega) _, h.top.setOther (by show w.heap.size ≠ R k; omega) _, fun j hj => by have := h.lt j hj; simpa [World.setCell] using this,
    fun j hj => (h.rows j hj).setOther (h.ne j hj) _, h.ne, (h.cur.set r _).congr (fun i _ => ?_)⟩
  by_cases e : i = r
  · subst e; simp
  · rw [if_neg e]
    by_cases hlt : i < r
    · rw [if_pos hlt, if_pos (by omega)]
    · rw [if_neg hlt, if_neg (by omega)]

theorem RowIn.close {w wr : World} {g : List (List Int)} {R : Nat → Nat} {k : Nat} (h : RowIn w wr g R k (rowAt g k).length) : Rowed w wr g R (k + 1) :=
  ⟨h.bel, h.top, h.lt, fun j hj => by
    by_cases e : j = k
    · subst e; exact h.cur.congr (fun i hi => by rw [if_pos hi])
    · exact h.rows j (by omega)⟩

theorem RowIn.cell {w wr : World} {g : List (List Int)} {R : Nat → Nat} {k r : Nat} (h : RowIn w wr g R k r) (hk : k < g.length) : wr.cell? ⟨w.heap.size, k, none⟩ = some (.slice (some ⟨R k, 0, none⟩) (rowAt g k).length (rowAt g k).length) := by
  have := h.top.cell (i := k) hk; rwa [if_pos (by omega)] at this

theorem Rowed.read {w wr : World} {g : List (List Int)} {R : Nat → Nat} (h : Rowed w wr g R g.length) (hm : ∀ i, i < g.length → (rowAt g i).length ≤ maxLen) : Rows2 wr (· < wr.heap.size) (some ⟨w.heap.size, 0, none⟩) g := by
  intro h0
  refine ⟨_, 0, rfl, h.top.lt, fun i hi => ⟨_, _, by rw [Nat.zero_add]; have := h.top.cell (i := i) hi; rwa [if_pos hi] at this, Nat.le_refl _, hm i hi, (h.rows i hi).ints (h.lt i hi).2⟩⟩

/-- the cofactors of all rows and columns -/
def cofT (m : List (List Int)) : List (List Int) := (List.range m.length).map fun i => (List.range m.length).map fun j => cofA m i j

theorem cofT_length (m : List (List Int)) : (cofT m).length = m.length := by simp [cofT]

theorem cofT_row (m : List (List Int)) {i : Nat} (h : i < m.length) : rowAt (cofT m) i = (List.range m.length).map fun j => cofA m i j := by
  unfold cofT; rw [rowAt_map _ _ _ (by simpa using h)]; simp [List.getD, h]

theorem cofT_row_length (m : List (List Int)) {i : Nat} (h : i < m.length) : (rowAt (cofT m) i).length = m.length := by rw [cofT_row m h]; simp

theorem nth_cofT (m : List (List Int)) {i j : Nat} (h : i < m.length) (hj : j < m.length) : nth (rowAt (cofT m) i) j = cofA m i j := by
  rw [cofT_row m h, nth_mapN _ _ _ (by simpa using hj)]; simp [List.getD, hj]

/-- the sums of the lines -/
def sumT (g : List (List Int)) : List Int := (List.range g.length).map fun i => sumI (rowAt g i).length (nth (rowAt g i))

theorem sumT_length (g : List (List Int)) : (sumT g).length = g.length := by simp [sumT]

theorem nth_sumT (g : List (List Int)) {i : Nat} (h : i < g.length) : nth (sumT g) i = sumI (rowAt g i).length (nth (rowAt g i)) := by
  unfold sumT; rw [nth_mapN _ _ _ (by simpa using h)]; simp [List.getD, h]

end Go.Proofs.Ytlkjpmdnhccdpab
