/- Texts in one: WorseI, WorseS, WorseT, Concat, WithI, WithJ, WithK. -/
import Derived.Test.YtcfmfpkmcngacaaMP
import Derived.Test.YtcfmfpkmcngacaaMC
import Derived.Test.YtcfmfpkmcngacaaMF
import Derived.Deep.LoopGhost
import Derived.Lib.AppendZerosOnto
import Derived.Lib.Walk
namespace Go.Proofs.Ytcfmfpkmcngacaa
set_option linter.unusedSimpArgs false
set_option linter.unusedVariables false
open Go.RowKit

/-- the lines of a table are of one length, that of the first -/
def EvenT (g : List (List Int)) : Prop := g.length ≤ maxLen ∧ ∀ i, i < g.length → (rowAt g i).length = (rowAt g 0).length

theorem Game.even {g : List (List Int)} {m : Nat} (h : Game g m) : EvenT g := by
  have h1 := h.hi
  have h2 := h.lo
  refine ⟨by unfold maxLen; omega, fun i hi => by rw [h.len i hi, h.len 0 (by omega)]⟩

theorem cols_even {g : List (List Int)} (h : gameB g = true) : EvenT (cols g) := by
  have hg := Game.of h
  have h1 := hg.mhi
  have h2 := hg.mlo
  refine ⟨by rw [cols_length]; unfold maxLen; omega, fun i hi => ?_⟩
  rw [cols_length] at hi
  rw [rowAt_cols_length g i hi, rowAt_cols_length g 0 (by omega)]

theorem Laid.cols_reads {w w1 : World} {g : List (List Int)} (h : gameB g = true) (hL : Laid w w1 (cols g)) : Rows2 w1 (· < w1.heap.size) (some ⟨w.heap.size, 0, none⟩) (cols g) := by
  have hg := Game.of h
  have h1 := hg.hi
  exact Laid.rows2 hL (fun b _ hb => hb) fun i hi => by rw [cols_length] at hi; rw [rowAt_cols_length g i hi]; unfold maxLen; omega

/-- what first lines are told as -/
def fstV (o : Option Nat) : Value := .tuple #[.int .i64 ((o.getD 0 : Nat) : Int), .bool o.isSome]

end Go.Proofs.Ytcfmfpkmcngacaa

namespace Go.Proofs.Ytcfmfpkmcngacaa
set_option linter.unusedSimpArgs false
set_option linter.unusedVariables false
open Go.RowKit

theorem inR_pl (a : Int) (n : Nat) : inR a 0 ((n : Int) - 1) = inPl a n := by
  unfold inR inPl
  rw [Bool.eq_iff_iff, Bool.and_eq_true]; simp only [decide_eq_true_eq]; omega

theorem news_of {w : World} {b off : Nat} {l : List Int} (hc : ∀ i, i < l.length → w.cell? ⟨b, off + i, none⟩ = some (.int .i64 (nth l i))) : ∀ j u, (vals l)[j]? = some u → w.cell? ((⟨b, off, none⟩ : Addr).add j) = some u := by
  intro j u hj
  have hlt : j < l.length := by
    have := (List.getElem?_eq_some_iff.1 hj).1; rwa [vals_length] at this
  rw [vals_get l j hlt] at hj
  injection hj with hj
  subst hj
  have e : (⟨b, off, none⟩ : Addr).add j = ⟨b, off + j, none⟩ := by
    by_cases e0 : j = 0
    · subst e0; simp [Addr.add]
    · simp [Addr.add, e0]
  rw [e]; exact hc j hlt

theorem vals_one {l : List Int} : ∀ u ∈ vals l, u.oneCell' = true := by
  intro u hu
  simp only [vals, List.mem_map] at hu
  obtain ⟨x, _, rfl⟩ := hu
  rfl

end Go.Proofs.Ytcfmfpkmcngacaa

namespace Go.Proofs.Ytcfmfpkmcngacaa
set_option linter.unusedSimpArgs false
set_option linter.unusedVariables false
open Go.RowKit

theorem turned_max (g : List (List Int)) : (turned g).length ≤ maxLen := by have := (turned_len g).1; unfold maxLen; omega

theorem woRT_max (g : List (List Int)) (a : Int) : (woRT g a).length ≤ maxLen := by have := (woRT_len g a).1; unfold maxLen; omega

theorem woCT_max (g : List (List Int)) (a : Int) : (woCT g a).length ≤ maxLen := by have := (woCT_len g a).1; unfold maxLen; omega

theorem OwnR.reads {w : World} {lo : Nat} {T : Option Addr} {g : List (List Int)} (h : OwnR w lo w.heap.size T g) : Rows2 w (· < w.heap.size) T g := h.rows2.mono fun b hb => hb.2

theorem woCT_turned {g : List (List Int)} (hs : gameB g = true) (a : Int) : woCT g a = turned (woRT (turned g) a) := by
  unfold woCT woRT
  rw [woCB_turned g hs a]
  by_cases h : woRB (turned g) a = true
  · rw [if_pos h, if_pos h]; rfl
  · rw [if_neg h, if_neg h]; rfl

/-- what a step leaves: a smaller game of its own, or none -/
def StepRes (w : World) (o : Option (List (List Int))) (v : Value) (e : Ending) (w' : World) : Prop :=
  Below w.heap.size w w' ∧ match o with
  | some t => ∃ (T : Option Addr) (c : Nat), e = .returned (.tuple #[.slice T t.length c, .bool true]) ∧ OwnR w' w.heap.size w'.heap.size T t
  | none => e = .returned (.tuple #[v, .bool false])

theorem selTab_all (g : List (List Int)) : selTab (fun _ => true) (rowAt g) g.length = g := by
  rw [selTab_map, sel_all]
  refine ext_rowAt (by simp) fun i hi => ?_
  have hi' : i < g.length := by simpa using hi
  simp [rowAt, hi']

end Go.Proofs.Ytcfmfpkmcngacaa

namespace Go.Proofs.Ytcfmfpkmcngacaa
set_option linter.unusedSimpArgs false
set_option linter.unusedVariables false
open Go.RowKit

theorem one_zero {z : Value} (h : z.cells.size = 1) (n : Nat) : (Builtin.zeroCells z.cells n).size = n := by rw [size_zeroCells, h, Nat.mul_one]

theorem grown_own (w : World) (n : Nat) (e : TypeId) (z : Value) (hz : z.cells.size = 1) (hn : n ≤ 4294967296) :
    (w.drew.alloc (.cells (#[] ++ Builtin.zeroCells z.cells n ++ Builtin.zeroCells z.cells (grownCap w n 0 e - n)) e)).ownsRow w.heap.size e 1 (.slice (some ⟨w.heap.size, 0, none⟩) 0 (grownCap w n 0 e)) 0 [] := by
  have h1 := grownCap_ge w n 0 e
  have h2 := grownCap_le_maxLen w n 0 e (by unfold maxLen; omega)
  refine ⟨rfl, .inr ⟨w.heap.size, _, _, rfl, Nat.le_refl _, heap_alloc_new w.drew _, Nat.zero_le _, h2, ?_, by simp⟩⟩
  simp only [Array.size_append, one_zero hz]
  simp; omega

/-- two lists, one behind the other, as far as they are copied -/
def preN {α : Type} (xs ys : List α) (k : Nat) : List α := if k = 0 then [] else if k = 1 then xs else xs ++ ys

theorem own_pre1 {w : World} {base n1 : Nat} {e : TypeId} {v : Value} {xs ys : List Value} (h : w.ownsRow base e 1 v (preN xs ys 1).length (preN xs ys 1)) (hx : xs.length = n1) : w.ownsRow base e 1 v n1 xs := by
  rw [show (preN xs ys 1) = xs from rfl, hx] at h; exact h

theorem own_pre2 {w : World} {base n1 n2 : Nat} {e : TypeId} {v : Value} {xs ys : List Value} (h : w.ownsRow base e 1 v (preN xs ys 2).length (preN xs ys 2)) (hx : xs.length = n1) (hy : ys.length = n2) : w.ownsRow base e 1 v (n1 + n2) (xs ++ ys) := by
  rw [show (preN xs ys 2) = xs ++ ys from rfl, List.length_append, hx, hy] at h; exact h

end Go.Proofs.Ytcfmfpkmcngacaa

namespace Go.Proofs.Ytcfmfpkmcngacaa
set_option linter.unusedSimpArgs false
set_option linter.unusedVariables false
open Go.RowKit

/-- the cells from an address on hold the values -/
def CellsV (w : World) (b off : Nat) (xs : List Value) : Prop := ∀ (j : Nat) (u : Value), xs[j]? = some u → w.cell? ⟨b, off + j, none⟩ = some u

theorem CellsV.news {w : World} {b off : Nat} {xs : List Value} (h : CellsV w b off xs) : ∀ j u, xs[j]? = some u → w.cell? ((⟨b, off, none⟩ : Addr).add j) = some u := by
  intro j u hj
  have e : (⟨b, off, none⟩ : Addr).add j = ⟨b, off + j, none⟩ := by
    by_cases e0 : j = 0
    · subst e0; simp [Addr.add]
    · simp [Addr.add, e0]
  rw [e]; exact h j u hj

theorem CellsV.keep {w w' : World} {b off B : Nat} {xs : List Value} (h : CellsV w b off xs) (hb : b < B) (hw : Below B w w') : CellsV w' b off xs :=
  fun j u hj => (hw.cell (p := ⟨b, off + j, none⟩) hb).trans (h j u hj)

theorem CellsV.take {w : World} {b off : Nat} {xs : List Value} (h : CellsV w b off xs) (a : Nat) : CellsV w b off (xs.take a) := fun j u hj => h j u (by
  rw [List.getElem?_take] at hj
  split at hj
  · exact hj
  · cases hj)

theorem CellsV.drop {w : World} {b off : Nat} {xs : List Value} (h : CellsV w b off xs) (k : Nat) : CellsV w b (off + k) (xs.drop k) := fun j u hj => by
  rw [List.getElem?_drop] at hj
  rw [Nat.add_assoc]; exact h _ u hj

theorem CellsV.nil (w : World) (b off : Nat) : CellsV w b off [] := fun j u hj => by simp at hj

/-- where what follows a place begins: at the list's end, where there is no room behind it, the run-time leaves the address -/
theorem tail_at {w : World} {b off n a c : Nat} {xs : List Value} (h : CellsV w b off xs) (hn : xs.length = n) (hc : n ≤ c) (ha : a < n) :
    ∃ A2 : Addr, (if c = a + 1 then (some ⟨b, off, none⟩ : Option Addr) else some ⟨b, off + (a + 1), none⟩) = some A2 ∧ A2.block = b ∧ ∀ (B : Nat) (w' : World), b < B → Below B w w' → ∀ j u, (xs.drop (a + 1))[j]? = some u → w'.cell? (A2.add j) = some u := by
  by_cases e : c = a + 1
  · refine ⟨⟨b, off, none⟩, by rw [if_pos e], rfl, fun B w' hb hw => ?_⟩
    have e2 : xs.drop (a + 1) = [] := List.drop_eq_nil_of_le (by omega)
    rw [e2]; intro j u hj; simp at hj
  · exact ⟨⟨b, off + (a + 1), none⟩, by rw [if_neg e], rfl, fun B w' hb hw => ((h.drop (a + 1)).keep hb hw).news⟩

theorem ownsRow_base {w : World} {b b' : Nat} {e : TypeId} {s n : Nat} {v : Value} {xs : List Value} (h : w.ownsRow b e s v n xs) (hb : b' ≤ b) : w.ownsRow b' e s v n xs := by
  obtain ⟨h1, h2 | ⟨g, cap, cur, k1, k2, k3⟩⟩ := h
  · exact ⟨h1, .inl h2⟩
  · exact ⟨h1, .inr ⟨g, cap, cur, k1, by omega, k3⟩⟩

theorem one_take {xs : List Value} (h : ∀ u ∈ xs, u.oneCell' = true) (a : Nat) : ∀ u ∈ xs.take a, u.oneCell' = true := fun u hu => h u (List.mem_of_mem_take hu)

theorem one_drop {xs : List Value} (h : ∀ u ∈ xs, u.oneCell' = true) (a : Nat) : ∀ u ∈ xs.drop a, u.oneCell' = true := fun u hu => h u (List.mem_of_mem_drop hu)

theorem oneR {A : Nat → Option Addr} {C : Nat → Nat} {g : List (List Int)} : ∀ u ∈ rowVals A C g, u.oneCell' = true := by
  intro u hu
  simp only [rowVals, List.mem_map] at hu
  obtain ⟨x, _, rfl⟩ := hu
  rfl

theorem getD_eq {α : Type} (l : List α) (i : Nat) (d : α) (h : i < l.length) : l[i]? = some (l.getD i d) := by simp [h]

theorem cut_at {α : Type} {l : List α} {a i : Nat} (ha : a < l.length) (hi : i < l.length - 1) : (l.take a ++ l.drop (a + 1))[i]? = l[if i < a then i else i + 1]? := by
  by_cases e : i < a
  · rw [if_pos e, List.getElem?_append_left (by simp; omega), List.getElem?_take, if_pos e]
  · rw [if_neg e, List.getElem?_append_right (by simp; omega), List.getElem?_drop]
    congr 1; simp; omega

theorem cut_vals {l : List Int} {a : Nat} (ha : a < l.length) : (vals l).take a ++ (vals l).drop (a + 1) = vals (selRow (fun j => j != a) (nth l) l.length) := by
  have e : selRow (fun j => j != a) (nth l) l.length = l.take a ++ l.drop (a + 1) := by
    refine ext_nth (by rw [selRow_length, cnt_ne, if_pos ha]; simp; omega) fun i hi => ?_
    rw [selRow_length, cnt_ne, if_pos ha] at hi
    rw [nth_selRow_ne ha hi]
    unfold nth
    rw [List.getD_eq_getElem?_getD, List.getD_eq_getElem?_getD, cut_at ha hi]
  rw [e]; simp [vals, List.map_take, List.map_drop]

end Go.Proofs.Ytcfmfpkmcngacaa

namespace Go.Proofs.Ytcfmfpkmcngacaa
set_option linter.unusedSimpArgs false
set_option linter.unusedVariables false
open Go.RowKit

/-- while rows are stored that calls have made: the first k are there -/
structure Copying (w wr : World) (g : List (List Int)) (A : Nat → Option Addr) (C : Nat → Nat) (k : Nat) : Prop where
  bel : Below w.heap.size w wr
  size : w.heap.size < wr.heap.size
  top : wr.rowIs w.heap.size 32 g.length (fun j => if j < k then .slice (A j) (rowAt g j).length (C j) else .slice none 0 0)
  cap : ∀ i, i < k → (rowAt g i).length ≤ C i ∧ C i ≤ maxLen
  own : ∀ i, i < k → OwnI wr (w.heap.size + 1) wr.heap.size (A i) (rowAt g i)
  apart : ∀ i j, i < k → j < k → i ≠ j → 0 < (rowAt g i).length → 0 < (rowAt g j).length → A i ≠ A j

theorem Copying.start (w : World) (g : List (List Int)) (A : Nat → Option Addr) (C : Nat → Nat) : Copying w (w.alloc (.cells (madeCells #[.slice none 0 0] g.length) 32)) g A C 0 :=
  ⟨(Below.refl _ _).alloc (Nat.le_refl _) _, by simp, (World.rowIs_made w _ _ _).congr (fun j _ => by simp), fun i hi => absurd hi (Nat.not_lt_zero _), fun i hi => absurd hi (Nat.not_lt_zero _), fun i j hi => absurd hi (Nat.not_lt_zero _)⟩

theorem OwnI.setCell {w : World} {lo hi p o : Nat} {A : Option Addr} {l : List Int} (h : OwnI w lo hi A l) (hp : p < lo) (v : Value) : OwnI (w.setCell ⟨p, o, none⟩ v) lo hi A l := by
  intro h0
  obtain ⟨b, N, f, e, h1, h2, h3, h4, h5⟩ := h h0
  exact ⟨b, N, f, e, h1, h2, h3.setOther (by show b ≠ p; omega) _, h4, h5⟩

theorem Copying.next {w wr w2 : World} {g : List (List Int)} {A : Nat → Option Addr} {C : Nat → Nat} {k cn : Nat} {An : Option Addr} (h : Copying w wr g A C k) (hb : Below wr.heap.size wr w2)
    (ho : OwnI w2 wr.heap.size w2.heap.size An (rowAt g k)) (c1 : (rowAt g k).length ≤ cn) (c2 : cn ≤ maxLen) :
    ∃ (A' : Nat → Option Addr) (C' : Nat → Nat), Copying w (w2.setCell ⟨w.heap.size, k, none⟩ (.slice An (rowAt g k).length cn)) g A' C' (k + 1) := by
  have hs := hb.size
  have hz := h.size
  have hss : (w2.setCell ⟨w.heap.size, k, none⟩ (.slice An (rowAt g k).length cn)).heap.size = w2.heap.size := by simp [World.setCell]
  refine ⟨fun i => if i < k then A i else An, fun i => if i < k then C i else cn, (h.bel.trans (hb.mono (by omega))).setCell (Nat.le_refl _) _, by rw [hss]; omega, ((h.top.of_block (hb.block _ hz)).set k _).congr (fun j _ => ?_), fun i hi => ?_, fun i hi => ?_, fun i j hi hj hne p q => ?_⟩
  · by_cases e : j = k
    · subst e; rw [if_pos rfl, if_pos (Nat.lt_succ_self _), if_neg (Nat.lt_irrefl _), if_neg (Nat.lt_irrefl _)]
    · rw [if_neg e]
      by_cases hlt : j < k
      · rw [if_pos hlt, if_pos (by omega), if_pos hlt, if_pos hlt]
      · rw [if_neg hlt, if_neg (by omega)]
  · by_cases e : i < k
    · rw [if_pos e]; exact h.cap i e
    · obtain rfl : i = k := by omega
      rw [if_neg e]; exact ⟨c1, c2⟩
  · rw [hss]
    refine OwnI.setCell ?_ (by omega) _
    by_cases e : i < k
    · rw [if_pos e]; exact ((h.own i e).keep fun b _ h2 => hb.block b h2).more (Nat.le_refl _) hs
    · obtain rfl : i = k := by omega
      rw [if_neg e]; exact ho.more (by omega) (Nat.le_refl _)
  · by_cases ei : i < k
    · by_cases ej : j < k
      · rw [if_pos ei, if_pos ej]; exact h.apart i j ei ej hne p q
      · obtain rfl : j = k := by omega
        rw [if_pos ei, if_neg ej]
        obtain ⟨b1, _, _, e1, _, k1, _⟩ := h.own i ei p
        obtain ⟨b2, _, _, e2, k2, _, _⟩ := ho q
        rw [e1, e2]; intro e; injection e with e; injection e with e; omega
    · obtain rfl : i = k := by omega
      have ej : j < i := by omega
      rw [if_neg ei, if_pos ej]
      obtain ⟨b1, _, _, e1, _, k1, _⟩ := h.own j ej q
      obtain ⟨b2, _, _, e2, k2, _, _⟩ := ho p
      rw [e1, e2]; intro e; injection e with e; injection e with e; omega

theorem Copying.done {w wr : World} {g : List (List Int)} {A : Nat → Option Addr} {C : Nat → Nat} (h : Copying w wr g A C g.length) : OwnR wr w.heap.size wr.heap.size (some ⟨w.heap.size, 0, none⟩) g :=
  fun _ => ⟨w.heap.size, g.length, _, A, C, rfl, Nat.le_refl _, h.size, Nat.le_refl _, h.top, fun i hi => by rw [if_pos hi], ⟨h.cap, fun i hi => (h.own i hi).more (by omega) (Nat.le_refl _), h.apart⟩⟩

/-- a table of the call's own, its capacity that of a slice -/
def NewTableC (w : World) (g : List (List Int)) (e : Ending) (w' : World) : Prop :=
  ∃ (T : Option Addr) (c : Nat), e = .returned (.slice T g.length c) ∧ g.length ≤ c ∧ c ≤ maxLen ∧ Below w.heap.size w w' ∧ OwnR w' w.heap.size w'.heap.size T g

def TabResC (w : World) (g : List (List Int)) (b : Bool) (e : Ending) (w' : World) : Prop :=
  ∃ (T : Option Addr) (c : Nat), e = .returned (.tuple #[.slice T g.length c, .bool b]) ∧ g.length ≤ c ∧ c ≤ maxLen ∧ Below w.heap.size w w' ∧ OwnR w' w.heap.size w'.heap.size T g

theorem NewTableC.plain {w w' : World} {g : List (List Int)} {e : Ending} (h : NewTableC w g e w') : NewTable w g e w' := by
  obtain ⟨T, c, he, _, _, hb, ho⟩ := h; exact ⟨T, c, he, hb, ho⟩

theorem TabResC.plain {w w' : World} {g : List (List Int)} {b : Bool} {e : Ending} (h : TabResC w g b e w') : TabRes w g b e w' := by
  obtain ⟨T, c, he, _, _, hb, ho⟩ := h; exact ⟨T, c, he, hb, ho⟩

theorem TabResC.none {w w' : World} {b : Bool} {x : Value} (hx : x = .tuple #[.slice none 0 0, .bool b]) (hb : Below w.heap.size w w') : TabResC w [] b (.returned x) w' :=
  ⟨Option.none, 0, by rw [hx]; rfl, Nat.le_refl _, Nat.zero_le _, hb, fun h => absurd h (by simp)⟩

/-- a table's outer cells, by functions -/
theorem rows_funs {w : World} {S : Nat → Prop} {b off : Nat} {g : List (List Int)} (h : Rows2 w S (some ⟨b, off, none⟩) g) :
    ∃ (A : Nat → Option Addr) (C : Nat → Nat), CellsV w b off (rowVals A C g) ∧ ∀ i, i < g.length → (rowAt g i).length ≤ C i ∧ C i ≤ maxLen ∧ Ints w S (A i) (rowAt g i) := by
  have key : ∀ i : Nat, ∃ p : Option Addr × Nat, i < g.length → w.cell? ⟨b, off + i, none⟩ = some (.slice p.1 (rowAt g i).length p.2) ∧ (rowAt g i).length ≤ p.2 ∧ p.2 ≤ maxLen ∧ Ints w S p.1 (rowAt g i) := fun i => by
    by_cases hi : i < g.length
    · obtain ⟨_, A, c, h1, h2, h3, h4⟩ := h.row hi
      exact ⟨(A, c), fun _ => ⟨h1, h2, h3, h4⟩⟩
    · exact ⟨(none, 0), fun h => absurd h hi⟩
  refine ⟨fun i => (Classical.choose (key i)).1, fun i => (Classical.choose (key i)).2, fun j u hj => ?_, fun i hi => (Classical.choose_spec (key i) hi).2⟩
  have hlt : j < g.length := by
    have := (List.getElem?_eq_some_iff.1 hj).1; rwa [rowVals_length] at this
  rw [rowVals_get _ _ _ _ hlt] at hj
  injection hj with hj
  subst hj
  exact (Classical.choose_spec (key j) hlt).1

end Go.Proofs.Ytcfmfpkmcngacaa

namespace Go.Proofs.Ytcfmfpkmcngacaa
set_option linter.unusedSimpArgs false
set_option linter.unusedVariables false
open Go.RowKit

/-- what a step leaves: a smaller game of its own, or none -/
def StepResC (w : World) (o : Option (List (List Int))) (e : Ending) (w' : World) : Prop :=
  Below w.heap.size w w' ∧ match o with
  | some t => ∃ (T : Option Addr) (c : Nat), e = .returned (.tuple #[.slice T t.length c, .bool true]) ∧ t.length ≤ c ∧ c ≤ maxLen ∧ OwnR w' w.heap.size w'.heap.size T t
  | none => e = .returned (.tuple #[.slice none 0 0, .bool false])

end Go.Proofs.Ytcfmfpkmcngacaa
