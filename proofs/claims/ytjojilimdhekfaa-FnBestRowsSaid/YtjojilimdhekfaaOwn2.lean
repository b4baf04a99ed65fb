/- Words for memory: a table that grows by append, each of its rows a list of the call's own. -/
import Derived.Test.YtjojilimdhekfaaTurn
namespace Go.Proofs.Ytjojilimdhekfaa
set_option linter.unusedSimpArgs false
set_option linter.unusedVariables false
open Go.RowKit

/-- the rows of a table as values -/
def rowVals (A : Nat → Option Addr) (C : Nat → Nat) (g : List (List Int)) : List Value := (List.range g.length).map fun i => .slice (A i) (rowAt g i).length (C i)

theorem rowVals_length (A : Nat → Option Addr) (C : Nat → Nat) (g : List (List Int)) : (rowVals A C g).length = g.length := by simp [rowVals]

theorem rowVals_get (A : Nat → Option Addr) (C : Nat → Nat) (g : List (List Int)) (i : Nat) (h : i < g.length) : (rowVals A C g)[i]? = some (.slice (A i) (rowAt g i).length (C i)) := by simp [rowVals, h]

/-- what append has made so far: a table whose rows lie below block hi -/
structure GrowsR (w : World) (base hi : Nat) (v : Value) (A : Nat → Option Addr) (C : Nat → Nat) (g : List (List Int)) : Prop where
  top : w.ownsRow base 24 1 v g.length (rowVals A C g)
  rows : RowsOwn w base hi A C g
  hib : ∀ k, v.ownBlock = some k → k < hi
  hile : hi ≤ w.heap.size

theorem GrowsR.nil (w : World) {base hi : Nat} (h : hi ≤ w.heap.size) (A : Nat → Option Addr) (C : Nat → Nat) : GrowsR w base hi (.slice none 0 0) A C [] :=
  ⟨World.ownsRow_nil w base _ _, ⟨fun i hi => by simp at hi, fun i hi => by simp at hi, fun i j hi => by simp at hi⟩, (fun k hk => by cases hk), h⟩

theorem GrowsR.lit (w : World) {base : Nat} (hb : base ≤ w.heap.size) (A : Nat → Option Addr) (C : Nat → Nat) : GrowsR (w.alloc (.cells #[] 24)) base (w.heap.size + 1) (.slice (some ⟨w.heap.size, 0, none⟩) 0 0) A C [] :=
  ⟨World.ownsRow_lit w #[] 0 hb (Nat.zero_le _) rfl, ⟨fun i hi => by simp at hi, fun i hi => by simp at hi, fun i j hi => by simp at hi⟩, fun k hk => by simp [Value.ownBlock] at hk; omega, by simp⟩

theorem ownsRow_of_block {w w' : World} {base : Nat} {t : TypeId} {s n : Nat} {v : Value} {xs : List Value} (h : w.ownsRow base t s v n xs) (hk : ∀ k, v.ownBlock = some k → w'.heap[k]? = w.heap[k]?) : w'.ownsRow base t s v n xs := by
  obtain ⟨h1, ⟨rfl, h2⟩ | ⟨b, cap, cur, rfl, h3, h4, h5, h6, h7, h8⟩⟩ := h
  · exact ⟨h1, .inl ⟨rfl, h2⟩⟩
  · exact ⟨h1, .inr ⟨b, cap, cur, rfl, h3, (hk b rfl).trans h4, h5, h6, h7, h8⟩⟩

theorem GrowsR.keep {w w' : World} {base hi : Nat} {v : Value} {A : Nat → Option Addr} {C : Nat → Nat} {g : List (List Int)} (h : GrowsR w base hi v A C g) (hb : Below hi w w') : GrowsR w' base hi v A C g :=
  ⟨ownsRow_of_block h.top fun k hk => hb.block k (h.hib k hk), h.rows.keep fun b _ h2 => hb.block b h2, h.hib, Nat.le_trans h.hile hb.size⟩

theorem GrowsR.drewN {w : World} {base hi : Nat} {v : Value} {A : Nat → Option Addr} {C : Nat → Nat} {g : List (List Int)} (h : GrowsR w base hi v A C g) (n : Nat) : GrowsR (w.drewN n) base hi v A C g := h.keep (below_drewN (Below.refl _ _) n)

theorem GrowsR.up {w : World} {base hi hi' : Nat} {v : Value} {A : Nat → Option Addr} {C : Nat → Nat} {g : List (List Int)} (h : GrowsR w base hi v A C g) (h1 : hi ≤ hi') (h2 : hi' ≤ w.heap.size) : GrowsR w base hi' v A C g :=
  ⟨h.top, ⟨h.rows.cap, fun i hi => (h.rows.own i hi).more (Nat.le_refl _) h1, h.rows.apart⟩, fun k hk => Nat.lt_of_lt_of_le (h.hib k hk) h1, h2⟩

/-- the outer row as one block -/
theorem GrowsR.top_row {w : World} {base hi : Nat} {v : Value} {A : Nat → Option Addr} {C : Nat → Nat} {g : List (List Int)} (h : GrowsR w base hi v A C g) :
    (v = .slice none 0 0 ∧ g = []) ∨ ∃ (b cap : Nat) (f : Nat → Value), v = .slice (some ⟨b, 0, none⟩) g.length cap ∧ base ≤ b ∧ g.length ≤ cap ∧ cap ≤ maxLen ∧ w.rowIs b 24 cap f ∧ ∀ i, i < g.length → f i = .slice (A i) (rowAt g i).length (C i) := by
  obtain ⟨h1, ⟨rfl, h2⟩ | ⟨b, cap, cur, rfl, h3, h4, h5, h6, h7, h8⟩⟩ := h.top
  · exact .inl ⟨rfl, List.eq_nil_of_length_eq_zero h2⟩
  · have hcs : cur.size = cap := by rw [h7, Nat.mul_one]
    refine .inr ⟨b, cap, fun i => cur.getD i undef, rfl, h3, h5, h6, ⟨cur, h4, hcs, fun i hi => by rw [← hcs] at hi; simp [hi]⟩, fun i hi => ?_⟩
    have e := rowVals_get A C g i hi
    rw [← h8, List.getElem?_take, if_pos (by omega)] at e
    have : cur[i]? = some (.slice (A i) (rowAt g i).length (C i)) := by simpa using e
    simp [Array.getD_eq_getD_getElem?, this]

theorem GrowsR.table {w : World} {base hi : Nat} {v : Value} {A : Nat → Option Addr} {C : Nat → Nat} {g : List (List Int)} (h : GrowsR w base hi v A C g) :
    ∃ (T : Option Addr) (c : Nat), v = .slice T g.length c ∧ g.length ≤ c ∧ c ≤ maxLen ∧ OwnR w base hi T g := by
  rcases h.top_row with ⟨rfl, rfl⟩ | ⟨b, cap, f, rfl, h1, h2, h3, h4, h5⟩
  · exact ⟨none, 0, rfl, Nat.le_refl _, Nat.zero_le _, fun h0 => absurd h0 (by simp)⟩
  · exact ⟨_, cap, rfl, h2, h3, fun _ => ⟨b, cap, f, A, C, rfl, h1, h.hib b rfl, h2, h4, h5, h.rows⟩⟩

/-- behind an append of one row -/
theorem GrowsR.snoc {w w2 : World} {base S : Nat} {v v' : Value} {A : Nat → Option Addr} {C : Nat → Nat} {g : List (List Int)} {l : List Int} {An : Option Addr} {cn : Nat} {o : Obj}
    (h : GrowsR w base S v A C g) (hl : OwnI w S w.heap.size An l) (hc1 : l.length ≤ cn) (hc2 : cn ≤ maxLen) (hbS : base ≤ S)
    (hown : w2.ownsRow base 24 1 v' (g.length + 1) (rowVals A C g ++ [.slice An l.length cn])) (hg : (w.alloc o).grownBy w2 v.ownBlock) (hat : v'.ownBlock = v.ownBlock ∨ v'.ownBlock = some (w.heap.size + 1)) :
    ∃ (A' : Nat → Option Addr) (C' : Nat → Nat), GrowsR w2 base w2.heap.size v' A' C' (g ++ [l]) := by
  have hsz := hg.size
  simp at hsz
  have hS := h.hile
  -- the blocks of numbers stay
  have stays : ∀ (lo hi : Nat) (A0 : Option Addr) (l0 : List Int), hi ≤ w.heap.size → OwnI w lo hi A0 l0 → OwnI w2 lo hi A0 l0 := by
    intro lo hi A0 l0 hhi ho h0
    obtain ⟨b, N, f, e, k1, k2, k3, k4, k5⟩ := ho h0
    refine ⟨b, N, f, e, k1, k2, k3.of_block ?_, k4, k5⟩
    have hne : some b ≠ v.ownBlock := by
      intro e'
      rcases h.top_row with ⟨rfl, _⟩ | ⟨b', cap, f', rfl, _, _, _, h4, _⟩
      · cases e'
      · simp [Value.ownBlock] at e'
        exact rowIs_ne' k3 h4 e'
    rw [hg.block b (by simp; omega) hne, Below.heap_alloc _ _ _ (by omega)]
  have hget : ∀ i, i < g.length → rowAt (g ++ [l]) i = rowAt g i := fun i hi => rowAt_snoc_lt g l i hi
  have hget' : rowAt (g ++ [l]) g.length = l := rowAt_snoc_eq g l
  refine ⟨fun i => if i < g.length then A i else An, fun i => if i < g.length then C i else cn, ?_, ⟨fun i hi => ?_, fun i hi => ?_, fun i j hi hj hne p q => ?_⟩, fun k hk => ?_, Nat.le_refl _⟩
  · have e : rowVals (fun i => if i < g.length then A i else An) (fun i => if i < g.length then C i else cn) (g ++ [l]) = rowVals A C g ++ [.slice An l.length cn] := by
      unfold rowVals
      rw [List.length_append, List.length_singleton, List.range_succ, List.map_append]
      congr 1
      · refine List.map_congr_left fun i hi => ?_
        have hi := List.mem_range.1 hi
        simp only [if_pos hi, hget i hi]
      · simp [hget']
    rw [e, List.length_append]; exact hown
  · rw [List.length_append, List.length_singleton] at hi
    by_cases e : i < g.length
    · simp only [if_pos e]; rw [hget i e]; exact h.rows.cap i e
    · obtain rfl : i = g.length := by omega
      simp only [if_neg e]; rw [hget']; exact ⟨hc1, hc2⟩
  · rw [List.length_append, List.length_singleton] at hi
    by_cases e : i < g.length
    · simp only [if_pos e]; rw [hget i e]; exact (stays _ _ _ _ hS (h.rows.own i e)).more (Nat.le_refl _) (by omega)
    · obtain rfl : i = g.length := by omega
      simp only [if_neg e]; rw [hget']; exact (stays _ _ _ _ (Nat.le_refl _) hl).more hbS (by omega)
  · rw [List.length_append, List.length_singleton] at hi hj
    by_cases ei : i < g.length
    · by_cases ej : j < g.length
      · simp only [if_pos ei, if_pos ej]
        rw [hget i ei] at p
        rw [hget j ej] at q
        exact h.rows.apart i j ei ej hne p q
      · obtain rfl : j = g.length := by omega
        simp only [if_pos ei, if_neg ej]
        rw [hget i ei] at p
        rw [hget'] at q
        obtain ⟨b1, _, _, e1, _, k1, _⟩ := h.rows.own i ei p
        obtain ⟨b2, _, _, e2, k2, _, _⟩ := hl q
        rw [e1, e2]; intro e; injection e with e; injection e with e; omega
    · obtain rfl : i = g.length := by omega
      have ej : j < g.length := by omega
      simp only [if_neg ei, if_pos ej]
      rw [hget j ej] at q
      rw [hget'] at p
      obtain ⟨b1, _, _, e1, _, k1, _⟩ := h.rows.own j ej q
      obtain ⟨b2, _, _, e2, k2, _, _⟩ := hl p
      rw [e1, e2]; intro e; injection e with e; injection e with e; omega
  · rcases hat with e | e
    · rw [e] at hk; have := h.hib k hk; omega
    · rw [e] at hk; injection hk with hk
      have := (World.ownsRow.lt hown) k (by rw [e, hk])
      exact this.2

theorem Grows.own' {w : World} {base : Nat} {v : Value} {l : List Int} (h : Grows w base v l) : ∃ (A : Option Addr) (c : Nat), v = .slice A l.length c ∧ l.length ≤ c ∧ c ≤ maxLen ∧ OwnI w base w.heap.size A l := by
  obtain ⟨A, c, e, h1, h2⟩ := h.own
  refine ⟨A, c, e, h1, ?_, h2⟩
  obtain ⟨_, ⟨e', _⟩ | ⟨b, cap, cur, e', _, _, _, h6, _⟩⟩ := h
  · rw [e] at e'; injection e' with _ _ e'; omega
  · rw [e] at e'; injection e' with _ _ e'; omega

/-- what append leaves alone -/
theorem GrowsR.below {w w1 W : World} {B base hi : Nat} {v : Value} {A : Nat → Option Addr} {C : Nat → Nat} {g : List (List Int)} {o : Obj} (h : GrowsR w base hi v A C g) (hg : (w.alloc o).grownBy w1 v.ownBlock) (hb : Below B W w) (hB : B ≤ base) (hw : B ≤ w.heap.size) : Below B W w1 :=
  (hb.alloc hw o).grown hg (by simp; omega) (fun k hk => by have := (World.ownsRow.lt h.top) k hk; omega)

theorem GrowsR.alloc {w : World} {base hi : Nat} {v : Value} {A : Nat → Option Addr} {C : Nat → Nat} {g : List (List Int)} (h : GrowsR w base hi v A C g) (o : Obj) : (w.alloc o).ownsRow base 24 1 v g.length (rowVals A C g) := World.ownsRow.alloc h.top o

/-- a column with the other signs, its first m numbers; the first k such columns -/
def negCol (g : List (List Int)) (k : Nat) : Nat → List Int
  | 0 => []
  | m + 1 => negCol g k m ++ [-nth (rowAt g m) k]

def negTab (g : List (List Int)) : Nat → List (List Int)
  | 0 => []
  | k + 1 => negTab g k ++ [negCol g k g.length]

theorem negCol_length (g : List (List Int)) (k m : Nat) : (negCol g k m).length = m := by
  induction m with
  | zero => rfl
  | succ m ih => simp [negCol, ih]

theorem negTab_length (g : List (List Int)) (k : Nat) : (negTab g k).length = k := by
  induction k with
  | zero => rfl
  | succ k ih => simp [negTab, ih]

theorem nth_negCol (g : List (List Int)) (k m i : Nat) (h : i < m) : nth (negCol g k m) i = -nth (rowAt g i) k := by
  induction m with
  | zero => omega
  | succ m ih =>
    simp only [negCol]
    by_cases e : i < m
    · rw [nth_snoc_lt _ _ _ (by rw [negCol_length]; exact e), ih e]
    · obtain rfl : i = m := by omega
      have := nth_snoc_eq (negCol g k i) (-nth (rowAt g i) k)
      rwa [negCol_length] at this

theorem rowAt_negTab (g : List (List Int)) (k j : Nat) (h : j < k) : rowAt (negTab g k) j = negCol g j g.length := by
  induction k with
  | zero => omega
  | succ k ih =>
    simp only [negTab]
    by_cases e : j < k
    · rw [rowAt_snoc_lt _ _ _ (by rw [negTab_length]; exact e), ih e]
    · obtain rfl : j = k := by omega
      have := rowAt_snoc_eq (negTab g j) (negCol g j g.length)
      rwa [negTab_length] at this

theorem negTab_turnedL (g : List (List Int)) : negTab g (rowAt g 0).length = turnedL g := by
  refine ext_rowAt (by rw [negTab_length, turnedL_length]) (fun j hj => ?_)
  rw [negTab_length] at hj
  rw [rowAt_negTab _ _ _ hj]
  refine ext_nth (by rw [negCol_length, turnedL_row_length g j hj]) (fun i hi => ?_)
  rw [negCol_length] at hi
  rw [nth_negCol _ _ _ _ hi, nth_turnedL g j i hj hi]

end Go.Proofs.Ytjojilimdhekfaa
