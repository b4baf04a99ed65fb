/- Words for the walks of what draws tables: a reader of a code beside lists and tables of the call's own. -/
import Derived.Test.YtjojilimdhekfaaDrawB
import Derived.Test.YtjojilimdhekfaaOwn2
namespace Go.Proofs.Ytjojilimdhekfaa
set_option linter.unusedSimpArgs false
set_option linter.unusedVariables false
open Go.RowKit

theorem Reader.lt_ {n : Nat} {w : World} {a : Option Addr} {len cap : Nat} {zs : List Int} {p : Int} (h : Reader n w a len cap zs p) : n < w.heap.size := h.lt

/-- a reader stays where its block and what lies before it stay -/
theorem Reader.of_blocks {n : Nat} {w w' : World} {a : Option Addr} {len cap : Nat} {zs : List Int} {p : Int} (h : Reader n w a len cap zs p) (hk : ∀ b, b ≤ n → w'.heap[b]? = w.heap[b]?) (hs : w.heap.size ≤ w'.heap.size) : Reader n w' a len cap zs p :=
  ⟨(World.cell?_of_block (w := w) (hk n (Nat.le_refl _))).trans h.code, (World.cell?_of_block (w := w) (hk n (Nat.le_refl _))).trans h.place, (World.frozen?_of_block (w := w) (hk n (Nat.le_refl _))).trans h.free,
    Nat.lt_of_lt_of_le h.lt hs, h.len_le, h.p_lo, h.p_hi, by
      rcases h.bytes with h | ⟨b, off, ha, hlt, hc⟩
      · exact .inl h
      · exact .inr ⟨b, off, ha, hlt, fun i hi => ⟨(World.cell?_of_block (w := w) (hk b (Nat.le_of_lt hlt))).trans (hc i hi).1, (hc i hi).2⟩⟩⟩

theorem Reader.below {n B : Nat} {w w' : World} {a : Option Addr} {len cap : Nat} {zs : List Int} {p : Int} (h : Reader n w a len cap zs p) (hb : Below B w w') (hn : n < B) : Reader n w' a len cap zs p :=
  h.of_blocks (fun b hb' => hb.block b (by omega)) hb.size

theorem Kept.of_lo {n B : Nat} {w w' : World} (h : Below B w w') (hB : w.heap.size ≤ B) : Kept n w w' := ⟨h.os, h.tape, h.output, h.size, fun k hk _ => h.block k (by omega)⟩

/-- what a call owns from lo on stays where only block n < lo may turn -/
theorem Grows.kept {n : Nat} {w w' : World} {base : Nat} {v : Value} {l : List Int} (h : Grows w base v l) (hk : Kept n w w') (hn : n < base) : Grows w' base v l :=
  ownsRow_of_block h fun k hk' => hk.block k (World.ownsRow.lt h k hk').2 (by have := (World.ownsRow.lt h k hk').1; omega)

theorem OwnI.kept {n : Nat} {w w' : World} {lo hi : Nat} {A : Option Addr} {l : List Int} (h : OwnI w lo hi A l) (hk : Kept n w w') (hn : n < lo) (hh : hi ≤ w.heap.size) : OwnI w' lo hi A l := h.keep fun b h1 h2 => hk.block b (by omega) (by omega)

theorem OwnR.kept {n : Nat} {w w' : World} {lo hi : Nat} {A : Option Addr} {g : List (List Int)} (h : OwnR w lo hi A g) (hk : Kept n w w') (hn : n < lo) (hh : hi ≤ w.heap.size) : OwnR w' lo hi A g := h.keep fun b h1 h2 => hk.block b (by omega) (by omega)

theorem GrowsR.kept {n : Nat} {w w' : World} {base hi : Nat} {v : Value} {A : Nat → Option Addr} {C : Nat → Nat} {g : List (List Int)} (h : GrowsR w base hi v A C g) (hk : Kept n w w') (hn : n < base) : GrowsR w' base hi v A C g :=
  ⟨ownsRow_of_block h.top fun k hk' => hk.block k (World.ownsRow.lt h.top k hk').2 (by have := (World.ownsRow.lt h.top k hk').1; omega),
    h.rows.keep fun b h1 h2 => hk.block b (by have := h.hile; omega) (by omega), h.hib, Nat.le_trans h.hile hk.size⟩

/-- behind an append to what the call owns -/
theorem Kept.appended {n : Nat} {a w w1 : World} {v : Value} {o : Obj} (h : Kept n a w) (hg : (w.alloc o).grownBy w1 v.ownBlock) (hv : ∀ k, v.ownBlock = some k → a.heap.size ≤ k) : Kept n a w1 :=
  ⟨hg.os.trans h.os, hg.tape.trans h.tape, hg.output.trans h.output, Nat.le_trans h.size (Nat.le_trans (by simp) hg.size), fun k hk hn => by
    have hs := h.size
    rw [hg.block k (by simp; omega) (fun e => by have := hv k e.symm; omega), Below.heap_alloc _ _ _ (by omega)]; exact h.block k hk hn⟩

theorem Reader.appended {n : Nat} {w w1 : World} {v : Value} {o : Obj} {a : Option Addr} {len cap : Nat} {zs : List Int} {p : Int} (h : Reader n w a len cap zs p) (hg : (w.alloc o).grownBy w1 v.ownBlock) (hv : ∀ k, v.ownBlock = some k → n < k) : Reader n w1 a len cap zs p :=
  h.of_blocks (fun b hb => by
    have := h.lt
    rw [hg.block b (by simp; omega) (fun e => by have := hv b e.symm; omega), Below.heap_alloc _ _ _ (by omega)]) (Nat.le_trans (by simp) hg.size)

theorem Grows.lo {w : World} {base : Nat} {v : Value} {l : List Int} (h : Grows w base v l) : ∀ k, v.ownBlock = some k → base ≤ k := fun k hk => (World.ownsRow.lt h k hk).1

theorem GrowsR.lo {w : World} {base hi : Nat} {v : Value} {A : Nat → Option Addr} {C : Nat → Nat} {g : List (List Int)} (h : GrowsR w base hi v A C g) : ∀ k, v.ownBlock = some k → base ≤ k := fun k hk => (World.ownsRow.lt h.top k hk).1

/-- while a table is drawn: k rows of so many numbers are there -/
def TabSt (n : Nat) (w : World) (a : Option Addr) (len cap : Nat) (zs : List Int) (p : Int) (cols : Nat) (v : Value) (k : Nat) (wr : World) : Prop :=
  ∃ (g : List (List Int)) (A : Nat → Option Addr) (C : Nat → Nat) (p' : Int), g.length = k ∧ (∀ i, i < k → (rowAt g i).length = cols) ∧ GrowsR wr w.heap.size wr.heap.size v A C g ∧ Kept n w wr ∧ Reader n wr a len cap zs p' ∧ p ≤ p' ∧ p' ≤ p + 32 * (k : Int)

/-- while a row is drawn -/
def RowSt (n : Nat) (wo : World) (a : Option Addr) (len cap : Nat) (zs : List Int) (p : Int) (v : Value) (m : Nat) (wr : World) : Prop :=
  ∃ (l : List Int) (p' : Int), l.length = m ∧ Grows wr wo.heap.size v l ∧ Kept n wo wr ∧ Reader n wr a len cap zs p' ∧ p ≤ p' ∧ p' ≤ p + 2 * (m : Int)

/-- what a table drawn is -/
def DrawnG (n : Nat) (w : World) (a : Option Addr) (len cap : Nat) (zs : List Int) (p : Int) (e : Ending) (w' : World) : Prop :=
  ∃ (g : List (List Int)) (T : Option Addr) (c : Nat) (p' : Int), e = .returned (.slice T g.length c) ∧ g.length ≤ c ∧ c ≤ maxLen ∧ g.length ≤ 17 ∧ (∀ i, i < g.length → (rowAt g i).length ≤ 16) ∧
    Kept n w w' ∧ Reader n w' a len cap zs p' ∧ p ≤ p' ∧ p' ≤ p + 600 ∧ OwnR w' w.heap.size w'.heap.size T g

/-- one of three numbers -/
theorem tab3' {w1 : World} {k : Nat} {v : Int} (h0 : w1.cell? ⟨k, 0, none⟩ = some (.int .i64 2)) (h1 : w1.cell? ⟨k, 1, none⟩ = some (.int .i64 3)) (h2 : w1.cell? ⟨k, 2, none⟩ = some (.int .i64 10)) (hv0 : 0 ≤ v) (hv1 : v < 3) :
    ∃ high : Int, 1 ≤ high ∧ high ≤ 10 ∧ w1.cell? ⟨k, v.toNat, none⟩ = some (.int .i64 high) := by
  have : v = 0 ∨ v = 1 ∨ v = 2 := by omega
  rcases this with rfl | rfl | rfl
  · exact ⟨2, by omega, by omega, h0⟩
  · exact ⟨3, by omega, by omega, h1⟩
  · exact ⟨10, by omega, by omega, h2⟩

theorem tab2 {v : Int} (h0 : 0 ≤ v) (h1 : v < 2) : ∃ y : Int, (∀ (w : World) (k : Nat), w.cell? ⟨k, 0, none⟩ = some (.int .i64 (-10)) → w.cell? ⟨k, 1, none⟩ = some (.int .i64 10) → w.cell? ⟨k, v.toNat, none⟩ = some (.int .i64 y)) ∧
    ([Value.int .i64 (-10), Value.int .i64 10] : List Value)[v.toNat]? = some (.int .i64 y) := by
  have : v = 0 ∨ v = 1 := by omega
  rcases this with rfl | rfl
  · exact ⟨-10, fun w k h _ => h, rfl⟩
  · exact ⟨10, fun w k _ h => h, rfl⟩

/-- the first number of a table is written over -/
def poke (g : List (List Int)) (x : Int) : List (List Int) := g.set 0 ((rowAt g 0).set 0 x)

theorem poke_length (g : List (List Int)) (x : Int) : (poke g x).length = g.length := by simp [poke]

theorem rowAt_poke (g : List (List Int)) (x : Int) (i : Nat) (h : i < g.length) : rowAt (poke g x) i = if i = 0 then (rowAt g 0).set 0 x else rowAt g i := by
  unfold poke
  by_cases e : i = 0
  · subst e; rw [if_pos rfl, rowAt_eq _ _ (by simpa using h)]; simp
  · rw [if_neg e, rowAt_eq _ _ (by simpa using h), rowAt_eq _ _ h]; simp [List.getElem_set, Ne.symm e]

theorem nth_set (l : List Int) (x : Int) (i : Nat) (h : i < l.length) : nth (l.set 0 x) i = if i = 0 then x else nth l i := by
  by_cases e : i = 0
  · subst e; rw [if_pos rfl, nth_eq _ _ (by simpa using h)]; simp
  · rw [if_neg e, nth_eq _ _ (by simpa using h), nth_eq _ _ h]; simp [List.getElem_set, Ne.symm e]

theorem poke_row_length (g : List (List Int)) (x : Int) (i : Nat) (h : i < g.length) : (rowAt (poke g x) i).length = (rowAt g i).length := by
  rw [rowAt_poke g x i h]
  split
  · rename_i e; subst e; simp
  · rfl

theorem OwnR.poke {w : World} {lo hi : Nat} {b0 : Nat} {T : Option Addr} {g : List (List Int)} {c : Nat} (h : OwnR w lo hi T g) (h0 : 0 < g.length) (hr : 0 < (rowAt g 0).length) (x : Int)
    (hT : ∀ b, T = some ⟨b, 0, none⟩ → w.cell? ⟨b, 0, none⟩ = some (.slice (some ⟨b0, 0, none⟩) (rowAt g 0).length c)) : OwnR (w.setCell ⟨b0, 0, none⟩ (.int .i64 x)) lo hi T (poke g x) := by
  obtain ⟨b, N, f, A, C, rfl, h1, h2, h3, h4, h5, h6⟩ := h h0
  have hA0 : A 0 = some ⟨b0, 0, none⟩ := by
    have e1 := hT b rfl
    rw [h4.cell (by omega), h5 0 h0] at e1
    injection e1 with e1; injection e1
  obtain ⟨b0', N0, f0, e0, k1, k2, k3, k4, k5⟩ := h6.own 0 h0 hr
  rw [hA0] at e0; injection e0 with e0; injection e0 with e0; subst e0
  intro _
  refine ⟨b, N, f, A, C, rfl, h1, h2, by rw [poke_length]; exact h3, h4.setOther (Ne.symm (rowIs_ne' k3 h4)) _, fun i hi => ?_, ⟨fun i hi => ?_, fun i hi => ?_, fun i j hi hj hne p q => ?_⟩⟩
  · rw [poke_length] at hi; rw [poke_row_length g x i hi]; exact h5 i hi
  · rw [poke_length] at hi; rw [poke_row_length g x i hi]; exact h6.cap i hi
  · rw [poke_length] at hi
    by_cases e : i = 0
    · subst e
      intro _
      refine ⟨b0, N0, _, hA0, k1, k2, k3.set 0 _, by rw [poke_row_length g x 0 hi]; exact k4, fun j hj => ?_⟩
      rw [poke_row_length g x 0 hi] at hj
      rw [rowAt_poke g x 0 hi, if_pos rfl, nth_set _ _ _ hj]
      by_cases ej : j = 0
      · rw [if_pos ej, if_pos ej]
      · rw [if_neg ej, if_neg ej]; exact k5 j hj
    · rw [rowAt_poke g x i hi, if_neg e]
      intro hp
      obtain ⟨bi, Ni, fi, ei, m1, m2, m3, m4, m5⟩ := h6.own i hi hp
      refine ⟨bi, Ni, fi, ei, m1, m2, m3.setOther (fun e' => ?_) _, m4, m5⟩
      exact h6.apart i 0 hi h0 e hp hr (by rw [ei, hA0, show bi = b0 from e'])
  · rw [poke_length] at hi hj
    rw [poke_row_length g x i hi] at p
    rw [poke_row_length g x j hj] at q
    exact h6.apart i j hi hj hne p q

end Go.Proofs.Ytjojilimdhekfaa
