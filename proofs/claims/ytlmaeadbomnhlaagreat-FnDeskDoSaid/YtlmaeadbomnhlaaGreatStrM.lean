/- Words for memory: slices of strings, slices of deeds; such lists that grow by append. -/
import Derived.Test.YtlmaeadbomnhlaaGreatMC
import Derived.Test.YtlmaeadbomnhlaaGreatQA
namespace Go.Proofs.YtlmaeadbomnhlaaGreat
set_option linter.unusedSimpArgs false
set_option linter.unusedVariables false
open Go.RowKit

/-- the cells of a slice, one after the other; its block is one of S -/
def CellsAt (w : World) (S : Nat → Prop) (A : Option Addr) (n : Nat) (f : Nat → Value) : Prop :=
  0 < n → ∃ b off : Nat, A = some ⟨b, off, none⟩ ∧ S b ∧ ∀ i, i < n → w.cell? ⟨b, off + i, none⟩ = some (f i)

theorem CellsAt.keep {w w' : World} {S : Nat → Prop} {A : Option Addr} {n : Nat} {f : Nat → Value} (h : CellsAt w S A n f) (hk : ∀ b, S b → w'.heap[b]? = w.heap[b]?) : CellsAt w' S A n f := by
  intro h0
  obtain ⟨b, off, e, hb, hc⟩ := h h0
  exact ⟨b, off, e, hb, fun i hi => (World.cell?_of_block (w := w) (hk b hb)).trans (hc i hi)⟩

theorem CellsAt.mono {w : World} {S T : Nat → Prop} {A : Option Addr} {n : Nat} {f : Nat → Value} (h : CellsAt w S A n f) (hk : ∀ b, S b → T b) : CellsAt w T A n f := by
  intro h0
  obtain ⟨b, off, e, hb, hc⟩ := h h0
  exact ⟨b, off, e, hk b hb, hc⟩

theorem CellsAt.below {B : Nat} {w w' : World} {A : Option Addr} {n : Nat} {f : Nat → Value} (h : CellsAt w (· < B) A n f) (hb : Below B w w') : CellsAt w' (· < B) A n f := h.keep fun b hS => hb.block b hS

theorem CellsAt.lt {B B' : Nat} {w : World} {A : Option Addr} {n : Nat} {f : Nat → Value} (h : CellsAt w (· < B) A n f) (hB : B ≤ B') : CellsAt w (· < B') A n f := h.mono fun b (hb : b < B) => Nat.lt_of_lt_of_le hb hB

/-- a text as a value -/
def strV (s : List UInt8) : Value := .string ⟨s.toArray⟩

def strAt (L : List (List UInt8)) (i : Nat) : List UInt8 := L.getD i []

def strs (L : List (List UInt8)) : List Value := L.map strV

theorem strAt_eq (L : List (List UInt8)) (i : Nat) (h : i < L.length) : strAt L i = L[i] := by unfold strAt; simp [h]

theorem strs_get (L : List (List UInt8)) (i : Nat) (h : i < L.length) : (strs L)[i]? = some (strV (strAt L i)) := by rw [strAt_eq L i h]; simp [strs, h]

theorem strs_snoc (L : List (List UInt8)) (s : List UInt8) : strs (L ++ [s]) = strs L ++ [strV s] := by simp [strs]

/-- the slice at A reads as the texts L -/
def Strs (w : World) (S : Nat → Prop) (A : Option Addr) (L : List (List UInt8)) : Prop := CellsAt w S A L.length (fun i => strV (strAt L i))

/-- what append has made of texts so far -/
def GrowsS (w : World) (base : Nat) (v : Value) (L : List (List UInt8)) : Prop := w.ownsRow base 9 1 v L.length (strs L)

theorem GrowsS.lit (w : World) {base : Nat} (hb : base ≤ w.heap.size) : GrowsS (w.alloc (.cells #[] 9)) base (.slice (some ⟨w.heap.size, 0, none⟩) 0 0) [] :=
  World.ownsRow_lit w #[] 0 hb (Nat.zero_le _) rfl

theorem GrowsS.alloc {w : World} {base : Nat} {v : Value} {L : List (List UInt8)} (h : GrowsS w base v L) (o : Obj) : GrowsS (w.alloc o) base v L := World.ownsRow.alloc h o

theorem GrowsS.keep {w w' : World} {base : Nat} {v : Value} {L : List (List UInt8)} (h : GrowsS w base v L) (hb : Below w.heap.size w w') : GrowsS w' base v L :=
  ownsRow_of_block h fun k hk => hb.block k (World.ownsRow.lt h k hk).2

theorem GrowsS.snoc {w1 : World} {base : Nat} {v' : Value} {L : List (List UInt8)} {s : List UInt8} (h : w1.ownsRow base 9 1 v' (L.length + 1) (strs L ++ [strV s])) : GrowsS w1 base v' (L ++ [s]) := by
  unfold GrowsS; rw [strs_snoc, List.length_append]; exact h

theorem GrowsS.below {w w1 W : World} {B base : Nat} {v : Value} {L : List (List UInt8)} {o : Obj} (h : GrowsS w base v L) (hg : (w.alloc o).grownBy w1 v.ownBlock) (hb : Below B W w) (hB : B ≤ base) (hw : B ≤ w.heap.size) : Below B W w1 :=
  (hb.alloc hw o).grown hg (by simp; omega) (fun k hk => by have := (World.ownsRow.lt h) k hk; omega)

/-- texts of the call's own -/
def OwnS (w : World) (lo hi : Nat) (A : Option Addr) (L : List (List UInt8)) : Prop :=
  0 < L.length → ∃ (b N : Nat) (f : Nat → Value), A = some ⟨b, 0, none⟩ ∧ lo ≤ b ∧ b < hi ∧ w.rowIs b 9 N f ∧ L.length ≤ N ∧ ∀ i, i < L.length → f i = strV (strAt L i)

theorem OwnS.strs {w : World} {lo hi : Nat} {A : Option Addr} {L : List (List UInt8)} (h : OwnS w lo hi A L) : Strs w (fun b => lo ≤ b ∧ b < hi) A L := by
  intro h0
  obtain ⟨b, N, f, e, h1, h2, h3, h4, h5⟩ := h h0
  exact ⟨b, 0, e, ⟨h1, h2⟩, fun i hi => by rw [Nat.zero_add, h3.cell (by omega), h5 i hi]⟩

theorem GrowsS.own {w : World} {base : Nat} {v : Value} {L : List (List UInt8)} (h : GrowsS w base v L) : ∃ (A : Option Addr) (c : Nat), v = .slice A L.length c ∧ L.length ≤ c ∧ OwnS w base w.heap.size A L := by
  obtain ⟨h1, ⟨rfl, h2⟩ | ⟨b, cap, cur, rfl, h3, h4, h5, h6, h7, h8⟩⟩ := h
  · exact ⟨none, 0, by rw [h2], by omega, fun h0 => by omega⟩
  · refine ⟨_, cap, rfl, h5, fun _ => ⟨b, cur.size, fun i => cur.getD i undef, rfl, h3, ?_, ⟨cur, h4, rfl, fun i hi => by simp [hi]⟩, by omega, fun i hi => ?_⟩⟩
    · obtain ⟨hlt, _⟩ := Array.getElem?_eq_some_iff.1 h4; exact hlt
    · have e := strs_get L i hi
      rw [← h8, List.getElem?_take, if_pos (by omega)] at e
      have : cur[i]? = some (strV (strAt L i)) := by simpa using e
      simp [Array.getD_eq_getD_getElem?, this]

def ddNo : Dd := ⟨0, 0, 0, 0⟩

def ddAt (l : List Dd) (i : Nat) : Dd := l.getD i ddNo

def ddVals (l : List Dd) : List Value := l.flatMap fun a => [.int .i64 a.kind, .int .i64 a.row, .int .i64 a.col, .int .i64 a.num]

theorem ddVals_snoc (l : List Dd) (a : Dd) : ddVals (l ++ [a]) = ddVals l ++ [.int .i64 a.kind, .int .i64 a.row, .int .i64 a.col, .int .i64 a.num] := by unfold ddVals; rw [List.flatMap_append]; simp

theorem ddVals_at (l : List Dd) : ∀ (i : Nat), i < l.length → (ddVals l)[i * 4]? = some (.int .i64 (ddAt l i).kind) ∧ (ddVals l)[i * 4 + 1]? = some (.int .i64 (ddAt l i).row) ∧ (ddVals l)[i * 4 + 2]? = some (.int .i64 (ddAt l i).col) ∧ (ddVals l)[i * 4 + 3]? = some (.int .i64 (ddAt l i).num) := by
  induction l with
  | nil => intro i hi; simp at hi
  | cons a l ih =>
    intro i hi
    have hv : ddVals (a :: l) = [.int .i64 a.kind, .int .i64 a.row, .int .i64 a.col, .int .i64 a.num] ++ ddVals l := rfl
    rw [hv]
    rcases Nat.eq_zero_or_pos i with rfl | h0
    · exact ⟨rfl, rfl, rfl, rfl⟩
    · obtain ⟨j, rfl⟩ : ∃ j, i = j + 1 := ⟨i - 1, by omega⟩
      obtain ⟨h1, h2, h3, h4⟩ := ih j (by simpa using hi)
      have e : ddAt (a :: l) (j + 1) = ddAt l j := rfl
      rw [e]
      refine ⟨?_, ?_, ?_, ?_⟩
      · rw [List.getElem?_append_right (by simp; omega), show (j + 1) * 4 - ([.int .i64 a.kind, .int .i64 a.row, .int .i64 a.col, .int .i64 a.num] : List Value).length = j * 4 by simp; omega]; exact h1
      · rw [List.getElem?_append_right (by simp; omega), show (j + 1) * 4 + 1 - ([.int .i64 a.kind, .int .i64 a.row, .int .i64 a.col, .int .i64 a.num] : List Value).length = j * 4 + 1 by simp; omega]; exact h2
      · rw [List.getElem?_append_right (by simp; omega), show (j + 1) * 4 + 2 - ([.int .i64 a.kind, .int .i64 a.row, .int .i64 a.col, .int .i64 a.num] : List Value).length = j * 4 + 2 by simp; omega]; exact h3
      · rw [List.getElem?_append_right (by simp; omega), show (j + 1) * 4 + 3 - ([.int .i64 a.kind, .int .i64 a.row, .int .i64 a.col, .int .i64 a.num] : List Value).length = j * 4 + 3 by simp; omega]; exact h4

/-- the slice at A reads as the deeds l -/
def Deeds (w : World) (S : Nat → Prop) (A : Option Addr) (l : List Dd) : Prop :=
  0 < l.length → ∃ b off : Nat, A = some ⟨b, off, none⟩ ∧ S b ∧ ∀ i, i < l.length → w.cell? ⟨b, off + i * 4, none⟩ = some (.int .i64 (ddAt l i).kind) ∧ w.cell? ⟨b, off + i * 4 + 1, none⟩ = some (.int .i64 (ddAt l i).row) ∧
    w.cell? ⟨b, off + i * 4 + 2, none⟩ = some (.int .i64 (ddAt l i).col) ∧ w.cell? ⟨b, off + i * 4 + 3, none⟩ = some (.int .i64 (ddAt l i).num)

theorem Deeds.keep {w w' : World} {S : Nat → Prop} {A : Option Addr} {l : List Dd} (h : Deeds w S A l) (hk : ∀ b, S b → w'.heap[b]? = w.heap[b]?) : Deeds w' S A l := by
  intro h0
  obtain ⟨b, off, e, hb, hc⟩ := h h0
  have hh : ∀ o, w'.cell? ⟨b, o, none⟩ = w.cell? ⟨b, o, none⟩ := fun o => World.cell?_of_block (w := w) (hk b hb)
  exact ⟨b, off, e, hb, fun i hi => by rw [hh, hh, hh, hh]; exact hc i hi⟩

theorem Deeds.mono {w : World} {S T : Nat → Prop} {A : Option Addr} {l : List Dd} (h : Deeds w S A l) (hk : ∀ b, S b → T b) : Deeds w T A l := by
  intro h0
  obtain ⟨b, off, e, hb, hc⟩ := h h0
  exact ⟨b, off, e, hk b hb, hc⟩

theorem Deeds.below {B : Nat} {w w' : World} {A : Option Addr} {l : List Dd} (h : Deeds w (· < B) A l) (hb : Below B w w') : Deeds w' (· < B) A l := h.keep fun b hS => hb.block b hS

theorem Deeds.lt {B B' : Nat} {w : World} {A : Option Addr} {l : List Dd} (h : Deeds w (· < B) A l) (hB : B ≤ B') : Deeds w (· < B') A l := h.mono fun b (hb : b < B) => Nat.lt_of_lt_of_le hb hB

/-- what append has made of deeds so far -/
def GrowsD (w : World) (base : Nat) (v : Value) (l : List Dd) : Prop := w.ownsRow base 28 4 v l.length (ddVals l)

theorem GrowsD.lit (w : World) {base : Nat} (hb : base ≤ w.heap.size) : GrowsD (w.alloc (.cells #[] 28)) base (.slice (some ⟨w.heap.size, 0, none⟩) 0 0) [] :=
  World.ownsRow_lit w #[] 0 hb (Nat.zero_le _) rfl

theorem GrowsD.alloc {w : World} {base : Nat} {v : Value} {l : List Dd} (h : GrowsD w base v l) (o : Obj) : GrowsD (w.alloc o) base v l := World.ownsRow.alloc h o

theorem GrowsD.keep {w w' : World} {base : Nat} {v : Value} {l : List Dd} (h : GrowsD w base v l) (hb : Below w.heap.size w w') : GrowsD w' base v l :=
  ownsRow_of_block h fun k hk => hb.block k (World.ownsRow.lt h k hk).2

theorem GrowsD.snoc {w1 : World} {base : Nat} {v' : Value} {l : List Dd} {a : Dd} (h : w1.ownsRow base 28 4 v' (l.length + 1) (ddVals l ++ [.int .i64 a.kind, .int .i64 a.row, .int .i64 a.col, .int .i64 a.num])) : GrowsD w1 base v' (l ++ [a]) := by
  unfold GrowsD; rw [ddVals_snoc, List.length_append]; exact h

theorem GrowsD.below {w w1 W : World} {B base : Nat} {v : Value} {l : List Dd} {o : Obj} (h : GrowsD w base v l) (hg : (w.alloc o).grownBy w1 v.ownBlock) (hb : Below B W w) (hB : B ≤ base) (hw : B ≤ w.heap.size) : Below B W w1 :=
  (hb.alloc hw o).grown hg (by simp; omega) (fun k hk => by have := (World.ownsRow.lt h) k hk; omega)

/-- deeds of the call's own -/
def OwnDd (w : World) (lo hi : Nat) (A : Option Addr) (l : List Dd) : Prop :=
  0 < l.length → ∃ (b N : Nat) (f : Nat → Value), A = some ⟨b, 0, none⟩ ∧ lo ≤ b ∧ b < hi ∧ w.rowIs b 28 N f ∧ l.length * 4 ≤ N ∧ ∀ i, i < l.length * 4 → some (f i) = (ddVals l)[i]?

theorem OwnDd.deeds {w : World} {lo hi : Nat} {A : Option Addr} {l : List Dd} (h : OwnDd w lo hi A l) : Deeds w (fun b => lo ≤ b ∧ b < hi) A l := by
  intro h0
  obtain ⟨b, N, f, e, h1, h2, h3, h4, h5⟩ := h h0
  refine ⟨b, 0, e, ⟨h1, h2⟩, fun i hi => ?_⟩
  obtain ⟨e0, e1, e2, e3⟩ := ddVals_at l i hi
  rw [Nat.zero_add, h3.cell (by omega), h3.cell (by omega), h3.cell (by omega), h3.cell (by omega), h5 _ (by omega), h5 _ (by omega), h5 _ (by omega), h5 _ (by omega)]
  exact ⟨e0, e1, e2, e3⟩

theorem GrowsD.own {w : World} {base : Nat} {v : Value} {l : List Dd} (h : GrowsD w base v l) : ∃ (A : Option Addr) (c : Nat), v = .slice A l.length c ∧ l.length ≤ c ∧ c ≤ maxLen ∧ OwnDd w base w.heap.size A l := by
  obtain ⟨h1, ⟨rfl, h2⟩ | ⟨b, cap, cur, rfl, h3, h4, h5, h6, h7, h8⟩⟩ := h
  · exact ⟨none, 0, by rw [h2], by omega, Nat.zero_le _, fun h0 => by omega⟩
  · refine ⟨_, cap, rfl, h5, h6, fun _ => ⟨b, cur.size, fun i => cur.getD i undef, rfl, h3, ?_, ⟨cur, h4, rfl, fun i hi => by simp [hi]⟩, by omega, fun i hi => ?_⟩⟩
    · obtain ⟨hlt, _⟩ := Array.getElem?_eq_some_iff.1 h4; exact hlt
    · have hi2 : i < cur.size := by omega
      rw [← h8, List.getElem?_take, if_pos (by omega)]
      simp [Array.getD_eq_getD_getElem?, hi2]

end Go.Proofs.YtlmaeadbomnhlaaGreat
