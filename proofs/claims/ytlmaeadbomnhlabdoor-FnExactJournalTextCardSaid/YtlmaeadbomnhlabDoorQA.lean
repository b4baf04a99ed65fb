/- Texts in one: DeskM, Tabs, OwnDk, DeskH, DeskI, DeskJ. -/
import Derived.Test.YtlmaeadbomnhlabDoorMF
import Derived.Test.YtlmaeadbomnhlabDoorMP
import Derived.Test.YtlmaeadbomnhlabDoorMC
import Derived.Test.YtlmaeadbomnhlabDoorMG
import Derived.Test.YtlmaeadbomnhlabDoorPC
namespace Go.Proofs.YtlmaeadbomnhlabDoor
set_option linter.unusedSimpArgs false
set_option linter.unusedVariables false
open Go.RowKit

/-- the capacity of a slice of so many elements -/
structure CapN (n : Nat) where
  val : Nat
  lo : n ≤ val
  hi : val ≤ maxLen
instance (n : Nat) : CoeOut (CapN n) Nat := ⟨CapN.val⟩

theorem CapN.two {n : Nat} (c : CapN n) : n ≤ c.val ∧ c.val ≤ maxLen := ⟨c.lo, c.hi⟩

/-- table number i of some -/
def tabAt (p : List (List (List Int))) (i : Nat) : List (List Int) := p.getD i []

/-- a game and those of before -/
structure Dk where
  now : List (List Int)
  past : List (List (List Int))

/-- a deed -/
structure Dd where
  kind : Int
  row : Int
  col : Int
  num : Int

def laidB (g : List (List Int)) : Bool := gameB g && (decide (g.length ≤ 4) && decide ((rowAt g 0).length ≤ 4))

theorem laid_iff {g : List (List Int)} : laidB g = true ↔ gameB g = true ∧ g.length ≤ 4 ∧ (rowAt g 0).length ≤ 4 := by
  unfold laidB; rw [Bool.and_eq_true, Bool.and_eq_true, decide_eq_true_eq, decide_eq_true_eq]

def pastB (p : List (List (List Int))) : Bool := p.all laidB

def dkB (d : Dk) : Bool := pastB d.past && (laidB d.now && decide (d.past.length ≤ 8))

theorem dkB_iff {d : Dk} : dkB d = true ↔ pastB d.past = true ∧ laidB d.now = true ∧ d.past.length ≤ 8 := by
  unfold dkB; rw [Bool.and_eq_true, Bool.and_eq_true, decide_eq_true_eq]

theorem pastB_at {p : List (List (List Int))} : pastB p = true ↔ ∀ i, i < p.length → laidB (tabAt p i) = true := by
  unfold pastB
  rw [List.all_eq_true]
  constructor
  · intro h i hi
    have : tabAt p i = p[i] := by unfold tabAt; simp [hi]
    rw [this]; exact h _ (List.getElem_mem hi)
  · intro h x hx
    obtain ⟨i, hi, rfl⟩ := List.mem_iff_getElem.1 hx
    have := h i hi
    unfold tabAt at this; simpa [hi] using this

def dkZero : Dk := ⟨[], []⟩

/-- a number put in a place -/
def putT (g : List (List Int)) (r c : Nat) (v : Int) : List (List Int) := g.set r ((rowAt g r).set c v)

/-- what a deed makes of a game -/
def madeT (g : List (List Int)) (a : Dd) : List (List Int) :=
  if a.kind = 0 ∧ (0 ≤ a.row ∧ a.row ≤ (g.length : Int) - 1) ∧ (0 ≤ a.col ∧ a.col ≤ ((rowAt g 0).length : Int) - 1) then putT g a.row.toNat a.col.toNat a.num
  else if a.kind = 1 ∧ a.row = 0 ∧ a.col = 0 ∧ a.num = 0 then turned g
  else if a.kind = 2 ∧ a.row = 0 ∧ a.col = 0 then shi g a.num
  else if a.kind = 3 ∧ a.row = 0 ∧ a.col = 0 ∧ a.num = 0 then small g
  else []

/-- is a deed the one that puts the game of before back -/
def backB (a : Dd) : Bool := decide (a.kind = 4 ∧ a.row = 0 ∧ a.col = 0 ∧ a.num = 0)

/-- a game more of before: at most eight -/
def pushP (p : List (List (List Int))) (g : List (List Int)) : List (List (List Int)) := if p.length < 8 then p ++ [g] else (p ++ [g]).drop 1

/-- can it be done -/
def canB (d : Dk) (a : Dd) : Bool := dkB d && ((backB a && decide (0 < d.past.length)) || (laidB (madeT d.now a) && decide (madeT d.now a ≠ d.now)))

/-- the desk behind a deed -/
def doD (d : Dk) (a : Dd) : Dk :=
  if dkB d = false then dkZero
  else if backB a = true ∧ 0 < d.past.length then ⟨tabAt d.past (d.past.length - 1), d.past.take (d.past.length - 1)⟩
  else if laidB (madeT d.now a) = true ∧ madeT d.now a ≠ d.now then ⟨madeT d.now a, pushP d.past d.now⟩
  else d

theorem do_no {d : Dk} (h : dkB d = false) (a : Dd) : doD d a = dkZero ∧ canB d a = false := by
  unfold doD canB; rw [h]; exact ⟨if_pos rfl, rfl⟩

theorem do_back {d : Dk} (h : dkB d = true) {a : Dd} (hb : backB a = true) (h0 : 0 < d.past.length) : doD d a = ⟨tabAt d.past (d.past.length - 1), d.past.take (d.past.length - 1)⟩ ∧ canB d a = true := by
  unfold doD canB
  rw [h, if_neg (by decide), if_pos ⟨hb, h0⟩, hb, decide_eq_true h0]
  exact ⟨rfl, rfl⟩

theorem do_made {d : Dk} (h : dkB d = true) {a : Dd} (hb : ¬ (backB a = true ∧ 0 < d.past.length)) (hl : laidB (madeT d.now a) = true) (hn : madeT d.now a ≠ d.now) : doD d a = ⟨madeT d.now a, pushP d.past d.now⟩ ∧ canB d a = true := by
  unfold doD canB
  rw [h, if_neg (by decide), if_neg hb, if_pos ⟨hl, hn⟩, hl, decide_eq_true hn]
  exact ⟨rfl, by simp⟩

theorem do_none {d : Dk} (h : dkB d = true) {a : Dd} (hb : ¬ (backB a = true ∧ 0 < d.past.length)) (hl : ¬ (laidB (madeT d.now a) = true ∧ madeT d.now a ≠ d.now)) : doD d a = d ∧ canB d a = false := by
  unfold doD canB
  rw [h, if_neg (by decide), if_neg hb, if_neg hl]
  refine ⟨rfl, ?_⟩
  rw [Bool.true_and, Bool.or_eq_false_iff]
  constructor
  · rw [Bool.and_eq_false_iff]
    by_cases h1 : backB a = true
    · right; exact decide_eq_false fun h2 => hb ⟨h1, h2⟩
    · left; simpa using h1
  · rw [Bool.and_eq_false_iff]
    by_cases h1 : laidB (madeT d.now a) = true
    · right; exact decide_eq_false fun h2 => hl ⟨h1, h2⟩
    · left; simpa using h1

theorem push_len {p : List (List (List Int))} {g : List (List Int)} (h : p.length ≤ 8) : (pushP p g).length ≤ 8 := by
  unfold pushP; split
  · simp; omega
  · simp; omega

theorem push_laid {p : List (List (List Int))} {g : List (List Int)} (h : pastB p = true) (hg : laidB g = true) : pastB (pushP p g) = true := by
  unfold pastB at h ⊢
  rw [List.all_eq_true] at h ⊢
  intro x hx
  have hm : x ∈ p ++ [g] := by
    unfold pushP at hx
    split at hx
    · exact hx
    · exact List.mem_of_mem_drop hx
  rcases List.mem_append.1 hm with h1 | h1
  · exact h x h1
  · rw [List.mem_singleton.1 h1]; exact hg

/-- the desk behind a deed is one -/
theorem do_ok {d : Dk} (h : dkB d = true) (a : Dd) : dkB (doD d a) = true := by
  obtain ⟨h1, h2, h3⟩ := dkB_iff.1 h
  by_cases hb : backB a = true ∧ 0 < d.past.length
  · rw [(do_back h hb.1 hb.2).1]
    refine dkB_iff.2 ⟨?_, pastB_at.1 h1 _ (by omega), by simp; omega⟩
    unfold pastB at h1 ⊢
    rw [List.all_eq_true] at h1 ⊢
    exact fun x hx => h1 x (List.mem_of_mem_take hx)
  · by_cases hl : laidB (madeT d.now a) = true ∧ madeT d.now a ≠ d.now
    · rw [(do_made h hb hl.1 hl.2).1]
      exact dkB_iff.2 ⟨push_laid h1 h2, hl.1, push_len h3⟩
    · rw [(do_none h hb hl).1]; exact h

/-- the deed that puts the game of before back -/
def ddBack : Dd := ⟨4, 0, 0, 0⟩

end Go.Proofs.YtlmaeadbomnhlabDoor

namespace Go.Proofs.YtlmaeadbomnhlabDoor
set_option linter.unusedSimpArgs false
set_option linter.unusedVariables false
open Go.RowKit

/-- the slice at A reads as the tables p -/
def Rows3 (w : World) (S : Nat → Prop) (A : Option Addr) (p : List (List (List Int))) : Prop :=
  0 < p.length → ∃ b off : Nat, A = some ⟨b, off, none⟩ ∧ S b ∧ ∀ i, i < p.length → ∃ (A' : Option Addr) (c : Nat),
    w.cell? ⟨b, off + i, none⟩ = some (.slice A' (tabAt p i).length c) ∧ (tabAt p i).length ≤ c ∧ c ≤ maxLen ∧ Rows2 w S A' (tabAt p i)

theorem Rows3.nil (w : World) (S : Nat → Prop) (A : Option Addr) : Rows3 w S A [] := fun h => absurd h (by simp)

theorem Rows3.keep {w w' : World} {S : Nat → Prop} {A : Option Addr} {p : List (List (List Int))} (h : Rows3 w S A p) (hk : ∀ b, S b → w'.heap[b]? = w.heap[b]?) : Rows3 w' S A p := by
  intro h0
  obtain ⟨b, off, e, hb, hc⟩ := h h0
  refine ⟨b, off, e, hb, fun i hi => ?_⟩
  obtain ⟨A', c, h1, h2, h3, h4⟩ := hc i hi
  exact ⟨A', c, (World.cell?_of_block (w := w) (hk b hb)).trans h1, h2, h3, h4.keep hk⟩

theorem Rows3.mono {w : World} {S T : Nat → Prop} {A : Option Addr} {p : List (List (List Int))} (h : Rows3 w S A p) (hk : ∀ b, S b → T b) : Rows3 w T A p := by
  intro h0
  obtain ⟨b, off, e, hb, hc⟩ := h h0
  refine ⟨b, off, e, hk b hb, fun i hi => ?_⟩
  obtain ⟨A', c, h1, h2, h3, h4⟩ := hc i hi
  exact ⟨A', c, h1, h2, h3, h4.mono hk⟩

theorem Rows3.drewN {w : World} {S : Nat → Prop} {A : Option Addr} {p : List (List (List Int))} (h : Rows3 w S A p) (n : Nat) : Rows3 (w.drewN n) S A p := h.keep fun _ _ => rfl

theorem Rows3.lt {w : World} {B B' : Nat} {A : Option Addr} {p : List (List (List Int))} (h : Rows3 w (· < B) A p) (hB : B ≤ B') : Rows3 w (· < B') A p := h.mono fun b (hb : b < B) => Nat.lt_of_lt_of_le hb hB

theorem keepTabs {w w' : World} {B : Nat} {A : Option Addr} {p : List (List (List Int))} (hb : Below B w w') (h : Rows3 w (· < B) A p) : Rows3 w' (· < B) A p := h.keep hb.block

theorem Rows3.some {w : World} {S : Nat → Prop} {A : Option Addr} {p : List (List (List Int))} (h : Rows3 w S A p) (h0 : 0 < p.length) : ∃ b off : Nat, A = Option.some ⟨b, off, none⟩ := by
  obtain ⟨b, off, e, _⟩ := h h0; exact ⟨b, off, e⟩

/-- a table of the call's own, told where its rows lie -/
def TabOwn (w : World) (lo hi : Nat) (T : Option Addr) (A : Nat → Option Addr) (C : Nat → Nat) (g : List (List Int)) : Prop :=
  0 < g.length → ∃ (b N : Nat) (f : Nat → Value), T = some ⟨b, 0, none⟩ ∧ lo ≤ b ∧ b < hi ∧ g.length ≤ N ∧ w.rowIs b 47 N f ∧
    (∀ i, i < g.length → f i = .slice (A i) (rowAt g i).length (C i)) ∧ RowsOwn w lo hi A C g

theorem TabOwn.own {w : World} {lo hi : Nat} {T : Option Addr} {A : Nat → Option Addr} {C : Nat → Nat} {g : List (List Int)} (h : TabOwn w lo hi T A C g) : OwnR w lo hi T g := fun h0 => by
  obtain ⟨b, N, f, e, h1, h2, h3, h4, h5, h6⟩ := h h0
  exact ⟨b, N, f, A, C, e, h1, h2, h3, h4, h5, h6⟩

theorem TabOwn.keep {w w' : World} {lo hi : Nat} {T : Option Addr} {A : Nat → Option Addr} {C : Nat → Nat} {g : List (List Int)} (h : TabOwn w lo hi T A C g) (hk : ∀ b, lo ≤ b → b < hi → w'.heap[b]? = w.heap[b]?) : TabOwn w' lo hi T A C g := fun h0 => by
  obtain ⟨b, N, f, e, h1, h2, h3, h4, h5, h6⟩ := h h0
  exact ⟨b, N, f, e, h1, h2, h3, h4.of_block (hk b h1 h2), h5, h6.keep hk⟩

theorem TabOwn.more {w : World} {lo hi lo' hi' : Nat} {T : Option Addr} {A : Nat → Option Addr} {C : Nat → Nat} {g : List (List Int)} (h : TabOwn w lo hi T A C g) (h1 : lo' ≤ lo) (h2 : hi ≤ hi') : TabOwn w lo' hi' T A C g := fun h0 => by
  obtain ⟨b, N, f, e, k1, k2, h3, h4, h5, h6⟩ := h h0
  exact ⟨b, N, f, e, by omega, by omega, h3, h4, h5, ⟨h6.cap, fun i hi => (h6.own i hi).more h1 h2, h6.apart⟩⟩

/-- the blocks of a table's rows -/
def RowAtB (A : Nat → Option Addr) (g : List (List Int)) (b : Nat) : Prop := ∃ i, i < g.length ∧ 0 < (rowAt g i).length ∧ A i = some ⟨b, 0, none⟩

/-- nothing has turned but, perhaps, the blocks of which K speaks -/
structure TouchS (K : Nat → Prop) (w w' : World) : Prop where
  os : w'.os = w.os
  tape : w'.tape = w.tape
  output : w'.output = w.output
  size : w'.heap.size = w.heap.size
  block : ∀ b, ¬ K b → w'.heap[b]? = w.heap[b]?

theorem TouchS.refl (K : Nat → Prop) (w : World) : TouchS K w w := ⟨rfl, rfl, rfl, rfl, fun _ _ => rfl⟩

theorem TouchS.trans {K : Nat → Prop} {a b c : World} (h : TouchS K a b) (k : TouchS K b c) : TouchS K a c :=
  ⟨k.os.trans h.os, k.tape.trans h.tape, k.output.trans h.output, k.size.trans h.size, fun i hi => (k.block i hi).trans (h.block i hi)⟩

theorem TouchS.mono {K L : Nat → Prop} {a b : World} (h : TouchS K a b) (hk : ∀ x, K x → L x) : TouchS L a b := ⟨h.os, h.tape, h.output, h.size, fun i hi => h.block i fun hx => hi (hk i hx)⟩

theorem TouchS.off {K : Nat → Prop} {lo hi : Nat} {a b : World} (h : TouchS K a b) (hk : ∀ x, K x → lo ≤ x ∧ x < hi) : Off lo hi a b := ⟨h.os, h.tape, h.output, h.size, fun i hi => h.block i fun hx => hi (hk i hx)⟩

theorem marks_row_len (g : List (List Int)) (k : Int) {i : Nat} (hi : i < g.length) : (rowAt (marks g k) i).length = (rowAt g i).length := by rw [rowAt_marks g k i hi, seqN_length]

theorem RowAtB.marks {A : Nat → Option Addr} {g : List (List Int)} {k : Int} {b : Nat} : RowAtB A (marks g k) b ↔ RowAtB A g b := by
  constructor
  · rintro ⟨i, hi, h0, e⟩
    rw [marks_length] at hi
    rw [marks_row_len g k hi] at h0
    exact ⟨i, hi, h0, e⟩
  · rintro ⟨i, hi, h0, e⟩
    exact ⟨i, by rw [marks_length]; exact hi, by rw [marks_row_len g k hi]; exact h0, e⟩

end Go.Proofs.YtlmaeadbomnhlabDoor

namespace Go.Proofs.YtlmaeadbomnhlabDoor
set_option linter.unusedSimpArgs false
set_option linter.unusedVariables false
open Go.RowKit

/-- the cells of the first i tables -/
def sumP (p : List (List (List Int))) : Nat → Nat
  | 0 => 0
  | i + 1 => sumP p i + sumN (tabAt p i) (tabAt p i).length

/-- how many numbers a desk has -/
def sizeD (d : Dk) : Nat := sumN d.now d.now.length + sumP d.past d.past.length

end Go.Proofs.YtlmaeadbomnhlabDoor

namespace Go.Proofs.YtlmaeadbomnhlabDoor
set_option linter.unusedSimpArgs false
set_option linter.unusedVariables false
open Go.RowKit

/-- rows and numbers of the first i tables -/
def szP (p : List (List (List Int))) : Nat → Nat
  | 0 => 0
  | i + 1 => szP p i + ((tabAt p i).length + sumN (tabAt p i) (tabAt p i).length)

theorem szP_mono (p : List (List (List Int))) {i j : Nat} (h : i ≤ j) : szP p i ≤ szP p j := by
  induction j with
  | zero => have : i = 0 := by omega
            subst this; exact Nat.le_refl _
  | succ j ih =>
    by_cases e : i = j + 1
    · subst e; exact Nat.le_refl _
    · have := ih (by omega); simp only [szP]; omega

theorem tab_le_szP (p : List (List (List Int))) {i n : Nat} (h : i < n) : (tabAt p i).length + sumN (tabAt p i) (tabAt p i).length ≤ szP p n := by
  have := szP_mono p (show i + 1 ≤ n by omega)
  simp only [szP] at this; omega

theorem sumP_le_szP (p : List (List (List Int))) (n : Nat) : sumP p n ≤ szP p n := by
  induction n with
  | zero => exact Nat.le_refl _
  | succ n ih => simp only [sumP, szP]; omega

end Go.Proofs.YtlmaeadbomnhlabDoor

namespace Go.Proofs.YtlmaeadbomnhlabDoor
set_option linter.unusedSimpArgs false
set_option linter.unusedVariables false
open Go.RowKit

theorem TabOwn.cells {w : World} {lo hi : Nat} {T : Option Addr} {A : Nat → Option Addr} {C : Nat → Nat} {g : List (List Int)} (h : TabOwn w lo hi T A C g) {b : Nat} (hb : RowAtB A g b) : ∃ N f, w.rowIs b 3 N f := by
  obtain ⟨i, hi, h0, e⟩ := hb
  obtain ⟨_, _, _, _, _, _, _, _, _, h6⟩ := h (by omega)
  obtain ⟨b', N, f, e', _, _, h3, _⟩ := h6.own i hi h0
  rw [e] at e'; injection e' with e'; injection e' with e'; subst e'; exact ⟨N, f, h3⟩

end Go.Proofs.YtlmaeadbomnhlabDoor

namespace Go.Proofs.YtlmaeadbomnhlabDoor
set_option linter.unusedSimpArgs false
set_option linter.unusedVariables false
open Go.RowKit

/-- what szDesk leaves -/
def SizedD (d : Dk) (left : Int) (w : World) (e : Ending) (w' : World) : Prop :=
  ∃ r : Int, e = .returned (.int .i64 r) ∧ Below w.heap.size w w' ∧ (r < 0 ∨ (0 ≤ r ∧ (d.now.length : Int) + (sumN d.now d.now.length : Nat) + ((d.past.length : Int) + (szP d.past d.past.length : Nat)) + r ≤ left))

/-- a desk is small -/
structure SmallD (d : Dk) : Prop where
  now : d.now.length ≤ 4294967296
  past : d.past.length ≤ 4294967296
  tabs : ∀ i, i < d.past.length → (tabAt d.past i).length ≤ 4294967296
  size : sizeD d ≤ 1048576

theorem SizedD.small {d : Dk} {left r : Int} (hl : left ≤ 1048576) (hr : 0 ≤ r) (h : (d.now.length : Int) + (sumN d.now d.now.length : Nat) + ((d.past.length : Int) + (szP d.past d.past.length : Nat)) + r ≤ left) : SmallD d := by
  have := sumP_le_szP d.past d.past.length
  refine ⟨by omega, by omega, fun i hi => ?_, by unfold sizeD; omega⟩
  have := tab_le_szP d.past hi
  omega

end Go.Proofs.YtlmaeadbomnhlabDoor
