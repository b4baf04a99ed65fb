/- Texts in one: DeskM, Tabs, OwnDk, DeskH, DeskI, DeskJ. -/
import Derived.Test.YtlkjpmdnhccdpaaMF
import Derived.Test.YtlkjpmdnhccdpaaMP
import Derived.Test.YtlkjpmdnhccdpaaMC
import Derived.Test.YtlkjpmdnhccdpaaMG
import Derived.Test.YtlkjpmdnhccdpaaPC
namespace Go.Proofs.Ytlkjpmdnhccdpaa
set_option linter.unusedSimpArgs false
set_option linter.unusedVariables false
open Go.RowKit

/-- the capacity of a slice of so many elements -/
structure CapN (n : Nat) where
  val : Nat
  lo : n ≤ val
  hi : val ≤ maxLen
instance (n : Nat) : CoeOut (CapN n) Nat := ⟨CapN.val⟩

theorem CapN.two {n : Nat} (c : CapN n) : n ≤ c.val ∧ c.val ≤ maxLen := ⟨c.lo, c.hi⟩

/-- table number i of some -/
def tabAt (p : List (List (List Int))) (i : Nat) : List (List Int) := p.getD i []

/-- a game and those of before -/
structure Dk where
  now : List (List Int)
  past : List (List (List Int))

/-- a deed -/
structure Dd where
  kind : Int
  row : Int
  col : Int
  num : Int

def laidB (g : List (List Int)) : Bool := gameB g && (decide (g.length ≤ 4) && decide ((rowAt g 0).length ≤ 4))

theorem laid_iff {g : List (List Int)} : laidB g = true ↔ gameB g = true ∧ g.length ≤ 4 ∧ (rowAt g 0).length ≤ 4 := by
  unfold laidB; rw [Bool.and_eq_true, Bool.and_eq_true, decide_eq_true_eq, decide_eq_true_eq]

theorem laid_sol (g : List (List Int)) : laidB g = solB g := by
  rcases h : solB g with _ | _
  · rcases h2 : laidB g with _ | _
    · rfl
    · rw [sol_iff.2 (laid_iff.1 h2)] at h; cases h
  · exact laid_iff.2 (sol_iff.1 h)

theorem laid_game {g : List (List Int)} (h : laidB g = true) : gameB g = true := (laid_iff.1 h).1

def pastB (p : List (List (List Int))) : Bool := p.all laidB

def dkB (d : Dk) : Bool := pastB d.past && (laidB d.now && decide (d.past.length ≤ 8))

theorem dkB_iff {d : Dk} : dkB d = true ↔ pastB d.past = true ∧ laidB d.now = true ∧ d.past.length ≤ 8 := by
  unfold dkB; rw [Bool.and_eq_true, Bool.and_eq_true, decide_eq_true_eq]

theorem pastB_at {p : List (List (List Int))} : pastB p = true ↔ ∀ i, i < p.length → laidB (tabAt p i) = true := by
  unfold pastB
  rw [List.all_eq_true]
  constructor
  · intro h i hi
    have : tabAt p i = p[i] := by unfold tabAt; simp [hi]
    rw [this]; exact h _ (List.getElem_mem hi)
  · intro h x hx
    obtain ⟨i, hi, rfl⟩ := List.mem_iff_getElem.1 hx
    have := h i hi
    unfold tabAt at this; simpa [hi] using this

def dkZero : Dk := ⟨[], []⟩

theorem dkZero_no : dkB dkZero = false := by decide +kernel

/-- a number put in a place -/
def putT (g : List (List Int)) (r c : Nat) (v : Int) : List (List Int) := g.set r ((rowAt g r).set c v)

/-- what a deed makes of a game -/
def madeT (g : List (List Int)) (a : Dd) : List (List Int) :=
  if a.kind = 0 ∧ (0 ≤ a.row ∧ a.row ≤ (g.length : Int) - 1) ∧ (0 ≤ a.col ∧ a.col ≤ ((rowAt g 0).length : Int) - 1) then putT g a.row.toNat a.col.toNat a.num
  else if a.kind = 1 ∧ a.row = 0 ∧ a.col = 0 ∧ a.num = 0 then turned g
  else if a.kind = 2 ∧ a.row = 0 ∧ a.col = 0 then shi g a.num
  else if a.kind = 3 ∧ a.row = 0 ∧ a.col = 0 ∧ a.num = 0 then small g
  else []

/-- is a deed the one that puts the game of before back -/
def backB (a : Dd) : Bool := decide (a.kind = 4 ∧ a.row = 0 ∧ a.col = 0 ∧ a.num = 0)

/-- a game more of before: at most eight -/
def pushP (p : List (List (List Int))) (g : List (List Int)) : List (List (List Int)) := if p.length < 8 then p ++ [g] else (p ++ [g]).drop 1

/-- can it be done -/
def canB (d : Dk) (a : Dd) : Bool := dkB d && ((backB a && decide (0 < d.past.length)) || (laidB (madeT d.now a) && decide (madeT d.now a ≠ d.now)))

/-- the desk behind a deed -/
def doD (d : Dk) (a : Dd) : Dk :=
  if dkB d = false then dkZero
  else if backB a = true ∧ 0 < d.past.length then ⟨tabAt d.past (d.past.length - 1), d.past.take (d.past.length - 1)⟩
  else if laidB (madeT d.now a) = true ∧ madeT d.now a ≠ d.now then ⟨madeT d.now a, pushP d.past d.now⟩
  else d

theorem do_no {d : Dk} (h : dkB d = false) (a : Dd) : doD d a = dkZero ∧ canB d a = false := by
  unfold doD canB; rw [h]; exact ⟨if_pos rfl, rfl⟩

theorem do_back {d : Dk} (h : dkB d = true) {a : Dd} (hb : backB a = true) (h0 : 0 < d.past.length) : doD d a = ⟨tabAt d.past (d.past.length - 1), d.past.take (d.past.length - 1)⟩ ∧ canB d a = true := by
  unfold doD canB
  rw [h, if_neg (by decide), if_pos ⟨hb, h0⟩, hb, decide_eq_true h0]
  exact ⟨rfl, rfl⟩

theorem do_made {d : Dk} (h : dkB d = true) {a : Dd} (hb : ¬ (backB a = true ∧ 0 < d.past.length)) (hl : laidB (madeT d.now a) = true) (hn : madeT d.now a ≠ d.now) : doD d a = ⟨madeT d.now a, pushP d.past d.now⟩ ∧ canB d a = true := by
  unfold doD canB
  rw [h, if_neg (by decide), if_neg hb, if_pos ⟨hl, hn⟩, hl, decide_eq_true hn]
  exact ⟨rfl, by simp⟩

theorem do_none {d : Dk} (h : dkB d = true) {a : Dd} (hb : ¬ (backB a = true ∧ 0 < d.past.length)) (hl : ¬ (laidB (madeT d.now a) = true ∧ madeT d.now a ≠ d.now)) : doD d a = d ∧ canB d a = false := by
  unfold doD canB
  rw [h, if_neg (by decide), if_neg hb, if_neg hl]
  refine ⟨rfl, ?_⟩
  rw [Bool.true_and, Bool.or_eq_false_iff]
  constructor
  · rw [Bool.and_eq_false_iff]
    by_cases h1 : backB a = true
    · right; exact decide_eq_false fun h2 => hb ⟨h1, h2⟩
    · left; simpa using h1
  · rw [Bool.and_eq_false_iff]
    by_cases h1 : laidB (madeT d.now a) = true
    · right; exact decide_eq_false fun h2 => hl ⟨h1, h2⟩
    · left; simpa using h1

theorem push_len {p : List (List (List Int))} {g : List (List Int)} (h : p.length ≤ 8) : (pushP p g).length ≤ 8 := by
  unfold pushP; split
  · simp; omega
  · simp; omega

theorem push_laid {p : List (List (List Int))} {g : List (List Int)} (h : pastB p = true) (hg : laidB g = true) : pastB (pushP p g) = true := by
  unfold pastB at h ⊢
  rw [List.all_eq_true] at h ⊢
  intro x hx
  have hm : x ∈ p ++ [g] := by
    unfold pushP at hx
    split at hx
    · exact hx
    · exact List.mem_of_mem_drop hx
  rcases List.mem_append.1 hm with h1 | h1
  · exact h x h1
  · rw [List.mem_singleton.1 h1]; exact hg

/-- the desk behind a deed is one -/
theorem do_ok {d : Dk} (h : dkB d = true) (a : Dd) : dkB (doD d a) = true := by
  obtain ⟨h1, h2, h3⟩ := dkB_iff.1 h
  by_cases hb : backB a = true ∧ 0 < d.past.length
  · rw [(do_back h hb.1 hb.2).1]
    refine dkB_iff.2 ⟨?_, pastB_at.1 h1 _ (by omega), by simp; omega⟩
    unfold pastB at h1 ⊢
    rw [List.all_eq_true] at h1 ⊢
    exact fun x hx => h1 x (List.mem_of_mem_take hx)
  · by_cases hl : laidB (madeT d.now a) = true ∧ madeT d.now a ≠ d.now
    · rw [(do_made h hb hl.1 hl.2).1]
      exact dkB_iff.2 ⟨push_laid h1 h2, hl.1, push_len h3⟩
    · rw [(do_none h hb hl).1]; exact h

theorem made_back {g : List (List Int)} {a : Dd} (h : backB a = true) : madeT g a = [] := by
  unfold backB at h
  rw [decide_eq_true_eq] at h
  unfold madeT
  rw [if_neg (by omega), if_neg (by omega), if_neg (by omega), if_neg (by omega)]

theorem laid_nil : laidB [] = false := by decide +kernel

/-- the deed that puts the game of before back -/
def ddBack : Dd := ⟨4, 0, 0, 0⟩

/-- what was done can be undone -/
theorem do_undo {d : Dk} {a : Dd} (h : canB d a = true) (hk : a.kind ≠ 4) (hp : d.past.length < 8) : canB (doD d a) ddBack = true ∧ doD (doD d a) ddBack = d := by
  have hd : dkB d = true := by
    rcases hx : dkB d with _ | _
    · rw [(do_no hx a).2] at h; cases h
    · rfl
  have hb : ¬ (backB a = true ∧ 0 < d.past.length) := fun hb => by
    have := hb.1; unfold backB at this; rw [decide_eq_true_eq] at this; exact hk this.1
  by_cases hl : laidB (madeT d.now a) = true ∧ madeT d.now a ≠ d.now
  · have e := (do_made hd hb hl.1 hl.2).1
    have hok := do_ok hd a
    rw [e] at hok ⊢
    have hpu : pushP d.past d.now = d.past ++ [d.now] := by unfold pushP; rw [if_pos hp]
    rw [hpu] at hok ⊢
    obtain ⟨q1, q2⟩ := do_back hok (a := ddBack) rfl (by simp)
    refine ⟨q2, ?_⟩
    rw [q1]
    simp [tabAt]
  · rw [(do_none hd hb hl).2] at h; cases h

/-- behind DkSmaller the game is worth as much -/
theorem do_small {d : Dk} {a : Dd} (h : canB d a = true) (hk : a.kind = 3) : solU (doD d a).now = solU d.now ∧ solD (doD d a).now = solD d.now := by
  have hd : dkB d = true := by
    rcases hx : dkB d with _ | _
    · rw [(do_no hx a).2] at h; cases h
    · rfl
  have hb : ¬ (backB a = true ∧ 0 < d.past.length) := fun hb => by
    have := hb.1; unfold backB at this; rw [decide_eq_true_eq] at this; omega
  by_cases hl : laidB (madeT d.now a) = true ∧ madeT d.now a ≠ d.now
  · rw [(do_made hd hb hl.1 hl.2).1]
    have hs : solB d.now = true := by rw [← laid_sol]; exact (dkB_iff.1 hd).2.1
    by_cases h0 : a.row = 0 ∧ a.col = 0 ∧ a.num = 0
    · have e : madeT d.now a = small d.now := by
        unfold madeT
        rw [if_neg (by omega), if_neg (by omega), if_neg (by omega), if_pos ⟨hk, h0⟩]
      show solU (madeT d.now a) = _ ∧ solD (madeT d.now a) = _
      rw [e]; exact (small_sol hs).2
    · have e : madeT d.now a = [] := by
        unfold madeT
        rw [if_neg (by omega), if_neg (by omega), if_neg (by omega), if_neg (fun h' => h0 h'.2)]
      rw [e] at hl
      exact absurd hl.1 (by rw [laid_nil]; decide)
  · rw [(do_none hd hb hl).2] at h; cases h

/-- deeds, one after the other -/
def runD (d : Dk) : List Dd → Dk
  | [] => d
  | a :: l => runD (doD d a) l

def runN (d : Dk) : List Dd → Nat
  | [] => 0
  | a :: l => (if canB d a = true then 1 else 0) + runN (doD d a) l

theorem run_app (d : Dk) (l m : List Dd) : runD d (l ++ m) = runD (runD d l) m ∧ runN d (l ++ m) = runN d l + runN (runD d l) m := by
  induction l generalizing d with
  | nil => exact ⟨rfl, by simp [runN, runD]⟩
  | cons a l ih =>
    obtain ⟨h1, h2⟩ := ih (doD d a)
    refine ⟨h1, ?_⟩
    show (if canB d a = true then 1 else 0) + runN (doD d a) (l ++ m) = ((if canB d a = true then 1 else 0) + runN (doD d a) l) + runN (runD (doD d a) l) m
    rw [h2]; omega

theorem run_ok {d : Dk} (h : dkB d = true) (l : List Dd) : dkB (runD d l) = true := by
  induction l generalizing d with
  | nil => exact h
  | cons a l ih => exact ih (do_ok h a)

end Go.Proofs.Ytlkjpmdnhccdpaa

namespace Go.Proofs.Ytlkjpmdnhccdpaa
set_option linter.unusedSimpArgs false
set_option linter.unusedVariables false
open Go.RowKit

/-- the slice at A reads as the tables p -/
def Rows3 (w : World) (S : Nat → Prop) (A : Option Addr) (p : List (List (List Int))) : Prop :=
  0 < p.length → ∃ b off : Nat, A = some ⟨b, off, none⟩ ∧ S b ∧ ∀ i, i < p.length → ∃ (A' : Option Addr) (c : Nat),
    w.cell? ⟨b, off + i, none⟩ = some (.slice A' (tabAt p i).length c) ∧ (tabAt p i).length ≤ c ∧ c ≤ maxLen ∧ Rows2 w S A' (tabAt p i)

theorem Rows3.nil (w : World) (S : Nat → Prop) (A : Option Addr) : Rows3 w S A [] := fun h => absurd h (by simp)

theorem Rows3.keep {w w' : World} {S : Nat → Prop} {A : Option Addr} {p : List (List (List Int))} (h : Rows3 w S A p) (hk : ∀ b, S b → w'.heap[b]? = w.heap[b]?) : Rows3 w' S A p := by
  intro h0
  obtain ⟨b, off, e, hb, hc⟩ := h h0
  refine ⟨b, off, e, hb, fun i hi => ?_⟩
  obtain ⟨A', c, h1, h2, h3, h4⟩ := hc i hi
  exact ⟨A', c, (World.cell?_of_block (w := w) (hk b hb)).trans h1, h2, h3, h4.keep hk⟩

theorem Rows3.mono {w : World} {S T : Nat → Prop} {A : Option Addr} {p : List (List (List Int))} (h : Rows3 w S A p) (hk : ∀ b, S b → T b) : Rows3 w T A p := by
  intro h0
  obtain ⟨b, off, e, hb, hc⟩ := h h0
  refine ⟨b, off, e, hk b hb, fun i hi => ?_⟩
  obtain ⟨A', c, h1, h2, h3, h4⟩ := hc i hi
  exact ⟨A', c, h1, h2, h3, h4.mono hk⟩

theorem Rows3.drewN {w : World} {S : Nat → Prop} {A : Option Addr} {p : List (List (List Int))} (h : Rows3 w S A p) (n : Nat) : Rows3 (w.drewN n) S A p := h.keep fun _ _ => rfl

theorem Rows3.lt {w : World} {B B' : Nat} {A : Option Addr} {p : List (List (List Int))} (h : Rows3 w (· < B) A p) (hB : B ≤ B') : Rows3 w (· < B') A p := h.mono fun b (hb : b < B) => Nat.lt_of_lt_of_le hb hB

theorem keepTabs {w w' : World} {B : Nat} {A : Option Addr} {p : List (List (List Int))} (hb : Below B w w') (h : Rows3 w (· < B) A p) : Rows3 w' (· < B) A p := h.keep hb.block

theorem stillTabs {w w' : World} {A : Option Addr} {p : List (List (List Int))} (h : Rows3 w (· < w.heap.size) A p) (hb : Below w.heap.size w w') : Rows3 w' (· < w'.heap.size) A p := (keepTabs hb h).lt hb.size

theorem Rows3.some {w : World} {S : Nat → Prop} {A : Option Addr} {p : List (List (List Int))} (h : Rows3 w S A p) (h0 : 0 < p.length) : ∃ b off : Nat, A = Option.some ⟨b, off, none⟩ := by
  obtain ⟨b, off, e, _⟩ := h h0; exact ⟨b, off, e⟩

/-- a table of some -/
theorem Rows3.tab {w : World} {S : Nat → Prop} {b off : Nat} {p : List (List (List Int))} (h : Rows3 w S (Option.some ⟨b, off, none⟩) p) {i : Nat} (hi : i < p.length) :
    S b ∧ ∃ (A' : Option Addr) (c : Nat), w.cell? ⟨b, off + i, none⟩ = Option.some (.slice A' (tabAt p i).length c) ∧ (tabAt p i).length ≤ c ∧ c ≤ maxLen ∧ Rows2 w S A' (tabAt p i) := by
  obtain ⟨b0, off0, e, hS, hc⟩ := h (by omega)
  injection e with e
  injection e with e1 e2
  subst e1 e2
  exact ⟨hS, hc i hi⟩

/-- a table of the call's own, told where its rows lie -/
def TabOwn (w : World) (lo hi : Nat) (T : Option Addr) (A : Nat → Option Addr) (C : Nat → Nat) (g : List (List Int)) : Prop :=
  0 < g.length → ∃ (b N : Nat) (f : Nat → Value), T = some ⟨b, 0, none⟩ ∧ lo ≤ b ∧ b < hi ∧ g.length ≤ N ∧ w.rowIs b 40 N f ∧
    (∀ i, i < g.length → f i = .slice (A i) (rowAt g i).length (C i)) ∧ RowsOwn w lo hi A C g

theorem OwnR.tab {w : World} {lo hi : Nat} {T : Option Addr} {g : List (List Int)} (h : OwnR w lo hi T g) : ∃ A C, TabOwn w lo hi T A C g := by
  by_cases h0 : 0 < g.length
  · obtain ⟨b, N, f, A, C, e, h1, h2, h3, h4, h5, h6⟩ := h h0
    exact ⟨A, C, fun _ => ⟨b, N, f, e, h1, h2, h3, h4, h5, h6⟩⟩
  · exact ⟨fun _ => none, fun _ => 0, fun h => absurd h h0⟩

theorem TabOwn.own {w : World} {lo hi : Nat} {T : Option Addr} {A : Nat → Option Addr} {C : Nat → Nat} {g : List (List Int)} (h : TabOwn w lo hi T A C g) : OwnR w lo hi T g := fun h0 => by
  obtain ⟨b, N, f, e, h1, h2, h3, h4, h5, h6⟩ := h h0
  exact ⟨b, N, f, A, C, e, h1, h2, h3, h4, h5, h6⟩

theorem TabOwn.keep {w w' : World} {lo hi : Nat} {T : Option Addr} {A : Nat → Option Addr} {C : Nat → Nat} {g : List (List Int)} (h : TabOwn w lo hi T A C g) (hk : ∀ b, lo ≤ b → b < hi → w'.heap[b]? = w.heap[b]?) : TabOwn w' lo hi T A C g := fun h0 => by
  obtain ⟨b, N, f, e, h1, h2, h3, h4, h5, h6⟩ := h h0
  exact ⟨b, N, f, e, h1, h2, h3, h4.of_block (hk b h1 h2), h5, h6.keep hk⟩

theorem TabOwn.more {w : World} {lo hi lo' hi' : Nat} {T : Option Addr} {A : Nat → Option Addr} {C : Nat → Nat} {g : List (List Int)} (h : TabOwn w lo hi T A C g) (h1 : lo' ≤ lo) (h2 : hi ≤ hi') : TabOwn w lo' hi' T A C g := fun h0 => by
  obtain ⟨b, N, f, e, k1, k2, h3, h4, h5, h6⟩ := h h0
  exact ⟨b, N, f, e, by omega, by omega, h3, h4, h5, ⟨h6.cap, fun i hi => (h6.own i hi).more h1 h2, h6.apart⟩⟩

/-- the blocks of a table's rows -/
def RowAtB (A : Nat → Option Addr) (g : List (List Int)) (b : Nat) : Prop := ∃ i, i < g.length ∧ 0 < (rowAt g i).length ∧ A i = some ⟨b, 0, none⟩

/-- nothing has turned but, perhaps, the blocks of which K speaks -/
structure TouchS (K : Nat → Prop) (w w' : World) : Prop where
  os : w'.os = w.os
  tape : w'.tape = w.tape
  output : w'.output = w.output
  size : w'.heap.size = w.heap.size
  block : ∀ b, ¬ K b → w'.heap[b]? = w.heap[b]?

theorem TouchS.refl (K : Nat → Prop) (w : World) : TouchS K w w := ⟨rfl, rfl, rfl, rfl, fun _ _ => rfl⟩

theorem TouchS.trans {K : Nat → Prop} {a b c : World} (h : TouchS K a b) (k : TouchS K b c) : TouchS K a c :=
  ⟨k.os.trans h.os, k.tape.trans h.tape, k.output.trans h.output, k.size.trans h.size, fun i hi => (k.block i hi).trans (h.block i hi)⟩

theorem TouchS.mono {K L : Nat → Prop} {a b : World} (h : TouchS K a b) (hk : ∀ x, K x → L x) : TouchS L a b := ⟨h.os, h.tape, h.output, h.size, fun i hi => h.block i fun hx => hi (hk i hx)⟩

theorem TouchS.off {K : Nat → Prop} {lo hi : Nat} {a b : World} (h : TouchS K a b) (hk : ∀ x, K x → lo ≤ x ∧ x < hi) : Off lo hi a b := ⟨h.os, h.tape, h.output, h.size, fun i hi => h.block i fun hx => hi (hk i hx)⟩

theorem Touch.touchS {n : Nat} {A : Option Addr} {w w' : World} (h : Touch n A w w') : TouchS (fun b => 0 < n ∧ A = some ⟨b, 0, none⟩) w w' :=
  ⟨h.os, h.tape, h.output, h.size, fun b hb => h.block b fun h0 e => hb ⟨h0, e⟩⟩

theorem TabOwn.rows_in {w : World} {lo hi : Nat} {T : Option Addr} {A : Nat → Option Addr} {C : Nat → Nat} {g : List (List Int)} (h : TabOwn w lo hi T A C g) {b : Nat} (hb : RowAtB A g b) : lo ≤ b ∧ b < hi := by
  obtain ⟨i, hi, h0, e⟩ := hb
  obtain ⟨_, _, _, _, _, _, _, _, _, h6⟩ := h (by omega)
  obtain ⟨b', _, _, e', h1, h2, _⟩ := h6.own i hi h0
  rw [e] at e'; injection e' with e'; injection e' with e'; subst e'; exact ⟨h1, h2⟩

theorem marks_row_len (g : List (List Int)) (k : Int) {i : Nat} (hi : i < g.length) : (rowAt (marks g k) i).length = (rowAt g i).length := by rw [rowAt_marks g k i hi, seqN_length]

theorem RowAtB.marks {A : Nat → Option Addr} {g : List (List Int)} {k : Int} {b : Nat} : RowAtB A (marks g k) b ↔ RowAtB A g b := by
  constructor
  · rintro ⟨i, hi, h0, e⟩
    rw [marks_length] at hi
    rw [marks_row_len g k hi] at h0
    exact ⟨i, hi, h0, e⟩
  · rintro ⟨i, hi, h0, e⟩
    exact ⟨i, by rw [marks_length]; exact hi, by rw [marks_row_len g k hi]; exact h0, e⟩

/-- the blocks that rows of cells do not lie in are no rows' -/
theorem TabOwn.touch {w w' : World} {lo hi : Nat} {T : Option Addr} {A : Nat → Option Addr} {C : Nat → Nat} {g : List (List Int)} {K : Nat → Prop} (h : TabOwn w lo hi T A C g) (ht : TouchS K w w') (hK : ∀ b, K b → ∃ N f, w.rowIs b 3 N f) (hA : ∀ b, K b → ¬ RowAtB A g b) : TabOwn w' lo hi T A C g := fun h0 => by
  obtain ⟨b, N, f, e, h1, h2, h3, h4, h5, h6⟩ := h h0
  refine ⟨b, N, f, e, h1, h2, h3, h4.of_block (ht.block b fun hk => ?_), h5, ⟨h6.cap, fun i hi h0' => ?_, h6.apart⟩⟩
  · obtain ⟨N', f', h'⟩ := hK b hk
    exact rowIs_ne h4 h' (by decide) rfl
  · obtain ⟨b', N', f', e', k1, k2, k3, k4, k5⟩ := h6.own i hi h0'
    exact ⟨b', N', f', e', k1, k2, k3.of_block (ht.block b' fun hk => hA b' hk ⟨i, hi, h0', e'⟩), k4, k5⟩

end Go.Proofs.Ytlkjpmdnhccdpaa

namespace Go.Proofs.Ytlkjpmdnhccdpaa
set_option linter.unusedSimpArgs false
set_option linter.unusedVariables false
open Go.RowKit

/-- table number t of a desk -/
def tabD (d : Dk) : Nat → List (List Int)
  | 0 => d.now
  | t + 1 => tabAt d.past t

/-- where a desk's tables lie -/
structure OwnDk (w : World) (lo hi : Nat) (TN TP : Option Addr) (d : Dk) (A : Nat → Nat → Option Addr) (C : Nat → Nat → Nat) (TT : Nat → Option Addr) (CC : Nat → Nat) : Prop where
  now : TabOwn w lo hi TN (A 0) (C 0) d.now
  past : 0 < d.past.length → ∃ (b off N : Nat) (f : Nat → Value), TP = some ⟨b, off, none⟩ ∧ lo ≤ b ∧ b < hi ∧ off + d.past.length ≤ N ∧ w.rowIs b 23 N f ∧
    ∀ i, i < d.past.length → f (off + i) = .slice (TT i) (tabAt d.past i).length (CC i) ∧ (tabAt d.past i).length ≤ CC i ∧ CC i ≤ maxLen
  tabs : ∀ i, i < d.past.length → TabOwn w lo hi (TT i) (A (i + 1)) (C (i + 1)) (tabAt d.past i)
  apart : ∀ s t b, s ≤ d.past.length → t ≤ d.past.length → s ≠ t → RowAtB (A s) (tabD d s) b → ¬ RowAtB (A t) (tabD d t) b

theorem OwnDk.keep {w w' : World} {lo hi : Nat} {TN TP : Option Addr} {d : Dk} {A : Nat → Nat → Option Addr} {C : Nat → Nat → Nat} {TT : Nat → Option Addr} {CC : Nat → Nat} (h : OwnDk w lo hi TN TP d A C TT CC) (hk : ∀ b, lo ≤ b → b < hi → w'.heap[b]? = w.heap[b]?) : OwnDk w' lo hi TN TP d A C TT CC := by
  refine ⟨h.now.keep hk, fun h0 => ?_, fun i hi => (h.tabs i hi).keep hk, h.apart⟩
  obtain ⟨b, off, N, f, e, h1, h2, h3, h4, h5⟩ := h.past h0
  exact ⟨b, off, N, f, e, h1, h2, h3, h4.of_block (hk b h1 h2), h5⟩

theorem OwnDk.more {w : World} {lo hi lo' hi' : Nat} {TN TP : Option Addr} {d : Dk} {A : Nat → Nat → Option Addr} {C : Nat → Nat → Nat} {TT : Nat → Option Addr} {CC : Nat → Nat} (h : OwnDk w lo hi TN TP d A C TT CC) (h1 : lo' ≤ lo) (h2 : hi ≤ hi') : OwnDk w lo' hi' TN TP d A C TT CC := by
  refine ⟨h.now.more h1 h2, fun h0 => ?_, fun i hi => (h.tabs i hi).more h1 h2, h.apart⟩
  obtain ⟨b, off, N, f, e, k1, k2, h3, h4, h5⟩ := h.past h0
  exact ⟨b, off, N, f, e, by omega, by omega, h3, h4, h5⟩

theorem OwnDk.rows3 {w : World} {lo hi : Nat} {TN TP : Option Addr} {d : Dk} {A : Nat → Nat → Option Addr} {C : Nat → Nat → Nat} {TT : Nat → Option Addr} {CC : Nat → Nat} (h : OwnDk w lo hi TN TP d A C TT CC) : Rows3 w (fun b => lo ≤ b ∧ b < hi) TP d.past := fun h0 => by
  obtain ⟨b, off, N, f, e, h1, h2, h3, h4, h5⟩ := h.past h0
  refine ⟨b, off, e, ⟨h1, h2⟩, fun i hi => ⟨TT i, CC i, ?_, (h5 i hi).2.1, (h5 i hi).2.2, (h.tabs i hi).own.rows2⟩⟩
  rw [h4.cell (by omega), (h5 i hi).1]

theorem OwnDk.rows2 {w : World} {lo hi : Nat} {TN TP : Option Addr} {d : Dk} {A : Nat → Nat → Option Addr} {C : Nat → Nat → Nat} {TT : Nat → Option Addr} {CC : Nat → Nat} (h : OwnDk w lo hi TN TP d A C TT CC) : Rows2 w (fun b => lo ≤ b ∧ b < hi) TN d.now := h.now.own.rows2

/-- the cells of the first i tables -/
def sumP (p : List (List (List Int))) : Nat → Nat
  | 0 => 0
  | i + 1 => sumP p i + sumN (tabAt p i) (tabAt p i).length

theorem sumP_mono (p : List (List (List Int))) {i j : Nat} (h : i ≤ j) : sumP p i ≤ sumP p j := by
  induction j with
  | zero => have : i = 0 := by omega
            subst this; exact Nat.le_refl _
  | succ j ih =>
    by_cases e : i = j + 1
    · subst e; exact Nat.le_refl _
    · have := ih (by omega); simp only [sumP]; omega

theorem tab_le_sumP (p : List (List (List Int))) {i n : Nat} (h : i < n) : sumN (tabAt p i) (tabAt p i).length ≤ sumP p n := by
  have := sumP_mono p (show i + 1 ≤ n by omega)
  simp only [sumP] at this; omega

def marksP (p : List (List (List Int))) (k : Int) : List (List (List Int)) := (List.range p.length).map fun i => marks (tabAt p i) (k + (sumP p i : Int))

theorem marksP_length (p : List (List (List Int))) (k : Int) : (marksP p k).length = p.length := by simp [marksP]

theorem tabAt_marksP (p : List (List (List Int))) (k : Int) {i : Nat} (h : i < p.length) : tabAt (marksP p k) i = marks (tabAt p i) (k + (sumP p i : Int)) := by unfold marksP tabAt; simp [h]

/-- a desk numbered through from k on -/
def marksD (d : Dk) (k : Int) : Dk := ⟨marks d.now k, marksP d.past (k + (sumN d.now d.now.length : Int))⟩

/-- how many numbers a desk has -/
def sizeD (d : Dk) : Nat := sumN d.now d.now.length + sumP d.past d.past.length

/-- while tables are numbered through: table t of a desk, the first m of past ones -/
def partP (p : List (List (List Int))) (k : Int) (m i : Nat) : List (List Int) := if i < m then marks (tabAt p i) (k + (sumP p i : Int)) else tabAt p i

theorem partP_len (p : List (List (List Int))) (k : Int) (m i : Nat) : (partP p k m i).length = (tabAt p i).length := by unfold partP; split <;> simp [marks_length]

theorem partP_rows (p : List (List (List Int))) (k : Int) (m i : Nat) (A : Nat → Option Addr) (b : Nat) : RowAtB A (partP p k m i) b ↔ RowAtB A (tabAt p i) b := by
  unfold partP; split
  · exact RowAtB.marks
  · exact Iff.rfl

end Go.Proofs.Ytlkjpmdnhccdpaa

namespace Go.Proofs.Ytlkjpmdnhccdpaa
set_option linter.unusedSimpArgs false
set_option linter.unusedVariables false
open Go.RowKit

/-- what szIntSS leaves, told with what is left -/
def SizedR (g : List (List Int)) (left : Int) (w : World) (e : Ending) (w' : World) : Prop :=
  ∃ r : Int, e = .returned (.int .i64 r) ∧ w = w' ∧ (r < 0 ∨ (0 ≤ r ∧ (g.length : Int) + (sumN g g.length : Nat) + r ≤ left))

set_option maxHeartbeats 1000000 in
theorem szIntSSr (A : Option Addr) (c : Nat) (g : List (List Int)) (S : Nat → Prop) (left : Int) (hl : g.length ≤ maxLen) (h0 : 0 ≤ left) (h1 : left ≤ 4294967296) (w : World) (h : Rows2 w S A g) :
    Calls Try.prog 50 #[.slice A g.length c, .int .i64 left] w (SizedR g left w) := by
  unfold maxLen at hl
  by_cases hb : left - (g.length : Int) < 0
  · go_enter Try.func50, Try.ntmps50
    go_wp2_with fail
    go_ret
    exact ⟨-1, rfl, rfl, .inl (by omega)⟩
  · have HH := Lib.hid h
    clear h
    go_enter Try.func50, Try.ntmps50
    go_wp2_with fail
    go_loop [1, 5] (fun v i => ∃ (k : Nat) (r : Int), k ≤ g.length ∧ i = .int .i64 k ∧ v = .int .i64 r ∧ 0 ≤ r ∧ r ≤ left ∧ (g.length : Int) + (sumN g k : Nat) + r ≤ left) (fun _ i => g.length - (intOf i).toNat)
    case atStart => exact ⟨0, _, Nat.zero_le _, rfl, rfl, by omega, by omega, by simp [sumN]; omega⟩
    case round =>
      obtain ⟨k, r, hk, rfl, rfl, hr0, hr1, hr2⟩ := hrel
      by_cases hlt : k < g.length
      · obtain ⟨b, off, rfl⟩ := HH.out.some (by omega)
        obtain ⟨hS, Ak, ck, hck, hlk, hmk, _⟩ := HH.out.row hlt
        unfold maxLen at hmk
        by_cases hb2 : r - ((rowAt g k).length : Int) < 0
        · go_wp2_with fail
          refine (szIntS _ _ _ _ (by omega) hr0 (by omega) _).mono ?_
          rintro e w1 ⟨rfl, rfl⟩
          rw [if_pos (by omega)]
          go_wp2_with fail
          go_ret
          exact ⟨-1, rfl, rfl, .inl (by omega)⟩
        · go_wp2_with fail
          refine (szIntS _ _ _ _ (by omega) hr0 (by omega) _).mono ?_
          rintro e w1 ⟨rfl, rfl⟩
          rw [if_neg (by omega)]
          go_wp2_with fail
          go_round
          case rel => exact ⟨k + 1, _, by omega, by go_num, rfl, by omega, by omega, by simp only [sumN]; omega⟩
          case measure => simp [intOf]; omega
      · obtain rfl : k = g.length := by omega
        go_wp2_with fail
        go_ret
        exact ⟨r, rfl, rfl, .inr ⟨hr0, by omega⟩⟩

/-- rows and numbers of the first i tables -/
def szP (p : List (List (List Int))) : Nat → Nat
  | 0 => 0
  | i + 1 => szP p i + ((tabAt p i).length + sumN (tabAt p i) (tabAt p i).length)

theorem szP_mono (p : List (List (List Int))) {i j : Nat} (h : i ≤ j) : szP p i ≤ szP p j := by
  induction j with
  | zero => have : i = 0 := by omega
            subst this; exact Nat.le_refl _
  | succ j ih =>
    by_cases e : i = j + 1
    · subst e; exact Nat.le_refl _
    · have := ih (by omega); simp only [szP]; omega

theorem tab_le_szP (p : List (List (List Int))) {i n : Nat} (h : i < n) : (tabAt p i).length + sumN (tabAt p i) (tabAt p i).length ≤ szP p n := by
  have := szP_mono p (show i + 1 ≤ n by omega)
  simp only [szP] at this; omega

theorem sumP_le_szP (p : List (List (List Int))) (n : Nat) : sumP p n ≤ szP p n := by
  induction n with
  | zero => exact Nat.le_refl _
  | succ n ih => simp only [sumP, szP]; omega

/-- what szIntSSS leaves -/
def SizedP (p : List (List (List Int))) (left : Int) (w : World) (e : Ending) (w' : World) : Prop :=
  ∃ r : Int, e = .returned (.int .i64 r) ∧ w = w' ∧ (r < 0 ∨ (0 ≤ r ∧ (p.length : Int) + (szP p p.length : Nat) + r ≤ left))

set_option maxHeartbeats 1000000 in
theorem szIntSSS_c (A : Option Addr) (c : Nat) (p : List (List (List Int))) (S : Nat → Prop) (left : Int) (hl : p.length ≤ maxLen) (h0 : 0 ≤ left) (h1 : left ≤ 4294967296) (w : World) (h : Rows3 w S A p) :
    Calls Try.prog 51 #[.slice A p.length c, .int .i64 left] w (SizedP p left w) := by
  unfold maxLen at hl
  by_cases hb : left - (p.length : Int) < 0
  · go_enter Try.func51, Try.ntmps51
    go_wp2_with fail
    go_ret
    exact ⟨-1, rfl, rfl, .inl (by omega)⟩
  · have HH := Lib.hid h
    clear h
    go_enter Try.func51, Try.ntmps51
    go_wp2_with fail
    go_loop [1, 5] (fun v i => ∃ (k : Nat) (r : Int), k ≤ p.length ∧ i = .int .i64 k ∧ v = .int .i64 r ∧ 0 ≤ r ∧ r ≤ left ∧ (p.length : Int) + (szP p k : Nat) + r ≤ left) (fun _ i => p.length - (intOf i).toNat)
    case atStart => exact ⟨0, _, Nat.zero_le _, rfl, rfl, by omega, by omega, by simp [szP]; omega⟩
    case round =>
      obtain ⟨k, r, hk, rfl, rfl, hr0, hr1, hr2⟩ := hrel
      by_cases hlt : k < p.length
      · obtain ⟨b, off, rfl⟩ := HH.out.some (by omega)
        obtain ⟨hS, Ak, ck, hck, hlk, hmk, hik⟩ := HH.out.tab hlt
        have HI := Lib.hid hik
        have hmk2 := Nat.le_trans hlk hmk
        clear hik
        unfold maxLen at hmk
        go_wp2_with fail
        refine (szIntSSr _ _ (tabAt p k) S r hmk2 hr0 (by omega) _ HI.out).mono ?_
        rintro e w1 ⟨q, rfl, rfl, hq⟩
        by_cases hb2 : q < 0
        · clear hq
          go_wp2_with fail
          go_ret
          exact ⟨-1, rfl, rfl, .inl (by omega)⟩
        · have hq0 : 0 ≤ q := by omega
          have hq2 : (p.length : Int) + (szP p (k + 1) : Nat) + q ≤ left := by simp only [szP]; omega
          have hq1 : q ≤ left := by omega
          clear hq
          go_wp2_with fail
          go_round
          case rel => exact ⟨k + 1, _, by omega, by go_num, rfl, hq0, hq1, hq2⟩
          case measure => simp [intOf]; omega
      · obtain rfl : k = p.length := by omega
        go_wp2_with fail
        go_ret
        exact ⟨r, rfl, rfl, .inr ⟨hr0, hr2⟩⟩

set_option maxHeartbeats 1000000 in
theorem eqIntSSS_c (A B : Option Addr) (c d : Nat) (p : List (List (List Int))) (S T : Nat → Prop) (hl : p.length ≤ maxLen) (w : World) (h : Rows3 w S A p) (h' : Rows3 w T B p) :
    Calls Try.prog 57 #[.slice A p.length c, .slice B p.length d] w (Quiet (.bool true) w) := by
  unfold maxLen at hl
  have z1 : ((p.length : Int) != (p.length : Int)) = false := by simp
  have HH := Lib.hid h
  have HK := Lib.hid h'
  clear h h'
  go_enter Try.func57, Try.ntmps57
  go_wp2_with fail
  go_loopw [5] (fun i wr => ∃ k : Nat, k ≤ p.length ∧ i = .int .i64 k ∧ ∃ n, wr = w.drewN n) (fun i _ => p.length - (intOf i).toNat)
  case atStart => exact ⟨0, Nat.zero_le _, rfl, (by first | exact ⟨0, rfl⟩ | exact ⟨_, rfl⟩ | exact ⟨_, World.drewN_drewN _ _ _⟩ | (simp only [World.drewN_drewN]; exact ⟨_, rfl⟩))⟩
  case round =>
    obtain ⟨k, hk, rfl, n, rfl⟩ := hrel
    by_cases hlt : k < p.length
    · obtain ⟨b, off, rfl⟩ := HH.out.some (by omega)
      obtain ⟨b', off', rfl⟩ := HK.out.some (by omega)
      obtain ⟨hS, Ak, ck, hck, hlk, hmk, hik⟩ := HH.out.tab hlt
      obtain ⟨hS', Bk, dk, hdk, hlk', hmk', hik'⟩ := HK.out.tab hlt
      have HI := Lib.hid hik
      have HJ := Lib.hid hik'
      clear hik hik'
      have hmk2 := hmk
      unfold maxLen at hmk hmk'
      go_wp2_with fail
      go_quiet ((go_at_call 56; exact quietAdd (eqIntSS _ _ _ _ (tabAt p k) S T (Nat.le_trans hlk hmk2) _ (HI.out.drewN _) (HJ.out.drewN _))))
      go_wp2_with fail
      go_roundw
      case rel => exact ⟨k + 1, by omega, by go_num, (by first | exact ⟨0, rfl⟩ | exact ⟨_, rfl⟩ | exact ⟨_, World.drewN_drewN _ _ _⟩ | (simp only [World.drewN_drewN]; exact ⟨_, rfl⟩))⟩
      case measure => simp [intOf]; omega
    · obtain rfl : k = p.length := by omega
      go_wp2_with fail
      go_ret
      exact Quiet.ofD rfl (by first | exact ⟨0, rfl⟩ | exact ⟨_, rfl⟩ | exact ⟨_, World.drewN_drewN _ _ _⟩ | (simp only [World.drewN_drewN]; exact ⟨_, rfl⟩))

set_option maxHeartbeats 1000000 in
theorem heldIntSSS_c (T : Option Addr) (c : Nat) (p : List (List (List Int))) (S : Nat → Prop) (k : Int) (hl : p.length ≤ 4294967296) (hm : ∀ i, i < p.length → (tabAt p i).length ≤ 4294967296) (hs : sumP p p.length ≤ 2147483648) (h0 : 0 ≤ k) (h1 : k + (sumP p p.length : Int) ≤ 2147483648) (w : World) (h : Rows3 w S T (marksP p k)) :
    Calls Try.prog 61 #[.slice T p.length c, .int .i64 k] w (Same (.int .i64 (k + (sumP p p.length : Int))) w) := by
  have HH := Lib.hid h
  have HL := Lib.hid (marksP_length p k)
  have HM := Lib.hid hm
  clear h hm
  go_enter Try.func61, Try.ntmps61
  go_wp2_with fail
  go_loop [1, 5] (fun v i => ∃ m : Nat, m ≤ p.length ∧ i = .int .i64 m ∧ v = .int .i64 (k + (sumP p m : Int))) (fun _ i => p.length - (intOf i).toNat)
  case atStart => exact ⟨0, Nat.zero_le _, rfl, by simp [sumP]⟩
  case round =>
    obtain ⟨m, hm, rfl, rfl⟩ := hrel
    by_cases hlt : m < p.length
    · obtain ⟨b, off, rfl⟩ := HH.out.some (by rw [HL.out]; omega)
      obtain ⟨hS, Am, cm, hcm, hlm, hmm, him⟩ := HH.out.tab (i := m) (by rw [HL.out]; exact hlt)
      rw [tabAt_marksP p k hlt] at him
      rw [tabAt_marksP p k hlt, marks_length] at hcm hlm
      unfold maxLen at hmm
      have HI := Lib.hid him
      have hsm := sumP_mono p (Nat.le_of_lt hlt)
      have hsr := tab_le_sumP p hlt
      clear him
      go_wp2_with fail
      refine (heldIntSS _ _ (tabAt p m) S _ (HM.out m hlt) (by omega) (by omega) (by omega) _ HI.out).mono ?_
      rintro e w2 ⟨rfl, rfl⟩
      have HS : Hid (k + (sumP p m : Int) + (sumN (tabAt p m) (tabAt p m).length : Int) = k + (sumP p (m + 1) : Int)) := by show _ = _; simp only [sumP]; omega
      rw [HS.out]
      go_wp2_with fail
      go_round
      case rel => exact ⟨m + 1, by omega, by go_num, rfl⟩
      case measure => simp [intOf]; omega
    · obtain rfl : m = p.length := by omega
      go_wp2_with fail
      go_ret
      exact Same.of rfl

end Go.Proofs.Ytlkjpmdnhccdpaa

namespace Go.Proofs.Ytlkjpmdnhccdpaa
set_option linter.unusedSimpArgs false
set_option linter.unusedVariables false
open Go.RowKit

theorem TabOwn.cells {w : World} {lo hi : Nat} {T : Option Addr} {A : Nat → Option Addr} {C : Nat → Nat} {g : List (List Int)} (h : TabOwn w lo hi T A C g) {b : Nat} (hb : RowAtB A g b) : ∃ N f, w.rowIs b 3 N f := by
  obtain ⟨i, hi, h0, e⟩ := hb
  obtain ⟨_, _, _, _, _, _, _, _, _, h6⟩ := h (by omega)
  obtain ⟨b', N, f, e', _, _, h3, _⟩ := h6.own i hi h0
  rw [e] at e'; injection e' with e'; injection e' with e'; subst e'; exact ⟨N, f, h3⟩

theorem Marking.tab {w wr : World} {lo hi b N : Nat} {f : Nat → Value} {A : Nat → Option Addr} {C : Nat → Nat} {g : List (List Int)} {k : Int} (h : Marking w wr lo hi b N f A g k g.length) (h1 : lo ≤ b) (h2 : b < hi) (hN : g.length ≤ N)
    (hf : ∀ i, i < g.length → f i = .slice (A i) (rowAt g i).length (C i)) (hR : RowsOwn w lo hi A C g) : TabOwn wr lo hi (some ⟨b, 0, none⟩) A C (marks g k) := by
  intro _
  have hlen : ∀ i, i < g.length → (rowAt (marks g k) i).length = (rowAt g i).length := fun i hi => by rw [rowAt_marks g k i hi, seqN_length]
  refine ⟨b, N, f, rfl, h1, h2, by rw [marks_length]; exact hN, h.top, fun i hi => ?_, ⟨fun i hi => ?_, fun i hi => ?_, fun i j hi hj hne p q => ?_⟩⟩
  · rw [marks_length] at hi; rw [hf i hi, hlen i hi]
  · rw [marks_length] at hi; rw [hlen i hi]; exact hR.cap i hi
  · rw [marks_length] at hi
    have := h.rows i hi
    rw [if_pos hi] at this
    rw [rowAt_marks g k i hi]; exact this
  · rw [marks_length] at hi hj
    rw [hlen i hi] at p
    rw [hlen j hj] at q
    exact hR.apart i j hi hj hne p q

set_option maxHeartbeats 1000000 in
theorem markTab_c (T : Option Addr) (A : Nat → Option Addr) (C : Nat → Nat) (c : Nat) (g : List (List Int)) (lo hi : Nat) (k : Int) (hl : g.length ≤ 4294967296) (hs : sumN g g.length ≤ 2147483648) (h0 : 0 ≤ k) (h1 : k ≤ 2147483648) (w : World) (h : TabOwn w lo hi T A C g) :
    Calls Try.prog 58 #[.slice T g.length c, .int .i64 k] w fun e w' => e = .returned (.int .i64 (k + (sumN g g.length : Int))) ∧ TouchS (RowAtB A g) w w' ∧ TabOwn w' lo hi T A C (marks g k) := by
  by_cases hz : g.length = 0
  · have H := Lib.hid hz
    have hd : decide ((0 : Int) < (g.length : Int)) = false := decide_eq_false (by omega)
    have HK : Hid (k = k + (sumN g g.length : Int)) := by show k = _; rw [hz]; simp [sumN]
    have HM : Hid (TabOwn w lo hi T A C (marks g k)) := fun hh => by rw [marks_length] at hh; omega
    have hz2 : ¬ (0 : Int) < (g.length : Int) := by omega
    clear hz
    go_enter Try.func58, Try.ntmps58
    go_wp2_with fail
    go_loop [1, 5] (fun v i => i = .int .i64 0 ∧ v = .int .i64 k) (fun _ _ => 0)
    case atStart => exact ⟨rfl, rfl⟩
    case round =>
      obtain ⟨rfl, rfl⟩ := hrel
      go_wp2_with fail
      go_ret
      rw [← HK.out]
      exact ⟨rfl, TouchS.refl _ _, HM⟩
  obtain ⟨b, N, f, rfl, hb1, hb2, hN, hr, hf, hR⟩ := h (by omega)
  have M0 : Hid (Marking w w lo hi b N f A g k 0 ∧ TouchS (RowAtB A g) w w) := ⟨⟨Off.refl _ _ _, hr, fun r hr => by rw [if_neg (by omega)]; exact hR.own r hr⟩, TouchS.refl _ _⟩
  have HF := Lib.hid hf
  have HR := Lib.hid hR
  clear h hr hz hf hR
  go_enter Try.func58, Try.ntmps58
  go_wp2_with fail
  go_loopw [1, 5] (fun v i wr => ∃ m : Nat, m ≤ g.length ∧ i = .int .i64 m ∧ v = .int .i64 (k + (sumN g m : Int)) ∧ Hid (Marking w wr lo hi b N f A g k m ∧ TouchS (RowAtB A g) w wr)) (fun _ i _ => g.length - (intOf i).toNat)
  case atStart => exact ⟨0, Nat.zero_le _, rfl, by simp [sumN], M0⟩
  case round =>
    obtain ⟨m, hm, rfl, rfl, HM⟩ := hrel
    by_cases hlt : m < g.length
    · have hcell := HM.out.1.top.cell (i := m) (by omega)
      rw [HF.out m hlt] at hcell
      obtain ⟨hc1, hc2⟩ := HR.out.cap m hlt
      unfold maxLen at hc2
      have hsm := sumN_mono g (Nat.le_of_lt hlt)
      have hsr := row_le_sumN g hlt
      have HO : Hid (OwnI wr lo hi (A m) (rowAt g m)) := by have := HM.out.1.rows m hlt; rwa [if_neg (Nat.lt_irrefl m)] at this
      go_wp2_with fail
      refine (markIntS _ _ (rowAt g m) lo hi _ (by omega) (by omega) (by omega) _ HO.out).mono ?_
      rintro e w2 ⟨rfl, ht, ho⟩
      have HN := Lib.hid (And.intro (HM.out.1.step hlt HR.out ht ho) (HM.out.2.trans (ht.touchS.mono fun x hx => ⟨m, hlt, hx.1, hx.2⟩)))
      have HS : Hid (k + (sumN g m : Int) + ((rowAt g m).length : Int) = k + (sumN g (m + 1) : Int)) := by show _ = _; simp only [sumN]; omega
      rw [HS.out]
      clear ht ho
      go_wp2_with fail
      go_roundw
      case rel => exact ⟨m + 1, by omega, by go_num, rfl, HN⟩
      case measure => simp [intOf]; omega
    · obtain rfl : m = g.length := by omega
      go_wp2_with fail
      go_ret
      exact ⟨rfl, HM.out.2, HM.out.1.tab hb1 hb2 hN HF.out HR.out⟩

/-- where the tables of before lie -/
structure PastOwn (w : World) (lo hi : Nat) (TP : Option Addr) (p : List (List (List Int))) (A : Nat → Nat → Option Addr) (C : Nat → Nat → Nat) (TT : Nat → Option Addr) (CC : Nat → Nat) : Prop where
  top : 0 < p.length → ∃ (b off N : Nat) (f : Nat → Value), TP = some ⟨b, off, none⟩ ∧ lo ≤ b ∧ b < hi ∧ off + p.length ≤ N ∧ w.rowIs b 23 N f ∧
    ∀ i, i < p.length → f (off + i) = .slice (TT i) (tabAt p i).length (CC i) ∧ (tabAt p i).length ≤ CC i ∧ CC i ≤ maxLen
  tabs : ∀ i, i < p.length → TabOwn w lo hi (TT i) (A i) (C i) (tabAt p i)
  apart : ∀ s t b, s < p.length → t < p.length → s ≠ t → RowAtB (A s) (tabAt p s) b → ¬ RowAtB (A t) (tabAt p t) b

theorem OwnDk.pastOwn {w : World} {lo hi : Nat} {TN TP : Option Addr} {d : Dk} {A : Nat → Nat → Option Addr} {C : Nat → Nat → Nat} {TT : Nat → Option Addr} {CC : Nat → Nat} (h : OwnDk w lo hi TN TP d A C TT CC) : PastOwn w lo hi TP d.past (fun i => A (i + 1)) (fun i => C (i + 1)) TT CC :=
  ⟨h.past, h.tabs, fun s t b hs ht hne => h.apart (s + 1) (t + 1) b (by omega) (by omega) (by omega)⟩

/-- the blocks of the rows of all tables of before -/
def PastRow (A : Nat → Nat → Option Addr) (p : List (List (List Int))) (b : Nat) : Prop := ∃ t, t < p.length ∧ RowAtB (A t) (tabAt p t) b

/-- while tables are numbered through: the first m are -/
structure MarkP (w wr : World) (lo hi b N : Nat) (f : Nat → Value) (A : Nat → Nat → Option Addr) (C : Nat → Nat → Nat) (TT : Nat → Option Addr) (p : List (List (List Int))) (k : Int) (m : Nat) : Prop where
  touch : TouchS (PastRow A p) w wr
  top : wr.rowIs b 23 N f
  tabs : ∀ i, i < p.length → TabOwn wr lo hi (TT i) (A i) (C i) (partP p k m i)

theorem partP_at (p : List (List (List Int))) (k : Int) (m : Nat) : partP p k m m = tabAt p m := if_neg (Nat.lt_irrefl m)

theorem partP_next (p : List (List (List Int))) (k : Int) (m : Nat) : partP p k (m + 1) m = marks (tabAt p m) (k + (sumP p m : Int)) := if_pos (Nat.lt_succ_self m)

theorem partP_other (p : List (List (List Int))) (k : Int) {m i : Nat} (h : i ≠ m) : partP p k (m + 1) i = partP p k m i := by
  unfold partP
  by_cases h1 : i < m
  · rw [if_pos h1, if_pos (by omega)]
  · rw [if_neg h1, if_neg (by omega)]

theorem MarkP.step {w wr w2 : World} {lo hi b N : Nat} {f : Nat → Value} {A : Nat → Nat → Option Addr} {C : Nat → Nat → Nat} {TT : Nat → Option Addr} {p : List (List (List Int))} {k : Int} {m : Nat} (h : MarkP w wr lo hi b N f A C TT p k m) (hm : m < p.length)
    (hap : ∀ s t b, s < p.length → t < p.length → s ≠ t → RowAtB (A s) (tabAt p s) b → ¬ RowAtB (A t) (tabAt p t) b)
    (ht : TouchS (RowAtB (A m) (tabAt p m)) wr w2) (ho : TabOwn w2 lo hi (TT m) (A m) (C m) (marks (tabAt p m) (k + (sumP p m : Int)))) : MarkP w w2 lo hi b N f A C TT p k (m + 1) := by
  have own_m := h.tabs m hm
  rw [partP_at] at own_m
  refine ⟨h.touch.trans (ht.mono fun x hx => ⟨m, hm, hx⟩), h.top.of_block (ht.block _ fun hx => ?_), fun i hi => ?_⟩
  · obtain ⟨N', f', h'⟩ := own_m.cells hx
    exact rowIs_ne h.top h' (by decide) rfl
  · by_cases e : i = m
    · subst e; rw [partP_next]; exact ho
    · rw [partP_other p k e]
      refine (h.tabs i hi).touch ht (fun b hb => own_m.cells hb) (fun b hb hx => ?_)
      rw [partP_rows] at hx
      exact hap m i b hm hi (Ne.symm e) hb hx

theorem MarkP.done {w wr : World} {lo hi b off N : Nat} {f : Nat → Value} {A : Nat → Nat → Option Addr} {C : Nat → Nat → Nat} {TT : Nat → Option Addr} {CC : Nat → Nat} {p : List (List (List Int))} {k : Int} (h : MarkP w wr lo hi b N f A C TT p k p.length) (h1 : lo ≤ b) (h2 : b < hi) (hN : off + p.length ≤ N)
    (hf : ∀ i, i < p.length → f (off + i) = .slice (TT i) (tabAt p i).length (CC i) ∧ (tabAt p i).length ≤ CC i ∧ CC i ≤ maxLen)
    (hap : ∀ s t b, s < p.length → t < p.length → s ≠ t → RowAtB (A s) (tabAt p s) b → ¬ RowAtB (A t) (tabAt p t) b) : PastOwn wr lo hi (some ⟨b, off, none⟩) (marksP p k) A C TT CC := by
  have e1 := marksP_length p k
  have e2 : ∀ i, i < p.length → (tabAt (marksP p k) i).length = (tabAt p i).length := fun i hi => by rw [tabAt_marksP p k hi, marks_length]
  refine ⟨fun _ => ⟨b, off, N, f, rfl, h1, h2, by rw [e1]; exact hN, h.top, fun i hi => ?_⟩, fun i hi => ?_, fun s t b hs ht hne hb => ?_⟩
  · rw [e1] at hi; rw [e2 i hi]; exact hf i hi
  · rw [e1] at hi
    have := h.tabs i hi
    unfold partP at this
    rw [if_pos hi] at this
    rw [tabAt_marksP p k hi]; exact this
  · rw [e1] at hs ht
    rw [tabAt_marksP p k hs] at hb
    rw [tabAt_marksP p k ht]
    exact fun hx => hap s t b hs ht hne (RowAtB.marks.1 hb) (RowAtB.marks.1 hx)

set_option maxHeartbeats 1000000 in
theorem markIntSSS_c (TP : Option Addr) (A : Nat → Nat → Option Addr) (C : Nat → Nat → Nat) (TT : Nat → Option Addr) (CC : Nat → Nat) (c : Nat) (p : List (List (List Int))) (lo hi : Nat) (k : Int) (hl : p.length ≤ 4294967296) (hm : ∀ i, i < p.length → (tabAt p i).length ≤ 4294967296) (hs : sumP p p.length ≤ 2147483648) (h0 : 0 ≤ k) (h1 : k + (sumP p p.length : Int) ≤ 2147483648) (w : World) (h : PastOwn w lo hi TP p A C TT CC) :
    Calls Try.prog 59 #[.slice TP p.length c, .int .i64 k] w fun e w' => e = .returned (.int .i64 (k + (sumP p p.length : Int))) ∧ TouchS (PastRow A p) w w' ∧ PastOwn w' lo hi TP (marksP p k) A C TT CC := by
  by_cases hz : p.length = 0
  · have H := Lib.hid hz
    have hd : decide ((0 : Int) < (p.length : Int)) = false := decide_eq_false (by omega)
    have HK : Hid (k = k + (sumP p p.length : Int)) := by show k = _; rw [hz]; simp [sumP]
    have HM : Hid (PastOwn w lo hi TP (marksP p k) A C TT CC) := by
      have e1 := marksP_length p k
      exact ⟨fun hh => by omega, fun i hi => by omega, fun s t b hs => by omega⟩
    have hz2 : ¬ (0 : Int) < (p.length : Int) := by omega
    clear hz
    go_enter Try.func59, Try.ntmps59
    go_wp2_with fail
    go_loop [1, 5] (fun v i => i = .int .i64 0 ∧ v = .int .i64 k) (fun _ _ => 0)
    case atStart => exact ⟨rfl, rfl⟩
    case round =>
      obtain ⟨rfl, rfl⟩ := hrel
      go_wp2_with fail
      go_ret
      rw [← HK.out]
      exact ⟨rfl, TouchS.refl _ _, HM⟩
  obtain ⟨b, off, N, f, rfl, hb1, hb2, hN, hr, hf⟩ := h.top (by omega)
  have M0 : Hid (MarkP w w lo hi b N f A C TT p k 0) := ⟨TouchS.refl _ _, hr, fun i hi => by unfold partP; rw [if_neg (by omega)]; exact h.tabs i hi⟩
  have HF := Lib.hid hf
  have HA := Lib.hid h.apart
  have HM := Lib.hid hm
  clear h hr hz hf hm
  go_enter Try.func59, Try.ntmps59
  go_wp2_with fail
  go_loopw [1, 5] (fun v i wr => ∃ m : Nat, m ≤ p.length ∧ i = .int .i64 m ∧ v = .int .i64 (k + (sumP p m : Int)) ∧ Hid (MarkP w wr lo hi b N f A C TT p k m)) (fun _ i _ => p.length - (intOf i).toNat)
  case atStart => exact ⟨0, Nat.zero_le _, rfl, by simp [sumP], M0⟩
  case round =>
    obtain ⟨m, hm, rfl, rfl, HP⟩ := hrel
    by_cases hlt : m < p.length
    · have hcell := HP.out.top.cell (i := off + m) (by omega)
      obtain ⟨hf1, hc1, hc2⟩ := HF.out m hlt
      rw [hf1] at hcell
      unfold maxLen at hc2
      have hsm := sumP_mono p (Nat.le_of_lt hlt)
      have hsr := tab_le_sumP p hlt
      have HO : Hid (TabOwn wr lo hi (TT m) (A m) (C m) (tabAt p m)) := by have := HP.out.tabs m hlt; rwa [partP_at] at this
      clear hf1
      go_wp2_with fail
      refine (markTab_c _ (A m) (C m) _ (tabAt p m) lo hi _ (HM.out m hlt) (by omega) (by omega) (by omega) _ HO.out).mono ?_
      rintro e w2 ⟨rfl, ht, ho⟩
      have HN := Lib.hid (HP.out.step hlt HA.out ht ho)
      have HS : Hid (k + (sumP p m : Int) + (sumN (tabAt p m) (tabAt p m).length : Int) = k + (sumP p (m + 1) : Int)) := by show _ = _; simp only [sumP]; omega
      rw [HS.out]
      clear ht ho
      go_wp2_with fail
      go_roundw
      case rel => exact ⟨m + 1, by omega, by go_num, rfl, HN⟩
      case measure => simp [intOf]; omega
    · obtain rfl : m = p.length := by omega
      go_wp2_with fail
      go_ret
      exact ⟨rfl, HP.out.touch, HP.out.done hb1 hb2 hN HF.out HA.out⟩

end Go.Proofs.Ytlkjpmdnhccdpaa

namespace Go.Proofs.Ytlkjpmdnhccdpaa
set_option linter.unusedSimpArgs false
set_option linter.unusedVariables false
open Go.RowKit

/-- what szDesk leaves -/
def SizedD (d : Dk) (left : Int) (w : World) (e : Ending) (w' : World) : Prop :=
  ∃ r : Int, e = .returned (.int .i64 r) ∧ Below w.heap.size w w' ∧ (r < 0 ∨ (0 ≤ r ∧ (d.now.length : Int) + (sumN d.now d.now.length : Nat) + ((d.past.length : Int) + (szP d.past d.past.length : Nat)) + r ≤ left))

set_option maxHeartbeats 2000000 in
theorem szDesk_c (A B : Option Addr) (c k : Nat) (d : Dk) (left : Int) (hx : d.now.length ≤ maxLen) (hy : d.past.length ≤ maxLen) (h0 : 0 ≤ left) (h1 : left ≤ 4294967296) (w : World) (h : Rows2 w (· < w.heap.size) A d.now) (h' : Rows3 w (· < w.heap.size) B d.past) :
    Calls Try.prog 25 #[.agg #[.slice A d.now.length c, .slice B d.past.length k], .int .i64 left] w (SizedD d left w) := by
  have H1 := Lib.hid h
  have H2 := Lib.hid h'
  clear h h'
  go_enter Try.func25, Try.ntmps25
  go_wp2_with fail
  obtain ⟨W, hW⟩ : ∃ W : World, W = (w.alloc (.cells #[(Value.slice A d.now.length c), (Value.slice B d.past.length k)] 49)) := ⟨_, rfl⟩
  have hzW : W.heap.size = w.heap.size + 1 := by rw [hW]; simp
  have hbW : Below w.heap.size w W := by rw [hW]; exact (by repeat (first | exact Below.refl _ _ | assumption | exact bel1 (by assumption) | exact bel2 (by assumption) | exact bel3 (by assumption) | exact bel4 (by assumption) | refine Below.drew ?_ | refine below_drewN ?_ _ | refine Below.setCell ?_ (by first | (simp; done) | (simp; omega)) _ | refine Below.alloc ?_ (by first | (simp; done) | (simp; omega)) _))
  have r00 := stays (p := w.heap.size) (o := 0) (by omega) (show W.cell? ⟨w.heap.size, 0, none⟩ = some ((Value.slice A d.now.length c)) from by rw [hW]; simp [go_sem])
  have r01 := stays (p := w.heap.size) (o := 1) (by omega) (show W.cell? ⟨w.heap.size, 1, none⟩ = some ((Value.slice B d.past.length k)) from by rw [hW]; simp [go_sem])
  rw [← hW]
  clear hW
  have HzW := Lib.hid hzW
  clear hzW
  have e00 := r00 _ (Below.refl _ _)
  have e01 := r01 _ (Below.refl _ _)
  have HO1 := Lib.hid (keepRows hbW H1.out)
  have HO2 := Lib.hid (keepTabs hbW H2.out)
  clear r00 r01
  go_wp2_with fail
  refine (szIntSSr _ _ d.now _ left hx h0 h1 _ HO1.out).mono ?_
  rintro e w1 ⟨r1, rfl, rfl, hr1⟩
  by_cases hz : r1 < 0
  · clear hr1
    go_wp2_with fail
    go_ret
    exact ⟨-1, rfl, hbW, .inl (by omega)⟩
  · have hr2 : (d.now.length : Int) + (sumN d.now d.now.length : Nat) + r1 ≤ left := by omega
    have hr3 : 0 ≤ r1 := by omega
    have hr4 : r1 ≤ 4294967296 := by omega
    clear hr1
    go_wp2_with fail
    refine (szIntSSS_c _ _ d.past _ r1 hy hr3 hr4 _ HO2.out).mono ?_
    rintro e w1 ⟨r5, rfl, rfl, hr5⟩
    by_cases hz : r5 < 0
    · clear hr5
      go_wp2_with fail
      go_ret
      exact ⟨-1, rfl, hbW, .inl (by omega)⟩
    · go_wp2_with fail
      go_ret
      exact ⟨r5, rfl, hbW, .inr (by omega)⟩

set_option maxHeartbeats 2000000 in
theorem eqDesk_same (A B A' B' : Option Addr) (c k c' k' : Nat) (d : Dk) (hx : d.now.length ≤ maxLen) (hy : d.past.length ≤ maxLen) (w : World) (h1 : Rows2 w (· < w.heap.size) A d.now) (h2 : Rows3 w (· < w.heap.size) B d.past) (h3 : Rows2 w (· < w.heap.size) A' d.now) (h4 : Rows3 w (· < w.heap.size) B' d.past) :
    Calls Try.prog 30 #[.agg #[.slice A d.now.length c, .slice B d.past.length k], .agg #[.slice A' d.now.length c', .slice B' d.past.length k']] w (Adds (.bool true) w) := by
  have H1 := Lib.hid h1
  have H2 := Lib.hid h2
  have H3 := Lib.hid h3
  have H4 := Lib.hid h4
  clear h1 h2 h3 h4
  go_enter Try.func30, Try.ntmps30
  go_wp2_with fail
  obtain ⟨W, hW⟩ : ∃ W : World, W = ((w.alloc (.cells #[(Value.slice A d.now.length c), (Value.slice B d.past.length k)] 26)).alloc (.cells #[(Value.slice A' d.now.length c'), (Value.slice B' d.past.length k')] 26)) := ⟨_, rfl⟩
  have hzW : W.heap.size = w.heap.size + 2 := by rw [hW]; simp
  have hbW : Below w.heap.size w W := by rw [hW]; exact (by repeat (first | exact Below.refl _ _ | assumption | exact bel1 (by assumption) | exact bel2 (by assumption) | exact bel3 (by assumption) | exact bel4 (by assumption) | refine Below.drew ?_ | refine below_drewN ?_ _ | refine Below.setCell ?_ (by first | (simp; done) | (simp; omega)) _ | refine Below.alloc ?_ (by first | (simp; done) | (simp; omega)) _))
  have r00 := stays (p := w.heap.size) (o := 0) (by omega) (show W.cell? ⟨w.heap.size, 0, none⟩ = some ((Value.slice A d.now.length c)) from by rw [hW]; simp [go_sem])
  have r01 := stays (p := w.heap.size) (o := 1) (by omega) (show W.cell? ⟨w.heap.size, 1, none⟩ = some ((Value.slice B d.past.length k)) from by rw [hW]; simp [go_sem])
  have r10 := stays (p := w.heap.size + 1) (o := 0) (by omega) (show W.cell? ⟨w.heap.size + 1, 0, none⟩ = some ((Value.slice A' d.now.length c')) from by rw [hW]; simp [go_sem])
  have r11 := stays (p := w.heap.size + 1) (o := 1) (by omega) (show W.cell? ⟨w.heap.size + 1, 1, none⟩ = some ((Value.slice B' d.past.length k')) from by rw [hW]; simp [go_sem])
  rw [← hW]
  clear hW
  have HzW := Lib.hid hzW
  clear hzW
  have HBW := Lib.hid hbW
  have hkk := Below.refl W.heap.size W
  have q00 := r00 _ hkk
  have q01 := r01 _ hkk
  have q10 := r10 _ hkk
  have q11 := r11 _ hkk
  clear r00 r10 hkk
  go_wp2_with fail
  refine (eqIntSS _ _ _ _ d.now _ _ hx _ (keepRows HBW.out H1.out) (keepRows HBW.out H3.out)).mono ?_
  rintro e w2 ⟨rfl, n, rfl⟩
  have hk2 : Below W.heap.size W (W.drewN n) := below_drewN (Below.refl _ _) n
  have HB2 : Hid (Below w.heap.size w (W.drewN n)) := below_drewN HBW.out n
  go_wp2_with fail
  refine (eqIntSSS_c _ _ _ _ d.past _ _ hy _ (keepTabs HB2.out H2.out) (keepTabs HB2.out H4.out)).mono ?_
  rintro e w3 ⟨rfl, n2, rfl⟩
  go_wp2_with fail
  go_ret
  exact Adds.of rfl (below_drewN HBW.out _)

/-- a desk is small -/
structure SmallD (d : Dk) : Prop where
  now : d.now.length ≤ 4294967296
  past : d.past.length ≤ 4294967296
  tabs : ∀ i, i < d.past.length → (tabAt d.past i).length ≤ 4294967296
  size : sizeD d ≤ 1048576

theorem SizedD.small {d : Dk} {left r : Int} (hl : left ≤ 1048576) (hr : 0 ≤ r) (h : (d.now.length : Int) + (sumN d.now d.now.length : Nat) + ((d.past.length : Int) + (szP d.past d.past.length : Nat)) + r ≤ left) : SmallD d := by
  have := sumP_le_szP d.past d.past.length
  refine ⟨by omega, by omega, fun i hi => ?_, by unfold sizeD; omega⟩
  have := tab_le_szP d.past hi
  omega

set_option maxHeartbeats 2000000 in
theorem heldDesk_c (A B : Option Addr) (c k : Nat) (d : Dk) (S S' : Nat → Prop) (m : Int) (hd : SmallD d) (h0 : 0 ≤ m) (h1 : m ≤ 2000000) (w : World) (hS : ∀ b, S b → b < w.heap.size) (hS' : ∀ b, S' b → b < w.heap.size) (h : Rows2 w S A (marksD d m).now) (h' : Rows3 w S' B (marksD d m).past) :
    Calls Try.prog 32 #[.agg #[.slice A d.now.length c, .slice B d.past.length k], .int .i64 m] w (Adds (.int .i64 (m + (sizeD d : Int))) w) := by
  have H1 := Lib.hid h
  have H2 := Lib.hid h'
  have HD := Lib.hid hd
  have HZ : sumN d.now d.now.length + sumP d.past d.past.length ≤ 1048576 := hd.size
  have HE : m + (sizeD d : Int) = m + (sumN d.now d.now.length : Int) + (sumP d.past d.past.length : Int) := by unfold sizeD; omega
  rw [HE]
  clear h h' hd HE
  go_enter Try.func32, Try.ntmps32
  go_wp2_with fail
  obtain ⟨W, hW⟩ : ∃ W : World, W = (w.alloc (.cells #[(Value.slice A d.now.length c), (Value.slice B d.past.length k)] 26)) := ⟨_, rfl⟩
  have hzW : W.heap.size = w.heap.size + 1 := by rw [hW]; simp
  have hbW : Below w.heap.size w W := by rw [hW]; exact (by repeat (first | exact Below.refl _ _ | assumption | exact bel1 (by assumption) | exact bel2 (by assumption) | exact bel3 (by assumption) | exact bel4 (by assumption) | refine Below.drew ?_ | refine below_drewN ?_ _ | refine Below.setCell ?_ (by first | (simp; done) | (simp; omega)) _ | refine Below.alloc ?_ (by first | (simp; done) | (simp; omega)) _))
  have r00 := stays (p := w.heap.size) (o := 0) (by omega) (show W.cell? ⟨w.heap.size, 0, none⟩ = some ((Value.slice A d.now.length c)) from by rw [hW]; simp [go_sem])
  have r01 := stays (p := w.heap.size) (o := 1) (by omega) (show W.cell? ⟨w.heap.size, 1, none⟩ = some ((Value.slice B d.past.length k)) from by rw [hW]; simp [go_sem])
  rw [← hW]
  clear hW
  have HzW := Lib.hid hzW
  clear hzW
  have e00 := r00 _ (Below.refl _ _)
  have e01 := r01 _ (Below.refl _ _)
  have HO1 : Hid (Rows2 W S A (marks d.now m)) := H1.out.keep fun b hb => hbW.block b (hS b hb)
  have HO2 : Hid (Rows3 W S' B (marksP d.past (m + (sumN d.now d.now.length : Int)))) := H2.out.keep fun b hb => hbW.block b (hS' b hb)
  clear r00 r01
  go_wp2_with fail
  refine (heldIntSS _ _ d.now _ m HD.out.now (by omega) (by omega) (by omega) _ HO1.out).mono ?_
  rintro e w1 ⟨rfl, rfl⟩
  go_wp2_with fail
  refine (heldIntSSS_c _ _ d.past _ (m + (sumN d.now d.now.length : Int)) HD.out.past HD.out.tabs (by omega) (by omega) (by omega) _ HO2.out).mono ?_
  rintro e w1 ⟨rfl, rfl⟩
  go_wp2_with fail
  go_ret
  exact Adds.of rfl hbW

theorem OwnDk.of {w : World} {lo hi : Nat} {TN TP : Option Addr} {d : Dk} {A : Nat → Nat → Option Addr} {C : Nat → Nat → Nat} {TT : Nat → Option Addr} {CC : Nat → Nat} (h : TabOwn w lo hi TN (A 0) (C 0) d.now) (hp : PastOwn w lo hi TP d.past (fun i => A (i + 1)) (fun i => C (i + 1)) TT CC)
    (ha : ∀ t b, t < d.past.length → RowAtB (A 0) d.now b → ¬ RowAtB (A (t + 1)) (tabAt d.past t) b) : OwnDk w lo hi TN TP d A C TT CC := by
  refine ⟨h, hp.top, hp.tabs, fun s t b hs ht hne => ?_⟩
  cases s with
  | zero =>
    cases t with
    | zero => exact absurd rfl hne
    | succ t => exact ha t b (by omega)
  | succ s =>
    cases t with
    | zero => exact fun h1 h2 => ha s b (by omega) h2 h1
    | succ t => exact hp.apart s t b (by omega) (by omega) (by omega)

theorem PastOwn.touch {w w' : World} {lo hi : Nat} {TP : Option Addr} {p : List (List (List Int))} {A : Nat → Nat → Option Addr} {C : Nat → Nat → Nat} {TT : Nat → Option Addr} {CC : Nat → Nat} {K : Nat → Prop} (h : PastOwn w lo hi TP p A C TT CC) (ht : TouchS K w w') (hK : ∀ b, K b → ∃ N f, w.rowIs b 3 N f) (hA : ∀ t b, t < p.length → K b → ¬ RowAtB (A t) (tabAt p t) b) : PastOwn w' lo hi TP p A C TT CC := by
  refine ⟨fun h0 => ?_, fun i hi => (h.tabs i hi).touch ht hK fun b hb => hA i b hi hb, h.apart⟩
  obtain ⟨b, off, N, f, e, h1, h2, h3, h4, h5⟩ := h.top h0
  refine ⟨b, off, N, f, e, h1, h2, h3, h4.of_block (ht.block b fun hk => ?_), h5⟩
  obtain ⟨N', f', h'⟩ := hK b hk
  exact rowIs_ne h4 h' (by decide) rfl

set_option maxHeartbeats 2000000 in
theorem markDesk_c (TN TP : Option Addr) (A : Nat → Nat → Option Addr) (C : Nat → Nat → Nat) (TT : Nat → Option Addr) (CC : Nat → Nat) (c k : Nat) (d : Dk) (lo hi : Nat) (m : Int) (hd : SmallD d) (h0 : 0 ≤ m) (h1 : m ≤ 2000000) (w : World) (hhi : hi ≤ w.heap.size) (h : OwnDk w lo hi TN TP d A C TT CC) :
    Calls Try.prog 31 #[.agg #[.slice TN d.now.length c, .slice TP d.past.length k], .int .i64 m] w fun e w' => e = .returned (.int .i64 (m + (sizeD d : Int))) ∧ OffB lo hi w w' ∧ OwnDk w' lo hi TN TP (marksD d m) A C TT CC := by
  have HH := Lib.hid h
  have HD := Lib.hid hd
  have HZ : sumN d.now d.now.length + sumP d.past d.past.length ≤ 1048576 := hd.size
  have HE : m + (sizeD d : Int) = m + (sumN d.now d.now.length : Int) + (sumP d.past d.past.length : Int) := by unfold sizeD; omega
  rw [HE]
  clear h hd HE
  go_enter Try.func31, Try.ntmps31
  go_wp2_with fail
  obtain ⟨W, hW⟩ : ∃ W : World, W = (w.alloc (.cells #[(Value.slice TN d.now.length c), (Value.slice TP d.past.length k)] 26)) := ⟨_, rfl⟩
  have hzW : W.heap.size = w.heap.size + 1 := by rw [hW]; simp
  have hbW : Below w.heap.size w W := by rw [hW]; exact (by repeat (first | exact Below.refl _ _ | assumption | exact bel1 (by assumption) | exact bel2 (by assumption) | exact bel3 (by assumption) | exact bel4 (by assumption) | refine Below.drew ?_ | refine below_drewN ?_ _ | refine Below.setCell ?_ (by first | (simp; done) | (simp; omega)) _ | refine Below.alloc ?_ (by first | (simp; done) | (simp; omega)) _))
  have r00 := stays (p := w.heap.size) (o := 0) (by omega) (show W.cell? ⟨w.heap.size, 0, none⟩ = some ((Value.slice TN d.now.length c)) from by rw [hW]; simp [go_sem])
  have r01 := stays (p := w.heap.size) (o := 1) (by omega) (show W.cell? ⟨w.heap.size, 1, none⟩ = some ((Value.slice TP d.past.length k)) from by rw [hW]; simp [go_sem])
  rw [← hW]
  clear hW
  have HzW := Lib.hid hzW
  clear hzW
  have e00 := r00 _ (Below.refl _ _)
  have e01 := r01 _ (Below.refl _ _)
  have HO : Hid (OwnDk W lo hi TN TP d A C TT CC) := HH.out.keep fun b _ hb => hbW.block b (by omega)
  clear r00 r01
  go_wp2_with fail
  refine (markTab_c _ (A 0) (C 0) _ d.now lo hi m HD.out.now (by omega) (by omega) (by omega) _ HO.out.now).mono ?_
  rintro e w1 ⟨rfl, ht1, ho1⟩
  have HO1 := Lib.hid ho1
  have HP1 := Lib.hid (HO.out.pastOwn.touch ht1 (fun b hb => HO.out.now.cells hb) (fun t b ht hb => HO.out.apart 0 (t + 1) b (by omega) (by omega) (by omega) hb))
  have HF1 := Lib.hid (ht1.off fun x hx => HO.out.now.rows_in hx)
  have e13 : w1.cell? ⟨w.heap.size, 1, none⟩ = some (.slice TP d.past.length k) := (World.cell?_of_block (w := W) (HF1.out.block w.heap.size (by omega))).trans e01
  clear ho1 ht1 e00 e01
  go_wp2_with fail
  refine (markIntSSS_c _ (fun i => A (i + 1)) (fun i => C (i + 1)) TT CC _ d.past lo hi (m + (sumN d.now d.now.length : Int)) HD.out.past HD.out.tabs (by omega) (by omega) (by omega) _ HP1.out).mono ?_
  rintro e w2 ⟨rfl, ht2, ho2⟩
  have hf2 := ht2.off (lo := lo) (hi := hi) fun x hx => by obtain ⟨t, ht, hb⟩ := hx; exact (HP1.out.tabs t ht).rows_in hb
  have HF2 := Lib.hid hf2
  have HO2 := Lib.hid (HO1.out.touch ht2 (fun b hb => by obtain ⟨t, ht, hb⟩ := hb; exact (HP1.out.tabs t ht).cells hb) (fun b hb hx => by obtain ⟨t, ht, hb⟩ := hb; exact HO.out.apart (t + 1) 0 b (by omega) (by omega) (by omega) hb (RowAtB.marks.1 hx)))
  have HP2 := Lib.hid ho2
  clear hf2 ht2 ho2 e13
  go_wp2_with fail
  go_ret
  refine ⟨by first | rfl | (simp; omega), ⟨by rw [HF2.out.os, HF1.out.os, hbW.os], by rw [HF2.out.tape, HF1.out.tape, hbW.tape], by rw [HF2.out.output, HF1.out.output, hbW.output], by rw [HF2.out.size, HF1.out.size]; exact hbW.size, fun b hb hn => ?_⟩, OwnDk.of HO2.out HP2.out fun t b ht h1 h2 => ?_⟩
  · rw [HF2.out.block b hn, HF1.out.block b hn, hbW.block b hb]
  · have ht' : t < d.past.length := by have e := marksP_length d.past (m + (sumN d.now d.now.length : Int)); unfold marksD at ht; simp only at ht; omega
    rw [show (marksD d m).past = marksP d.past (m + (sumN d.now d.now.length : Int)) from rfl, tabAt_marksP _ _ ht'] at h2
    exact HO.out.apart 0 (t + 1) b (by omega) (by omega) (by omega) (RowAtB.marks.1 h1) (RowAtB.marks.1 h2)

end Go.Proofs.Ytlkjpmdnhccdpaa
