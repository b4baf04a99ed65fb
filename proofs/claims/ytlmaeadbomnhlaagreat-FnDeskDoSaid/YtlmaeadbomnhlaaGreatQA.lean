/- Texts in one: DeskM, Tabs, OwnDk, DeskH, DeskI, DeskJ. -/
import Derived.Test.YtlmaeadbomnhlaaGreatMF
import Derived.Test.YtlmaeadbomnhlaaGreatMP
import Derived.Test.YtlmaeadbomnhlaaGreatMC
import Derived.Test.YtlmaeadbomnhlaaGreatMG
import Derived.Test.YtlmaeadbomnhlaaGreatPC
namespace Go.Proofs.YtlmaeadbomnhlaaGreat
set_option linter.unusedSimpArgs false
set_option linter.unusedVariables false
open Go.RowKit
structure CapN (n : Nat) where
  val : Nat
  lo : n ≤ val
  hi : val ≤ maxLen
instance (n : Nat) : CoeOut (CapN n) Nat := ⟨CapN.val⟩
theorem CapN.two {n : Nat} (c : CapN n) : n ≤ c.val ∧ c.val ≤ maxLen := ⟨c.lo, c.hi⟩
def tabAt (p : List (List (List Int))) (i : Nat) : List (List Int) := p.getD i []
structure Dk where
  now : List (List Int)
  past : List (List (List Int))
structure Dd where
  kind : Int
  row : Int
  col : Int
  num : Int
def laidB (g : List (List Int)) : Bool := gameB g && (decide (g.length ≤ 4) && decide ((rowAt g 0).length ≤ 4))
theorem laid_iff {g : List (List Int)} : laidB g = true ↔ gameB g = true ∧ g.length ≤ 4 ∧ (rowAt g 0).length ≤ 4 := by
  unfold laidB; rw [Bool.and_eq_true, Bool.and_eq_true, decide_eq_true_eq, decide_eq_true_eq]
theorem laid_sol (g : List (List Int)) : laidB g = solB g := by
  rcases h : solB g with _ | _
  · rcases h2 : laidB g with _ | _
    · rfl
    · rw [sol_iff.2 (laid_iff.1 h2)] at h; cases h
  · exact laid_iff.2 (sol_iff.1 h)
theorem laid_game {g : List (List Int)} (h : laidB g = true) : gameB g = true := (laid_iff.1 h).1
def pastB (p : List (List (List Int))) : Bool := p.all laidB
def dkB (d : Dk) : Bool := pastB d.past && (laidB d.now && decide (d.past.length ≤ 8))
theorem dkB_iff {d : Dk} : dkB d = true ↔ pastB d.past = true ∧ laidB d.now = true ∧ d.past.length ≤ 8 := by
  unfold dkB; rw [Bool.and_eq_true, Bool.and_eq_true, decide_eq_true_eq]
theorem pastB_at {p : List (List (List Int))} : pastB p = true ↔ ∀ i, i < p.length → laidB (tabAt p i) = true := by
  unfold pastB
  rw [List.all_eq_true]
  constructor
  · intro h i hi
    have : tabAt p i = p[i] := by unfold tabAt; simp [hi]
    rw [this]; exact h _ (List.getElem_mem hi)
  · intro h x hx
    obtain ⟨i, hi, rfl⟩ := List.mem_iff_getElem.1 hx
    have := h i hi
    unfold tabAt at this; simpa [hi] using this
def dkZero : Dk := ⟨[], []⟩
def putT (g : List (List Int)) (r c : Nat) (v : Int) : List (List Int) := g.set r ((rowAt g r).set c v)
def madeT (g : List (List Int)) (a : Dd) : List (List Int) :=
  if a.kind = 0 ∧ (0 ≤ a.row ∧ a.row ≤ (g.length : Int) - 1) ∧ (0 ≤ a.col ∧ a.col ≤ ((rowAt g 0).length : Int) - 1) then putT g a.row.toNat a.col.toNat a.num
  else if a.kind = 1 ∧ a.row = 0 ∧ a.col = 0 ∧ a.num = 0 then turned g
  else if a.kind = 2 ∧ a.row = 0 ∧ a.col = 0 then shi g a.num
  else if a.kind = 3 ∧ a.row = 0 ∧ a.col = 0 ∧ a.num = 0 then small g
  else []
def backB (a : Dd) : Bool := decide (a.kind = 4 ∧ a.row = 0 ∧ a.col = 0 ∧ a.num = 0)
def pushP (p : List (List (List Int))) (g : List (List Int)) : List (List (List Int)) := if p.length < 8 then p ++ [g] else (p ++ [g]).drop 1
def canB (d : Dk) (a : Dd) : Bool := dkB d && ((backB a && decide (0 < d.past.length)) || (laidB (madeT d.now a) && decide (madeT d.now a ≠ d.now)))
def doD (d : Dk) (a : Dd) : Dk :=
  if dkB d = false then dkZero
  else if backB a = true ∧ 0 < d.past.length then ⟨tabAt d.past (d.past.length - 1), d.past.take (d.past.length - 1)⟩
  else if laidB (madeT d.now a) = true ∧ madeT d.now a ≠ d.now then ⟨madeT d.now a, pushP d.past d.now⟩
  else d
theorem do_no {d : Dk} (h : dkB d = false) (a : Dd) : doD d a = dkZero ∧ canB d a = false := by
  unfold doD canB; rw [h]; exact ⟨if_pos rfl, rfl⟩
theorem do_back {d : Dk} (h : dkB d = true) {a : Dd} (hb : backB a = true) (h0 : 0 < d.past.length) : doD d a = ⟨tabAt d.past (d.past.length - 1), d.past.take (d.past.length - 1)⟩ ∧ canB d a = true := by
  unfold doD canB
  rw [h, if_neg (by decide), if_pos ⟨hb, h0⟩, hb, decide_eq_true h0]
  exact ⟨rfl, rfl⟩
theorem do_made {d : Dk} (h : dkB d = true) {a : Dd} (hb : ¬ (backB a = true ∧ 0 < d.past.length)) (hl : laidB (madeT d.now a) = true) (hn : madeT d.now a ≠ d.now) : doD d a = ⟨madeT d.now a, pushP d.past d.now⟩ ∧ canB d a = true := by
  unfold doD canB
  rw [h, if_neg (by decide), if_neg hb, if_pos ⟨hl, hn⟩, hl, decide_eq_true hn]
  exact ⟨rfl, by simp⟩
theorem do_none {d : Dk} (h : dkB d = true) {a : Dd} (hb : ¬ (backB a = true ∧ 0 < d.past.length)) (hl : ¬ (laidB (madeT d.now a) = true ∧ madeT d.now a ≠ d.now)) : doD d a = d ∧ canB d a = false := by
  unfold doD canB
  rw [h, if_neg (by decide), if_neg hb, if_neg hl]
  refine ⟨rfl, ?_⟩
  rw [Bool.true_and, Bool.or_eq_false_iff]
  constructor
  · rw [Bool.and_eq_false_iff]
    by_cases h1 : backB a = true
    · right; exact decide_eq_false fun h2 => hb ⟨h1, h2⟩
    · left; simpa using h1
  · rw [Bool.and_eq_false_iff]
    by_cases h1 : laidB (madeT d.now a) = true
    · right; exact decide_eq_false fun h2 => hl ⟨h1, h2⟩
    · left; simpa using h1
theorem push_len {p : List (List (List Int))} {g : List (List Int)} (h : p.length ≤ 8) : (pushP p g).length ≤ 8 := by
  unfold pushP; split
  · simp; omega
  · simp; omega
theorem push_laid {p : List (List (List Int))} {g : List (List Int)} (h : pastB p = true) (hg : laidB g = true) : pastB (pushP p g) = true := by
  unfold pastB at h ⊢
  rw [List.all_eq_true] at h ⊢
  intro x hx
  have hm : x ∈ p ++ [g] := by
    unfold pushP at hx
    split at hx
    · exact hx
    · exact List.mem_of_mem_drop hx
  rcases List.mem_append.1 hm with h1 | h1
  · exact h x h1
  · rw [List.mem_singleton.1 h1]; exact hg
theorem do_ok {d : Dk} (h : dkB d = true) (a : Dd) : dkB (doD d a) = true := by
  obtain ⟨h1, h2, h3⟩ := dkB_iff.1 h
  by_cases hb : backB a = true ∧ 0 < d.past.length
  · rw [(do_back h hb.1 hb.2).1]
    refine dkB_iff.2 ⟨?_, pastB_at.1 h1 _ (by omega), by simp; omega⟩
    unfold pastB at h1 ⊢
    rw [List.all_eq_true] at h1 ⊢
    exact fun x hx => h1 x (List.mem_of_mem_take hx)
  · by_cases hl : laidB (madeT d.now a) = true ∧ madeT d.now a ≠ d.now
    · rw [(do_made h hb hl.1 hl.2).1]
      exact dkB_iff.2 ⟨push_laid h1 h2, hl.1, push_len h3⟩
    · rw [(do_none h hb hl).1]; exact h
theorem made_back {g : List (List Int)} {a : Dd} (h : backB a = true) : madeT g a = [] := by
  unfold backB at h
  rw [decide_eq_true_eq] at h
  unfold madeT
  rw [if_neg (by omega), if_neg (by omega), if_neg (by omega), if_neg (by omega)]
theorem laid_nil : laidB [] = false := by decide +kernel
def ddBack : Dd := ⟨4, 0, 0, 0⟩
theorem do_undo {d : Dk} {a : Dd} (h : canB d a = true) (hk : a.kind ≠ 4) (hp : d.past.length < 8) : canB (doD d a) ddBack = true ∧ doD (doD d a) ddBack = d := by
  have hd : dkB d = true := by
    rcases hx : dkB d with _ | _
    · rw [(do_no hx a).2] at h; cases h
    · rfl
  have hb : ¬ (backB a = true ∧ 0 < d.past.length) := fun hb => by
    have := hb.1; unfold backB at this; rw [decide_eq_true_eq] at this; exact hk this.1
  by_cases hl : laidB (madeT d.now a) = true ∧ madeT d.now a ≠ d.now
  · have e := (do_made hd hb hl.1 hl.2).1
    have hok := do_ok hd a
    rw [e] at hok ⊢
    have hpu : pushP d.past d.now = d.past ++ [d.now] := by unfold pushP; rw [if_pos hp]
    rw [hpu] at hok ⊢
    obtain ⟨q1, q2⟩ := do_back hok (a := ddBack) rfl (by simp)
    refine ⟨q2, ?_⟩
    rw [q1]
    simp [tabAt]
  · rw [(do_none hd hb hl).2] at h; cases h
theorem do_small {d : Dk} {a : Dd} (h : canB d a = true) (hk : a.kind = 3) : solU (doD d a).now = solU d.now ∧ solD (doD d a).now = solD d.now := by
  have hd : dkB d = true := by
    rcases hx : dkB d with _ | _
    · rw [(do_no hx a).2] at h; cases h
    · rfl
  have hb : ¬ (backB a = true ∧ 0 < d.past.length) := fun hb => by
    have := hb.1; unfold backB at this; rw [decide_eq_true_eq] at this; omega
  by_cases hl : laidB (madeT d.now a) = true ∧ madeT d.now a ≠ d.now
  · rw [(do_made hd hb hl.1 hl.2).1]
    have hs : solB d.now = true := by rw [← laid_sol]; exact (dkB_iff.1 hd).2.1
    by_cases h0 : a.row = 0 ∧ a.col = 0 ∧ a.num = 0
    · have e : madeT d.now a = small d.now := by
        unfold madeT
        rw [if_neg (by omega), if_neg (by omega), if_neg (by omega), if_pos ⟨hk, h0⟩]
      show solU (madeT d.now a) = _ ∧ solD (madeT d.now a) = _
      rw [e]; exact (small_sol hs).2
    · have e : madeT d.now a = [] := by
        unfold madeT
        rw [if_neg (by omega), if_neg (by omega), if_neg (by omega), if_neg (fun h' => h0 h'.2)]
      rw [e] at hl
      exact absurd hl.1 (by rw [laid_nil]; decide)
  · rw [(do_none hd hb hl).2] at h; cases h
end Go.Proofs.YtlmaeadbomnhlaaGreat

namespace Go.Proofs.YtlmaeadbomnhlaaGreat
set_option linter.unusedSimpArgs false
set_option linter.unusedVariables false
open Go.RowKit
def Rows3 (w : World) (S : Nat → Prop) (A : Option Addr) (p : List (List (List Int))) : Prop :=
  0 < p.length → ∃ b off : Nat, A = some ⟨b, off, none⟩ ∧ S b ∧ ∀ i, i < p.length → ∃ (A' : Option Addr) (c : Nat),
    w.cell? ⟨b, off + i, none⟩ = some (.slice A' (tabAt p i).length c) ∧ (tabAt p i).length ≤ c ∧ c ≤ maxLen ∧ Rows2 w S A' (tabAt p i)
theorem Rows3.nil (w : World) (S : Nat → Prop) (A : Option Addr) : Rows3 w S A [] := fun h => absurd h (by simp)
theorem Rows3.keep {w w' : World} {S : Nat → Prop} {A : Option Addr} {p : List (List (List Int))} (h : Rows3 w S A p) (hk : ∀ b, S b → w'.heap[b]? = w.heap[b]?) : Rows3 w' S A p := by
  intro h0
  obtain ⟨b, off, e, hb, hc⟩ := h h0
  refine ⟨b, off, e, hb, fun i hi => ?_⟩
  obtain ⟨A', c, h1, h2, h3, h4⟩ := hc i hi
  exact ⟨A', c, (World.cell?_of_block (w := w) (hk b hb)).trans h1, h2, h3, h4.keep hk⟩
theorem Rows3.mono {w : World} {S T : Nat → Prop} {A : Option Addr} {p : List (List (List Int))} (h : Rows3 w S A p) (hk : ∀ b, S b → T b) : Rows3 w T A p := by
  intro h0
  obtain ⟨b, off, e, hb, hc⟩ := h h0
  refine ⟨b, off, e, hk b hb, fun i hi => ?_⟩
  obtain ⟨A', c, h1, h2, h3, h4⟩ := hc i hi
  exact ⟨A', c, h1, h2, h3, h4.mono hk⟩
theorem Rows3.drewN {w : World} {S : Nat → Prop} {A : Option Addr} {p : List (List (List Int))} (h : Rows3 w S A p) (n : Nat) : Rows3 (w.drewN n) S A p := h.keep fun _ _ => rfl
theorem Rows3.lt {w : World} {B B' : Nat} {A : Option Addr} {p : List (List (List Int))} (h : Rows3 w (· < B) A p) (hB : B ≤ B') : Rows3 w (· < B') A p := h.mono fun b (hb : b < B) => Nat.lt_of_lt_of_le hb hB
theorem keepTabs {w w' : World} {B : Nat} {A : Option Addr} {p : List (List (List Int))} (hb : Below B w w') (h : Rows3 w (· < B) A p) : Rows3 w' (· < B) A p := h.keep hb.block
theorem Rows3.some {w : World} {S : Nat → Prop} {A : Option Addr} {p : List (List (List Int))} (h : Rows3 w S A p) (h0 : 0 < p.length) : ∃ b off : Nat, A = Option.some ⟨b, off, none⟩ := by
  obtain ⟨b, off, e, _⟩ := h h0; exact ⟨b, off, e⟩
theorem Rows3.tab {w : World} {S : Nat → Prop} {b off : Nat} {p : List (List (List Int))} (h : Rows3 w S (Option.some ⟨b, off, none⟩) p) {i : Nat} (hi : i < p.length) :
    S b ∧ ∃ (A' : Option Addr) (c : Nat), w.cell? ⟨b, off + i, none⟩ = Option.some (.slice A' (tabAt p i).length c) ∧ (tabAt p i).length ≤ c ∧ c ≤ maxLen ∧ Rows2 w S A' (tabAt p i) := by
  obtain ⟨b0, off0, e, hS, hc⟩ := h (by omega)
  injection e with e
  injection e with e1 e2
  subst e1 e2
  exact ⟨hS, hc i hi⟩
def TabOwn (w : World) (lo hi : Nat) (T : Option Addr) (A : Nat → Option Addr) (C : Nat → Nat) (g : List (List Int)) : Prop :=
  0 < g.length → ∃ (b N : Nat) (f : Nat → Value), T = some ⟨b, 0, none⟩ ∧ lo ≤ b ∧ b < hi ∧ g.length ≤ N ∧ w.rowIs b 52 N f ∧
    (∀ i, i < g.length → f i = .slice (A i) (rowAt g i).length (C i)) ∧ RowsOwn w lo hi A C g
theorem OwnR.tab {w : World} {lo hi : Nat} {T : Option Addr} {g : List (List Int)} (h : OwnR w lo hi T g) : ∃ A C, TabOwn w lo hi T A C g := by
  by_cases h0 : 0 < g.length
  · obtain ⟨b, N, f, A, C, e, h1, h2, h3, h4, h5, h6⟩ := h h0
    exact ⟨A, C, fun _ => ⟨b, N, f, e, h1, h2, h3, h4, h5, h6⟩⟩
  · exact ⟨fun _ => none, fun _ => 0, fun h => absurd h h0⟩
theorem TabOwn.own {w : World} {lo hi : Nat} {T : Option Addr} {A : Nat → Option Addr} {C : Nat → Nat} {g : List (List Int)} (h : TabOwn w lo hi T A C g) : OwnR w lo hi T g := fun h0 => by
  obtain ⟨b, N, f, e, h1, h2, h3, h4, h5, h6⟩ := h h0
  exact ⟨b, N, f, A, C, e, h1, h2, h3, h4, h5, h6⟩
theorem TabOwn.keep {w w' : World} {lo hi : Nat} {T : Option Addr} {A : Nat → Option Addr} {C : Nat → Nat} {g : List (List Int)} (h : TabOwn w lo hi T A C g) (hk : ∀ b, lo ≤ b → b < hi → w'.heap[b]? = w.heap[b]?) : TabOwn w' lo hi T A C g := fun h0 => by
  obtain ⟨b, N, f, e, h1, h2, h3, h4, h5, h6⟩ := h h0
  exact ⟨b, N, f, e, h1, h2, h3, h4.of_block (hk b h1 h2), h5, h6.keep hk⟩
theorem TabOwn.more {w : World} {lo hi lo' hi' : Nat} {T : Option Addr} {A : Nat → Option Addr} {C : Nat → Nat} {g : List (List Int)} (h : TabOwn w lo hi T A C g) (h1 : lo' ≤ lo) (h2 : hi ≤ hi') : TabOwn w lo' hi' T A C g := fun h0 => by
  obtain ⟨b, N, f, e, k1, k2, h3, h4, h5, h6⟩ := h h0
  exact ⟨b, N, f, e, by omega, by omega, h3, h4, h5, ⟨h6.cap, fun i hi => (h6.own i hi).more h1 h2, h6.apart⟩⟩
def RowAtB (A : Nat → Option Addr) (g : List (List Int)) (b : Nat) : Prop := ∃ i, i < g.length ∧ 0 < (rowAt g i).length ∧ A i = some ⟨b, 0, none⟩
structure TouchS (K : Nat → Prop) (w w' : World) : Prop where
  os : w'.os = w.os
  tape : w'.tape = w.tape
  output : w'.output = w.output
  size : w'.heap.size = w.heap.size
  block : ∀ b, ¬ K b → w'.heap[b]? = w.heap[b]?
theorem TouchS.refl (K : Nat → Prop) (w : World) : TouchS K w w := ⟨rfl, rfl, rfl, rfl, fun _ _ => rfl⟩
theorem TouchS.trans {K : Nat → Prop} {a b c : World} (h : TouchS K a b) (k : TouchS K b c) : TouchS K a c :=
  ⟨k.os.trans h.os, k.tape.trans h.tape, k.output.trans h.output, k.size.trans h.size, fun i hi => (k.block i hi).trans (h.block i hi)⟩
theorem TouchS.mono {K L : Nat → Prop} {a b : World} (h : TouchS K a b) (hk : ∀ x, K x → L x) : TouchS L a b := ⟨h.os, h.tape, h.output, h.size, fun i hi => h.block i fun hx => hi (hk i hx)⟩
theorem TouchS.off {K : Nat → Prop} {lo hi : Nat} {a b : World} (h : TouchS K a b) (hk : ∀ x, K x → lo ≤ x ∧ x < hi) : Off lo hi a b := ⟨h.os, h.tape, h.output, h.size, fun i hi => h.block i fun hx => hi (hk i hx)⟩
theorem TabOwn.rows_in {w : World} {lo hi : Nat} {T : Option Addr} {A : Nat → Option Addr} {C : Nat → Nat} {g : List (List Int)} (h : TabOwn w lo hi T A C g) {b : Nat} (hb : RowAtB A g b) : lo ≤ b ∧ b < hi := by
  obtain ⟨i, hi, h0, e⟩ := hb
  obtain ⟨_, _, _, _, _, _, _, _, _, h6⟩ := h (by omega)
  obtain ⟨b', _, _, e', h1, h2, _⟩ := h6.own i hi h0
  rw [e] at e'; injection e' with e'; injection e' with e'; subst e'; exact ⟨h1, h2⟩
theorem marks_row_len (g : List (List Int)) (k : Int) {i : Nat} (hi : i < g.length) : (rowAt (marks g k) i).length = (rowAt g i).length := by rw [rowAt_marks g k i hi, seqN_length]
theorem RowAtB.marks {A : Nat → Option Addr} {g : List (List Int)} {k : Int} {b : Nat} : RowAtB A (marks g k) b ↔ RowAtB A g b := by
  constructor
  · rintro ⟨i, hi, h0, e⟩
    rw [marks_length] at hi
    rw [marks_row_len g k hi] at h0
    exact ⟨i, hi, h0, e⟩
  · rintro ⟨i, hi, h0, e⟩
    exact ⟨i, by rw [marks_length]; exact hi, by rw [marks_row_len g k hi]; exact h0, e⟩
theorem TabOwn.touch {w w' : World} {lo hi : Nat} {T : Option Addr} {A : Nat → Option Addr} {C : Nat → Nat} {g : List (List Int)} {K : Nat → Prop} (h : TabOwn w lo hi T A C g) (ht : TouchS K w w') (hK : ∀ b, K b → ∃ N f, w.rowIs b 3 N f) (hA : ∀ b, K b → ¬ RowAtB A g b) : TabOwn w' lo hi T A C g := fun h0 => by
  obtain ⟨b, N, f, e, h1, h2, h3, h4, h5, h6⟩ := h h0
  refine ⟨b, N, f, e, h1, h2, h3, h4.of_block (ht.block b fun hk => ?_), h5, ⟨h6.cap, fun i hi h0' => ?_, h6.apart⟩⟩
  · obtain ⟨N', f', h'⟩ := hK b hk
    exact rowIs_ne h4 h' (by decide) rfl
  · obtain ⟨b', N', f', e', k1, k2, k3, k4, k5⟩ := h6.own i hi h0'
    exact ⟨b', N', f', e', k1, k2, k3.of_block (ht.block b' fun hk => hA b' hk ⟨i, hi, h0', e'⟩), k4, k5⟩
end Go.Proofs.YtlmaeadbomnhlaaGreat

namespace Go.Proofs.YtlmaeadbomnhlaaGreat
set_option linter.unusedSimpArgs false
set_option linter.unusedVariables false
open Go.RowKit
def tabD (d : Dk) : Nat → List (List Int)
  | 0 => d.now
  | t + 1 => tabAt d.past t
structure OwnDk (w : World) (lo hi : Nat) (TN TP : Option Addr) (d : Dk) (A : Nat → Nat → Option Addr) (C : Nat → Nat → Nat) (TT : Nat → Option Addr) (CC : Nat → Nat) : Prop where
  now : TabOwn w lo hi TN (A 0) (C 0) d.now
  past : 0 < d.past.length → ∃ (b off N : Nat) (f : Nat → Value), TP = some ⟨b, off, none⟩ ∧ lo ≤ b ∧ b < hi ∧ off + d.past.length ≤ N ∧ w.rowIs b 23 N f ∧
    ∀ i, i < d.past.length → f (off + i) = .slice (TT i) (tabAt d.past i).length (CC i) ∧ (tabAt d.past i).length ≤ CC i ∧ CC i ≤ maxLen
  tabs : ∀ i, i < d.past.length → TabOwn w lo hi (TT i) (A (i + 1)) (C (i + 1)) (tabAt d.past i)
  apart : ∀ s t b, s ≤ d.past.length → t ≤ d.past.length → s ≠ t → RowAtB (A s) (tabD d s) b → ¬ RowAtB (A t) (tabD d t) b
theorem OwnDk.keep {w w' : World} {lo hi : Nat} {TN TP : Option Addr} {d : Dk} {A : Nat → Nat → Option Addr} {C : Nat → Nat → Nat} {TT : Nat → Option Addr} {CC : Nat → Nat} (h : OwnDk w lo hi TN TP d A C TT CC) (hk : ∀ b, lo ≤ b → b < hi → w'.heap[b]? = w.heap[b]?) : OwnDk w' lo hi TN TP d A C TT CC := by
  refine ⟨h.now.keep hk, fun h0 => ?_, fun i hi => (h.tabs i hi).keep hk, h.apart⟩
  obtain ⟨b, off, N, f, e, h1, h2, h3, h4, h5⟩ := h.past h0
  exact ⟨b, off, N, f, e, h1, h2, h3, h4.of_block (hk b h1 h2), h5⟩
theorem OwnDk.more {w : World} {lo hi lo' hi' : Nat} {TN TP : Option Addr} {d : Dk} {A : Nat → Nat → Option Addr} {C : Nat → Nat → Nat} {TT : Nat → Option Addr} {CC : Nat → Nat} (h : OwnDk w lo hi TN TP d A C TT CC) (h1 : lo' ≤ lo) (h2 : hi ≤ hi') : OwnDk w lo' hi' TN TP d A C TT CC := by
  refine ⟨h.now.more h1 h2, fun h0 => ?_, fun i hi => (h.tabs i hi).more h1 h2, h.apart⟩
  obtain ⟨b, off, N, f, e, k1, k2, h3, h4, h5⟩ := h.past h0
  exact ⟨b, off, N, f, e, by omega, by omega, h3, h4, h5⟩
theorem OwnDk.rows3 {w : World} {lo hi : Nat} {TN TP : Option Addr} {d : Dk} {A : Nat → Nat → Option Addr} {C : Nat → Nat → Nat} {TT : Nat → Option Addr} {CC : Nat → Nat} (h : OwnDk w lo hi TN TP d A C TT CC) : Rows3 w (fun b => lo ≤ b ∧ b < hi) TP d.past := fun h0 => by
  obtain ⟨b, off, N, f, e, h1, h2, h3, h4, h5⟩ := h.past h0
  refine ⟨b, off, e, ⟨h1, h2⟩, fun i hi => ⟨TT i, CC i, ?_, (h5 i hi).2.1, (h5 i hi).2.2, (h.tabs i hi).own.rows2⟩⟩
  rw [h4.cell (by omega), (h5 i hi).1]
theorem OwnDk.rows2 {w : World} {lo hi : Nat} {TN TP : Option Addr} {d : Dk} {A : Nat → Nat → Option Addr} {C : Nat → Nat → Nat} {TT : Nat → Option Addr} {CC : Nat → Nat} (h : OwnDk w lo hi TN TP d A C TT CC) : Rows2 w (fun b => lo ≤ b ∧ b < hi) TN d.now := h.now.own.rows2
def sumP (p : List (List (List Int))) : Nat → Nat
  | 0 => 0
  | i + 1 => sumP p i + sumN (tabAt p i) (tabAt p i).length
def marksP (p : List (List (List Int))) (k : Int) : List (List (List Int)) := (List.range p.length).map fun i => marks (tabAt p i) (k + (sumP p i : Int))
theorem marksP_length (p : List (List (List Int))) (k : Int) : (marksP p k).length = p.length := by simp [marksP]
theorem tabAt_marksP (p : List (List (List Int))) (k : Int) {i : Nat} (h : i < p.length) : tabAt (marksP p k) i = marks (tabAt p i) (k + (sumP p i : Int)) := by unfold marksP tabAt; simp [h]
def sizeD (d : Dk) : Nat := sumN d.now d.now.length + sumP d.past d.past.length
def partP (p : List (List (List Int))) (k : Int) (m i : Nat) : List (List Int) := if i < m then marks (tabAt p i) (k + (sumP p i : Int)) else tabAt p i
theorem partP_rows (p : List (List (List Int))) (k : Int) (m i : Nat) (A : Nat → Option Addr) (b : Nat) : RowAtB A (partP p k m i) b ↔ RowAtB A (tabAt p i) b := by
  unfold partP; split
  · exact RowAtB.marks
  · exact Iff.rfl
end Go.Proofs.YtlmaeadbomnhlaaGreat

namespace Go.Proofs.YtlmaeadbomnhlaaGreat
set_option linter.unusedSimpArgs false
set_option linter.unusedVariables false
open Go.RowKit
def szP (p : List (List (List Int))) : Nat → Nat
  | 0 => 0
  | i + 1 => szP p i + ((tabAt p i).length + sumN (tabAt p i) (tabAt p i).length)
theorem szP_mono (p : List (List (List Int))) {i j : Nat} (h : i ≤ j) : szP p i ≤ szP p j := by
  induction j with
  | zero => have : i = 0 := by omega
            subst this; exact Nat.le_refl _
  | succ j ih =>
    by_cases e : i = j + 1
    · subst e; exact Nat.le_refl _
    · have := ih (by omega); simp only [szP]; omega
theorem tab_le_szP (p : List (List (List Int))) {i n : Nat} (h : i < n) : (tabAt p i).length + sumN (tabAt p i) (tabAt p i).length ≤ szP p n := by
  have := szP_mono p (show i + 1 ≤ n by omega)
  simp only [szP] at this; omega
theorem sumP_le_szP (p : List (List (List Int))) (n : Nat) : sumP p n ≤ szP p n := by
  induction n with
  | zero => exact Nat.le_refl _
  | succ n ih => simp only [sumP, szP]; omega
end Go.Proofs.YtlmaeadbomnhlaaGreat

namespace Go.Proofs.YtlmaeadbomnhlaaGreat
set_option linter.unusedSimpArgs false
set_option linter.unusedVariables false
open Go.RowKit
theorem TabOwn.cells {w : World} {lo hi : Nat} {T : Option Addr} {A : Nat → Option Addr} {C : Nat → Nat} {g : List (List Int)} (h : TabOwn w lo hi T A C g) {b : Nat} (hb : RowAtB A g b) : ∃ N f, w.rowIs b 3 N f := by
  obtain ⟨i, hi, h0, e⟩ := hb
  obtain ⟨_, _, _, _, _, _, _, _, _, h6⟩ := h (by omega)
  obtain ⟨b', N, f, e', _, _, h3, _⟩ := h6.own i hi h0
  rw [e] at e'; injection e' with e'; injection e' with e'; subst e'; exact ⟨N, f, h3⟩
theorem Marking.tab {w wr : World} {lo hi b N : Nat} {f : Nat → Value} {A : Nat → Option Addr} {C : Nat → Nat} {g : List (List Int)} {k : Int} (h : Marking w wr lo hi b N f A g k g.length) (h1 : lo ≤ b) (h2 : b < hi) (hN : g.length ≤ N)
    (hf : ∀ i, i < g.length → f i = .slice (A i) (rowAt g i).length (C i)) (hR : RowsOwn w lo hi A C g) : TabOwn wr lo hi (some ⟨b, 0, none⟩) A C (marks g k) := by
  intro _
  have hlen : ∀ i, i < g.length → (rowAt (marks g k) i).length = (rowAt g i).length := fun i hi => by rw [rowAt_marks g k i hi, seqN_length]
  refine ⟨b, N, f, rfl, h1, h2, by rw [marks_length]; exact hN, h.top, fun i hi => ?_, ⟨fun i hi => ?_, fun i hi => ?_, fun i j hi hj hne p q => ?_⟩⟩
  · rw [marks_length] at hi; rw [hf i hi, hlen i hi]
  · rw [marks_length] at hi; rw [hlen i hi]; exact hR.cap i hi
  · rw [marks_length] at hi
    have := h.rows i hi
    rw [if_pos hi] at this
    rw [rowAt_marks g k i hi]; exact this
  · rw [marks_length] at hi hj
    rw [hlen i hi] at p
    rw [hlen j hj] at q
    exact hR.apart i j hi hj hne p q
structure PastOwn (w : World) (lo hi : Nat) (TP : Option Addr) (p : List (List (List Int))) (A : Nat → Nat → Option Addr) (C : Nat → Nat → Nat) (TT : Nat → Option Addr) (CC : Nat → Nat) : Prop where
  top : 0 < p.length → ∃ (b off N : Nat) (f : Nat → Value), TP = some ⟨b, off, none⟩ ∧ lo ≤ b ∧ b < hi ∧ off + p.length ≤ N ∧ w.rowIs b 23 N f ∧
    ∀ i, i < p.length → f (off + i) = .slice (TT i) (tabAt p i).length (CC i) ∧ (tabAt p i).length ≤ CC i ∧ CC i ≤ maxLen
  tabs : ∀ i, i < p.length → TabOwn w lo hi (TT i) (A i) (C i) (tabAt p i)
  apart : ∀ s t b, s < p.length → t < p.length → s ≠ t → RowAtB (A s) (tabAt p s) b → ¬ RowAtB (A t) (tabAt p t) b
def PastRow (A : Nat → Nat → Option Addr) (p : List (List (List Int))) (b : Nat) : Prop := ∃ t, t < p.length ∧ RowAtB (A t) (tabAt p t) b
structure MarkP (w wr : World) (lo hi b N : Nat) (f : Nat → Value) (A : Nat → Nat → Option Addr) (C : Nat → Nat → Nat) (TT : Nat → Option Addr) (p : List (List (List Int))) (k : Int) (m : Nat) : Prop where
  touch : TouchS (PastRow A p) w wr
  top : wr.rowIs b 23 N f
  tabs : ∀ i, i < p.length → TabOwn wr lo hi (TT i) (A i) (C i) (partP p k m i)
theorem partP_at (p : List (List (List Int))) (k : Int) (m : Nat) : partP p k m m = tabAt p m := if_neg (Nat.lt_irrefl m)
theorem partP_next (p : List (List (List Int))) (k : Int) (m : Nat) : partP p k (m + 1) m = marks (tabAt p m) (k + (sumP p m : Int)) := if_pos (Nat.lt_succ_self m)
theorem partP_other (p : List (List (List Int))) (k : Int) {m i : Nat} (h : i ≠ m) : partP p k (m + 1) i = partP p k m i := by
  unfold partP
  by_cases h1 : i < m
  · rw [if_pos h1, if_pos (by omega)]
  · rw [if_neg h1, if_neg (by omega)]
theorem MarkP.step {w wr w2 : World} {lo hi b N : Nat} {f : Nat → Value} {A : Nat → Nat → Option Addr} {C : Nat → Nat → Nat} {TT : Nat → Option Addr} {p : List (List (List Int))} {k : Int} {m : Nat} (h : MarkP w wr lo hi b N f A C TT p k m) (hm : m < p.length)
    (hap : ∀ s t b, s < p.length → t < p.length → s ≠ t → RowAtB (A s) (tabAt p s) b → ¬ RowAtB (A t) (tabAt p t) b)
    (ht : TouchS (RowAtB (A m) (tabAt p m)) wr w2) (ho : TabOwn w2 lo hi (TT m) (A m) (C m) (marks (tabAt p m) (k + (sumP p m : Int)))) : MarkP w w2 lo hi b N f A C TT p k (m + 1) := by
  have own_m := h.tabs m hm
  rw [partP_at] at own_m
  refine ⟨h.touch.trans (ht.mono fun x hx => ⟨m, hm, hx⟩), h.top.of_block (ht.block _ fun hx => ?_), fun i hi => ?_⟩
  · obtain ⟨N', f', h'⟩ := own_m.cells hx
    exact rowIs_ne h.top h' (by decide) rfl
  · by_cases e : i = m
    · subst e; rw [partP_next]; exact ho
    · rw [partP_other p k e]
      refine (h.tabs i hi).touch ht (fun b hb => own_m.cells hb) (fun b hb hx => ?_)
      rw [partP_rows] at hx
      exact hap m i b hm hi (Ne.symm e) hb hx
theorem MarkP.done {w wr : World} {lo hi b off N : Nat} {f : Nat → Value} {A : Nat → Nat → Option Addr} {C : Nat → Nat → Nat} {TT : Nat → Option Addr} {CC : Nat → Nat} {p : List (List (List Int))} {k : Int} (h : MarkP w wr lo hi b N f A C TT p k p.length) (h1 : lo ≤ b) (h2 : b < hi) (hN : off + p.length ≤ N)
    (hf : ∀ i, i < p.length → f (off + i) = .slice (TT i) (tabAt p i).length (CC i) ∧ (tabAt p i).length ≤ CC i ∧ CC i ≤ maxLen)
    (hap : ∀ s t b, s < p.length → t < p.length → s ≠ t → RowAtB (A s) (tabAt p s) b → ¬ RowAtB (A t) (tabAt p t) b) : PastOwn wr lo hi (some ⟨b, off, none⟩) (marksP p k) A C TT CC := by
  have e1 := marksP_length p k
  have e2 : ∀ i, i < p.length → (tabAt (marksP p k) i).length = (tabAt p i).length := fun i hi => by rw [tabAt_marksP p k hi, marks_length]
  refine ⟨fun _ => ⟨b, off, N, f, rfl, h1, h2, by rw [e1]; exact hN, h.top, fun i hi => ?_⟩, fun i hi => ?_, fun s t b hs ht hne hb => ?_⟩
  · rw [e1] at hi; rw [e2 i hi]; exact hf i hi
  · rw [e1] at hi
    have := h.tabs i hi
    unfold partP at this
    rw [if_pos hi] at this
    rw [tabAt_marksP p k hi]; exact this
  · rw [e1] at hs ht
    rw [tabAt_marksP p k hs] at hb
    rw [tabAt_marksP p k ht]
    exact fun hx => hap s t b hs ht hne (RowAtB.marks.1 hb) (RowAtB.marks.1 hx)
end Go.Proofs.YtlmaeadbomnhlaaGreat

namespace Go.Proofs.YtlmaeadbomnhlaaGreat
set_option linter.unusedSimpArgs false
set_option linter.unusedVariables false
open Go.RowKit
def SizedD (d : Dk) (left : Int) (w : World) (e : Ending) (w' : World) : Prop :=
  ∃ r : Int, e = .returned (.int .i64 r) ∧ Below w.heap.size w w' ∧ (r < 0 ∨ (0 ≤ r ∧ (d.now.length : Int) + (sumN d.now d.now.length : Nat) + ((d.past.length : Int) + (szP d.past d.past.length : Nat)) + r ≤ left))
structure SmallD (d : Dk) : Prop where
  now : d.now.length ≤ 4294967296
  past : d.past.length ≤ 4294967296
  tabs : ∀ i, i < d.past.length → (tabAt d.past i).length ≤ 4294967296
  size : sizeD d ≤ 1048576
theorem SizedD.small {d : Dk} {left r : Int} (hl : left ≤ 1048576) (hr : 0 ≤ r) (h : (d.now.length : Int) + (sumN d.now d.now.length : Nat) + ((d.past.length : Int) + (szP d.past d.past.length : Nat)) + r ≤ left) : SmallD d := by
  have := sumP_le_szP d.past d.past.length
  refine ⟨by omega, by omega, fun i hi => ?_, by unfold sizeD; omega⟩
  have := tab_le_szP d.past hi
  omega
theorem OwnDk.of {w : World} {lo hi : Nat} {TN TP : Option Addr} {d : Dk} {A : Nat → Nat → Option Addr} {C : Nat → Nat → Nat} {TT : Nat → Option Addr} {CC : Nat → Nat} (h : TabOwn w lo hi TN (A 0) (C 0) d.now) (hp : PastOwn w lo hi TP d.past (fun i => A (i + 1)) (fun i => C (i + 1)) TT CC)
    (ha : ∀ t b, t < d.past.length → RowAtB (A 0) d.now b → ¬ RowAtB (A (t + 1)) (tabAt d.past t) b) : OwnDk w lo hi TN TP d A C TT CC := by
  refine ⟨h, hp.top, hp.tabs, fun s t b hs ht hne => ?_⟩
  cases s with
  | zero =>
    cases t with
    | zero => exact absurd rfl hne
    | succ t => exact ha t b (by omega)
  | succ s =>
    cases t with
    | zero => exact fun h1 h2 => ha s b (by omega) h2 h1
    | succ t => exact hp.apart s t b (by omega) (by omega) (by omega)
theorem PastOwn.touch {w w' : World} {lo hi : Nat} {TP : Option Addr} {p : List (List (List Int))} {A : Nat → Nat → Option Addr} {C : Nat → Nat → Nat} {TT : Nat → Option Addr} {CC : Nat → Nat} {K : Nat → Prop} (h : PastOwn w lo hi TP p A C TT CC) (ht : TouchS K w w') (hK : ∀ b, K b → ∃ N f, w.rowIs b 3 N f) (hA : ∀ t b, t < p.length → K b → ¬ RowAtB (A t) (tabAt p t) b) : PastOwn w' lo hi TP p A C TT CC := by
  refine ⟨fun h0 => ?_, fun i hi => (h.tabs i hi).touch ht hK fun b hb => hA i b hi hb, h.apart⟩
  obtain ⟨b, off, N, f, e, h1, h2, h3, h4, h5⟩ := h.top h0
  refine ⟨b, off, N, f, e, h1, h2, h3, h4.of_block (ht.block b fun hk => ?_), h5⟩
  obtain ⟨N', f', h'⟩ := hK b hk
  exact rowIs_ne h4 h' (by decide) rfl
end Go.Proofs.YtlmaeadbomnhlaaGreat
