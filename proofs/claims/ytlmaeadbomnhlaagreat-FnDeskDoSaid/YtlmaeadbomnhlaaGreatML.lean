/- Texts in one: Iter, ImplM, Parts, Over, IterS, Going, Mine. -/
import Derived.Test.YtlmaeadbomnhlaaGreatProg
import Derived.RangeFuncBound
import Derived.RangeFuncCalls
import Derived.RangeFuncLeaves
import Derived.RangeFuncNested
import Derived.Below
import Derived.Test.YtlmaeadbomnhlaaGreatMK
import Derived.Shelf.Abstract
import Derived.Shelf.RegionOpen
import Derived.WalkKit
import Derived.OwnWalkIn
import Derived.TacticsInMore
import Derived.LoopNIn
import Derived.LoopIn
import Derived.Test.YtlmaeadbomnhlaaGreatMF
import Derived.Test.YtlmaeadbomnhlaaGreatMC
namespace Go.Proofs.YtlmaeadbomnhlaaGreat
set_option linter.unusedSimpArgs false
set_option linter.unusedVariables false
open Go.RowKit
structure Above (B : Nat) (W W' : World) : Prop where
  size : W.heap.size ≤ W'.heap.size
  block : ∀ k, B ≤ k → k < W.heap.size → W'.heap[k]? = W.heap[k]?
theorem Above.refl (B : Nat) (W : World) : Above B W W := ⟨Nat.le_refl _, fun _ _ _ => rfl⟩
theorem Above.trans {B : Nat} {X Y Z : World} (h : Above B X Y) (k : Above B Y Z) : Above B X Z :=
  ⟨Nat.le_trans h.size k.size, fun i h1 h2 => (k.block i h1 (Nat.lt_of_lt_of_le h2 h.size)).trans (h.block i h1 h2)⟩
theorem Above.mono {B B' : Nat} {X Y : World} (h : Above B X Y) (hB : B ≤ B') : Above B' X Y := ⟨h.size, fun k h1 h2 => h.block k (Nat.le_trans hB h1) h2⟩
theorem Above.of_below {B : Nat} {X Y : World} (h : Below X.heap.size X Y) : Above B X Y := ⟨h.size, fun k _ h2 => h.block k h2⟩
def Low {β : Type} (B : Nat) (J : β → World → Prop) : Prop := ∀ s A A', J s A → Below B A A' → J s A'
theorem Low.mono {β : Type} {B B' : Nat} {J : β → World → Prop} (h : Low B J) (hB : B ≤ B') : Low B' J := fun s A A' hs hb => h s A A' hs (hb.mono hB)
structure StepX (B : Nat) (A A' : World) : Prop where
  below : Below B A A'
  cells : ∀ (k : Nat) (o : Obj), A.heap[k]? = some o → o.isCells = true → A'.heap[k]? = some o
theorem StepX.refl (B : Nat) (A : World) : StepX B A A := ⟨Below.refl _ _, fun _ _ h _ => h⟩
theorem StepX.mono {B B' : Nat} {A A' : World} (h : StepX B A A') (hB : B' ≤ B) : StepX B' A A' := ⟨h.below.mono hB, h.cells⟩
theorem StepX.trans {B : Nat} {X Y Z : World} (h : StepX B X Y) (k : StepX B Y Z) : StepX B X Z := ⟨h.below.trans k.below, fun i o h1 h2 => k.cells i o (h.cells i o h1 h2) h2⟩
theorem StepX.putObj {B l : Nat} {W : World} {o : Obj} (o' : Obj) (hl : W.heap[l]? = some o) (ho : o.isCells = false) (hB : B ≤ l) : StepX B W (W.putObj l o') :=
  ⟨⟨rfl, rfl, rfl, by simp, fun k hk => World.putObj_heap_other (by omega)⟩, fun k u h1 h2 => by
    by_cases e : k = l
    · subst e; rw [hl] at h1; cases h1; rw [ho] at h2; cases h2
    · exact (World.putObj_heap_other e).trans h1⟩
def LowX {β : Type} (B : Nat) (J : β → World → Prop) : Prop := ∀ s A A', J s A → StepX B A A' → J s A'
theorem LowX.mono {β : Type} {B B' : Nat} {J : β → World → Prop} (h : LowX B J) (hB : B ≤ B') : LowX B' J := fun s A A' hs hb => h s A A' hs (hb.mono hB)
def Turn (l : Nat) (W W' : World) : Prop := ∃ r, W' = W.putObj l (.loop r) ∧ W'.heap[l]? = some (.loop r)
theorem Turn.size {l : Nat} {W W' : World} (h : Turn l W W') : W'.heap.size = W.heap.size := by obtain ⟨r, rfl, _⟩ := h; simp
theorem Turn.other {l : Nat} {W W' : World} (h : Turn l W W') {k : Nat} (hk : k ≠ l) : W'.heap[k]? = W.heap[k]? := by obtain ⟨r, rfl, _⟩ := h; exact World.putObj_heap_other hk
theorem Turn.below {l B : Nat} {W W' : World} (h : Turn l W W') (hB : B ≤ l) : Below B W W' := by
  obtain ⟨r, rfl, _⟩ := h
  exact ⟨rfl, rfl, rfl, by simp, fun k hk => World.putObj_heap_other (by omega)⟩
def roundEnds (B : Nat) (I : World → Prop) (Ix : Code → World → Prop) (W2 : World) : Exit → Act → World → Prop
  | .normal, _, W3 => I W3 ∧ Below W2.heap.size W2 W3
  | .ret, _, W3 => Ix .ret W3 ∧ Above B W2 W3
  | .exit id, _, W3 => Ix (.exit id) W3 ∧ Above B W2 W3
  | .goto t, _, W3 => Ix (.goto t) W3 ∧ Above B W2 W3
  | .panic _, _, _ => False
  | .outgrown, _, _ => False
def Iter {α : Type} (P : Program) (g : Nat) (lb : Array Value) (encs : α → Array Value) (xs : List α) (w : World) : Prop :=
  ∀ (l : Nat) (J Jx : List α → World → Prop) (W : World), Below w.heap.size w W → Low W.heap.size J → LowX W.heap.size Jx →
    (∀ pre x post, xs = pre ++ x :: post → ∀ W1, W.heap.size ≤ W1.heap.size → J pre W1 → ∀ m, YieldAt Fence.wide m P l (encs x) W1 fun e W' =>
      (e = .returned (.bool true) ∧ J (pre ++ [x]) W' ∧ Below W1.heap.size W1 W') ∨ (e = .returned (.bool false) ∧ Jx (pre ++ [x]) W' ∧ Above W.heap.size W1 W')) →
    J [] W → ∀ n, CallsIn Fence.wide n P g (#[.func (.yield l) #[] #[]] ++ lb) W fun e W' => (∃ v, e = .returned v) ∧ (J xs W' ∨ ∃ pre, pre <+: xs ∧ Jx pre W')
theorem wpIn_any {F : Fence} (hd : F.depth = none) {n m : Nat} {P : Program} {c : Code} {Q : Exit → Act → World → Prop} {a : Act} {w : World} (h : c.wpIn F n P Q a w) : c.wpIn F m P Q a w :=
  fun b k cs h1 h2 _ => h b k cs h1 h2 (fun d hd' => by rw [hd] at hd'; cases hd')
theorem overCore {α : Type} {P : Program} {ps : Array Tmp} {assign body : Code} {tmps : Array Value} {B0 l n : Nat} {W1 : World} {gf : Nat} {lb : Array Value} {encs : α → Array Value} {xs : List α} {w0 : World} {fn : FuncId} {dd : Nat} {R : Ending → World → Prop}
    (rec : LoopState → Option Code → Loop) (hrec : rec = fun st pe => { state := st, pending := pe, fn, tmps, params := ps, assign, body, defers := dd })
    (D : Option Nat) (hD : ∀ d, D = some d → B0 ≤ d ∧ d < W1.heap.size ∧ d ≠ l) (hS1 : ∀ d, D = some d → W1.heap[d]? = some (.deferred (some [])))
    (hl1 : B0 ≤ l) (hl2 : l < W1.heap.size) (hL : W1.heap[l]? = some (.loop (rec .ready none)))
    (hseq : Iter P gf lb encs xs w0) (hb0 : Below w0.heap.size w0 W1) (hps : ∀ x, (encs x).size = ps.size)
    (I : List α → World → Prop) (Ix : Code → List α → World → Prop) (hI : Low B0 I) (hIx : ∀ c, LowX B0 (Ix c)) (h0 : I [] W1)
    (hround : ∀ (pre : List α) (x : α) (post : List α) (W : World), xs = pre ++ x :: post → l < W.heap.size → I pre W →
      assign.wpIn (Fence.wide.inRound l) 9 P (Exit.then (fun a1 Wa => Below W.heap.size W Wa ∧ ∀ W2, Turn l Wa W2 → body.wpIn (Fence.wide.inRound l) 9 P (roundEnds B0 (I (pre ++ [x])) (fun c => Ix c (pre ++ [x])) W2) a1 W2) (fun _ _ _ => False))
        { tmps := (ps.zip (encs x)).foldl (fun t (p, v) => t.setIfInBounds p v) tmps, defers := [] } W)
    (hend : ∀ v W, (∀ d, D = some d → W.heap[d]? = some (.deferred (some []))) →
      ((I xs W ∧ W.heap[l]? = some (.loop (rec .ready none))) ∨ (∃ c pre, pre <+: xs ∧ Ix c pre W ∧ W.heap[l]? = some (.loop (rec .done (some c))))) → R (.returned v) W) :
    CallsIn Fence.wide n P gf (#[.func (.yield l) #[] #[]] ++ lb) W1 R := by
  have hB : B0 ≤ W1.heap.size := by omega
  refine (hseq l
    (fun pre W => I pre W ∧ W.heap[l]? = some (.loop (rec .ready none)) ∧ (∀ d, D = some d → W.heap[d]? = some (.deferred (some []))))
    (fun pre W => ∃ c, Ix c pre W ∧ W.heap[l]? = some (.loop (rec .done (some c))) ∧ (∀ d, D = some d → W.heap[d]? = some (.deferred (some []))))
    W1 hb0
    (fun s A A' hs hb => ⟨hI s A A' hs.1 (hb.mono hB), (hb.block l hl2).trans hs.2.1, fun d hd => (hb.block d (hD d hd).2.1).trans (hs.2.2 d hd)⟩)
    (fun s A A' hs hb => by
      obtain ⟨c, h1, h2, h3⟩ := hs
      exact ⟨c, hIx c s A A' h1 (hb.mono hB), (hb.below.block l hl2).trans h2, fun d hd => (hb.below.block d (hD d hd).2.1).trans (h3 d hd)⟩)
    ?_ ⟨h0, hL, hS1⟩ n).mono ?_
  · -- one round
    rintro pre x post hx W hsz ⟨hi, hl, hd⟩ m
    have hlt : l < W.heap.size := Nat.lt_of_lt_of_le hl2 hsz
    have hy := run_yield (P := P) (args := encs x) hl (by rw [hrec]; exact hps x)
    rw [hrec] at hy
    refine ⟨fn, _, assign, body, hy, roundIn_of_wpIn (F := Fence.wide) trivial (wpIn_any rfl (wpIn_mono (hround pre x post W hx hlt hi) ?_))⟩
    rintro e a1 Wa hq
    cases e with
    | normal =>
      obtain ⟨hba, hbody⟩ := hq
      have hla := (hba.block l hlt).trans hl
      have hlta : l < Wa.heap.size := Nat.lt_of_lt_of_le hlt hba.size
      refine ⟨_, run_beginRound hla (by rw [hrec]), ?_⟩
      have hl2' : (Wa.putObj l (.loop { rec .ready none with state := .busy })).heap[l]? = some (.loop { rec .ready none with state := .busy }) := World.putObj_heap_same hlta
      have ht : Turn l Wa (Wa.putObj l (.loop { rec .ready none with state := .busy })) := ⟨_, rfl, hl2'⟩
      refine wpIn_any rfl (wpIn_mono (hbody _ ht) ?_)
      have hs2 := ht.size
      have fin : ∀ (jump : Option Code) (W3 : World), W3.heap[l]? = some (.loop { rec .ready none with state := .busy }) →
          (Instr.endRound l jump).run P W3 = .ok (.bool jump.isNone) (W3.putObj l (.loop (rec (if jump.isNone then .ready else .done) jump))) := fun jump W3 hl3 => by
        have := run_endRound (P := P) jump hl3
        rw [hrec] at this ⊢
        exact this
      have keep : ∀ (o : Obj) (W3 : World) (k : Nat), k ≠ l → k < W.heap.size → (W3.heap[k]? = (Wa.putObj l (.loop { rec .ready none with state := .busy })).heap[k]?) → (W3.putObj l o).heap[k]? = W.heap[k]? := fun o W3 k hk hk2 h3 => by
        rw [World.putObj_heap_other hk, h3, World.putObj_heap_other hk]; exact hba.block k hk2
      have leave : ∀ (c : Code) (W3 : World), Ix c (pre ++ [x]) W3 → Above B0 (Wa.putObj l (.loop { rec .ready none with state := .busy })) W3 →
          ∃ v w', (Instr.endRound l (some c)).run P W3 = .ok v w' ∧ (((Ending.returned v) = .returned (.bool true) ∧ (I (pre ++ [x]) w' ∧ w'.heap[l]? = some (.loop (rec .ready none)) ∧ (∀ d, D = some d → w'.heap[d]? = some (.deferred (some [])))) ∧ Below W.heap.size W w') ∨
            ((Ending.returned v) = .returned (.bool false) ∧ (∃ c, Ix c (pre ++ [x]) w' ∧ w'.heap[l]? = some (.loop (rec .done (some c))) ∧ (∀ d, D = some d → w'.heap[d]? = some (.deferred (some [])))) ∧ Above W1.heap.size W w')) := by
        intro c W3 hx3 ha3
        have hl3 : W3.heap[l]? = some (.loop { rec .ready none with state := .busy }) := (ha3.block l hl1 (by rw [hs2]; exact hlta)).trans hl2'
        have hlt3 := (Array.getElem?_eq_some_iff.1 hl3).1
        refine ⟨_, _, fin (some c) W3 hl3, .inr ⟨rfl, ⟨c, hIx c _ _ _ hx3 (StepX.putObj _ hl3 rfl hl1), World.putObj_heap_same hlt3, fun d hd' => ?_⟩, ?_⟩⟩
        · have h1 := hD d hd'
          exact (keep _ W3 d h1.2.2 (by omega) (ha3.block d h1.1 (by rw [hs2]; have := hba.size; omega))).trans (hd d hd')
        · refine ⟨by have h1 := hba.size; have h2 := ha3.size; rw [hs2] at h2; simp; omega, fun k hk1 hk2 => ?_⟩
          exact keep _ W3 k (by omega) hk2 (ha3.block k (by omega) (by rw [hs2]; have := hba.size; omega))
      rintro e a3 W3 hp
      cases e with
      | normal =>
        obtain ⟨hi3, hb3⟩ := hp
        have hl3 : W3.heap[l]? = some (.loop { rec .ready none with state := .busy }) := (hb3.block l (by rw [hs2]; exact hlta)).trans hl2'
        have hlt3 := (Array.getElem?_eq_some_iff.1 hl3).1
        have same : (W3.putObj l (.loop (rec .ready none))).heap[l]? = some (.loop (rec .ready none)) := World.putObj_heap_same hlt3
        refine ⟨_, _, fin none W3 hl3, .inl ⟨rfl, ⟨hI _ _ _ hi3 ⟨rfl, rfl, rfl, by simp, fun k hk => World.putObj_heap_other (by omega)⟩, same, fun d hd' => ?_⟩, ?_⟩⟩
        · have h1 := hD d hd'
          exact (keep _ W3 d h1.2.2 (by omega) (hb3.block d (by rw [hs2]; have := hba.size; omega))).trans (hd d hd')
        · refine ⟨hb3.os.trans hba.os, hb3.tape.trans hba.tape, hb3.output.trans hba.output, by have h1 := hba.size; have h2 := hb3.size; rw [hs2] at h2; simp; omega, fun k hk2 => ?_⟩
          by_cases hkl : k = l
          · subst hkl; exact same.trans hl.symm
          · exact keep _ W3 k hkl hk2 (hb3.block k (by rw [hs2]; have := hba.size; omega))
      | ret => exact leave .ret W3 hp.1 hp.2
      | exit id => exact leave (.exit id) W3 hp.1 hp.2
      | goto t => exact leave (.goto t) W3 hp.1 hp.2
      | panic ch => exact hp.elim
      | outgrown => exact hp.elim
    | exit id => exact hq.elim
    | goto t => exact hq.elim
    | ret => exact hq.elim
    | panic ch => exact hq.elim
    | outgrown => exact hq.elim
  · rintro e W ⟨⟨v, rfl⟩, ⟨h1, h2, h3⟩ | ⟨pre, hp, c, h1, h2, h3⟩⟩
    · exact hend v W h3 (.inl ⟨h1, h2⟩)
    · exact hend v W h3 (.inr ⟨c, pre, hp, h1, h2⟩)
theorem overOuter {α : Type} {P : Program} {g : Operand} {ps : Array Tmp} {assign body : Code} {Q : Exit → Act → World → Prop} {a : Act} {w : World} {n : Nat}
    {gf : Nat} {lb : Array Value} (hg : a.eval g = .func (.func gf) #[] lb) (eg : ∀ args w, (callFunc gf args).run P w = .ok (.enter gf args) w)
    {encs : α → Array Value} {xs : List α} {w0 : World} (hseq : Iter P gf lb encs xs w0) (hb0 : Below w0.heap.size w0 w) (hps : ∀ x, (encs x).size = ps.size)
    (I : List α → World → Prop) (Ix : Code → List α → World → Prop) (hI : Low w.heap.size I) (hIx : ∀ c, LowX w.heap.size (Ix c)) (h0 : I [] w)
    (hround : ∀ (l : Nat) (pre : List α) (x : α) (post : List α) (W : World), xs = pre ++ x :: post → w.heap.size ≤ l → l < W.heap.size → I pre W →
      assign.wpIn (Fence.wide.inRound l) 9 P (Exit.then (fun a1 Wa => Below W.heap.size W Wa ∧ ∀ W2, Turn l Wa W2 → body.wpIn (Fence.wide.inRound l) 9 P (roundEnds w.heap.size (I (pre ++ [x])) (fun c => Ix c (pre ++ [x])) W2) a1 W2) (fun _ _ _ => False))
        { tmps := (ps.zip (encs x)).foldl (fun t (p, v) => t.setIfInBounds p v) a.tmps, defers := [] } W)
    (hdone : ∀ (D : Nat) (W : World), w.heap.size ≤ D → I xs W → W.heap[D]? = some (.deferred (some [])) → Q .normal { a with defers := { target := .collected D, args := #[] } :: a.defers } W)
    (hstop : ∀ (D : Nat) (c : Code) (pre : List α) (W : World), w.heap.size ≤ D → pre <+: xs → Ix c pre W → W.heap[D]? = some (.deferred (some [])) → c.wpIn Fence.wide n P Q { a with defers := { target := .collected D, args := #[] } :: a.defers } W) :
    (Code.rangeFunc g ps assign body).wpIn Fence.wide n P Q a w := by
  refine wpIn_rangeFunc ?_
  intro fn hfn
  show ∃ (l : Nat) (mark : List Deferred) (w₁ : World) (d : Deferred) (w₁' : World) (f : FuncId) (args : Array Value) (w₂ : World), (Instr.enterLoop fn a.tmps ps assign body none).run P w = .ok (l, mark) w₁ ∧ _
  obtain ⟨rec, hrec⟩ : ∃ rec : LoopState → Option Code → Loop, rec = fun st pe => { state := st, pending := pe, fn, tmps := a.tmps, params := ps, assign, body, defers := w.heap.size } := ⟨_, rfl⟩
  obtain ⟨W1, hW1⟩ : ∃ W1, (w.alloc (.deferred (some []))).alloc (.loop (rec .ready none)) = W1 := ⟨_, rfl⟩
  have hL1 : W1.heap[w.heap.size + 1]? = some (.loop (rec .ready none)) := by
    rw [← hW1]; have := World.alloc_heap_new (w.alloc (.deferred (some []))) (.loop (rec .ready none)); rwa [World.size_alloc] at this
  have hK1 : W1.heap[w.heap.size]? = some (.deferred (some [])) := by
    rw [← hW1]; exact (Below.heap_alloc _ _ _ (by simp)).trans (World.alloc_heap_new w _)
  have hbw : Below w.heap.size w W1 := by rw [← hW1]; exact ((Below.refl _ w).alloc (Nat.le_refl _) _).alloc (by simp) _
  have hsz : W1.heap.size = w.heap.size + 2 := by rw [← hW1]; simp
  have hb1 : Below w0.heap.size w0 W1 := hb0.trans (hbw.mono hb0.size)
  refine ⟨w.heap.size + 1, [{ target := .collected w.heap.size, args := #[] }], W1, { target := .fn (.func gf) lb, args := #[.func (.yield (w.heap.size + 1)) #[] #[]] }, W1, gf,
    #[.func (.yield (w.heap.size + 1)) #[] #[]] ++ lb, W1, ?_, ?_, ?_, ?_, (fun h => by simp [Fence.wide] at h), ?_⟩
  · rw [← hW1, hrec]; exact run_enterLoop_outer _ _ _ _ _
  · simp only [resolve, hg]
    simp [go_sem]
  · intro f' hf'; trivial
  · simp [invoke, go_sem, eg]
  · refine overCore (B0 := w.heap.size) rec hrec (some w.heap.size) (fun d hd => by cases hd; omega) (fun d hd => by cases hd; exact hK1) (by omega) (by omega) hL1 hseq hb1 hps I Ix hI hIx (hI _ _ _ h0 hbw)
      (fun pre x post W hx hlt hi => hround _ pre x post W hx (by omega) hlt hi) ?_
    rintro v W hd (⟨hi, hl⟩ | ⟨c, pre, hp, hi, hl⟩)
    · have hE : (Instr.endLoop (w.heap.size + 1)).run P W = .ok none (W.putObj (w.heap.size + 1) (.loop { rec .ready none with state := .exhausted })) := by have := run_endLoop (P := P) hl (by rw [hrec]; simp); rw [hrec] at this ⊢; exact this
      refine ⟨none, _, hE, ?_⟩
      exact (hdone _ _ (Nat.le_refl _) (hI _ _ _ hi ⟨rfl, rfl, rfl, by simp, fun k hk => World.putObj_heap_other (by omega)⟩) ((World.putObj_heap_other (by omega)).trans (hd _ rfl)))
    · have hE : (Instr.endLoop (w.heap.size + 1)).run P W = .ok (some c) (W.putObj (w.heap.size + 1) (.loop { rec .done (some c) with state := .exhausted })) := by have := run_endLoop (P := P) hl (by rw [hrec]; simp); rw [hrec] at this ⊢; exact this
      refine ⟨some c, _, hE, ?_⟩
      exact (hstop _ c pre _ (Nat.le_refl _) hp (hIx c _ _ _ hi (StepX.putObj _ hl rfl (by omega))) ((World.putObj_heap_other (by omega)).trans (hd _ rfl)))
theorem overInner {α : Type} {P : Program} {g : Operand} {ps : Array Tmp} {assign body : Code} {Q : Exit → Act → World → Prop} {a : Act} {w : World} {n : Nat}
    {l₀ : Nat} {r₀ : Loop} (hl₀ : w.heap[l₀]? = some (.loop r₀)) {gf : Nat} {lb : Array Value} (hg : a.eval g = .func (.func gf) #[] lb) (eg : ∀ args w, (callFunc gf args).run P w = .ok (.enter gf args) w)
    {encs : α → Array Value} {xs : List α} {w0 : World} (hseq : Iter P gf lb encs xs w0) (hb0 : Below w0.heap.size w0 w) (hps : ∀ x, (encs x).size = ps.size)
    (I : List α → World → Prop) (Ix : Code → List α → World → Prop) (hI : Low w.heap.size I) (hIx : ∀ c, LowX w.heap.size (Ix c)) (h0 : I [] w)
    (hround : ∀ (l : Nat) (pre : List α) (x : α) (post : List α) (W : World), xs = pre ++ x :: post → w.heap.size ≤ l → l < W.heap.size → I pre W →
      assign.wpIn (Fence.wide.inRound l) 9 P (Exit.then (fun a1 Wa => Below W.heap.size W Wa ∧ ∀ W2, Turn l Wa W2 → body.wpIn (Fence.wide.inRound l) 9 P (roundEnds w.heap.size (I (pre ++ [x])) (fun c => Ix c (pre ++ [x])) W2) a1 W2) (fun _ _ _ => False))
        { tmps := (ps.zip (encs x)).foldl (fun t (p, v) => t.setIfInBounds p v) a.tmps, defers := [] } W)
    (hdone : ∀ (W : World), I xs W → Q .normal a W)
    (hstop : ∀ (c : Code) (pre : List α) (W : World), pre <+: xs → Ix c pre W → c.wpIn (Fence.wide.inRound l₀) n P Q a W) :
    (Code.rangeFunc g ps assign body).wpIn (Fence.wide.inRound l₀) n P Q a w := by
  refine wpIn_rangeFunc ?_
  intro fn hfn
  show ∃ (l : Nat) (mark : List Deferred) (w₁ : World) (d : Deferred) (w₁' : World) (f : FuncId) (args : Array Value) (w₂ : World), (Instr.enterLoop fn a.tmps ps assign body (some l₀)).run P w = .ok (l, mark) w₁ ∧ _
  obtain ⟨rec, hrec⟩ : ∃ rec : LoopState → Option Code → Loop, rec = fun st pe => { state := st, pending := pe, fn, tmps := a.tmps, params := ps, assign, body, defers := r₀.defers } := ⟨_, rfl⟩
  obtain ⟨W1, hW1⟩ : ∃ W1, w.alloc (.loop (rec .ready none)) = W1 := ⟨_, rfl⟩
  have hL1 : W1.heap[w.heap.size]? = some (.loop (rec .ready none)) := by rw [← hW1]; exact World.alloc_heap_new w _
  have hbw : Below w.heap.size w W1 := by rw [← hW1]; exact (Below.refl _ w).alloc (Nat.le_refl _) _
  have hsz : W1.heap.size = w.heap.size + 1 := by rw [← hW1]; simp
  have hb1 : Below w0.heap.size w0 W1 := hb0.trans (hbw.mono hb0.size)
  refine ⟨w.heap.size, [], W1, { target := .fn (.func gf) lb, args := #[.func (.yield w.heap.size) #[] #[]] }, W1, gf,
    #[.func (.yield w.heap.size) #[] #[]] ++ lb, W1, ?_, ?_, ?_, ?_, (fun h => by simp [Fence.wide] at h), ?_⟩
  · rw [← hW1, hrec]; exact run_enterLoop_inner hl₀ _ _ _ _ _
  · simp only [resolve, hg]
    simp [go_sem]
  · intro f' hf'; trivial
  · simp [invoke, go_sem, eg]
  · refine CallsIn.inRound l₀ (overCore (B0 := w.heap.size) rec hrec none (fun d hd => by cases hd) (fun d hd => by cases hd) (by omega) (by omega) hL1 hseq hb1 hps I Ix hI hIx (hI _ _ _ h0 hbw)
      (fun pre x post W hx hlt hi => hround _ pre x post W hx (by omega) hlt hi) ?_)
    rintro v W hd (⟨hi, hl⟩ | ⟨c, pre, hp, hi, hl⟩)
    · have hE : (Instr.endLoop w.heap.size).run P W = .ok none (W.putObj w.heap.size (.loop { rec .ready none with state := .exhausted })) := by have := run_endLoop (P := P) hl (by rw [hrec]; simp); rw [hrec] at this ⊢; exact this
      refine ⟨none, _, hE, ?_⟩
      exact (hdone _ (hI _ _ _ hi ⟨rfl, rfl, rfl, by simp, fun k hk => World.putObj_heap_other (by omega)⟩))
    · have hE : (Instr.endLoop w.heap.size).run P W = .ok (some c) (W.putObj w.heap.size (.loop { rec .done (some c) with state := .exhausted })) := by have := run_endLoop (P := P) hl (by rw [hrec]; simp); rw [hrec] at this ⊢; exact this
      refine ⟨some c, _, hE, ?_⟩
      exact (hstop c pre _ hp (hIx c _ _ _ hi (StepX.putObj _ hl rfl (by omega))))
end Go.Proofs.YtlmaeadbomnhlaaGreat

namespace Go.Proofs.YtlmaeadbomnhlaaGreat
set_option linter.unusedSimpArgs false
set_option linter.unusedVariables false
open Go.RowKit Go.Shelf
attribute [local go_sem] Oper.semAt_some
def Round (P : Program) (l : Nat) (args : Array Value) (W : World) (T : World → Prop) (N : World → Prop) : Prop :=
  ∀ m, YieldAt Fence.wide m P l args W fun e W' => ∃ b, e = .returned (.bool b) ∧ (b = true → T W') ∧ (b = false → N W')
theorem Round.of {P : Program} {l : Nat} {args : Array Value} {W : World} {T N : World → Prop} (h : ∀ m, YieldAt Fence.wide m P l args W fun e W' => (e = .returned (.bool true) ∧ T W') ∨ (e = .returned (.bool false) ∧ N W')) : Round P l args W T N := fun m =>
  (h m).mono fun e W' hr => by
    rcases hr with ⟨rfl, h1⟩ | ⟨rfl, h1⟩
    · exact ⟨true, rfl, fun _ => h1, fun h => by cases h⟩
    · exact ⟨false, rfl, fun h => by (cases h), fun _ => h1⟩
def sets (m k : Nat) : List Nat := (List.range (2 ^ m)).filter fun s => popN s == k
def setsTo (k s : Nat) : List Nat := (List.range s).filter fun s => popN s == k
theorem setsTo_yes {k s : Nat} (h : popN s = k) : setsTo k (s + 1) = setsTo k s ++ [s] := by
  unfold setsTo; rw [List.range_succ, List.filter_append]; simp [h]
theorem setsTo_no {k s : Nat} (h : popN s ≠ k) : setsTo k (s + 1) = setsTo k s := by
  unfold setsTo; rw [List.range_succ, List.filter_append]; simp [h]
theorem setsTo_prefix {k s n : Nat} (h : s ≤ n) : setsTo k s <+: setsTo k n := by
  induction n with
  | zero => have : s = 0 := (by omega); subst this; exact List.prefix_rfl
  | succ n ih =>
    by_cases e : s = n + 1
    · subst e; exact List.prefix_rfl
    · refine (ih (by omega)).trans ?_
      by_cases h : popN n = k
      · rw [setsTo_yes h]; exact List.prefix_append _ _
      · rw [setsTo_no h]; exact List.prefix_rfl
set_option maxHeartbeats 1000000 in
theorem setsOfSizeI (m k : Nat) (w : World) :
    Calls Tryz.prog 60 #[.int .i64 (m : Nat), .int .i64 (k : Nat)] w fun e w' => e = .returned (.func (.func 82) #[] #[.pointer (some ⟨w.heap.size, 0, none⟩), .pointer (some ⟨w.heap.size + 1, 0, none⟩)]) ∧
      w' = (w.alloc (.cells #[.int .i64 (m : Nat)] 3)).alloc (.cells #[.int .i64 (k : Nat)] 3) := by
  go_enter Tryz.func60, Tryz.ntmps60
  go_wp2_with fail
  go_ret
  exact ⟨by simp, rfl⟩
theorem two_le {m : Nat} (h : m ≤ 4) : 2 ^ m ≤ 16 := by
  have : m = 0 ∨ m = 1 ∨ m = 2 ∨ m = 3 ∨ m = 4 := by omega
  rcases this with rfl | rfl | rfl | rfl | rfl <;> decide
set_option maxRecDepth 100000 in
set_option maxHeartbeats 1000000 in
theorem setsIter (m k b1 b2 : Nat) (hm : m ≤ 4) (w : World) (h1 : w.cell? ⟨b1, 0, none⟩ = some (.int .i64 (m : Nat))) (h2 : w.cell? ⟨b2, 0, none⟩ = some (.int .i64 (k : Nat))) (l1 : b1 < w.heap.size) (l2 : b2 < w.heap.size) :
    Iter Tryz.prog 82 #[.pointer (some ⟨b1, 0, none⟩), .pointer (some ⟨b2, 0, none⟩)] (fun x : Nat => #[.int .i64 (x : Nat)]) (sets m k) w := by
  intro l J Jx W hW hJ hJx hY h0 n
  refine callsIn_wide.2 ((callsIn_wide (n := 9)).1 ?_)
  refine callsIn_of_wp Tryz.func82 rfl trivial ?_ rfl
  simp only [Tryz.ntmps82, List.size_toArray, List.length_cons, List.length_nil, Nat.reduceAdd, Nat.reduceSub, Array.replicate_succ, Array.replicate_zero, List.push_toArray, List.append_toArray, List.nil_append, List.cons_append]
  have hc1 := (hW.cell (p := ⟨b1, 0, none⟩) l1).trans h1
  have hn16 := two_le hm
  have hws := hW.size
  have HJ := Lib.hid hJ
  have HJX := Lib.hid hJx
  have HY := Lib.hid hY
  have H2 := Lib.hid (fun (wr : World) (hb : Below W.heap.size W wr) => (hb.cell (p := ⟨b2, 0, none⟩) (Nat.lt_of_lt_of_le l2 hws)).trans ((hW.cell (p := ⟨b2, 0, none⟩) l2).trans h2))
  have hse : sets m k = setsTo k (2 ^ m) := rfl
  rw [hse] at HY ⊢
  have hwN : wrap64 (2 ^ m) = ((2 ^ m : Nat) : Int) := by
    have h4 : m = 0 ∨ m = 1 ∨ m = 2 ∨ m = 3 ∨ m = 4 := by omega
    rcases h4 with rfl | rfl | rfl | rfl | rfl <;> decide +kernel
  obtain ⟨N, hN⟩ : ∃ N, 2 ^ m = N := ⟨_, rfl⟩
  rw [hN] at hwN hn16 HY ⊢
  have hmx : Tryz.prog.follows .mixedOrders = true := by kernel_rfl
  clear hJ hJx hY h1 h2 hse hN
  gi_wp2
  gi_loopw [7] (fun i wr => ∃ s : Nat, s ≤ N ∧ i = .int .i64 (s : Nat) ∧ Hid (Below W.heap.size W wr) ∧ Hid (J (setsTo k s) wr)) (fun i _ => N - (intOf i).toNat)
  case atStart => exact ⟨0, Nat.zero_le _, rfl, Below.refl _ _, h0⟩
  case round =>
    obtain ⟨s, hs, rfl, HB, HS⟩ := hrel
    by_cases hlt : s < N
    · have HSZ : Hid (Calls Tryz.prog 83 #[.int .i64 (s : Nat)] wr.drew (Same (.int .i64 (popN s : Nat)) wr.drew)) := sizeOfI s (by omega) wr.drew
      have hc2 := H2.out wr HB.out
      have hc2d : wr.drew.cell? ⟨b2, 0, none⟩ = some (.int .i64 (k : Nat)) := hc2
      by_cases hp : popN s = k
      · have he : (((popN s : Nat) : Int) == ((k : Nat) : Int)) = true := by simp [hp]
        have hyes := setsTo_yes hp
        obtain ⟨post, hpost⟩ := setsTo_prefix (k := k) (show s + 1 ≤ N by omega)
        rw [hyes, List.append_assoc] at hpost
        have hbd : Below W.heap.size wr wr.drew := (Below.refl _ _).drew
        have hrd : Round Tryz.prog l #[.int .i64 (s : Nat)] wr.drew (fun W' => J (setsTo k s ++ [s]) W' ∧ Below wr.drew.heap.size wr.drew W') (fun W' => Jx (setsTo k s ++ [s]) W' ∧ Above W.heap.size wr.drew W') :=
          Round.of (HY.out (setsTo k s) s post hpost.symm wr.drew HB.out.size (HJ.out _ _ _ HS.out hbd))
        obtain ⟨fn, tmps, assign, body, hy, hR⟩ := hrd (9 - 1)
        have HYES := Lib.hid hyes
        have HPOST := Lib.hid hpost
        have HR := Lib.hid hR
        clear hyes hpost hrd hR hp
        gi_wp2
        gi_region_with_o (first | (refine ⟨trivial, ?_⟩; gi_at_call 83; refine (callsIn_wide.2 HSZ.out).mono ?_; rintro e w' ⟨rfl, rfl⟩) | (refine HR.out.mono ?_; rintro e W3 ⟨b, rfl, hb1, hb2⟩))
        all_goals cases b
        all_goals gi_wp2
        all_goals first
          | (go_roundw
             case rel => exact ⟨s + 1, by omega, by go_num, (HB.out.drew).trans ((hb1 rfl).2.mono HB.out.size), by rw [HYES.out]; exact (hb1 rfl).1⟩
             case measure => simp [intOf]; omega)
          | skip
        all_goals refine bodyPost_ret (results_none rfl _ _ _) rfl ?_
        all_goals exact ⟨⟨_, rfl⟩, .inr ⟨setsTo k s ++ [s], by rw [← HPOST.out, ← List.append_assoc]; exact List.prefix_append _ _, (by first | exact hb2 rfl | exact hb2 trivial : Jx (setsTo k s ++ [s]) W3 ∧ Above W.heap.size wr.drew W3).1⟩⟩
      · have he : (((popN s : Nat) : Int) == ((k : Nat) : Int)) = false := by simp; omega
        have HNO := Lib.hid (setsTo_no (k := k) hp)
        clear hp
        gi_wp2
        refine wpIn_region_any (by assumption) ?_
        try (change wpAnyIn _ _ _ _ _ _ _ _ _ (World.drew _))
        refine wpAnyIn_take (i := 0) (v := ?v1) rfl rfl (by kernel_rfl) (by kernel_rfl) (by kernel_rfl) (fun _ _ _ h => h) ⟨Or.inl ⟨by rfl, ?y1⟩, fun _ => rfl⟩ ?z1
        case y1 => (intro w; go_simp; first | done | with_reducible rfl)
        try simp only [List.getElem_toArray, List.getElem_cons_succ, List.getElem_cons_zero, Act.put, List.setIfInBounds_toArray, List.set_cons_zero, List.set_cons_succ]
        refine wpAnyIn_ready (rs := [1, 2]) (by kernel_rfl) (by simp) ?_
        refine AllReadyIn.cons rfl (fun K hK => ?_) (AllReadyIn.cons rfl (fun K hK => ?_) AllReadyIn.nil)
        · go_simp
          gi_wp2_with (refine ⟨trivial, ?_⟩; gi_at_call 83; refine (callsIn_wide.2 HSZ.out).mono ?_; rintro e w' ⟨rfl, rfl⟩)
          try refine hK _ _ ?_
          try clear hK K
          try simp only [List.getElem_toArray, List.getElem_cons_succ, List.getElem_cons_zero, Act.put, List.setIfInBounds_toArray, List.set_cons_zero, List.set_cons_succ]
          refine wpAnyIn_ready (rs := [2]) (by kernel_rfl) (by simp) ?_
          refine AllReadyIn.cons rfl (fun K hK => ?_) AllReadyIn.nil
          go_simp
          refine hK _ _ ?_
          clear hK K
          try simp only [List.getElem_toArray, List.getElem_cons_succ, List.getElem_cons_zero, Act.put, List.setIfInBounds_toArray, List.set_cons_zero, List.set_cons_succ]
          refine wpAnyIn_take (i := 3) (v := ?v2) rfl rfl (by kernel_rfl) (by kernel_rfl) (by kernel_rfl) (fun _ _ _ h => h) ⟨Or.inl ⟨by rfl, ?y2⟩, fun _ => rfl⟩ ?z2
          case y2 => (intro w; go_simp; first | done | with_reducible rfl)
          try simp only [List.getElem_toArray, List.getElem_cons_succ, List.getElem_cons_zero, Act.put, List.setIfInBounds_toArray, List.set_cons_zero, List.set_cons_succ]
          refine wpAnyIn_take (i := 4) (v := ?v3) rfl rfl (by kernel_rfl) (by kernel_rfl) (by kernel_rfl) (fun _ _ _ h => h) ⟨Or.inl ⟨by rfl, ?y3⟩, fun _ => rfl⟩ ?z3
          case y3 => (intro w; go_simp; first | done | with_reducible rfl)
          try simp only [List.getElem_toArray, List.getElem_cons_succ, List.getElem_cons_zero, Act.put, List.setIfInBounds_toArray, List.set_cons_zero, List.set_cons_succ]
          refine wpAnyIn_take (i := 5) rfl rfl (by kernel_rfl) (by kernel_rfl) (by kernel_rfl) (fun _ _ _ h => h) ⟨Or.inr ⟨by rfl, rfl⟩, fun _ => rfl⟩ ?_
          try simp only [List.getElem_toArray, List.getElem_cons_succ, List.getElem_cons_zero, Act.put, List.setIfInBounds_toArray, List.set_cons_zero, List.set_cons_succ]
          refine wpAnyIn_take (i := 6) rfl rfl (by kernel_rfl) (by kernel_rfl) (by kernel_rfl) (fun _ _ _ h => h) ⟨Or.inr ⟨by rfl, rfl⟩, fun _ => rfl⟩ ?_
          try simp only [List.getElem_toArray, List.getElem_cons_succ, List.getElem_cons_zero, Act.put, List.setIfInBounds_toArray, List.set_cons_zero, List.set_cons_succ]
          refine wpAnyIn_take (i := 7) rfl rfl (by kernel_rfl) (by kernel_rfl) (by kernel_rfl) (fun _ _ _ h => h) ⟨Or.inr ⟨by rfl, rfl⟩, fun _ => rfl⟩ ?_
          try simp only [List.getElem_toArray, List.getElem_cons_succ, List.getElem_cons_zero, Act.put, List.setIfInBounds_toArray, List.set_cons_zero, List.set_cons_succ]
          refine wpAnyIn_take (i := 8) rfl rfl (by kernel_rfl) (by kernel_rfl) (by kernel_rfl) (fun _ _ _ h => h) ⟨Or.inr ⟨by rfl, rfl⟩, fun _ => rfl⟩ ?_
          try simp only [List.getElem_toArray, List.getElem_cons_succ, List.getElem_cons_zero, Act.put, List.setIfInBounds_toArray, List.set_cons_zero, List.set_cons_succ]
          refine wpAnyIn_take (i := 9) (v := ?v4) rfl rfl (by kernel_rfl) (by kernel_rfl) (by kernel_rfl) (fun _ _ _ h => h) ⟨Or.inl ⟨by rfl, ?y4⟩, fun _ => rfl⟩ ?z4
          case y4 => (intro w; go_simp; first | done | with_reducible rfl)
          try simp only [List.getElem_toArray, List.getElem_cons_succ, List.getElem_cons_zero, Act.put, List.setIfInBounds_toArray, List.set_cons_zero, List.set_cons_succ]
          refine wpAnyIn_done (by kernel_rfl) ?_ _
          gi_wp2
          go_roundw
          case rel => exact ⟨s + 1, by omega, by go_num, HB.out.drew, by rw [HNO.out]; exact HJ.out _ _ _ HS.out ((Below.refl _ _).drew)⟩
          case measure => simp [intOf]; omega
        · go_simp
          refine hK _ _ ?_
          clear hK K
          try simp only [List.getElem_toArray, List.getElem_cons_succ, List.getElem_cons_zero, Act.put, List.setIfInBounds_toArray, List.set_cons_zero, List.set_cons_succ]
          refine wpAnyIn_ready (rs := [1]) (by kernel_rfl) (by simp) ?_
          refine AllReadyIn.cons rfl (fun K hK => ?_) AllReadyIn.nil
          go_simp
          gi_wp2_with (refine ⟨trivial, ?_⟩; gi_at_call 83; refine (callsIn_wide.2 HSZ.out).mono ?_; rintro e w' ⟨rfl, rfl⟩)
          try refine hK _ _ ?_
          try clear hK K
          try simp only [List.getElem_toArray, List.getElem_cons_succ, List.getElem_cons_zero, Act.put, List.setIfInBounds_toArray, List.set_cons_zero, List.set_cons_succ]
          refine wpAnyIn_take (i := 3) (v := ?v5) rfl rfl (by kernel_rfl) (by kernel_rfl) (by kernel_rfl) (fun _ _ _ h => h) ⟨Or.inl ⟨by rfl, ?y5⟩, fun _ => rfl⟩ ?z5
          case y5 => (intro w; go_simp; first | done | with_reducible rfl)
          try simp only [List.getElem_toArray, List.getElem_cons_succ, List.getElem_cons_zero, Act.put, List.setIfInBounds_toArray, List.set_cons_zero, List.set_cons_succ]
          refine wpAnyIn_take (i := 4) (v := ?v6) rfl rfl (by kernel_rfl) (by kernel_rfl) (by kernel_rfl) (fun _ _ _ h => h) ⟨Or.inl ⟨by rfl, ?y6⟩, fun _ => rfl⟩ ?z6
          case y6 => (intro w; go_simp; first | done | with_reducible rfl)
          try simp only [List.getElem_toArray, List.getElem_cons_succ, List.getElem_cons_zero, Act.put, List.setIfInBounds_toArray, List.set_cons_zero, List.set_cons_succ]
          refine wpAnyIn_take (i := 5) rfl rfl (by kernel_rfl) (by kernel_rfl) (by kernel_rfl) (fun _ _ _ h => h) ⟨Or.inr ⟨by rfl, rfl⟩, fun _ => rfl⟩ ?_
          try simp only [List.getElem_toArray, List.getElem_cons_succ, List.getElem_cons_zero, Act.put, List.setIfInBounds_toArray, List.set_cons_zero, List.set_cons_succ]
          refine wpAnyIn_take (i := 6) rfl rfl (by kernel_rfl) (by kernel_rfl) (by kernel_rfl) (fun _ _ _ h => h) ⟨Or.inr ⟨by rfl, rfl⟩, fun _ => rfl⟩ ?_
          try simp only [List.getElem_toArray, List.getElem_cons_succ, List.getElem_cons_zero, Act.put, List.setIfInBounds_toArray, List.set_cons_zero, List.set_cons_succ]
          refine wpAnyIn_take (i := 7) rfl rfl (by kernel_rfl) (by kernel_rfl) (by kernel_rfl) (fun _ _ _ h => h) ⟨Or.inr ⟨by rfl, rfl⟩, fun _ => rfl⟩ ?_
          try simp only [List.getElem_toArray, List.getElem_cons_succ, List.getElem_cons_zero, Act.put, List.setIfInBounds_toArray, List.set_cons_zero, List.set_cons_succ]
          refine wpAnyIn_take (i := 8) rfl rfl (by kernel_rfl) (by kernel_rfl) (by kernel_rfl) (fun _ _ _ h => h) ⟨Or.inr ⟨by rfl, rfl⟩, fun _ => rfl⟩ ?_
          try simp only [List.getElem_toArray, List.getElem_cons_succ, List.getElem_cons_zero, Act.put, List.setIfInBounds_toArray, List.set_cons_zero, List.set_cons_succ]
          refine wpAnyIn_take (i := 9) (v := ?v7) rfl rfl (by kernel_rfl) (by kernel_rfl) (by kernel_rfl) (fun _ _ _ h => h) ⟨Or.inl ⟨by rfl, ?y7⟩, fun _ => rfl⟩ ?z7
          case y7 => (intro w; go_simp; first | done | with_reducible rfl)
          try simp only [List.getElem_toArray, List.getElem_cons_succ, List.getElem_cons_zero, Act.put, List.setIfInBounds_toArray, List.set_cons_zero, List.set_cons_succ]
          refine wpAnyIn_done (by kernel_rfl) ?_ _
          gi_wp2
          go_roundw
          case rel => exact ⟨s + 1, by omega, by go_num, HB.out.drew, by rw [HNO.out]; exact HJ.out _ _ _ HS.out ((Below.refl _ _).drew)⟩
          case measure => simp [intOf]; omega
    · have hse : s = N := by omega
      subst hse
      gi_wp2
      go_end0
      exact ⟨⟨_, rfl⟩, .inl HS.out⟩
end Go.Proofs.YtlmaeadbomnhlaaGreat

namespace Go.Proofs.YtlmaeadbomnhlaaGreat
set_option linter.unusedSimpArgs false
set_option linter.unusedVariables false
open Go.RowKit
def lay (n z : Nat) (rs : List Nat) : List (Nat × Nat) := rs.flatMap fun r => (sets n z).map (Prod.mk r)
def upto (m n z : Nat) : List (Nat × Nat) := (List.range z).flatMap fun i => lay n (i + 1) (sets m (i + 1))
def parts (m n : Nat) : List (Nat × Nat) := upto m n (min m n)
theorem lay_nil (n z : Nat) : lay n z [] = [] := rfl
theorem lay_app (n z : Nat) (rs ts : List Nat) : lay n z (rs ++ ts) = lay n z rs ++ lay n z ts := by unfold lay; rw [List.flatMap_append]
theorem lay_one (n z r : Nat) : lay n z [r] = (sets n z).map (Prod.mk r) := by simp [lay]
theorem lay_snoc (n z : Nat) (rs : List Nat) (r : Nat) : lay n z (rs ++ [r]) = lay n z rs ++ (sets n z).map (Prod.mk r) := by rw [lay_app, lay_one]
theorem upto_succ (m n z : Nat) : upto m n (z + 1) = upto m n z ++ lay n (z + 1) (sets m (z + 1)) := by
  unfold upto; rw [List.range_succ, List.flatMap_append]; simp
theorem upto_prefix (m n : Nat) {z y : Nat} (h : z ≤ y) : upto m n z <+: upto m n y := by
  induction y with
  | zero => have : z = 0 := (by omega); subst this; exact List.prefix_rfl
  | succ y ih =>
    by_cases e : z = y + 1
    · subst e; exact List.prefix_rfl
    · rw [upto_succ]; exact (ih (by omega)).trans (List.prefix_append _ _)
theorem parts_at {m n z : Nat} (hz : z < min m n) {rs rp qs qp : List Nat} {r q : Nat} (hr : sets m (z + 1) = rs ++ r :: rp) (hq : sets n (z + 1) = qs ++ q :: qp) :
    ∃ post, parts m n = (upto m n z ++ (lay n (z + 1) rs ++ qs.map (Prod.mk r))) ++ (r, q) :: post := by
  obtain ⟨t, ht⟩ := upto_prefix m n (show z + 1 ≤ min m n by omega)
  refine ⟨qp.map (Prod.mk r) ++ lay n (z + 1) rp ++ t, ?_⟩
  unfold parts
  have e : lay n (z + 1) (sets m (z + 1)) = lay n (z + 1) rs ++ (qs.map (Prod.mk r) ++ (r, q) :: qp.map (Prod.mk r)) ++ lay n (z + 1) rp := by
    rw [hr, show rs ++ r :: rp = rs ++ [r] ++ rp by simp, lay_app, lay_snoc, hq, List.map_append]; rfl
  rw [← ht, upto_succ, e]
  simp [List.append_assoc]
def setsT (m k : Nat) : List Nat := (List.range (2 ^ m)).filter fun s => popT s == k
theorem sets_T {m : Nat} (h : m ≤ 4) (k : Nat) : sets m k = setsT m k := by
  unfold sets setsT
  refine List.filter_congr (fun s hs => ?_)
  have := two_le h
  rw [pop_tab (by have := List.mem_range.1 hs; omega)]
def layT (n z : Nat) (rs : List Nat) : List (Nat × Nat) := rs.flatMap fun r => (setsT n z).map (Prod.mk r)
def partsT (m n : Nat) : List (Nat × Nat) := (List.range (min m n)).flatMap fun i => layT n (i + 1) (setsT m (i + 1))
theorem parts_T {m n : Nat} (hm : m ≤ 4) (hn : n ≤ 4) : parts m n = partsT m n := by
  unfold parts partsT upto lay layT
  congr 1; funext i; rw [sets_T hm]; congr 1; funext r; rw [sets_T hn]
def keyT (x : Nat × Nat) : Nat := 256 * popT x.1 + 16 * x.1 + x.2
def sortedB : List Nat → Bool
  | a :: b :: l => decide (a < b) && sortedB (b :: l)
  | _ => true
theorem sorted_of {l : List Nat} (h : sortedB l = true) : l.Pairwise (· < ·) := by
  induction l with
  | nil => exact List.Pairwise.nil
  | cons a l ih =>
    cases l with
    | nil => exact List.pairwise_singleton _ _
    | cons b l =>
      simp only [sortedB, Bool.and_eq_true, decide_eq_true_eq] at h
      have h2 := ih h.2
      refine List.pairwise_cons.2 ⟨fun c hc => ?_, h2⟩
      rcases List.mem_cons.1 hc with rfl | hc
      · exact h.1
      · have := (List.pairwise_cons.1 h2).1 c hc; omega
theorem parts_sorted {m n : Nat} (hm : m ≤ 4) (hn : n ≤ 4) : ((parts m n).map keyT).Pairwise (· < ·) := by
  rw [parts_T hm hn]
  refine sorted_of ?_
  have h1 : m = 0 ∨ m = 1 ∨ m = 2 ∨ m = 3 ∨ m = 4 := by omega
  have h2 : n = 0 ∨ n = 1 ∨ n = 2 ∨ n = 3 ∨ n = 4 := by omega
  rcases h1 with rfl | rfl | rfl | rfl | rfl <;> rcases h2 with rfl | rfl | rfl | rfl | rfl <;> decide +kernel
theorem sets_mem {m k s : Nat} : s ∈ sets m k ↔ s < 2 ^ m ∧ popN s = k := by simp [sets]
theorem parts_mem {m n r q : Nat} (hr1 : 1 ≤ r) (hr : r < 2 ^ m) (hq : q < 2 ^ n) (hp : popN r = popN q) : (r, q) ∈ parts m n := by
  have h1 := popN_pos (r := r) (by omega)
  have h2 := popN_bd hr
  have h3 := popN_bd hq
  unfold parts upto
  refine List.mem_flatMap.2 ⟨popN r - 1, List.mem_range.2 (by omega), ?_⟩
  rw [show popN r - 1 + 1 = popN r by omega]
  unfold lay
  refine List.mem_flatMap.2 ⟨r, sets_mem.2 ⟨hr, rfl⟩, ?_⟩
  exact List.mem_map.2 ⟨q, sets_mem.2 ⟨hq, hp.symm⟩, rfl⟩
theorem parts_bd {m n r q : Nat} (h : (r, q) ∈ parts m n) : r < 2 ^ m ∧ q < 2 ^ n ∧ 1 ≤ popN r ∧ popN q = popN r := by
  unfold parts upto lay at h
  obtain ⟨i, hi, h⟩ := List.mem_flatMap.1 h
  obtain ⟨r', hr', h⟩ := List.mem_flatMap.1 h
  obtain ⟨q', hq', h⟩ := List.mem_map.1 h
  cases h
  have h1 := sets_mem.1 hr'
  have h2 := sets_mem.1 hq'
  exact ⟨h1.1, h2.1, by omega, by omega⟩
def hitP (g : List (List Int)) (x : Nat × Nat) : Bool := kerB g (x.1 : Int) (x.2 : Int) && setB g (kerX g (x.1 : Int) (x.2 : Int)) (kerY g (x.1 : Int) (x.2 : Int))
theorem hit_P {g : List (List Int)} {s r q : Nat} : hit g s r q = ((popN r == s) && hitP g (r, q)) := by
  unfold hit hitP; rw [Bool.and_assoc]
theorem sol_first {g : List (List Int)} (hm : g.length ≤ 4) (hn : (rowAt g 0).length ≤ 4) {pre post : List (Nat × Nat)} {r q : Nat} (hx : parts g.length (rowAt g 0).length = pre ++ (r, q) :: post) (hno : ∀ y, y ∈ pre → hitP g y = false) (hyes : hitP g (r, q) = true) :
    SolIs g true (safU g (kerX g (r : Int) (q : Int))) (safD g (kerX g (r : Int) (q : Int))) (kerX g (r : Int) (q : Int)) (kerY g (r : Int) (q : Int)) := by
  have hmem : (r, q) ∈ parts g.length (rowAt g 0).length := by rw [hx]; simp
  have hb := parts_bd hmem
  have h16 := two_le hm
  have h16' := two_le hn
  refine Or.inl ⟨rfl, popN r, r, q, by omega, by omega, by rw [hit_P, hyes]; simp, fun k hk => ?_, rfl, rfl, rfl, rfl⟩
  rw [← Bool.not_eq_true]
  intro hh
  have hp := hit_parts (show hit g (k / 256) (k / 16 % 16) (k % 16) = true from hh)
  have hk5 := kerB_parts hp.2.2.2.2.2.2.2.1
  have hmem' := parts_mem (m := g.length) (n := (rowAt g 0).length) hp.2.2.2.1 hp.2.2.2.2.1 hp.2.2.2.2.2.2.1 hk5.2.2.2.2.2.1
  have hhit : hitP g (k / 16 % 16, k % 16) = true := by
    have : hit g (k / 256) (k / 16 % 16) (k % 16) = true := hh
    rw [hit_P, Bool.and_eq_true] at this; exact this.2
  have hkey : keyT (k / 16 % 16, k % 16) = k := by
    unfold keyT
    rw [← pop_tab (by show k / 16 % 16 < 16; omega)]
    show 256 * popN (k / 16 % 16) + 16 * (k / 16 % 16) + k % 16 = k
    have := hp.1; omega
  have hkey2 : keyT (r, q) = 256 * popN r + 16 * r + q := by
    unfold keyT; rw [← pop_tab (by show r < 16; omega)]
  have hs := parts_sorted hm hn
  rw [hx] at hs hmem'
  rw [List.map_append, List.map_cons] at hs
  rcases List.mem_append.1 hmem' with h | h
  · rw [hno _ h] at hhit; cases hhit
  · rcases List.mem_cons.1 h with h | h
    · rw [h, hkey2] at hkey; omega
    · have h2 := (List.pairwise_append.1 hs).2.1
      have h3 := (List.pairwise_cons.1 h2).1 _ (List.mem_map.2 ⟨_, h, rfl⟩)
      rw [hkey, hkey2] at h3; omega
def Cell1 (W : World) (B : Nat) (t : TypeId) (v : Value) : Prop := W.heap[B]? = some (.cells #[v] t (0, 0))
theorem Cell1.lt {W : World} {B : Nat} {t : TypeId} {v : Value} (h : Cell1 W B t v) : B < W.heap.size := (Array.getElem?_eq_some_iff.1 h).1
theorem Cell1.cell {W : World} {B : Nat} {t : TypeId} {v : Value} (h : Cell1 W B t v) : W.cell? ⟨B, 0, none⟩ = some v := by simp [World.cell?, show W.heap[B]? = _ from h]
theorem Cell1.frozen {W : World} {B : Nat} {t : TypeId} {v : Value} (h : Cell1 W B t v) : W.frozen? ⟨B, 0, none⟩ = false := by simp [World.frozen?, show W.heap[B]? = _ from h]
theorem Cell1.new (W : World) (t : TypeId) (v : Value) : Cell1 (W.alloc (.cells #[v] t)) W.heap.size t v := World.alloc_heap_new W _
theorem Cell1.keep {W W' : World} {B : Nat} {t : TypeId} {v : Value} (h : Cell1 W B t v) (hk : W'.heap[B]? = W.heap[B]?) : Cell1 W' B t v := hk.trans h
theorem Cell1.below {W W' : World} {B k : Nat} {t : TypeId} {v : Value} (h : Cell1 W B t v) (hb : Below k W W') (hk : B < k) : Cell1 W' B t v := (hb.block B hk).trans h
theorem Cell1.alloc {W : World} {B : Nat} {t : TypeId} {v : Value} (h : Cell1 W B t v) (o : Obj) : Cell1 (W.alloc o) B t v := h.below ((Below.refl _ _).alloc (Nat.le_refl _) o) h.lt
theorem Cell1.set {W : World} {B : Nat} {t : TypeId} {v : Value} (h : Cell1 W B t v) (u : Value) : Cell1 (W.setCell ⟨B, 0, none⟩ u) B t u := by
  unfold Cell1 at h ⊢
  show (W.heap.modify B _)[B]? = _
  obtain ⟨hlt, e⟩ := Array.getElem?_eq_some_iff.1 h
  rw [Array.getElem?_eq_getElem (by rw [Array.size_modify]; exact hlt), Array.getElem_modify_self, e]
  rfl
def Marks (B : Nat) : List Deferred → World → Prop
  | [], _ => True
  | d :: ds, w => ∃ D, d = { target := .collected D, args := #[] } ∧ B ≤ D ∧ w.heap[D]? = some (.deferred (some [])) ∧ (∀ d' ∈ ds, d' ≠ { target := .collected D, args := #[] }) ∧ Marks B ds w
theorem Marks.keep {B : Nat} : ∀ {ds : List Deferred} {w w' : World}, Marks B ds w → (∀ k, B ≤ k → k < w.heap.size → (∃ d ∈ ds, d = { target := .collected k, args := #[] }) → w'.heap[k]? = w.heap[k]?) → Marks B ds w'
  | [], _, _, _, _ => trivial
  | d :: ds, w, w', ⟨D, h1, h2, h3, h4, h5⟩, hk =>
    ⟨D, h1, h2, (hk D h2 (Array.getElem?_eq_some_iff.1 h3).1 ⟨d, List.mem_cons_self, h1⟩).trans h3, h4, Marks.keep h5 fun k h6 h7 ⟨d', h8, h9⟩ => hk k h6 h7 ⟨d', List.mem_cons_of_mem _ h8, h9⟩⟩
theorem Marks.above {B : Nat} {ds : List Deferred} {w w' : World} (h : Marks B ds w) (ha : Above B w w') : Marks B ds w' := h.keep fun k h1 h2 _ => ha.block k h1 h2
theorem Marks.lt {B : Nat} : ∀ {ds : List Deferred} {w : World}, Marks B ds w → ∀ d ∈ ds, ∃ D, d = { target := .collected D, args := #[] } ∧ D < w.heap.size
  | [], _, _, d, hd => by cases hd
  | d :: ds, w, ⟨D, h1, h2, h3, h4, h5⟩, d', hd => by
    rcases List.mem_cons.1 hd with rfl | hd
    · exact ⟨D, h1, (Array.getElem?_eq_some_iff.1 h3).1⟩
    · exact Marks.lt h5 d' hd
theorem Marks.cons {B D : Nat} {ds : List Deferred} {w w' : World} (h : Marks B ds w) (ha : Above B w w') (hB : B ≤ w.heap.size) (hD : w.heap.size ≤ D) (hd : w'.heap[D]? = some (.deferred (some []))) :
    Marks B ({ target := .collected D, args := #[] } :: ds) w' :=
  ⟨D, rfl, by omega, hd, fun d' hd' e => by obtain ⟨D', h1, h2⟩ := h.lt d' hd'; rw [h1] at e; cases e; omega, h.above ha⟩
theorem marks_leave {P : Program} {fn : Func} {n B : Nat} {tmps : Array Value} {R : Ending → World → Prop} : ∀ {ds : List Deferred} {w : World}, Marks B ds w →
    (∀ w', StepX B w w' → LeavesInM Fence.wide n P fn tmps R [] .returning w') → LeavesInM Fence.wide n P fn tmps R ds .returning w
  | [], w, _, h => h w (StepX.refl _ _)
  | d :: ds, w, ⟨D, h1, h2, h3, h4, h5⟩, h => by
    subst h1
    refine ⟨by simp, .inl ⟨D, _, rfl, run_takeDeferred h3, ?_⟩⟩
    have hb : StepX B w (w.putObj D (.deferred none)) := StepX.putObj _ h3 rfl h2
    refine marks_leave (h5.keep fun k _ _ ⟨d', h6, h7⟩ => World.putObj_heap_other fun e => ?_) (fun w' hb' => h w' (hb.trans hb'))
    subst e; exact h4 d' h6 h7
end Go.Proofs.YtlmaeadbomnhlaaGreat

namespace Go.Proofs.YtlmaeadbomnhlaaGreat
set_option linter.unusedSimpArgs false
set_option linter.unusedVariables false
open Go.RowKit Go.Shelf
theorem overOuterK {α : Type} {P : Program} {g : Operand} {ps : Array Tmp} {assign body : Code} {Q : Exit → Act → World → Prop} {a : Act} {w : World} {n : Nat}
    {gf : Nat} {lb : Array Value} (hg : a.eval g = .func (.func gf) #[] lb) (eg : ∀ args w, (callFunc gf args).run P w = .ok (.enter gf args) w)
    {encs : α → Array Value} {xs : List α} {w0 : World} (hseq : Iter P gf lb encs xs w0) (hb0 : Below w0.heap.size w0 w) (hps : ∀ x, (encs x).size = ps.size)
    (I : List α → World → Prop) (Ix : Code → List α → World → Prop) (hI : Low w.heap.size I) (hIx : ∀ c, LowX w.heap.size (Ix c)) (h0 : I [] w)
    (hround : ∀ (l : Nat) (pre : List α) (x : α) (post : List α) (W : World), xs = pre ++ x :: post → w.heap.size ≤ l → l < W.heap.size → I pre W → ∀ K : Act → World → Prop,
      (∀ a1 Wa, Below W.heap.size W Wa → (∀ W2, Turn l Wa W2 → body.wpIn (Fence.wide.inRound l) 9 P (roundEnds w.heap.size (I (pre ++ [x])) (fun c => Ix c (pre ++ [x])) W2) a1 W2) → K a1 Wa) →
      assign.wpIn (Fence.wide.inRound l) 9 P (Exit.then K (fun _ _ _ => False))
        { tmps := (ps.zip (encs x)).foldl (fun t (p, v) => t.setIfInBounds p v) a.tmps, defers := [] } W)
    (hdone : ∀ (D : Nat) (W : World), w.heap.size ≤ D → I xs W → W.heap[D]? = some (.deferred (some [])) → Q .normal { a with defers := { target := .collected D, args := #[] } :: a.defers } W)
    (hstop : ∀ (D : Nat) (c : Code) (pre : List α) (W : World), w.heap.size ≤ D → pre <+: xs → Ix c pre W → W.heap[D]? = some (.deferred (some [])) → c.wpIn Fence.wide n P Q { a with defers := { target := .collected D, args := #[] } :: a.defers } W) :
    (Code.rangeFunc g ps assign body).wpIn Fence.wide n P Q a w :=
  overOuter hg eg hseq hb0 hps I Ix hI hIx h0 (fun l pre x post W h1 h2 h3 h4 => hround l pre x post W h1 h2 h3 h4 _ (fun _ _ hb hc => ⟨hb, hc⟩)) hdone hstop
theorem overInnerK {α : Type} {P : Program} {g : Operand} {ps : Array Tmp} {assign body : Code} {Q : Exit → Act → World → Prop} {a : Act} {w : World} {n : Nat}
    {l₀ : Nat} {r₀ : Loop} (hl₀ : w.heap[l₀]? = some (.loop r₀)) {gf : Nat} {lb : Array Value} (hg : a.eval g = .func (.func gf) #[] lb) (eg : ∀ args w, (callFunc gf args).run P w = .ok (.enter gf args) w)
    {encs : α → Array Value} {xs : List α} {w0 : World} (hseq : Iter P gf lb encs xs w0) (hb0 : Below w0.heap.size w0 w) (hps : ∀ x, (encs x).size = ps.size)
    (I : List α → World → Prop) (Ix : Code → List α → World → Prop) (hI : Low w.heap.size I) (hIx : ∀ c, LowX w.heap.size (Ix c)) (h0 : I [] w)
    (hround : ∀ (l : Nat) (pre : List α) (x : α) (post : List α) (W : World), xs = pre ++ x :: post → w.heap.size ≤ l → l < W.heap.size → I pre W → ∀ K : Act → World → Prop,
      (∀ a1 Wa, Below W.heap.size W Wa → (∀ W2, Turn l Wa W2 → body.wpIn (Fence.wide.inRound l) 9 P (roundEnds w.heap.size (I (pre ++ [x])) (fun c => Ix c (pre ++ [x])) W2) a1 W2) → K a1 Wa) →
      assign.wpIn (Fence.wide.inRound l) 9 P (Exit.then K (fun _ _ _ => False))
        { tmps := (ps.zip (encs x)).foldl (fun t (p, v) => t.setIfInBounds p v) a.tmps, defers := [] } W)
    (hdone : ∀ (W : World), I xs W → Q .normal a W)
    (hstop : ∀ (c : Code) (pre : List α) (W : World), pre <+: xs → Ix c pre W → c.wpIn (Fence.wide.inRound l₀) n P Q a W) :
    (Code.rangeFunc g ps assign body).wpIn (Fence.wide.inRound l₀) n P Q a w :=
  overInner hl₀ hg eg hseq hb0 hps I Ix hI hIx h0 (fun l pre x post W h1 h2 h3 h4 => hround l pre x post W h1 h2 h3 h4 _ (fun _ _ hb hc => ⟨hb, hc⟩)) hdone hstop
theorem Above.turn {B l : Nat} {X Y Z : World} (h : Above B X Y) (ht : Turn l Y Z) (hl : X.heap.size ≤ l) : Above B X Z :=
  ⟨by rw [ht.size]; exact h.size, fun k _ h2 => (ht.other (by omega)).trans (h.block k (by assumption) h2)⟩
theorem Above.low {B : Nat} {X Y Z : World} (h : Above B X Y) (hb : Below X.heap.size Y Z) : Above B X Z :=
  ⟨Nat.le_trans h.size hb.size, fun k h1 h2 => (hb.block k h2).trans (h.block k h1 h2)⟩
theorem Cell1.turn {W W' : World} {B l : Nat} {t : TypeId} {v : Value} (h : Cell1 W B t v) (ht : Turn l W W') (hne : B ≠ l) : Cell1 W' B t v := h.keep (ht.other hne)
end Go.Proofs.YtlmaeadbomnhlaaGreat

namespace Go.Proofs.YtlmaeadbomnhlaaGreat
set_option linter.unusedSimpArgs false
set_option linter.unusedVariables false
open Go.RowKit
structure Lies (K : Nat → Prop) (w w' : World) : Prop where
  os : w'.os = w.os
  tape : w'.tape = w.tape
  output : w'.output = w.output
  size : w.heap.size ≤ w'.heap.size
  block : ∀ k, k < w.heap.size → K k → w'.heap[k]? = w.heap[k]?
theorem Lies.refl (K : Nat → Prop) (w : World) : Lies K w w := ⟨rfl, rfl, rfl, Nat.le_refl _, fun _ _ _ => rfl⟩
theorem Lies.trans {K : Nat → Prop} {a b c : World} (h : Lies K a b) (k : Lies K b c) : Lies K a c :=
  ⟨k.os.trans h.os, k.tape.trans h.tape, k.output.trans h.output, Nat.le_trans h.size k.size, fun i hi hk => (k.block i (Nat.lt_of_lt_of_le hi h.size) hk).trans (h.block i hi hk)⟩
theorem Lies.mono {K K' : Nat → Prop} {a b : World} (h : Lies K a b) (hk : ∀ k, k < a.heap.size → K' k → K k) : Lies K' a b :=
  ⟨h.os, h.tape, h.output, h.size, fun k hi h' => h.block k hi (hk k hi h')⟩
theorem Lies.of_below {K : Nat → Prop} {B : Nat} {a b : World} (h : Below B a b) (hk : ∀ k, k < a.heap.size → K k → k < B) : Lies K a b :=
  ⟨h.os, h.tape, h.output, h.size, fun k hi h' => h.block k (hk k hi h')⟩
theorem Lies.below {B : Nat} {K : Nat → Prop} {a b : World} (h : Lies K a b) (hB : B ≤ a.heap.size) (hk : ∀ k, k < B → K k) : Below B a b :=
  ⟨h.os, h.tape, h.output, h.size, fun k hi => h.block k (Nat.lt_of_lt_of_le hi hB) (hk k hi)⟩
theorem Lies.putObj {K : Nat → Prop} (W : World) (l : Nat) (o : Obj) (hl : ¬ K l) : Lies K W (W.putObj l o) :=
  ⟨rfl, rfl, rfl, by simp, fun k _ hk => World.putObj_heap_other (fun e => hl (e ▸ hk))⟩
theorem Lies.turn {K : Nat → Prop} {l : Nat} {W W' : World} (h : Turn l W W') (hl : ¬ K l) : Lies K W W' := by
  obtain ⟨r, rfl, _⟩ := h; exact Lies.putObj W l _ hl
theorem Lies.alloc {K : Nat → Prop} (W : World) (o : Obj) : Lies K W (W.alloc o) := Lies.of_below (B := W.heap.size) ((Below.refl _ W).alloc (Nat.le_refl _) o) (fun _ h _ => h)
theorem Lies.setCell {K : Nat → Prop} (W : World) (p : Addr) (v : Value) (hp : ¬ K p.block) : Lies K W (W.setCell p v) :=
  ⟨rfl, rfl, rfl, by simp [World.setCell], fun k _ hk => Below.heap_setCell _ _ _ _ (fun e => hp (e ▸ hk))⟩
theorem Lies.drew {K : Nat → Prop} {a w : World} (h : Lies K a w) : Lies K a w.drew := ⟨h.os, h.tape, h.output, h.size, h.block⟩
theorem Lies.grown {K : Nat → Prop} {w w' : World} {row : Option Nat} (hg : w.grownBy w' row) (hr : ∀ k, row = some k → ¬ K k) : Lies K w w' :=
  ⟨hg.os, hg.tape, hg.output, hg.size, fun k hk hK => hg.block k hk (fun e => hr k e.symm hK)⟩
def Own1 {β : Type} (B : Nat) (J : β → (Nat → Prop) → World → Prop) : Prop := ∀ s S A A', J s S A → Lies (fun k => k < B ∨ S k) A A' → J s S A'
theorem Own1.mono {β : Type} {B B' : Nat} {J : β → (Nat → Prop) → World → Prop} (h : Own1 B J) (hB : B ≤ B') : Own1 B' J := fun s S A A' hs hl =>
  h s S A A' hs (hl.mono fun k _ hk => hk.elim (fun h => .inl (Nat.lt_of_lt_of_le h hB)) .inr)
structure Owns (S G : Nat → Prop) (n : Nat) (S' : Nat → Prop) (W' : World) : Prop where
  of : ∀ k, S' k → S k ∨ G k ∨ n ≤ k
  lt : ∀ k, S' k → k < W'.heap.size
structure Begins (B : Nat) (S G : Nat → Prop) (W1 : World) : Prop where
  size : B ≤ W1.heap.size
  lt : ∀ k, S k → k < W1.heap.size
  fresh : ∀ k, G k → B ≤ k ∧ k < W1.heap.size ∧ ¬ S k
def IterS {α : Type} (P : Program) (g : Nat) (lb : Array Value) (R : α → Array Value → (Nat → Prop) → World → Prop) (xs : List α) (K : Nat → Prop) (w : World) : Prop :=
  ∀ (l : Nat) (S0 : Nat → Prop) (J : List α → (Nat → Prop) → World → Prop) (Jx : List α → World → Prop) (W : World), Lies K w W → (∀ k, K k → k < w.heap.size) → (∀ k, S0 k → k < W.heap.size ∧ ¬ K k) → Own1 W.heap.size J → LowX W.heap.size Jx →
    (∀ pre x post, xs = pre ++ x :: post → ∀ S G v W1, Begins W.heap.size S G W1 → (∀ k, S k → S0 k ∨ W.heap.size ≤ k) → J pre S W1 → R x v G W1 → l < W.heap.size → ∀ m, YieldAt Fence.wide m P l v W1 fun e W' =>
      (e = .returned (.bool true) ∧ ∃ S', Owns S G W1.heap.size S' W' ∧ J (pre ++ [x]) S' W' ∧ Lies (fun k => ¬ S k ∧ ¬ G k) W1 W') ∨ (e = .returned (.bool false) ∧ Jx (pre ++ [x]) W' ∧ Lies (fun k => (W.heap.size ≤ k ∨ K k) ∧ ¬ S k ∧ ¬ G k) W1 W')) →
    J [] S0 W → l < W.heap.size → ∀ n, CallsIn Fence.wide n P g (#[.func (.yield l) #[] #[]] ++ lb) W fun e W' => (∃ v, e = .returned v) ∧
      ((∃ S', (∀ k, S' k → S0 k ∨ W.heap.size ≤ k) ∧ J xs S' W') ∨ ∃ pre, pre <+: xs ∧ Jx pre W')
end Go.Proofs.YtlmaeadbomnhlaaGreat

namespace Go.Proofs.YtlmaeadbomnhlaaGreat
set_option linter.unusedSimpArgs false
set_option linter.unusedVariables false
open Go.RowKit Go.Shelf
structure Going {α : Type} (K S0 S : Nat → Prop) (w W wr : World) (J : List α → (Nat → Prop) → World → Prop) (pre : List α) : Prop where
  size : W.heap.size ≤ wr.heap.size
  lt : ∀ k, S k → k < wr.heap.size
  of : ∀ k, S k → S0 k ∨ W.heap.size ≤ k
  lies : Lies K w wr
  inv : J pre S wr
theorem Going.start {α : Type} {K S0 : Nat → Prop} {w W : World} {J : List α → (Nat → Prop) → World → Prop} (hW : Lies K w W) (hS0 : ∀ k, S0 k → k < W.heap.size ∧ ¬ K k) (h0 : J [] S0 W) : Going K S0 S0 w W W J [] :=
  ⟨Nat.le_refl _, fun k h => (hS0 k h).1, fun k h => .inl h, hW, h0⟩
theorem Going.low {α : Type} {K S0 S : Nat → Prop} {w W wr W1 : World} {J : List α → (Nat → Prop) → World → Prop} {pre : List α} (g : Going K S0 S w W wr J pre) (hJ : Own1 W.heap.size J) (hK : ∀ k, K k → k < w.heap.size) (hb : Below wr.heap.size wr W1) : Going K S0 S w W W1 J pre :=
  ⟨Nat.le_trans g.size hb.size, fun k h => Nat.lt_of_lt_of_le (g.lt k h) hb.size, g.of, g.lies.trans (Lies.of_below hb (fun k h _ => h)), hJ _ _ _ _ g.inv (Lies.of_below hb (fun k h _ => h))⟩
theorem Going.round {α : Type} {P : Program} {R : α → Array Value → (Nat → Prop) → World → Prop} {xs : List α} {K S0 S : Nat → Prop} {w W wr W1 : World} {l : Nat} {J : List α → (Nat → Prop) → World → Prop} {Jx : List α → World → Prop} {pre post : List α} {x : α} {v : Array Value} {G : Nat → Prop}
    (hY : ∀ pre x post, xs = pre ++ x :: post → ∀ S G v W1, Begins W.heap.size S G W1 → (∀ k, S k → S0 k ∨ W.heap.size ≤ k) → J pre S W1 → R x v G W1 → l < W.heap.size → ∀ m, YieldAt Fence.wide m P l v W1 fun e W' =>
      (e = .returned (.bool true) ∧ ∃ S', Owns S G W1.heap.size S' W' ∧ J (pre ++ [x]) S' W' ∧ Lies (fun k => ¬ S k ∧ ¬ G k) W1 W') ∨ (e = .returned (.bool false) ∧ Jx (pre ++ [x]) W' ∧ Lies (fun k => (W.heap.size ≤ k ∨ K k) ∧ ¬ S k ∧ ¬ G k) W1 W'))
    (hJ : Own1 W.heap.size J) (hK : ∀ k, K k → k < w.heap.size) (hwW : w.heap.size ≤ W.heap.size) (hS0 : ∀ k, S0 k → k < W.heap.size ∧ ¬ K k) (hl : l < W.heap.size)
    (g : Going K S0 S w W wr J pre) (hb : Below wr.heap.size wr W1) (hx : xs = pre ++ x :: post) (hR : R x v G W1) (hG : ∀ k, G k → wr.heap.size ≤ k ∧ k < W1.heap.size) :
    ∀ m, YieldAt Fence.wide m P l v W1 fun e W' => ∃ b, e = .returned (.bool b) ∧ (b = true → ∃ S', Going K S0 S' w W W' J (pre ++ [x])) ∧ (b = false → Jx (pre ++ [x]) W') := fun m => by
  have g1 := g.low hJ hK hb
  refine (hY pre x post hx S G v W1 ⟨g1.size, g1.lt, fun k hk => ⟨Nat.le_trans g.size (hG k hk).1, (hG k hk).2, fun hs => by have := g.lt k hs; have := (hG k hk).1; omega⟩⟩ g1.of g1.inv hR hl m).mono ?_
  rintro e W' (⟨rfl, S', ho, hj, hli⟩ | ⟨rfl, hj, hli⟩)
  · refine ⟨true, rfl, fun _ => ⟨S', Nat.le_trans g1.size hli.size, ho.lt, fun k hk => ?_, g1.lies.trans (hli.mono fun k hk hKk => ⟨fun hs => ?_, fun hg => ?_⟩), hj⟩, fun h => (by cases h)⟩
    · rcases ho.of k hk with h | h | h
      · exact g.of k h
      · right; exact Nat.le_trans g.size (hG k h).1
      · right; exact Nat.le_trans g1.size h
    · rcases g.of k hs with h | h
      · exact (hS0 k h).2 hKk
      · have := hK k hKk; omega
    · have h1 := (hG k hg).1
      have := hK k hKk; have := g.size; omega
  · exact ⟨false, rfl, fun h => (by cases h), fun _ => hj⟩
def RowGiven (x : List Int) (v : Array Value) (G : Nat → Prop) (W : World) : Prop :=
  ∃ b, v = #[.slice (some ⟨b, 0, none⟩) x.length x.length] ∧ G = (fun k => k = b) ∧ IntRow W b x
theorem RowGiven.size (x : List Int) (v : Array Value) (G : Nat → Prop) (W : World) (h : RowGiven x v G W) : v.size = 1 := by obtain ⟨b, rfl, _⟩ := h; rfl
def IntGiven (x : Int) (v : Array Value) (G : Nat → Prop) (_ : World) : Prop := v = #[.int .i64 x] ∧ G = (fun _ => False)
theorem IntGiven.size (x : Int) (v : Array Value) (G : Nat → Prop) (W : World) (h : IntGiven x v G W) : v.size = 1 := by rw [h.1]; rfl
end Go.Proofs.YtlmaeadbomnhlaaGreat

namespace Go.Proofs.YtlmaeadbomnhlaaGreat
set_option linter.unusedSimpArgs false
set_option linter.unusedVariables false
open Go.RowKit Go.Shelf
theorem Lies.cellAt {K : Nat → Prop} {w w' : World} {b : Nat} {t : TypeId} {v : Value} (h : Lies K w w') (hb : K b) (hc : Cell1 w b t v) : Cell1 w' b t v := hc.keep (h.block b hc.lt hb)
theorem Going.keepS {α : Type} {K S0 S L : Nat → Prop} {w W wr W1 : World} {J : List α → (Nat → Prop) → World → Prop} {pre : List α} (g : Going K S0 S w W wr J pre) (hJ : Own1 W.heap.size J) (hl : Lies L wr W1) (h1 : ∀ k, k < W.heap.size → L k) (h2 : ∀ k, S k → L k) (hK : ∀ k, K k → L k) : Going K S0 S w W W1 J pre :=
  ⟨Nat.le_trans g.size hl.size, fun k h => Nat.lt_of_lt_of_le (g.lt k h) hl.size, g.of, g.lies.trans (hl.mono fun k _ h => hK k h), hJ _ _ _ _ g.inv (hl.mono fun k _ h => h.elim (h1 k) (h2 k))⟩
theorem Going.apart {α : Type} {K S0 S : Nat → Prop} {w W wr : World} {J : List α → (Nat → Prop) → World → Prop} {pre : List α} (g : Going K S0 S w W wr J pre) (hK : ∀ k, K k → k < w.heap.size) (hwW : w.heap.size ≤ W.heap.size) (hS0 : ∀ k, S0 k → k < W.heap.size ∧ ¬ K k) {k : Nat} (hk : K k) : ¬ S k := fun hs => by
  rcases g.of k hs with h | h
  · exact (hS0 k h).2 hk
  · have := hK k hk; omega
end Go.Proofs.YtlmaeadbomnhlaaGreat
