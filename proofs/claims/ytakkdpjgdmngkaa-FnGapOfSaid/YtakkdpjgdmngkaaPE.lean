/- Texts in one: IterH, CountK. -/
import Derived.Test.YtakkdpjgdmngkaaML
import Derived.Test.YtakkdpjgdmngkaaPD
namespace Go.Proofs.Ytakkdpjgdmngkaa
set_option linter.unusedSimpArgs false
set_option linter.unusedVariables false
open Go.RowKit Go.Shelf

/-- what an iterator is asked: it hands on all of xs, in their order, or, where a round says no more, a beginning of it -/
def IterH {α : Type} (P : Program) (g : Nat) (lb : Array Value) (R : α → Array Value → (Nat → Prop) → World → Prop) (xs : List α) (K : Nat → Prop) (w : World) : Prop :=
  ∀ (l : Nat) (S0 : Nat → Prop) (J : List α → (Nat → Prop) → World → Prop) (Jx : List α → World → Prop) (W : World), Lies K w W → (∀ k, K k → k < w.heap.size) → (∀ k, S0 k → k < W.heap.size ∧ ¬ K k) → Own1 W.heap.size J → LowX W.heap.size Jx →
    (∀ pre x post, xs = pre ++ x :: post → ∀ S G v W1, Begins W.heap.size S G W1 → (∀ k, S k → S0 k ∨ W.heap.size ≤ k) → J pre S W1 → R x v G W1 → l < W.heap.size → ∀ m, YieldAt Fence.wide m P l v W1 fun e W' =>
      (e = .returned (.bool true) ∧ ∃ S', Owns S G W1.heap.size S' W' ∧ J (pre ++ [x]) S' W' ∧ Lies (fun k => ¬ S k) W1 W') ∨ (e = .returned (.bool false) ∧ Jx (pre ++ [x]) W' ∧ Lies (fun k => (W.heap.size ≤ k ∨ K k) ∧ ¬ S k ∧ ¬ G k) W1 W')) →
    J [] S0 W → l < W.heap.size → ∀ n, CallsIn Fence.wide n P g (#[.func (.yield l) #[] #[]] ++ lb) W fun e W' => (∃ v, e = .returned v) ∧
      ((∃ S', (∀ k, S' k → S0 k ∨ W.heap.size ≤ k) ∧ J xs S' W') ∨ ∃ pre, pre <+: xs ∧ Jx pre W')

/-- how a round's body ends; a round that leaves keeps what L tells of -/
def roundEndsH (L : Nat → Prop) (n : Nat) (S G : Nat → Prop) (I : (Nat → Prop) → World → Prop) (Ix : Code → World → Prop) (W2 : World) : Exit → Act → World → Prop
  | .normal, _, W3 => ∃ S', Owns S G n S' W3 ∧ I S' W3 ∧ Lies (fun k => k < n ∧ ¬ S k) W2 W3
  | .ret, _, W3 => Ix .ret W3 ∧ Lies (fun k => L k ∧ k < n ∧ ¬ S k ∧ ¬ G k) W2 W3
  | .exit id, _, W3 => Ix (.exit id) W3 ∧ Lies (fun k => L k ∧ k < n ∧ ¬ S k ∧ ¬ G k) W2 W3
  | .goto t, _, W3 => Ix (.goto t) W3 ∧ Lies (fun k => L k ∧ k < n ∧ ¬ S k ∧ ¬ G k) W2 W3
  | .panic _, _, _ => False
  | .outgrown, _, _ => False

/-- THE CORE: the record lies; the iterator is called. -/
theorem overCoreH {α : Type} {P : Program} {ps : Array Tmp} {assign body : Code} {tmps : Array Value} {B0 l n : Nat} {W1 : World} {gf : Nat} {lb : Array Value} {R0 : α → Array Value → (Nat → Prop) → World → Prop} {xs : List α} {K : Nat → Prop} {w0 : World} {fn : FuncId} {dd : Nat} {R : Ending → World → Prop}
    (rec : LoopState → Option Code → Loop) (hrec : rec = fun st pe => { state := st, pending := pe, fn, tmps := tmps, params := ps, assign, body, defers := dd })
    (D : Option Nat) (hD : ∀ d, D = some d → B0 ≤ d ∧ d < W1.heap.size ∧ d ≠ l) (hS1 : ∀ d, D = some d → W1.heap[d]? = some (.deferred (some [])))
    (hl1 : B0 ≤ l) (hl2 : l < W1.heap.size) (hL : W1.heap[l]? = some (.loop (rec .ready none)))
    (hseq : IterH P gf lb R0 xs K w0) (hKw : Lies K w0 W1) (hK1 : ∀ k, K k → k < w0.heap.size) (hKB : ∀ k, K k → k < B0) (hps : ∀ x v G W, R0 x v G W → v.size = ps.size)
    (S0 : Nat → Prop) (hS0 : ∀ k, S0 k → k < B0 ∧ ¬ K k)
    (I : List α → (Nat → Prop) → World → Prop) (Ix : Code → List α → World → Prop) (hI : Own1 B0 I) (hIx : ∀ c, LowX B0 (Ix c)) (h0 : I [] S0 W1)
    (hround : ∀ (pre : List α) (x : α) (post : List α) (S G : Nat → Prop) (v : Array Value) (W : World), xs = pre ++ x :: post → l < W.heap.size → Begins B0 S G W → (∀ k, S k → S0 k ∨ B0 ≤ k) → ¬ S l → ¬ G l → I pre S W → R0 x v G W →
      assign.wpIn (Fence.wide.inRound l) 9 P (Exit.then (fun a1 Wa => Below W.heap.size W Wa ∧ ∀ W2, Turn l Wa W2 → body.wpIn (Fence.wide.inRound l) 9 P (roundEndsH (fun k => B0 ≤ k ∨ K k) W.heap.size S G (I (pre ++ [x])) (fun c => Ix c (pre ++ [x])) W2) a1 W2) (fun _ _ _ => False))
        { tmps := (ps.zip v).foldl (fun t (p, v) => t.setIfInBounds p v) tmps, defers := [] } W)
    (hend : ∀ v W, (∀ d, D = some d → W.heap[d]? = some (.deferred (some []))) →
      ((∃ S, (∀ k, S k → (S0 k ∨ W1.heap.size ≤ k)) ∧ I xs S W ∧ W.heap[l]? = some (.loop (rec .ready none))) ∨ (∃ c pre, pre <+: xs ∧ Ix c pre W ∧ W.heap[l]? = some (.loop (rec .done (some c))))) → R (.returned v) W) :
    CallsIn Fence.wide n P gf (#[.func (.yield l) #[] #[]] ++ lb) W1 R := by
  have hB : B0 ≤ W1.heap.size := by omega
  refine (hseq l S0
    (fun pre S W => I pre S W ∧ W.heap[l]? = some (.loop (rec .ready none)) ∧ (∀ d, D = some d → W.heap[d]? = some (.deferred (some []))))
    (fun pre W => ∃ c, Ix c pre W ∧ W.heap[l]? = some (.loop (rec .done (some c))) ∧ (∀ d, D = some d → W.heap[d]? = some (.deferred (some []))))
    W1 hKw hK1 (fun k hk => ⟨by have := (hS0 k hk).1; omega, (hS0 k hk).2⟩)
    (fun s S A A' hs hb => ⟨hI s S A A' hs.1 (hb.mono fun k _ hk => hk.elim (fun h => .inl (by omega)) .inr), (hb.block l (Array.getElem?_eq_some_iff.1 hs.2.1).1 (.inl hl2)).trans hs.2.1, fun d hd => (hb.block d (Array.getElem?_eq_some_iff.1 (hs.2.2 d hd)).1 (.inl (hD d hd).2.1)).trans (hs.2.2 d hd)⟩)
    (fun s A A' hs hb => by
      obtain ⟨c, h1, h2, h3⟩ := hs
      exact ⟨c, hIx c s A A' h1 (hb.mono hB), (hb.below.block l hl2).trans h2, fun d hd => (hb.below.block d (hD d hd).2.1).trans (h3 d hd)⟩)
    ?_ ⟨h0, hL, hS1⟩ hl2 n).mono ?_
  · -- one round
    rintro pre x post hx S G v W hbg hSo ⟨hi, hl, hd⟩ hR0 _ m
    have hlt : l < W.heap.size := Nat.lt_of_lt_of_le hl2 hbg.size
    have hbgB : Begins B0 S G W := ⟨Nat.le_trans hB hbg.size, hbg.lt, fun k hk => ⟨Nat.le_trans hB (hbg.fresh k hk).1, (hbg.fresh k hk).2⟩⟩
    have hSl : ∀ d, B0 ≤ d → d < W1.heap.size → ¬ S d := fun d h1 h2 hs => by
      rcases hSo d hs with h | h
      · have := (hS0 d h).1; omega
      · omega
    have hGl : ∀ d, d < W1.heap.size → ¬ G d := fun d h2 hs => by have := (hbg.fresh d hs).1; omega
    have hSo' : ∀ k, S k → S0 k ∨ B0 ≤ k := fun k hk => (hSo k hk).imp id (fun h => Nat.le_trans hB h)
    have hy := run_yield (P := P) (args := v) hl (by rw [hrec]; exact hps x v G W hR0)
    rw [hrec] at hy
    refine ⟨fn, _, assign, body, hy, roundIn_of_wpIn (F := Fence.wide) trivial (wpIn_any rfl (wpIn_mono (hround pre x post S G v W hx hlt hbgB hSo' (hSl l hl1 hl2) (hGl l hl2) hi hR0) ?_))⟩
    rintro e a1 Wa hq
    cases e with
    | normal =>
      obtain ⟨hba, hbody⟩ := hq
      have hla := (hba.block l hlt).trans hl
      have hlta : l < Wa.heap.size := Nat.lt_of_lt_of_le hlt hba.size
      refine ⟨_, run_beginRound hla (by rw [hrec]), ?_⟩
      have hl2' : (Wa.putObj l (.loop { rec .ready none with state := .busy })).heap[l]? = some (.loop { rec .ready none with state := .busy }) := World.putObj_heap_same hlta
      have ht : Turn l Wa (Wa.putObj l (.loop { rec .ready none with state := .busy })) := ⟨_, rfl, hl2'⟩
      refine wpIn_any rfl (wpIn_mono (hbody _ ht) ?_)
      have hs2 := ht.size
      have fin : ∀ (jump : Option Code) (W3 : World), W3.heap[l]? = some (.loop { rec .ready none with state := .busy }) →
          (Instr.endRound l jump).run P W3 = .ok (.bool jump.isNone) (W3.putObj l (.loop (rec (if jump.isNone then .ready else .done) jump))) := fun jump W3 hl3 => by
        have := run_endRound (P := P) jump hl3
        rw [hrec] at this ⊢
        exact this
      -- what the round keeps, from W on, but for the record
      have keep : ∀ (L : Nat → Prop) (o : Obj) (W3 : World), Lies (fun k => L k ∧ k < W.heap.size ∧ ¬ S k ∧ ¬ G k) (Wa.putObj l (.loop { rec .ready none with state := .busy })) W3 →
          ∀ k, L k → k ≠ l → k < W.heap.size → ¬ S k → ¬ G k → (W3.putObj l o).heap[k]? = W.heap[k]? := fun L o W3 h3 k hkL hk hk2 hk3 hk4 => by
        rw [World.putObj_heap_other hk, h3.block k (by rw [hs2]; have := hba.size; omega) ⟨hkL, hk2, hk3, hk4⟩, World.putObj_heap_other hk]; exact hba.block k hk2
      have rec3 : ∀ (L : Nat → Prop) (W3 : World), L l → Lies (fun k => L k ∧ k < W.heap.size ∧ ¬ S k ∧ ¬ G k) (Wa.putObj l (.loop { rec .ready none with state := .busy })) W3 → W3.heap[l]? = some (.loop { rec .ready none with state := .busy }) := fun L W3 hLl h3 =>
        (h3.block l (by rw [hs2]; exact hlta) ⟨hLl, hlt, hSl l hl1 hl2, hGl l hl2⟩).trans hl2'
      have dkeep : ∀ (L : Nat → Prop) (o : Obj) (W3 : World), (∀ k, B0 ≤ k → L k) → Lies (fun k => L k ∧ k < W.heap.size ∧ ¬ S k ∧ ¬ G k) (Wa.putObj l (.loop { rec .ready none with state := .busy })) W3 → ∀ d, D = some d → (W3.putObj l o).heap[d]? = some (.deferred (some [])) := fun L o W3 hLB h3 d hd' => by
        have h1 := hD d hd'
        exact (keep L o W3 h3 d (hLB d h1.1) h1.2.2 (Nat.lt_of_lt_of_le h1.2.1 hbg.size) (hSl d h1.1 h1.2.1) (hGl d h1.2.1)).trans (hd d hd')
      have leave : ∀ (c : Code) (W3 : World), Ix c (pre ++ [x]) W3 → Lies (fun k => (B0 ≤ k ∨ K k) ∧ k < W.heap.size ∧ ¬ S k ∧ ¬ G k) (Wa.putObj l (.loop { rec .ready none with state := .busy })) W3 →
          ∃ v w', (Instr.endRound l (some c)).run P W3 = .ok v w' ∧ (((Ending.returned v) = .returned (.bool true) ∧ ∃ S', Owns S G W.heap.size S' w' ∧ (I (pre ++ [x]) S' w' ∧ w'.heap[l]? = some (.loop (rec .ready none)) ∧ (∀ d, D = some d → w'.heap[d]? = some (.deferred (some [])))) ∧ Lies (fun k => ¬ S k) W w') ∨
            ((Ending.returned v) = .returned (.bool false) ∧ (∃ c, Ix c (pre ++ [x]) w' ∧ w'.heap[l]? = some (.loop (rec .done (some c))) ∧ (∀ d, D = some d → w'.heap[d]? = some (.deferred (some [])))) ∧ Lies (fun k => (W1.heap.size ≤ k ∨ K k) ∧ ¬ S k ∧ ¬ G k) W w')) := by
        intro c W3 hx3 ha3
        have hl3 := rec3 _ W3 (.inl hl1) ha3
        have hlt3 := (Array.getElem?_eq_some_iff.1 hl3).1
        refine ⟨_, _, fin (some c) W3 hl3, .inr ⟨rfl, ⟨c, hIx c _ _ _ hx3 (StepX.putObj _ hl3 rfl hl1), World.putObj_heap_same hlt3, dkeep _ _ W3 (fun _ h => .inl h) ha3⟩, ?_⟩⟩
        exact ⟨(show W3.os = W.os from ha3.os.trans hba.os), ha3.tape.trans hba.tape, ha3.output.trans hba.output, by have h1 := hba.size; have h2 := ha3.size; rw [hs2] at h2; simp; omega, fun k hk2 hk3 => keep _ _ W3 ha3 k (hk3.1.imp (fun h => by omega) id) (fun e => by rcases hk3.1 with h | h; omega; have := hKB k h; omega) hk2 hk3.2.1 hk3.2.2⟩
      rintro e a3 W3 hp
      cases e with
      | normal =>
        obtain ⟨S', ho', hi3, hb3'⟩ := hp
        have hb3 : Lies (fun k => True ∧ k < W.heap.size ∧ ¬ S k ∧ ¬ G k) _ W3 := hb3'.mono fun _ _ h => ⟨h.2.1, h.2.2.1⟩
        have hl3 := rec3 _ W3 trivial hb3
        have hlt3 := (Array.getElem?_eq_some_iff.1 hl3).1
        have same : (W3.putObj l (.loop (rec .ready none))).heap[l]? = some (.loop (rec .ready none)) := World.putObj_heap_same hlt3
        have hS'l : ¬ S' l := fun h => by
          rcases ho'.of l h with h | h | h
          · exact hSl l hl1 hl2 h
          · exact hGl l hl2 h
          · omega
        refine ⟨_, _, fin none W3 hl3, .inl ⟨rfl, S', ⟨ho'.of, fun k hk => by have := ho'.lt k hk; simpa using this⟩, ⟨hI _ _ _ _ hi3 (Lies.putObj _ _ _ (fun h => h.elim (by omega) hS'l)), same, dkeep _ _ W3 (fun _ _ => trivial) hb3⟩, ?_⟩⟩
        refine ⟨hb3.os.trans hba.os, hb3.tape.trans hba.tape, hb3.output.trans hba.output, by have h1 := hba.size; have h2 := hb3.size; rw [hs2] at h2; simp; omega, fun k hk2 hk3 => ?_⟩
        by_cases hkl : k = l
        · subst hkl; exact same.trans hl.symm
        · rw [World.putObj_heap_other hkl, hb3'.block k (by rw [hs2]; have := hba.size; omega) ⟨hk2, hk3⟩, World.putObj_heap_other hkl]; exact hba.block k hk2
      | ret => exact leave .ret W3 hp.1 hp.2
      | exit id => exact leave (.exit id) W3 hp.1 hp.2
      | goto t => exact leave (.goto t) W3 hp.1 hp.2
      | panic ch => exact hp.elim
      | outgrown => exact hp.elim
    | exit id => exact hq.elim
    | goto t => exact hq.elim
    | ret => exact hq.elim
    | panic ch => exact hq.elim
    | outgrown => exact hq.elim
  · rintro e W ⟨⟨v, rfl⟩, ⟨S', hS', h1, h2, h3⟩ | ⟨pre, hp, c, h1, h2, h3⟩⟩
    · exact hend v W h3 (.inl ⟨S', hS', h1, h2⟩)
    · exact hend v W h3 (.inr ⟨c, pre, hp, h1, h2⟩)

/-- THE LOOP, in no round. -/
theorem overOuterH {α : Type} {P : Program} {g : Operand} {ps : Array Tmp} {assign body : Code} {Q : Exit → Act → World → Prop} {a : Act} {w : World} {n : Nat}
    {gf : Nat} {lb : Array Value} (hg : a.eval g = .func (.func gf) #[] lb) (eg : ∀ args w, (callFunc gf args).run P w = .ok (.enter gf args) w)
    {R0 : α → Array Value → (Nat → Prop) → World → Prop} {xs : List α} {K : Nat → Prop} {w0 : World} (hseq : IterH P gf lb R0 xs K w0) (hKw : Lies K w0 w) (hK1 : ∀ k, K k → k < w0.heap.size) (hps : ∀ x v G W, R0 x v G W → v.size = ps.size)
    (S0 : Nat → Prop) (hS0 : ∀ k, S0 k → k < w.heap.size ∧ ¬ K k)
    (I : List α → (Nat → Prop) → World → Prop) (Ix : Code → List α → World → Prop) (hI : Own1 w.heap.size I) (hIx : ∀ c, LowX w.heap.size (Ix c)) (h0 : I [] S0 w)
    (hround : ∀ (l : Nat) (pre : List α) (x : α) (post : List α) (S G : Nat → Prop) (v : Array Value) (W : World), xs = pre ++ x :: post → w.heap.size ≤ l → l < W.heap.size → Begins w.heap.size S G W → (∀ k, S k → S0 k ∨ w.heap.size ≤ k) → ¬ S l → ¬ G l → I pre S W → R0 x v G W → ∀ K' : Act → World → Prop,
      (∀ a1 Wa, Below W.heap.size W Wa → (∀ W2, Turn l Wa W2 → body.wpIn (Fence.wide.inRound l) 9 P (roundEndsH (fun k => w.heap.size ≤ k ∨ K k) W.heap.size S G (I (pre ++ [x])) (fun c => Ix c (pre ++ [x])) W2) a1 W2) → K' a1 Wa) →
      assign.wpIn (Fence.wide.inRound l) 9 P (Exit.then K' (fun _ _ _ => False))
        { tmps := (ps.zip v).foldl (fun t (p, v) => t.setIfInBounds p v) a.tmps, defers := [] } W)
    (hdone : ∀ (D : Nat) (S : Nat → Prop) (W : World), w.heap.size ≤ D → (∀ k, S k → S0 k ∨ w.heap.size < k) → ¬ S D → I xs S W → W.heap[D]? = some (.deferred (some [])) → Q .normal { a with defers := { target := .collected D, args := #[] } :: a.defers } W)
    (hstop : ∀ (D : Nat) (c : Code) (pre : List α) (W : World), w.heap.size ≤ D → pre <+: xs → Ix c pre W → W.heap[D]? = some (.deferred (some [])) → c.wpIn Fence.wide n P Q { a with defers := { target := .collected D, args := #[] } :: a.defers } W) :
    (Code.rangeFunc g ps assign body).wpIn Fence.wide n P Q a w := by
  refine wpIn_rangeFunc ?_
  intro fn hfn
  show ∃ (l : Nat) (mark : List Deferred) (w₁ : World) (d : Deferred) (w₁' : World) (f : FuncId) (args : Array Value) (w₂ : World), (Instr.enterLoop fn a.tmps ps assign body none).run P w = .ok (l, mark) w₁ ∧ _
  obtain ⟨rec, hrec⟩ : ∃ rec : LoopState → Option Code → Loop, rec = fun st pe => { state := st, pending := pe, fn, tmps := a.tmps, params := ps, assign, body, defers := w.heap.size } := ⟨_, rfl⟩
  obtain ⟨W1, hW1⟩ : ∃ W1, (w.alloc (.deferred (some []))).alloc (.loop (rec .ready none)) = W1 := ⟨_, rfl⟩
  have hL1 : W1.heap[w.heap.size + 1]? = some (.loop (rec .ready none)) := by
    rw [← hW1]; have := World.alloc_heap_new (w.alloc (.deferred (some []))) (.loop (rec .ready none)); rwa [World.size_alloc] at this
  have hK1' : W1.heap[w.heap.size]? = some (.deferred (some [])) := by
    rw [← hW1]; exact (Below.heap_alloc _ _ _ (by simp)).trans (World.alloc_heap_new w _)
  have hbw : Below w.heap.size w W1 := by rw [← hW1]; exact ((Below.refl _ w).alloc (Nat.le_refl _) _).alloc (by simp) _
  have hsz : W1.heap.size = w.heap.size + 2 := by rw [← hW1]; simp
  have hKs := hKw.size
  have hb1 : Lies K w0 W1 := hKw.trans (Lies.of_below hbw (fun k h _ => h))
  refine ⟨w.heap.size + 1, [{ target := .collected w.heap.size, args := #[] }], W1, { target := .fn (.func gf) lb, args := #[.func (.yield (w.heap.size + 1)) #[] #[]] }, W1, gf,
    #[.func (.yield (w.heap.size + 1)) #[] #[]] ++ lb, W1, ?_, ?_, ?_, ?_, (fun h => by simp [Fence.wide] at h), ?_⟩
  · rw [← hW1, hrec]; exact run_enterLoop_outer _ _ _ _ _
  · simp only [resolve, hg]
    simp [go_sem]
  · intro f' hf'; trivial
  · simp [invoke, go_sem, eg]
  · refine overCoreH (B0 := w.heap.size) rec hrec (some w.heap.size) (fun d hd => by cases hd; omega) (fun d hd => by cases hd; exact hK1') (by omega) (by omega) hL1 hseq hb1 hK1 (fun k hk => Nat.lt_of_lt_of_le (hK1 k hk) hKs) hps S0 hS0 I Ix hI hIx
      (hI _ _ _ _ h0 (Lies.of_below hbw (fun k h _ => h)))
      (fun pre x post S G v W h1 h2 h3 h4 h5 h6 h7 h8 => hround _ pre x post S G v W h1 (by omega) h2 h3 h4 h5 h6 h7 h8 _ (fun _ _ hb hc => ⟨hb, hc⟩)) ?_
    rintro v W hd (⟨S, hS, hi, hl⟩ | ⟨c, pre, hp, hi, hl⟩)
    · have hE : (Instr.endLoop (w.heap.size + 1)).run P W = .ok none (W.putObj (w.heap.size + 1) (.loop { rec .ready none with state := .exhausted })) := by have := run_endLoop (P := P) hl (by rw [hrec]; simp); rw [hrec] at this ⊢; exact this
      refine ⟨none, _, hE, ?_⟩
      have hno : ∀ d, w.heap.size ≤ d → d < W1.heap.size → ¬ S d := fun d h1 h2 hs => by
        rcases hS d hs with h | h
        · have := (hS0 d h).1; omega
        · omega
      exact hdone _ S _ (Nat.le_refl _) (fun k hk => (hS k hk).imp id (fun h => by omega)) (hno _ (Nat.le_refl _) (by omega)) (hI _ _ _ _ hi (Lies.putObj _ _ _ (fun h => h.elim (by omega) (hno _ (by omega) (by omega))))) ((World.putObj_heap_other (by omega)).trans (hd _ rfl))
    · have hE : (Instr.endLoop (w.heap.size + 1)).run P W = .ok (some c) (W.putObj (w.heap.size + 1) (.loop { rec .done (some c) with state := .exhausted })) := by have := run_endLoop (P := P) hl (by rw [hrec]; simp); rw [hrec] at this ⊢; exact this
      refine ⟨some c, _, hE, ?_⟩
      exact (hstop _ c pre _ (Nat.le_refl _) hp (hIx c _ _ _ hi (StepX.putObj _ hl rfl (by omega))) ((World.putObj_heap_other (by omega)).trans (hd _ rfl)))

/-- a round, what it was handed is left as it was -/
theorem Going.roundH {α : Type} {P : Program} {R : α → Array Value → (Nat → Prop) → World → Prop} {xs : List α} {K S0 S G : Nat → Prop} {w W wr W1 : World} {l : Nat} {J : List α → (Nat → Prop) → World → Prop} {Jx : List α → World → Prop} {pre post : List α} {x : α} {v : Array Value}
    (hY : ∀ pre x post, xs = pre ++ x :: post → ∀ S G v W1, Begins W.heap.size S G W1 → (∀ k, S k → S0 k ∨ W.heap.size ≤ k) → J pre S W1 → R x v G W1 → l < W.heap.size → ∀ m, YieldAt Fence.wide m P l v W1 fun e W' =>
      (e = .returned (.bool true) ∧ ∃ S', Owns S G W1.heap.size S' W' ∧ J (pre ++ [x]) S' W' ∧ Lies (fun k => ¬ S k) W1 W') ∨ (e = .returned (.bool false) ∧ Jx (pre ++ [x]) W' ∧ Lies (fun k => (W.heap.size ≤ k ∨ K k) ∧ ¬ S k ∧ ¬ G k) W1 W'))
    (hJ : Own1 W.heap.size J) (hK : ∀ k, K k → k < w.heap.size) (hwW : w.heap.size ≤ W.heap.size) (hS0 : ∀ k, S0 k → k < W.heap.size ∧ ¬ K k) (hl : l < W.heap.size)
    (g : Going K S0 S w W wr J pre) (hb : Below wr.heap.size wr W1) (hx : xs = pre ++ x :: post) (hR : R x v G W1) (hG : ∀ k, G k → W.heap.size ≤ k ∧ k < W1.heap.size ∧ ¬ S k) :
    ∀ m, YieldAt Fence.wide m P l v W1 fun e W' => ∃ b, e = .returned (.bool b) ∧ (b = true → ∃ S', Going K S0 S' w W W' J (pre ++ [x]) ∧ (∀ k, S' k → S k ∨ G k ∨ W1.heap.size ≤ k) ∧ Lies (fun k => ¬ S k) W1 W') ∧ (b = false → Jx (pre ++ [x]) W') := fun m => by
  have g1 := g.low hJ hK hb
  refine (hY pre x post hx S G v W1 ⟨g1.size, g1.lt, fun k hk => hG k hk⟩ g1.of g1.inv hR hl m).mono ?_
  rintro e W' (⟨rfl, S', ho, hj, hli⟩ | ⟨rfl, hj, hli⟩)
  · refine ⟨true, rfl, fun _ => ⟨S', ⟨Nat.le_trans g1.size hli.size, ho.lt, fun k hk => ?_, g1.lies.trans (hli.mono fun k hk hKk hs => ?_), hj⟩, ho.of, hli⟩, fun h => (by cases h)⟩
    · rcases ho.of k hk with h | h | h
      · exact g.of k h
      · right; exact (hG k h).1
      · right; exact Nat.le_trans g1.size h
    · rcases g.of k hs with h | h
      · exact (hS0 k h).2 hKk
      · have := hK k hKk; omega
  · exact ⟨false, rfl, fun h => (by cases h), fun _ => hj⟩

end Go.Proofs.Ytakkdpjgdmngkaa

namespace Go.Proofs.Ytakkdpjgdmngkaa
set_option linter.unusedSimpArgs false
set_option linter.unusedVariables false
open Go.RowKit Go.Shelf

attribute [local go_sem] Oper.semAt_some

theorem learnOkI (A : Option Addr) (c : Nat) (g : List (List Int)) (s : Int) (S : Nat → Prop) (hl : g.length ≤ maxLen) (w : World) (h : Rows2 w S A g) :
    Calls Try.prog 38 #[.slice A g.length c, .int .i64 s] w (Same (.bool (lrnB g s)) w) := by
  have HG := Lib.hid (game_impl A c g S hl w h)
  have HL : Hid (lrnB g s = (gameB g && inR s 1 60)) := rfl
  rcases hb : gameB g with _ | _
  · have H2 : Hid (lrnB g s = false) := by show _ = _; rw [HL.out, hb]; rfl
    rw [H2.out]
    rw [hb] at HG
    clear hb h HL
    go_enter Try.func38, Try.ntmps38
    go_wp2_with (go_at_call 69; refine HG.out.mono ?_; rintro e w1 ⟨rfl, rfl⟩)
    go_ret
    exact Same.of rfl
  · rw [hb] at HG
    by_cases h1 : 1 ≤ s
    · have H2 : Hid (lrnB g s = decide (s ≤ 60)) := by show _ = _; rw [HL.out, hb]; simp [inR, h1]
      rw [H2.out]
      clear hb h HL
      go_enter Try.func38, Try.ntmps38
      go_wp2_with (go_at_call 69; refine HG.out.mono ?_; rintro e w1 ⟨rfl, rfl⟩)
      go_ret
      exact Same.of (by simp)
    · have H2 : Hid (lrnB g s = false) := by show _ = _; rw [HL.out, hb]; simp [inR, h1]
      rw [H2.out]
      clear hb h HL
      go_enter Try.func38, Try.ntmps38
      go_wp2_with (go_at_call 69; refine HG.out.mono ?_; rintro e w1 ⟨rfl, rfl⟩)
      go_ret
      exact Same.of (by simp)

theorem countsI (T : Option Addr) (c n : Nat) (s : Int) (w : World) :
    Calls Try.prog 39 #[.slice T n c, .int .i64 s] w fun e w' => ∃ b1 b2, e = .returned (.func (.func 70) #[] #[.pointer (some ⟨b1, 0, none⟩), .pointer (some ⟨b2, 0, none⟩)]) ∧ Below w.heap.size w w' ∧
      Cell1 w' b1 23 (.slice T n c) ∧ Cell1 w' b2 3 (.int .i64 s) ∧ w.heap.size ≤ b1 ∧ w.heap.size ≤ b2 := by
  go_enter Try.func39, Try.ntmps39
  go_wp2_with fail
  go_ret
  refine ⟨w.heap.size, w.heap.size + 1, by simp, ((Below.refl _ w).alloc (Nat.le_refl _) _).alloc (by simp) _, (Cell1.new _ _ _).alloc _, ?_, by omega, by omega⟩
  have := Cell1.new (w.alloc (.cells #[.slice T n c] 23)) 3 (.int .i64 s)
  simp only [World.size_alloc] at this; exact this

theorem bump_zeros (n : Nat) : bump (List.replicate n 0) 0 = oneAt n 0 1 := by
  have h : nth (List.replicate n 0) 0 = 0 := by
    rcases Nat.eq_zero_or_pos n with rfl | h
    · rfl
    · rw [nth_eq _ _ (by simpa using h)]; simp
  unfold bump oneAt; rw [h]; rfl

theorem vals_zeros (n : Nat) : (madeCells #[Value.int .i64 0] n).toList = vals (List.replicate n 0) := by rw [toList_madeCells_one]; simp [vals]

theorem Grows.made (w : World) (n : Nat) (h : n ≤ maxLen) : Grows (w.alloc (.cells (madeCells #[.int .i64 0] n) 3)) w.heap.size (.slice (some ⟨w.heap.size, 0, none⟩) n n) (List.replicate n 0) := by
  have := World.ownsRow_lit (base := w.heap.size) (e := 3) (size := 1) w (madeCells #[.int .i64 0] n) n (Nat.le_refl _) h (by simp [madeCells])
  rw [vals_zeros] at this
  unfold Grows; rw [List.length_replicate]; exact this

/-- what was learned after each of the first k steps -/
def lrnTo (g : List (List Int)) (k : Nat) : List (List Int × List Int) := (List.range k).map (lrnP g)

theorem lrnTo_succ (g : List (List Int)) (k : Nat) : lrnTo g (k + 1) = lrnTo g k ++ [lrnP g k] := by unfold lrnTo; rw [List.range_succ, List.map_append]; rfl

theorem lrnTo_length (g : List (List Int)) (k : Nat) : (lrnTo g k).length = k := by simp [lrnTo]

theorem lrnTo_prefix (g : List (List Int)) {k n : Nat} (h : k < n) : ∃ post, lrnTo g n = lrnTo g k ++ lrnP g k :: post := by
  induction n with
  | zero => omega
  | succ r ih =>
    by_cases e : k = r
    · subst e; exact ⟨[], lrnTo_succ g k⟩
    · obtain ⟨post, hp⟩ := ih (by omega)
      exact ⟨post ++ [lrnP g r], by rw [lrnTo_succ, hp]; simp⟩

/-- a round is handed counts, which it leaves as they are -/
def CntGiven (x : List Int × List Int) (v : Array Value) (G : Nat → Prop) (W : World) : Prop :=
  ∃ a b ca cb : Nat, v = #[.agg #[.slice (some ⟨a, 0, none⟩) x.1.length ca, .slice (some ⟨b, 0, none⟩) x.2.length cb]] ∧ G = (fun k => k = a ∨ k = b) ∧ CntAt W 0 a b ca cb x.1 x.2

theorem CntGiven.size (x : List Int × List Int) (v : Array Value) (G : Nat → Prop) (W : World) (h : CntGiven x v G W) : v.size = 1 := by obtain ⟨_, _, _, _, rfl, _⟩ := h; rfl

/-- the iterator between two rounds: the first k have been handed on, the next one stands in box p -/
structure CntStep (K S0 S : Nat → Prop) (w W wr : World) (J : List (List Int × List Int) → (Nat → Prop) → World → Prop) (g : List (List Int)) (k p a b ca cb : Nat) : Prop where
  go : Going K S0 S w W wr J (lrnTo g k)
  box : CntBox wr W.heap.size p a b ca cb (lrnP g k).1 (lrnP g k).2
  lo : W.heap.size ≤ p
  np : ¬ S p
  na : ¬ S a
  nb : ¬ S b

set_option maxRecDepth 100000 in
set_option maxHeartbeats 4000000 in
theorem cntIter (g : List (List Int)) (q : Nat) (hgb : gameB g = true) (hq : q + 1 ≤ 60) (T : Option Addr) (c b1 b2 : Nat) (K : Nat → Prop) (w : World)
    (h1 : Cell1 w b1 23 (.slice T g.length c)) (h2 : Cell1 w b2 3 (.int .i64 ((q : Int) + 1))) (k1 : K b1) (k2 : K b2) (hR : Rows2 w K T g) :
    IterH Try.prog 70 #[.pointer (some ⟨b1, 0, none⟩), .pointer (some ⟨b2, 0, none⟩)] CntGiven (lrnTo g (q + 1)) K w := by
  intro l S0 J Jx W hW hK hS0 hJ hJx hY h0 hl nn
  refine callsIn_wide.2 ((callsIn_wide (n := 9)).1 ?_)
  refine callsIn_of_wp Try.func70 rfl trivial ?_ rfl
  refine wpIn_wide.2 ?_
  simp only [Try.ntmps70, List.size_toArray, List.length_cons, List.length_nil, Nat.reduceAdd, Nat.reduceSub, Array.replicate_succ, Array.replicate_zero, List.push_toArray, List.append_toArray, List.nil_append, List.cons_append]
  have hg := Game.of hgb
  have hg1 := hg.lo
  have hg2 := hg.hi
  have hg3 := hg.mlo
  have hg4 := hg.mhi
  have hwW := hW.size
  have hsz := hwW
  have C1 := hW.cellAt k1 h1
  have C2 := hW.cellAt k2 h2
  have RW : Rows2 W K T g := hR.keep (fun b hb => hW.block b (hK b hb) hb)
  obtain ⟨bt, ot, rfl⟩ := hR.some (by omega)
  obtain ⟨hbt, A0, c0, hc0, hl0, hm0, -⟩ := RW.row (i := 0) (by omega)
  rw [Nat.add_zero] at hc0
  obtain ⟨m, hm⟩ : ∃ m, (rowAt g 0).length = m := ⟨_, rfl⟩
  obtain ⟨n, hn⟩ : ∃ n, g.length = n := ⟨_, rfl⟩
  rw [hm] at hc0 hg3 hg4 hl0
  rw [hn] at C1 hg1 hg2
  have cr := stays (W := W) (p := bt) (o := ot) (by have := hK bt hbt; omega) hc0
  have cb1 := stays (W := W) (p := b1) (o := 0) C1.lt C1.cell
  unfold maxLen at hm0
  have hmk1 := run_make_row' (P := Try.prog) 26 3 _ 8 Try.underlying26 infoI rfl .i64 .i64 n (by omega) (by omega)
  have hmk2 := run_make_row' (P := Try.prog) 26 3 _ 8 Try.underlying26 infoI rfl .i64 .i64 m (by omega) (by omega)
  have hn0 : 0 < n := hg1
  have hni : (0 : Int) < (n : Int) := by omega
  have HGB := Lib.hid hgb
  have HWW := Lib.hid hW
  have HKK := Lib.hid hK
  have HRR := Lib.hid hR
  have HNM := Lib.hid (And.intro hn hm)
  have H1 := Lib.hid h1
  have H2 := Lib.hid h2
  have HK12 := Lib.hid (And.intro k1 k2)
  have HLN : Hid (n ≤ 16 ∧ m ≤ 16 ∧ 0 < n ∧ 0 < m) := by show _ ∧ _ ∧ _ ∧ _; omega
  have G0 := Lib.hid (Going.start hW hS0 h0)
  have HS0 := Lib.hid hS0
  have HJ := Lib.hid hJ
  have HRD := Lib.hid (fun (pre post : List (List Int × List Int)) (x : List Int × List Int) (S G : Nat → Prop) (v : Array Value) (wr W1 : World) (g' : Going K S0 S w W wr J pre) (hb : Below wr.heap.size wr W1) (hx : lrnTo g (q + 1) = pre ++ x :: post) (hR : CntGiven x v G W1) (hG : ∀ k, G k → W.heap.size ≤ k ∧ k < W1.heap.size ∧ ¬ S k) => Going.roundH hY hJ hK hwW hS0 hl g' hb hx hR hG)
  have HSW := Lib.hid hwW
  have HQ := Lib.hid hq
  clear hgb hW hK hR h1 h2 k1 k2 hS0 hJ hJx hY h0 hl C1 C2 RW hbt hc0 hl0 hn hm hwW hsz hg hg1 hg2 hg3 hg4 hq
  go_wp2_with fail
  go_cut [4] (fun sa wx => ∃ p a b ca cb : Nat, sa = .pointer (some ⟨p, 0, none⟩) ∧ Below W.heap.size W wx ∧ W.heap.size ≤ p ∧ CntBox wx W.heap.size p a b ca cb (List.replicate n 0) (List.replicate m 0))
  case first =>
    have HS0 : Below W.heap.size W W.drew := (Below.refl _ _).drew
    refine wp_region_held_drew (S := fun w' => Below W.heap.size W w') (by kernel_rfl) HS0 (fun hHeld => ?_)
    clear hHeld
    generalize W.drew = D at HS0 ⊢
    have hs0 := HS0.size
    have hHeld := HS0
    refine wpAnyH_take (i := 0) (v := ?v1) rfl (by kernel_rfl) (by kernel_rfl) (by kernel_rfl) (fun _ _ _ h => h) (Or.inl ⟨by rfl, ?y1⟩) (by assumption) ?z1
    case y1 => (intro w hSw; go_simp; first | done | with_reducible rfl)
    try simp only [List.getElem_toArray, List.getElem_cons_succ, List.getElem_cons_zero, Act.put, List.setIfInBounds_toArray, List.set_cons_zero, List.set_cons_succ]
    refine wpAnyH_take (i := 1) (v := ?v2) rfl (by kernel_rfl) (by kernel_rfl) (by kernel_rfl) (fun _ _ _ h => h) (Or.inl ⟨by rfl, ?y2⟩) (by assumption) ?z2
    case y2 => (intro w hSw; go_simp; first | done | with_reducible rfl)
    try simp only [List.getElem_toArray, List.getElem_cons_succ, List.getElem_cons_zero, Act.put, List.setIfInBounds_toArray, List.set_cons_zero, List.set_cons_succ]
    refine wpAnyH_take (i := 3) (v := ?v3) rfl (by kernel_rfl) (by kernel_rfl) (by kernel_rfl) (fun _ _ _ h => h) (Or.inl ⟨by rfl, ?y3⟩) (by assumption) ?z3
    case y3 => (intro w hSw; go_simp; first | done | with_reducible rfl)
    try simp only [List.getElem_toArray, List.getElem_cons_succ, List.getElem_cons_zero, Act.put, List.setIfInBounds_toArray, List.set_cons_zero, List.set_cons_succ]
    refine wpAnyH_take (i := 4) (v := ?v4) rfl (by kernel_rfl) (by kernel_rfl) (by kernel_rfl) (fun _ _ _ h => h) (Or.inl ⟨by rfl, ?y4⟩) (by assumption) ?z4
    case y4 => (intro w hSw; go_simp; first | done | with_reducible rfl)
    try simp only [List.getElem_toArray, List.getElem_cons_succ, List.getElem_cons_zero, Act.put, List.setIfInBounds_toArray, List.set_cons_zero, List.set_cons_succ]
    refine wpAnyH_take (i := 5) (v := ?v5) rfl (by kernel_rfl) (by kernel_rfl) (by kernel_rfl) (fun _ _ _ h => h) (Or.inl ⟨by rfl, ?y5⟩) (by assumption) ?z5
    case y5 => (intro w hSw; go_simp; first | done | with_reducible rfl)
    try simp only [List.getElem_toArray, List.getElem_cons_succ, List.getElem_cons_zero, Act.put, List.setIfInBounds_toArray, List.set_cons_zero, List.set_cons_succ]
    refine wpAnyH_take (i := 6) (v := ?v6) rfl (by kernel_rfl) (by kernel_rfl) (by kernel_rfl) (fun _ _ _ h => h) (Or.inl ⟨by rfl, ?y6⟩) (by assumption) ?z6
    case y6 => (intro w hSw; go_simp; first | done | with_reducible rfl)
    try simp only [List.getElem_toArray, List.getElem_cons_succ, List.getElem_cons_zero, Act.put, List.setIfInBounds_toArray, List.set_cons_zero, List.set_cons_succ]
    refine wpAnyH_ready (rs := [2, 7, 9]) (by kernel_rfl) (by simp) ?_
    refine AllReadyH.cons rfl (fun K hK => ?_) (AllReadyH.cons rfl (fun K hK => ?_) (AllReadyH.cons rfl (fun K hK => ?_) AllReadyH.nil))
    · go_simp
      obtain ⟨u1, hu1⟩ : ∃ u : World, u = D.alloc (.cells (madeCells #[.int .i64 0] n) 3) := ⟨_, rfl⟩
      rw [← hu1]
      have hb1 : Below D.heap.size D u1 := by rw [hu1]; exact (Below.refl _ _).alloc (Nat.le_refl _) _
      have GX1 : Grows u1 D.heap.size (.slice (some ⟨D.heap.size, 0, none⟩) n n) (List.replicate n 0) := by rw [hu1]; exact Grows.made _ _ (by have := HLN.out; unfold maxLen; omega)
      have lu1 : D.heap.size < u1.heap.size := by rw [hu1]; simp
      clear hu1
      have HS1 : Below W.heap.size W u1 := HS0.trans (hb1.mono HS0.size)
      have shb1 := hb1.size
      refine hK.out _ _ HS1 (fun hHeld => ?_)
      clear hK K
      try simp only [List.getElem_toArray, List.getElem_cons_succ, List.getElem_cons_zero, Act.put, List.setIfInBounds_toArray, List.set_cons_zero, List.set_cons_succ]
      refine wpAnyH_ready (rs := [7, 9]) (by kernel_rfl) (by simp) ?_
      refine AllReadyH.cons rfl (fun K hK => ?_) (AllReadyH.cons rfl (fun K hK => ?_) AllReadyH.nil)
      · go_simp
        obtain ⟨u2, hu2⟩ : ∃ u : World, u = u1.alloc (.cells (madeCells #[.int .i64 0] m) 3) := ⟨_, rfl⟩
        rw [← hu2]
        have hb2 : Below u1.heap.size u1 u2 := by rw [hu2]; exact (Below.refl _ _).alloc (Nat.le_refl _) _
        have GY2 : Grows u2 u1.heap.size (.slice (some ⟨u1.heap.size, 0, none⟩) m m) (List.replicate m 0) := by rw [hu2]; exact Grows.made _ _ (by have := HLN.out; unfold maxLen; omega)
        have lu2 : u1.heap.size < u2.heap.size := by rw [hu2]; simp
        clear hu2
        have HS2 : Below W.heap.size W u2 := HS1.trans (hb2.mono HS1.size)
        have shb2 := hb2.size
        have GX2 := GX1.keep hb2
        refine hK.out _ _ HS2 (fun hHeld => ?_)
        clear hK K
        try simp only [List.getElem_toArray, List.getElem_cons_succ, List.getElem_cons_zero, Act.put, List.setIfInBounds_toArray, List.set_cons_zero, List.set_cons_succ]
        refine wpAnyH_take (i := 8) (v := ?v7) rfl (by kernel_rfl) (by kernel_rfl) (by kernel_rfl) (fun _ _ _ h => h) (Or.inl ⟨by rfl, ?y7⟩) (by assumption) ?z7
        case y7 => (intro w hSw; go_simp; first | done | with_reducible rfl)
        try simp only [List.getElem_toArray, List.getElem_cons_succ, List.getElem_cons_zero, Act.put, List.setIfInBounds_toArray, List.set_cons_zero, List.set_cons_succ]
        refine wpAnyH_ready (rs := [9]) (by kernel_rfl) (by simp) ?_
        refine AllReadyH.cons rfl (fun K hK => ?_) AllReadyH.nil
        go_simp
        obtain ⟨V, hV⟩ : ∃ V : World, V = (u2).alloc (.cells #[.slice none 0 0, .slice none 0 0] 28) := ⟨_, rfl⟩
        rw [← hV]
        have hbV : Below (u2).heap.size (u2) V := by rw [hV]; exact (Below.refl _ _).alloc (Nat.le_refl _) _
        have PL3 : (u2).heap.size < V.heap.size := by rw [hV]; simp
        have PR3 : V.rowIs (u2).heap.size 28 2 (fun _ => .slice none 0 0) := by rw [hV]; exact World.rowIs_alloc _ #[.slice none 0 0, .slice none 0 0] _ _ (fun i hi => by have : i = 0 ∨ i = 1 := (by simp at hi; omega); rcases this with rfl | rfl <;> rfl)
        have HS3 : Below W.heap.size W V := HS2.trans (hbV.mono HS2.size)
        have hsV := hbV.size
        clear hV
        have GX3 := GX2.keep hbV
        have GY3 := GY2.keep hbV
        refine hK.out _ _ HS3 (fun hHeld => ?_)
        clear hK K
        try simp only [List.getElem_toArray, List.getElem_cons_succ, List.getElem_cons_zero, Act.put, List.setIfInBounds_toArray, List.set_cons_zero, List.set_cons_succ]
        refine wpAnyH_ready (rs := [10]) (by kernel_rfl) (by simp) ?_
        refine AllReadyH.cons rfl (fun K hK => ?_) AllReadyH.nil
        have PC0 := PR3.cell (i := 0) (by omega)
        have PC1 := PR3.cell (i := 1) (by omega)
        have PF0 := PR3.frozen 0
        have PF1 := PR3.frozen 1
        have PLE : W.heap.size ≤ (u2).heap.size := by first | exact Nat.le_refl _ | omega
        have HS4 : ∀ u v : Value, Below W.heap.size W ((V.setCell ⟨(u2).heap.size, 0, none⟩ u).setCell ⟨(u2).heap.size, 1, none⟩ v) := fun u v => (HS3.setCell PLE u).setCell PLE v
        have PRX := PR3
        have PLX := PL3
        go_simp
        refine hK.out _ _ (HS4 _ _) (fun hHeld => ?_)
        clear hK K
        try simp only [List.getElem_toArray, List.getElem_cons_succ, List.getElem_cons_zero, Act.put, List.setIfInBounds_toArray, List.set_cons_zero, List.set_cons_succ]
        refine wpAnyH_done (by kernel_rfl) ?_ _
        go_wp2_with fail
        go_meet
        exact ⟨_, _, _, n, m, rfl, HS4 _ _, PLE, CntBox.made' (List.length_replicate ..) (List.length_replicate ..) (GX3.baseC (b' := W.heap.size) (by first | exact Nat.le_refl _ | omega)) (GY3.baseC (b' := W.heap.size) (by first | exact Nat.le_refl _ | omega)) (by omega) PRX (by omega) (by omega)⟩
      · go_simp
        obtain ⟨V, hV⟩ : ∃ V : World, V = (u1).alloc (.cells #[.slice none 0 0, .slice none 0 0] 28) := ⟨_, rfl⟩
        rw [← hV]
        have hbV : Below (u1).heap.size (u1) V := by rw [hV]; exact (Below.refl _ _).alloc (Nat.le_refl _) _
        have PL2 : (u1).heap.size < V.heap.size := by rw [hV]; simp
        have PR2 : V.rowIs (u1).heap.size 28 2 (fun _ => .slice none 0 0) := by rw [hV]; exact World.rowIs_alloc _ #[.slice none 0 0, .slice none 0 0] _ _ (fun i hi => by have : i = 0 ∨ i = 1 := (by simp at hi; omega); rcases this with rfl | rfl <;> rfl)
        have HS2 : Below W.heap.size W V := HS1.trans (hbV.mono HS1.size)
        have hsV := hbV.size
        clear hV
        have GX2 := GX1.keep hbV
        refine hK.out _ _ HS2 (fun hHeld => ?_)
        clear hK K
        try simp only [List.getElem_toArray, List.getElem_cons_succ, List.getElem_cons_zero, Act.put, List.setIfInBounds_toArray, List.set_cons_zero, List.set_cons_succ]
        refine wpAnyH_ready (rs := [7]) (by kernel_rfl) (by simp) ?_
        refine AllReadyH.cons rfl (fun K hK => ?_) AllReadyH.nil
        go_simp
        obtain ⟨u2, hu2⟩ : ∃ u : World, u = V.alloc (.cells (madeCells #[.int .i64 0] m) 3) := ⟨_, rfl⟩
        rw [← hu2]
        have hb2 : Below V.heap.size V u2 := by rw [hu2]; exact (Below.refl _ _).alloc (Nat.le_refl _) _
        have GY3 : Grows u2 V.heap.size (.slice (some ⟨V.heap.size, 0, none⟩) m m) (List.replicate m 0) := by rw [hu2]; exact Grows.made _ _ (by have := HLN.out; unfold maxLen; omega)
        have lu2 : V.heap.size < u2.heap.size := by rw [hu2]; simp
        clear hu2
        have HS3 : Below W.heap.size W u2 := HS2.trans (hb2.mono HS2.size)
        have shb2 := hb2.size
        have PR3 := PR2.of_block (hb2.block _ PL2)
        have PL3 := Nat.lt_of_lt_of_le PL2 hb2.size
        have GX3 := GX2.keep hb2
        refine hK.out _ _ HS3 (fun hHeld => ?_)
        clear hK K
        try simp only [List.getElem_toArray, List.getElem_cons_succ, List.getElem_cons_zero, Act.put, List.setIfInBounds_toArray, List.set_cons_zero, List.set_cons_succ]
        refine wpAnyH_take (i := 8) (v := ?v8) rfl (by kernel_rfl) (by kernel_rfl) (by kernel_rfl) (fun _ _ _ h => h) (Or.inl ⟨by rfl, ?y8⟩) (by assumption) ?z8
        case y8 => (intro w hSw; go_simp; first | done | with_reducible rfl)
        try simp only [List.getElem_toArray, List.getElem_cons_succ, List.getElem_cons_zero, Act.put, List.setIfInBounds_toArray, List.set_cons_zero, List.set_cons_succ]
        refine wpAnyH_ready (rs := [10]) (by kernel_rfl) (by simp) ?_
        refine AllReadyH.cons rfl (fun K hK => ?_) AllReadyH.nil
        have PC0 := PR3.cell (i := 0) (by omega)
        have PC1 := PR3.cell (i := 1) (by omega)
        have PF0 := PR3.frozen 0
        have PF1 := PR3.frozen 1
        have PLE : W.heap.size ≤ (u1).heap.size := by first | exact Nat.le_refl _ | omega
        have HS4 : ∀ u v : Value, Below W.heap.size W ((u2.setCell ⟨(u1).heap.size, 0, none⟩ u).setCell ⟨(u1).heap.size, 1, none⟩ v) := fun u v => (HS3.setCell PLE u).setCell PLE v
        have PRX := PR3
        have PLX := PL3
        go_simp
        refine hK.out _ _ (HS4 _ _) (fun hHeld => ?_)
        clear hK K
        try simp only [List.getElem_toArray, List.getElem_cons_succ, List.getElem_cons_zero, Act.put, List.setIfInBounds_toArray, List.set_cons_zero, List.set_cons_succ]
        refine wpAnyH_done (by kernel_rfl) ?_ _
        go_wp2_with fail
        go_meet
        exact ⟨_, _, _, n, m, rfl, HS4 _ _, PLE, CntBox.made' (List.length_replicate ..) (List.length_replicate ..) (GX3.baseC (b' := W.heap.size) (by first | exact Nat.le_refl _ | omega)) (GY3.baseC (b' := W.heap.size) (by first | exact Nat.le_refl _ | omega)) (by omega) PRX (by omega) (by omega)⟩
    · go_simp
      obtain ⟨u2, hu2⟩ : ∃ u : World, u = D.alloc (.cells (madeCells #[.int .i64 0] m) 3) := ⟨_, rfl⟩
      rw [← hu2]
      have hb2 : Below D.heap.size D u2 := by rw [hu2]; exact (Below.refl _ _).alloc (Nat.le_refl _) _
      have GY1 : Grows u2 D.heap.size (.slice (some ⟨D.heap.size, 0, none⟩) m m) (List.replicate m 0) := by rw [hu2]; exact Grows.made _ _ (by have := HLN.out; unfold maxLen; omega)
      have lu2 : D.heap.size < u2.heap.size := by rw [hu2]; simp
      clear hu2
      have HS1 : Below W.heap.size W u2 := HS0.trans (hb2.mono HS0.size)
      have shb2 := hb2.size
      refine hK.out _ _ HS1 (fun hHeld => ?_)
      clear hK K
      try simp only [List.getElem_toArray, List.getElem_cons_succ, List.getElem_cons_zero, Act.put, List.setIfInBounds_toArray, List.set_cons_zero, List.set_cons_succ]
      refine wpAnyH_ready (rs := [2, 9]) (by kernel_rfl) (by simp) ?_
      refine AllReadyH.cons rfl (fun K hK => ?_) (AllReadyH.cons rfl (fun K hK => ?_) AllReadyH.nil)
      · go_simp
        obtain ⟨u1, hu1⟩ : ∃ u : World, u = u2.alloc (.cells (madeCells #[.int .i64 0] n) 3) := ⟨_, rfl⟩
        rw [← hu1]
        have hb1 : Below u2.heap.size u2 u1 := by rw [hu1]; exact (Below.refl _ _).alloc (Nat.le_refl _) _
        have GX2 : Grows u1 u2.heap.size (.slice (some ⟨u2.heap.size, 0, none⟩) n n) (List.replicate n 0) := by rw [hu1]; exact Grows.made _ _ (by have := HLN.out; unfold maxLen; omega)
        have lu1 : u2.heap.size < u1.heap.size := by rw [hu1]; simp
        clear hu1
        have HS2 : Below W.heap.size W u1 := HS1.trans (hb1.mono HS1.size)
        have shb1 := hb1.size
        have GY2 := GY1.keep hb1
        refine hK.out _ _ HS2 (fun hHeld => ?_)
        clear hK K
        try simp only [List.getElem_toArray, List.getElem_cons_succ, List.getElem_cons_zero, Act.put, List.setIfInBounds_toArray, List.set_cons_zero, List.set_cons_succ]
        refine wpAnyH_take (i := 8) (v := ?v9) rfl (by kernel_rfl) (by kernel_rfl) (by kernel_rfl) (fun _ _ _ h => h) (Or.inl ⟨by rfl, ?y9⟩) (by assumption) ?z9
        case y9 => (intro w hSw; go_simp; first | done | with_reducible rfl)
        try simp only [List.getElem_toArray, List.getElem_cons_succ, List.getElem_cons_zero, Act.put, List.setIfInBounds_toArray, List.set_cons_zero, List.set_cons_succ]
        refine wpAnyH_ready (rs := [9]) (by kernel_rfl) (by simp) ?_
        refine AllReadyH.cons rfl (fun K hK => ?_) AllReadyH.nil
        go_simp
        obtain ⟨V, hV⟩ : ∃ V : World, V = (u1).alloc (.cells #[.slice none 0 0, .slice none 0 0] 28) := ⟨_, rfl⟩
        rw [← hV]
        have hbV : Below (u1).heap.size (u1) V := by rw [hV]; exact (Below.refl _ _).alloc (Nat.le_refl _) _
        have PL3 : (u1).heap.size < V.heap.size := by rw [hV]; simp
        have PR3 : V.rowIs (u1).heap.size 28 2 (fun _ => .slice none 0 0) := by rw [hV]; exact World.rowIs_alloc _ #[.slice none 0 0, .slice none 0 0] _ _ (fun i hi => by have : i = 0 ∨ i = 1 := (by simp at hi; omega); rcases this with rfl | rfl <;> rfl)
        have HS3 : Below W.heap.size W V := HS2.trans (hbV.mono HS2.size)
        have hsV := hbV.size
        clear hV
        have GX3 := GX2.keep hbV
        have GY3 := GY2.keep hbV
        refine hK.out _ _ HS3 (fun hHeld => ?_)
        clear hK K
        try simp only [List.getElem_toArray, List.getElem_cons_succ, List.getElem_cons_zero, Act.put, List.setIfInBounds_toArray, List.set_cons_zero, List.set_cons_succ]
        refine wpAnyH_ready (rs := [10]) (by kernel_rfl) (by simp) ?_
        refine AllReadyH.cons rfl (fun K hK => ?_) AllReadyH.nil
        have PC0 := PR3.cell (i := 0) (by omega)
        have PC1 := PR3.cell (i := 1) (by omega)
        have PF0 := PR3.frozen 0
        have PF1 := PR3.frozen 1
        have PLE : W.heap.size ≤ (u1).heap.size := by first | exact Nat.le_refl _ | omega
        have HS4 : ∀ u v : Value, Below W.heap.size W ((V.setCell ⟨(u1).heap.size, 0, none⟩ u).setCell ⟨(u1).heap.size, 1, none⟩ v) := fun u v => (HS3.setCell PLE u).setCell PLE v
        have PRX := PR3
        have PLX := PL3
        go_simp
        refine hK.out _ _ (HS4 _ _) (fun hHeld => ?_)
        clear hK K
        try simp only [List.getElem_toArray, List.getElem_cons_succ, List.getElem_cons_zero, Act.put, List.setIfInBounds_toArray, List.set_cons_zero, List.set_cons_succ]
        refine wpAnyH_done (by kernel_rfl) ?_ _
        go_wp2_with fail
        go_meet
        exact ⟨_, _, _, n, m, rfl, HS4 _ _, PLE, CntBox.made' (List.length_replicate ..) (List.length_replicate ..) (GX3.baseC (b' := W.heap.size) (by first | exact Nat.le_refl _ | omega)) (GY3.baseC (b' := W.heap.size) (by first | exact Nat.le_refl _ | omega)) (by omega) PRX (by omega) (by omega)⟩
      · go_simp
        obtain ⟨V, hV⟩ : ∃ V : World, V = (u2).alloc (.cells #[.slice none 0 0, .slice none 0 0] 28) := ⟨_, rfl⟩
        rw [← hV]
        have hbV : Below (u2).heap.size (u2) V := by rw [hV]; exact (Below.refl _ _).alloc (Nat.le_refl _) _
        have PL2 : (u2).heap.size < V.heap.size := by rw [hV]; simp
        have PR2 : V.rowIs (u2).heap.size 28 2 (fun _ => .slice none 0 0) := by rw [hV]; exact World.rowIs_alloc _ #[.slice none 0 0, .slice none 0 0] _ _ (fun i hi => by have : i = 0 ∨ i = 1 := (by simp at hi; omega); rcases this with rfl | rfl <;> rfl)
        have HS2 : Below W.heap.size W V := HS1.trans (hbV.mono HS1.size)
        have hsV := hbV.size
        clear hV
        have GY2 := GY1.keep hbV
        refine hK.out _ _ HS2 (fun hHeld => ?_)
        clear hK K
        try simp only [List.getElem_toArray, List.getElem_cons_succ, List.getElem_cons_zero, Act.put, List.setIfInBounds_toArray, List.set_cons_zero, List.set_cons_succ]
        refine wpAnyH_ready (rs := [2]) (by kernel_rfl) (by simp) ?_
        refine AllReadyH.cons rfl (fun K hK => ?_) AllReadyH.nil
        go_simp
        obtain ⟨u1, hu1⟩ : ∃ u : World, u = V.alloc (.cells (madeCells #[.int .i64 0] n) 3) := ⟨_, rfl⟩
        rw [← hu1]
        have hb1 : Below V.heap.size V u1 := by rw [hu1]; exact (Below.refl _ _).alloc (Nat.le_refl _) _
        have GX3 : Grows u1 V.heap.size (.slice (some ⟨V.heap.size, 0, none⟩) n n) (List.replicate n 0) := by rw [hu1]; exact Grows.made _ _ (by have := HLN.out; unfold maxLen; omega)
        have lu1 : V.heap.size < u1.heap.size := by rw [hu1]; simp
        clear hu1
        have HS3 : Below W.heap.size W u1 := HS2.trans (hb1.mono HS2.size)
        have shb1 := hb1.size
        have PR3 := PR2.of_block (hb1.block _ PL2)
        have PL3 := Nat.lt_of_lt_of_le PL2 hb1.size
        have GY3 := GY2.keep hb1
        refine hK.out _ _ HS3 (fun hHeld => ?_)
        clear hK K
        try simp only [List.getElem_toArray, List.getElem_cons_succ, List.getElem_cons_zero, Act.put, List.setIfInBounds_toArray, List.set_cons_zero, List.set_cons_succ]
        refine wpAnyH_take (i := 8) (v := ?v10) rfl (by kernel_rfl) (by kernel_rfl) (by kernel_rfl) (fun _ _ _ h => h) (Or.inl ⟨by rfl, ?y10⟩) (by assumption) ?z10
        case y10 => (intro w hSw; go_simp; first | done | with_reducible rfl)
        try simp only [List.getElem_toArray, List.getElem_cons_succ, List.getElem_cons_zero, Act.put, List.setIfInBounds_toArray, List.set_cons_zero, List.set_cons_succ]
        refine wpAnyH_ready (rs := [10]) (by kernel_rfl) (by simp) ?_
        refine AllReadyH.cons rfl (fun K hK => ?_) AllReadyH.nil
        have PC0 := PR3.cell (i := 0) (by omega)
        have PC1 := PR3.cell (i := 1) (by omega)
        have PF0 := PR3.frozen 0
        have PF1 := PR3.frozen 1
        have PLE : W.heap.size ≤ (u2).heap.size := by first | exact Nat.le_refl _ | omega
        have HS4 : ∀ u v : Value, Below W.heap.size W ((u1.setCell ⟨(u2).heap.size, 0, none⟩ u).setCell ⟨(u2).heap.size, 1, none⟩ v) := fun u v => (HS3.setCell PLE u).setCell PLE v
        have PRX := PR3
        have PLX := PL3
        go_simp
        refine hK.out _ _ (HS4 _ _) (fun hHeld => ?_)
        clear hK K
        try simp only [List.getElem_toArray, List.getElem_cons_succ, List.getElem_cons_zero, Act.put, List.setIfInBounds_toArray, List.set_cons_zero, List.set_cons_succ]
        refine wpAnyH_done (by kernel_rfl) ?_ _
        go_wp2_with fail
        go_meet
        exact ⟨_, _, _, n, m, rfl, HS4 _ _, PLE, CntBox.made' (List.length_replicate ..) (List.length_replicate ..) (GX3.baseC (b' := W.heap.size) (by first | exact Nat.le_refl _ | omega)) (GY3.baseC (b' := W.heap.size) (by first | exact Nat.le_refl _ | omega)) (by omega) PRX (by omega) (by omega)⟩
    · go_simp
      obtain ⟨V, hV⟩ : ∃ V : World, V = (D).alloc (.cells #[.slice none 0 0, .slice none 0 0] 28) := ⟨_, rfl⟩
      rw [← hV]
      have hbV : Below (D).heap.size (D) V := by rw [hV]; exact (Below.refl _ _).alloc (Nat.le_refl _) _
      have PL1 : (D).heap.size < V.heap.size := by rw [hV]; simp
      have PR1 : V.rowIs (D).heap.size 28 2 (fun _ => .slice none 0 0) := by rw [hV]; exact World.rowIs_alloc _ #[.slice none 0 0, .slice none 0 0] _ _ (fun i hi => by have : i = 0 ∨ i = 1 := (by simp at hi; omega); rcases this with rfl | rfl <;> rfl)
      have HS1 : Below W.heap.size W V := HS0.trans (hbV.mono HS0.size)
      have hsV := hbV.size
      clear hV
      refine hK.out _ _ HS1 (fun hHeld => ?_)
      clear hK K
      try simp only [List.getElem_toArray, List.getElem_cons_succ, List.getElem_cons_zero, Act.put, List.setIfInBounds_toArray, List.set_cons_zero, List.set_cons_succ]
      refine wpAnyH_ready (rs := [2, 7]) (by kernel_rfl) (by simp) ?_
      refine AllReadyH.cons rfl (fun K hK => ?_) (AllReadyH.cons rfl (fun K hK => ?_) AllReadyH.nil)
      · go_simp
        obtain ⟨u1, hu1⟩ : ∃ u : World, u = V.alloc (.cells (madeCells #[.int .i64 0] n) 3) := ⟨_, rfl⟩
        rw [← hu1]
        have hb1 : Below V.heap.size V u1 := by rw [hu1]; exact (Below.refl _ _).alloc (Nat.le_refl _) _
        have GX2 : Grows u1 V.heap.size (.slice (some ⟨V.heap.size, 0, none⟩) n n) (List.replicate n 0) := by rw [hu1]; exact Grows.made _ _ (by have := HLN.out; unfold maxLen; omega)
        have lu1 : V.heap.size < u1.heap.size := by rw [hu1]; simp
        clear hu1
        have HS2 : Below W.heap.size W u1 := HS1.trans (hb1.mono HS1.size)
        have shb1 := hb1.size
        have PR2 := PR1.of_block (hb1.block _ PL1)
        have PL2 := Nat.lt_of_lt_of_le PL1 hb1.size
        refine hK.out _ _ HS2 (fun hHeld => ?_)
        clear hK K
        try simp only [List.getElem_toArray, List.getElem_cons_succ, List.getElem_cons_zero, Act.put, List.setIfInBounds_toArray, List.set_cons_zero, List.set_cons_succ]
        refine wpAnyH_ready (rs := [7]) (by kernel_rfl) (by simp) ?_
        refine AllReadyH.cons rfl (fun K hK => ?_) AllReadyH.nil
        go_simp
        obtain ⟨u2, hu2⟩ : ∃ u : World, u = u1.alloc (.cells (madeCells #[.int .i64 0] m) 3) := ⟨_, rfl⟩
        rw [← hu2]
        have hb2 : Below u1.heap.size u1 u2 := by rw [hu2]; exact (Below.refl _ _).alloc (Nat.le_refl _) _
        have GY3 : Grows u2 u1.heap.size (.slice (some ⟨u1.heap.size, 0, none⟩) m m) (List.replicate m 0) := by rw [hu2]; exact Grows.made _ _ (by have := HLN.out; unfold maxLen; omega)
        have lu2 : u1.heap.size < u2.heap.size := by rw [hu2]; simp
        clear hu2
        have HS3 : Below W.heap.size W u2 := HS2.trans (hb2.mono HS2.size)
        have shb2 := hb2.size
        have PR3 := PR2.of_block (hb2.block _ PL2)
        have PL3 := Nat.lt_of_lt_of_le PL2 hb2.size
        have GX3 := GX2.keep hb2
        refine hK.out _ _ HS3 (fun hHeld => ?_)
        clear hK K
        try simp only [List.getElem_toArray, List.getElem_cons_succ, List.getElem_cons_zero, Act.put, List.setIfInBounds_toArray, List.set_cons_zero, List.set_cons_succ]
        refine wpAnyH_take (i := 8) (v := ?v11) rfl (by kernel_rfl) (by kernel_rfl) (by kernel_rfl) (fun _ _ _ h => h) (Or.inl ⟨by rfl, ?y11⟩) (by assumption) ?z11
        case y11 => (intro w hSw; go_simp; first | done | with_reducible rfl)
        try simp only [List.getElem_toArray, List.getElem_cons_succ, List.getElem_cons_zero, Act.put, List.setIfInBounds_toArray, List.set_cons_zero, List.set_cons_succ]
        refine wpAnyH_ready (rs := [10]) (by kernel_rfl) (by simp) ?_
        refine AllReadyH.cons rfl (fun K hK => ?_) AllReadyH.nil
        have PC0 := PR3.cell (i := 0) (by omega)
        have PC1 := PR3.cell (i := 1) (by omega)
        have PF0 := PR3.frozen 0
        have PF1 := PR3.frozen 1
        have PLE : W.heap.size ≤ (D).heap.size := by first | exact Nat.le_refl _ | omega
        have HS4 : ∀ u v : Value, Below W.heap.size W ((u2.setCell ⟨(D).heap.size, 0, none⟩ u).setCell ⟨(D).heap.size, 1, none⟩ v) := fun u v => (HS3.setCell PLE u).setCell PLE v
        have PRX := PR3
        have PLX := PL3
        go_simp
        refine hK.out _ _ (HS4 _ _) (fun hHeld => ?_)
        clear hK K
        try simp only [List.getElem_toArray, List.getElem_cons_succ, List.getElem_cons_zero, Act.put, List.setIfInBounds_toArray, List.set_cons_zero, List.set_cons_succ]
        refine wpAnyH_done (by kernel_rfl) ?_ _
        go_wp2_with fail
        go_meet
        exact ⟨_, _, _, n, m, rfl, HS4 _ _, PLE, CntBox.made' (List.length_replicate ..) (List.length_replicate ..) (GX3.baseC (b' := W.heap.size) (by first | exact Nat.le_refl _ | omega)) (GY3.baseC (b' := W.heap.size) (by first | exact Nat.le_refl _ | omega)) (by omega) PRX (by omega) (by omega)⟩
      · go_simp
        obtain ⟨u2, hu2⟩ : ∃ u : World, u = V.alloc (.cells (madeCells #[.int .i64 0] m) 3) := ⟨_, rfl⟩
        rw [← hu2]
        have hb2 : Below V.heap.size V u2 := by rw [hu2]; exact (Below.refl _ _).alloc (Nat.le_refl _) _
        have GY2 : Grows u2 V.heap.size (.slice (some ⟨V.heap.size, 0, none⟩) m m) (List.replicate m 0) := by rw [hu2]; exact Grows.made _ _ (by have := HLN.out; unfold maxLen; omega)
        have lu2 : V.heap.size < u2.heap.size := by rw [hu2]; simp
        clear hu2
        have HS2 : Below W.heap.size W u2 := HS1.trans (hb2.mono HS1.size)
        have shb2 := hb2.size
        have PR2 := PR1.of_block (hb2.block _ PL1)
        have PL2 := Nat.lt_of_lt_of_le PL1 hb2.size
        refine hK.out _ _ HS2 (fun hHeld => ?_)
        clear hK K
        try simp only [List.getElem_toArray, List.getElem_cons_succ, List.getElem_cons_zero, Act.put, List.setIfInBounds_toArray, List.set_cons_zero, List.set_cons_succ]
        refine wpAnyH_ready (rs := [2]) (by kernel_rfl) (by simp) ?_
        refine AllReadyH.cons rfl (fun K hK => ?_) AllReadyH.nil
        go_simp
        obtain ⟨u1, hu1⟩ : ∃ u : World, u = u2.alloc (.cells (madeCells #[.int .i64 0] n) 3) := ⟨_, rfl⟩
        rw [← hu1]
        have hb1 : Below u2.heap.size u2 u1 := by rw [hu1]; exact (Below.refl _ _).alloc (Nat.le_refl _) _
        have GX3 : Grows u1 u2.heap.size (.slice (some ⟨u2.heap.size, 0, none⟩) n n) (List.replicate n 0) := by rw [hu1]; exact Grows.made _ _ (by have := HLN.out; unfold maxLen; omega)
        have lu1 : u2.heap.size < u1.heap.size := by rw [hu1]; simp
        clear hu1
        have HS3 : Below W.heap.size W u1 := HS2.trans (hb1.mono HS2.size)
        have shb1 := hb1.size
        have PR3 := PR2.of_block (hb1.block _ PL2)
        have PL3 := Nat.lt_of_lt_of_le PL2 hb1.size
        have GY3 := GY2.keep hb1
        refine hK.out _ _ HS3 (fun hHeld => ?_)
        clear hK K
        try simp only [List.getElem_toArray, List.getElem_cons_succ, List.getElem_cons_zero, Act.put, List.setIfInBounds_toArray, List.set_cons_zero, List.set_cons_succ]
        refine wpAnyH_take (i := 8) (v := ?v12) rfl (by kernel_rfl) (by kernel_rfl) (by kernel_rfl) (fun _ _ _ h => h) (Or.inl ⟨by rfl, ?y12⟩) (by assumption) ?z12
        case y12 => (intro w hSw; go_simp; first | done | with_reducible rfl)
        try simp only [List.getElem_toArray, List.getElem_cons_succ, List.getElem_cons_zero, Act.put, List.setIfInBounds_toArray, List.set_cons_zero, List.set_cons_succ]
        refine wpAnyH_ready (rs := [10]) (by kernel_rfl) (by simp) ?_
        refine AllReadyH.cons rfl (fun K hK => ?_) AllReadyH.nil
        have PC0 := PR3.cell (i := 0) (by omega)
        have PC1 := PR3.cell (i := 1) (by omega)
        have PF0 := PR3.frozen 0
        have PF1 := PR3.frozen 1
        have PLE : W.heap.size ≤ (D).heap.size := by first | exact Nat.le_refl _ | omega
        have HS4 : ∀ u v : Value, Below W.heap.size W ((u1.setCell ⟨(D).heap.size, 0, none⟩ u).setCell ⟨(D).heap.size, 1, none⟩ v) := fun u v => (HS3.setCell PLE u).setCell PLE v
        have PRX := PR3
        have PLX := PL3
        go_simp
        refine hK.out _ _ (HS4 _ _) (fun hHeld => ?_)
        clear hK K
        try simp only [List.getElem_toArray, List.getElem_cons_succ, List.getElem_cons_zero, Act.put, List.setIfInBounds_toArray, List.set_cons_zero, List.set_cons_succ]
        refine wpAnyH_done (by kernel_rfl) ?_ _
        go_wp2_with fail
        go_meet
        exact ⟨_, _, _, n, m, rfl, HS4 _ _, PLE, CntBox.made' (List.length_replicate ..) (List.length_replicate ..) (GX3.baseC (b' := W.heap.size) (by first | exact Nat.le_refl _ | omega)) (GY3.baseC (b' := W.heap.size) (by first | exact Nat.le_refl _ | omega)) (by omega) PRX (by omega) (by omega)⟩
  case rest =>
    obtain ⟨p, a, b, ca, cb, rfl, hbw, hp, hbx⟩ := hcut
    have d0 : wc.cell? ⟨p, 0, none⟩ = some (.slice (some ⟨a, 0, none⟩) n ca) := by have := hbx.row.cell (i := 0) (by omega); simpa [List.length_replicate] using this
    have d1 : wc.cell? ⟨p, 1, none⟩ = some (.slice (some ⟨b, 0, none⟩) m cb) := by have := hbx.row.cell (i := 1) (by omega); simpa [List.length_replicate] using this
    have hch := choosingI (some ⟨a, 0, none⟩) (some ⟨b, 0, none⟩) ca cb (List.replicate n 0) (List.replicate m 0) 0 0 (by simpa using HLN.out.2.2.1) (by simpa using HLN.out.2.2.2) (by simpa using HLN.out.1) (by simpa using HLN.out.2.1) (by rw [nth_eq _ _ (by simpa using HLN.out.2.2.1)]; simp) (by rw [nth_eq _ _ (by simpa using HLN.out.2.2.2)]; simp) wc (hbx.at_.ints).1 (hbx.at_.ints).2
    rw [List.length_replicate, List.length_replicate, bump_zeros, bump_zeros] at hch
    have HCH := Lib.hid hch
    have HBw := Lib.hid hbw
    clear hch hbx hbw hp cr cb1 hmk1 hmk2 hn0 hni
    go_wp2_with fail
    refine HCH.out.mono ?_
    rintro e w5 ⟨a, b, ca, cb, rfl, hb5, hc5⟩
    have hk5 := belT HBw.out hb5
    obtain ⟨X0, hX0⟩ : ∃ X0, oneAt n 0 1 = X0 := ⟨_, rfl⟩
    obtain ⟨Y0, hY0⟩ : ∃ Y0, oneAt m 0 1 = Y0 := ⟨_, rfl⟩
    rw [hX0, hY0] at hc5 ⊢
    have HC5 := Lib.hid hc5
    have HK5 := Lib.hid hk5
    have HB5 := Lib.hid hb5
    have HXY : Hid (X0 = (lrnP g 0).1 ∧ Y0 = (lrnP g 0).2) := by show _ ∧ _; rw [← hX0, ← hY0, ← HNM.out.1, ← HNM.out.2]; exact ⟨rfl, rfl⟩
    clear hc5 hk5 hb5 hX0 hY0 HCH
    go_wp2_with fail
    obtain ⟨V, hV⟩ : ∃ V : World, w5.alloc (.cells #[.slice (some ⟨a, 0, none⟩) X0.length ca, .slice (some ⟨b, 0, none⟩) Y0.length cb] 28) = V := ⟨_, rfl⟩
    have hbV : Below w5.heap.size w5 V := by rw [← hV]; exact (Below.refl _ _).alloc (Nat.le_refl _) _
    have hlt5 := HC5.out.lt
    have hrV : V.rowIs w5.heap.size 28 2 (fun i => if i = 0 then .slice (some ⟨a, 0, none⟩) X0.length ca else .slice (some ⟨b, 0, none⟩) Y0.length cb) := by
      rw [← hV]; exact World.rowIs_alloc _ #[.slice (some ⟨a, 0, none⟩) X0.length ca, .slice (some ⟨b, 0, none⟩) Y0.length cb] _ _ (fun i hi => by have : i = 0 ∨ i = 1 := (by simp at hi; omega); rcases this with rfl | rfl <;> rfl)
    have hxb : CntBox V W.heap.size w5.heap.size a b ca cb X0 Y0 := ⟨(HC5.out.keep (hbV.block _ hlt5.2.1) (hbV.block _ hlt5.2.2.2)).base HBw.out.size, hrV, by omega, by omega⟩
    rw [HXY.out.1, HXY.out.2] at hxb
    have hkV : Below W.heap.size W V := HK5.out.trans (hbV.mono HK5.out.size)
    have HST : Hid (CntStep K S0 S0 w W V J g 0 w5.heap.size a b ca cb) := by
      refine ⟨G0.out.low HJ.out HKK.out hkV, hxb, HK5.out.size, fun h => ?_, fun h => ?_, fun h => ?_⟩
      · have := (HS0.out _ h).1; have := HK5.out.size; omega
      · have := (HS0.out _ h).1; have := HBw.out.size; have := hlt5.1; omega
      · have := (HS0.out _ h).1; have := HBw.out.size; have := hlt5.2.2.1; omega
    obtain ⟨p5, hp5⟩ : ∃ p5, w5.heap.size = p5 := ⟨_, rfl⟩
    rw [hp5] at HST
    rw [hV, hp5]
    clear hV hbV hlt5 hrV hxb hkV hp5 HB5 HC5 HK5 HXY G0
    refine (wpIn_wide (n := 9)).1 ?_
    gi_loopw [6] (fun i wr => ∃ (k : Nat) (S : Nat → Prop) (a b ca cb : Nat), k ≤ q ∧ i = .int .i64 ((k : Int) + 1) ∧ Hid (CntStep K S0 S w W wr J g k p5 a b ca cb)) (fun i _ => q + 2 - (intOf i).toNat)
    case atStart => exact ⟨0, S0, a, b, ca, cb, Nat.zero_le _, by first | rfl | simp, HST⟩
    case round =>
      clear HST
      obtain ⟨k, S, a, b, ca, cb, hk, rfl, HS⟩ := hrel
      clear d0 d1 HBw HLN HS0
      have HX := Lib.hid HS.out.box.at_
      obtain ⟨x, hx⟩ : ∃ x, (lrnP g k).1 = x := ⟨_, rfl⟩
      obtain ⟨y, hy⟩ : ∃ y, (lrnP g k).2 = y := ⟨_, rfl⟩
      have e0 : wr.cell? ⟨p5, 0, none⟩ = some (.slice (some ⟨a, 0, none⟩) x.length ca) := by rw [← hx]; exact HS.out.box.row.cell (i := 0) (by omega)
      have e1 : wr.cell? ⟨p5, 1, none⟩ = some (.slice (some ⟨b, 0, none⟩) y.length cb) := by rw [← hy]; exact HS.out.box.row.cell (i := 1) (by omega)
      have hcl := HX.out.lt
      obtain ⟨post, hpost⟩ := lrnTo_prefix g (show k < q + 1 by omega)
      have hrd := HRD.out (lrnTo g k) post (lrnP g k) S (fun z => z = a ∨ z = b) _ wr wr HS.out.go (Below.refl _ _) hpost ⟨a, b, ca, cb, rfl, rfl, HX.out.base (Nat.zero_le _)⟩ (fun z hz => by
        rcases hz with rfl | rfl
        · exact ⟨hcl.1, hcl.2.1, HS.out.na⟩
        · exact ⟨hcl.2.2.1, hcl.2.2.2, HS.out.nb⟩)
      rw [hx, hy] at hrd
      obtain ⟨fn, tmps, assign, body, hy', hR⟩ := hrd (9 - 1)
      have HRO := Lib.hid hR
      have HPOST := Lib.hid hpost
      obtain ⟨mx, my⟩ := lrnP_mix HGB.out (show k ≤ 60 by have := HQ.out; omega)
      obtain ⟨bx, by_⟩ := lrnP_bd g k
      have HNX : Hid (∀ w', Below W.heap.size W w' ∨ True → Rows2 w' (· < w'.heap.size) (some ⟨bt, ot, none⟩) g → Ints w' (· < w'.heap.size) (some ⟨a, 0, none⟩) (lrnP g k).1 → Ints w' (· < w'.heap.size) (some ⟨b, 0, none⟩) (lrnP g k).2 →
          Calls Try.prog 72 #[.agg #[.slice (some ⟨a, 0, none⟩) x.length ca, .slice (some ⟨b, 0, none⟩) y.length cb], .slice (some ⟨bt, ot, none⟩) n c] w' (NewCnt w' (lrnP g (k + 1)).1 (lrnP g (k + 1)).2)) := fun w' _ h1 h2 h3 => by
        have := nextI (some ⟨bt, ot, none⟩) (some ⟨a, 0, none⟩) (some ⟨b, 0, none⟩) c ca cb g (lrnP g k).1 (lrnP g k).2 HGB.out mx my (fun i hi => by have := bx i hi; have := HQ.out; omega) (fun i hi => by have := by_ i hi; have := HQ.out; omega) w' h1 h2 h3
        rw [HNM.out.1, hx, hy] at this
        rw [← hx, ← hy] at this ⊢
        exact this
      have HXY := Lib.hid (And.intro hx hy)
      have hlp : p5 < wr.heap.size := HS.out.box.row.lt
      have AFT : Hid (∀ (W3 : World) (S' : Nat → Prop), Going K S0 S' w W W3 J (lrnTo g k ++ [lrnP g k]) → (∀ z, S' z → S z ∨ (z = a ∨ z = b) ∨ wr.heap.size ≤ z) → Lies (fun z => ¬ S z) wr W3 →
          CntBox W3 W.heap.size p5 a b ca cb (lrnP g k).1 (lrnP g k).2 ∧ ¬ S' p5 ∧ Rows2 W3 (· < W3.heap.size) (some ⟨bt, ot, none⟩) g ∧ W3.cell? ⟨b1, 0, none⟩ = some (.slice (some ⟨bt, ot, none⟩) n c) ∧ W3.cell? ⟨b2, 0, none⟩ = some (.int .i64 ((q : Int) + 1)) ∧ p5 < W3.heap.size) := fun W3 S' hg hs hl => by
        refine ⟨⟨HX.out.keep (hl.block _ hcl.2.1 HS.out.na) (hl.block _ hcl.2.2.2 HS.out.nb), HS.out.box.row.of_block (hl.block _ hlp HS.out.np), HS.out.box.pa, HS.out.box.pb⟩, fun h => ?_, ?_, ?_, ?_, Nat.lt_of_lt_of_le hlp hl.size⟩
        · rcases hs _ h with h | (h | h) | h
          · exact HS.out.np h
          · exact HS.out.box.pa h
          · exact HS.out.box.pb h
          · omega
        · exact (HRR.out.keep (fun z hz => hg.lies.block z (HKK.out z hz) hz)).mono fun z hz => by have := HKK.out z hz; have := hg.lies.size; show z < _; omega
        · rw [← HNM.out.1]; exact (hg.lies.cellAt HK12.out.1 H1.out).cell
        · exact (hg.lies.cellAt HK12.out.2 H2.out).cell
      have hw1 : IntKind.i64.wrap ((k : Int) + 1 + 1) = (k : Int) + 1 + 1 := IntWalk.i64_in _ ⟨by have := HQ.out; omega, by have := HQ.out; omega⟩
      clear hrd hR hpost hx hy mx my bx by_ hcl hlp
      by_cases hlt : k < q
      · have hlt2 : (k : Int) + 1 < (q : Int) + 1 := by omega
        gi_wp2_with (first | (refine HRO.out.mono ?_; rintro e W3 ⟨b', rfl, hb1, hb2⟩; cases b' <;> first | (have HJX := Lib.hid (hb2 rfl); clear hb1 hb2) | (obtain ⟨S', hg', hs', hl'⟩ := hb1 rfl; obtain ⟨hx3, hn3, hr3, he1, he2, hlp3⟩ := AFT.out W3 S' hg' hs' hl'; have HG' := Lib.hid hg'; have HX3 := Lib.hid hx3; have HN3 := Lib.hid hn3; have HR3 := Lib.hid hr3; have ea : W3.cell? ⟨p5, 0, none⟩ = some (.slice (some ⟨a, 0, none⟩) x.length ca) := (by rw [← HXY.out.1]; exact hx3.row.cell (i := 0) (by omega)); have eb : W3.cell? ⟨p5, 1, none⟩ = some (.slice (some ⟨b, 0, none⟩) y.length cb) := (by rw [← HXY.out.2]; exact hx3.row.cell (i := 1) (by omega)); clear hb1 hb2 hg' hs' hl' hx3 hn3 hr3)) | (refine ⟨trivial, ?_⟩; gi_at_call 72; refine (callsIn_wide.2 (HNX.out _ (.inr trivial) HR3.out HX3.out.at_.ints.1 HX3.out.at_.ints.2)).mono ?_; rintro e w5 ⟨a5, b5, ca5, cb5, rfl, hb5, hc5⟩; have HB5 := Lib.hid hb5; have HC5 := Lib.hid hc5; have hr5 := HX3.out.row.of_block (hb5.block _ hlp3); have f0 := hr5.frozen 0; have f1 := hr5.frozen 1; have q0 := hr5.cell (i := 0) (by omega); have q1 := hr5.cell (i := 1) (by omega); have HR5 := Lib.hid hr5; clear hb5 hc5 hr5 he1 he2 ea eb hlp3))
        · go_end0
          exact ⟨⟨_, rfl⟩, .inr ⟨lrnTo g k ++ [lrnP g k], by rw [HPOST.out]; exact ⟨post, by simp⟩, HJX.out⟩⟩
        · have hl3 := HX3.out.row.lt
          have hl5 := HC5.out.lt
          have hb5 := HB5.out
          have hs5 := hb5.size
          have hs3 := HG'.out.size
          have n1 : p5 ≠ a5 := by omega
          have n2 : p5 ≠ b5 := by omega
          have hgo : Going K S0 S' w W w5 J (lrnTo g (k + 1)) := by rw [lrnTo_succ]; exact HG'.out.low HJ.out HKK.out hb5
          have hli : Lies (fun z => z ≠ p5) w5 ((w5.setCell ⟨p5, 0, none⟩ (.slice (some ⟨a5, 0, none⟩) (lrnP g (k + 1)).1.length ca5)).setCell ⟨p5, 1, none⟩ (.slice (some ⟨b5, 0, none⟩) (lrnP g (k + 1)).2.length cb5)) :=
            (Lies.setCell _ _ _ (fun h => h rfl)).trans (Lies.setCell _ _ _ (fun h => h rfl))
          refine ⟨⟨k + 1, S', a5, b5, ca5, cb5, hlt, by first | rfl | simp, hgo.keepS HJ.out hli (fun z hz => ?_) (fun z hz e => ?_) (fun z hz => ?_), ⟨(HC5.out.keep ?_ ?_).base (by omega), ((HR5.out.set 0 _).set 1 _).congr (fun i hi => ?_), n1, n2⟩, HS.out.lo, HN3.out, fun h => ?_, fun h => ?_⟩, ?_⟩
          · have := HS.out.lo; show z ≠ p5; omega
          · exact HN3.out (e ▸ hz)
          · have := HKK.out z hz; have := HSW.out; have := HS.out.lo; show z ≠ p5; omega
          · rw [Below.heap_setCell _ _ _ _ (by exact n1.symm), Below.heap_setCell _ _ _ _ (by exact n1.symm)]
          · rw [Below.heap_setCell _ _ _ _ (by exact n2.symm), Below.heap_setCell _ _ _ _ (by exact n2.symm)]
          · have : i = 0 ∨ i = 1 := by omega
            rcases this with rfl | rfl <;> rfl
          · have := HG'.out.lt _ h; omega
          · have := HG'.out.lt _ h; omega
          · simp [intOf]; omega
      · have hkq : k = q := by omega
        have hlt2 : ¬ (k : Int) + 1 < (q : Int) + 1 := by omega
        have HE : Hid (lrnTo g (q + 1) = lrnTo g k ++ [lrnP g k]) := by show _ = _; rw [← hkq, lrnTo_succ]
        clear hkq
        gi_wp2_with (first | (refine HRO.out.mono ?_; rintro e W3 ⟨b', rfl, hb1, hb2⟩; cases b' <;> first | (have HJX := Lib.hid (hb2 rfl); clear hb1 hb2) | (obtain ⟨S', hg', hs', hl'⟩ := hb1 rfl; obtain ⟨hx3, hn3, hr3, he1, he2, hlp3⟩ := AFT.out W3 S' hg' hs' hl'; have HG' := Lib.hid hg'; have HX3 := Lib.hid hx3; have HN3 := Lib.hid hn3; have HR3 := Lib.hid hr3; have ea : W3.cell? ⟨p5, 0, none⟩ = some (.slice (some ⟨a, 0, none⟩) x.length ca) := (by rw [← HXY.out.1]; exact hx3.row.cell (i := 0) (by omega)); have eb : W3.cell? ⟨p5, 1, none⟩ = some (.slice (some ⟨b, 0, none⟩) y.length cb) := (by rw [← HXY.out.2]; exact hx3.row.cell (i := 1) (by omega)); clear hb1 hb2 hg' hs' hl' hx3 hn3 hr3)))
        · go_end0
          exact ⟨⟨_, rfl⟩, .inr ⟨lrnTo g k ++ [lrnP g k], by rw [HPOST.out]; exact ⟨post, by simp⟩, HJX.out⟩⟩
        · go_end0
          exact ⟨⟨_, rfl⟩, .inl ⟨S', HG'.out.of, by rw [HE.out]; exact HG'.out.inv⟩⟩

end Go.Proofs.Ytakkdpjgdmngkaa
