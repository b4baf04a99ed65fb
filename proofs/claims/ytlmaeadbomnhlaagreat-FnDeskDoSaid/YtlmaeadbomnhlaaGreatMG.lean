/- Texts in one: ExactG, ExactS, ExactT, ExactM, ExactN, ExactP. -/
import Derived.Test.YtlmaeadbomnhlaaGreatMC
import Derived.Test.YtlmaeadbomnhlaaGreatMD
import Derived.Test.YtlmaeadbomnhlaaGreatMF
namespace Go.Proofs.YtlmaeadbomnhlaaGreat
set_option linter.unusedSimpArgs false
set_option linter.unusedVariables false
open Go.RowKit
theorem NewRows.bel {w w' : World} {g : List (List Int)} (h : Laid w w' g) : Below w.heap.size w w' := Laying.bel h
theorem NewRows.reads {w w' : World} {g : List (List Int)} (h : Laid w w' g) (hm : ∀ i, i < g.length → (rowAt g i).length ≤ 4294967296) : Rows2 w' (· < w'.heap.size) (some ⟨w.heap.size, 0, none⟩) g :=
  h.rows2 (fun _ _ h => h) (fun i hi => by have := hm i hi; unfold maxLen; omega)
theorem stillRows {w w' : World} {A : Option Addr} {g : List (List Int)} (h : Rows2 w (· < w.heap.size) A g) (hb : Below w.heap.size w w') : Rows2 w' (· < w'.heap.size) A g :=
  (keepRows hb h).mono fun b hlt => by have := hb.size; omega
end Go.Proofs.YtlmaeadbomnhlaaGreat

namespace Go.Proofs.YtlmaeadbomnhlaaGreat
set_option linter.unusedSimpArgs false
set_option linter.unusedVariables false
open Go.RowKit
theorem OwnI.below {w w' : World} {lo hi : Nat} {A : Option Addr} {l : List Int} (h : OwnI w lo hi A l) (hb : Below hi w w') : OwnI w' lo hi A l := h.keep fun b _ h2 => hb.block b h2
theorem OwnR.below {w w' : World} {lo hi : Nat} {A : Option Addr} {g : List (List Int)} (h : OwnR w lo hi A g) (hb : Below hi w w') : OwnR w' lo hi A g := h.keep fun b _ h2 => hb.block b h2
theorem OwnI.off {w w' : World} {lo hi lo' hi' : Nat} {A : Option Addr} {l : List Int} (h : OwnI w lo hi A l) (ho : Off lo' hi' w w') (hd : hi ≤ lo' ∨ hi' ≤ lo) : OwnI w' lo hi A l := h.keep fun b h1 h2 => ho.block b (by omega)
theorem OwnR.off {w w' : World} {lo hi lo' hi' : Nat} {A : Option Addr} {g : List (List Int)} (h : OwnR w lo hi A g) (ho : Off lo' hi' w w') (hd : hi ≤ lo' ∨ hi' ≤ lo) : OwnR w' lo hi A g := h.keep fun b h1 h2 => ho.block b (by omega)
theorem OwnI.lt {w : World} {lo hi : Nat} {A : Option Addr} {l : List Int} (h : OwnI w lo hi A l) : Ints w (· < hi) A l := h.ints.mono fun _ h => h.2
theorem OwnR.lt {w : World} {lo hi : Nat} {A : Option Addr} {g : List (List Int)} (h : OwnR w lo hi A g) : Rows2 w (· < hi) A g := h.rows2.mono fun _ h => h.2
end Go.Proofs.YtlmaeadbomnhlaaGreat

namespace Go.Proofs.YtlmaeadbomnhlaaGreat
set_option linter.unusedSimpArgs false
set_option linter.unusedVariables false
open Go.RowKit
end Go.Proofs.YtlmaeadbomnhlaaGreat

namespace Go.Proofs.YtlmaeadbomnhlaaGreat
set_option linter.unusedSimpArgs false
set_option linter.unusedVariables false
open Go.RowKit
structure Box2 (w : World) (b : Nat) (u d : Int) : Prop where
  lt : b < w.heap.size
  c0 : w.cell? ⟨b, 0, none⟩ = some (.int .i64 u)
  c1 : w.cell? ⟨b, 1, none⟩ = some (.int .i64 d)
theorem Box2.new (w : World) (u d : Int) : Box2 (w.alloc (.cells #[.int .i64 u, .int .i64 d] 37)) w.heap.size u d := ⟨by simp, by simp [go_sem], by simp [go_sem]⟩
theorem Box2.still {w w' : World} {b : Nat} {u d : Int} (h : Box2 w b u d) (hb : Below w.heap.size w w') : Box2 w' b u d :=
  ⟨Nat.lt_of_lt_of_le h.lt hb.size, (hb.cell (p := ⟨b, 0, none⟩) h.lt).trans h.c0, (hb.cell (p := ⟨b, 1, none⟩) h.lt).trans h.c1⟩
end Go.Proofs.YtlmaeadbomnhlaaGreat

namespace Go.Proofs.YtlmaeadbomnhlaaGreat
set_option linter.unusedSimpArgs false
set_option linter.unusedVariables false
open Go.RowKit
end Go.Proofs.YtlmaeadbomnhlaaGreat

namespace Go.Proofs.YtlmaeadbomnhlaaGreat
set_option linter.unusedSimpArgs false
set_option linter.unusedVariables false
open Go.RowKit
def TwoOwn (w : World) (l m : List Int) (b : Bool) (e : Ending) (w' : World) : Prop :=
  ∃ (A : Option Addr) (c : Nat) (B : Option Addr) (d : Nat), e = .returned (.tuple #[.slice A l.length c, .slice B m.length d, .bool b]) ∧ Below w.heap.size w w' ∧ OwnI w' w.heap.size w'.heap.size A l ∧ OwnI w' w.heap.size w'.heap.size B m ∧
    (0 < l.length → 0 < m.length → A.map (·.block) ≠ B.map (·.block))
def SolOwn (w : World) (b : Bool) (u d : Int) (x y : List Int) (e : Ending) (w' : World) : Prop :=
  ∃ (A : Option Addr) (c : Nat) (B : Option Addr) (k : Nat), e = .returned (.tuple #[.agg #[.int .i64 u, .int .i64 d, .slice A x.length c, .slice B y.length k], .bool b]) ∧
    Below w.heap.size w w' ∧ OwnI w' w.heap.size w'.heap.size A x ∧ OwnI w' w.heap.size w'.heap.size B y ∧ (0 < x.length → 0 < y.length → A.map (·.block) ≠ B.map (·.block))
structure Impl4 : Prop where
  kernel : ∀ (T : Option Addr) (c : Nat) (g : List (List Int)) (rows cols : Int) (_ : g.length ≤ maxLen) (w : World) (_ : Rows2 w (· < w.heap.size) T g),
    Calls Tryz.prog 47 #[.slice T g.length c, .int .i64 rows, .int .i64 cols] w (TwoOwn w (kerX g rows cols) (kerY g rows cols) (kerB g rows cols))
  solve : ∀ (T : Option Addr) (c : Nat) (g : List (List Int)) (_ : g.length ≤ maxLen) (w : World) (_ : Rows2 w (· < w.heap.size) T g),
    Calls Tryz.prog 24 #[.slice T g.length c] w (SolOwn w (solB g) (solU g) (solD g) (solX g) (solY g))
  worth : ∀ (T : Option Addr) (c : Nat) (g : List (List Int)) (_ : g.length ≤ maxLen) (w : World) (_ : Rows2 w (· < w.heap.size) T g),
    Calls Tryz.prog 10 #[.slice T g.length c] w (Adds (FracRes (solU g) (solD g) (solB g)) w)
  shift : ∀ (T : Option Addr) (c : Nat) (g : List (List Int)) (b : Int) (_ : g.length ≤ maxLen) (w : World) (_ : Rows2 w (· < w.heap.size) T g),
    Calls Tryz.prog 53 #[.slice T g.length c, .int .i64 b] w (TabRes w (shi g b) (shiB g b))
theorem shi_len (g : List (List Int)) (b : Int) : (shi g b).length ≤ 16 ∧ ∀ i, i < (shi g b).length → (rowAt (shi g b) i).length ≤ 16 := by
  unfold shi
  split
  · rename_i h
    simp only [shiB, Bool.and_eq_true] at h
    have hg := Game.of h.2
    exact ⟨hg.hi, fun i hi => by rw [hg.len i hi]; exact hg.mhi⟩
  · simp
end Go.Proofs.YtlmaeadbomnhlaaGreat
