/- Texts in one: ExactG, ExactS, ExactT, ExactM, ExactN, ExactP. -/
import Derived.Test.YtlmaeadbomnhlaaMC
import Derived.Test.YtlmaeadbomnhlaaMD
import Derived.Test.YtlmaeadbomnhlaaMF
namespace Go.Proofs.Ytlmaeadbomnhlaa
set_option linter.unusedSimpArgs false
set_option linter.unusedVariables false
open Go.RowKit

theorem NewRows.bel {w w' : World} {g : List (List Int)} (h : Laid w w' g) : Below w.heap.size w w' := Laying.bel h

theorem NewRows.reads {w w' : World} {g : List (List Int)} (h : Laid w w' g) (hm : ∀ i, i < g.length → (rowAt g i).length ≤ 4294967296) : Rows2 w' (· < w'.heap.size) (some ⟨w.heap.size, 0, none⟩) g :=
  h.rows2 (fun _ _ h => h) (fun i hi => by have := hm i hi; unfold maxLen; omega)

end Go.Proofs.Ytlmaeadbomnhlaa

namespace Go.Proofs.Ytlmaeadbomnhlaa
set_option linter.unusedSimpArgs false
set_option linter.unusedVariables false
open Go.RowKit

theorem OwnI.below {w w' : World} {lo hi : Nat} {A : Option Addr} {l : List Int} (h : OwnI w lo hi A l) (hb : Below hi w w') : OwnI w' lo hi A l := h.keep fun b _ h2 => hb.block b h2

theorem OwnR.below {w w' : World} {lo hi : Nat} {A : Option Addr} {g : List (List Int)} (h : OwnR w lo hi A g) (hb : Below hi w w') : OwnR w' lo hi A g := h.keep fun b _ h2 => hb.block b h2

theorem OwnI.off {w w' : World} {lo hi lo' hi' : Nat} {A : Option Addr} {l : List Int} (h : OwnI w lo hi A l) (ho : Off lo' hi' w w') (hd : hi ≤ lo' ∨ hi' ≤ lo) : OwnI w' lo hi A l := h.keep fun b h1 h2 => ho.block b (by omega)

theorem OwnR.off {w w' : World} {lo hi lo' hi' : Nat} {A : Option Addr} {g : List (List Int)} (h : OwnR w lo hi A g) (ho : Off lo' hi' w w') (hd : hi ≤ lo' ∨ hi' ≤ lo) : OwnR w' lo hi A g := h.keep fun b h1 h2 => ho.block b (by omega)

theorem OwnI.lt {w : World} {lo hi : Nat} {A : Option Addr} {l : List Int} (h : OwnI w lo hi A l) : Ints w (· < hi) A l := h.ints.mono fun _ h => h.2

theorem OwnR.lt {w : World} {lo hi : Nat} {A : Option Addr} {g : List (List Int)} (h : OwnR w lo hi A g) : Rows2 w (· < hi) A g := h.rows2.mono fun _ h => h.2

end Go.Proofs.Ytlmaeadbomnhlaa

namespace Go.Proofs.Ytlmaeadbomnhlaa
set_option linter.unusedSimpArgs false
set_option linter.unusedVariables false
open Go.RowKit



end Go.Proofs.Ytlmaeadbomnhlaa

namespace Go.Proofs.Ytlmaeadbomnhlaa
set_option linter.unusedSimpArgs false
set_option linter.unusedVariables false
open Go.RowKit

/-- a fraction in a block of its own -/
structure Box2 (w : World) (b : Nat) (u d : Int) : Prop where
  lt : b < w.heap.size
  c0 : w.cell? ⟨b, 0, none⟩ = some (.int .i64 u)
  c1 : w.cell? ⟨b, 1, none⟩ = some (.int .i64 d)

theorem Box2.new (w : World) (u d : Int) : Box2 (w.alloc (.cells #[.int .i64 u, .int .i64 d] 27)) w.heap.size u d := ⟨by simp, by simp [go_sem], by simp [go_sem]⟩

theorem Box2.still {w w' : World} {b : Nat} {u d : Int} (h : Box2 w b u d) (hb : Below w.heap.size w w') : Box2 w' b u d :=
  ⟨Nat.lt_of_lt_of_le h.lt hb.size, (hb.cell (p := ⟨b, 0, none⟩) h.lt).trans h.c0, (hb.cell (p := ⟨b, 1, none⟩) h.lt).trans h.c1⟩

end Go.Proofs.Ytlmaeadbomnhlaa

namespace Go.Proofs.Ytlmaeadbomnhlaa
set_option linter.unusedSimpArgs false
set_option linter.unusedVariables false
open Go.RowKit



end Go.Proofs.Ytlmaeadbomnhlaa

namespace Go.Proofs.Ytlmaeadbomnhlaa
set_option linter.unusedSimpArgs false
set_option linter.unusedVariables false
open Go.RowKit

/-- what a call leaves that hands back two lists of its own, apart from each other, and a truth -/
def TwoOwn (w : World) (l m : List Int) (b : Bool) (e : Ending) (w' : World) : Prop :=
  ∃ (A : Option Addr) (c : Nat) (B : Option Addr) (d : Nat), e = .returned (.tuple #[.slice A l.length c, .slice B m.length d, .bool b]) ∧ Below w.heap.size w w' ∧ OwnI w' w.heap.size w'.heap.size A l ∧ OwnI w' w.heap.size w'.heap.size B m ∧
    (0 < l.length → 0 < m.length → A.map (·.block) ≠ B.map (·.block))

theorem shi_len (g : List (List Int)) (b : Int) : (shi g b).length ≤ 16 ∧ ∀ i, i < (shi g b).length → (rowAt (shi g b) i).length ≤ 16 := by
  unfold shi
  split
  · rename_i h
    simp only [shiB, Bool.and_eq_true] at h
    have hg := Game.of h.2
    exact ⟨hg.hi, fun i hi => by rw [hg.len i hi]; exact hg.mhi⟩
  · simp

end Go.Proofs.Ytlmaeadbomnhlaa
