/- Texts in one: ExactJa, ExactJb, ExactJc. -/
import Derived.Test.YtlmaeadbomnhlaaGreatQD
import Derived.Test.YtlmaeadbomnhlaaGreatMG
namespace Go.Proofs.YtlmaeadbomnhlaaGreat
set_option linter.unusedSimpArgs false
set_option linter.unusedVariables false
open Go.RowKit
theorem OwnDk.two {w : World} {lo : Nat} {TN TP : Option Addr} {d : Dk} {A : Nat → Nat → Option Addr} {C : Nat → Nat → Nat} {TT : Nat → Option Addr} {CC : Nat → Nat} (h : OwnDk w lo w.heap.size TN TP d A C TT CC) : Rows2 w (· < w.heap.size) TN d.now ∧ Rows3 w (· < w.heap.size) TP d.past :=
  ⟨h.rows2.mono fun b hb => hb.2, h.rows3.mono fun b hb => hb.2⟩
end Go.Proofs.YtlmaeadbomnhlaaGreat

namespace Go.Proofs.YtlmaeadbomnhlaaGreat
set_option linter.unusedSimpArgs false
set_option linter.unusedVariables false
open Go.RowKit
structure RdD (w : World) (B : Nat) (TN TP : Option Addr) (d : Dk) : Prop where
  n : Rows2 w (· < B) TN d.now
  p : Rows3 w (· < B) TP d.past
theorem RdD.lt {w : World} {B B' : Nat} {TN TP : Option Addr} {d : Dk} (h : RdD w B TN TP d) (hB : B ≤ B') : RdD w B' TN TP d := ⟨h.n.lt hB, h.p.lt hB⟩
theorem keepDk {w w' : World} {B : Nat} {TN TP : Option Addr} {d : Dk} (hb : Below B w w') (h : RdD w B TN TP d) : RdD w' B TN TP d := ⟨keepRows hb h.n, keepTabs hb h.p⟩
theorem OwnDk.below {w w' : World} {lo hi : Nat} {TN TP : Option Addr} {d : Dk} {A : Nat → Nat → Option Addr} {C : Nat → Nat → Nat} {TT : Nat → Option Addr} {CC : Nat → Nat} (h : OwnDk w lo hi TN TP d A C TT CC) (hb : Below hi w w') : OwnDk w' lo hi TN TP d A C TT CC := h.keep fun b _ h2 => hb.block b h2
theorem OwnDk.off {w w' : World} {lo hi lo' hi' : Nat} {TN TP : Option Addr} {d : Dk} {A : Nat → Nat → Option Addr} {C : Nat → Nat → Nat} {TT : Nat → Option Addr} {CC : Nat → Nat} (h : OwnDk w lo hi TN TP d A C TT CC) (ho : Off lo' hi' w w') (hd : hi ≤ lo' ∨ hi' ≤ lo) : OwnDk w' lo hi TN TP d A C TT CC := h.keep fun b h1 h2 => ho.block b (by omega)
theorem OwnDk.lt {w : World} {lo hi : Nat} {TN TP : Option Addr} {d : Dk} {A : Nat → Nat → Option Addr} {C : Nat → Nat → Nat} {TT : Nat → Option Addr} {CC : Nat → Nat} (h : OwnDk w lo hi TN TP d A C TT CC) : RdD w hi TN TP d := ⟨h.rows2.mono fun _ h => h.2, h.rows3.mono fun _ h => h.2⟩
theorem laid_small {g : List (List Int)} (h : laidB g = true) : g.length ≤ 4 ∧ sumN g g.length ≤ 16 := by
  obtain ⟨h1, h2, h3⟩ := laid_iff.1 h
  have := sumN_le g 4 g.length (fun i hi => by rw [(Game.of h1).len i hi]; exact h3)
  omega
theorem small_ok {d : Dk} (h : dkB d = true) : SmallD d := by
  obtain ⟨h1, h2, h3⟩ := dkB_iff.1 h
  have hn := laid_small h2
  have hp : ∀ m, m ≤ d.past.length → sumP d.past m ≤ 16 * m := fun m => by
    induction m with
    | zero => intro _; simp [sumP]
    | succ m ih =>
      intro hm
      have := ih (by omega)
      have := (laid_small (pastB_at.1 h1 m (by omega))).2
      simp only [sumP]; omega
  have := hp _ (Nat.le_refl _)
  exact ⟨by omega, by omega, fun i hi => by have := (laid_small (pastB_at.1 h1 i hi)).1; omega, by unfold sizeD; omega⟩
theorem small_zero : SmallD dkZero := ⟨by simp [dkZero], by simp [dkZero], fun i hi => absurd hi (by simp [dkZero]), by simp [sizeD, dkZero, sumN, sumP]⟩
end Go.Proofs.YtlmaeadbomnhlaaGreat

namespace Go.Proofs.YtlmaeadbomnhlaaGreat
set_option linter.unusedSimpArgs false
set_option linter.unusedVariables false
open Go.RowKit
end Go.Proofs.YtlmaeadbomnhlaaGreat
