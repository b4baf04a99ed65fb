/- Texts in one: DeskIj, Impl12D. -/
import Derived.Test.YtlmaeadbomnhlaaQH
import Derived.Test.YtlmaeadbomnhlaaQK
import Derived.Test.YtlmaeadbomnhlaaExactJf
namespace Go.Proofs.Ytlmaeadbomnhlaa
set_option linter.unusedSimpArgs false
set_option linter.unusedVariables false
open Go.RowKit

theorem after_own (A B : Option Addr) (c kk : Nat) (d : Dk) (a : Dd) (hd : dkB d = true) (hkk : d.past.length ≤ kk ∧ kk ≤ maxLen) (w : World) (h : Rows2 w (· < w.heap.size) A d.now) (h' : Rows3 w (· < w.heap.size) B d.past) :
    Calls Try.prog 43 #[.agg #[.slice A d.now.length c, .slice B d.past.length kk], .agg #[.int .i64 a.kind, .int .i64 a.row, .int .i64 a.col, .int .i64 a.num]] w fun e w' => ∃ (TN : Option Addr) (cN : Nat) (TP : Option Addr) (cP : CapN (aftD d a).past.length), e = .returned (.tuple #[.agg #[.slice TN (aftD d a).now.length cN, .slice TP (aftD d a).past.length cP], .bool (canB d a)]) ∧ Below w.heap.size w w' ∧ DeskOwn w' w.heap.size w'.heap.size TN TP (aftD d a) := by
  refine (after_impl A B c kk d a hd hkk w h h').mono ?_
  rintro e w' ⟨TN, cN, TP, cP, AA, CC, TT, UU, rfl, hb, ho⟩
  exact ⟨TN, cN, TP, cP, rfl, hb, _, _, _, _, ho⟩

theorem copyI_own (A B : Option Addr) (c kk : Nat) (d : Dk) (hd : dkB d = true) (hkk : d.past.length ≤ kk ∧ kk ≤ maxLen) (w : World) (h : Rows2 w (· < w.heap.size) A d.now) (h' : Rows3 w (· < w.heap.size) B d.past) :
    Calls Try.prog 38 #[.slice A d.now.length c, .slice B d.past.length kk] w fun e w' => ∃ (TN : Option Addr) (cN : Nat) (TP : Option Addr) (cP : CapN d.past.length), e = .returned (.agg #[.slice TN d.now.length cN, .slice TP d.past.length cP]) ∧ Below w.heap.size w w' ∧ DeskOwn w' w.heap.size w'.heap.size TN TP d :=
  deskOf_desk A B c kk d hd hkk w h h'

end Go.Proofs.Ytlmaeadbomnhlaa

namespace Go.Proofs.Ytlmaeadbomnhlaa
set_option linter.unusedSimpArgs false
set_option linter.unusedVariables false
open Go.RowKit



end Go.Proofs.Ytlmaeadbomnhlaa
