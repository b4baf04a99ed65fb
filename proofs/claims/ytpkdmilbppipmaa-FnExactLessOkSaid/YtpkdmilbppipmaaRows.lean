/-
  No cell of these rows narrows 'for every input' (looked for: loops, veiled, ifaces, maps, wideKeys, modest, calm, conditions, laid).
  DERIVED. THE GIVEN ROWS OF THIS SEAT. 5 by the template 'for every input the law returns true; each argument reads behind the call as it read before'; 0 by the template 'total and deterministic' (their statements: YtpkdmilbppipmaaTotals.lean).
  GIVEN WITH THE SEED: the statements are not yours to turn. If you find one false, say at which input.
  Laid BY PROGRAM, IN A SANDBOX (cutbox-rows.mjs): the forced cells as the released guide's own fill.sh prints them over the translation 77de097e406f1638… (all of the seat's roots in one cut). By AI agents, Wed Nov 11 2026. No macro, syntax, notation, axiom, sorry.
-/
import Derived.Test.YtpkdmilbppipmaaChecked
import GoSem.Claim
import GoSem.ClaimJoined
import GoSem.ClaimMapViews
import Derived.JoinedTies
import Derived.KernelRfl
namespace Go.Proofs.Ytpkdmilbppipmaa
/- THE CELL 'sum', in the pinned program and in every row, IS THE sha256 OF THE DUMP (.gsa) THAT YtpkdmilbppipmaaProg.lean LOADS. Nothing in Lean hashes anything: it is a label: what it is worth is what the hold of that sum in a sandbox is worth. -/
noncomputable def Try.pinned : Pinned := { name := "ytpkdmilbppipmaa", sum := "77de097e406f1638be2a5cc76402eb96eeea790c59d259ff659e673d0e0ef665", checked := Try.checked }
namespace Rows
def none {H : Type} : Left H := { results := [], args := [] }

/-- 'laws.FnPlusOf': WHATEVER THE INPUT: true; the input reads as it did. -/
def fnPlusOfSpec : ChangeSpec := { name := "fnPlusOf", fn := fun _ => fun
  | [d] => { results := [.lit (.bool true)], args := [d] }
  | _ => none }
def fnPlusOfRow : OpenClaim := { program := "ytpkdmilbppipmaa", sum := "77de097e406f1638be2a5cc76402eb96eeea790c59d259ff659e673d0e0ef665", func := "loop.example/hideandseek/laws.FnPlusOf", spec := "fnPlusOf", apart := false }
def FnPlusOfSaid : Prop := fnPlusOfRow.holds Try.pinned (OpenSpec.ofChange fnPlusOfSpec)

/-- ITS FALSE NEIGHBOUR: 'it returns false'. Refute it at one input. -/
def fnPlusOfWrong : ChangeSpec := { name := "fnPlusOf", fn := fun _ => fun
  | [d] => { results := [.lit (.bool false)], args := [d] }
  | _ => none }
def FnPlusOfWrongFalsely : Prop := fnPlusOfRow.holds Try.pinned (OpenSpec.ofChange fnPlusOfWrong)

/-- 'laws.FnMinusOf': WHATEVER THE INPUT: true; the input reads as it did. -/
def fnMinusOfSpec : ChangeSpec := { name := "fnMinusOf", fn := fun _ => fun
  | [d] => { results := [.lit (.bool true)], args := [d] }
  | _ => none }
def fnMinusOfRow : OpenClaim := { program := "ytpkdmilbppipmaa", sum := "77de097e406f1638be2a5cc76402eb96eeea790c59d259ff659e673d0e0ef665", func := "loop.example/hideandseek/laws.FnMinusOf", spec := "fnMinusOf", apart := false }
def FnMinusOfSaid : Prop := fnMinusOfRow.holds Try.pinned (OpenSpec.ofChange fnMinusOfSpec)

/-- ITS FALSE NEIGHBOUR: 'it returns false'. Refute it at one input. -/
def fnMinusOfWrong : ChangeSpec := { name := "fnMinusOf", fn := fun _ => fun
  | [d] => { results := [.lit (.bool false)], args := [d] }
  | _ => none }
def FnMinusOfWrongFalsely : Prop := fnMinusOfRow.holds Try.pinned (OpenSpec.ofChange fnMinusOfWrong)

/-- 'laws.FnLessOk': WHATEVER THE INPUT: true; the input reads as it did. -/
def fnLessOkSpec : ChangeSpec := { name := "fnLessOk", fn := fun _ => fun
  | [d] => { results := [.lit (.bool true)], args := [d] }
  | _ => none }
def fnLessOkRow : OpenClaim := { program := "ytpkdmilbppipmaa", sum := "77de097e406f1638be2a5cc76402eb96eeea790c59d259ff659e673d0e0ef665", func := "loop.example/hideandseek/laws.FnLessOk", spec := "fnLessOk", apart := false }
def FnLessOkSaid : Prop := fnLessOkRow.holds Try.pinned (OpenSpec.ofChange fnLessOkSpec)

/-- ITS FALSE NEIGHBOUR: 'it returns false'. Refute it at one input. -/
def fnLessOkWrong : ChangeSpec := { name := "fnLessOk", fn := fun _ => fun
  | [d] => { results := [.lit (.bool false)], args := [d] }
  | _ => none }
def FnLessOkWrongFalsely : Prop := fnLessOkRow.holds Try.pinned (OpenSpec.ofChange fnLessOkWrong)

/-- 'laws.FnExactPlusOf': WHATEVER THE INPUT: true; the input reads as it did. -/
def fnExactPlusOfSpec : ChangeSpec := { name := "fnExactPlusOf", fn := fun _ => fun
  | [d1, d2] => { results := [.lit (.bool true)], args := [d1, d2] }
  | _ => none }
def fnExactPlusOfRow : OpenClaim := { program := "ytpkdmilbppipmaa", sum := "77de097e406f1638be2a5cc76402eb96eeea790c59d259ff659e673d0e0ef665", func := "loop.example/hideandseek/laws.FnExactPlusOf", spec := "fnExactPlusOf", apart := false }
def FnExactPlusOfSaid : Prop := fnExactPlusOfRow.holds Try.pinned (OpenSpec.ofChange fnExactPlusOfSpec)

/-- ITS FALSE NEIGHBOUR: 'it returns false'. Refute it at one input. -/
def fnExactPlusOfWrong : ChangeSpec := { name := "fnExactPlusOf", fn := fun _ => fun
  | [d1, d2] => { results := [.lit (.bool false)], args := [d1, d2] }
  | _ => none }
def FnExactPlusOfWrongFalsely : Prop := fnExactPlusOfRow.holds Try.pinned (OpenSpec.ofChange fnExactPlusOfWrong)

/-- 'laws.FnExactLessOk': WHATEVER THE INPUT: true; the input reads as it did. -/
def fnExactLessOkSpec : ChangeSpec := { name := "fnExactLessOk", fn := fun _ => fun
  | [d1, d2] => { results := [.lit (.bool true)], args := [d1, d2] }
  | _ => none }
def fnExactLessOkRow : OpenClaim := { program := "ytpkdmilbppipmaa", sum := "77de097e406f1638be2a5cc76402eb96eeea790c59d259ff659e673d0e0ef665", func := "loop.example/hideandseek/laws.FnExactLessOk", spec := "fnExactLessOk", apart := false }
def FnExactLessOkSaid : Prop := fnExactLessOkRow.holds Try.pinned (OpenSpec.ofChange fnExactLessOkSpec)

/-- ITS FALSE NEIGHBOUR: 'it returns false'. Refute it at one input. -/
def fnExactLessOkWrong : ChangeSpec := { name := "fnExactLessOk", fn := fun _ => fun
  | [d1, d2] => { results := [.lit (.bool false)], args := [d1, d2] }
  | _ => none }
def FnExactLessOkWrongFalsely : Prop := fnExactLessOkRow.holds Try.pinned (OpenSpec.ofChange fnExactLessOkWrong)

/- THE SECOND FORM. 'bulk': how many values and letters a reading holds, each counted each time it is reached (what is shared counts as often as it is met; a slice's spare places count too). A statement '..UptoSaid' is the law's where the arguments, and the package variables that the reading takes, are together of bulk at most 1048576: NARROWER than '..Said'. Prove '..Said' where nothing that the law and all that it calls make is longer than what came in: it says more and counts as full. Else prove '..UptoSaid'. A law counts once. -/
mutual
def uptoBulk {H : Type} : DataW H → Nat
  | .lit (.string bytes) => bytes.length + 1
  | .lit _ => 1
  | .nil => 1
  | .ptr d => uptoBulk d + 1
  | .slice elems spare => uptoBulkAll elems + uptoBulkAll spare + 1
  | .agg parts => uptoBulkAll parts + 1
  | .iface _ d => uptoBulk d + 1
  | .map entries => uptoBulkEntries entries + 1
  | .held _ => 1
def uptoBulkAll {H : Type} : List (DataW H) → Nat
  | [] => 0
  | d :: r => uptoBulk d + uptoBulkAll r
def uptoBulkEntries {H : Type} : List (Lit × DataW H) → Nat
  | [] => 0
  | x :: r => uptoBulkEntry x + uptoBulkEntries r
def uptoBulkEntry {H : Type} : Lit × DataW H → Nat
  | (.string bytes, d) => bytes.length + uptoBulk d + 1
  | (_, d) => uptoBulk d + 1
 end
def uptoSmall : (H : Type) → List (DataW H) → Bool := fun _ ds => decide (uptoBulkAll ds ≤ 1048576)
def OpenSpec.upto (s : _root_.Go.ChangeSpec) : _root_.Go.OpenSpec := { _root_.Go.OpenSpec.ofChange s with cond := some uptoSmall }

/-- 'laws.FnPlusOf', WHERE WHAT IT READS IS OF BULK AT MOST 1048576: true; the input reads as it did. -/
def fnPlusOfUptoRow : OpenClaim := { program := "ytpkdmilbppipmaa", sum := "77de097e406f1638be2a5cc76402eb96eeea790c59d259ff659e673d0e0ef665", func := "loop.example/hideandseek/laws.FnPlusOf", spec := "fnPlusOf", apart := false, narrowed := true }
def FnPlusOfUptoSaid : Prop := fnPlusOfUptoRow.holds Try.pinned (OpenSpec.upto fnPlusOfSpec)

/-- 'laws.FnMinusOf', WHERE WHAT IT READS IS OF BULK AT MOST 1048576: true; the input reads as it did. -/
def fnMinusOfUptoRow : OpenClaim := { program := "ytpkdmilbppipmaa", sum := "77de097e406f1638be2a5cc76402eb96eeea790c59d259ff659e673d0e0ef665", func := "loop.example/hideandseek/laws.FnMinusOf", spec := "fnMinusOf", apart := false, narrowed := true }
def FnMinusOfUptoSaid : Prop := fnMinusOfUptoRow.holds Try.pinned (OpenSpec.upto fnMinusOfSpec)

/-- 'laws.FnLessOk', WHERE WHAT IT READS IS OF BULK AT MOST 1048576: true; the input reads as it did. -/
def fnLessOkUptoRow : OpenClaim := { program := "ytpkdmilbppipmaa", sum := "77de097e406f1638be2a5cc76402eb96eeea790c59d259ff659e673d0e0ef665", func := "loop.example/hideandseek/laws.FnLessOk", spec := "fnLessOk", apart := false, narrowed := true }
def FnLessOkUptoSaid : Prop := fnLessOkUptoRow.holds Try.pinned (OpenSpec.upto fnLessOkSpec)

/-- 'laws.FnExactPlusOf', WHERE WHAT IT READS IS OF BULK AT MOST 1048576: true; the input reads as it did. -/
def fnExactPlusOfUptoRow : OpenClaim := { program := "ytpkdmilbppipmaa", sum := "77de097e406f1638be2a5cc76402eb96eeea790c59d259ff659e673d0e0ef665", func := "loop.example/hideandseek/laws.FnExactPlusOf", spec := "fnExactPlusOf", apart := false, narrowed := true }
def FnExactPlusOfUptoSaid : Prop := fnExactPlusOfUptoRow.holds Try.pinned (OpenSpec.upto fnExactPlusOfSpec)

/-- 'laws.FnExactLessOk', WHERE WHAT IT READS IS OF BULK AT MOST 1048576: true; the input reads as it did. -/
def fnExactLessOkUptoRow : OpenClaim := { program := "ytpkdmilbppipmaa", sum := "77de097e406f1638be2a5cc76402eb96eeea790c59d259ff659e673d0e0ef665", func := "loop.example/hideandseek/laws.FnExactLessOk", spec := "fnExactLessOk", apart := false, narrowed := true }
def FnExactLessOkUptoSaid : Prop := fnExactLessOkUptoRow.holds Try.pinned (OpenSpec.upto fnExactLessOkSpec)

end Rows
end Go.Proofs.Ytpkdmilbppipmaa
