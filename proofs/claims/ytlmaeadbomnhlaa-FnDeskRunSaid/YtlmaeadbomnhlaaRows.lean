/-
  No cell of these rows narrows 'for every input' (looked for: loops, veiled, ifaces, maps, wideKeys, modest, calm, conditions, laid).
  DERIVED. THE GIVEN ROWS OF THIS SEAT. 5 by the template 'for every input the law returns true; each argument reads behind the call as it read before'; 0 by the template 'total and deterministic' (their statements: YtlmaeadbomnhlaaTotals.lean).
  GIVEN WITH THE SEED: the statements are not yours to turn. If you find one false, say at which input.
  Laid BY PROGRAM, IN A SANDBOX (cutbox-rows.mjs): the forced cells as the released guide's own fill.sh prints them over the translation f35f7913a19f0c32… (all of the seat's roots in one cut). By AI agents, Wed Nov 11 2026. No macro, syntax, notation, axiom, sorry.
-/
import Derived.Test.YtlmaeadbomnhlaaChecked
import GoSem.Claim
import GoSem.ClaimJoined
import GoSem.ClaimMapViews
import Derived.JoinedTies
import Derived.KernelRfl
namespace Go.Proofs.Ytlmaeadbomnhlaa
/- THE CELL 'sum', in the pinned program and in every row, IS THE sha256 OF THE DUMP (.gsa) THAT YtlmaeadbomnhlaaProg.lean LOADS. Nothing in Lean hashes anything: it is a label: what it is worth is what the hold of that sum in a sandbox is worth. -/
noncomputable def Try.pinned : Pinned := { name := "ytlmaeadbomnhlaa", sum := "f35f7913a19f0c32161e22d9689ea1c327d2e45894bff569b095f82452839964", checked := Try.checked }
namespace Rows
def none {H : Type} : Left H := { results := [], args := [] }

/-- 'laws.FnLaidOk': WHATEVER THE INPUT: true; the input reads as it did. -/
def fnLaidOkSpec : ChangeSpec := { name := "fnLaidOk", fn := fun _ => fun
  | [d] => { results := [.lit (.bool true)], args := [d] }
  | _ => none }
def fnLaidOkRow : OpenClaim := { program := "ytlmaeadbomnhlaa", sum := "f35f7913a19f0c32161e22d9689ea1c327d2e45894bff569b095f82452839964", func := "loop.example/hideandseek/laws.FnLaidOk", spec := "fnLaidOk", unfollowed := true, recurses := true, apart := false }
def FnLaidOkSaid : Prop := fnLaidOkRow.holds Try.pinned (OpenSpec.ofChange fnLaidOkSpec)

/-- ITS FALSE NEIGHBOUR: 'it returns false'. Refute it at one input. -/
def fnLaidOkWrong : ChangeSpec := { name := "fnLaidOk", fn := fun _ => fun
  | [d] => { results := [.lit (.bool false)], args := [d] }
  | _ => none }
def FnLaidOkWrongFalsely : Prop := fnLaidOkRow.holds Try.pinned (OpenSpec.ofChange fnLaidOkWrong)

/-- 'laws.FnDeskOk': WHATEVER THE INPUT: true; the input reads as it did. -/
def fnDeskOkSpec : ChangeSpec := { name := "fnDeskOk", fn := fun _ => fun
  | [d] => { results := [.lit (.bool true)], args := [d] }
  | _ => none }
def fnDeskOkRow : OpenClaim := { program := "ytlmaeadbomnhlaa", sum := "f35f7913a19f0c32161e22d9689ea1c327d2e45894bff569b095f82452839964", func := "loop.example/hideandseek/laws.FnDeskOk", spec := "fnDeskOk", apart := false }
def FnDeskOkSaid : Prop := fnDeskOkRow.holds Try.pinned (OpenSpec.ofChange fnDeskOkSpec)

/-- ITS FALSE NEIGHBOUR: 'it returns false'. Refute it at one input. -/
def fnDeskOkWrong : ChangeSpec := { name := "fnDeskOk", fn := fun _ => fun
  | [d] => { results := [.lit (.bool false)], args := [d] }
  | _ => none }
def FnDeskOkWrongFalsely : Prop := fnDeskOkRow.holds Try.pinned (OpenSpec.ofChange fnDeskOkWrong)

/-- 'laws.FnDeskNew': WHATEVER THE INPUT: true; the input reads as it did. -/
def fnDeskNewSpec : ChangeSpec := { name := "fnDeskNew", fn := fun _ => fun
  | [d] => { results := [.lit (.bool true)], args := [d] }
  | _ => none }
def fnDeskNewRow : OpenClaim := { program := "ytlmaeadbomnhlaa", sum := "f35f7913a19f0c32161e22d9689ea1c327d2e45894bff569b095f82452839964", func := "loop.example/hideandseek/laws.FnDeskNew", spec := "fnDeskNew", apart := false }
def FnDeskNewSaid : Prop := fnDeskNewRow.holds Try.pinned (OpenSpec.ofChange fnDeskNewSpec)

/-- ITS FALSE NEIGHBOUR: 'it returns false'. Refute it at one input. -/
def fnDeskNewWrong : ChangeSpec := { name := "fnDeskNew", fn := fun _ => fun
  | [d] => { results := [.lit (.bool false)], args := [d] }
  | _ => none }
def FnDeskNewWrongFalsely : Prop := fnDeskNewRow.holds Try.pinned (OpenSpec.ofChange fnDeskNewWrong)

/-- 'laws.FnDeskRun': WHATEVER THE INPUT: true; the input reads as it did. -/
def fnDeskRunSpec : ChangeSpec := { name := "fnDeskRun", fn := fun _ => fun
  | [d] => { results := [.lit (.bool true)], args := [d] }
  | _ => none }
def fnDeskRunRow : OpenClaim := { program := "ytlmaeadbomnhlaa", sum := "f35f7913a19f0c32161e22d9689ea1c327d2e45894bff569b095f82452839964", func := "loop.example/hideandseek/laws.FnDeskRun", spec := "fnDeskRun", unfollowed := true, recurses := true, apart := false }
def FnDeskRunSaid : Prop := fnDeskRunRow.holds Try.pinned (OpenSpec.ofChange fnDeskRunSpec)

/-- ITS FALSE NEIGHBOUR: 'it returns false'. Refute it at one input. -/
def fnDeskRunWrong : ChangeSpec := { name := "fnDeskRun", fn := fun _ => fun
  | [d] => { results := [.lit (.bool false)], args := [d] }
  | _ => none }
def FnDeskRunWrongFalsely : Prop := fnDeskRunRow.holds Try.pinned (OpenSpec.ofChange fnDeskRunWrong)

/-- 'laws.FnExactLaidOk': WHATEVER THE INPUT: true; the input reads as it did. -/
def fnExactLaidOkSpec : ChangeSpec := { name := "fnExactLaidOk", fn := fun _ => fun
  | [d] => { results := [.lit (.bool true)], args := [d] }
  | _ => none }
def fnExactLaidOkRow : OpenClaim := { program := "ytlmaeadbomnhlaa", sum := "f35f7913a19f0c32161e22d9689ea1c327d2e45894bff569b095f82452839964", func := "loop.example/hideandseek/laws.FnExactLaidOk", spec := "fnExactLaidOk", apart := false }
def FnExactLaidOkSaid : Prop := fnExactLaidOkRow.holds Try.pinned (OpenSpec.ofChange fnExactLaidOkSpec)

/-- ITS FALSE NEIGHBOUR: 'it returns false'. Refute it at one input. -/
def fnExactLaidOkWrong : ChangeSpec := { name := "fnExactLaidOk", fn := fun _ => fun
  | [d] => { results := [.lit (.bool false)], args := [d] }
  | _ => none }
def FnExactLaidOkWrongFalsely : Prop := fnExactLaidOkRow.holds Try.pinned (OpenSpec.ofChange fnExactLaidOkWrong)

/- THE SECOND FORM. 'bulk': how many values and letters a reading holds, each counted each time it is reached (what is shared counts as often as it is met; a slice's spare places count too). A statement '..UptoSaid' is the law's where the arguments, and the package variables that the reading takes, are together of bulk at most 1048576: NARROWER than '..Said'. Prove '..Said' where nothing that the law and all that it calls make is longer than what came in: it says more and counts as full. Else prove '..UptoSaid'. A law counts once. -/
mutual
def uptoBulk {H : Type} : DataW H → Nat
  | .lit (.string bytes) => bytes.length + 1
  | .lit _ => 1
  | .nil => 1
  | .ptr d => uptoBulk d + 1
  | .slice elems spare => uptoBulkAll elems + uptoBulkAll spare + 1
  | .agg parts => uptoBulkAll parts + 1
  | .iface _ d => uptoBulk d + 1
  | .map entries => uptoBulkEntries entries + 1
  | .held _ => 1
def uptoBulkAll {H : Type} : List (DataW H) → Nat
  | [] => 0
  | d :: r => uptoBulk d + uptoBulkAll r
def uptoBulkEntries {H : Type} : List (Lit × DataW H) → Nat
  | [] => 0
  | x :: r => uptoBulkEntry x + uptoBulkEntries r
def uptoBulkEntry {H : Type} : Lit × DataW H → Nat
  | (.string bytes, d) => bytes.length + uptoBulk d + 1
  | (_, d) => uptoBulk d + 1
 end
def uptoSmall : (H : Type) → List (DataW H) → Bool := fun _ ds => decide (uptoBulkAll ds ≤ 1048576)
def OpenSpec.upto (s : _root_.Go.ChangeSpec) : _root_.Go.OpenSpec := { _root_.Go.OpenSpec.ofChange s with cond := some uptoSmall }

/-- 'laws.FnLaidOk', WHERE WHAT IT READS IS OF BULK AT MOST 1048576: true; the input reads as it did. -/
def fnLaidOkUptoRow : OpenClaim := { program := "ytlmaeadbomnhlaa", sum := "f35f7913a19f0c32161e22d9689ea1c327d2e45894bff569b095f82452839964", func := "loop.example/hideandseek/laws.FnLaidOk", spec := "fnLaidOk", unfollowed := true, recurses := true, apart := false, narrowed := true }
def FnLaidOkUptoSaid : Prop := fnLaidOkUptoRow.holds Try.pinned (OpenSpec.upto fnLaidOkSpec)

/-- 'laws.FnDeskOk', WHERE WHAT IT READS IS OF BULK AT MOST 1048576: true; the input reads as it did. -/
def fnDeskOkUptoRow : OpenClaim := { program := "ytlmaeadbomnhlaa", sum := "f35f7913a19f0c32161e22d9689ea1c327d2e45894bff569b095f82452839964", func := "loop.example/hideandseek/laws.FnDeskOk", spec := "fnDeskOk", apart := false, narrowed := true }
def FnDeskOkUptoSaid : Prop := fnDeskOkUptoRow.holds Try.pinned (OpenSpec.upto fnDeskOkSpec)

/-- 'laws.FnDeskNew', WHERE WHAT IT READS IS OF BULK AT MOST 1048576: true; the input reads as it did. -/
def fnDeskNewUptoRow : OpenClaim := { program := "ytlmaeadbomnhlaa", sum := "f35f7913a19f0c32161e22d9689ea1c327d2e45894bff569b095f82452839964", func := "loop.example/hideandseek/laws.FnDeskNew", spec := "fnDeskNew", apart := false, narrowed := true }
def FnDeskNewUptoSaid : Prop := fnDeskNewUptoRow.holds Try.pinned (OpenSpec.upto fnDeskNewSpec)

/-- 'laws.FnDeskRun', WHERE WHAT IT READS IS OF BULK AT MOST 1048576: true; the input reads as it did. -/
def fnDeskRunUptoRow : OpenClaim := { program := "ytlmaeadbomnhlaa", sum := "f35f7913a19f0c32161e22d9689ea1c327d2e45894bff569b095f82452839964", func := "loop.example/hideandseek/laws.FnDeskRun", spec := "fnDeskRun", unfollowed := true, recurses := true, apart := false, narrowed := true }
def FnDeskRunUptoSaid : Prop := fnDeskRunUptoRow.holds Try.pinned (OpenSpec.upto fnDeskRunSpec)

/-- 'laws.FnExactLaidOk', WHERE WHAT IT READS IS OF BULK AT MOST 1048576: true; the input reads as it did. -/
def fnExactLaidOkUptoRow : OpenClaim := { program := "ytlmaeadbomnhlaa", sum := "f35f7913a19f0c32161e22d9689ea1c327d2e45894bff569b095f82452839964", func := "loop.example/hideandseek/laws.FnExactLaidOk", spec := "fnExactLaidOk", apart := false, narrowed := true }
def FnExactLaidOkUptoSaid : Prop := fnExactLaidOkUptoRow.holds Try.pinned (OpenSpec.upto fnExactLaidOkSpec)

end Rows
end Go.Proofs.Ytlmaeadbomnhlaa
