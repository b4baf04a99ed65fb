/-
  No cell of these rows narrows 'for every input' (looked for: loops, veiled, ifaces, maps, wideKeys, modest, calm, conditions, laid).
  DERIVED. THE GIVEN ROWS OF THIS SEAT. 5 by the template 'for every input the law returns true; each argument reads behind the call as it read before'; 0 by the template 'total and deterministic' (their statements: YtlkjpmdnhccdpaaTotals.lean).
  GIVEN WITH THE SEED: the statements are not yours to turn. If you find one false, say at which input.
  Laid BY PROGRAM, IN A SANDBOX (cutbox-rows.mjs): the forced cells as the released guide's own fill.sh prints them over the translation 74b3fd4295ab827a… (all of the seat's roots in one cut). By AI agents, Wed Nov 11 2026. No macro, syntax, notation, axiom, sorry.
-/
import Derived.Test.YtlkjpmdnhccdpaaChecked
import GoSem.Claim
import GoSem.ClaimJoined
import GoSem.ClaimMapViews
import Derived.JoinedTies
import Derived.KernelRfl
namespace Go.Proofs.Ytlkjpmdnhccdpaa
/- THE CELL 'sum', in the pinned program and in every row, IS THE sha256 OF THE DUMP (.gsa) THAT YtlkjpmdnhccdpaaProg.lean LOADS. Nothing in Lean hashes anything: it is a label: what it is worth is what the hold of that sum in a sandbox is worth. -/
noncomputable def Try.pinned : Pinned := { name := "ytlkjpmdnhccdpaa", sum := "74b3fd4295ab827ab03954d3da6eb54c7432d5fc76115dd19386bd1e160e6626", checked := Try.checked }
namespace Rows
def none {H : Type} : Left H := { results := [], args := [] }

/-- 'laws.FnDeskRun': WHATEVER THE INPUT: true; the input reads as it did. -/
def fnDeskRunSpec : ChangeSpec := { name := "fnDeskRun", fn := fun _ => fun
  | [d] => { results := [.lit (.bool true)], args := [d] }
  | _ => none }
def fnDeskRunRow : OpenClaim := { program := "ytlkjpmdnhccdpaa", sum := "74b3fd4295ab827ab03954d3da6eb54c7432d5fc76115dd19386bd1e160e6626", func := "loop.example/hideandseek/laws.FnDeskRun", spec := "fnDeskRun", unfollowed := true, recurses := true, apart := false }
def FnDeskRunSaid : Prop := fnDeskRunRow.holds Try.pinned (OpenSpec.ofChange fnDeskRunSpec)

/-- ITS FALSE NEIGHBOUR: 'it returns false'. Refute it at one input. -/
def fnDeskRunWrong : ChangeSpec := { name := "fnDeskRun", fn := fun _ => fun
  | [d] => { results := [.lit (.bool false)], args := [d] }
  | _ => none }
def FnDeskRunWrongFalsely : Prop := fnDeskRunRow.holds Try.pinned (OpenSpec.ofChange fnDeskRunWrong)

/-- 'laws.FnLaidOk': WHATEVER THE INPUT: true; the input reads as it did. -/
def fnLaidOkSpec : ChangeSpec := { name := "fnLaidOk", fn := fun _ => fun
  | [d] => { results := [.lit (.bool true)], args := [d] }
  | _ => none }
def fnLaidOkRow : OpenClaim := { program := "ytlkjpmdnhccdpaa", sum := "74b3fd4295ab827ab03954d3da6eb54c7432d5fc76115dd19386bd1e160e6626", func := "loop.example/hideandseek/laws.FnLaidOk", spec := "fnLaidOk", unfollowed := true, recurses := true, apart := false }
def FnLaidOkSaid : Prop := fnLaidOkRow.holds Try.pinned (OpenSpec.ofChange fnLaidOkSpec)

/-- ITS FALSE NEIGHBOUR: 'it returns false'. Refute it at one input. -/
def fnLaidOkWrong : ChangeSpec := { name := "fnLaidOk", fn := fun _ => fun
  | [d] => { results := [.lit (.bool false)], args := [d] }
  | _ => none }
def FnLaidOkWrongFalsely : Prop := fnLaidOkRow.holds Try.pinned (OpenSpec.ofChange fnLaidOkWrong)

/-- 'laws.FnDeskOk': WHATEVER THE INPUT: true; the input reads as it did. -/
def fnDeskOkSpec : ChangeSpec := { name := "fnDeskOk", fn := fun _ => fun
  | [d] => { results := [.lit (.bool true)], args := [d] }
  | _ => none }
def fnDeskOkRow : OpenClaim := { program := "ytlkjpmdnhccdpaa", sum := "74b3fd4295ab827ab03954d3da6eb54c7432d5fc76115dd19386bd1e160e6626", func := "loop.example/hideandseek/laws.FnDeskOk", spec := "fnDeskOk", apart := false }
def FnDeskOkSaid : Prop := fnDeskOkRow.holds Try.pinned (OpenSpec.ofChange fnDeskOkSpec)

/-- ITS FALSE NEIGHBOUR: 'it returns false'. Refute it at one input. -/
def fnDeskOkWrong : ChangeSpec := { name := "fnDeskOk", fn := fun _ => fun
  | [d] => { results := [.lit (.bool false)], args := [d] }
  | _ => none }
def FnDeskOkWrongFalsely : Prop := fnDeskOkRow.holds Try.pinned (OpenSpec.ofChange fnDeskOkWrong)

/-- 'laws.FnDeskNew': WHATEVER THE INPUT: true; the input reads as it did. -/
def fnDeskNewSpec : ChangeSpec := { name := "fnDeskNew", fn := fun _ => fun
  | [d] => { results := [.lit (.bool true)], args := [d] }
  | _ => none }
def fnDeskNewRow : OpenClaim := { program := "ytlkjpmdnhccdpaa", sum := "74b3fd4295ab827ab03954d3da6eb54c7432d5fc76115dd19386bd1e160e6626", func := "loop.example/hideandseek/laws.FnDeskNew", spec := "fnDeskNew", apart := false }
def FnDeskNewSaid : Prop := fnDeskNewRow.holds Try.pinned (OpenSpec.ofChange fnDeskNewSpec)

/-- ITS FALSE NEIGHBOUR: 'it returns false'. Refute it at one input. -/
def fnDeskNewWrong : ChangeSpec := { name := "fnDeskNew", fn := fun _ => fun
  | [d] => { results := [.lit (.bool false)], args := [d] }
  | _ => none }
def FnDeskNewWrongFalsely : Prop := fnDeskNewRow.holds Try.pinned (OpenSpec.ofChange fnDeskNewWrong)

/-- 'laws.FnExactDeskDo': WHATEVER THE INPUT: true; the input reads as it did. -/
def fnExactDeskDoSpec : ChangeSpec := { name := "fnExactDeskDo", fn := fun _ => fun
  | [d1, d2] => { results := [.lit (.bool true)], args := [d1, d2] }
  | _ => none }
def fnExactDeskDoRow : OpenClaim := { program := "ytlkjpmdnhccdpaa", sum := "74b3fd4295ab827ab03954d3da6eb54c7432d5fc76115dd19386bd1e160e6626", func := "loop.example/hideandseek/laws.FnExactDeskDo", spec := "fnExactDeskDo", unfollowed := true, recurses := true, apart := false }
def FnExactDeskDoSaid : Prop := fnExactDeskDoRow.holds Try.pinned (OpenSpec.ofChange fnExactDeskDoSpec)

/-- ITS FALSE NEIGHBOUR: 'it returns false'. Refute it at one input. -/
def fnExactDeskDoWrong : ChangeSpec := { name := "fnExactDeskDo", fn := fun _ => fun
  | [d1, d2] => { results := [.lit (.bool false)], args := [d1, d2] }
  | _ => none }
def FnExactDeskDoWrongFalsely : Prop := fnExactDeskDoRow.holds Try.pinned (OpenSpec.ofChange fnExactDeskDoWrong)

/- THE SECOND FORM. 'bulk': how many values and letters a reading holds, each counted each time it is reached (what is shared counts as often as it is met; a slice's spare places count too). A statement '..UptoSaid' is the law's where the arguments, and the package variables that the reading takes, are together of bulk at most 1048576: NARROWER than '..Said'. Prove '..Said' where nothing that the law and all that it calls make is longer than what came in: it says more and counts as full. Else prove '..UptoSaid'. A law counts once. -/
mutual
def uptoBulk {H : Type} : DataW H → Nat
  | .lit (.string bytes) => bytes.length + 1
  | .lit _ => 1
  | .nil => 1
  | .ptr d => uptoBulk d + 1
  | .slice elems spare => uptoBulkAll elems + uptoBulkAll spare + 1
  | .agg parts => uptoBulkAll parts + 1
  | .iface _ d => uptoBulk d + 1
  | .map entries => uptoBulkEntries entries + 1
  | .held _ => 1
def uptoBulkAll {H : Type} : List (DataW H) → Nat
  | [] => 0
  | d :: r => uptoBulk d + uptoBulkAll r
def uptoBulkEntries {H : Type} : List (Lit × DataW H) → Nat
  | [] => 0
  | x :: r => uptoBulkEntry x + uptoBulkEntries r
def uptoBulkEntry {H : Type} : Lit × DataW H → Nat
  | (.string bytes, d) => bytes.length + uptoBulk d + 1
  | (_, d) => uptoBulk d + 1
 end
def uptoSmall : (H : Type) → List (DataW H) → Bool := fun _ ds => decide (uptoBulkAll ds ≤ 1048576)
def OpenSpec.upto (s : _root_.Go.ChangeSpec) : _root_.Go.OpenSpec := { _root_.Go.OpenSpec.ofChange s with cond := some uptoSmall }

/-- 'laws.FnDeskRun', WHERE WHAT IT READS IS OF BULK AT MOST 1048576: true; the input reads as it did. -/
def fnDeskRunUptoRow : OpenClaim := { program := "ytlkjpmdnhccdpaa", sum := "74b3fd4295ab827ab03954d3da6eb54c7432d5fc76115dd19386bd1e160e6626", func := "loop.example/hideandseek/laws.FnDeskRun", spec := "fnDeskRun", unfollowed := true, recurses := true, apart := false, narrowed := true }
def FnDeskRunUptoSaid : Prop := fnDeskRunUptoRow.holds Try.pinned (OpenSpec.upto fnDeskRunSpec)

/-- 'laws.FnLaidOk', WHERE WHAT IT READS IS OF BULK AT MOST 1048576: true; the input reads as it did. -/
def fnLaidOkUptoRow : OpenClaim := { program := "ytlkjpmdnhccdpaa", sum := "74b3fd4295ab827ab03954d3da6eb54c7432d5fc76115dd19386bd1e160e6626", func := "loop.example/hideandseek/laws.FnLaidOk", spec := "fnLaidOk", unfollowed := true, recurses := true, apart := false, narrowed := true }
def FnLaidOkUptoSaid : Prop := fnLaidOkUptoRow.holds Try.pinned (OpenSpec.upto fnLaidOkSpec)

/-- 'laws.FnDeskOk', WHERE WHAT IT READS IS OF BULK AT MOST 1048576: true; the input reads as it did. -/
def fnDeskOkUptoRow : OpenClaim := { program := "ytlkjpmdnhccdpaa", sum := "74b3fd4295ab827ab03954d3da6eb54c7432d5fc76115dd19386bd1e160e6626", func := "loop.example/hideandseek/laws.FnDeskOk", spec := "fnDeskOk", apart := false, narrowed := true }
def FnDeskOkUptoSaid : Prop := fnDeskOkUptoRow.holds Try.pinned (OpenSpec.upto fnDeskOkSpec)

/-- 'laws.FnDeskNew', WHERE WHAT IT READS IS OF BULK AT MOST 1048576: true; the input reads as it did. -/
def fnDeskNewUptoRow : OpenClaim := { program := "ytlkjpmdnhccdpaa", sum := "74b3fd4295ab827ab03954d3da6eb54c7432d5fc76115dd19386bd1e160e6626", func := "loop.example/hideandseek/laws.FnDeskNew", spec := "fnDeskNew", apart := false, narrowed := true }
def FnDeskNewUptoSaid : Prop := fnDeskNewUptoRow.holds Try.pinned (OpenSpec.upto fnDeskNewSpec)

/-- 'laws.FnExactDeskDo', WHERE WHAT IT READS IS OF BULK AT MOST 1048576: true; the input reads as it did. -/
def fnExactDeskDoUptoRow : OpenClaim := { program := "ytlkjpmdnhccdpaa", sum := "74b3fd4295ab827ab03954d3da6eb54c7432d5fc76115dd19386bd1e160e6626", func := "loop.example/hideandseek/laws.FnExactDeskDo", spec := "fnExactDeskDo", unfollowed := true, recurses := true, apart := false, narrowed := true }
def FnExactDeskDoUptoSaid : Prop := fnExactDeskDoUptoRow.holds Try.pinned (OpenSpec.upto fnExactDeskDoSpec)

end Rows
end Go.Proofs.Ytlkjpmdnhccdpaa
