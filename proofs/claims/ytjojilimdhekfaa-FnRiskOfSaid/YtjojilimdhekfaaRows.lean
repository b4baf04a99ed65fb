/-
  No cell of these rows narrows 'for every input' (looked for: loops, veiled, ifaces, maps, wideKeys, modest, calm, conditions, laid).
  DERIVED. THE GIVEN ROWS OF THIS SEAT. 10 by the template 'for every input the law returns true; each argument reads behind the call as it read before'; 0 by the template 'total and deterministic' (their statements: YtjojilimdhekfaaTotals.lean).
  GIVEN WITH THE SEED: the statements are not yours to turn. If you find one false, say at which input.
  Laid BY PROGRAM, IN A SANDBOX (cutbox-rows.mjs): the forced cells as the released guide's own fill.sh prints them over the translation 8f342a6c4359fea9… (all of the seat's roots in one cut). By AI agents, Wed Nov 11 2026. No macro, syntax, notation, axiom, sorry.
-/
import Derived.Test.YtjojilimdhekfaaChecked
import GoSem.Claim
import GoSem.ClaimJoined
import GoSem.ClaimMapViews
import Derived.JoinedTies
import Derived.KernelRfl
namespace Go.Proofs.Ytjojilimdhekfaa
/- THE CELL 'sum', in the pinned program and in every row, IS THE sha256 OF THE DUMP (.gsa) THAT YtjojilimdhekfaaProg.lean LOADS. Nothing in Lean hashes anything: it is a label: what it is worth is what the hold of that sum in a sandbox is worth. -/
noncomputable def Try.pinned : Pinned := { name := "ytjojilimdhekfaa", sum := "8f342a6c4359fea9d5022dd39fe9760fdac3a2f4c0187441373d0842d4c9be11", checked := Try.checked }
namespace Rows
def none {H : Type} : Left H := { results := [], args := [] }

/-- 'laws.FnAverageOf': WHATEVER THE INPUT: true; the input reads as it did. -/
def fnAverageOfSpec : ChangeSpec := { name := "fnAverageOf", fn := fun _ => fun
  | [d] => { results := [.lit (.bool true)], args := [d] }
  | _ => none }
def fnAverageOfRow : OpenClaim := { program := "ytjojilimdhekfaa", sum := "8f342a6c4359fea9d5022dd39fe9760fdac3a2f4c0187441373d0842d4c9be11", func := "loop.example/hideandseek/laws.FnAverageOf", spec := "fnAverageOf", unfollowed := true, recurses := true, apart := false }
def FnAverageOfSaid : Prop := fnAverageOfRow.holds Try.pinned (OpenSpec.ofChange fnAverageOfSpec)

/-- ITS FALSE NEIGHBOUR: 'it returns false'. Refute it at one input. -/
def fnAverageOfWrong : ChangeSpec := { name := "fnAverageOf", fn := fun _ => fun
  | [d] => { results := [.lit (.bool false)], args := [d] }
  | _ => none }
def FnAverageOfWrongFalsely : Prop := fnAverageOfRow.holds Try.pinned (OpenSpec.ofChange fnAverageOfWrong)

/-- 'laws.FnSafeOf': WHATEVER THE INPUT: true; the input reads as it did. -/
def fnSafeOfSpec : ChangeSpec := { name := "fnSafeOf", fn := fun _ => fun
  | [d] => { results := [.lit (.bool true)], args := [d] }
  | _ => none }
def fnSafeOfRow : OpenClaim := { program := "ytjojilimdhekfaa", sum := "8f342a6c4359fea9d5022dd39fe9760fdac3a2f4c0187441373d0842d4c9be11", func := "loop.example/hideandseek/laws.FnSafeOf", spec := "fnSafeOf", unfollowed := true, recurses := true, apart := false }
def FnSafeOfSaid : Prop := fnSafeOfRow.holds Try.pinned (OpenSpec.ofChange fnSafeOfSpec)

/-- ITS FALSE NEIGHBOUR: 'it returns false'. Refute it at one input. -/
def fnSafeOfWrong : ChangeSpec := { name := "fnSafeOf", fn := fun _ => fun
  | [d] => { results := [.lit (.bool false)], args := [d] }
  | _ => none }
def FnSafeOfWrongFalsely : Prop := fnSafeOfRow.holds Try.pinned (OpenSpec.ofChange fnSafeOfWrong)

/-- 'laws.FnRiskOf': WHATEVER THE INPUT: true; the input reads as it did. -/
def fnRiskOfSpec : ChangeSpec := { name := "fnRiskOf", fn := fun _ => fun
  | [d] => { results := [.lit (.bool true)], args := [d] }
  | _ => none }
def fnRiskOfRow : OpenClaim := { program := "ytjojilimdhekfaa", sum := "8f342a6c4359fea9d5022dd39fe9760fdac3a2f4c0187441373d0842d4c9be11", func := "loop.example/hideandseek/laws.FnRiskOf", spec := "fnRiskOf", unfollowed := true, recurses := true, apart := false }
def FnRiskOfSaid : Prop := fnRiskOfRow.holds Try.pinned (OpenSpec.ofChange fnRiskOfSpec)

/-- ITS FALSE NEIGHBOUR: 'it returns false'. Refute it at one input. -/
def fnRiskOfWrong : ChangeSpec := { name := "fnRiskOf", fn := fun _ => fun
  | [d] => { results := [.lit (.bool false)], args := [d] }
  | _ => none }
def FnRiskOfWrongFalsely : Prop := fnRiskOfRow.holds Try.pinned (OpenSpec.ofChange fnRiskOfWrong)

/-- 'laws.FnSettledOk': WHATEVER THE INPUT: true; the input reads as it did. -/
def fnSettledOkSpec : ChangeSpec := { name := "fnSettledOk", fn := fun _ => fun
  | [d1, d2] => { results := [.lit (.bool true)], args := [d1, d2] }
  | _ => none }
def fnSettledOkRow : OpenClaim := { program := "ytjojilimdhekfaa", sum := "8f342a6c4359fea9d5022dd39fe9760fdac3a2f4c0187441373d0842d4c9be11", func := "loop.example/hideandseek/laws.FnSettledOk", spec := "fnSettledOk", unfollowed := true, recurses := true, apart := false }
def FnSettledOkSaid : Prop := fnSettledOkRow.holds Try.pinned (OpenSpec.ofChange fnSettledOkSpec)

/-- ITS FALSE NEIGHBOUR: 'it returns false'. Refute it at one input. -/
def fnSettledOkWrong : ChangeSpec := { name := "fnSettledOk", fn := fun _ => fun
  | [d1, d2] => { results := [.lit (.bool false)], args := [d1, d2] }
  | _ => none }
def FnSettledOkWrongFalsely : Prop := fnSettledOkRow.holds Try.pinned (OpenSpec.ofChange fnSettledOkWrong)

/-- 'laws.FnBestRows': WHATEVER THE INPUT: true; the input reads as it did. -/
def fnBestRowsSpec : ChangeSpec := { name := "fnBestRows", fn := fun _ => fun
  | [d] => { results := [.lit (.bool true)], args := [d] }
  | _ => none }
def fnBestRowsRow : OpenClaim := { program := "ytjojilimdhekfaa", sum := "8f342a6c4359fea9d5022dd39fe9760fdac3a2f4c0187441373d0842d4c9be11", func := "loop.example/hideandseek/laws.FnBestRows", spec := "fnBestRows", unfollowed := true, recurses := true, apart := false }
def FnBestRowsSaid : Prop := fnBestRowsRow.holds Try.pinned (OpenSpec.ofChange fnBestRowsSpec)

/-- ITS FALSE NEIGHBOUR: 'it returns false'. Refute it at one input. -/
def fnBestRowsWrong : ChangeSpec := { name := "fnBestRows", fn := fun _ => fun
  | [d] => { results := [.lit (.bool false)], args := [d] }
  | _ => none }
def FnBestRowsWrongFalsely : Prop := fnBestRowsRow.holds Try.pinned (OpenSpec.ofChange fnBestRowsWrong)

/-- 'laws.FnExactAverageOf': WHATEVER THE INPUT: true; the input reads as it did. -/
def fnExactAverageOfSpec : ChangeSpec := { name := "fnExactAverageOf", fn := fun _ => fun
  | [d1, d2, d3] => { results := [.lit (.bool true)], args := [d1, d2, d3] }
  | _ => none }
def fnExactAverageOfRow : OpenClaim := { program := "ytjojilimdhekfaa", sum := "8f342a6c4359fea9d5022dd39fe9760fdac3a2f4c0187441373d0842d4c9be11", func := "loop.example/hideandseek/laws.FnExactAverageOf", spec := "fnExactAverageOf", unfollowed := true, recurses := true, apart := false }
def FnExactAverageOfSaid : Prop := fnExactAverageOfRow.holds Try.pinned (OpenSpec.ofChange fnExactAverageOfSpec)

/-- ITS FALSE NEIGHBOUR: 'it returns false'. Refute it at one input. -/
def fnExactAverageOfWrong : ChangeSpec := { name := "fnExactAverageOf", fn := fun _ => fun
  | [d1, d2, d3] => { results := [.lit (.bool false)], args := [d1, d2, d3] }
  | _ => none }
def FnExactAverageOfWrongFalsely : Prop := fnExactAverageOfRow.holds Try.pinned (OpenSpec.ofChange fnExactAverageOfWrong)

/-- 'laws.FnExactSafeOf': WHATEVER THE INPUT: true; the input reads as it did. -/
def fnExactSafeOfSpec : ChangeSpec := { name := "fnExactSafeOf", fn := fun _ => fun
  | [d1, d2] => { results := [.lit (.bool true)], args := [d1, d2] }
  | _ => none }
def fnExactSafeOfRow : OpenClaim := { program := "ytjojilimdhekfaa", sum := "8f342a6c4359fea9d5022dd39fe9760fdac3a2f4c0187441373d0842d4c9be11", func := "loop.example/hideandseek/laws.FnExactSafeOf", spec := "fnExactSafeOf", unfollowed := true, recurses := true, apart := false }
def FnExactSafeOfSaid : Prop := fnExactSafeOfRow.holds Try.pinned (OpenSpec.ofChange fnExactSafeOfSpec)

/-- ITS FALSE NEIGHBOUR: 'it returns false'. Refute it at one input. -/
def fnExactSafeOfWrong : ChangeSpec := { name := "fnExactSafeOf", fn := fun _ => fun
  | [d1, d2] => { results := [.lit (.bool false)], args := [d1, d2] }
  | _ => none }
def FnExactSafeOfWrongFalsely : Prop := fnExactSafeOfRow.holds Try.pinned (OpenSpec.ofChange fnExactSafeOfWrong)

/-- 'laws.FnExactRiskOf': WHATEVER THE INPUT: true; the input reads as it did. -/
def fnExactRiskOfSpec : ChangeSpec := { name := "fnExactRiskOf", fn := fun _ => fun
  | [d1, d2] => { results := [.lit (.bool true)], args := [d1, d2] }
  | _ => none }
def fnExactRiskOfRow : OpenClaim := { program := "ytjojilimdhekfaa", sum := "8f342a6c4359fea9d5022dd39fe9760fdac3a2f4c0187441373d0842d4c9be11", func := "loop.example/hideandseek/laws.FnExactRiskOf", spec := "fnExactRiskOf", unfollowed := true, recurses := true, apart := false }
def FnExactRiskOfSaid : Prop := fnExactRiskOfRow.holds Try.pinned (OpenSpec.ofChange fnExactRiskOfSpec)

/-- ITS FALSE NEIGHBOUR: 'it returns false'. Refute it at one input. -/
def fnExactRiskOfWrong : ChangeSpec := { name := "fnExactRiskOf", fn := fun _ => fun
  | [d1, d2] => { results := [.lit (.bool false)], args := [d1, d2] }
  | _ => none }
def FnExactRiskOfWrongFalsely : Prop := fnExactRiskOfRow.holds Try.pinned (OpenSpec.ofChange fnExactRiskOfWrong)

/-- 'laws.FnExactSettledOk': WHATEVER THE INPUT: true; the input reads as it did. -/
def fnExactSettledOkSpec : ChangeSpec := { name := "fnExactSettledOk", fn := fun _ => fun
  | [d1, d2, d3] => { results := [.lit (.bool true)], args := [d1, d2, d3] }
  | _ => none }
def fnExactSettledOkRow : OpenClaim := { program := "ytjojilimdhekfaa", sum := "8f342a6c4359fea9d5022dd39fe9760fdac3a2f4c0187441373d0842d4c9be11", func := "loop.example/hideandseek/laws.FnExactSettledOk", spec := "fnExactSettledOk", unfollowed := true, recurses := true, apart := false }
def FnExactSettledOkSaid : Prop := fnExactSettledOkRow.holds Try.pinned (OpenSpec.ofChange fnExactSettledOkSpec)

/-- ITS FALSE NEIGHBOUR: 'it returns false'. Refute it at one input. -/
def fnExactSettledOkWrong : ChangeSpec := { name := "fnExactSettledOk", fn := fun _ => fun
  | [d1, d2, d3] => { results := [.lit (.bool false)], args := [d1, d2, d3] }
  | _ => none }
def FnExactSettledOkWrongFalsely : Prop := fnExactSettledOkRow.holds Try.pinned (OpenSpec.ofChange fnExactSettledOkWrong)

/-- 'laws.FnExactBestRows': WHATEVER THE INPUT: true; the input reads as it did. -/
def fnExactBestRowsSpec : ChangeSpec := { name := "fnExactBestRows", fn := fun _ => fun
  | [d1, d2] => { results := [.lit (.bool true)], args := [d1, d2] }
  | _ => none }
def fnExactBestRowsRow : OpenClaim := { program := "ytjojilimdhekfaa", sum := "8f342a6c4359fea9d5022dd39fe9760fdac3a2f4c0187441373d0842d4c9be11", func := "loop.example/hideandseek/laws.FnExactBestRows", spec := "fnExactBestRows", unfollowed := true, recurses := true, apart := false }
def FnExactBestRowsSaid : Prop := fnExactBestRowsRow.holds Try.pinned (OpenSpec.ofChange fnExactBestRowsSpec)

/-- ITS FALSE NEIGHBOUR: 'it returns false'. Refute it at one input. -/
def fnExactBestRowsWrong : ChangeSpec := { name := "fnExactBestRows", fn := fun _ => fun
  | [d1, d2] => { results := [.lit (.bool false)], args := [d1, d2] }
  | _ => none }
def FnExactBestRowsWrongFalsely : Prop := fnExactBestRowsRow.holds Try.pinned (OpenSpec.ofChange fnExactBestRowsWrong)

/- THE SECOND FORM. 'bulk': how many values and letters a reading holds, each counted each time it is reached (what is shared counts as often as it is met; a slice's spare places count too). A statement '..UptoSaid' is the law's where the arguments, and the package variables that the reading takes, are together of bulk at most 1048576: NARROWER than '..Said'. Prove '..Said' where nothing that the law and all that it calls make is longer than what came in: it says more and counts as full. Else prove '..UptoSaid'. A law counts once. -/
mutual
def uptoBulk {H : Type} : DataW H → Nat
  | .lit (.string bytes) => bytes.length + 1
  | .lit _ => 1
  | .nil => 1
  | .ptr d => uptoBulk d + 1
  | .slice elems spare => uptoBulkAll elems + uptoBulkAll spare + 1
  | .agg parts => uptoBulkAll parts + 1
  | .iface _ d => uptoBulk d + 1
  | .map entries => uptoBulkEntries entries + 1
  | .held _ => 1
def uptoBulkAll {H : Type} : List (DataW H) → Nat
  | [] => 0
  | d :: r => uptoBulk d + uptoBulkAll r
def uptoBulkEntries {H : Type} : List (Lit × DataW H) → Nat
  | [] => 0
  | x :: r => uptoBulkEntry x + uptoBulkEntries r
def uptoBulkEntry {H : Type} : Lit × DataW H → Nat
  | (.string bytes, d) => bytes.length + uptoBulk d + 1
  | (_, d) => uptoBulk d + 1
 end
def uptoSmall : (H : Type) → List (DataW H) → Bool := fun _ ds => decide (uptoBulkAll ds ≤ 1048576)
def OpenSpec.upto (s : _root_.Go.ChangeSpec) : _root_.Go.OpenSpec := { _root_.Go.OpenSpec.ofChange s with cond := some uptoSmall }

/-- 'laws.FnAverageOf', WHERE WHAT IT READS IS OF BULK AT MOST 1048576: true; the input reads as it did. -/
def fnAverageOfUptoRow : OpenClaim := { program := "ytjojilimdhekfaa", sum := "8f342a6c4359fea9d5022dd39fe9760fdac3a2f4c0187441373d0842d4c9be11", func := "loop.example/hideandseek/laws.FnAverageOf", spec := "fnAverageOf", unfollowed := true, recurses := true, apart := false, narrowed := true }
def FnAverageOfUptoSaid : Prop := fnAverageOfUptoRow.holds Try.pinned (OpenSpec.upto fnAverageOfSpec)

/-- 'laws.FnSafeOf', WHERE WHAT IT READS IS OF BULK AT MOST 1048576: true; the input reads as it did. -/
def fnSafeOfUptoRow : OpenClaim := { program := "ytjojilimdhekfaa", sum := "8f342a6c4359fea9d5022dd39fe9760fdac3a2f4c0187441373d0842d4c9be11", func := "loop.example/hideandseek/laws.FnSafeOf", spec := "fnSafeOf", unfollowed := true, recurses := true, apart := false, narrowed := true }
def FnSafeOfUptoSaid : Prop := fnSafeOfUptoRow.holds Try.pinned (OpenSpec.upto fnSafeOfSpec)

/-- 'laws.FnRiskOf', WHERE WHAT IT READS IS OF BULK AT MOST 1048576: true; the input reads as it did. -/
def fnRiskOfUptoRow : OpenClaim := { program := "ytjojilimdhekfaa", sum := "8f342a6c4359fea9d5022dd39fe9760fdac3a2f4c0187441373d0842d4c9be11", func := "loop.example/hideandseek/laws.FnRiskOf", spec := "fnRiskOf", unfollowed := true, recurses := true, apart := false, narrowed := true }
def FnRiskOfUptoSaid : Prop := fnRiskOfUptoRow.holds Try.pinned (OpenSpec.upto fnRiskOfSpec)

/-- 'laws.FnSettledOk', WHERE WHAT IT READS IS OF BULK AT MOST 1048576: true; the input reads as it did. -/
def fnSettledOkUptoRow : OpenClaim := { program := "ytjojilimdhekfaa", sum := "8f342a6c4359fea9d5022dd39fe9760fdac3a2f4c0187441373d0842d4c9be11", func := "loop.example/hideandseek/laws.FnSettledOk", spec := "fnSettledOk", unfollowed := true, recurses := true, apart := false, narrowed := true }
def FnSettledOkUptoSaid : Prop := fnSettledOkUptoRow.holds Try.pinned (OpenSpec.upto fnSettledOkSpec)

/-- 'laws.FnBestRows', WHERE WHAT IT READS IS OF BULK AT MOST 1048576: true; the input reads as it did. -/
def fnBestRowsUptoRow : OpenClaim := { program := "ytjojilimdhekfaa", sum := "8f342a6c4359fea9d5022dd39fe9760fdac3a2f4c0187441373d0842d4c9be11", func := "loop.example/hideandseek/laws.FnBestRows", spec := "fnBestRows", unfollowed := true, recurses := true, apart := false, narrowed := true }
def FnBestRowsUptoSaid : Prop := fnBestRowsUptoRow.holds Try.pinned (OpenSpec.upto fnBestRowsSpec)

/-- 'laws.FnExactAverageOf', WHERE WHAT IT READS IS OF BULK AT MOST 1048576: true; the input reads as it did. -/
def fnExactAverageOfUptoRow : OpenClaim := { program := "ytjojilimdhekfaa", sum := "8f342a6c4359fea9d5022dd39fe9760fdac3a2f4c0187441373d0842d4c9be11", func := "loop.example/hideandseek/laws.FnExactAverageOf", spec := "fnExactAverageOf", unfollowed := true, recurses := true, apart := false, narrowed := true }
def FnExactAverageOfUptoSaid : Prop := fnExactAverageOfUptoRow.holds Try.pinned (OpenSpec.upto fnExactAverageOfSpec)

/-- 'laws.FnExactSafeOf', WHERE WHAT IT READS IS OF BULK AT MOST 1048576: true; the input reads as it did. -/
def fnExactSafeOfUptoRow : OpenClaim := { program := "ytjojilimdhekfaa", sum := "8f342a6c4359fea9d5022dd39fe9760fdac3a2f4c0187441373d0842d4c9be11", func := "loop.example/hideandseek/laws.FnExactSafeOf", spec := "fnExactSafeOf", unfollowed := true, recurses := true, apart := false, narrowed := true }
def FnExactSafeOfUptoSaid : Prop := fnExactSafeOfUptoRow.holds Try.pinned (OpenSpec.upto fnExactSafeOfSpec)

/-- 'laws.FnExactRiskOf', WHERE WHAT IT READS IS OF BULK AT MOST 1048576: true; the input reads as it did. -/
def fnExactRiskOfUptoRow : OpenClaim := { program := "ytjojilimdhekfaa", sum := "8f342a6c4359fea9d5022dd39fe9760fdac3a2f4c0187441373d0842d4c9be11", func := "loop.example/hideandseek/laws.FnExactRiskOf", spec := "fnExactRiskOf", unfollowed := true, recurses := true, apart := false, narrowed := true }
def FnExactRiskOfUptoSaid : Prop := fnExactRiskOfUptoRow.holds Try.pinned (OpenSpec.upto fnExactRiskOfSpec)

/-- 'laws.FnExactSettledOk', WHERE WHAT IT READS IS OF BULK AT MOST 1048576: true; the input reads as it did. -/
def fnExactSettledOkUptoRow : OpenClaim := { program := "ytjojilimdhekfaa", sum := "8f342a6c4359fea9d5022dd39fe9760fdac3a2f4c0187441373d0842d4c9be11", func := "loop.example/hideandseek/laws.FnExactSettledOk", spec := "fnExactSettledOk", unfollowed := true, recurses := true, apart := false, narrowed := true }
def FnExactSettledOkUptoSaid : Prop := fnExactSettledOkUptoRow.holds Try.pinned (OpenSpec.upto fnExactSettledOkSpec)

/-- 'laws.FnExactBestRows', WHERE WHAT IT READS IS OF BULK AT MOST 1048576: true; the input reads as it did. -/
def fnExactBestRowsUptoRow : OpenClaim := { program := "ytjojilimdhekfaa", sum := "8f342a6c4359fea9d5022dd39fe9760fdac3a2f4c0187441373d0842d4c9be11", func := "loop.example/hideandseek/laws.FnExactBestRows", spec := "fnExactBestRows", unfollowed := true, recurses := true, apart := false, narrowed := true }
def FnExactBestRowsUptoSaid : Prop := fnExactBestRowsUptoRow.holds Try.pinned (OpenSpec.upto fnExactBestRowsSpec)

end Rows
end Go.Proofs.Ytjojilimdhekfaa
