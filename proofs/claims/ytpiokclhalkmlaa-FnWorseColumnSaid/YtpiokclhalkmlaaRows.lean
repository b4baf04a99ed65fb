/-
  No cell of these rows narrows 'for every input' (looked for: loops, veiled, ifaces, maps, wideKeys, modest, calm, conditions, laid).
  DERIVED. THE GIVEN ROWS OF THIS SEAT. 10 by the template 'for every input the law returns true; each argument reads behind the call as it read before'; 0 by the template 'total and deterministic' (their statements: YtpiokclhalkmlaaTotals.lean).
  GIVEN WITH THE SEED: the statements are not yours to turn. If you find one false, say at which input.
  Laid BY PROGRAM, IN A SANDBOX (cutbox-rows.mjs): the forced cells as the released guide's own fill.sh prints them over the translation 50b9b24afb1af31d… (all of the seat's roots in one cut). By AI agents, Wed Nov 11 2026. No macro, syntax, notation, axiom, sorry.
-/
import Derived.Test.YtpiokclhalkmlaaChecked
import GoSem.Claim
import GoSem.ClaimJoined
import GoSem.ClaimMapViews
import Derived.JoinedTies
import Derived.KernelRfl
namespace Go.Proofs.Ytpiokclhalkmlaa
/- THE CELL 'sum', in the pinned program and in every row, IS THE sha256 OF THE DUMP (.gsa) THAT YtpiokclhalkmlaaProg.lean LOADS. Nothing in Lean hashes anything: it is a label: what it is worth is what the hold of that sum in a sandbox is worth. -/
noncomputable def Try.pinned : Pinned := { name := "ytpiokclhalkmlaa", sum := "50b9b24afb1af31ddc73cca021e6176230c3d4e32f7397c5c8fd11a044a2bf8b", checked := Try.checked }
namespace Rows
def none {H : Type} : Left H := { results := [], args := [] }

/-- 'laws.FnWorseRow': WHATEVER THE INPUT: true; the input reads as it did. -/
def fnWorseRowSpec : ChangeSpec := { name := "fnWorseRow", fn := fun _ => fun
  | [d] => { results := [.lit (.bool true)], args := [d] }
  | _ => none }
def fnWorseRowRow : OpenClaim := { program := "ytpiokclhalkmlaa", sum := "50b9b24afb1af31ddc73cca021e6176230c3d4e32f7397c5c8fd11a044a2bf8b", func := "loop.example/hideandseek/laws.FnWorseRow", spec := "fnWorseRow", unfollowed := true, recurses := true, apart := false }
def FnWorseRowSaid : Prop := fnWorseRowRow.holds Try.pinned (OpenSpec.ofChange fnWorseRowSpec)

/-- ITS FALSE NEIGHBOUR: 'it returns false'. Refute it at one input. -/
def fnWorseRowWrong : ChangeSpec := { name := "fnWorseRow", fn := fun _ => fun
  | [d] => { results := [.lit (.bool false)], args := [d] }
  | _ => none }
def FnWorseRowWrongFalsely : Prop := fnWorseRowRow.holds Try.pinned (OpenSpec.ofChange fnWorseRowWrong)

/-- 'laws.FnWorseColumn': WHATEVER THE INPUT: true; the input reads as it did. -/
def fnWorseColumnSpec : ChangeSpec := { name := "fnWorseColumn", fn := fun _ => fun
  | [d] => { results := [.lit (.bool true)], args := [d] }
  | _ => none }
def fnWorseColumnRow : OpenClaim := { program := "ytpiokclhalkmlaa", sum := "50b9b24afb1af31ddc73cca021e6176230c3d4e32f7397c5c8fd11a044a2bf8b", func := "loop.example/hideandseek/laws.FnWorseColumn", spec := "fnWorseColumn", unfollowed := true, recurses := true, apart := false }
def FnWorseColumnSaid : Prop := fnWorseColumnRow.holds Try.pinned (OpenSpec.ofChange fnWorseColumnSpec)

/-- ITS FALSE NEIGHBOUR: 'it returns false'. Refute it at one input. -/
def fnWorseColumnWrong : ChangeSpec := { name := "fnWorseColumn", fn := fun _ => fun
  | [d] => { results := [.lit (.bool false)], args := [d] }
  | _ => none }
def FnWorseColumnWrongFalsely : Prop := fnWorseColumnRow.holds Try.pinned (OpenSpec.ofChange fnWorseColumnWrong)

/-- 'laws.FnWithoutRow': WHATEVER THE INPUT: true; the input reads as it did. -/
def fnWithoutRowSpec : ChangeSpec := { name := "fnWithoutRow", fn := fun _ => fun
  | [d] => { results := [.lit (.bool true)], args := [d] }
  | _ => none }
def fnWithoutRowRow : OpenClaim := { program := "ytpiokclhalkmlaa", sum := "50b9b24afb1af31ddc73cca021e6176230c3d4e32f7397c5c8fd11a044a2bf8b", func := "loop.example/hideandseek/laws.FnWithoutRow", spec := "fnWithoutRow", unfollowed := true, recurses := true, apart := false }
def FnWithoutRowSaid : Prop := fnWithoutRowRow.holds Try.pinned (OpenSpec.ofChange fnWithoutRowSpec)

/-- ITS FALSE NEIGHBOUR: 'it returns false'. Refute it at one input. -/
def fnWithoutRowWrong : ChangeSpec := { name := "fnWithoutRow", fn := fun _ => fun
  | [d] => { results := [.lit (.bool false)], args := [d] }
  | _ => none }
def FnWithoutRowWrongFalsely : Prop := fnWithoutRowRow.holds Try.pinned (OpenSpec.ofChange fnWithoutRowWrong)

/-- 'laws.FnWithoutColumn': WHATEVER THE INPUT: true; the input reads as it did. -/
def fnWithoutColumnSpec : ChangeSpec := { name := "fnWithoutColumn", fn := fun _ => fun
  | [d] => { results := [.lit (.bool true)], args := [d] }
  | _ => none }
def fnWithoutColumnRow : OpenClaim := { program := "ytpiokclhalkmlaa", sum := "50b9b24afb1af31ddc73cca021e6176230c3d4e32f7397c5c8fd11a044a2bf8b", func := "loop.example/hideandseek/laws.FnWithoutColumn", spec := "fnWithoutColumn", unfollowed := true, recurses := true, apart := false }
def FnWithoutColumnSaid : Prop := fnWithoutColumnRow.holds Try.pinned (OpenSpec.ofChange fnWithoutColumnSpec)

/-- ITS FALSE NEIGHBOUR: 'it returns false'. Refute it at one input. -/
def fnWithoutColumnWrong : ChangeSpec := { name := "fnWithoutColumn", fn := fun _ => fun
  | [d] => { results := [.lit (.bool false)], args := [d] }
  | _ => none }
def FnWithoutColumnWrongFalsely : Prop := fnWithoutColumnRow.holds Try.pinned (OpenSpec.ofChange fnWithoutColumnWrong)

/-- 'laws.FnSmallerOf': WHATEVER THE INPUT: true; the input reads as it did. -/
def fnSmallerOfSpec : ChangeSpec := { name := "fnSmallerOf", fn := fun _ => fun
  | [d] => { results := [.lit (.bool true)], args := [d] }
  | _ => none }
def fnSmallerOfRow : OpenClaim := { program := "ytpiokclhalkmlaa", sum := "50b9b24afb1af31ddc73cca021e6176230c3d4e32f7397c5c8fd11a044a2bf8b", func := "loop.example/hideandseek/laws.FnSmallerOf", spec := "fnSmallerOf", unfollowed := true, recurses := true, apart := false }
def FnSmallerOfSaid : Prop := fnSmallerOfRow.holds Try.pinned (OpenSpec.ofChange fnSmallerOfSpec)

/-- ITS FALSE NEIGHBOUR: 'it returns false'. Refute it at one input. -/
def fnSmallerOfWrong : ChangeSpec := { name := "fnSmallerOf", fn := fun _ => fun
  | [d] => { results := [.lit (.bool false)], args := [d] }
  | _ => none }
def FnSmallerOfWrongFalsely : Prop := fnSmallerOfRow.holds Try.pinned (OpenSpec.ofChange fnSmallerOfWrong)

/-- 'laws.FnExactWorseRow': WHATEVER THE INPUT: true; the input reads as it did. -/
def fnExactWorseRowSpec : ChangeSpec := { name := "fnExactWorseRow", fn := fun _ => fun
  | [d1, d2, d3] => { results := [.lit (.bool true)], args := [d1, d2, d3] }
  | _ => none }
def fnExactWorseRowRow : OpenClaim := { program := "ytpiokclhalkmlaa", sum := "50b9b24afb1af31ddc73cca021e6176230c3d4e32f7397c5c8fd11a044a2bf8b", func := "loop.example/hideandseek/laws.FnExactWorseRow", spec := "fnExactWorseRow", unfollowed := true, recurses := true, apart := false }
def FnExactWorseRowSaid : Prop := fnExactWorseRowRow.holds Try.pinned (OpenSpec.ofChange fnExactWorseRowSpec)

/-- ITS FALSE NEIGHBOUR: 'it returns false'. Refute it at one input. -/
def fnExactWorseRowWrong : ChangeSpec := { name := "fnExactWorseRow", fn := fun _ => fun
  | [d1, d2, d3] => { results := [.lit (.bool false)], args := [d1, d2, d3] }
  | _ => none }
def FnExactWorseRowWrongFalsely : Prop := fnExactWorseRowRow.holds Try.pinned (OpenSpec.ofChange fnExactWorseRowWrong)

/-- 'laws.FnExactWorseColumn': WHATEVER THE INPUT: true; the input reads as it did. -/
def fnExactWorseColumnSpec : ChangeSpec := { name := "fnExactWorseColumn", fn := fun _ => fun
  | [d1, d2, d3] => { results := [.lit (.bool true)], args := [d1, d2, d3] }
  | _ => none }
def fnExactWorseColumnRow : OpenClaim := { program := "ytpiokclhalkmlaa", sum := "50b9b24afb1af31ddc73cca021e6176230c3d4e32f7397c5c8fd11a044a2bf8b", func := "loop.example/hideandseek/laws.FnExactWorseColumn", spec := "fnExactWorseColumn", unfollowed := true, recurses := true, apart := false }
def FnExactWorseColumnSaid : Prop := fnExactWorseColumnRow.holds Try.pinned (OpenSpec.ofChange fnExactWorseColumnSpec)

/-- ITS FALSE NEIGHBOUR: 'it returns false'. Refute it at one input. -/
def fnExactWorseColumnWrong : ChangeSpec := { name := "fnExactWorseColumn", fn := fun _ => fun
  | [d1, d2, d3] => { results := [.lit (.bool false)], args := [d1, d2, d3] }
  | _ => none }
def FnExactWorseColumnWrongFalsely : Prop := fnExactWorseColumnRow.holds Try.pinned (OpenSpec.ofChange fnExactWorseColumnWrong)

/-- 'laws.FnExactWithoutRow': WHATEVER THE INPUT: true; the input reads as it did. -/
def fnExactWithoutRowSpec : ChangeSpec := { name := "fnExactWithoutRow", fn := fun _ => fun
  | [d1, d2] => { results := [.lit (.bool true)], args := [d1, d2] }
  | _ => none }
def fnExactWithoutRowRow : OpenClaim := { program := "ytpiokclhalkmlaa", sum := "50b9b24afb1af31ddc73cca021e6176230c3d4e32f7397c5c8fd11a044a2bf8b", func := "loop.example/hideandseek/laws.FnExactWithoutRow", spec := "fnExactWithoutRow", apart := false }
def FnExactWithoutRowSaid : Prop := fnExactWithoutRowRow.holds Try.pinned (OpenSpec.ofChange fnExactWithoutRowSpec)

/-- ITS FALSE NEIGHBOUR: 'it returns false'. Refute it at one input. -/
def fnExactWithoutRowWrong : ChangeSpec := { name := "fnExactWithoutRow", fn := fun _ => fun
  | [d1, d2] => { results := [.lit (.bool false)], args := [d1, d2] }
  | _ => none }
def FnExactWithoutRowWrongFalsely : Prop := fnExactWithoutRowRow.holds Try.pinned (OpenSpec.ofChange fnExactWithoutRowWrong)

/-- 'laws.FnExactWithoutColumn': WHATEVER THE INPUT: true; the input reads as it did. -/
def fnExactWithoutColumnSpec : ChangeSpec := { name := "fnExactWithoutColumn", fn := fun _ => fun
  | [d1, d2] => { results := [.lit (.bool true)], args := [d1, d2] }
  | _ => none }
def fnExactWithoutColumnRow : OpenClaim := { program := "ytpiokclhalkmlaa", sum := "50b9b24afb1af31ddc73cca021e6176230c3d4e32f7397c5c8fd11a044a2bf8b", func := "loop.example/hideandseek/laws.FnExactWithoutColumn", spec := "fnExactWithoutColumn", apart := false }
def FnExactWithoutColumnSaid : Prop := fnExactWithoutColumnRow.holds Try.pinned (OpenSpec.ofChange fnExactWithoutColumnSpec)

/-- ITS FALSE NEIGHBOUR: 'it returns false'. Refute it at one input. -/
def fnExactWithoutColumnWrong : ChangeSpec := { name := "fnExactWithoutColumn", fn := fun _ => fun
  | [d1, d2] => { results := [.lit (.bool false)], args := [d1, d2] }
  | _ => none }
def FnExactWithoutColumnWrongFalsely : Prop := fnExactWithoutColumnRow.holds Try.pinned (OpenSpec.ofChange fnExactWithoutColumnWrong)

/-- 'laws.FnExactSmallerOf': WHATEVER THE INPUT: true; the input reads as it did. -/
def fnExactSmallerOfSpec : ChangeSpec := { name := "fnExactSmallerOf", fn := fun _ => fun
  | [d] => { results := [.lit (.bool true)], args := [d] }
  | _ => none }
def fnExactSmallerOfRow : OpenClaim := { program := "ytpiokclhalkmlaa", sum := "50b9b24afb1af31ddc73cca021e6176230c3d4e32f7397c5c8fd11a044a2bf8b", func := "loop.example/hideandseek/laws.FnExactSmallerOf", spec := "fnExactSmallerOf", unfollowed := true, recurses := true, apart := false }
def FnExactSmallerOfSaid : Prop := fnExactSmallerOfRow.holds Try.pinned (OpenSpec.ofChange fnExactSmallerOfSpec)

/-- ITS FALSE NEIGHBOUR: 'it returns false'. Refute it at one input. -/
def fnExactSmallerOfWrong : ChangeSpec := { name := "fnExactSmallerOf", fn := fun _ => fun
  | [d] => { results := [.lit (.bool false)], args := [d] }
  | _ => none }
def FnExactSmallerOfWrongFalsely : Prop := fnExactSmallerOfRow.holds Try.pinned (OpenSpec.ofChange fnExactSmallerOfWrong)

/- THE SECOND FORM. 'bulk': how many values and letters a reading holds, each counted each time it is reached (what is shared counts as often as it is met; a slice's spare places count too). A statement '..UptoSaid' is the law's where the arguments, and the package variables that the reading takes, are together of bulk at most 1048576: NARROWER than '..Said'. Prove '..Said' where nothing that the law and all that it calls make is longer than what came in: it says more and counts as full. Else prove '..UptoSaid'. A law counts once. -/
mutual
def uptoBulk {H : Type} : DataW H → Nat
  | .lit (.string bytes) => bytes.length + 1
  | .lit _ => 1
  | .nil => 1
  | .ptr d => uptoBulk d + 1
  | .slice elems spare => uptoBulkAll elems + uptoBulkAll spare + 1
  | .agg parts => uptoBulkAll parts + 1
  | .iface _ d => uptoBulk d + 1
  | .map entries => uptoBulkEntries entries + 1
  | .held _ => 1
def uptoBulkAll {H : Type} : List (DataW H) → Nat
  | [] => 0
  | d :: r => uptoBulk d + uptoBulkAll r
def uptoBulkEntries {H : Type} : List (Lit × DataW H) → Nat
  | [] => 0
  | x :: r => uptoBulkEntry x + uptoBulkEntries r
def uptoBulkEntry {H : Type} : Lit × DataW H → Nat
  | (.string bytes, d) => bytes.length + uptoBulk d + 1
  | (_, d) => uptoBulk d + 1
 end
def uptoSmall : (H : Type) → List (DataW H) → Bool := fun _ ds => decide (uptoBulkAll ds ≤ 1048576)
def OpenSpec.upto (s : _root_.Go.ChangeSpec) : _root_.Go.OpenSpec := { _root_.Go.OpenSpec.ofChange s with cond := some uptoSmall }

/-- 'laws.FnWorseRow', WHERE WHAT IT READS IS OF BULK AT MOST 1048576: true; the input reads as it did. -/
def fnWorseRowUptoRow : OpenClaim := { program := "ytpiokclhalkmlaa", sum := "50b9b24afb1af31ddc73cca021e6176230c3d4e32f7397c5c8fd11a044a2bf8b", func := "loop.example/hideandseek/laws.FnWorseRow", spec := "fnWorseRow", unfollowed := true, recurses := true, apart := false, narrowed := true }
def FnWorseRowUptoSaid : Prop := fnWorseRowUptoRow.holds Try.pinned (OpenSpec.upto fnWorseRowSpec)

/-- 'laws.FnWorseColumn', WHERE WHAT IT READS IS OF BULK AT MOST 1048576: true; the input reads as it did. -/
def fnWorseColumnUptoRow : OpenClaim := { program := "ytpiokclhalkmlaa", sum := "50b9b24afb1af31ddc73cca021e6176230c3d4e32f7397c5c8fd11a044a2bf8b", func := "loop.example/hideandseek/laws.FnWorseColumn", spec := "fnWorseColumn", unfollowed := true, recurses := true, apart := false, narrowed := true }
def FnWorseColumnUptoSaid : Prop := fnWorseColumnUptoRow.holds Try.pinned (OpenSpec.upto fnWorseColumnSpec)

/-- 'laws.FnWithoutRow', WHERE WHAT IT READS IS OF BULK AT MOST 1048576: true; the input reads as it did. -/
def fnWithoutRowUptoRow : OpenClaim := { program := "ytpiokclhalkmlaa", sum := "50b9b24afb1af31ddc73cca021e6176230c3d4e32f7397c5c8fd11a044a2bf8b", func := "loop.example/hideandseek/laws.FnWithoutRow", spec := "fnWithoutRow", unfollowed := true, recurses := true, apart := false, narrowed := true }
def FnWithoutRowUptoSaid : Prop := fnWithoutRowUptoRow.holds Try.pinned (OpenSpec.upto fnWithoutRowSpec)

/-- 'laws.FnWithoutColumn', WHERE WHAT IT READS IS OF BULK AT MOST 1048576: true; the input reads as it did. -/
def fnWithoutColumnUptoRow : OpenClaim := { program := "ytpiokclhalkmlaa", sum := "50b9b24afb1af31ddc73cca021e6176230c3d4e32f7397c5c8fd11a044a2bf8b", func := "loop.example/hideandseek/laws.FnWithoutColumn", spec := "fnWithoutColumn", unfollowed := true, recurses := true, apart := false, narrowed := true }
def FnWithoutColumnUptoSaid : Prop := fnWithoutColumnUptoRow.holds Try.pinned (OpenSpec.upto fnWithoutColumnSpec)

/-- 'laws.FnSmallerOf', WHERE WHAT IT READS IS OF BULK AT MOST 1048576: true; the input reads as it did. -/
def fnSmallerOfUptoRow : OpenClaim := { program := "ytpiokclhalkmlaa", sum := "50b9b24afb1af31ddc73cca021e6176230c3d4e32f7397c5c8fd11a044a2bf8b", func := "loop.example/hideandseek/laws.FnSmallerOf", spec := "fnSmallerOf", unfollowed := true, recurses := true, apart := false, narrowed := true }
def FnSmallerOfUptoSaid : Prop := fnSmallerOfUptoRow.holds Try.pinned (OpenSpec.upto fnSmallerOfSpec)

/-- 'laws.FnExactWorseRow', WHERE WHAT IT READS IS OF BULK AT MOST 1048576: true; the input reads as it did. -/
def fnExactWorseRowUptoRow : OpenClaim := { program := "ytpiokclhalkmlaa", sum := "50b9b24afb1af31ddc73cca021e6176230c3d4e32f7397c5c8fd11a044a2bf8b", func := "loop.example/hideandseek/laws.FnExactWorseRow", spec := "fnExactWorseRow", unfollowed := true, recurses := true, apart := false, narrowed := true }
def FnExactWorseRowUptoSaid : Prop := fnExactWorseRowUptoRow.holds Try.pinned (OpenSpec.upto fnExactWorseRowSpec)

/-- 'laws.FnExactWorseColumn', WHERE WHAT IT READS IS OF BULK AT MOST 1048576: true; the input reads as it did. -/
def fnExactWorseColumnUptoRow : OpenClaim := { program := "ytpiokclhalkmlaa", sum := "50b9b24afb1af31ddc73cca021e6176230c3d4e32f7397c5c8fd11a044a2bf8b", func := "loop.example/hideandseek/laws.FnExactWorseColumn", spec := "fnExactWorseColumn", unfollowed := true, recurses := true, apart := false, narrowed := true }
def FnExactWorseColumnUptoSaid : Prop := fnExactWorseColumnUptoRow.holds Try.pinned (OpenSpec.upto fnExactWorseColumnSpec)

/-- 'laws.FnExactWithoutRow', WHERE WHAT IT READS IS OF BULK AT MOST 1048576: true; the input reads as it did. -/
def fnExactWithoutRowUptoRow : OpenClaim := { program := "ytpiokclhalkmlaa", sum := "50b9b24afb1af31ddc73cca021e6176230c3d4e32f7397c5c8fd11a044a2bf8b", func := "loop.example/hideandseek/laws.FnExactWithoutRow", spec := "fnExactWithoutRow", apart := false, narrowed := true }
def FnExactWithoutRowUptoSaid : Prop := fnExactWithoutRowUptoRow.holds Try.pinned (OpenSpec.upto fnExactWithoutRowSpec)

/-- 'laws.FnExactWithoutColumn', WHERE WHAT IT READS IS OF BULK AT MOST 1048576: true; the input reads as it did. -/
def fnExactWithoutColumnUptoRow : OpenClaim := { program := "ytpiokclhalkmlaa", sum := "50b9b24afb1af31ddc73cca021e6176230c3d4e32f7397c5c8fd11a044a2bf8b", func := "loop.example/hideandseek/laws.FnExactWithoutColumn", spec := "fnExactWithoutColumn", apart := false, narrowed := true }
def FnExactWithoutColumnUptoSaid : Prop := fnExactWithoutColumnUptoRow.holds Try.pinned (OpenSpec.upto fnExactWithoutColumnSpec)

/-- 'laws.FnExactSmallerOf', WHERE WHAT IT READS IS OF BULK AT MOST 1048576: true; the input reads as it did. -/
def fnExactSmallerOfUptoRow : OpenClaim := { program := "ytpiokclhalkmlaa", sum := "50b9b24afb1af31ddc73cca021e6176230c3d4e32f7397c5c8fd11a044a2bf8b", func := "loop.example/hideandseek/laws.FnExactSmallerOf", spec := "fnExactSmallerOf", unfollowed := true, recurses := true, apart := false, narrowed := true }
def FnExactSmallerOfUptoSaid : Prop := fnExactSmallerOfUptoRow.holds Try.pinned (OpenSpec.upto fnExactSmallerOfSpec)

end Rows
end Go.Proofs.Ytpiokclhalkmlaa
