/-
  No cell of these rows narrows 'for every input' (looked for: loops, veiled, ifaces, maps, wideKeys, modest, calm, conditions, laid).
  DERIVED. THE GIVEN ROWS OF THIS SEAT. 10 by the template 'for every input the law returns true; each argument reads behind the call as it read before'; 0 by the template 'total and deterministic' (their statements: YtjmmkbhdldeciaaTotals.lean).
  GIVEN WITH THE SEED: the statements are not yours to turn. If you find one false, say at which input.
  Laid BY PROGRAM, IN A SANDBOX (cutbox-rows.mjs): the forced cells as the released guide's own fill.sh prints them over the translation 40d1f164c3bb5a33… (all of the seat's roots in one cut). By AI agents, Wed Nov 11 2026. No macro, syntax, notation, axiom, sorry.
-/
import Derived.Test.YtjmmkbhdldeciaaChecked
import GoSem.Claim
import GoSem.ClaimJoined
import GoSem.ClaimMapViews
import Derived.JoinedTies
import Derived.KernelRfl
namespace Go.Proofs.Ytjmmkbhdldeciaa
/- THE CELL 'sum', in the pinned program and in every row, IS THE sha256 OF THE DUMP (.gsa) THAT YtjmmkbhdldeciaaProg.lean LOADS. Nothing in Lean hashes anything: it is a label: what it is worth is what the hold of that sum in a sandbox is worth. -/
noncomputable def Try.pinned : Pinned := { name := "ytjmmkbhdldeciaa", sum := "40d1f164c3bb5a3333898c4a04aaae1bfc9b51f2ec038bbd6cf7413ef64436ec", checked := Try.checked }
namespace Rows
def none {H : Type} : Left H := { results := [], args := [] }

/-- 'laws.FnBoxesOk': WHATEVER THE INPUT: true; the input reads as it did. -/
def fnBoxesOkSpec : ChangeSpec := { name := "fnBoxesOk", fn := fun _ => fun
  | [d] => { results := [.lit (.bool true)], args := [d] }
  | _ => none }
def fnBoxesOkRow : OpenClaim := { program := "ytjmmkbhdldeciaa", sum := "40d1f164c3bb5a3333898c4a04aaae1bfc9b51f2ec038bbd6cf7413ef64436ec", func := "loop.example/hideandseek/laws.FnBoxesOk", spec := "fnBoxesOk", apart := false }
def FnBoxesOkSaid : Prop := fnBoxesOkRow.holds Try.pinned (OpenSpec.ofChange fnBoxesOkSpec)

/-- ITS FALSE NEIGHBOUR: 'it returns false'. Refute it at one input. -/
def fnBoxesOkWrong : ChangeSpec := { name := "fnBoxesOk", fn := fun _ => fun
  | [d] => { results := [.lit (.bool false)], args := [d] }
  | _ => none }
def FnBoxesOkWrongFalsely : Prop := fnBoxesOkRow.holds Try.pinned (OpenSpec.ofChange fnBoxesOkWrong)

/-- 'laws.FnBoxGame': WHATEVER THE INPUT: true; the input reads as it did. -/
def fnBoxGameSpec : ChangeSpec := { name := "fnBoxGame", fn := fun _ => fun
  | [d] => { results := [.lit (.bool true)], args := [d] }
  | _ => none }
def fnBoxGameRow : OpenClaim := { program := "ytjmmkbhdldeciaa", sum := "40d1f164c3bb5a3333898c4a04aaae1bfc9b51f2ec038bbd6cf7413ef64436ec", func := "loop.example/hideandseek/laws.FnBoxGame", spec := "fnBoxGame", unfollowed := true, recurses := true, apart := false }
def FnBoxGameSaid : Prop := fnBoxGameRow.holds Try.pinned (OpenSpec.ofChange fnBoxGameSpec)

/-- ITS FALSE NEIGHBOUR: 'it returns false'. Refute it at one input. -/
def fnBoxGameWrong : ChangeSpec := { name := "fnBoxGame", fn := fun _ => fun
  | [d] => { results := [.lit (.bool false)], args := [d] }
  | _ => none }
def FnBoxGameWrongFalsely : Prop := fnBoxGameRow.holds Try.pinned (OpenSpec.ofChange fnBoxGameWrong)

/-- 'laws.FnBoxWorth': WHATEVER THE INPUT: true; the input reads as it did. -/
def fnBoxWorthSpec : ChangeSpec := { name := "fnBoxWorth", fn := fun _ => fun
  | [d] => { results := [.lit (.bool true)], args := [d] }
  | _ => none }
def fnBoxWorthRow : OpenClaim := { program := "ytjmmkbhdldeciaa", sum := "40d1f164c3bb5a3333898c4a04aaae1bfc9b51f2ec038bbd6cf7413ef64436ec", func := "loop.example/hideandseek/laws.FnBoxWorth", spec := "fnBoxWorth", unfollowed := true, recurses := true, apart := false }
def FnBoxWorthSaid : Prop := fnBoxWorthRow.holds Try.pinned (OpenSpec.ofChange fnBoxWorthSpec)

/-- ITS FALSE NEIGHBOUR: 'it returns false'. Refute it at one input. -/
def fnBoxWorthWrong : ChangeSpec := { name := "fnBoxWorth", fn := fun _ => fun
  | [d] => { results := [.lit (.bool false)], args := [d] }
  | _ => none }
def FnBoxWorthWrongFalsely : Prop := fnBoxWorthRow.holds Try.pinned (OpenSpec.ofChange fnBoxWorthWrong)

/-- 'laws.FnBoxWeights': WHATEVER THE INPUT: true; the input reads as it did. -/
def fnBoxWeightsSpec : ChangeSpec := { name := "fnBoxWeights", fn := fun _ => fun
  | [d] => { results := [.lit (.bool true)], args := [d] }
  | _ => none }
def fnBoxWeightsRow : OpenClaim := { program := "ytjmmkbhdldeciaa", sum := "40d1f164c3bb5a3333898c4a04aaae1bfc9b51f2ec038bbd6cf7413ef64436ec", func := "loop.example/hideandseek/laws.FnBoxWeights", spec := "fnBoxWeights", unfollowed := true, recurses := true, apart := false }
def FnBoxWeightsSaid : Prop := fnBoxWeightsRow.holds Try.pinned (OpenSpec.ofChange fnBoxWeightsSpec)

/-- ITS FALSE NEIGHBOUR: 'it returns false'. Refute it at one input. -/
def fnBoxWeightsWrong : ChangeSpec := { name := "fnBoxWeights", fn := fun _ => fun
  | [d] => { results := [.lit (.bool false)], args := [d] }
  | _ => none }
def FnBoxWeightsWrongFalsely : Prop := fnBoxWeightsRow.holds Try.pinned (OpenSpec.ofChange fnBoxWeightsWrong)

/-- 'laws.FnWithBox': WHATEVER THE INPUT: true; the input reads as it did. -/
def fnWithBoxSpec : ChangeSpec := { name := "fnWithBox", fn := fun _ => fun
  | [d] => { results := [.lit (.bool true)], args := [d] }
  | _ => none }
def fnWithBoxRow : OpenClaim := { program := "ytjmmkbhdldeciaa", sum := "40d1f164c3bb5a3333898c4a04aaae1bfc9b51f2ec038bbd6cf7413ef64436ec", func := "loop.example/hideandseek/laws.FnWithBox", spec := "fnWithBox", unfollowed := true, recurses := true, apart := false }
def FnWithBoxSaid : Prop := fnWithBoxRow.holds Try.pinned (OpenSpec.ofChange fnWithBoxSpec)

/-- ITS FALSE NEIGHBOUR: 'it returns false'. Refute it at one input. -/
def fnWithBoxWrong : ChangeSpec := { name := "fnWithBox", fn := fun _ => fun
  | [d] => { results := [.lit (.bool false)], args := [d] }
  | _ => none }
def FnWithBoxWrongFalsely : Prop := fnWithBoxRow.holds Try.pinned (OpenSpec.ofChange fnWithBoxWrong)

/-- 'laws.FnExactBoxesOk': WHATEVER THE INPUT: true; the input reads as it did. -/
def fnExactBoxesOkSpec : ChangeSpec := { name := "fnExactBoxesOk", fn := fun _ => fun
  | [d] => { results := [.lit (.bool true)], args := [d] }
  | _ => none }
def fnExactBoxesOkRow : OpenClaim := { program := "ytjmmkbhdldeciaa", sum := "40d1f164c3bb5a3333898c4a04aaae1bfc9b51f2ec038bbd6cf7413ef64436ec", func := "loop.example/hideandseek/laws.FnExactBoxesOk", spec := "fnExactBoxesOk", apart := false }
def FnExactBoxesOkSaid : Prop := fnExactBoxesOkRow.holds Try.pinned (OpenSpec.ofChange fnExactBoxesOkSpec)

/-- ITS FALSE NEIGHBOUR: 'it returns false'. Refute it at one input. -/
def fnExactBoxesOkWrong : ChangeSpec := { name := "fnExactBoxesOk", fn := fun _ => fun
  | [d] => { results := [.lit (.bool false)], args := [d] }
  | _ => none }
def FnExactBoxesOkWrongFalsely : Prop := fnExactBoxesOkRow.holds Try.pinned (OpenSpec.ofChange fnExactBoxesOkWrong)

/-- 'laws.FnExactBoxGame': WHATEVER THE INPUT: true; the input reads as it did. -/
def fnExactBoxGameSpec : ChangeSpec := { name := "fnExactBoxGame", fn := fun _ => fun
  | [d] => { results := [.lit (.bool true)], args := [d] }
  | _ => none }
def fnExactBoxGameRow : OpenClaim := { program := "ytjmmkbhdldeciaa", sum := "40d1f164c3bb5a3333898c4a04aaae1bfc9b51f2ec038bbd6cf7413ef64436ec", func := "loop.example/hideandseek/laws.FnExactBoxGame", spec := "fnExactBoxGame", apart := false }
def FnExactBoxGameSaid : Prop := fnExactBoxGameRow.holds Try.pinned (OpenSpec.ofChange fnExactBoxGameSpec)

/-- ITS FALSE NEIGHBOUR: 'it returns false'. Refute it at one input. -/
def fnExactBoxGameWrong : ChangeSpec := { name := "fnExactBoxGame", fn := fun _ => fun
  | [d] => { results := [.lit (.bool false)], args := [d] }
  | _ => none }
def FnExactBoxGameWrongFalsely : Prop := fnExactBoxGameRow.holds Try.pinned (OpenSpec.ofChange fnExactBoxGameWrong)

/-- 'laws.FnExactBoxWorth': WHATEVER THE INPUT: true; the input reads as it did. -/
def fnExactBoxWorthSpec : ChangeSpec := { name := "fnExactBoxWorth", fn := fun _ => fun
  | [d] => { results := [.lit (.bool true)], args := [d] }
  | _ => none }
def fnExactBoxWorthRow : OpenClaim := { program := "ytjmmkbhdldeciaa", sum := "40d1f164c3bb5a3333898c4a04aaae1bfc9b51f2ec038bbd6cf7413ef64436ec", func := "loop.example/hideandseek/laws.FnExactBoxWorth", spec := "fnExactBoxWorth", unfollowed := true, recurses := true, apart := false }
def FnExactBoxWorthSaid : Prop := fnExactBoxWorthRow.holds Try.pinned (OpenSpec.ofChange fnExactBoxWorthSpec)

/-- ITS FALSE NEIGHBOUR: 'it returns false'. Refute it at one input. -/
def fnExactBoxWorthWrong : ChangeSpec := { name := "fnExactBoxWorth", fn := fun _ => fun
  | [d] => { results := [.lit (.bool false)], args := [d] }
  | _ => none }
def FnExactBoxWorthWrongFalsely : Prop := fnExactBoxWorthRow.holds Try.pinned (OpenSpec.ofChange fnExactBoxWorthWrong)

/-- 'laws.FnExactBoxWeights': WHATEVER THE INPUT: true; the input reads as it did. -/
def fnExactBoxWeightsSpec : ChangeSpec := { name := "fnExactBoxWeights", fn := fun _ => fun
  | [d] => { results := [.lit (.bool true)], args := [d] }
  | _ => none }
def fnExactBoxWeightsRow : OpenClaim := { program := "ytjmmkbhdldeciaa", sum := "40d1f164c3bb5a3333898c4a04aaae1bfc9b51f2ec038bbd6cf7413ef64436ec", func := "loop.example/hideandseek/laws.FnExactBoxWeights", spec := "fnExactBoxWeights", unfollowed := true, recurses := true, apart := false }
def FnExactBoxWeightsSaid : Prop := fnExactBoxWeightsRow.holds Try.pinned (OpenSpec.ofChange fnExactBoxWeightsSpec)

/-- ITS FALSE NEIGHBOUR: 'it returns false'. Refute it at one input. -/
def fnExactBoxWeightsWrong : ChangeSpec := { name := "fnExactBoxWeights", fn := fun _ => fun
  | [d] => { results := [.lit (.bool false)], args := [d] }
  | _ => none }
def FnExactBoxWeightsWrongFalsely : Prop := fnExactBoxWeightsRow.holds Try.pinned (OpenSpec.ofChange fnExactBoxWeightsWrong)

/-- 'laws.FnExactWithBox': WHATEVER THE INPUT: true; the input reads as it did. -/
def fnExactWithBoxSpec : ChangeSpec := { name := "fnExactWithBox", fn := fun _ => fun
  | [d1, d2] => { results := [.lit (.bool true)], args := [d1, d2] }
  | _ => none }
def fnExactWithBoxRow : OpenClaim := { program := "ytjmmkbhdldeciaa", sum := "40d1f164c3bb5a3333898c4a04aaae1bfc9b51f2ec038bbd6cf7413ef64436ec", func := "loop.example/hideandseek/laws.FnExactWithBox", spec := "fnExactWithBox", apart := false }
def FnExactWithBoxSaid : Prop := fnExactWithBoxRow.holds Try.pinned (OpenSpec.ofChange fnExactWithBoxSpec)

/-- ITS FALSE NEIGHBOUR: 'it returns false'. Refute it at one input. -/
def fnExactWithBoxWrong : ChangeSpec := { name := "fnExactWithBox", fn := fun _ => fun
  | [d1, d2] => { results := [.lit (.bool false)], args := [d1, d2] }
  | _ => none }
def FnExactWithBoxWrongFalsely : Prop := fnExactWithBoxRow.holds Try.pinned (OpenSpec.ofChange fnExactWithBoxWrong)

/- THE SECOND FORM. 'bulk': how many values and letters a reading holds, each counted each time it is reached (what is shared counts as often as it is met; a slice's spare places count too). A statement '..UptoSaid' is the law's where the arguments, and the package variables that the reading takes, are together of bulk at most 1048576: NARROWER than '..Said'. Prove '..Said' where nothing that the law and all that it calls make is longer than what came in: it says more and counts as full. Else prove '..UptoSaid'. A law counts once. -/
mutual
def uptoBulk {H : Type} : DataW H → Nat
  | .lit (.string bytes) => bytes.length + 1
  | .lit _ => 1
  | .nil => 1
  | .ptr d => uptoBulk d + 1
  | .slice elems spare => uptoBulkAll elems + uptoBulkAll spare + 1
  | .agg parts => uptoBulkAll parts + 1
  | .iface _ d => uptoBulk d + 1
  | .map entries => uptoBulkEntries entries + 1
  | .held _ => 1
def uptoBulkAll {H : Type} : List (DataW H) → Nat
  | [] => 0
  | d :: r => uptoBulk d + uptoBulkAll r
def uptoBulkEntries {H : Type} : List (Lit × DataW H) → Nat
  | [] => 0
  | x :: r => uptoBulkEntry x + uptoBulkEntries r
def uptoBulkEntry {H : Type} : Lit × DataW H → Nat
  | (.string bytes, d) => bytes.length + uptoBulk d + 1
  | (_, d) => uptoBulk d + 1
 end
def uptoSmall : (H : Type) → List (DataW H) → Bool := fun _ ds => decide (uptoBulkAll ds ≤ 1048576)
def OpenSpec.upto (s : _root_.Go.ChangeSpec) : _root_.Go.OpenSpec := { _root_.Go.OpenSpec.ofChange s with cond := some uptoSmall }

/-- 'laws.FnBoxesOk', WHERE WHAT IT READS IS OF BULK AT MOST 1048576: true; the input reads as it did. -/
def fnBoxesOkUptoRow : OpenClaim := { program := "ytjmmkbhdldeciaa", sum := "40d1f164c3bb5a3333898c4a04aaae1bfc9b51f2ec038bbd6cf7413ef64436ec", func := "loop.example/hideandseek/laws.FnBoxesOk", spec := "fnBoxesOk", apart := false, narrowed := true }
def FnBoxesOkUptoSaid : Prop := fnBoxesOkUptoRow.holds Try.pinned (OpenSpec.upto fnBoxesOkSpec)

/-- 'laws.FnBoxGame', WHERE WHAT IT READS IS OF BULK AT MOST 1048576: true; the input reads as it did. -/
def fnBoxGameUptoRow : OpenClaim := { program := "ytjmmkbhdldeciaa", sum := "40d1f164c3bb5a3333898c4a04aaae1bfc9b51f2ec038bbd6cf7413ef64436ec", func := "loop.example/hideandseek/laws.FnBoxGame", spec := "fnBoxGame", unfollowed := true, recurses := true, apart := false, narrowed := true }
def FnBoxGameUptoSaid : Prop := fnBoxGameUptoRow.holds Try.pinned (OpenSpec.upto fnBoxGameSpec)

/-- 'laws.FnBoxWorth', WHERE WHAT IT READS IS OF BULK AT MOST 1048576: true; the input reads as it did. -/
def fnBoxWorthUptoRow : OpenClaim := { program := "ytjmmkbhdldeciaa", sum := "40d1f164c3bb5a3333898c4a04aaae1bfc9b51f2ec038bbd6cf7413ef64436ec", func := "loop.example/hideandseek/laws.FnBoxWorth", spec := "fnBoxWorth", unfollowed := true, recurses := true, apart := false, narrowed := true }
def FnBoxWorthUptoSaid : Prop := fnBoxWorthUptoRow.holds Try.pinned (OpenSpec.upto fnBoxWorthSpec)

/-- 'laws.FnBoxWeights', WHERE WHAT IT READS IS OF BULK AT MOST 1048576: true; the input reads as it did. -/
def fnBoxWeightsUptoRow : OpenClaim := { program := "ytjmmkbhdldeciaa", sum := "40d1f164c3bb5a3333898c4a04aaae1bfc9b51f2ec038bbd6cf7413ef64436ec", func := "loop.example/hideandseek/laws.FnBoxWeights", spec := "fnBoxWeights", unfollowed := true, recurses := true, apart := false, narrowed := true }
def FnBoxWeightsUptoSaid : Prop := fnBoxWeightsUptoRow.holds Try.pinned (OpenSpec.upto fnBoxWeightsSpec)

/-- 'laws.FnWithBox', WHERE WHAT IT READS IS OF BULK AT MOST 1048576: true; the input reads as it did. -/
def fnWithBoxUptoRow : OpenClaim := { program := "ytjmmkbhdldeciaa", sum := "40d1f164c3bb5a3333898c4a04aaae1bfc9b51f2ec038bbd6cf7413ef64436ec", func := "loop.example/hideandseek/laws.FnWithBox", spec := "fnWithBox", unfollowed := true, recurses := true, apart := false, narrowed := true }
def FnWithBoxUptoSaid : Prop := fnWithBoxUptoRow.holds Try.pinned (OpenSpec.upto fnWithBoxSpec)

/-- 'laws.FnExactBoxesOk', WHERE WHAT IT READS IS OF BULK AT MOST 1048576: true; the input reads as it did. -/
def fnExactBoxesOkUptoRow : OpenClaim := { program := "ytjmmkbhdldeciaa", sum := "40d1f164c3bb5a3333898c4a04aaae1bfc9b51f2ec038bbd6cf7413ef64436ec", func := "loop.example/hideandseek/laws.FnExactBoxesOk", spec := "fnExactBoxesOk", apart := false, narrowed := true }
def FnExactBoxesOkUptoSaid : Prop := fnExactBoxesOkUptoRow.holds Try.pinned (OpenSpec.upto fnExactBoxesOkSpec)

/-- 'laws.FnExactBoxGame', WHERE WHAT IT READS IS OF BULK AT MOST 1048576: true; the input reads as it did. -/
def fnExactBoxGameUptoRow : OpenClaim := { program := "ytjmmkbhdldeciaa", sum := "40d1f164c3bb5a3333898c4a04aaae1bfc9b51f2ec038bbd6cf7413ef64436ec", func := "loop.example/hideandseek/laws.FnExactBoxGame", spec := "fnExactBoxGame", apart := false, narrowed := true }
def FnExactBoxGameUptoSaid : Prop := fnExactBoxGameUptoRow.holds Try.pinned (OpenSpec.upto fnExactBoxGameSpec)

/-- 'laws.FnExactBoxWorth', WHERE WHAT IT READS IS OF BULK AT MOST 1048576: true; the input reads as it did. -/
def fnExactBoxWorthUptoRow : OpenClaim := { program := "ytjmmkbhdldeciaa", sum := "40d1f164c3bb5a3333898c4a04aaae1bfc9b51f2ec038bbd6cf7413ef64436ec", func := "loop.example/hideandseek/laws.FnExactBoxWorth", spec := "fnExactBoxWorth", unfollowed := true, recurses := true, apart := false, narrowed := true }
def FnExactBoxWorthUptoSaid : Prop := fnExactBoxWorthUptoRow.holds Try.pinned (OpenSpec.upto fnExactBoxWorthSpec)

/-- 'laws.FnExactBoxWeights', WHERE WHAT IT READS IS OF BULK AT MOST 1048576: true; the input reads as it did. -/
def fnExactBoxWeightsUptoRow : OpenClaim := { program := "ytjmmkbhdldeciaa", sum := "40d1f164c3bb5a3333898c4a04aaae1bfc9b51f2ec038bbd6cf7413ef64436ec", func := "loop.example/hideandseek/laws.FnExactBoxWeights", spec := "fnExactBoxWeights", unfollowed := true, recurses := true, apart := false, narrowed := true }
def FnExactBoxWeightsUptoSaid : Prop := fnExactBoxWeightsUptoRow.holds Try.pinned (OpenSpec.upto fnExactBoxWeightsSpec)

/-- 'laws.FnExactWithBox', WHERE WHAT IT READS IS OF BULK AT MOST 1048576: true; the input reads as it did. -/
def fnExactWithBoxUptoRow : OpenClaim := { program := "ytjmmkbhdldeciaa", sum := "40d1f164c3bb5a3333898c4a04aaae1bfc9b51f2ec038bbd6cf7413ef64436ec", func := "loop.example/hideandseek/laws.FnExactWithBox", spec := "fnExactWithBox", apart := false, narrowed := true }
def FnExactWithBoxUptoSaid : Prop := fnExactWithBoxUptoRow.holds Try.pinned (OpenSpec.upto fnExactWithBoxSpec)

end Rows
end Go.Proofs.Ytjmmkbhdldeciaa
