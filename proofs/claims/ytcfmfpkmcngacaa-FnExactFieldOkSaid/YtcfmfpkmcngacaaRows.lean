/-
  No cell of these rows narrows 'for every input' (looked for: loops, veiled, ifaces, maps, wideKeys, modest, calm, conditions, laid).
  DERIVED. THE GIVEN ROWS OF THIS SEAT. 12 by the template 'for every input the law returns true; each argument reads behind the call as it read before'; 0 by the template 'total and deterministic' (their statements: YtcfmfpkmcngacaaTotals.lean).
  GIVEN WITH THE SEED: the statements are not yours to turn. If you find one false, say at which input.
  Laid BY PROGRAM, IN A SANDBOX (cutbox-rows.mjs): the forced cells as the released guide's own fill.sh prints them over the translation 3537578a1bdedad4… (all of the seat's roots in one cut). By AI agents, Wed Nov 11 2026. No macro, syntax, notation, axiom, sorry.
-/
import Derived.Test.YtcfmfpkmcngacaaChecked
import GoSem.Claim
import GoSem.ClaimJoined
import GoSem.ClaimMapViews
import Derived.JoinedTies
import Derived.KernelRfl
namespace Go.Proofs.Ytcfmfpkmcngacaa
/- THE CELL 'sum', in the pinned program and in every row, IS THE sha256 OF THE DUMP (.gsa) THAT YtcfmfpkmcngacaaProg.lean LOADS. Nothing in Lean hashes anything: it is a label: what it is worth is what the hold of that sum in a sandbox is worth. -/
noncomputable def Try.pinned : Pinned := { name := "ytcfmfpkmcngacaa", sum := "3537578a1bdedad487944640a8a0a96661273b4367604af36905e3f3cb7e3345", checked := Try.checked }
namespace Rows
def none {H : Type} : Left H := { results := [], args := [] }

/-- 'laws.FnFieldOk': WHATEVER THE INPUT: true; the input reads as it did. -/
def fnFieldOkSpec : ChangeSpec := { name := "fnFieldOk", fn := fun _ => fun
  | [d] => { results := [.lit (.bool true)], args := [d] }
  | _ => none }
def fnFieldOkRow : OpenClaim := { program := "ytcfmfpkmcngacaa", sum := "3537578a1bdedad487944640a8a0a96661273b4367604af36905e3f3cb7e3345", func := "loop.example/hideandseek/laws.FnFieldOk", spec := "fnFieldOk", apart := false }
def FnFieldOkSaid : Prop := fnFieldOkRow.holds Try.pinned (OpenSpec.ofChange fnFieldOkSpec)

/-- ITS FALSE NEIGHBOUR: 'it returns false'. Refute it at one input. -/
def fnFieldOkWrong : ChangeSpec := { name := "fnFieldOk", fn := fun _ => fun
  | [d] => { results := [.lit (.bool false)], args := [d] }
  | _ => none }
def FnFieldOkWrongFalsely : Prop := fnFieldOkRow.holds Try.pinned (OpenSpec.ofChange fnFieldOkWrong)

/-- 'laws.FnFieldGame': WHATEVER THE INPUT: true; the input reads as it did. -/
def fnFieldGameSpec : ChangeSpec := { name := "fnFieldGame", fn := fun _ => fun
  | [d] => { results := [.lit (.bool true)], args := [d] }
  | _ => none }
def fnFieldGameRow : OpenClaim := { program := "ytcfmfpkmcngacaa", sum := "3537578a1bdedad487944640a8a0a96661273b4367604af36905e3f3cb7e3345", func := "loop.example/hideandseek/laws.FnFieldGame", spec := "fnFieldGame", unfollowed := true, recurses := true, apart := false }
def FnFieldGameSaid : Prop := fnFieldGameRow.holds Try.pinned (OpenSpec.ofChange fnFieldGameSpec)

/-- ITS FALSE NEIGHBOUR: 'it returns false'. Refute it at one input. -/
def fnFieldGameWrong : ChangeSpec := { name := "fnFieldGame", fn := fun _ => fun
  | [d] => { results := [.lit (.bool false)], args := [d] }
  | _ => none }
def FnFieldGameWrongFalsely : Prop := fnFieldGameRow.holds Try.pinned (OpenSpec.ofChange fnFieldGameWrong)

/-- 'laws.FnMostApart': WHATEVER THE INPUT: true; the input reads as it did. -/
def fnMostApartSpec : ChangeSpec := { name := "fnMostApart", fn := fun _ => fun
  | [d] => { results := [.lit (.bool true)], args := [d] }
  | _ => none }
def fnMostApartRow : OpenClaim := { program := "ytcfmfpkmcngacaa", sum := "3537578a1bdedad487944640a8a0a96661273b4367604af36905e3f3cb7e3345", func := "loop.example/hideandseek/laws.FnMostApart", spec := "fnMostApart", unfollowed := true, recurses := true, apart := false }
def FnMostApartSaid : Prop := fnMostApartRow.holds Try.pinned (OpenSpec.ofChange fnMostApartSpec)

/-- ITS FALSE NEIGHBOUR: 'it returns false'. Refute it at one input. -/
def fnMostApartWrong : ChangeSpec := { name := "fnMostApart", fn := fun _ => fun
  | [d] => { results := [.lit (.bool false)], args := [d] }
  | _ => none }
def FnMostApartWrongFalsely : Prop := fnMostApartRow.holds Try.pinned (OpenSpec.ofChange fnMostApartWrong)

/-- 'laws.FnHideCells': WHATEVER THE INPUT: true; the input reads as it did. -/
def fnHideCellsSpec : ChangeSpec := { name := "fnHideCells", fn := fun _ => fun
  | [d] => { results := [.lit (.bool true)], args := [d] }
  | _ => none }
def fnHideCellsRow : OpenClaim := { program := "ytcfmfpkmcngacaa", sum := "3537578a1bdedad487944640a8a0a96661273b4367604af36905e3f3cb7e3345", func := "loop.example/hideandseek/laws.FnHideCells", spec := "fnHideCells", unfollowed := true, recurses := true, apart := false }
def FnHideCellsSaid : Prop := fnHideCellsRow.holds Try.pinned (OpenSpec.ofChange fnHideCellsSpec)

/-- ITS FALSE NEIGHBOUR: 'it returns false'. Refute it at one input. -/
def fnHideCellsWrong : ChangeSpec := { name := "fnHideCells", fn := fun _ => fun
  | [d] => { results := [.lit (.bool false)], args := [d] }
  | _ => none }
def FnHideCellsWrongFalsely : Prop := fnHideCellsRow.holds Try.pinned (OpenSpec.ofChange fnHideCellsWrong)

/-- 'laws.FnLookLines': WHATEVER THE INPUT: true; the input reads as it did. -/
def fnLookLinesSpec : ChangeSpec := { name := "fnLookLines", fn := fun _ => fun
  | [d] => { results := [.lit (.bool true)], args := [d] }
  | _ => none }
def fnLookLinesRow : OpenClaim := { program := "ytcfmfpkmcngacaa", sum := "3537578a1bdedad487944640a8a0a96661273b4367604af36905e3f3cb7e3345", func := "loop.example/hideandseek/laws.FnLookLines", spec := "fnLookLines", unfollowed := true, recurses := true, apart := false }
def FnLookLinesSaid : Prop := fnLookLinesRow.holds Try.pinned (OpenSpec.ofChange fnLookLinesSpec)

/-- ITS FALSE NEIGHBOUR: 'it returns false'. Refute it at one input. -/
def fnLookLinesWrong : ChangeSpec := { name := "fnLookLines", fn := fun _ => fun
  | [d] => { results := [.lit (.bool false)], args := [d] }
  | _ => none }
def FnLookLinesWrongFalsely : Prop := fnLookLinesRow.holds Try.pinned (OpenSpec.ofChange fnLookLinesWrong)

/-- 'laws.FnFieldWorth': WHATEVER THE INPUT: true; the input reads as it did. -/
def fnFieldWorthSpec : ChangeSpec := { name := "fnFieldWorth", fn := fun _ => fun
  | [d] => { results := [.lit (.bool true)], args := [d] }
  | _ => none }
def fnFieldWorthRow : OpenClaim := { program := "ytcfmfpkmcngacaa", sum := "3537578a1bdedad487944640a8a0a96661273b4367604af36905e3f3cb7e3345", func := "loop.example/hideandseek/laws.FnFieldWorth", spec := "fnFieldWorth", unfollowed := true, recurses := true, apart := false }
def FnFieldWorthSaid : Prop := fnFieldWorthRow.holds Try.pinned (OpenSpec.ofChange fnFieldWorthSpec)

/-- ITS FALSE NEIGHBOUR: 'it returns false'. Refute it at one input. -/
def fnFieldWorthWrong : ChangeSpec := { name := "fnFieldWorth", fn := fun _ => fun
  | [d] => { results := [.lit (.bool false)], args := [d] }
  | _ => none }
def FnFieldWorthWrongFalsely : Prop := fnFieldWorthRow.holds Try.pinned (OpenSpec.ofChange fnFieldWorthWrong)

/-- 'laws.FnExactFieldOk': WHATEVER THE INPUT: true; the input reads as it did. -/
def fnExactFieldOkSpec : ChangeSpec := { name := "fnExactFieldOk", fn := fun _ => fun
  | [d] => { results := [.lit (.bool true)], args := [d] }
  | _ => none }
def fnExactFieldOkRow : OpenClaim := { program := "ytcfmfpkmcngacaa", sum := "3537578a1bdedad487944640a8a0a96661273b4367604af36905e3f3cb7e3345", func := "loop.example/hideandseek/laws.FnExactFieldOk", spec := "fnExactFieldOk", apart := false }
def FnExactFieldOkSaid : Prop := fnExactFieldOkRow.holds Try.pinned (OpenSpec.ofChange fnExactFieldOkSpec)

/-- ITS FALSE NEIGHBOUR: 'it returns false'. Refute it at one input. -/
def fnExactFieldOkWrong : ChangeSpec := { name := "fnExactFieldOk", fn := fun _ => fun
  | [d] => { results := [.lit (.bool false)], args := [d] }
  | _ => none }
def FnExactFieldOkWrongFalsely : Prop := fnExactFieldOkRow.holds Try.pinned (OpenSpec.ofChange fnExactFieldOkWrong)

/-- 'laws.FnExactFieldGame': WHATEVER THE INPUT: true; the input reads as it did. -/
def fnExactFieldGameSpec : ChangeSpec := { name := "fnExactFieldGame", fn := fun _ => fun
  | [d] => { results := [.lit (.bool true)], args := [d] }
  | _ => none }
def fnExactFieldGameRow : OpenClaim := { program := "ytcfmfpkmcngacaa", sum := "3537578a1bdedad487944640a8a0a96661273b4367604af36905e3f3cb7e3345", func := "loop.example/hideandseek/laws.FnExactFieldGame", spec := "fnExactFieldGame", apart := false }
def FnExactFieldGameSaid : Prop := fnExactFieldGameRow.holds Try.pinned (OpenSpec.ofChange fnExactFieldGameSpec)

/-- ITS FALSE NEIGHBOUR: 'it returns false'. Refute it at one input. -/
def fnExactFieldGameWrong : ChangeSpec := { name := "fnExactFieldGame", fn := fun _ => fun
  | [d] => { results := [.lit (.bool false)], args := [d] }
  | _ => none }
def FnExactFieldGameWrongFalsely : Prop := fnExactFieldGameRow.holds Try.pinned (OpenSpec.ofChange fnExactFieldGameWrong)

/-- 'laws.FnExactMostApart': WHATEVER THE INPUT: true; the input reads as it did. -/
def fnExactMostApartSpec : ChangeSpec := { name := "fnExactMostApart", fn := fun _ => fun
  | [d] => { results := [.lit (.bool true)], args := [d] }
  | _ => none }
def fnExactMostApartRow : OpenClaim := { program := "ytcfmfpkmcngacaa", sum := "3537578a1bdedad487944640a8a0a96661273b4367604af36905e3f3cb7e3345", func := "loop.example/hideandseek/laws.FnExactMostApart", spec := "fnExactMostApart", recurses := true, apart := false }
def FnExactMostApartSaid : Prop := fnExactMostApartRow.holds Try.pinned (OpenSpec.ofChange fnExactMostApartSpec)

/-- ITS FALSE NEIGHBOUR: 'it returns false'. Refute it at one input. -/
def fnExactMostApartWrong : ChangeSpec := { name := "fnExactMostApart", fn := fun _ => fun
  | [d] => { results := [.lit (.bool false)], args := [d] }
  | _ => none }
def FnExactMostApartWrongFalsely : Prop := fnExactMostApartRow.holds Try.pinned (OpenSpec.ofChange fnExactMostApartWrong)

/-- 'laws.FnExactHideCells': WHATEVER THE INPUT: true; the input reads as it did. -/
def fnExactHideCellsSpec : ChangeSpec := { name := "fnExactHideCells", fn := fun _ => fun
  | [d] => { results := [.lit (.bool true)], args := [d] }
  | _ => none }
def fnExactHideCellsRow : OpenClaim := { program := "ytcfmfpkmcngacaa", sum := "3537578a1bdedad487944640a8a0a96661273b4367604af36905e3f3cb7e3345", func := "loop.example/hideandseek/laws.FnExactHideCells", spec := "fnExactHideCells", recurses := true, apart := false }
def FnExactHideCellsSaid : Prop := fnExactHideCellsRow.holds Try.pinned (OpenSpec.ofChange fnExactHideCellsSpec)

/-- ITS FALSE NEIGHBOUR: 'it returns false'. Refute it at one input. -/
def fnExactHideCellsWrong : ChangeSpec := { name := "fnExactHideCells", fn := fun _ => fun
  | [d] => { results := [.lit (.bool false)], args := [d] }
  | _ => none }
def FnExactHideCellsWrongFalsely : Prop := fnExactHideCellsRow.holds Try.pinned (OpenSpec.ofChange fnExactHideCellsWrong)

/-- 'laws.FnExactLookLines': WHATEVER THE INPUT: true; the input reads as it did. -/
def fnExactLookLinesSpec : ChangeSpec := { name := "fnExactLookLines", fn := fun _ => fun
  | [d] => { results := [.lit (.bool true)], args := [d] }
  | _ => none }
def fnExactLookLinesRow : OpenClaim := { program := "ytcfmfpkmcngacaa", sum := "3537578a1bdedad487944640a8a0a96661273b4367604af36905e3f3cb7e3345", func := "loop.example/hideandseek/laws.FnExactLookLines", spec := "fnExactLookLines", unfollowed := true, recurses := true, apart := false }
def FnExactLookLinesSaid : Prop := fnExactLookLinesRow.holds Try.pinned (OpenSpec.ofChange fnExactLookLinesSpec)

/-- ITS FALSE NEIGHBOUR: 'it returns false'. Refute it at one input. -/
def fnExactLookLinesWrong : ChangeSpec := { name := "fnExactLookLines", fn := fun _ => fun
  | [d] => { results := [.lit (.bool false)], args := [d] }
  | _ => none }
def FnExactLookLinesWrongFalsely : Prop := fnExactLookLinesRow.holds Try.pinned (OpenSpec.ofChange fnExactLookLinesWrong)

/-- 'laws.FnExactFieldWorth': WHATEVER THE INPUT: true; the input reads as it did. -/
def fnExactFieldWorthSpec : ChangeSpec := { name := "fnExactFieldWorth", fn := fun _ => fun
  | [d] => { results := [.lit (.bool true)], args := [d] }
  | _ => none }
def fnExactFieldWorthRow : OpenClaim := { program := "ytcfmfpkmcngacaa", sum := "3537578a1bdedad487944640a8a0a96661273b4367604af36905e3f3cb7e3345", func := "loop.example/hideandseek/laws.FnExactFieldWorth", spec := "fnExactFieldWorth", recurses := true, apart := false }
def FnExactFieldWorthSaid : Prop := fnExactFieldWorthRow.holds Try.pinned (OpenSpec.ofChange fnExactFieldWorthSpec)

/-- ITS FALSE NEIGHBOUR: 'it returns false'. Refute it at one input. -/
def fnExactFieldWorthWrong : ChangeSpec := { name := "fnExactFieldWorth", fn := fun _ => fun
  | [d] => { results := [.lit (.bool false)], args := [d] }
  | _ => none }
def FnExactFieldWorthWrongFalsely : Prop := fnExactFieldWorthRow.holds Try.pinned (OpenSpec.ofChange fnExactFieldWorthWrong)

/- THE SECOND FORM. 'bulk': how many values and letters a reading holds, each counted each time it is reached (what is shared counts as often as it is met; a slice's spare places count too). A statement '..UptoSaid' is the law's where the arguments, and the package variables that the reading takes, are together of bulk at most 1048576: NARROWER than '..Said'. Prove '..Said' where nothing that the law and all that it calls make is longer than what came in: it says more and counts as full. Else prove '..UptoSaid'. A law counts once. -/
mutual
def uptoBulk {H : Type} : DataW H → Nat
  | .lit (.string bytes) => bytes.length + 1
  | .lit _ => 1
  | .nil => 1
  | .ptr d => uptoBulk d + 1
  | .slice elems spare => uptoBulkAll elems + uptoBulkAll spare + 1
  | .agg parts => uptoBulkAll parts + 1
  | .iface _ d => uptoBulk d + 1
  | .map entries => uptoBulkEntries entries + 1
  | .held _ => 1
def uptoBulkAll {H : Type} : List (DataW H) → Nat
  | [] => 0
  | d :: r => uptoBulk d + uptoBulkAll r
def uptoBulkEntries {H : Type} : List (Lit × DataW H) → Nat
  | [] => 0
  | x :: r => uptoBulkEntry x + uptoBulkEntries r
def uptoBulkEntry {H : Type} : Lit × DataW H → Nat
  | (.string bytes, d) => bytes.length + uptoBulk d + 1
  | (_, d) => uptoBulk d + 1
 end
def uptoSmall : (H : Type) → List (DataW H) → Bool := fun _ ds => decide (uptoBulkAll ds ≤ 1048576)
def OpenSpec.upto (s : _root_.Go.ChangeSpec) : _root_.Go.OpenSpec := { _root_.Go.OpenSpec.ofChange s with cond := some uptoSmall }

/-- 'laws.FnFieldOk', WHERE WHAT IT READS IS OF BULK AT MOST 1048576: true; the input reads as it did. -/
def fnFieldOkUptoRow : OpenClaim := { program := "ytcfmfpkmcngacaa", sum := "3537578a1bdedad487944640a8a0a96661273b4367604af36905e3f3cb7e3345", func := "loop.example/hideandseek/laws.FnFieldOk", spec := "fnFieldOk", apart := false, narrowed := true }
def FnFieldOkUptoSaid : Prop := fnFieldOkUptoRow.holds Try.pinned (OpenSpec.upto fnFieldOkSpec)

/-- 'laws.FnFieldGame', WHERE WHAT IT READS IS OF BULK AT MOST 1048576: true; the input reads as it did. -/
def fnFieldGameUptoRow : OpenClaim := { program := "ytcfmfpkmcngacaa", sum := "3537578a1bdedad487944640a8a0a96661273b4367604af36905e3f3cb7e3345", func := "loop.example/hideandseek/laws.FnFieldGame", spec := "fnFieldGame", unfollowed := true, recurses := true, apart := false, narrowed := true }
def FnFieldGameUptoSaid : Prop := fnFieldGameUptoRow.holds Try.pinned (OpenSpec.upto fnFieldGameSpec)

/-- 'laws.FnMostApart', WHERE WHAT IT READS IS OF BULK AT MOST 1048576: true; the input reads as it did. -/
def fnMostApartUptoRow : OpenClaim := { program := "ytcfmfpkmcngacaa", sum := "3537578a1bdedad487944640a8a0a96661273b4367604af36905e3f3cb7e3345", func := "loop.example/hideandseek/laws.FnMostApart", spec := "fnMostApart", unfollowed := true, recurses := true, apart := false, narrowed := true }
def FnMostApartUptoSaid : Prop := fnMostApartUptoRow.holds Try.pinned (OpenSpec.upto fnMostApartSpec)

/-- 'laws.FnHideCells', WHERE WHAT IT READS IS OF BULK AT MOST 1048576: true; the input reads as it did. -/
def fnHideCellsUptoRow : OpenClaim := { program := "ytcfmfpkmcngacaa", sum := "3537578a1bdedad487944640a8a0a96661273b4367604af36905e3f3cb7e3345", func := "loop.example/hideandseek/laws.FnHideCells", spec := "fnHideCells", unfollowed := true, recurses := true, apart := false, narrowed := true }
def FnHideCellsUptoSaid : Prop := fnHideCellsUptoRow.holds Try.pinned (OpenSpec.upto fnHideCellsSpec)

/-- 'laws.FnLookLines', WHERE WHAT IT READS IS OF BULK AT MOST 1048576: true; the input reads as it did. -/
def fnLookLinesUptoRow : OpenClaim := { program := "ytcfmfpkmcngacaa", sum := "3537578a1bdedad487944640a8a0a96661273b4367604af36905e3f3cb7e3345", func := "loop.example/hideandseek/laws.FnLookLines", spec := "fnLookLines", unfollowed := true, recurses := true, apart := false, narrowed := true }
def FnLookLinesUptoSaid : Prop := fnLookLinesUptoRow.holds Try.pinned (OpenSpec.upto fnLookLinesSpec)

/-- 'laws.FnFieldWorth', WHERE WHAT IT READS IS OF BULK AT MOST 1048576: true; the input reads as it did. -/
def fnFieldWorthUptoRow : OpenClaim := { program := "ytcfmfpkmcngacaa", sum := "3537578a1bdedad487944640a8a0a96661273b4367604af36905e3f3cb7e3345", func := "loop.example/hideandseek/laws.FnFieldWorth", spec := "fnFieldWorth", unfollowed := true, recurses := true, apart := false, narrowed := true }
def FnFieldWorthUptoSaid : Prop := fnFieldWorthUptoRow.holds Try.pinned (OpenSpec.upto fnFieldWorthSpec)

/-- 'laws.FnExactFieldOk', WHERE WHAT IT READS IS OF BULK AT MOST 1048576: true; the input reads as it did. -/
def fnExactFieldOkUptoRow : OpenClaim := { program := "ytcfmfpkmcngacaa", sum := "3537578a1bdedad487944640a8a0a96661273b4367604af36905e3f3cb7e3345", func := "loop.example/hideandseek/laws.FnExactFieldOk", spec := "fnExactFieldOk", apart := false, narrowed := true }
def FnExactFieldOkUptoSaid : Prop := fnExactFieldOkUptoRow.holds Try.pinned (OpenSpec.upto fnExactFieldOkSpec)

/-- 'laws.FnExactFieldGame', WHERE WHAT IT READS IS OF BULK AT MOST 1048576: true; the input reads as it did. -/
def fnExactFieldGameUptoRow : OpenClaim := { program := "ytcfmfpkmcngacaa", sum := "3537578a1bdedad487944640a8a0a96661273b4367604af36905e3f3cb7e3345", func := "loop.example/hideandseek/laws.FnExactFieldGame", spec := "fnExactFieldGame", apart := false, narrowed := true }
def FnExactFieldGameUptoSaid : Prop := fnExactFieldGameUptoRow.holds Try.pinned (OpenSpec.upto fnExactFieldGameSpec)

/-- 'laws.FnExactMostApart', WHERE WHAT IT READS IS OF BULK AT MOST 1048576: true; the input reads as it did. -/
def fnExactMostApartUptoRow : OpenClaim := { program := "ytcfmfpkmcngacaa", sum := "3537578a1bdedad487944640a8a0a96661273b4367604af36905e3f3cb7e3345", func := "loop.example/hideandseek/laws.FnExactMostApart", spec := "fnExactMostApart", recurses := true, apart := false, narrowed := true }
def FnExactMostApartUptoSaid : Prop := fnExactMostApartUptoRow.holds Try.pinned (OpenSpec.upto fnExactMostApartSpec)

/-- 'laws.FnExactHideCells', WHERE WHAT IT READS IS OF BULK AT MOST 1048576: true; the input reads as it did. -/
def fnExactHideCellsUptoRow : OpenClaim := { program := "ytcfmfpkmcngacaa", sum := "3537578a1bdedad487944640a8a0a96661273b4367604af36905e3f3cb7e3345", func := "loop.example/hideandseek/laws.FnExactHideCells", spec := "fnExactHideCells", recurses := true, apart := false, narrowed := true }
def FnExactHideCellsUptoSaid : Prop := fnExactHideCellsUptoRow.holds Try.pinned (OpenSpec.upto fnExactHideCellsSpec)

/-- 'laws.FnExactLookLines', WHERE WHAT IT READS IS OF BULK AT MOST 1048576: true; the input reads as it did. -/
def fnExactLookLinesUptoRow : OpenClaim := { program := "ytcfmfpkmcngacaa", sum := "3537578a1bdedad487944640a8a0a96661273b4367604af36905e3f3cb7e3345", func := "loop.example/hideandseek/laws.FnExactLookLines", spec := "fnExactLookLines", unfollowed := true, recurses := true, apart := false, narrowed := true }
def FnExactLookLinesUptoSaid : Prop := fnExactLookLinesUptoRow.holds Try.pinned (OpenSpec.upto fnExactLookLinesSpec)

/-- 'laws.FnExactFieldWorth', WHERE WHAT IT READS IS OF BULK AT MOST 1048576: true; the input reads as it did. -/
def fnExactFieldWorthUptoRow : OpenClaim := { program := "ytcfmfpkmcngacaa", sum := "3537578a1bdedad487944640a8a0a96661273b4367604af36905e3f3cb7e3345", func := "loop.example/hideandseek/laws.FnExactFieldWorth", spec := "fnExactFieldWorth", recurses := true, apart := false, narrowed := true }
def FnExactFieldWorthUptoSaid : Prop := fnExactFieldWorthUptoRow.holds Try.pinned (OpenSpec.upto fnExactFieldWorthSpec)

end Rows
end Go.Proofs.Ytcfmfpkmcngacaa
