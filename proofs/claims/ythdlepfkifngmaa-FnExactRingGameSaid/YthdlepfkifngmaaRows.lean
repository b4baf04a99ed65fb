/-
  No cell of these rows narrows 'for every input' (looked for: loops, veiled, ifaces, maps, wideKeys, modest, calm, conditions, laid).
  DERIVED. THE GIVEN ROWS OF THIS SEAT. 10 by the template 'for every input the law returns true; each argument reads behind the call as it read before'; 0 by the template 'total and deterministic' (their statements: YthdlepfkifngmaaTotals.lean).
  GIVEN WITH THE SEED: the statements are not yours to turn. If you find one false, say at which input.
  Laid BY PROGRAM, IN A SANDBOX (cutbox-rows.mjs): the forced cells as the released guide's own fill.sh prints them over the translation 643e5e8b08e641d0… (all of the seat's roots in one cut). By AI agents, Wed Nov 11 2026. No macro, syntax, notation, axiom, sorry.
-/
import Derived.Test.YthdlepfkifngmaaChecked
import GoSem.Claim
import GoSem.ClaimJoined
import GoSem.ClaimMapViews
import Derived.JoinedTies
import Derived.KernelRfl
namespace Go.Proofs.Ythdlepfkifngmaa
/- THE CELL 'sum', in the pinned program and in every row, IS THE sha256 OF THE DUMP (.gsa) THAT YthdlepfkifngmaaProg.lean LOADS. Nothing in Lean hashes anything: it is a label: what it is worth is what the hold of that sum in a sandbox is worth. -/
noncomputable def Try.pinned : Pinned := { name := "ythdlepfkifngmaa", sum := "643e5e8b08e641d0173ad5d5f3787432d41a57a91e503c4155ad6a28604c99d2", checked := Try.checked }
namespace Rows
def none {H : Type} : Left H := { results := [], args := [] }

/-- 'laws.FnWindowGame': WHATEVER THE INPUT: true; the input reads as it did. -/
def fnWindowGameSpec : ChangeSpec := { name := "fnWindowGame", fn := fun _ => fun
  | [d] => { results := [.lit (.bool true)], args := [d] }
  | _ => none }
def fnWindowGameRow : OpenClaim := { program := "ythdlepfkifngmaa", sum := "643e5e8b08e641d0173ad5d5f3787432d41a57a91e503c4155ad6a28604c99d2", func := "loop.example/hideandseek/laws.FnWindowGame", spec := "fnWindowGame", unfollowed := true, recurses := true, apart := false }
def FnWindowGameSaid : Prop := fnWindowGameRow.holds Try.pinned (OpenSpec.ofChange fnWindowGameSpec)

/-- ITS FALSE NEIGHBOUR: 'it returns false'. Refute it at one input. -/
def fnWindowGameWrong : ChangeSpec := { name := "fnWindowGame", fn := fun _ => fun
  | [d] => { results := [.lit (.bool false)], args := [d] }
  | _ => none }
def FnWindowGameWrongFalsely : Prop := fnWindowGameRow.holds Try.pinned (OpenSpec.ofChange fnWindowGameWrong)

/-- 'laws.FnWindowsFor': WHATEVER THE INPUT: true; the input reads as it did. -/
def fnWindowsForSpec : ChangeSpec := { name := "fnWindowsFor", fn := fun _ => fun
  | [d] => { results := [.lit (.bool true)], args := [d] }
  | _ => none }
def fnWindowsForRow : OpenClaim := { program := "ythdlepfkifngmaa", sum := "643e5e8b08e641d0173ad5d5f3787432d41a57a91e503c4155ad6a28604c99d2", func := "loop.example/hideandseek/laws.FnWindowsFor", spec := "fnWindowsFor", unfollowed := true, recurses := true, apart := false }
def FnWindowsForSaid : Prop := fnWindowsForRow.holds Try.pinned (OpenSpec.ofChange fnWindowsForSpec)

/-- ITS FALSE NEIGHBOUR: 'it returns false'. Refute it at one input. -/
def fnWindowsForWrong : ChangeSpec := { name := "fnWindowsFor", fn := fun _ => fun
  | [d] => { results := [.lit (.bool false)], args := [d] }
  | _ => none }
def FnWindowsForWrongFalsely : Prop := fnWindowsForRow.holds Try.pinned (OpenSpec.ofChange fnWindowsForWrong)

/-- 'laws.FnLookPlan': WHATEVER THE INPUT: true; the input reads as it did. -/
def fnLookPlanSpec : ChangeSpec := { name := "fnLookPlan", fn := fun _ => fun
  | [d] => { results := [.lit (.bool true)], args := [d] }
  | _ => none }
def fnLookPlanRow : OpenClaim := { program := "ythdlepfkifngmaa", sum := "643e5e8b08e641d0173ad5d5f3787432d41a57a91e503c4155ad6a28604c99d2", func := "loop.example/hideandseek/laws.FnLookPlan", spec := "fnLookPlan", unfollowed := true, recurses := true, apart := false }
def FnLookPlanSaid : Prop := fnLookPlanRow.holds Try.pinned (OpenSpec.ofChange fnLookPlanSpec)

/-- ITS FALSE NEIGHBOUR: 'it returns false'. Refute it at one input. -/
def fnLookPlanWrong : ChangeSpec := { name := "fnLookPlan", fn := fun _ => fun
  | [d] => { results := [.lit (.bool false)], args := [d] }
  | _ => none }
def FnLookPlanWrongFalsely : Prop := fnLookPlanRow.holds Try.pinned (OpenSpec.ofChange fnLookPlanWrong)

/-- 'laws.FnHidePlan': WHATEVER THE INPUT: true; the input reads as it did. -/
def fnHidePlanSpec : ChangeSpec := { name := "fnHidePlan", fn := fun _ => fun
  | [d] => { results := [.lit (.bool true)], args := [d] }
  | _ => none }
def fnHidePlanRow : OpenClaim := { program := "ythdlepfkifngmaa", sum := "643e5e8b08e641d0173ad5d5f3787432d41a57a91e503c4155ad6a28604c99d2", func := "loop.example/hideandseek/laws.FnHidePlan", spec := "fnHidePlan", unfollowed := true, recurses := true, apart := false }
def FnHidePlanSaid : Prop := fnHidePlanRow.holds Try.pinned (OpenSpec.ofChange fnHidePlanSpec)

/-- ITS FALSE NEIGHBOUR: 'it returns false'. Refute it at one input. -/
def fnHidePlanWrong : ChangeSpec := { name := "fnHidePlan", fn := fun _ => fun
  | [d] => { results := [.lit (.bool false)], args := [d] }
  | _ => none }
def FnHidePlanWrongFalsely : Prop := fnHidePlanRow.holds Try.pinned (OpenSpec.ofChange fnHidePlanWrong)

/-- 'laws.FnRingGame': WHATEVER THE INPUT: true; the input reads as it did. -/
def fnRingGameSpec : ChangeSpec := { name := "fnRingGame", fn := fun _ => fun
  | [d] => { results := [.lit (.bool true)], args := [d] }
  | _ => none }
def fnRingGameRow : OpenClaim := { program := "ythdlepfkifngmaa", sum := "643e5e8b08e641d0173ad5d5f3787432d41a57a91e503c4155ad6a28604c99d2", func := "loop.example/hideandseek/laws.FnRingGame", spec := "fnRingGame", unfollowed := true, recurses := true, apart := false }
def FnRingGameSaid : Prop := fnRingGameRow.holds Try.pinned (OpenSpec.ofChange fnRingGameSpec)

/-- ITS FALSE NEIGHBOUR: 'it returns false'. Refute it at one input. -/
def fnRingGameWrong : ChangeSpec := { name := "fnRingGame", fn := fun _ => fun
  | [d] => { results := [.lit (.bool false)], args := [d] }
  | _ => none }
def FnRingGameWrongFalsely : Prop := fnRingGameRow.holds Try.pinned (OpenSpec.ofChange fnRingGameWrong)

/-- 'laws.FnExactWindowGame': WHATEVER THE INPUT: true; the input reads as it did. -/
def fnExactWindowGameSpec : ChangeSpec := { name := "fnExactWindowGame", fn := fun _ => fun
  | [d1, d2] => { results := [.lit (.bool true)], args := [d1, d2] }
  | _ => none }
def fnExactWindowGameRow : OpenClaim := { program := "ythdlepfkifngmaa", sum := "643e5e8b08e641d0173ad5d5f3787432d41a57a91e503c4155ad6a28604c99d2", func := "loop.example/hideandseek/laws.FnExactWindowGame", spec := "fnExactWindowGame", unfollowed := true, recurses := true, apart := false }
def FnExactWindowGameSaid : Prop := fnExactWindowGameRow.holds Try.pinned (OpenSpec.ofChange fnExactWindowGameSpec)

/-- ITS FALSE NEIGHBOUR: 'it returns false'. Refute it at one input. -/
def fnExactWindowGameWrong : ChangeSpec := { name := "fnExactWindowGame", fn := fun _ => fun
  | [d1, d2] => { results := [.lit (.bool false)], args := [d1, d2] }
  | _ => none }
def FnExactWindowGameWrongFalsely : Prop := fnExactWindowGameRow.holds Try.pinned (OpenSpec.ofChange fnExactWindowGameWrong)

/-- 'laws.FnExactWindowsFor': WHATEVER THE INPUT: true; the input reads as it did. -/
def fnExactWindowsForSpec : ChangeSpec := { name := "fnExactWindowsFor", fn := fun _ => fun
  | [d1, d2] => { results := [.lit (.bool true)], args := [d1, d2] }
  | _ => none }
def fnExactWindowsForRow : OpenClaim := { program := "ythdlepfkifngmaa", sum := "643e5e8b08e641d0173ad5d5f3787432d41a57a91e503c4155ad6a28604c99d2", func := "loop.example/hideandseek/laws.FnExactWindowsFor", spec := "fnExactWindowsFor", apart := false }
def FnExactWindowsForSaid : Prop := fnExactWindowsForRow.holds Try.pinned (OpenSpec.ofChange fnExactWindowsForSpec)

/-- ITS FALSE NEIGHBOUR: 'it returns false'. Refute it at one input. -/
def fnExactWindowsForWrong : ChangeSpec := { name := "fnExactWindowsFor", fn := fun _ => fun
  | [d1, d2] => { results := [.lit (.bool false)], args := [d1, d2] }
  | _ => none }
def FnExactWindowsForWrongFalsely : Prop := fnExactWindowsForRow.holds Try.pinned (OpenSpec.ofChange fnExactWindowsForWrong)

/-- 'laws.FnExactLookPlan': WHATEVER THE INPUT: true; the input reads as it did. -/
def fnExactLookPlanSpec : ChangeSpec := { name := "fnExactLookPlan", fn := fun _ => fun
  | [d1, d2] => { results := [.lit (.bool true)], args := [d1, d2] }
  | _ => none }
def fnExactLookPlanRow : OpenClaim := { program := "ythdlepfkifngmaa", sum := "643e5e8b08e641d0173ad5d5f3787432d41a57a91e503c4155ad6a28604c99d2", func := "loop.example/hideandseek/laws.FnExactLookPlan", spec := "fnExactLookPlan", unfollowed := true, recurses := true, apart := false }
def FnExactLookPlanSaid : Prop := fnExactLookPlanRow.holds Try.pinned (OpenSpec.ofChange fnExactLookPlanSpec)

/-- ITS FALSE NEIGHBOUR: 'it returns false'. Refute it at one input. -/
def fnExactLookPlanWrong : ChangeSpec := { name := "fnExactLookPlan", fn := fun _ => fun
  | [d1, d2] => { results := [.lit (.bool false)], args := [d1, d2] }
  | _ => none }
def FnExactLookPlanWrongFalsely : Prop := fnExactLookPlanRow.holds Try.pinned (OpenSpec.ofChange fnExactLookPlanWrong)

/-- 'laws.FnExactHidePlan': WHATEVER THE INPUT: true; the input reads as it did. -/
def fnExactHidePlanSpec : ChangeSpec := { name := "fnExactHidePlan", fn := fun _ => fun
  | [d1, d2] => { results := [.lit (.bool true)], args := [d1, d2] }
  | _ => none }
def fnExactHidePlanRow : OpenClaim := { program := "ythdlepfkifngmaa", sum := "643e5e8b08e641d0173ad5d5f3787432d41a57a91e503c4155ad6a28604c99d2", func := "loop.example/hideandseek/laws.FnExactHidePlan", spec := "fnExactHidePlan", unfollowed := true, recurses := true, apart := false }
def FnExactHidePlanSaid : Prop := fnExactHidePlanRow.holds Try.pinned (OpenSpec.ofChange fnExactHidePlanSpec)

/-- ITS FALSE NEIGHBOUR: 'it returns false'. Refute it at one input. -/
def fnExactHidePlanWrong : ChangeSpec := { name := "fnExactHidePlan", fn := fun _ => fun
  | [d1, d2] => { results := [.lit (.bool false)], args := [d1, d2] }
  | _ => none }
def FnExactHidePlanWrongFalsely : Prop := fnExactHidePlanRow.holds Try.pinned (OpenSpec.ofChange fnExactHidePlanWrong)

/-- 'laws.FnExactRingGame': WHATEVER THE INPUT: true; the input reads as it did. -/
def fnExactRingGameSpec : ChangeSpec := { name := "fnExactRingGame", fn := fun _ => fun
  | [d1, d2] => { results := [.lit (.bool true)], args := [d1, d2] }
  | _ => none }
def fnExactRingGameRow : OpenClaim := { program := "ythdlepfkifngmaa", sum := "643e5e8b08e641d0173ad5d5f3787432d41a57a91e503c4155ad6a28604c99d2", func := "loop.example/hideandseek/laws.FnExactRingGame", spec := "fnExactRingGame", unfollowed := true, recurses := true, apart := false }
def FnExactRingGameSaid : Prop := fnExactRingGameRow.holds Try.pinned (OpenSpec.ofChange fnExactRingGameSpec)

/-- ITS FALSE NEIGHBOUR: 'it returns false'. Refute it at one input. -/
def fnExactRingGameWrong : ChangeSpec := { name := "fnExactRingGame", fn := fun _ => fun
  | [d1, d2] => { results := [.lit (.bool false)], args := [d1, d2] }
  | _ => none }
def FnExactRingGameWrongFalsely : Prop := fnExactRingGameRow.holds Try.pinned (OpenSpec.ofChange fnExactRingGameWrong)

/- THE SECOND FORM. 'bulk': how many values and letters a reading holds, each counted each time it is reached (what is shared counts as often as it is met; a slice's spare places count too). A statement '..UptoSaid' is the law's where the arguments, and the package variables that the reading takes, are together of bulk at most 1048576: NARROWER than '..Said'. Prove '..Said' where nothing that the law and all that it calls make is longer than what came in: it says more and counts as full. Else prove '..UptoSaid'. A law counts once. -/
mutual
def uptoBulk {H : Type} : DataW H → Nat
  | .lit (.string bytes) => bytes.length + 1
  | .lit _ => 1
  | .nil => 1
  | .ptr d => uptoBulk d + 1
  | .slice elems spare => uptoBulkAll elems + uptoBulkAll spare + 1
  | .agg parts => uptoBulkAll parts + 1
  | .iface _ d => uptoBulk d + 1
  | .map entries => uptoBulkEntries entries + 1
  | .held _ => 1
def uptoBulkAll {H : Type} : List (DataW H) → Nat
  | [] => 0
  | d :: r => uptoBulk d + uptoBulkAll r
def uptoBulkEntries {H : Type} : List (Lit × DataW H) → Nat
  | [] => 0
  | x :: r => uptoBulkEntry x + uptoBulkEntries r
def uptoBulkEntry {H : Type} : Lit × DataW H → Nat
  | (.string bytes, d) => bytes.length + uptoBulk d + 1
  | (_, d) => uptoBulk d + 1
 end
def uptoSmall : (H : Type) → List (DataW H) → Bool := fun _ ds => decide (uptoBulkAll ds ≤ 1048576)
def OpenSpec.upto (s : _root_.Go.ChangeSpec) : _root_.Go.OpenSpec := { _root_.Go.OpenSpec.ofChange s with cond := some uptoSmall }

/-- 'laws.FnWindowGame', WHERE WHAT IT READS IS OF BULK AT MOST 1048576: true; the input reads as it did. -/
def fnWindowGameUptoRow : OpenClaim := { program := "ythdlepfkifngmaa", sum := "643e5e8b08e641d0173ad5d5f3787432d41a57a91e503c4155ad6a28604c99d2", func := "loop.example/hideandseek/laws.FnWindowGame", spec := "fnWindowGame", unfollowed := true, recurses := true, apart := false, narrowed := true }
def FnWindowGameUptoSaid : Prop := fnWindowGameUptoRow.holds Try.pinned (OpenSpec.upto fnWindowGameSpec)

/-- 'laws.FnWindowsFor', WHERE WHAT IT READS IS OF BULK AT MOST 1048576: true; the input reads as it did. -/
def fnWindowsForUptoRow : OpenClaim := { program := "ythdlepfkifngmaa", sum := "643e5e8b08e641d0173ad5d5f3787432d41a57a91e503c4155ad6a28604c99d2", func := "loop.example/hideandseek/laws.FnWindowsFor", spec := "fnWindowsFor", unfollowed := true, recurses := true, apart := false, narrowed := true }
def FnWindowsForUptoSaid : Prop := fnWindowsForUptoRow.holds Try.pinned (OpenSpec.upto fnWindowsForSpec)

/-- 'laws.FnLookPlan', WHERE WHAT IT READS IS OF BULK AT MOST 1048576: true; the input reads as it did. -/
def fnLookPlanUptoRow : OpenClaim := { program := "ythdlepfkifngmaa", sum := "643e5e8b08e641d0173ad5d5f3787432d41a57a91e503c4155ad6a28604c99d2", func := "loop.example/hideandseek/laws.FnLookPlan", spec := "fnLookPlan", unfollowed := true, recurses := true, apart := false, narrowed := true }
def FnLookPlanUptoSaid : Prop := fnLookPlanUptoRow.holds Try.pinned (OpenSpec.upto fnLookPlanSpec)

/-- 'laws.FnHidePlan', WHERE WHAT IT READS IS OF BULK AT MOST 1048576: true; the input reads as it did. -/
def fnHidePlanUptoRow : OpenClaim := { program := "ythdlepfkifngmaa", sum := "643e5e8b08e641d0173ad5d5f3787432d41a57a91e503c4155ad6a28604c99d2", func := "loop.example/hideandseek/laws.FnHidePlan", spec := "fnHidePlan", unfollowed := true, recurses := true, apart := false, narrowed := true }
def FnHidePlanUptoSaid : Prop := fnHidePlanUptoRow.holds Try.pinned (OpenSpec.upto fnHidePlanSpec)

/-- 'laws.FnRingGame', WHERE WHAT IT READS IS OF BULK AT MOST 1048576: true; the input reads as it did. -/
def fnRingGameUptoRow : OpenClaim := { program := "ythdlepfkifngmaa", sum := "643e5e8b08e641d0173ad5d5f3787432d41a57a91e503c4155ad6a28604c99d2", func := "loop.example/hideandseek/laws.FnRingGame", spec := "fnRingGame", unfollowed := true, recurses := true, apart := false, narrowed := true }
def FnRingGameUptoSaid : Prop := fnRingGameUptoRow.holds Try.pinned (OpenSpec.upto fnRingGameSpec)

/-- 'laws.FnExactWindowGame', WHERE WHAT IT READS IS OF BULK AT MOST 1048576: true; the input reads as it did. -/
def fnExactWindowGameUptoRow : OpenClaim := { program := "ythdlepfkifngmaa", sum := "643e5e8b08e641d0173ad5d5f3787432d41a57a91e503c4155ad6a28604c99d2", func := "loop.example/hideandseek/laws.FnExactWindowGame", spec := "fnExactWindowGame", unfollowed := true, recurses := true, apart := false, narrowed := true }
def FnExactWindowGameUptoSaid : Prop := fnExactWindowGameUptoRow.holds Try.pinned (OpenSpec.upto fnExactWindowGameSpec)

/-- 'laws.FnExactWindowsFor', WHERE WHAT IT READS IS OF BULK AT MOST 1048576: true; the input reads as it did. -/
def fnExactWindowsForUptoRow : OpenClaim := { program := "ythdlepfkifngmaa", sum := "643e5e8b08e641d0173ad5d5f3787432d41a57a91e503c4155ad6a28604c99d2", func := "loop.example/hideandseek/laws.FnExactWindowsFor", spec := "fnExactWindowsFor", apart := false, narrowed := true }
def FnExactWindowsForUptoSaid : Prop := fnExactWindowsForUptoRow.holds Try.pinned (OpenSpec.upto fnExactWindowsForSpec)

/-- 'laws.FnExactLookPlan', WHERE WHAT IT READS IS OF BULK AT MOST 1048576: true; the input reads as it did. -/
def fnExactLookPlanUptoRow : OpenClaim := { program := "ythdlepfkifngmaa", sum := "643e5e8b08e641d0173ad5d5f3787432d41a57a91e503c4155ad6a28604c99d2", func := "loop.example/hideandseek/laws.FnExactLookPlan", spec := "fnExactLookPlan", unfollowed := true, recurses := true, apart := false, narrowed := true }
def FnExactLookPlanUptoSaid : Prop := fnExactLookPlanUptoRow.holds Try.pinned (OpenSpec.upto fnExactLookPlanSpec)

/-- 'laws.FnExactHidePlan', WHERE WHAT IT READS IS OF BULK AT MOST 1048576: true; the input reads as it did. -/
def fnExactHidePlanUptoRow : OpenClaim := { program := "ythdlepfkifngmaa", sum := "643e5e8b08e641d0173ad5d5f3787432d41a57a91e503c4155ad6a28604c99d2", func := "loop.example/hideandseek/laws.FnExactHidePlan", spec := "fnExactHidePlan", unfollowed := true, recurses := true, apart := false, narrowed := true }
def FnExactHidePlanUptoSaid : Prop := fnExactHidePlanUptoRow.holds Try.pinned (OpenSpec.upto fnExactHidePlanSpec)

/-- 'laws.FnExactRingGame', WHERE WHAT IT READS IS OF BULK AT MOST 1048576: true; the input reads as it did. -/
def fnExactRingGameUptoRow : OpenClaim := { program := "ythdlepfkifngmaa", sum := "643e5e8b08e641d0173ad5d5f3787432d41a57a91e503c4155ad6a28604c99d2", func := "loop.example/hideandseek/laws.FnExactRingGame", spec := "fnExactRingGame", unfollowed := true, recurses := true, apart := false, narrowed := true }
def FnExactRingGameUptoSaid : Prop := fnExactRingGameUptoRow.holds Try.pinned (OpenSpec.upto fnExactRingGameSpec)

end Rows
end Go.Proofs.Ythdlepfkifngmaa
