/-
  No cell of these rows narrows 'for every input' (looked for: loops, veiled, ifaces, maps, wideKeys, modest, calm, conditions, laid).
  DERIVED. THE GIVEN ROWS OF THIS SEAT. 6 by the template 'for every input the law returns true; each argument reads behind the call as it read before'; 0 by the template 'total and deterministic' (their statements: YtakkdpjgdmngkaaTotals.lean).
  GIVEN WITH THE SEED: the statements are not yours to turn. If you find one false, say at which input.
  Laid BY PROGRAM, IN A SANDBOX (cutbox-rows.mjs): the forced cells as the released guide's own fill.sh prints them over the translation de3b694dce7de610… (all of the seat's roots in one cut). By AI agents, Wed Nov 11 2026. No macro, syntax, notation, axiom, sorry.
-/
import Derived.Test.YtakkdpjgdmngkaaChecked
import GoSem.Claim
import GoSem.ClaimJoined
import GoSem.ClaimMapViews
import Derived.JoinedTies
import Derived.KernelRfl
namespace Go.Proofs.Ytakkdpjgdmngkaa
/- THE CELL 'sum', in the pinned program and in every row, IS THE sha256 OF THE DUMP (.gsa) THAT YtakkdpjgdmngkaaProg.lean LOADS. Nothing in Lean hashes anything: it is a label: what it is worth is what the hold of that sum in a sandbox is worth. -/
noncomputable def Try.pinned : Pinned := { name := "ytakkdpjgdmngkaa", sum := "de3b694dce7de6105290b962d6b42ffd39824a8c21b7da6c7bbc614d722f369b", checked := Try.checked }
namespace Rows
def none {H : Type} : Left H := { results := [], args := [] }

/-- 'laws.FnLearnedOf': WHATEVER THE INPUT: true; the input reads as it did. -/
def fnLearnedOfSpec : ChangeSpec := { name := "fnLearnedOf", fn := fun _ => fun
  | [d] => { results := [.lit (.bool true)], args := [d] }
  | _ => none }
def fnLearnedOfRow : OpenClaim := { program := "ytakkdpjgdmngkaa", sum := "de3b694dce7de6105290b962d6b42ffd39824a8c21b7da6c7bbc614d722f369b", func := "loop.example/hideandseek/laws.FnLearnedOf", spec := "fnLearnedOf", unfollowed := true, recurses := true, apart := false }
def FnLearnedOfSaid : Prop := fnLearnedOfRow.holds Try.pinned (OpenSpec.ofChange fnLearnedOfSpec)

/-- ITS FALSE NEIGHBOUR: 'it returns false'. Refute it at one input. -/
def fnLearnedOfWrong : ChangeSpec := { name := "fnLearnedOf", fn := fun _ => fun
  | [d] => { results := [.lit (.bool false)], args := [d] }
  | _ => none }
def FnLearnedOfWrongFalsely : Prop := fnLearnedOfRow.holds Try.pinned (OpenSpec.ofChange fnLearnedOfWrong)

/-- 'laws.FnGapOf': WHATEVER THE INPUT: true; the input reads as it did. -/
def fnGapOfSpec : ChangeSpec := { name := "fnGapOf", fn := fun _ => fun
  | [d] => { results := [.lit (.bool true)], args := [d] }
  | _ => none }
def fnGapOfRow : OpenClaim := { program := "ytakkdpjgdmngkaa", sum := "de3b694dce7de6105290b962d6b42ffd39824a8c21b7da6c7bbc614d722f369b", func := "loop.example/hideandseek/laws.FnGapOf", spec := "fnGapOf", unfollowed := true, recurses := true, apart := false }
def FnGapOfSaid : Prop := fnGapOfRow.holds Try.pinned (OpenSpec.ofChange fnGapOfSpec)

/-- ITS FALSE NEIGHBOUR: 'it returns false'. Refute it at one input. -/
def fnGapOfWrong : ChangeSpec := { name := "fnGapOf", fn := fun _ => fun
  | [d] => { results := [.lit (.bool false)], args := [d] }
  | _ => none }
def FnGapOfWrongFalsely : Prop := fnGapOfRow.holds Try.pinned (OpenSpec.ofChange fnGapOfWrong)

/-- 'laws.FnLeastGap': WHATEVER THE INPUT: true; the input reads as it did. -/
def fnLeastGapSpec : ChangeSpec := { name := "fnLeastGap", fn := fun _ => fun
  | [d] => { results := [.lit (.bool true)], args := [d] }
  | _ => none }
def fnLeastGapRow : OpenClaim := { program := "ytakkdpjgdmngkaa", sum := "de3b694dce7de6105290b962d6b42ffd39824a8c21b7da6c7bbc614d722f369b", func := "loop.example/hideandseek/laws.FnLeastGap", spec := "fnLeastGap", unfollowed := true, recurses := true, apart := false }
def FnLeastGapSaid : Prop := fnLeastGapRow.holds Try.pinned (OpenSpec.ofChange fnLeastGapSpec)

/-- ITS FALSE NEIGHBOUR: 'it returns false'. Refute it at one input. -/
def fnLeastGapWrong : ChangeSpec := { name := "fnLeastGap", fn := fun _ => fun
  | [d] => { results := [.lit (.bool false)], args := [d] }
  | _ => none }
def FnLeastGapWrongFalsely : Prop := fnLeastGapRow.holds Try.pinned (OpenSpec.ofChange fnLeastGapWrong)

/-- 'laws.FnExactLearnedOf': WHATEVER THE INPUT: true; the input reads as it did. -/
def fnExactLearnedOfSpec : ChangeSpec := { name := "fnExactLearnedOf", fn := fun _ => fun
  | [d1, d2] => { results := [.lit (.bool true)], args := [d1, d2] }
  | _ => none }
def fnExactLearnedOfRow : OpenClaim := { program := "ytakkdpjgdmngkaa", sum := "de3b694dce7de6105290b962d6b42ffd39824a8c21b7da6c7bbc614d722f369b", func := "loop.example/hideandseek/laws.FnExactLearnedOf", spec := "fnExactLearnedOf", unfollowed := true, recurses := true, apart := false }
def FnExactLearnedOfSaid : Prop := fnExactLearnedOfRow.holds Try.pinned (OpenSpec.ofChange fnExactLearnedOfSpec)

/-- ITS FALSE NEIGHBOUR: 'it returns false'. Refute it at one input. -/
def fnExactLearnedOfWrong : ChangeSpec := { name := "fnExactLearnedOf", fn := fun _ => fun
  | [d1, d2] => { results := [.lit (.bool false)], args := [d1, d2] }
  | _ => none }
def FnExactLearnedOfWrongFalsely : Prop := fnExactLearnedOfRow.holds Try.pinned (OpenSpec.ofChange fnExactLearnedOfWrong)

/-- 'laws.FnExactGapOf': WHATEVER THE INPUT: true; the input reads as it did. -/
def fnExactGapOfSpec : ChangeSpec := { name := "fnExactGapOf", fn := fun _ => fun
  | [d1, d2] => { results := [.lit (.bool true)], args := [d1, d2] }
  | _ => none }
def fnExactGapOfRow : OpenClaim := { program := "ytakkdpjgdmngkaa", sum := "de3b694dce7de6105290b962d6b42ffd39824a8c21b7da6c7bbc614d722f369b", func := "loop.example/hideandseek/laws.FnExactGapOf", spec := "fnExactGapOf", unfollowed := true, recurses := true, apart := false }
def FnExactGapOfSaid : Prop := fnExactGapOfRow.holds Try.pinned (OpenSpec.ofChange fnExactGapOfSpec)

/-- ITS FALSE NEIGHBOUR: 'it returns false'. Refute it at one input. -/
def fnExactGapOfWrong : ChangeSpec := { name := "fnExactGapOf", fn := fun _ => fun
  | [d1, d2] => { results := [.lit (.bool false)], args := [d1, d2] }
  | _ => none }
def FnExactGapOfWrongFalsely : Prop := fnExactGapOfRow.holds Try.pinned (OpenSpec.ofChange fnExactGapOfWrong)

/-- 'laws.FnExactLeastGap': WHATEVER THE INPUT: true; the input reads as it did. -/
def fnExactLeastGapSpec : ChangeSpec := { name := "fnExactLeastGap", fn := fun _ => fun
  | [d1, d2] => { results := [.lit (.bool true)], args := [d1, d2] }
  | _ => none }
def fnExactLeastGapRow : OpenClaim := { program := "ytakkdpjgdmngkaa", sum := "de3b694dce7de6105290b962d6b42ffd39824a8c21b7da6c7bbc614d722f369b", func := "loop.example/hideandseek/laws.FnExactLeastGap", spec := "fnExactLeastGap", unfollowed := true, recurses := true, apart := false }
def FnExactLeastGapSaid : Prop := fnExactLeastGapRow.holds Try.pinned (OpenSpec.ofChange fnExactLeastGapSpec)

/-- ITS FALSE NEIGHBOUR: 'it returns false'. Refute it at one input. -/
def fnExactLeastGapWrong : ChangeSpec := { name := "fnExactLeastGap", fn := fun _ => fun
  | [d1, d2] => { results := [.lit (.bool false)], args := [d1, d2] }
  | _ => none }
def FnExactLeastGapWrongFalsely : Prop := fnExactLeastGapRow.holds Try.pinned (OpenSpec.ofChange fnExactLeastGapWrong)

/- THE SECOND FORM. 'bulk': how many values and letters a reading holds, each counted each time it is reached (what is shared counts as often as it is met; a slice's spare places count too). A statement '..UptoSaid' is the law's where the arguments, and the package variables that the reading takes, are together of bulk at most 1048576: NARROWER than '..Said'. Prove '..Said' where nothing that the law and all that it calls make is longer than what came in: it says more and counts as full. Else prove '..UptoSaid'. A law counts once. -/
mutual
def uptoBulk {H : Type} : DataW H → Nat
  | .lit (.string bytes) => bytes.length + 1
  | .lit _ => 1
  | .nil => 1
  | .ptr d => uptoBulk d + 1
  | .slice elems spare => uptoBulkAll elems + uptoBulkAll spare + 1
  | .agg parts => uptoBulkAll parts + 1
  | .iface _ d => uptoBulk d + 1
  | .map entries => uptoBulkEntries entries + 1
  | .held _ => 1
def uptoBulkAll {H : Type} : List (DataW H) → Nat
  | [] => 0
  | d :: r => uptoBulk d + uptoBulkAll r
def uptoBulkEntries {H : Type} : List (Lit × DataW H) → Nat
  | [] => 0
  | x :: r => uptoBulkEntry x + uptoBulkEntries r
def uptoBulkEntry {H : Type} : Lit × DataW H → Nat
  | (.string bytes, d) => bytes.length + uptoBulk d + 1
  | (_, d) => uptoBulk d + 1
 end
def uptoSmall : (H : Type) → List (DataW H) → Bool := fun _ ds => decide (uptoBulkAll ds ≤ 1048576)
def OpenSpec.upto (s : _root_.Go.ChangeSpec) : _root_.Go.OpenSpec := { _root_.Go.OpenSpec.ofChange s with cond := some uptoSmall }

/-- 'laws.FnLearnedOf', WHERE WHAT IT READS IS OF BULK AT MOST 1048576: true; the input reads as it did. -/
def fnLearnedOfUptoRow : OpenClaim := { program := "ytakkdpjgdmngkaa", sum := "de3b694dce7de6105290b962d6b42ffd39824a8c21b7da6c7bbc614d722f369b", func := "loop.example/hideandseek/laws.FnLearnedOf", spec := "fnLearnedOf", unfollowed := true, recurses := true, apart := false, narrowed := true }
def FnLearnedOfUptoSaid : Prop := fnLearnedOfUptoRow.holds Try.pinned (OpenSpec.upto fnLearnedOfSpec)

/-- 'laws.FnGapOf', WHERE WHAT IT READS IS OF BULK AT MOST 1048576: true; the input reads as it did. -/
def fnGapOfUptoRow : OpenClaim := { program := "ytakkdpjgdmngkaa", sum := "de3b694dce7de6105290b962d6b42ffd39824a8c21b7da6c7bbc614d722f369b", func := "loop.example/hideandseek/laws.FnGapOf", spec := "fnGapOf", unfollowed := true, recurses := true, apart := false, narrowed := true }
def FnGapOfUptoSaid : Prop := fnGapOfUptoRow.holds Try.pinned (OpenSpec.upto fnGapOfSpec)

/-- 'laws.FnLeastGap', WHERE WHAT IT READS IS OF BULK AT MOST 1048576: true; the input reads as it did. -/
def fnLeastGapUptoRow : OpenClaim := { program := "ytakkdpjgdmngkaa", sum := "de3b694dce7de6105290b962d6b42ffd39824a8c21b7da6c7bbc614d722f369b", func := "loop.example/hideandseek/laws.FnLeastGap", spec := "fnLeastGap", unfollowed := true, recurses := true, apart := false, narrowed := true }
def FnLeastGapUptoSaid : Prop := fnLeastGapUptoRow.holds Try.pinned (OpenSpec.upto fnLeastGapSpec)

/-- 'laws.FnExactLearnedOf', WHERE WHAT IT READS IS OF BULK AT MOST 1048576: true; the input reads as it did. -/
def fnExactLearnedOfUptoRow : OpenClaim := { program := "ytakkdpjgdmngkaa", sum := "de3b694dce7de6105290b962d6b42ffd39824a8c21b7da6c7bbc614d722f369b", func := "loop.example/hideandseek/laws.FnExactLearnedOf", spec := "fnExactLearnedOf", unfollowed := true, recurses := true, apart := false, narrowed := true }
def FnExactLearnedOfUptoSaid : Prop := fnExactLearnedOfUptoRow.holds Try.pinned (OpenSpec.upto fnExactLearnedOfSpec)

/-- 'laws.FnExactGapOf', WHERE WHAT IT READS IS OF BULK AT MOST 1048576: true; the input reads as it did. -/
def fnExactGapOfUptoRow : OpenClaim := { program := "ytakkdpjgdmngkaa", sum := "de3b694dce7de6105290b962d6b42ffd39824a8c21b7da6c7bbc614d722f369b", func := "loop.example/hideandseek/laws.FnExactGapOf", spec := "fnExactGapOf", unfollowed := true, recurses := true, apart := false, narrowed := true }
def FnExactGapOfUptoSaid : Prop := fnExactGapOfUptoRow.holds Try.pinned (OpenSpec.upto fnExactGapOfSpec)

/-- 'laws.FnExactLeastGap', WHERE WHAT IT READS IS OF BULK AT MOST 1048576: true; the input reads as it did. -/
def fnExactLeastGapUptoRow : OpenClaim := { program := "ytakkdpjgdmngkaa", sum := "de3b694dce7de6105290b962d6b42ffd39824a8c21b7da6c7bbc614d722f369b", func := "loop.example/hideandseek/laws.FnExactLeastGap", spec := "fnExactLeastGap", unfollowed := true, recurses := true, apart := false, narrowed := true }
def FnExactLeastGapUptoSaid : Prop := fnExactLeastGapUptoRow.holds Try.pinned (OpenSpec.upto fnExactLeastGapSpec)

end Rows
end Go.Proofs.Ytakkdpjgdmngkaa
