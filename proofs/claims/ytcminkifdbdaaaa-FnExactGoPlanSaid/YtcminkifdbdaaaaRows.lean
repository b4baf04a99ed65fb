/-
  No cell of these rows narrows 'for every input' (looked for: loops, veiled, ifaces, maps, wideKeys, modest, calm, conditions, laid).
  DERIVED. THE GIVEN ROWS OF THIS SEAT. 12 by the template 'for every input the law returns true; each argument reads behind the call as it read before'; 0 by the template 'total and deterministic' (their statements: YtcminkifdbdaaaaTotals.lean).
  GIVEN WITH THE SEED: the statements are not yours to turn. If you find one false, say at which input.
  Laid BY PROGRAM, IN A SANDBOX (cutbox-rows.mjs): the forced cells as the released guide's own fill.sh prints them over the translation 6032407cbfbc5e70… (all of the seat's roots in one cut). By AI agents, Wed Nov 11 2026. No macro, syntax, notation, axiom, sorry.
-/
import Derived.Test.YtcminkifdbdaaaaChecked
import GoSem.Claim
import GoSem.ClaimJoined
import GoSem.ClaimMapViews
import Derived.JoinedTies
import Derived.KernelRfl
namespace Go.Proofs.Ytcminkifdbdaaaa
/- THE CELL 'sum', in the pinned program and in every row, IS THE sha256 OF THE DUMP (.gsa) THAT YtcminkifdbdaaaaProg.lean LOADS. Nothing in Lean hashes anything: it is a label: what it is worth is what the hold of that sum in a sandbox is worth. -/
noncomputable def Try.pinned : Pinned := { name := "ytcminkifdbdaaaa", sum := "6032407cbfbc5e709172a097d4b8ebf4f237640e792fea076c6a567ebbc6cae7", checked := Try.checked }
namespace Rows
def none {H : Type} : Left H := { results := [], args := [] }

/-- 'laws.FnTownOk': WHATEVER THE INPUT: true; the input reads as it did. -/
def fnTownOkSpec : ChangeSpec := { name := "fnTownOk", fn := fun _ => fun
  | [d] => { results := [.lit (.bool true)], args := [d] }
  | _ => none }
def fnTownOkRow : OpenClaim := { program := "ytcminkifdbdaaaa", sum := "6032407cbfbc5e709172a097d4b8ebf4f237640e792fea076c6a567ebbc6cae7", func := "loop.example/hideandseek/laws.FnTownOk", spec := "fnTownOk", apart := false }
def FnTownOkSaid : Prop := fnTownOkRow.holds Try.pinned (OpenSpec.ofChange fnTownOkSpec)

/-- ITS FALSE NEIGHBOUR: 'it returns false'. Refute it at one input. -/
def fnTownOkWrong : ChangeSpec := { name := "fnTownOk", fn := fun _ => fun
  | [d] => { results := [.lit (.bool false)], args := [d] }
  | _ => none }
def FnTownOkWrongFalsely : Prop := fnTownOkRow.holds Try.pinned (OpenSpec.ofChange fnTownOkWrong)

/-- 'laws.FnWaysOf': WHATEVER THE INPUT: true; the input reads as it did. -/
def fnWaysOfSpec : ChangeSpec := { name := "fnWaysOf", fn := fun _ => fun
  | [d] => { results := [.lit (.bool true)], args := [d] }
  | _ => none }
def fnWaysOfRow : OpenClaim := { program := "ytcminkifdbdaaaa", sum := "6032407cbfbc5e709172a097d4b8ebf4f237640e792fea076c6a567ebbc6cae7", func := "loop.example/hideandseek/laws.FnWaysOf", spec := "fnWaysOf", unfollowed := true, recurses := true, apart := false }
def FnWaysOfSaid : Prop := fnWaysOfRow.holds Try.pinned (OpenSpec.ofChange fnWaysOfSpec)

/-- ITS FALSE NEIGHBOUR: 'it returns false'. Refute it at one input. -/
def fnWaysOfWrong : ChangeSpec := { name := "fnWaysOf", fn := fun _ => fun
  | [d] => { results := [.lit (.bool false)], args := [d] }
  | _ => none }
def FnWaysOfWrongFalsely : Prop := fnWaysOfRow.holds Try.pinned (OpenSpec.ofChange fnWaysOfWrong)

/-- 'laws.FnGuardGame': WHATEVER THE INPUT: true; the input reads as it did. -/
def fnGuardGameSpec : ChangeSpec := { name := "fnGuardGame", fn := fun _ => fun
  | [d] => { results := [.lit (.bool true)], args := [d] }
  | _ => none }
def fnGuardGameRow : OpenClaim := { program := "ytcminkifdbdaaaa", sum := "6032407cbfbc5e709172a097d4b8ebf4f237640e792fea076c6a567ebbc6cae7", func := "loop.example/hideandseek/laws.FnGuardGame", spec := "fnGuardGame", unfollowed := true, recurses := true, apart := false }
def FnGuardGameSaid : Prop := fnGuardGameRow.holds Try.pinned (OpenSpec.ofChange fnGuardGameSpec)

/-- ITS FALSE NEIGHBOUR: 'it returns false'. Refute it at one input. -/
def fnGuardGameWrong : ChangeSpec := { name := "fnGuardGame", fn := fun _ => fun
  | [d] => { results := [.lit (.bool false)], args := [d] }
  | _ => none }
def FnGuardGameWrongFalsely : Prop := fnGuardGameRow.holds Try.pinned (OpenSpec.ofChange fnGuardGameWrong)

/-- 'laws.FnMostWays': WHATEVER THE INPUT: true; the input reads as it did. -/
def fnMostWaysSpec : ChangeSpec := { name := "fnMostWays", fn := fun _ => fun
  | [d] => { results := [.lit (.bool true)], args := [d] }
  | _ => none }
def fnMostWaysRow : OpenClaim := { program := "ytcminkifdbdaaaa", sum := "6032407cbfbc5e709172a097d4b8ebf4f237640e792fea076c6a567ebbc6cae7", func := "loop.example/hideandseek/laws.FnMostWays", spec := "fnMostWays", unfollowed := true, recurses := true, apart := false }
def FnMostWaysSaid : Prop := fnMostWaysRow.holds Try.pinned (OpenSpec.ofChange fnMostWaysSpec)

/-- ITS FALSE NEIGHBOUR: 'it returns false'. Refute it at one input. -/
def fnMostWaysWrong : ChangeSpec := { name := "fnMostWays", fn := fun _ => fun
  | [d] => { results := [.lit (.bool false)], args := [d] }
  | _ => none }
def FnMostWaysWrongFalsely : Prop := fnMostWaysRow.holds Try.pinned (OpenSpec.ofChange fnMostWaysWrong)

/-- 'laws.FnGoPlan': WHATEVER THE INPUT: true; the input reads as it did. -/
def fnGoPlanSpec : ChangeSpec := { name := "fnGoPlan", fn := fun _ => fun
  | [d] => { results := [.lit (.bool true)], args := [d] }
  | _ => none }
def fnGoPlanRow : OpenClaim := { program := "ytcminkifdbdaaaa", sum := "6032407cbfbc5e709172a097d4b8ebf4f237640e792fea076c6a567ebbc6cae7", func := "loop.example/hideandseek/laws.FnGoPlan", spec := "fnGoPlan", unfollowed := true, recurses := true, apart := false }
def FnGoPlanSaid : Prop := fnGoPlanRow.holds Try.pinned (OpenSpec.ofChange fnGoPlanSpec)

/-- ITS FALSE NEIGHBOUR: 'it returns false'. Refute it at one input. -/
def fnGoPlanWrong : ChangeSpec := { name := "fnGoPlan", fn := fun _ => fun
  | [d] => { results := [.lit (.bool false)], args := [d] }
  | _ => none }
def FnGoPlanWrongFalsely : Prop := fnGoPlanRow.holds Try.pinned (OpenSpec.ofChange fnGoPlanWrong)

/-- 'laws.FnGuardPlan': WHATEVER THE INPUT: true; the input reads as it did. -/
def fnGuardPlanSpec : ChangeSpec := { name := "fnGuardPlan", fn := fun _ => fun
  | [d] => { results := [.lit (.bool true)], args := [d] }
  | _ => none }
def fnGuardPlanRow : OpenClaim := { program := "ytcminkifdbdaaaa", sum := "6032407cbfbc5e709172a097d4b8ebf4f237640e792fea076c6a567ebbc6cae7", func := "loop.example/hideandseek/laws.FnGuardPlan", spec := "fnGuardPlan", unfollowed := true, recurses := true, apart := false }
def FnGuardPlanSaid : Prop := fnGuardPlanRow.holds Try.pinned (OpenSpec.ofChange fnGuardPlanSpec)

/-- ITS FALSE NEIGHBOUR: 'it returns false'. Refute it at one input. -/
def fnGuardPlanWrong : ChangeSpec := { name := "fnGuardPlan", fn := fun _ => fun
  | [d] => { results := [.lit (.bool false)], args := [d] }
  | _ => none }
def FnGuardPlanWrongFalsely : Prop := fnGuardPlanRow.holds Try.pinned (OpenSpec.ofChange fnGuardPlanWrong)

/-- 'laws.FnExactTownOk': WHATEVER THE INPUT: true; the input reads as it did. -/
def fnExactTownOkSpec : ChangeSpec := { name := "fnExactTownOk", fn := fun _ => fun
  | [d] => { results := [.lit (.bool true)], args := [d] }
  | _ => none }
def fnExactTownOkRow : OpenClaim := { program := "ytcminkifdbdaaaa", sum := "6032407cbfbc5e709172a097d4b8ebf4f237640e792fea076c6a567ebbc6cae7", func := "loop.example/hideandseek/laws.FnExactTownOk", spec := "fnExactTownOk", apart := false }
def FnExactTownOkSaid : Prop := fnExactTownOkRow.holds Try.pinned (OpenSpec.ofChange fnExactTownOkSpec)

/-- ITS FALSE NEIGHBOUR: 'it returns false'. Refute it at one input. -/
def fnExactTownOkWrong : ChangeSpec := { name := "fnExactTownOk", fn := fun _ => fun
  | [d] => { results := [.lit (.bool false)], args := [d] }
  | _ => none }
def FnExactTownOkWrongFalsely : Prop := fnExactTownOkRow.holds Try.pinned (OpenSpec.ofChange fnExactTownOkWrong)

/-- 'laws.FnExactWaysOf': WHATEVER THE INPUT: true; the input reads as it did. -/
def fnExactWaysOfSpec : ChangeSpec := { name := "fnExactWaysOf", fn := fun _ => fun
  | [d] => { results := [.lit (.bool true)], args := [d] }
  | _ => none }
def fnExactWaysOfRow : OpenClaim := { program := "ytcminkifdbdaaaa", sum := "6032407cbfbc5e709172a097d4b8ebf4f237640e792fea076c6a567ebbc6cae7", func := "loop.example/hideandseek/laws.FnExactWaysOf", spec := "fnExactWaysOf", unfollowed := true, recurses := true, apart := false }
def FnExactWaysOfSaid : Prop := fnExactWaysOfRow.holds Try.pinned (OpenSpec.ofChange fnExactWaysOfSpec)

/-- ITS FALSE NEIGHBOUR: 'it returns false'. Refute it at one input. -/
def fnExactWaysOfWrong : ChangeSpec := { name := "fnExactWaysOf", fn := fun _ => fun
  | [d] => { results := [.lit (.bool false)], args := [d] }
  | _ => none }
def FnExactWaysOfWrongFalsely : Prop := fnExactWaysOfRow.holds Try.pinned (OpenSpec.ofChange fnExactWaysOfWrong)

/-- 'laws.FnExactGuardGame': WHATEVER THE INPUT: true; the input reads as it did. -/
def fnExactGuardGameSpec : ChangeSpec := { name := "fnExactGuardGame", fn := fun _ => fun
  | [d] => { results := [.lit (.bool true)], args := [d] }
  | _ => none }
def fnExactGuardGameRow : OpenClaim := { program := "ytcminkifdbdaaaa", sum := "6032407cbfbc5e709172a097d4b8ebf4f237640e792fea076c6a567ebbc6cae7", func := "loop.example/hideandseek/laws.FnExactGuardGame", spec := "fnExactGuardGame", unfollowed := true, recurses := true, apart := false }
def FnExactGuardGameSaid : Prop := fnExactGuardGameRow.holds Try.pinned (OpenSpec.ofChange fnExactGuardGameSpec)

/-- ITS FALSE NEIGHBOUR: 'it returns false'. Refute it at one input. -/
def fnExactGuardGameWrong : ChangeSpec := { name := "fnExactGuardGame", fn := fun _ => fun
  | [d] => { results := [.lit (.bool false)], args := [d] }
  | _ => none }
def FnExactGuardGameWrongFalsely : Prop := fnExactGuardGameRow.holds Try.pinned (OpenSpec.ofChange fnExactGuardGameWrong)

/-- 'laws.FnExactMostWays': WHATEVER THE INPUT: true; the input reads as it did. -/
def fnExactMostWaysSpec : ChangeSpec := { name := "fnExactMostWays", fn := fun _ => fun
  | [d] => { results := [.lit (.bool true)], args := [d] }
  | _ => none }
def fnExactMostWaysRow : OpenClaim := { program := "ytcminkifdbdaaaa", sum := "6032407cbfbc5e709172a097d4b8ebf4f237640e792fea076c6a567ebbc6cae7", func := "loop.example/hideandseek/laws.FnExactMostWays", spec := "fnExactMostWays", unfollowed := true, recurses := true, apart := false }
def FnExactMostWaysSaid : Prop := fnExactMostWaysRow.holds Try.pinned (OpenSpec.ofChange fnExactMostWaysSpec)

/-- ITS FALSE NEIGHBOUR: 'it returns false'. Refute it at one input. -/
def fnExactMostWaysWrong : ChangeSpec := { name := "fnExactMostWays", fn := fun _ => fun
  | [d] => { results := [.lit (.bool false)], args := [d] }
  | _ => none }
def FnExactMostWaysWrongFalsely : Prop := fnExactMostWaysRow.holds Try.pinned (OpenSpec.ofChange fnExactMostWaysWrong)

/-- 'laws.FnExactGoPlan': WHATEVER THE INPUT: true; the input reads as it did. -/
def fnExactGoPlanSpec : ChangeSpec := { name := "fnExactGoPlan", fn := fun _ => fun
  | [d] => { results := [.lit (.bool true)], args := [d] }
  | _ => none }
def fnExactGoPlanRow : OpenClaim := { program := "ytcminkifdbdaaaa", sum := "6032407cbfbc5e709172a097d4b8ebf4f237640e792fea076c6a567ebbc6cae7", func := "loop.example/hideandseek/laws.FnExactGoPlan", spec := "fnExactGoPlan", unfollowed := true, recurses := true, apart := false }
def FnExactGoPlanSaid : Prop := fnExactGoPlanRow.holds Try.pinned (OpenSpec.ofChange fnExactGoPlanSpec)

/-- ITS FALSE NEIGHBOUR: 'it returns false'. Refute it at one input. -/
def fnExactGoPlanWrong : ChangeSpec := { name := "fnExactGoPlan", fn := fun _ => fun
  | [d] => { results := [.lit (.bool false)], args := [d] }
  | _ => none }
def FnExactGoPlanWrongFalsely : Prop := fnExactGoPlanRow.holds Try.pinned (OpenSpec.ofChange fnExactGoPlanWrong)

/-- 'laws.FnExactGuardPlan': WHATEVER THE INPUT: true; the input reads as it did. -/
def fnExactGuardPlanSpec : ChangeSpec := { name := "fnExactGuardPlan", fn := fun _ => fun
  | [d] => { results := [.lit (.bool true)], args := [d] }
  | _ => none }
def fnExactGuardPlanRow : OpenClaim := { program := "ytcminkifdbdaaaa", sum := "6032407cbfbc5e709172a097d4b8ebf4f237640e792fea076c6a567ebbc6cae7", func := "loop.example/hideandseek/laws.FnExactGuardPlan", spec := "fnExactGuardPlan", unfollowed := true, recurses := true, apart := false }
def FnExactGuardPlanSaid : Prop := fnExactGuardPlanRow.holds Try.pinned (OpenSpec.ofChange fnExactGuardPlanSpec)

/-- ITS FALSE NEIGHBOUR: 'it returns false'. Refute it at one input. -/
def fnExactGuardPlanWrong : ChangeSpec := { name := "fnExactGuardPlan", fn := fun _ => fun
  | [d] => { results := [.lit (.bool false)], args := [d] }
  | _ => none }
def FnExactGuardPlanWrongFalsely : Prop := fnExactGuardPlanRow.holds Try.pinned (OpenSpec.ofChange fnExactGuardPlanWrong)

/- THE SECOND FORM. 'bulk': how many values and letters a reading holds, each counted each time it is reached (what is shared counts as often as it is met; a slice's spare places count too). A statement '..UptoSaid' is the law's where the arguments, and the package variables that the reading takes, are together of bulk at most 1048576: NARROWER than '..Said'. Prove '..Said' where nothing that the law and all that it calls make is longer than what came in: it says more and counts as full. Else prove '..UptoSaid'. A law counts once. -/
mutual
def uptoBulk {H : Type} : DataW H → Nat
  | .lit (.string bytes) => bytes.length + 1
  | .lit _ => 1
  | .nil => 1
  | .ptr d => uptoBulk d + 1
  | .slice elems spare => uptoBulkAll elems + uptoBulkAll spare + 1
  | .agg parts => uptoBulkAll parts + 1
  | .iface _ d => uptoBulk d + 1
  | .map entries => uptoBulkEntries entries + 1
  | .held _ => 1
def uptoBulkAll {H : Type} : List (DataW H) → Nat
  | [] => 0
  | d :: r => uptoBulk d + uptoBulkAll r
def uptoBulkEntries {H : Type} : List (Lit × DataW H) → Nat
  | [] => 0
  | x :: r => uptoBulkEntry x + uptoBulkEntries r
def uptoBulkEntry {H : Type} : Lit × DataW H → Nat
  | (.string bytes, d) => bytes.length + uptoBulk d + 1
  | (_, d) => uptoBulk d + 1
 end
def uptoSmall : (H : Type) → List (DataW H) → Bool := fun _ ds => decide (uptoBulkAll ds ≤ 1048576)
def OpenSpec.upto (s : _root_.Go.ChangeSpec) : _root_.Go.OpenSpec := { _root_.Go.OpenSpec.ofChange s with cond := some uptoSmall }

/-- 'laws.FnTownOk', WHERE WHAT IT READS IS OF BULK AT MOST 1048576: true; the input reads as it did. -/
def fnTownOkUptoRow : OpenClaim := { program := "ytcminkifdbdaaaa", sum := "6032407cbfbc5e709172a097d4b8ebf4f237640e792fea076c6a567ebbc6cae7", func := "loop.example/hideandseek/laws.FnTownOk", spec := "fnTownOk", apart := false, narrowed := true }
def FnTownOkUptoSaid : Prop := fnTownOkUptoRow.holds Try.pinned (OpenSpec.upto fnTownOkSpec)

/-- 'laws.FnWaysOf', WHERE WHAT IT READS IS OF BULK AT MOST 1048576: true; the input reads as it did. -/
def fnWaysOfUptoRow : OpenClaim := { program := "ytcminkifdbdaaaa", sum := "6032407cbfbc5e709172a097d4b8ebf4f237640e792fea076c6a567ebbc6cae7", func := "loop.example/hideandseek/laws.FnWaysOf", spec := "fnWaysOf", unfollowed := true, recurses := true, apart := false, narrowed := true }
def FnWaysOfUptoSaid : Prop := fnWaysOfUptoRow.holds Try.pinned (OpenSpec.upto fnWaysOfSpec)

/-- 'laws.FnGuardGame', WHERE WHAT IT READS IS OF BULK AT MOST 1048576: true; the input reads as it did. -/
def fnGuardGameUptoRow : OpenClaim := { program := "ytcminkifdbdaaaa", sum := "6032407cbfbc5e709172a097d4b8ebf4f237640e792fea076c6a567ebbc6cae7", func := "loop.example/hideandseek/laws.FnGuardGame", spec := "fnGuardGame", unfollowed := true, recurses := true, apart := false, narrowed := true }
def FnGuardGameUptoSaid : Prop := fnGuardGameUptoRow.holds Try.pinned (OpenSpec.upto fnGuardGameSpec)

/-- 'laws.FnMostWays', WHERE WHAT IT READS IS OF BULK AT MOST 1048576: true; the input reads as it did. -/
def fnMostWaysUptoRow : OpenClaim := { program := "ytcminkifdbdaaaa", sum := "6032407cbfbc5e709172a097d4b8ebf4f237640e792fea076c6a567ebbc6cae7", func := "loop.example/hideandseek/laws.FnMostWays", spec := "fnMostWays", unfollowed := true, recurses := true, apart := false, narrowed := true }
def FnMostWaysUptoSaid : Prop := fnMostWaysUptoRow.holds Try.pinned (OpenSpec.upto fnMostWaysSpec)

/-- 'laws.FnGoPlan', WHERE WHAT IT READS IS OF BULK AT MOST 1048576: true; the input reads as it did. -/
def fnGoPlanUptoRow : OpenClaim := { program := "ytcminkifdbdaaaa", sum := "6032407cbfbc5e709172a097d4b8ebf4f237640e792fea076c6a567ebbc6cae7", func := "loop.example/hideandseek/laws.FnGoPlan", spec := "fnGoPlan", unfollowed := true, recurses := true, apart := false, narrowed := true }
def FnGoPlanUptoSaid : Prop := fnGoPlanUptoRow.holds Try.pinned (OpenSpec.upto fnGoPlanSpec)

/-- 'laws.FnGuardPlan', WHERE WHAT IT READS IS OF BULK AT MOST 1048576: true; the input reads as it did. -/
def fnGuardPlanUptoRow : OpenClaim := { program := "ytcminkifdbdaaaa", sum := "6032407cbfbc5e709172a097d4b8ebf4f237640e792fea076c6a567ebbc6cae7", func := "loop.example/hideandseek/laws.FnGuardPlan", spec := "fnGuardPlan", unfollowed := true, recurses := true, apart := false, narrowed := true }
def FnGuardPlanUptoSaid : Prop := fnGuardPlanUptoRow.holds Try.pinned (OpenSpec.upto fnGuardPlanSpec)

/-- 'laws.FnExactTownOk', WHERE WHAT IT READS IS OF BULK AT MOST 1048576: true; the input reads as it did. -/
def fnExactTownOkUptoRow : OpenClaim := { program := "ytcminkifdbdaaaa", sum := "6032407cbfbc5e709172a097d4b8ebf4f237640e792fea076c6a567ebbc6cae7", func := "loop.example/hideandseek/laws.FnExactTownOk", spec := "fnExactTownOk", apart := false, narrowed := true }
def FnExactTownOkUptoSaid : Prop := fnExactTownOkUptoRow.holds Try.pinned (OpenSpec.upto fnExactTownOkSpec)

/-- 'laws.FnExactWaysOf', WHERE WHAT IT READS IS OF BULK AT MOST 1048576: true; the input reads as it did. -/
def fnExactWaysOfUptoRow : OpenClaim := { program := "ytcminkifdbdaaaa", sum := "6032407cbfbc5e709172a097d4b8ebf4f237640e792fea076c6a567ebbc6cae7", func := "loop.example/hideandseek/laws.FnExactWaysOf", spec := "fnExactWaysOf", unfollowed := true, recurses := true, apart := false, narrowed := true }
def FnExactWaysOfUptoSaid : Prop := fnExactWaysOfUptoRow.holds Try.pinned (OpenSpec.upto fnExactWaysOfSpec)

/-- 'laws.FnExactGuardGame', WHERE WHAT IT READS IS OF BULK AT MOST 1048576: true; the input reads as it did. -/
def fnExactGuardGameUptoRow : OpenClaim := { program := "ytcminkifdbdaaaa", sum := "6032407cbfbc5e709172a097d4b8ebf4f237640e792fea076c6a567ebbc6cae7", func := "loop.example/hideandseek/laws.FnExactGuardGame", spec := "fnExactGuardGame", unfollowed := true, recurses := true, apart := false, narrowed := true }
def FnExactGuardGameUptoSaid : Prop := fnExactGuardGameUptoRow.holds Try.pinned (OpenSpec.upto fnExactGuardGameSpec)

/-- 'laws.FnExactMostWays', WHERE WHAT IT READS IS OF BULK AT MOST 1048576: true; the input reads as it did. -/
def fnExactMostWaysUptoRow : OpenClaim := { program := "ytcminkifdbdaaaa", sum := "6032407cbfbc5e709172a097d4b8ebf4f237640e792fea076c6a567ebbc6cae7", func := "loop.example/hideandseek/laws.FnExactMostWays", spec := "fnExactMostWays", unfollowed := true, recurses := true, apart := false, narrowed := true }
def FnExactMostWaysUptoSaid : Prop := fnExactMostWaysUptoRow.holds Try.pinned (OpenSpec.upto fnExactMostWaysSpec)

/-- 'laws.FnExactGoPlan', WHERE WHAT IT READS IS OF BULK AT MOST 1048576: true; the input reads as it did. -/
def fnExactGoPlanUptoRow : OpenClaim := { program := "ytcminkifdbdaaaa", sum := "6032407cbfbc5e709172a097d4b8ebf4f237640e792fea076c6a567ebbc6cae7", func := "loop.example/hideandseek/laws.FnExactGoPlan", spec := "fnExactGoPlan", unfollowed := true, recurses := true, apart := false, narrowed := true }
def FnExactGoPlanUptoSaid : Prop := fnExactGoPlanUptoRow.holds Try.pinned (OpenSpec.upto fnExactGoPlanSpec)

/-- 'laws.FnExactGuardPlan', WHERE WHAT IT READS IS OF BULK AT MOST 1048576: true; the input reads as it did. -/
def fnExactGuardPlanUptoRow : OpenClaim := { program := "ytcminkifdbdaaaa", sum := "6032407cbfbc5e709172a097d4b8ebf4f237640e792fea076c6a567ebbc6cae7", func := "loop.example/hideandseek/laws.FnExactGuardPlan", spec := "fnExactGuardPlan", unfollowed := true, recurses := true, apart := false, narrowed := true }
def FnExactGuardPlanUptoSaid : Prop := fnExactGuardPlanUptoRow.holds Try.pinned (OpenSpec.upto fnExactGuardPlanSpec)

end Rows
end Go.Proofs.Ytcminkifdbdaaaa
