/-
  No cell of these rows narrows 'for every input' (looked for: loops, veiled, ifaces, maps, wideKeys, modest, calm, conditions, laid).
  DERIVED. THE GIVEN ROWS OF THIS SEAT. 10 by the template 'for every input the law returns true; each argument reads behind the call as it read before'; 0 by the template 'total and deterministic' (their statements: YtaphlhdkdokopaaTotals.lean).
  GIVEN WITH THE SEED: the statements are not yours to turn. If you find one false, say at which input.
  Laid BY PROGRAM, IN A SANDBOX (cutbox-rows.mjs): the forced cells as the released guide's own fill.sh prints them over the translation 3304062419b312d8… (all of the seat's roots in one cut). By AI agents, Wed Nov 11 2026. No macro, syntax, notation, axiom, sorry.
-/
import Derived.Test.YtaphlhdkdokopaaChecked
import GoSem.Claim
import GoSem.ClaimJoined
import GoSem.ClaimMapViews
import Derived.JoinedTies
import Derived.KernelRfl
namespace Go.Proofs.Ytaphlhdkdokopaa
/- THE CELL 'sum', in the pinned program and in every row, IS THE sha256 OF THE DUMP (.gsa) THAT YtaphlhdkdokopaaProg.lean LOADS. Nothing in Lean hashes anything: it is a label: what it is worth is what the hold of that sum in a sandbox is worth. -/
noncomputable def Try.pinned : Pinned := { name := "ytaphlhdkdokopaa", sum := "3304062419b312d86a9a02adadd824d0161edfb3554304d972df5e3cd398f82a", checked := Try.checked }
namespace Rows
def none {H : Type} : Left H := { results := [], args := [] }

/-- 'laws.FnGameOk': WHATEVER THE INPUT: true; the input reads as it did. -/
def fnGameOkSpec : ChangeSpec := { name := "fnGameOk", fn := fun _ => fun
  | [d] => { results := [.lit (.bool true)], args := [d] }
  | _ => none }
def fnGameOkRow : OpenClaim := { program := "ytaphlhdkdokopaa", sum := "3304062419b312d86a9a02adadd824d0161edfb3554304d972df5e3cd398f82a", func := "loop.example/hideandseek/laws.FnGameOk", spec := "fnGameOk", apart := false }
def FnGameOkSaid : Prop := fnGameOkRow.holds Try.pinned (OpenSpec.ofChange fnGameOkSpec)

/-- ITS FALSE NEIGHBOUR: 'it returns false'. Refute it at one input. -/
def fnGameOkWrong : ChangeSpec := { name := "fnGameOk", fn := fun _ => fun
  | [d] => { results := [.lit (.bool false)], args := [d] }
  | _ => none }
def FnGameOkWrongFalsely : Prop := fnGameOkRow.holds Try.pinned (OpenSpec.ofChange fnGameOkWrong)

/-- 'laws.FnFloorOf': WHATEVER THE INPUT: true; the input reads as it did. -/
def fnFloorOfSpec : ChangeSpec := { name := "fnFloorOf", fn := fun _ => fun
  | [d] => { results := [.lit (.bool true)], args := [d] }
  | _ => none }
def fnFloorOfRow : OpenClaim := { program := "ytaphlhdkdokopaa", sum := "3304062419b312d86a9a02adadd824d0161edfb3554304d972df5e3cd398f82a", func := "loop.example/hideandseek/laws.FnFloorOf", spec := "fnFloorOf", unfollowed := true, recurses := true, apart := false }
def FnFloorOfSaid : Prop := fnFloorOfRow.holds Try.pinned (OpenSpec.ofChange fnFloorOfSpec)

/-- ITS FALSE NEIGHBOUR: 'it returns false'. Refute it at one input. -/
def fnFloorOfWrong : ChangeSpec := { name := "fnFloorOf", fn := fun _ => fun
  | [d] => { results := [.lit (.bool false)], args := [d] }
  | _ => none }
def FnFloorOfWrongFalsely : Prop := fnFloorOfRow.holds Try.pinned (OpenSpec.ofChange fnFloorOfWrong)

/-- 'laws.FnRoofOf': WHATEVER THE INPUT: true; the input reads as it did. -/
def fnRoofOfSpec : ChangeSpec := { name := "fnRoofOf", fn := fun _ => fun
  | [d] => { results := [.lit (.bool true)], args := [d] }
  | _ => none }
def fnRoofOfRow : OpenClaim := { program := "ytaphlhdkdokopaa", sum := "3304062419b312d86a9a02adadd824d0161edfb3554304d972df5e3cd398f82a", func := "loop.example/hideandseek/laws.FnRoofOf", spec := "fnRoofOf", unfollowed := true, recurses := true, apart := false }
def FnRoofOfSaid : Prop := fnRoofOfRow.holds Try.pinned (OpenSpec.ofChange fnRoofOfSpec)

/-- ITS FALSE NEIGHBOUR: 'it returns false'. Refute it at one input. -/
def fnRoofOfWrong : ChangeSpec := { name := "fnRoofOf", fn := fun _ => fun
  | [d] => { results := [.lit (.bool false)], args := [d] }
  | _ => none }
def FnRoofOfWrongFalsely : Prop := fnRoofOfRow.holds Try.pinned (OpenSpec.ofChange fnRoofOfWrong)

/-- 'laws.FnSaddlesOf': WHATEVER THE INPUT: true; the input reads as it did. -/
def fnSaddlesOfSpec : ChangeSpec := { name := "fnSaddlesOf", fn := fun _ => fun
  | [d] => { results := [.lit (.bool true)], args := [d] }
  | _ => none }
def fnSaddlesOfRow : OpenClaim := { program := "ytaphlhdkdokopaa", sum := "3304062419b312d86a9a02adadd824d0161edfb3554304d972df5e3cd398f82a", func := "loop.example/hideandseek/laws.FnSaddlesOf", spec := "fnSaddlesOf", unfollowed := true, recurses := true, apart := false }
def FnSaddlesOfSaid : Prop := fnSaddlesOfRow.holds Try.pinned (OpenSpec.ofChange fnSaddlesOfSpec)

/-- ITS FALSE NEIGHBOUR: 'it returns false'. Refute it at one input. -/
def fnSaddlesOfWrong : ChangeSpec := { name := "fnSaddlesOf", fn := fun _ => fun
  | [d] => { results := [.lit (.bool false)], args := [d] }
  | _ => none }
def FnSaddlesOfWrongFalsely : Prop := fnSaddlesOfRow.holds Try.pinned (OpenSpec.ofChange fnSaddlesOfWrong)

/-- 'laws.FnTurnedOf': WHATEVER THE INPUT: true; the input reads as it did. -/
def fnTurnedOfSpec : ChangeSpec := { name := "fnTurnedOf", fn := fun _ => fun
  | [d] => { results := [.lit (.bool true)], args := [d] }
  | _ => none }
def fnTurnedOfRow : OpenClaim := { program := "ytaphlhdkdokopaa", sum := "3304062419b312d86a9a02adadd824d0161edfb3554304d972df5e3cd398f82a", func := "loop.example/hideandseek/laws.FnTurnedOf", spec := "fnTurnedOf", apart := false }
def FnTurnedOfSaid : Prop := fnTurnedOfRow.holds Try.pinned (OpenSpec.ofChange fnTurnedOfSpec)

/-- ITS FALSE NEIGHBOUR: 'it returns false'. Refute it at one input. -/
def fnTurnedOfWrong : ChangeSpec := { name := "fnTurnedOf", fn := fun _ => fun
  | [d] => { results := [.lit (.bool false)], args := [d] }
  | _ => none }
def FnTurnedOfWrongFalsely : Prop := fnTurnedOfRow.holds Try.pinned (OpenSpec.ofChange fnTurnedOfWrong)

/-- 'laws.FnExactGameOk': WHATEVER THE INPUT: true; the input reads as it did. -/
def fnExactGameOkSpec : ChangeSpec := { name := "fnExactGameOk", fn := fun _ => fun
  | [d] => { results := [.lit (.bool true)], args := [d] }
  | _ => none }
def fnExactGameOkRow : OpenClaim := { program := "ytaphlhdkdokopaa", sum := "3304062419b312d86a9a02adadd824d0161edfb3554304d972df5e3cd398f82a", func := "loop.example/hideandseek/laws.FnExactGameOk", spec := "fnExactGameOk", apart := false }
def FnExactGameOkSaid : Prop := fnExactGameOkRow.holds Try.pinned (OpenSpec.ofChange fnExactGameOkSpec)

/-- ITS FALSE NEIGHBOUR: 'it returns false'. Refute it at one input. -/
def fnExactGameOkWrong : ChangeSpec := { name := "fnExactGameOk", fn := fun _ => fun
  | [d] => { results := [.lit (.bool false)], args := [d] }
  | _ => none }
def FnExactGameOkWrongFalsely : Prop := fnExactGameOkRow.holds Try.pinned (OpenSpec.ofChange fnExactGameOkWrong)

/-- 'laws.FnExactFloorOf': WHATEVER THE INPUT: true; the input reads as it did. -/
def fnExactFloorOfSpec : ChangeSpec := { name := "fnExactFloorOf", fn := fun _ => fun
  | [d] => { results := [.lit (.bool true)], args := [d] }
  | _ => none }
def fnExactFloorOfRow : OpenClaim := { program := "ytaphlhdkdokopaa", sum := "3304062419b312d86a9a02adadd824d0161edfb3554304d972df5e3cd398f82a", func := "loop.example/hideandseek/laws.FnExactFloorOf", spec := "fnExactFloorOf", unfollowed := true, recurses := true, apart := false }
def FnExactFloorOfSaid : Prop := fnExactFloorOfRow.holds Try.pinned (OpenSpec.ofChange fnExactFloorOfSpec)

/-- ITS FALSE NEIGHBOUR: 'it returns false'. Refute it at one input. -/
def fnExactFloorOfWrong : ChangeSpec := { name := "fnExactFloorOf", fn := fun _ => fun
  | [d] => { results := [.lit (.bool false)], args := [d] }
  | _ => none }
def FnExactFloorOfWrongFalsely : Prop := fnExactFloorOfRow.holds Try.pinned (OpenSpec.ofChange fnExactFloorOfWrong)

/-- 'laws.FnExactRoofOf': WHATEVER THE INPUT: true; the input reads as it did. -/
def fnExactRoofOfSpec : ChangeSpec := { name := "fnExactRoofOf", fn := fun _ => fun
  | [d] => { results := [.lit (.bool true)], args := [d] }
  | _ => none }
def fnExactRoofOfRow : OpenClaim := { program := "ytaphlhdkdokopaa", sum := "3304062419b312d86a9a02adadd824d0161edfb3554304d972df5e3cd398f82a", func := "loop.example/hideandseek/laws.FnExactRoofOf", spec := "fnExactRoofOf", unfollowed := true, recurses := true, apart := false }
def FnExactRoofOfSaid : Prop := fnExactRoofOfRow.holds Try.pinned (OpenSpec.ofChange fnExactRoofOfSpec)

/-- ITS FALSE NEIGHBOUR: 'it returns false'. Refute it at one input. -/
def fnExactRoofOfWrong : ChangeSpec := { name := "fnExactRoofOf", fn := fun _ => fun
  | [d] => { results := [.lit (.bool false)], args := [d] }
  | _ => none }
def FnExactRoofOfWrongFalsely : Prop := fnExactRoofOfRow.holds Try.pinned (OpenSpec.ofChange fnExactRoofOfWrong)

/-- 'laws.FnExactSaddlesOf': WHATEVER THE INPUT: true; the input reads as it did. -/
def fnExactSaddlesOfSpec : ChangeSpec := { name := "fnExactSaddlesOf", fn := fun _ => fun
  | [d] => { results := [.lit (.bool true)], args := [d] }
  | _ => none }
def fnExactSaddlesOfRow : OpenClaim := { program := "ytaphlhdkdokopaa", sum := "3304062419b312d86a9a02adadd824d0161edfb3554304d972df5e3cd398f82a", func := "loop.example/hideandseek/laws.FnExactSaddlesOf", spec := "fnExactSaddlesOf", unfollowed := true, recurses := true, apart := false }
def FnExactSaddlesOfSaid : Prop := fnExactSaddlesOfRow.holds Try.pinned (OpenSpec.ofChange fnExactSaddlesOfSpec)

/-- ITS FALSE NEIGHBOUR: 'it returns false'. Refute it at one input. -/
def fnExactSaddlesOfWrong : ChangeSpec := { name := "fnExactSaddlesOf", fn := fun _ => fun
  | [d] => { results := [.lit (.bool false)], args := [d] }
  | _ => none }
def FnExactSaddlesOfWrongFalsely : Prop := fnExactSaddlesOfRow.holds Try.pinned (OpenSpec.ofChange fnExactSaddlesOfWrong)

/-- 'laws.FnExactTurnedOf': WHATEVER THE INPUT: true; the input reads as it did. -/
def fnExactTurnedOfSpec : ChangeSpec := { name := "fnExactTurnedOf", fn := fun _ => fun
  | [d] => { results := [.lit (.bool true)], args := [d] }
  | _ => none }
def fnExactTurnedOfRow : OpenClaim := { program := "ytaphlhdkdokopaa", sum := "3304062419b312d86a9a02adadd824d0161edfb3554304d972df5e3cd398f82a", func := "loop.example/hideandseek/laws.FnExactTurnedOf", spec := "fnExactTurnedOf", apart := false }
def FnExactTurnedOfSaid : Prop := fnExactTurnedOfRow.holds Try.pinned (OpenSpec.ofChange fnExactTurnedOfSpec)

/-- ITS FALSE NEIGHBOUR: 'it returns false'. Refute it at one input. -/
def fnExactTurnedOfWrong : ChangeSpec := { name := "fnExactTurnedOf", fn := fun _ => fun
  | [d] => { results := [.lit (.bool false)], args := [d] }
  | _ => none }
def FnExactTurnedOfWrongFalsely : Prop := fnExactTurnedOfRow.holds Try.pinned (OpenSpec.ofChange fnExactTurnedOfWrong)

/- THE SECOND FORM. 'bulk': how many values and letters a reading holds, each counted each time it is reached (what is shared counts as often as it is met; a slice's spare places count too). A statement '..UptoSaid' is the law's where the arguments, and the package variables that the reading takes, are together of bulk at most 1048576: NARROWER than '..Said'. Prove '..Said' where nothing that the law and all that it calls make is longer than what came in: it says more and counts as full. Else prove '..UptoSaid'. A law counts once. -/
mutual
def uptoBulk {H : Type} : DataW H → Nat
  | .lit (.string bytes) => bytes.length + 1
  | .lit _ => 1
  | .nil => 1
  | .ptr d => uptoBulk d + 1
  | .slice elems spare => uptoBulkAll elems + uptoBulkAll spare + 1
  | .agg parts => uptoBulkAll parts + 1
  | .iface _ d => uptoBulk d + 1
  | .map entries => uptoBulkEntries entries + 1
  | .held _ => 1
def uptoBulkAll {H : Type} : List (DataW H) → Nat
  | [] => 0
  | d :: r => uptoBulk d + uptoBulkAll r
def uptoBulkEntries {H : Type} : List (Lit × DataW H) → Nat
  | [] => 0
  | x :: r => uptoBulkEntry x + uptoBulkEntries r
def uptoBulkEntry {H : Type} : Lit × DataW H → Nat
  | (.string bytes, d) => bytes.length + uptoBulk d + 1
  | (_, d) => uptoBulk d + 1
 end
def uptoSmall : (H : Type) → List (DataW H) → Bool := fun _ ds => decide (uptoBulkAll ds ≤ 1048576)
def OpenSpec.upto (s : _root_.Go.ChangeSpec) : _root_.Go.OpenSpec := { _root_.Go.OpenSpec.ofChange s with cond := some uptoSmall }

/-- 'laws.FnGameOk', WHERE WHAT IT READS IS OF BULK AT MOST 1048576: true; the input reads as it did. -/
def fnGameOkUptoRow : OpenClaim := { program := "ytaphlhdkdokopaa", sum := "3304062419b312d86a9a02adadd824d0161edfb3554304d972df5e3cd398f82a", func := "loop.example/hideandseek/laws.FnGameOk", spec := "fnGameOk", apart := false, narrowed := true }
def FnGameOkUptoSaid : Prop := fnGameOkUptoRow.holds Try.pinned (OpenSpec.upto fnGameOkSpec)

/-- 'laws.FnFloorOf', WHERE WHAT IT READS IS OF BULK AT MOST 1048576: true; the input reads as it did. -/
def fnFloorOfUptoRow : OpenClaim := { program := "ytaphlhdkdokopaa", sum := "3304062419b312d86a9a02adadd824d0161edfb3554304d972df5e3cd398f82a", func := "loop.example/hideandseek/laws.FnFloorOf", spec := "fnFloorOf", unfollowed := true, recurses := true, apart := false, narrowed := true }
def FnFloorOfUptoSaid : Prop := fnFloorOfUptoRow.holds Try.pinned (OpenSpec.upto fnFloorOfSpec)

/-- 'laws.FnRoofOf', WHERE WHAT IT READS IS OF BULK AT MOST 1048576: true; the input reads as it did. -/
def fnRoofOfUptoRow : OpenClaim := { program := "ytaphlhdkdokopaa", sum := "3304062419b312d86a9a02adadd824d0161edfb3554304d972df5e3cd398f82a", func := "loop.example/hideandseek/laws.FnRoofOf", spec := "fnRoofOf", unfollowed := true, recurses := true, apart := false, narrowed := true }
def FnRoofOfUptoSaid : Prop := fnRoofOfUptoRow.holds Try.pinned (OpenSpec.upto fnRoofOfSpec)

/-- 'laws.FnSaddlesOf', WHERE WHAT IT READS IS OF BULK AT MOST 1048576: true; the input reads as it did. -/
def fnSaddlesOfUptoRow : OpenClaim := { program := "ytaphlhdkdokopaa", sum := "3304062419b312d86a9a02adadd824d0161edfb3554304d972df5e3cd398f82a", func := "loop.example/hideandseek/laws.FnSaddlesOf", spec := "fnSaddlesOf", unfollowed := true, recurses := true, apart := false, narrowed := true }
def FnSaddlesOfUptoSaid : Prop := fnSaddlesOfUptoRow.holds Try.pinned (OpenSpec.upto fnSaddlesOfSpec)

/-- 'laws.FnTurnedOf', WHERE WHAT IT READS IS OF BULK AT MOST 1048576: true; the input reads as it did. -/
def fnTurnedOfUptoRow : OpenClaim := { program := "ytaphlhdkdokopaa", sum := "3304062419b312d86a9a02adadd824d0161edfb3554304d972df5e3cd398f82a", func := "loop.example/hideandseek/laws.FnTurnedOf", spec := "fnTurnedOf", apart := false, narrowed := true }
def FnTurnedOfUptoSaid : Prop := fnTurnedOfUptoRow.holds Try.pinned (OpenSpec.upto fnTurnedOfSpec)

/-- 'laws.FnExactGameOk', WHERE WHAT IT READS IS OF BULK AT MOST 1048576: true; the input reads as it did. -/
def fnExactGameOkUptoRow : OpenClaim := { program := "ytaphlhdkdokopaa", sum := "3304062419b312d86a9a02adadd824d0161edfb3554304d972df5e3cd398f82a", func := "loop.example/hideandseek/laws.FnExactGameOk", spec := "fnExactGameOk", apart := false, narrowed := true }
def FnExactGameOkUptoSaid : Prop := fnExactGameOkUptoRow.holds Try.pinned (OpenSpec.upto fnExactGameOkSpec)

/-- 'laws.FnExactFloorOf', WHERE WHAT IT READS IS OF BULK AT MOST 1048576: true; the input reads as it did. -/
def fnExactFloorOfUptoRow : OpenClaim := { program := "ytaphlhdkdokopaa", sum := "3304062419b312d86a9a02adadd824d0161edfb3554304d972df5e3cd398f82a", func := "loop.example/hideandseek/laws.FnExactFloorOf", spec := "fnExactFloorOf", unfollowed := true, recurses := true, apart := false, narrowed := true }
def FnExactFloorOfUptoSaid : Prop := fnExactFloorOfUptoRow.holds Try.pinned (OpenSpec.upto fnExactFloorOfSpec)

/-- 'laws.FnExactRoofOf', WHERE WHAT IT READS IS OF BULK AT MOST 1048576: true; the input reads as it did. -/
def fnExactRoofOfUptoRow : OpenClaim := { program := "ytaphlhdkdokopaa", sum := "3304062419b312d86a9a02adadd824d0161edfb3554304d972df5e3cd398f82a", func := "loop.example/hideandseek/laws.FnExactRoofOf", spec := "fnExactRoofOf", unfollowed := true, recurses := true, apart := false, narrowed := true }
def FnExactRoofOfUptoSaid : Prop := fnExactRoofOfUptoRow.holds Try.pinned (OpenSpec.upto fnExactRoofOfSpec)

/-- 'laws.FnExactSaddlesOf', WHERE WHAT IT READS IS OF BULK AT MOST 1048576: true; the input reads as it did. -/
def fnExactSaddlesOfUptoRow : OpenClaim := { program := "ytaphlhdkdokopaa", sum := "3304062419b312d86a9a02adadd824d0161edfb3554304d972df5e3cd398f82a", func := "loop.example/hideandseek/laws.FnExactSaddlesOf", spec := "fnExactSaddlesOf", unfollowed := true, recurses := true, apart := false, narrowed := true }
def FnExactSaddlesOfUptoSaid : Prop := fnExactSaddlesOfUptoRow.holds Try.pinned (OpenSpec.upto fnExactSaddlesOfSpec)

/-- 'laws.FnExactTurnedOf', WHERE WHAT IT READS IS OF BULK AT MOST 1048576: true; the input reads as it did. -/
def fnExactTurnedOfUptoRow : OpenClaim := { program := "ytaphlhdkdokopaa", sum := "3304062419b312d86a9a02adadd824d0161edfb3554304d972df5e3cd398f82a", func := "loop.example/hideandseek/laws.FnExactTurnedOf", spec := "fnExactTurnedOf", apart := false, narrowed := true }
def FnExactTurnedOfUptoSaid : Prop := fnExactTurnedOfUptoRow.holds Try.pinned (OpenSpec.upto fnExactTurnedOfSpec)

end Rows
end Go.Proofs.Ytaphlhdkdokopaa
