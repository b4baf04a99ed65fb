/-
  No cell of these rows narrows 'for every input' (looked for: loops, veiled, ifaces, maps, wideKeys, modest, calm, conditions, laid).
  DERIVED. THE GIVEN ROWS OF THIS SEAT. 8 by the template 'for every input the law returns true; each argument reads behind the call as it read before'; 0 by the template 'total and deterministic' (their statements: YtgjbahlebhnoiaaTotals.lean).
  GIVEN WITH THE SEED: the statements are not yours to turn. If you find one false, say at which input.
  Laid BY PROGRAM, IN A SANDBOX (cutbox-rows.mjs): the forced cells as the released guide's own fill.sh prints them over the translation 01bba16699ecddde… (all of the seat's roots in one cut). By AI agents, Wed Nov 11 2026. No macro, syntax, notation, axiom, sorry.
-/
import Derived.Test.YtgjbahlebhnoiaaChecked
import GoSem.Claim
import GoSem.ClaimJoined
import GoSem.ClaimMapViews
import Derived.JoinedTies
import Derived.KernelRfl
namespace Go.Proofs.Ytgjbahlebhnoiaa
/- THE CELL 'sum', in the pinned program and in every row, IS THE sha256 OF THE DUMP (.gsa) THAT YtgjbahlebhnoiaaProg.lean LOADS. Nothing in Lean hashes anything: it is a label: what it is worth is what the hold of that sum in a sandbox is worth. -/
noncomputable def Try.pinned : Pinned := { name := "ytgjbahlebhnoiaa", sum := "01bba16699ecddde6133752b0cc5a0c8e5d848cea39f71ab134525dc3ba8c5df", checked := Try.checked }
namespace Rows
def none {H : Type} : Left H := { results := [], args := [] }

/-- 'laws.FnKernelOf': WHATEVER THE INPUT: true; the input reads as it did. -/
def fnKernelOfSpec : ChangeSpec := { name := "fnKernelOf", fn := fun _ => fun
  | [d] => { results := [.lit (.bool true)], args := [d] }
  | _ => none }
def fnKernelOfRow : OpenClaim := { program := "ytgjbahlebhnoiaa", sum := "01bba16699ecddde6133752b0cc5a0c8e5d848cea39f71ab134525dc3ba8c5df", func := "loop.example/hideandseek/laws.FnKernelOf", spec := "fnKernelOf", unfollowed := true, recurses := true, apart := false }
def FnKernelOfSaid : Prop := fnKernelOfRow.holds Try.pinned (OpenSpec.ofChange fnKernelOfSpec)

/-- ITS FALSE NEIGHBOUR: 'it returns false'. Refute it at one input. -/
def fnKernelOfWrong : ChangeSpec := { name := "fnKernelOf", fn := fun _ => fun
  | [d] => { results := [.lit (.bool false)], args := [d] }
  | _ => none }
def FnKernelOfWrongFalsely : Prop := fnKernelOfRow.holds Try.pinned (OpenSpec.ofChange fnKernelOfWrong)

/-- 'laws.FnSolveOf': WHATEVER THE INPUT: true; the input reads as it did. -/
def fnSolveOfSpec : ChangeSpec := { name := "fnSolveOf", fn := fun _ => fun
  | [d] => { results := [.lit (.bool true)], args := [d] }
  | _ => none }
def fnSolveOfRow : OpenClaim := { program := "ytgjbahlebhnoiaa", sum := "01bba16699ecddde6133752b0cc5a0c8e5d848cea39f71ab134525dc3ba8c5df", func := "loop.example/hideandseek/laws.FnSolveOf", spec := "fnSolveOf", unfollowed := true, recurses := true, apart := false }
def FnSolveOfSaid : Prop := fnSolveOfRow.holds Try.pinned (OpenSpec.ofChange fnSolveOfSpec)

/-- ITS FALSE NEIGHBOUR: 'it returns false'. Refute it at one input. -/
def fnSolveOfWrong : ChangeSpec := { name := "fnSolveOf", fn := fun _ => fun
  | [d] => { results := [.lit (.bool false)], args := [d] }
  | _ => none }
def FnSolveOfWrongFalsely : Prop := fnSolveOfRow.holds Try.pinned (OpenSpec.ofChange fnSolveOfWrong)

/-- 'laws.FnWorthOf': WHATEVER THE INPUT: true; the input reads as it did. -/
def fnWorthOfSpec : ChangeSpec := { name := "fnWorthOf", fn := fun _ => fun
  | [d] => { results := [.lit (.bool true)], args := [d] }
  | _ => none }
def fnWorthOfRow : OpenClaim := { program := "ytgjbahlebhnoiaa", sum := "01bba16699ecddde6133752b0cc5a0c8e5d848cea39f71ab134525dc3ba8c5df", func := "loop.example/hideandseek/laws.FnWorthOf", spec := "fnWorthOf", unfollowed := true, recurses := true, apart := false }
def FnWorthOfSaid : Prop := fnWorthOfRow.holds Try.pinned (OpenSpec.ofChange fnWorthOfSpec)

/-- ITS FALSE NEIGHBOUR: 'it returns false'. Refute it at one input. -/
def fnWorthOfWrong : ChangeSpec := { name := "fnWorthOf", fn := fun _ => fun
  | [d] => { results := [.lit (.bool false)], args := [d] }
  | _ => none }
def FnWorthOfWrongFalsely : Prop := fnWorthOfRow.holds Try.pinned (OpenSpec.ofChange fnWorthOfWrong)

/-- 'laws.FnShiftedOf': WHATEVER THE INPUT: true; the input reads as it did. -/
def fnShiftedOfSpec : ChangeSpec := { name := "fnShiftedOf", fn := fun _ => fun
  | [d] => { results := [.lit (.bool true)], args := [d] }
  | _ => none }
def fnShiftedOfRow : OpenClaim := { program := "ytgjbahlebhnoiaa", sum := "01bba16699ecddde6133752b0cc5a0c8e5d848cea39f71ab134525dc3ba8c5df", func := "loop.example/hideandseek/laws.FnShiftedOf", spec := "fnShiftedOf", unfollowed := true, recurses := true, apart := false }
def FnShiftedOfSaid : Prop := fnShiftedOfRow.holds Try.pinned (OpenSpec.ofChange fnShiftedOfSpec)

/-- ITS FALSE NEIGHBOUR: 'it returns false'. Refute it at one input. -/
def fnShiftedOfWrong : ChangeSpec := { name := "fnShiftedOf", fn := fun _ => fun
  | [d] => { results := [.lit (.bool false)], args := [d] }
  | _ => none }
def FnShiftedOfWrongFalsely : Prop := fnShiftedOfRow.holds Try.pinned (OpenSpec.ofChange fnShiftedOfWrong)

/-- 'laws.FnExactKernelOf': WHATEVER THE INPUT: true; the input reads as it did. -/
def fnExactKernelOfSpec : ChangeSpec := { name := "fnExactKernelOf", fn := fun _ => fun
  | [d1, d2, d3] => { results := [.lit (.bool true)], args := [d1, d2, d3] }
  | _ => none }
def fnExactKernelOfRow : OpenClaim := { program := "ytgjbahlebhnoiaa", sum := "01bba16699ecddde6133752b0cc5a0c8e5d848cea39f71ab134525dc3ba8c5df", func := "loop.example/hideandseek/laws.FnExactKernelOf", spec := "fnExactKernelOf", recurses := true, apart := false }
def FnExactKernelOfSaid : Prop := fnExactKernelOfRow.holds Try.pinned (OpenSpec.ofChange fnExactKernelOfSpec)

/-- ITS FALSE NEIGHBOUR: 'it returns false'. Refute it at one input. -/
def fnExactKernelOfWrong : ChangeSpec := { name := "fnExactKernelOf", fn := fun _ => fun
  | [d1, d2, d3] => { results := [.lit (.bool false)], args := [d1, d2, d3] }
  | _ => none }
def FnExactKernelOfWrongFalsely : Prop := fnExactKernelOfRow.holds Try.pinned (OpenSpec.ofChange fnExactKernelOfWrong)

/-- 'laws.FnExactSolveOf': WHATEVER THE INPUT: true; the input reads as it did. -/
def fnExactSolveOfSpec : ChangeSpec := { name := "fnExactSolveOf", fn := fun _ => fun
  | [d] => { results := [.lit (.bool true)], args := [d] }
  | _ => none }
def fnExactSolveOfRow : OpenClaim := { program := "ytgjbahlebhnoiaa", sum := "01bba16699ecddde6133752b0cc5a0c8e5d848cea39f71ab134525dc3ba8c5df", func := "loop.example/hideandseek/laws.FnExactSolveOf", spec := "fnExactSolveOf", unfollowed := true, recurses := true, apart := false }
def FnExactSolveOfSaid : Prop := fnExactSolveOfRow.holds Try.pinned (OpenSpec.ofChange fnExactSolveOfSpec)

/-- ITS FALSE NEIGHBOUR: 'it returns false'. Refute it at one input. -/
def fnExactSolveOfWrong : ChangeSpec := { name := "fnExactSolveOf", fn := fun _ => fun
  | [d] => { results := [.lit (.bool false)], args := [d] }
  | _ => none }
def FnExactSolveOfWrongFalsely : Prop := fnExactSolveOfRow.holds Try.pinned (OpenSpec.ofChange fnExactSolveOfWrong)

/-- 'laws.FnExactWorthOf': WHATEVER THE INPUT: true; the input reads as it did. -/
def fnExactWorthOfSpec : ChangeSpec := { name := "fnExactWorthOf", fn := fun _ => fun
  | [d] => { results := [.lit (.bool true)], args := [d] }
  | _ => none }
def fnExactWorthOfRow : OpenClaim := { program := "ytgjbahlebhnoiaa", sum := "01bba16699ecddde6133752b0cc5a0c8e5d848cea39f71ab134525dc3ba8c5df", func := "loop.example/hideandseek/laws.FnExactWorthOf", spec := "fnExactWorthOf", unfollowed := true, recurses := true, apart := false }
def FnExactWorthOfSaid : Prop := fnExactWorthOfRow.holds Try.pinned (OpenSpec.ofChange fnExactWorthOfSpec)

/-- ITS FALSE NEIGHBOUR: 'it returns false'. Refute it at one input. -/
def fnExactWorthOfWrong : ChangeSpec := { name := "fnExactWorthOf", fn := fun _ => fun
  | [d] => { results := [.lit (.bool false)], args := [d] }
  | _ => none }
def FnExactWorthOfWrongFalsely : Prop := fnExactWorthOfRow.holds Try.pinned (OpenSpec.ofChange fnExactWorthOfWrong)

/-- 'laws.FnExactShiftedOf': WHATEVER THE INPUT: true; the input reads as it did. -/
def fnExactShiftedOfSpec : ChangeSpec := { name := "fnExactShiftedOf", fn := fun _ => fun
  | [d1, d2] => { results := [.lit (.bool true)], args := [d1, d2] }
  | _ => none }
def fnExactShiftedOfRow : OpenClaim := { program := "ytgjbahlebhnoiaa", sum := "01bba16699ecddde6133752b0cc5a0c8e5d848cea39f71ab134525dc3ba8c5df", func := "loop.example/hideandseek/laws.FnExactShiftedOf", spec := "fnExactShiftedOf", apart := false }
def FnExactShiftedOfSaid : Prop := fnExactShiftedOfRow.holds Try.pinned (OpenSpec.ofChange fnExactShiftedOfSpec)

/-- ITS FALSE NEIGHBOUR: 'it returns false'. Refute it at one input. -/
def fnExactShiftedOfWrong : ChangeSpec := { name := "fnExactShiftedOf", fn := fun _ => fun
  | [d1, d2] => { results := [.lit (.bool false)], args := [d1, d2] }
  | _ => none }
def FnExactShiftedOfWrongFalsely : Prop := fnExactShiftedOfRow.holds Try.pinned (OpenSpec.ofChange fnExactShiftedOfWrong)

/- THE SECOND FORM. 'bulk': how many values and letters a reading holds, each counted each time it is reached (what is shared counts as often as it is met; a slice's spare places count too). A statement '..UptoSaid' is the law's where the arguments, and the package variables that the reading takes, are together of bulk at most 1048576: NARROWER than '..Said'. Prove '..Said' where nothing that the law and all that it calls make is longer than what came in: it says more and counts as full. Else prove '..UptoSaid'. A law counts once. -/
mutual
def uptoBulk {H : Type} : DataW H → Nat
  | .lit (.string bytes) => bytes.length + 1
  | .lit _ => 1
  | .nil => 1
  | .ptr d => uptoBulk d + 1
  | .slice elems spare => uptoBulkAll elems + uptoBulkAll spare + 1
  | .agg parts => uptoBulkAll parts + 1
  | .iface _ d => uptoBulk d + 1
  | .map entries => uptoBulkEntries entries + 1
  | .held _ => 1
def uptoBulkAll {H : Type} : List (DataW H) → Nat
  | [] => 0
  | d :: r => uptoBulk d + uptoBulkAll r
def uptoBulkEntries {H : Type} : List (Lit × DataW H) → Nat
  | [] => 0
  | x :: r => uptoBulkEntry x + uptoBulkEntries r
def uptoBulkEntry {H : Type} : Lit × DataW H → Nat
  | (.string bytes, d) => bytes.length + uptoBulk d + 1
  | (_, d) => uptoBulk d + 1
 end
def uptoSmall : (H : Type) → List (DataW H) → Bool := fun _ ds => decide (uptoBulkAll ds ≤ 1048576)
def OpenSpec.upto (s : _root_.Go.ChangeSpec) : _root_.Go.OpenSpec := { _root_.Go.OpenSpec.ofChange s with cond := some uptoSmall }

/-- 'laws.FnKernelOf', WHERE WHAT IT READS IS OF BULK AT MOST 1048576: true; the input reads as it did. -/
def fnKernelOfUptoRow : OpenClaim := { program := "ytgjbahlebhnoiaa", sum := "01bba16699ecddde6133752b0cc5a0c8e5d848cea39f71ab134525dc3ba8c5df", func := "loop.example/hideandseek/laws.FnKernelOf", spec := "fnKernelOf", unfollowed := true, recurses := true, apart := false, narrowed := true }
def FnKernelOfUptoSaid : Prop := fnKernelOfUptoRow.holds Try.pinned (OpenSpec.upto fnKernelOfSpec)

/-- 'laws.FnSolveOf', WHERE WHAT IT READS IS OF BULK AT MOST 1048576: true; the input reads as it did. -/
def fnSolveOfUptoRow : OpenClaim := { program := "ytgjbahlebhnoiaa", sum := "01bba16699ecddde6133752b0cc5a0c8e5d848cea39f71ab134525dc3ba8c5df", func := "loop.example/hideandseek/laws.FnSolveOf", spec := "fnSolveOf", unfollowed := true, recurses := true, apart := false, narrowed := true }
def FnSolveOfUptoSaid : Prop := fnSolveOfUptoRow.holds Try.pinned (OpenSpec.upto fnSolveOfSpec)

/-- 'laws.FnWorthOf', WHERE WHAT IT READS IS OF BULK AT MOST 1048576: true; the input reads as it did. -/
def fnWorthOfUptoRow : OpenClaim := { program := "ytgjbahlebhnoiaa", sum := "01bba16699ecddde6133752b0cc5a0c8e5d848cea39f71ab134525dc3ba8c5df", func := "loop.example/hideandseek/laws.FnWorthOf", spec := "fnWorthOf", unfollowed := true, recurses := true, apart := false, narrowed := true }
def FnWorthOfUptoSaid : Prop := fnWorthOfUptoRow.holds Try.pinned (OpenSpec.upto fnWorthOfSpec)

/-- 'laws.FnShiftedOf', WHERE WHAT IT READS IS OF BULK AT MOST 1048576: true; the input reads as it did. -/
def fnShiftedOfUptoRow : OpenClaim := { program := "ytgjbahlebhnoiaa", sum := "01bba16699ecddde6133752b0cc5a0c8e5d848cea39f71ab134525dc3ba8c5df", func := "loop.example/hideandseek/laws.FnShiftedOf", spec := "fnShiftedOf", unfollowed := true, recurses := true, apart := false, narrowed := true }
def FnShiftedOfUptoSaid : Prop := fnShiftedOfUptoRow.holds Try.pinned (OpenSpec.upto fnShiftedOfSpec)

/-- 'laws.FnExactKernelOf', WHERE WHAT IT READS IS OF BULK AT MOST 1048576: true; the input reads as it did. -/
def fnExactKernelOfUptoRow : OpenClaim := { program := "ytgjbahlebhnoiaa", sum := "01bba16699ecddde6133752b0cc5a0c8e5d848cea39f71ab134525dc3ba8c5df", func := "loop.example/hideandseek/laws.FnExactKernelOf", spec := "fnExactKernelOf", recurses := true, apart := false, narrowed := true }
def FnExactKernelOfUptoSaid : Prop := fnExactKernelOfUptoRow.holds Try.pinned (OpenSpec.upto fnExactKernelOfSpec)

/-- 'laws.FnExactSolveOf', WHERE WHAT IT READS IS OF BULK AT MOST 1048576: true; the input reads as it did. -/
def fnExactSolveOfUptoRow : OpenClaim := { program := "ytgjbahlebhnoiaa", sum := "01bba16699ecddde6133752b0cc5a0c8e5d848cea39f71ab134525dc3ba8c5df", func := "loop.example/hideandseek/laws.FnExactSolveOf", spec := "fnExactSolveOf", unfollowed := true, recurses := true, apart := false, narrowed := true }
def FnExactSolveOfUptoSaid : Prop := fnExactSolveOfUptoRow.holds Try.pinned (OpenSpec.upto fnExactSolveOfSpec)

/-- 'laws.FnExactWorthOf', WHERE WHAT IT READS IS OF BULK AT MOST 1048576: true; the input reads as it did. -/
def fnExactWorthOfUptoRow : OpenClaim := { program := "ytgjbahlebhnoiaa", sum := "01bba16699ecddde6133752b0cc5a0c8e5d848cea39f71ab134525dc3ba8c5df", func := "loop.example/hideandseek/laws.FnExactWorthOf", spec := "fnExactWorthOf", unfollowed := true, recurses := true, apart := false, narrowed := true }
def FnExactWorthOfUptoSaid : Prop := fnExactWorthOfUptoRow.holds Try.pinned (OpenSpec.upto fnExactWorthOfSpec)

/-- 'laws.FnExactShiftedOf', WHERE WHAT IT READS IS OF BULK AT MOST 1048576: true; the input reads as it did. -/
def fnExactShiftedOfUptoRow : OpenClaim := { program := "ytgjbahlebhnoiaa", sum := "01bba16699ecddde6133752b0cc5a0c8e5d848cea39f71ab134525dc3ba8c5df", func := "loop.example/hideandseek/laws.FnExactShiftedOf", spec := "fnExactShiftedOf", apart := false, narrowed := true }
def FnExactShiftedOfUptoSaid : Prop := fnExactShiftedOfUptoRow.holds Try.pinned (OpenSpec.upto fnExactShiftedOfSpec)

end Rows
end Go.Proofs.Ytgjbahlebhnoiaa
