/-
  No cell of these rows narrows 'for every input' (looked for: loops, veiled, ifaces, maps, wideKeys, modest, calm, conditions, laid).
  DERIVED. THE GIVEN ROWS OF THIS SEAT. 10 by the template 'for every input the law returns true; each argument reads behind the call as it read before'; 0 by the template 'total and deterministic' (their statements: YtanfefgigepdcaaTotals.lean).
  GIVEN WITH THE SEED: the statements are not yours to turn. If you find one false, say at which input.
  Laid BY PROGRAM, IN A SANDBOX (cutbox-rows.mjs): the forced cells as the released guide's own fill.sh prints them over the translation 9136b8620278020e… (all of the seat's roots in one cut). By AI agents, Wed Nov 11 2026. No macro, syntax, notation, axiom, sorry.
-/
import Derived.Test.YtanfefgigepdcaaChecked
import GoSem.Claim
import GoSem.ClaimJoined
import GoSem.ClaimMapViews
import Derived.JoinedTies
import Derived.KernelRfl
namespace Go.Proofs.Ytanfefgigepdcaa
/- THE CELL 'sum', in the pinned program and in every row, IS THE sha256 OF THE DUMP (.gsa) THAT YtanfefgigepdcaaProg.lean LOADS. Nothing in Lean hashes anything: it is a label: what it is worth is what the hold of that sum in a sandbox is worth. -/
noncomputable def Try.pinned : Pinned := { name := "ytanfefgigepdcaa", sum := "9136b8620278020ecd477e502a476b902aa7940c8a30542646f15b88454e671a", checked := Try.checked }
namespace Rows
def none {H : Type} : Left H := { results := [], args := [] }

/-- 'laws.FnFairOk': WHATEVER THE INPUT: true; the input reads as it did. -/
def fnFairOkSpec : ChangeSpec := { name := "fnFairOk", fn := fun _ => fun
  | [d] => { results := [.lit (.bool true)], args := [d] }
  | _ => none }
def fnFairOkRow : OpenClaim := { program := "ytanfefgigepdcaa", sum := "9136b8620278020ecd477e502a476b902aa7940c8a30542646f15b88454e671a", func := "loop.example/hideandseek/laws.FnFairOk", spec := "fnFairOk", unfollowed := true, recurses := true, apart := false }
def FnFairOkSaid : Prop := fnFairOkRow.holds Try.pinned (OpenSpec.ofChange fnFairOkSpec)

/-- ITS FALSE NEIGHBOUR: 'it returns false'. Refute it at one input. -/
def fnFairOkWrong : ChangeSpec := { name := "fnFairOk", fn := fun _ => fun
  | [d] => { results := [.lit (.bool false)], args := [d] }
  | _ => none }
def FnFairOkWrongFalsely : Prop := fnFairOkRow.holds Try.pinned (OpenSpec.ofChange fnFairOkWrong)

/-- 'laws.FnPlacingsOf': WHATEVER THE INPUT: true; the input reads as it did. -/
def fnPlacingsOfSpec : ChangeSpec := { name := "fnPlacingsOf", fn := fun _ => fun
  | [d] => { results := [.lit (.bool true)], args := [d] }
  | _ => none }
def fnPlacingsOfRow : OpenClaim := { program := "ytanfefgigepdcaa", sum := "9136b8620278020ecd477e502a476b902aa7940c8a30542646f15b88454e671a", func := "loop.example/hideandseek/laws.FnPlacingsOf", spec := "fnPlacingsOf", unfollowed := true, recurses := true, apart := false }
def FnPlacingsOfSaid : Prop := fnPlacingsOfRow.holds Try.pinned (OpenSpec.ofChange fnPlacingsOfSpec)

/-- ITS FALSE NEIGHBOUR: 'it returns false'. Refute it at one input. -/
def fnPlacingsOfWrong : ChangeSpec := { name := "fnPlacingsOf", fn := fun _ => fun
  | [d] => { results := [.lit (.bool false)], args := [d] }
  | _ => none }
def FnPlacingsOfWrongFalsely : Prop := fnPlacingsOfRow.holds Try.pinned (OpenSpec.ofChange fnPlacingsOfWrong)

/-- 'laws.FnSoldierGame': WHATEVER THE INPUT: true; the input reads as it did. -/
def fnSoldierGameSpec : ChangeSpec := { name := "fnSoldierGame", fn := fun _ => fun
  | [d] => { results := [.lit (.bool true)], args := [d] }
  | _ => none }
def fnSoldierGameRow : OpenClaim := { program := "ytanfefgigepdcaa", sum := "9136b8620278020ecd477e502a476b902aa7940c8a30542646f15b88454e671a", func := "loop.example/hideandseek/laws.FnSoldierGame", spec := "fnSoldierGame", unfollowed := true, recurses := true, apart := false }
def FnSoldierGameSaid : Prop := fnSoldierGameRow.holds Try.pinned (OpenSpec.ofChange fnSoldierGameSpec)

/-- ITS FALSE NEIGHBOUR: 'it returns false'. Refute it at one input. -/
def fnSoldierGameWrong : ChangeSpec := { name := "fnSoldierGame", fn := fun _ => fun
  | [d] => { results := [.lit (.bool false)], args := [d] }
  | _ => none }
def FnSoldierGameWrongFalsely : Prop := fnSoldierGameRow.holds Try.pinned (OpenSpec.ofChange fnSoldierGameWrong)

/-- 'laws.FnBeatingGame': WHATEVER THE INPUT: true; the input reads as it did. -/
def fnBeatingGameSpec : ChangeSpec := { name := "fnBeatingGame", fn := fun _ => fun
  | [d] => { results := [.lit (.bool true)], args := [d] }
  | _ => none }
def fnBeatingGameRow : OpenClaim := { program := "ytanfefgigepdcaa", sum := "9136b8620278020ecd477e502a476b902aa7940c8a30542646f15b88454e671a", func := "loop.example/hideandseek/laws.FnBeatingGame", spec := "fnBeatingGame", unfollowed := true, recurses := true, apart := false }
def FnBeatingGameSaid : Prop := fnBeatingGameRow.holds Try.pinned (OpenSpec.ofChange fnBeatingGameSpec)

/-- ITS FALSE NEIGHBOUR: 'it returns false'. Refute it at one input. -/
def fnBeatingGameWrong : ChangeSpec := { name := "fnBeatingGame", fn := fun _ => fun
  | [d] => { results := [.lit (.bool false)], args := [d] }
  | _ => none }
def FnBeatingGameWrongFalsely : Prop := fnBeatingGameRow.holds Try.pinned (OpenSpec.ofChange fnBeatingGameWrong)

/-- 'laws.FnFairFrom': WHATEVER THE INPUT: true; the input reads as it did. -/
def fnFairFromSpec : ChangeSpec := { name := "fnFairFrom", fn := fun _ => fun
  | [d] => { results := [.lit (.bool true)], args := [d] }
  | _ => none }
def fnFairFromRow : OpenClaim := { program := "ytanfefgigepdcaa", sum := "9136b8620278020ecd477e502a476b902aa7940c8a30542646f15b88454e671a", func := "loop.example/hideandseek/laws.FnFairFrom", spec := "fnFairFrom", unfollowed := true, recurses := true, apart := false }
def FnFairFromSaid : Prop := fnFairFromRow.holds Try.pinned (OpenSpec.ofChange fnFairFromSpec)

/-- ITS FALSE NEIGHBOUR: 'it returns false'. Refute it at one input. -/
def fnFairFromWrong : ChangeSpec := { name := "fnFairFrom", fn := fun _ => fun
  | [d] => { results := [.lit (.bool false)], args := [d] }
  | _ => none }
def FnFairFromWrongFalsely : Prop := fnFairFromRow.holds Try.pinned (OpenSpec.ofChange fnFairFromWrong)

/-- 'laws.FnExactFairOk': WHATEVER THE INPUT: true; the input reads as it did. -/
def fnExactFairOkSpec : ChangeSpec := { name := "fnExactFairOk", fn := fun _ => fun
  | [d] => { results := [.lit (.bool true)], args := [d] }
  | _ => none }
def fnExactFairOkRow : OpenClaim := { program := "ytanfefgigepdcaa", sum := "9136b8620278020ecd477e502a476b902aa7940c8a30542646f15b88454e671a", func := "loop.example/hideandseek/laws.FnExactFairOk", spec := "fnExactFairOk", unfollowed := true, recurses := true, apart := false }
def FnExactFairOkSaid : Prop := fnExactFairOkRow.holds Try.pinned (OpenSpec.ofChange fnExactFairOkSpec)

/-- ITS FALSE NEIGHBOUR: 'it returns false'. Refute it at one input. -/
def fnExactFairOkWrong : ChangeSpec := { name := "fnExactFairOk", fn := fun _ => fun
  | [d] => { results := [.lit (.bool false)], args := [d] }
  | _ => none }
def FnExactFairOkWrongFalsely : Prop := fnExactFairOkRow.holds Try.pinned (OpenSpec.ofChange fnExactFairOkWrong)

/-- 'laws.FnExactPlacingsOf': WHATEVER THE INPUT: true; the input reads as it did. -/
def fnExactPlacingsOfSpec : ChangeSpec := { name := "fnExactPlacingsOf", fn := fun _ => fun
  | [d1, d2] => { results := [.lit (.bool true)], args := [d1, d2] }
  | _ => none }
def fnExactPlacingsOfRow : OpenClaim := { program := "ytanfefgigepdcaa", sum := "9136b8620278020ecd477e502a476b902aa7940c8a30542646f15b88454e671a", func := "loop.example/hideandseek/laws.FnExactPlacingsOf", spec := "fnExactPlacingsOf", unfollowed := true, recurses := true, apart := false }
def FnExactPlacingsOfSaid : Prop := fnExactPlacingsOfRow.holds Try.pinned (OpenSpec.ofChange fnExactPlacingsOfSpec)

/-- ITS FALSE NEIGHBOUR: 'it returns false'. Refute it at one input. -/
def fnExactPlacingsOfWrong : ChangeSpec := { name := "fnExactPlacingsOf", fn := fun _ => fun
  | [d1, d2] => { results := [.lit (.bool false)], args := [d1, d2] }
  | _ => none }
def FnExactPlacingsOfWrongFalsely : Prop := fnExactPlacingsOfRow.holds Try.pinned (OpenSpec.ofChange fnExactPlacingsOfWrong)

/-- 'laws.FnExactSoldierGame': WHATEVER THE INPUT: true; the input reads as it did. -/
def fnExactSoldierGameSpec : ChangeSpec := { name := "fnExactSoldierGame", fn := fun _ => fun
  | [d1, d2] => { results := [.lit (.bool true)], args := [d1, d2] }
  | _ => none }
def fnExactSoldierGameRow : OpenClaim := { program := "ytanfefgigepdcaa", sum := "9136b8620278020ecd477e502a476b902aa7940c8a30542646f15b88454e671a", func := "loop.example/hideandseek/laws.FnExactSoldierGame", spec := "fnExactSoldierGame", unfollowed := true, recurses := true, apart := false }
def FnExactSoldierGameSaid : Prop := fnExactSoldierGameRow.holds Try.pinned (OpenSpec.ofChange fnExactSoldierGameSpec)

/-- ITS FALSE NEIGHBOUR: 'it returns false'. Refute it at one input. -/
def fnExactSoldierGameWrong : ChangeSpec := { name := "fnExactSoldierGame", fn := fun _ => fun
  | [d1, d2] => { results := [.lit (.bool false)], args := [d1, d2] }
  | _ => none }
def FnExactSoldierGameWrongFalsely : Prop := fnExactSoldierGameRow.holds Try.pinned (OpenSpec.ofChange fnExactSoldierGameWrong)

/-- 'laws.FnExactBeatingGame': WHATEVER THE INPUT: true; the input reads as it did. -/
def fnExactBeatingGameSpec : ChangeSpec := { name := "fnExactBeatingGame", fn := fun _ => fun
  | [d] => { results := [.lit (.bool true)], args := [d] }
  | _ => none }
def fnExactBeatingGameRow : OpenClaim := { program := "ytanfefgigepdcaa", sum := "9136b8620278020ecd477e502a476b902aa7940c8a30542646f15b88454e671a", func := "loop.example/hideandseek/laws.FnExactBeatingGame", spec := "fnExactBeatingGame", unfollowed := true, recurses := true, apart := false }
def FnExactBeatingGameSaid : Prop := fnExactBeatingGameRow.holds Try.pinned (OpenSpec.ofChange fnExactBeatingGameSpec)

/-- ITS FALSE NEIGHBOUR: 'it returns false'. Refute it at one input. -/
def fnExactBeatingGameWrong : ChangeSpec := { name := "fnExactBeatingGame", fn := fun _ => fun
  | [d] => { results := [.lit (.bool false)], args := [d] }
  | _ => none }
def FnExactBeatingGameWrongFalsely : Prop := fnExactBeatingGameRow.holds Try.pinned (OpenSpec.ofChange fnExactBeatingGameWrong)

/-- 'laws.FnExactFairFrom': WHATEVER THE INPUT: true; the input reads as it did. -/
def fnExactFairFromSpec : ChangeSpec := { name := "fnExactFairFrom", fn := fun _ => fun
  | [d] => { results := [.lit (.bool true)], args := [d] }
  | _ => none }
def fnExactFairFromRow : OpenClaim := { program := "ytanfefgigepdcaa", sum := "9136b8620278020ecd477e502a476b902aa7940c8a30542646f15b88454e671a", func := "loop.example/hideandseek/laws.FnExactFairFrom", spec := "fnExactFairFrom", unfollowed := true, recurses := true, apart := false }
def FnExactFairFromSaid : Prop := fnExactFairFromRow.holds Try.pinned (OpenSpec.ofChange fnExactFairFromSpec)

/-- ITS FALSE NEIGHBOUR: 'it returns false'. Refute it at one input. -/
def fnExactFairFromWrong : ChangeSpec := { name := "fnExactFairFrom", fn := fun _ => fun
  | [d] => { results := [.lit (.bool false)], args := [d] }
  | _ => none }
def FnExactFairFromWrongFalsely : Prop := fnExactFairFromRow.holds Try.pinned (OpenSpec.ofChange fnExactFairFromWrong)

/- THE SECOND FORM. 'bulk': how many values and letters a reading holds, each counted each time it is reached (what is shared counts as often as it is met; a slice's spare places count too). A statement '..UptoSaid' is the law's where the arguments, and the package variables that the reading takes, are together of bulk at most 1048576: NARROWER than '..Said'. Prove '..Said' where nothing that the law and all that it calls make is longer than what came in: it says more and counts as full. Else prove '..UptoSaid'. A law counts once. -/
mutual
def uptoBulk {H : Type} : DataW H → Nat
  | .lit (.string bytes) => bytes.length + 1
  | .lit _ => 1
  | .nil => 1
  | .ptr d => uptoBulk d + 1
  | .slice elems spare => uptoBulkAll elems + uptoBulkAll spare + 1
  | .agg parts => uptoBulkAll parts + 1
  | .iface _ d => uptoBulk d + 1
  | .map entries => uptoBulkEntries entries + 1
  | .held _ => 1
def uptoBulkAll {H : Type} : List (DataW H) → Nat
  | [] => 0
  | d :: r => uptoBulk d + uptoBulkAll r
def uptoBulkEntries {H : Type} : List (Lit × DataW H) → Nat
  | [] => 0
  | x :: r => uptoBulkEntry x + uptoBulkEntries r
def uptoBulkEntry {H : Type} : Lit × DataW H → Nat
  | (.string bytes, d) => bytes.length + uptoBulk d + 1
  | (_, d) => uptoBulk d + 1
 end
def uptoSmall : (H : Type) → List (DataW H) → Bool := fun _ ds => decide (uptoBulkAll ds ≤ 1048576)
def OpenSpec.upto (s : _root_.Go.ChangeSpec) : _root_.Go.OpenSpec := { _root_.Go.OpenSpec.ofChange s with cond := some uptoSmall }

/-- 'laws.FnFairOk', WHERE WHAT IT READS IS OF BULK AT MOST 1048576: true; the input reads as it did. -/
def fnFairOkUptoRow : OpenClaim := { program := "ytanfefgigepdcaa", sum := "9136b8620278020ecd477e502a476b902aa7940c8a30542646f15b88454e671a", func := "loop.example/hideandseek/laws.FnFairOk", spec := "fnFairOk", unfollowed := true, recurses := true, apart := false, narrowed := true }
def FnFairOkUptoSaid : Prop := fnFairOkUptoRow.holds Try.pinned (OpenSpec.upto fnFairOkSpec)

/-- 'laws.FnPlacingsOf', WHERE WHAT IT READS IS OF BULK AT MOST 1048576: true; the input reads as it did. -/
def fnPlacingsOfUptoRow : OpenClaim := { program := "ytanfefgigepdcaa", sum := "9136b8620278020ecd477e502a476b902aa7940c8a30542646f15b88454e671a", func := "loop.example/hideandseek/laws.FnPlacingsOf", spec := "fnPlacingsOf", unfollowed := true, recurses := true, apart := false, narrowed := true }
def FnPlacingsOfUptoSaid : Prop := fnPlacingsOfUptoRow.holds Try.pinned (OpenSpec.upto fnPlacingsOfSpec)

/-- 'laws.FnSoldierGame', WHERE WHAT IT READS IS OF BULK AT MOST 1048576: true; the input reads as it did. -/
def fnSoldierGameUptoRow : OpenClaim := { program := "ytanfefgigepdcaa", sum := "9136b8620278020ecd477e502a476b902aa7940c8a30542646f15b88454e671a", func := "loop.example/hideandseek/laws.FnSoldierGame", spec := "fnSoldierGame", unfollowed := true, recurses := true, apart := false, narrowed := true }
def FnSoldierGameUptoSaid : Prop := fnSoldierGameUptoRow.holds Try.pinned (OpenSpec.upto fnSoldierGameSpec)

/-- 'laws.FnBeatingGame', WHERE WHAT IT READS IS OF BULK AT MOST 1048576: true; the input reads as it did. -/
def fnBeatingGameUptoRow : OpenClaim := { program := "ytanfefgigepdcaa", sum := "9136b8620278020ecd477e502a476b902aa7940c8a30542646f15b88454e671a", func := "loop.example/hideandseek/laws.FnBeatingGame", spec := "fnBeatingGame", unfollowed := true, recurses := true, apart := false, narrowed := true }
def FnBeatingGameUptoSaid : Prop := fnBeatingGameUptoRow.holds Try.pinned (OpenSpec.upto fnBeatingGameSpec)

/-- 'laws.FnFairFrom', WHERE WHAT IT READS IS OF BULK AT MOST 1048576: true; the input reads as it did. -/
def fnFairFromUptoRow : OpenClaim := { program := "ytanfefgigepdcaa", sum := "9136b8620278020ecd477e502a476b902aa7940c8a30542646f15b88454e671a", func := "loop.example/hideandseek/laws.FnFairFrom", spec := "fnFairFrom", unfollowed := true, recurses := true, apart := false, narrowed := true }
def FnFairFromUptoSaid : Prop := fnFairFromUptoRow.holds Try.pinned (OpenSpec.upto fnFairFromSpec)

/-- 'laws.FnExactFairOk', WHERE WHAT IT READS IS OF BULK AT MOST 1048576: true; the input reads as it did. -/
def fnExactFairOkUptoRow : OpenClaim := { program := "ytanfefgigepdcaa", sum := "9136b8620278020ecd477e502a476b902aa7940c8a30542646f15b88454e671a", func := "loop.example/hideandseek/laws.FnExactFairOk", spec := "fnExactFairOk", unfollowed := true, recurses := true, apart := false, narrowed := true }
def FnExactFairOkUptoSaid : Prop := fnExactFairOkUptoRow.holds Try.pinned (OpenSpec.upto fnExactFairOkSpec)

/-- 'laws.FnExactPlacingsOf', WHERE WHAT IT READS IS OF BULK AT MOST 1048576: true; the input reads as it did. -/
def fnExactPlacingsOfUptoRow : OpenClaim := { program := "ytanfefgigepdcaa", sum := "9136b8620278020ecd477e502a476b902aa7940c8a30542646f15b88454e671a", func := "loop.example/hideandseek/laws.FnExactPlacingsOf", spec := "fnExactPlacingsOf", unfollowed := true, recurses := true, apart := false, narrowed := true }
def FnExactPlacingsOfUptoSaid : Prop := fnExactPlacingsOfUptoRow.holds Try.pinned (OpenSpec.upto fnExactPlacingsOfSpec)

/-- 'laws.FnExactSoldierGame', WHERE WHAT IT READS IS OF BULK AT MOST 1048576: true; the input reads as it did. -/
def fnExactSoldierGameUptoRow : OpenClaim := { program := "ytanfefgigepdcaa", sum := "9136b8620278020ecd477e502a476b902aa7940c8a30542646f15b88454e671a", func := "loop.example/hideandseek/laws.FnExactSoldierGame", spec := "fnExactSoldierGame", unfollowed := true, recurses := true, apart := false, narrowed := true }
def FnExactSoldierGameUptoSaid : Prop := fnExactSoldierGameUptoRow.holds Try.pinned (OpenSpec.upto fnExactSoldierGameSpec)

/-- 'laws.FnExactBeatingGame', WHERE WHAT IT READS IS OF BULK AT MOST 1048576: true; the input reads as it did. -/
def fnExactBeatingGameUptoRow : OpenClaim := { program := "ytanfefgigepdcaa", sum := "9136b8620278020ecd477e502a476b902aa7940c8a30542646f15b88454e671a", func := "loop.example/hideandseek/laws.FnExactBeatingGame", spec := "fnExactBeatingGame", unfollowed := true, recurses := true, apart := false, narrowed := true }
def FnExactBeatingGameUptoSaid : Prop := fnExactBeatingGameUptoRow.holds Try.pinned (OpenSpec.upto fnExactBeatingGameSpec)

/-- 'laws.FnExactFairFrom', WHERE WHAT IT READS IS OF BULK AT MOST 1048576: true; the input reads as it did. -/
def fnExactFairFromUptoRow : OpenClaim := { program := "ytanfefgigepdcaa", sum := "9136b8620278020ecd477e502a476b902aa7940c8a30542646f15b88454e671a", func := "loop.example/hideandseek/laws.FnExactFairFrom", spec := "fnExactFairFrom", unfollowed := true, recurses := true, apart := false, narrowed := true }
def FnExactFairFromUptoSaid : Prop := fnExactFairFromUptoRow.holds Try.pinned (OpenSpec.upto fnExactFairFromSpec)

end Rows
end Go.Proofs.Ytanfefgigepdcaa
