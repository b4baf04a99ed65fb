/- Texts in one: Worse, Wmath. -/
import Derived.Test.YtlmaeadbomnhlabDoorMF
namespace Go.Proofs.YtlmaeadbomnhlabDoor
set_option linter.unusedSimpArgs false
set_option linter.unusedVariables false
open Go.RowKit

/-- a table without a row -/
def woRow (g : List (List Int)) (a : Nat) : List (List Int) := selTab (fun i => i != a) (rowAt g) g.length

def woCol (g : List (List Int)) (b : Nat) : List (List Int) := turned (woRow (turned g) b)

end Go.Proofs.YtlmaeadbomnhlabDoor

namespace Go.Proofs.YtlmaeadbomnhlabDoor
set_option linter.unusedSimpArgs false
set_option linter.unusedVariables false
open Go.RowKit

/-- is the number a place of so many? -/
def inPl (a : Int) (n : Nat) : Bool := decide (0 ≤ a) && decide (a < (n : Int))

theorem inPl_iff {a : Int} {n : Nat} : inPl a n = true ↔ 0 ≤ a ∧ a < (n : Int) := by simp [inPl]

/-- none of the first k numbers of x is better than its neighbour of y -/
def noBet (bet : Int → Int → Bool) (x y : List Int) : Nat → Bool
  | 0 => true
  | k + 1 => noBet bet x y k && !bet (nth x k) (nth y k)

/-- is a line nowhere better than another one? -/
def lineB (bet : Int → Int → Bool) (g : List (List Int)) (a b : Int) : Bool :=
  !decide (a = b) && inPl a g.length && inPl b g.length && noBet bet (rowAt g a.toNat) (rowAt g b.toNat) (rowAt g a.toNat).length

def anyN (P : Nat → Bool) : Nat → Bool
  | 0 => false
  | k + 1 => anyN P k || P k

def fstN (P : Nat → Bool) : Nat → Option Nat
  | 0 => none
  | k + 1 => match fstN P k with
    | some a => some a
    | none => if P k = true then some k else none

theorem anyN_iff {P : Nat → Bool} {n : Nat} : anyN P n = true ↔ ∃ i, i < n ∧ P i = true := by
  induction n with
  | zero => simp [anyN]
  | succ n ih =>
    simp only [anyN, Bool.or_eq_true, ih]
    constructor
    · rintro (⟨i, h1, h2⟩ | h)
      · exact ⟨i, by omega, h2⟩
      · exact ⟨n, by omega, h⟩
    · rintro ⟨i, h1, h2⟩
      by_cases e : i = n
      · subst e; exact .inr h2
      · exact .inl ⟨i, by omega, h2⟩

/-- is a line worse than some other one; the first such line -/
def anyW (bet : Int → Int → Bool) (t : List (List Int)) (a : Nat) : Bool := anyN (fun b => lineB bet t (a : Int) (b : Int)) t.length

def fstW (bet : Int → Int → Bool) (t : List (List Int)) : Option Nat := fstN (anyW bet t) t.length

/-- what is left behind one step, if there is one -/
def stepO (g : List (List Int)) : Option (List (List Int)) :=
  match fstW gtB g with
  | some a => some (woRow g a)
  | none => match fstW ltB (cols g) with
    | some b => some (woCol g b)
    | none => none

def szT (g : List (List Int)) : Nat := g.length + (rowAt g 0).length

def smN : Nat → List (List Int) → List (List Int)
  | 0, g => g
  | n + 1, g => match stepO g with
    | some h => smN n h
    | none => g

def smT (g : List (List Int)) : List (List Int) := smN (szT g) g

def small (g : List (List Int)) : List (List Int) := if gameB g = true then smT g else []

end Go.Proofs.YtlmaeadbomnhlabDoor
