/- Texts in one: DeedM, DeskX, DeskO, DeskP, DeskQ, DeskR, DeskY, DeskZ. -/
import Derived.Test.YtlmaeadbomnhlabDoorQA
import Derived.Lib.ItoaNum
import Derived.Test.YtlmaeadbomnhlabDoorQC
import Derived.Test.YtlmaeadbomnhlabDoorOC
import Derived.Test.YtlmaeadbomnhlabDoorMF
import Derived.Test.YtlmaeadbomnhlabDoorMG
namespace Go.Proofs.YtlmaeadbomnhlabDoor
set_option linter.unusedSimpArgs false
set_option linter.unusedVariables false
open Go.RowKit

/-- the text of a number of at most two digits -/
def natT (u : Nat) : List UInt8 := if u < 10 then [UInt8.ofNat (48 + u)] else [UInt8.ofNat (48 + u / 10), UInt8.ofNat (48 + u % 10)]

def numT (n : Int) : List UInt8 := if n < 0 then 45 :: natT n.natAbs else natT n.toNat

theorem dec_natT {u : Nat} (h : u < 100) : Lib.decDigits u = natT u := by
  unfold natT Lib.decDigits
  by_cases h1 : u < 10
  · rw [dif_pos h1, if_pos h1]
  · rw [dif_neg h1, if_neg h1]
    unfold Lib.decDigits
    rw [dif_pos (by omega)]; rfl

theorem itoa_numT {n : Int} (h1 : -99 ≤ n) (h2 : n ≤ 99) : Lib.itoa n = numT n := by
  unfold Lib.itoa numT
  split
  · rw [dec_natT (by omega)]
  · rw [dec_natT (by omega)]

def setW : List UInt8 := [115, 101, 116]

def shiftW : List UInt8 := [115, 104, 105, 102, 116]

def turnW : List UInt8 := [116, 117, 114, 110]

def smallW : List UInt8 := [115, 109, 97, 108, 108, 101, 114]

def backW : List UInt8 := [98, 97, 99, 107]

/-- has a deed the text of a number put, of a number added -/
def setOk (a : Dd) : Bool := decide (a.kind = 0) && (inR a.row 0 9 && (inR a.col 0 9 && inR a.num (-99) 99))

def shiftOk (a : Dd) : Bool := decide (a.kind = 2 ∧ a.row = 0 ∧ a.col = 0) && inR a.num (-99) 99

/-- the text of a deed -/
def deedT (a : Dd) : List UInt8 :=
  if setOk a = true then setW ++ 32 :: (numT a.row ++ 32 :: (numT a.col ++ 32 :: numT a.num))
  else if shiftOk a = true then shiftW ++ 32 :: numT a.num
  else if a.kind = 1 ∧ a.row = 0 ∧ a.col = 0 ∧ a.num = 0 then turnW
  else if a.kind = 3 ∧ a.row = 0 ∧ a.col = 0 ∧ a.num = 0 then smallW
  else if a.kind = 4 ∧ a.row = 0 ∧ a.col = 0 ∧ a.num = 0 then backW
  else []

/-- what stands between bytes of one kind -/
def sepT (sep : UInt8) : List UInt8 → List (List UInt8)
  | [] => [[]]
  | c :: s => if c = sep then [] :: sepT sep s else match sepT sep s with
    | [] => [[c]]
    | w :: ws => (c :: w) :: ws

theorem cutw_cons (sep c : UInt8) (s : List UInt8) : sepT sep (c :: s) = if c = sep then [] :: sepT sep s else match sepT sep s with
    | [] => [[c]]
    | w :: ws => (c :: w) :: ws := rfl

theorem cutw_ne (sep : UInt8) (s : List UInt8) : sepT sep s ≠ [] := by
  cases s with
  | nil => simp [sepT]
  | cons c s =>
    unfold sepT
    split
    · simp
    · split <;> simp

theorem cutw_free {sep : UInt8} : ∀ (w : List UInt8), (∀ c, c ∈ w → c ≠ sep) → sepT sep w = [w]
  | [], _ => rfl
  | c :: w, h => by
    have ih := cutw_free w (fun d hd => h d (List.mem_cons_of_mem _ hd))
    rw [cutw_cons, if_neg (h c List.mem_cons_self), ih]

theorem cutw_at {sep : UInt8} : ∀ (w s : List UInt8), (∀ c, c ∈ w → c ≠ sep) → sepT sep (w ++ sep :: s) = w :: sepT sep s
  | [], s, _ => by show sepT sep (sep :: s) = _; rw [cutw_cons, if_pos rfl]
  | c :: w, s, h => by
    have ih := cutw_at w s (fun d hd => h d (List.mem_cons_of_mem _ hd))
    show sepT sep (c :: (w ++ sep :: s)) = _
    rw [cutw_cons, if_neg (h c List.mem_cons_self), ih]

/-- the number of digits: what is told, and is it one -/
def digsN : Int → List UInt8 → Int
  | n, [] => n
  | n, c :: s => digsN (10 * n + ((c.toNat : Int) - 48)) s

def isDig (c : UInt8) : Bool := decide (48 ≤ c.toNat) && decide (c.toNat ≤ 57)

def plainR (s : List UInt8) : Bool := decide (1 ≤ s.length) && (decide (s.length ≤ 9) && ((decide (s.length = 1) || decide (s.head? ≠ some 48)) && s.all isDig))

def digI : List UInt8 → Int
  | [] => 0
  | c :: s => if c = 45 ∧ s ≠ [] then -(digI s) else if plainR (c :: s) = true then digsN 0 (c :: s) else 0

def digB' : List UInt8 → Bool
  | [] => false
  | c :: s => if c = 45 ∧ s ≠ [] then digB' s && decide (0 < digI s) else plainR (c :: s)

/-- small numbers are read as they are written; no space stands in them, and no end of a line -/
def smallN (n : Int) : Bool := decide (digI (numT n) = n) && (digB' (numT n) && ((numT n).all (fun c => decide (c ≠ 32) && decide (c ≠ 10)) && decide (1 ≤ (numT n).length ∧ (numT n).length ≤ 3)))

set_option maxRecDepth 100000 in
theorem small_all : ((List.range 199).all fun k => smallN ((k : Int) - 99)) = true := by decide +kernel

structure SmallN (n : Int) : Prop where
  read : digI (numT n) = n
  ok : digB' (numT n) = true
  free : ∀ c, c ∈ numT n → c ≠ 32 ∧ c ≠ 10
  lo : 1 ≤ (numT n).length
  hi : (numT n).length ≤ 3

theorem small_at {n : Int} (h1 : -99 ≤ n) (h2 : n ≤ 99) : SmallN n := by
  have h := List.all_eq_true.1 small_all (n + 99).toNat (List.mem_range.2 (by omega))
  rw [show (((n + 99).toNat : Nat) : Int) - 99 = n by omega] at h
  unfold smallN at h
  simp only [Bool.and_eq_true, decide_eq_true_eq, List.all_eq_true] at h
  exact ⟨h.1, h.2.1, h.2.2.1, h.2.2.2.1, h.2.2.2.2⟩

theorem inR_is {n lo hi : Int} : inR n lo hi = true ↔ lo ≤ n ∧ n ≤ hi := by unfold inR; rw [decide_eq_true_eq]

theorem setOk_iff {a : Dd} : setOk a = true ↔ a.kind = 0 ∧ (0 ≤ a.row ∧ a.row ≤ 9) ∧ (0 ≤ a.col ∧ a.col ≤ 9) ∧ (-99 ≤ a.num ∧ a.num ≤ 99) := by
  unfold setOk; rw [Bool.and_eq_true, Bool.and_eq_true, Bool.and_eq_true, inR_is, inR_is, inR_is, decide_eq_true_eq]

theorem shiftOk_iff {a : Dd} : shiftOk a = true ↔ (a.kind = 2 ∧ a.row = 0 ∧ a.col = 0) ∧ (-99 ≤ a.num ∧ a.num ≤ 99) := by
  unfold shiftOk; rw [Bool.and_eq_true, inR_is, decide_eq_true_eq]

theorem num_free {n : Int} (h1 : -99 ≤ n) (h2 : n ≤ 99) : ∀ c, c ∈ numT n → c ≠ 32 := fun c hc => ((small_at h1 h2).free c hc).1

/-- the words of a text of a number put -/
theorem set_words {a : Dd} (h : setOk a = true) : sepT 32 (deedT a) = [setW, numT a.row, numT a.col, numT a.num] := by
  obtain ⟨_, h1, h2, h3⟩ := setOk_iff.1 h
  unfold deedT
  rw [if_pos h, cutw_at _ _ (by decide), cutw_at _ _ (num_free (by omega) (by omega)), cutw_at _ _ (num_free (by omega) (by omega)), cutw_free _ (num_free h3.1 h3.2)]

theorem shift_words {a : Dd} (h : shiftOk a = true) : sepT 32 (deedT a) = [shiftW, numT a.num] := by
  obtain ⟨h0, h3⟩ := shiftOk_iff.1 h
  have hn : setOk a = false := by
    rcases hx : setOk a with _ | _
    · rfl
    · have := (setOk_iff.1 hx).1; omega
  unfold deedT
  rw [hn, if_neg (by decide), if_pos h, cutw_at _ _ (by decide), cutw_free _ (num_free h3.1 h3.2)]

/-- the deeds that a text may be that of -/
def ddTurn : Dd := ⟨1, 0, 0, 0⟩

def ddSmall : Dd := ⟨3, 0, 0, 0⟩

def candL (s : List UInt8) : List Dd :=
  [ddTurn, ddSmall, ddBack] ++ (if (sepT 32 s).length = 4 then [⟨0, digI ((sepT 32 s).getD 1 []), digI ((sepT 32 s).getD 2 []), digI ((sepT 32 s).getD 3 [])⟩] else []) ++
    (if (sepT 32 s).length = 2 then [⟨2, 0, 0, digI ((sepT 32 s).getD 1 [])⟩] else [])

/-- the first of some deeds that has a text -/
def findD (s : List UInt8) : List Dd → Option Dd
  | [] => none
  | a :: l => if s ≠ [] ∧ deedT a = s then some a else findD s l

def readO (s : List UInt8) : Option Dd := findD s (candL s)

def ddZero : Dd := ⟨0, 0, 0, 0⟩

def readD (s : List UInt8) : Dd := (readO s).getD ddZero

def readB (s : List UInt8) : Bool := (readO s).isSome

theorem find_text {s : List UInt8} : ∀ {l : List Dd} {a : Dd}, findD s l = some a → s ≠ [] ∧ deedT a = s
  | [], a, h => by cases h
  | b :: l, a, h => by
    unfold findD at h
    split at h
    · rename_i h1; cases h; exact h1
    · exact find_text h

/-- a text that is read is that of the deed -/
theorem read_text {s : List UInt8} (h : readB s = true) : s ≠ [] ∧ deedT (readD s) = s := by
  unfold readB at h
  obtain ⟨a, ha⟩ := Option.isSome_iff_exists.1 h
  unfold readD; rw [ha]
  exact find_text ha

end Go.Proofs.YtlmaeadbomnhlabDoor

namespace Go.Proofs.YtlmaeadbomnhlabDoor
set_option linter.unusedSimpArgs false
set_option linter.unusedVariables false
open Go.RowKit

/-- a deed as a value -/
def ddV (a : Dd) : Value := .agg #[.int .i64 a.kind, .int .i64 a.row, .int .i64 a.col, .int .i64 a.num]

theorem TouchS.drew {K : Nat → Prop} {a b : World} (h : TouchS K a b) : TouchS K a b.drew := ⟨h.os, h.tape, h.output, h.size, h.block⟩

theorem TouchS.put {br : Nat} {a b : World} (h : TouchS (fun x => x = br) a b) (o : Nat) (v : Value) : TouchS (fun x => x = br) a (b.setCell ⟨br, o, none⟩ v) :=
  ⟨h.os, h.tape, h.output, by simpa [World.setCell] using h.size, fun i hi => by rw [Below.heap_setCell _ _ _ _ (by show i ≠ br; exact hi)]; exact h.block i hi⟩

end Go.Proofs.YtlmaeadbomnhlabDoor

namespace Go.Proofs.YtlmaeadbomnhlabDoor
set_option linter.unusedSimpArgs false
set_option linter.unusedVariables false
open Go.RowKit



end Go.Proofs.YtlmaeadbomnhlabDoor

namespace Go.Proofs.YtlmaeadbomnhlabDoor
set_option linter.unusedSimpArgs false
set_option linter.unusedVariables false
open Go.RowKit



end Go.Proofs.YtlmaeadbomnhlabDoor

namespace Go.Proofs.YtlmaeadbomnhlabDoor
set_option linter.unusedSimpArgs false
set_option linter.unusedVariables false
open Go.RowKit



end Go.Proofs.YtlmaeadbomnhlabDoor

namespace Go.Proofs.YtlmaeadbomnhlabDoor
set_option linter.unusedSimpArgs false
set_option linter.unusedVariables false
open Go.RowKit



end Go.Proofs.YtlmaeadbomnhlabDoor

namespace Go.Proofs.YtlmaeadbomnhlabDoor
set_option linter.unusedSimpArgs false
set_option linter.unusedVariables false
open Go.RowKit



end Go.Proofs.YtlmaeadbomnhlabDoor

namespace Go.Proofs.YtlmaeadbomnhlabDoor
set_option linter.unusedSimpArgs false
set_option linter.unusedVariables false
open Go.RowKit



end Go.Proofs.YtlmaeadbomnhlabDoor
