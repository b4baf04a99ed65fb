/- Plain mathematics: windows. It imports nothing of the program but names. -/
import Derived.Test.YtlkjpmdnhccdpaaMF
namespace Go.Proofs.Ytlkjpmdnhccdpaa
set_option linter.unusedSimpArgs false
set_option linter.unusedVariables false
open Go.RowKit

/-- are there so many cells and such windows -/
def winB (c d : Int) : Bool := inR c 1 16 && inR d 1 c

/-- the first k cells from f on are shown; on a ring -/
def rowTo (c f : Nat) : Nat → List Int
  | 0 => List.replicate c 0
  | k + 1 => (rowTo c f k).set (f + k) 1

def ringTo (c f : Nat) : Nat → List Int
  | 0 => List.replicate c 0
  | k + 1 => (ringTo c f k).set ((f + k) % c) 1

def winTo (c d : Nat) : Nat → List (List Int)
  | 0 => []
  | k + 1 => winTo c d k ++ [rowTo c k d]

def rinTo (c d : Nat) : Nat → List (List Int)
  | 0 => []
  | k + 1 => rinTo c d k ++ [ringTo c k d]

def winT (c d : Nat) : List (List Int) := winTo c d (c - d + 1)

def rinT (c d : Nat) : List (List Int) := rinTo c d c

/-- how many windows -/
def wins (c d : Nat) : Nat := (c + d - 1) / d

def lookTo (c d : Nat) : Nat → List Int
  | 0 => List.replicate (c - d + 1) 0
  | k + 1 => (lookTo c d k).set (min (k * d) (c - d)) 1

def hideTo (c d : Nat) : Nat → List Int
  | 0 => List.replicate c 0
  | k + 1 => (hideTo c d k).set (k * d) 1

def lookT (c d : Nat) : List Int := lookTo c d (wins c d)

def hideT (c d : Nat) : List Int := hideTo c d (wins c d)

def winG (c d : Int) : List (List Int) := if winB c d = true then winT c.toNat d.toNat else []

def rinG (c d : Int) : List (List Int) := if winB c d = true then rinT c.toNat d.toNat else []

def winV (c d : Int) : Int := if winB c d = true then (wins c.toNat d.toNat : Int) else -1

def lookL (c d : Int) : List Int := if winB c d = true then lookT c.toNat d.toNat else []

def hideL (c d : Int) : List Int := if winB c d = true then hideT c.toNat d.toNat else []

theorem winB_iff {c d : Int} : winB c d = true ↔ 1 ≤ c ∧ c ≤ 16 ∧ 1 ≤ d ∧ d ≤ c := by
  simp [winB, inR]; omega

theorem win_nat {c d : Int} (h : winB c d = true) : ∃ m n : Nat, c = (m : Int) ∧ d = (n : Int) ∧ 1 ≤ m ∧ m ≤ 16 ∧ 1 ≤ n ∧ n ≤ m := by
  have := winB_iff.1 h
  exact ⟨c.toNat, d.toNat, by omega, by omega, by omega, by omega, by omega, by omega⟩

theorem win_no {c d : Int} (h : winB c d = false) : winG c d = [] ∧ rinG c d = [] ∧ winV c d = -1 ∧ lookL c d = [] ∧ hideL c d = [] := by
  have e : ¬ winB c d = true := by rw [h]; decide
  unfold winG rinG winV lookL hideL; rw [if_neg e, if_neg e, if_neg e, if_neg e, if_neg e]; exact ⟨rfl, rfl, rfl, rfl, rfl⟩

theorem win_yes {m n : Nat} (h : winB (m : Int) (n : Int) = true) : winG m n = winT m n ∧ rinG m n = rinT m n ∧ winV m n = (wins m n : Int) ∧ lookL m n = lookT m n ∧ hideL m n = hideT m n := by
  unfold winG rinG winV lookL hideL; rw [if_pos h, if_pos h, if_pos h, if_pos h, if_pos h]; exact ⟨rfl, rfl, rfl, rfl, rfl⟩

theorem rowTo_length (c f k : Nat) : (rowTo c f k).length = c := by
  induction k with
  | zero => simp [rowTo]
  | succ k ih => simp [rowTo, ih]

theorem ringTo_length (c f k : Nat) : (ringTo c f k).length = c := by
  induction k with
  | zero => simp [ringTo]
  | succ k ih => simp [ringTo, ih]

theorem lookTo_length (c d k : Nat) : (lookTo c d k).length = c - d + 1 := by
  induction k with
  | zero => simp [lookTo]
  | succ k ih => simp [lookTo, ih]

theorem hideTo_length (c d k : Nat) : (hideTo c d k).length = c := by
  induction k with
  | zero => simp [hideTo]
  | succ k ih => simp [hideTo, ih]

theorem winTo_length (c d k : Nat) : (winTo c d k).length = k := by
  induction k with
  | zero => rfl
  | succ k ih => simp [winTo, ih]

theorem rinTo_length (c d k : Nat) : (rinTo c d k).length = k := by
  induction k with
  | zero => rfl
  | succ k ih => simp [rinTo, ih]

/-! all cells and windows there are: the kernel looks at each of them -/

def allWin (f : Nat → Nat → Bool) : Bool := (List.range 17).all fun c => (List.range 17).all fun d => !(winB (c : Int) (d : Int)) || f c d

theorem allWin_at {f : Nat → Nat → Bool} (h : allWin f = true) {m n : Nat} (hw : winB (m : Int) (n : Int) = true) : f m n = true := by
  have hh := winB_iff.1 hw
  unfold allWin at h
  rw [List.all_eq_true] at h
  have h1 := h m (List.mem_range.2 (by omega))
  rw [List.all_eq_true] at h1
  have h2 := h1 n (List.mem_range.2 (by omega))
  rwa [hw, Bool.not_true, Bool.false_or] at h2

set_option maxRecDepth 100000 in
theorem win_all_set : allWin (fun c d => setB (winT c d) (lookT c d) (hideT c d) && ((safU (winT c d) (lookT c d) == 1) && (safD (winT c d) (lookT c d) == (wins c d : Int)))) = true := by decide +kernel

set_option maxRecDepth 100000 in
theorem win_all_sums : allWin (fun c d => (sumW (lookT c d) (lookT c d).length == (wins c d : Int)) && ((sumW (hideT c d) (hideT c d).length == (wins c d : Int)) && (decide (1 ≤ wins c d) && decide (wins c d ≤ 16)))) = true := by decide +kernel

set_option maxRecDepth 100000 in
theorem win_all_seen : allWin (fun c d => (List.range c).all fun j => (List.range (c - d + 1)).any fun i => decide (0 < nth (lookT c d) i) && (nth (rowAt (winT c d) i) j == 1)) = true := by decide +kernel

set_option maxRecDepth 100000 in
theorem win_all_game : allWin (fun c d => gameB (winT c d) && gameB (rinT c d)) = true := by decide +kernel

set_option maxRecDepth 100000 in
theorem rin_all_set : allWin (fun c d => setB (rinT c d) (List.replicate c 1) (List.replicate c 1) && ((safU (rinT c d) (List.replicate c 1) == lowU d c) && ((safD (rinT c d) (List.replicate c 1) == lowD d c) && (decide (1 ≤ lowU d c * wins c d ∧ lowD d c ≤ lowU d c * wins c d))))) = true := by decide +kernel

end Go.Proofs.Ytlkjpmdnhccdpaa
