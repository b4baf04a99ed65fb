/- Texts in one: Frac, FracB, FracC, FracD, FracE, All. -/
import Derived.Test.YtlkjpmdnhccdpabProg
import Derived.Test.YtlkjpmdnhccdpabMA
import Derived.WalkKit
import Derived.WalkSpells
import Derived.WalkLawsBesides
import Derived.IntWalk
import Derived.Lib.Hide
import Derived.RegionTactic
import Derived.ChangeAlike
import Derived.Deep.QuietTactic
import Derived.BigQuiet
import Derived.Deep.RegionWith
import Derived.Deep.RegionHeld3
import Derived.BigRegion
import Derived.Deep.OwnRows
namespace Go.Proofs.Ytlkjpmdnhccdpab
set_option linter.unusedSimpArgs false
set_option linter.unusedVariables false
open Go.RowKit

theorem ret_int {k : IntKind} {a b : Int} (h : a = b) : Ending.returned (.int k a) = .returned (.int k b) := by rw [h]

/-- what lies below a world's blocks reads as it did -/
theorem bcell {W w1 : World} (hb : Below W.heap.size W w1) : (∀ b o, b < W.heap.size → w1.cell? ⟨b, o, none⟩ = W.cell? ⟨b, o, none⟩) ∧ (∀ b o, b < W.heap.size → w1.frozen? ⟨b, o, none⟩ = W.frozen? ⟨b, o, none⟩) :=
  ⟨fun b o h => hb.cell (p := ⟨b, o, none⟩) h, fun b o h => hb.frozen (p := ⟨b, o, none⟩) h⟩

set_option maxHeartbeats 400000 in
theorem in_spec (n lo hi : Int) (w : World) :
    Calls Try.prog 57 #[.int .i64 n, .int .i64 lo, .int .i64 hi] w fun e w' => e = .returned (.bool (inR n lo hi)) ∧ w = w' := by
  by_cases h1 : lo ≤ n
  · by_cases h2 : n ≤ hi
    · have hf : inR n lo hi = true := by simp [inR, h1, h2]
      go_enter Try.func57, Try.ntmps57
      go_wp2
      go_ret
      exact ⟨by simp [hf], rfl⟩
    · have hf : inR n lo hi = false := by simp [inR, h2]
      go_enter Try.func57, Try.ntmps57
      go_wp2
      go_ret
      exact ⟨by simp [hf], rfl⟩
  · have hf : inR n lo hi = false := by simp [inR, h1]
    go_enter Try.func57, Try.ntmps57
    go_wp2
    go_ret
    exact ⟨by simp [hf], rfl⟩

theorem low_neg64 {u d : Int} (h : d < 0) (hu : -4611686018427387904 ≤ u) (hu' : u ≤ 4611686018427387904) (hd : -4611686018427387904 ≤ d) (hd' : d ≤ 4611686018427387904) :
    lowU u d = wrap64 (-u.tdiv (gcdI u d)) ∧ lowD u d = wrap64 (-d.tdiv (gcdI u d)) := by
  obtain ⟨e1, e2⟩ := low_neg (u := u) h
  have q1 := tdiv_in u (-gcdI u d) hu hu'
  have q2 := tdiv_in d (-gcdI u d) hd hd'
  rw [e1, e2]
  simp only [Int.tdiv_neg] at q1 q2 ⊢
  exact ⟨(IntWalk.wrap64_in _ ⟨by omega, by omega⟩).symm, (IntWalk.wrap64_in _ ⟨by omega, by omega⟩).symm⟩

theorem ret_two {k : IntKind} {a b c d : Int} (h : a = c) (h' : b = d) : Ending.returned (.tuple #[.int k a, .int k b]) = .returned (.tuple #[.int k c, .int k d]) := by rw [h, h']

end Go.Proofs.Ytlkjpmdnhccdpab

namespace Go.Proofs.Ytlkjpmdnhccdpab
set_option linter.unusedSimpArgs false
set_option linter.unusedVariables false
open Go.RowKit

theorem bel1 {w w1 : World} {o : Obj} (h : Below (w.alloc o).heap.size (w.alloc o) w1) : Below w.heap.size w w1 :=
  ((Below.refl _ _).alloc (Nat.le_refl _) _).trans (h.mono (by simp))

theorem bel2 {w w1 : World} {o p : Obj} (h : Below ((w.alloc o).alloc p).heap.size ((w.alloc o).alloc p) w1) : Below w.heap.size w w1 := bel1 ((bel1 h).mono (by simp))

theorem bel3 {w w1 : World} {o p q : Obj} (h : Below (((w.alloc o).alloc p).alloc q).heap.size (((w.alloc o).alloc p).alloc q) w1) : Below w.heap.size w w1 := bel1 ((bel2 h).mono (by simp))

theorem bel4 {w w1 : World} {o p q r : Obj} (h : Below ((((w.alloc o).alloc p).alloc q).alloc r).heap.size ((((w.alloc o).alloc p).alloc q).alloc r) w1) : Below w.heap.size w w1 := bel1 ((bel3 h).mono (by simp))

theorem belT {w w1 w2 : World} (h1 : Below w.heap.size w w1) (h2 : Below w1.heap.size w1 w2) : Below w.heap.size w w2 := h1.trans (h2.mono h1.size)

/-- may FracOf divide them? -/
def ofB (u d : Int) : Bool := inR u (-1000000000) 1000000000 && inR d (-1000000000) 1000000000 && !(d == 0)

theorem ofB_iff {u d : Int} : ofB u d = true ↔ (-1000000000 ≤ u ∧ u ≤ 1000000000 ∧ -1000000000 ≤ d ∧ d ≤ 1000000000 ∧ d ≠ 0) := by
  unfold ofB inR; simp; omega

end Go.Proofs.Ytlkjpmdnhccdpab

namespace Go.Proofs.Ytlkjpmdnhccdpab
set_option linter.unusedSimpArgs false
set_option linter.unusedVariables false
open Go.RowKit

/-- a cell that stays through whatever only adds blocks: a rule for the walk -/
theorem stays {W : World} {p o : Nat} {a : Value} (hp : p < W.heap.size) (h : W.cell? ⟨p, o, none⟩ = some a) : ∀ w1, Below W.heap.size W w1 → w1.cell? ⟨p, o, none⟩ = some a :=
  fun _ hb => (hb.cell (p := ⟨p, o, none⟩) hp).trans h

theorem staysF {W : World} {p o : Nat} {b : Bool} (hp : p < W.heap.size) (h : W.frozen? ⟨p, o, none⟩ = b) : ∀ w1, Below W.heap.size W w1 → w1.frozen? ⟨p, o, none⟩ = b :=
  fun _ hb => (hb.frozen (p := ⟨p, o, none⟩) hp).trans h

/-- what a cell holds -/
def held (w : World) (p o : Nat) : Value := (w.cell? ⟨p, o, none⟩).getD .nilFunc

/-- are lowest terms small enough -/
def ovB (a b : Int) : Bool := inR (lowU a b) (-1000000000) 1000000000 && inR (lowD a b) (-1000000000) 1000000000

end Go.Proofs.Ytlkjpmdnhccdpab

namespace Go.Proofs.Ytlkjpmdnhccdpab
set_option linter.unusedSimpArgs false
set_option linter.unusedVariables false
open Go.RowKit



end Go.Proofs.Ytlkjpmdnhccdpab

namespace Go.Proofs.Ytlkjpmdnhccdpab
set_option linter.unusedSimpArgs false
set_option linter.unusedVariables false
open Go.RowKit

/-- is it less? -/
def lessB (fu fd gu gd : Int) : Bool := okB fu fd && okB gu gd && decide (fu * gd < gu * fd)

theorem lessB_ok {fu fd gu gd : Int} (hf : okB fu fd = true) (hg : okB gu gd = true) : lessB fu fd gu gd = decide (fu * gd < gu * fd) := by simp [lessB, hf, hg]

end Go.Proofs.Ytlkjpmdnhccdpab

namespace Go.Proofs.Ytlkjpmdnhccdpab
set_option linter.unusedSimpArgs false
set_option linter.unusedVariables false
open Go.RowKit

def ofU (u d : Int) : Int := if ofB u d = true then lowU u d else 0

def ofD (u d : Int) : Int := if ofB u d = true then lowD u d else 0

def mnU (u d : Int) : Int := if okB u d = true then -u else 0

def mnD (u d : Int) : Int := if okB u d = true then d else 0

def psB (fu fd gu gd : Int) : Bool := okB fu fd && okB gu gd && plB fu fd gu gd

def psU (fu fd gu gd : Int) : Int := if psB fu fd gu gd = true then plU fu fd gu gd else 0

def psD (fu fd gu gd : Int) : Int := if psB fu fd gu gd = true then plD fu fd gu gd else 0

end Go.Proofs.Ytlkjpmdnhccdpab
