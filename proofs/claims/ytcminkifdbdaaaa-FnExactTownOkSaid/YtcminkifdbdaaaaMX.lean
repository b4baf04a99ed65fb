/- Texts in one: FieldS, FieldT, FieldU, FieldV, FieldE. -/
import Derived.Test.YtcminkifdbdaaaaMW
import Derived.Test.YtcminkifdbdaaaaME
import Derived.Test.YtcminkifdbdaaaaMC
import Derived.Laws.Bits64
namespace Go.Proofs.Ytcminkifdbdaaaa
set_option linter.unusedSimpArgs false
set_option linter.unusedVariables false
open Go.RowKit

theorem pw16 {k : Nat} (h : k ≤ 16) : wrap64 (wrap64 (2 ^ k) - 1) = pw k ∧ wrap64 (2 ^ k) = ((2 ^ k : Nat) : Int) ∧ IntKind.i64.wrap (2 ^ k) = ((2 ^ k : Nat) : Int) ∧ ((2 ^ k : Nat) : Int) ≤ 65536 := by
  have : ∀ k : Fin 17, wrap64 (wrap64 (2 ^ k.val) - 1) = pw k.val ∧ wrap64 (2 ^ k.val) = ((2 ^ k.val : Nat) : Int) ∧ IntKind.i64.wrap (2 ^ k.val) = ((2 ^ k.val : Nat) : Int) ∧ ((2 ^ k.val : Nat) : Int) ≤ 65536 := by decide +kernel
  exact this ⟨k, by omega⟩

/-- a field in a block of its own -/
structure Box3 (w : World) (b : Nat) (R C S : Int) : Prop where
  lt : b < w.heap.size
  c0 : w.cell? ⟨b, 0, none⟩ = some (.int .i64 R)
  c1 : w.cell? ⟨b, 1, none⟩ = some (.int .i64 C)
  c2 : w.cell? ⟨b, 2, none⟩ = some (.int .i64 S)

theorem Box3.still {w w' : World} {b : Nat} {R C S : Int} (h : Box3 w b R C S) (hb : Below w.heap.size w w') : Box3 w' b R C S :=
  ⟨Nat.lt_of_lt_of_le h.lt hb.size, (hb.cell (p := ⟨b, 0, none⟩) h.lt).trans h.c0, (hb.cell (p := ⟨b, 1, none⟩) h.lt).trans h.c1, (hb.cell (p := ⟨b, 2, none⟩) h.lt).trans h.c2⟩

theorem in_quiet (n lo hi : Int) (w : World) : Calls Try.prog 55 #[.int .i64 n, .int .i64 lo, .int .i64 hi] w (Quiet (.bool (inR n lo hi)) w) :=
  (in_spec n lo hi w).mono (by rintro e w1 ⟨rfl, rfl⟩; exact Quiet.of rfl)

end Go.Proofs.Ytcminkifdbdaaaa

namespace Go.Proofs.Ytcminkifdbdaaaa
set_option linter.unusedSimpArgs false
set_option linter.unusedVariables false
open Go.RowKit

/-- r times c, kept shut -/
structure Prod (r c n : Nat) : Prop where
  eq : r * c = n
  int : (r : Int) * (c : Int) = (n : Int)
  hi : n ≤ 16
  lo : 1 ≤ n

theorem Grows.base {w : World} {b b' : Nat} {v : Value} {l : List Int} (h : Grows w b v l) (hb : b' ≤ b) : Grows w b' v l := by
  obtain ⟨h1, h2 | ⟨g, cap, cur, k1, k2, k3⟩⟩ := h
  · exact ⟨h1, .inl h2⟩
  · exact ⟨h1, .inr ⟨g, cap, cur, k1, by omega, k3⟩⟩

end Go.Proofs.Ytcminkifdbdaaaa

namespace Go.Proofs.Ytcminkifdbdaaaa
set_option linter.unusedSimpArgs false
set_option linter.unusedVariables false
open Go.RowKit

theorem NewTable.up {w W w' : World} {g : List (List Int)} {e : Ending} (h : NewTable W g e w') (hb : Below w.heap.size w W) : NewTable w g e w' := by
  obtain ⟨T, c, rfl, h1, h2⟩ := h; exact ⟨T, c, rfl, belT hb h1, h2.more hb.size (Nat.le_refl _)⟩

theorem NewList.up {w W w' : World} {l : List Int} {e : Ending} (h : NewList W l e w') (hb : Below w.heap.size w W) : NewList w l e w' := by
  obtain ⟨A, c, rfl, h1, h2⟩ := h; exact ⟨A, c, rfl, belT hb h1, h2.more hb.size (Nat.le_refl _)⟩

/-- a list in one block, whatever else grows -/
theorem ints_grown {w w4 : World} {o : Obj} {k : Option Nat} {bc off : Nat} {l : List Int} (h : Ints w (· = bc) (some ⟨bc, off, none⟩) l) (hb : bc < w.heap.size) (hg : (w.alloc o).grownBy w4 k) (hk : k ≠ some bc) : Ints w4 (· = bc) (some ⟨bc, off, none⟩) l :=
  h.keep fun b e => by
    have e' : b = bc := e
    subst e'
    rw [hg.block b (by simp; omega) hk.symm, Below.heap_alloc _ _ _ hb]

end Go.Proofs.Ytcminkifdbdaaaa

namespace Go.Proofs.Ytcminkifdbdaaaa
set_option linter.unusedSimpArgs false
set_option linter.unusedVariables false
open Go.RowKit

/-- a place of a set, in Go's own operations -/
theorem shr_mod {s k : Nat} : ((s : Int) / 2 ^ k).tmod 2 = (if bP s k = true then 1 else 0) := by
  cases h : bP s k with
  | true => rw [bit_yes h]; rfl
  | false => rw [bit_no h]; rfl

end Go.Proofs.Ytcminkifdbdaaaa

namespace Go.Proofs.Ytcminkifdbdaaaa
set_option linter.unusedSimpArgs false
set_option linter.unusedVariables false
open Go.RowKit

theorem bits_or_i64 (a b : Nat) (ha : a < 4611686018427387904) (hb : b < 4611686018427387904) : bits .or .i64 (a : Int) (b : Int) = ((a ||| b : Nat) : Int) := by
  have hx : a ||| b < 2 ^ 62 := Nat.or_lt_two_pow (by omega) (by omega)
  have h1 : (BitVec.ofInt 64 (a : Int)).toNat = a := by
    rw [BitVec.ofInt_natCast, BitVec.toNat_ofNat]; exact Nat.mod_eq_of_lt (by omega)
  have h2 : (BitVec.ofInt 64 (b : Int)).toNat = b := by
    rw [BitVec.ofInt_natCast, BitVec.toNat_ofNat]; exact Nat.mod_eq_of_lt (by omega)
  show IntKind.i64.wrap ((BitVec.ofInt 64 (a : Int) ||| BitVec.ofInt 64 (b : Int)).toNat : Int) = _
  rw [BitVec.toNat_or, h1, h2]
  exact IntWalk.i64_in _ ⟨by omega, by omega⟩

theorem bits_and_i64 (a b : Nat) (ha : a < 4611686018427387904) (hb : b < 4611686018427387904) : bits .and .i64 (a : Int) (b : Int) = ((a &&& b : Nat) : Int) := by
  have hx : a &&& b < 2 ^ 62 := Nat.and_lt_two_pow _ (by omega)
  have h1 : (BitVec.ofInt 64 (a : Int)).toNat = a := by
    rw [BitVec.ofInt_natCast, BitVec.toNat_ofNat]; exact Nat.mod_eq_of_lt (by omega)
  have h2 : (BitVec.ofInt 64 (b : Int)).toNat = b := by
    rw [BitVec.ofInt_natCast, BitVec.toNat_ofNat]; exact Nat.mod_eq_of_lt (by omega)
  show IntKind.i64.wrap ((BitVec.ofInt 64 (a : Int) &&& BitVec.ofInt 64 (b : Int)).toNat : Int) = _
  rw [BitVec.toNat_and, h1, h2]
  exact IntWalk.i64_in _ ⟨by omega, by omega⟩

theorem bP_test (n i : Nat) : n.testBit i = bP n i := by
  unfold bP
  rw [Nat.testBit_eq_decide_div_mod_eq]
  rfl

theorem or_orB (s k : Nat) : s ||| 2 ^ k = orB s k := by
  apply Nat.eq_of_testBit_eq
  intro i
  rw [Nat.testBit_or, bP_test, bP_test, bP_test, bP_orB]
  congr 1
  rw [← bP_test, Nat.testBit_two_pow]
  by_cases e : i = k
  · subst e; simp
  · rw [decide_eq_false (fun h => e h.symm)]; exact (beq_eq_false_iff_ne.2 e).symm

theorem orB_hi {s k : Nat} (hs : s < 65536) (hk : k < 16) : orB s k < 65536 := orB_lt (n := 16) hs hk

/-- a list of 0 and 1 -/
theorem fld_01 {l : List Int} (h : ∀ i, i < l.length → nth l i = 0 ∨ nth l i = 1) : ∀ k, k ≤ l.length → 0 ≤ sumW l k ∧ sumW l k ≤ k
  | 0, _ => by simp [sumW]
  | k + 1, hk => by
    have a := fld_01 h k (by omega)
    have b := h k (by omega)
    show 0 ≤ sumW l k + nth l k ∧ sumW l k + nth l k ≤ ((k + 1 : Nat) : Int)
    omega

theorem Box3.keepB {w w' : World} {b B : Nat} {R C S : Int} (h : Box3 w b R C S) (hb : Below B w w') (hB : b < B) : Box3 w' b R C S :=
  ⟨Nat.lt_of_lt_of_le h.lt hb.size, (hb.cell (p := ⟨b, 0, none⟩) hB).trans h.c0, (hb.cell (p := ⟨b, 1, none⟩) hB).trans h.c1, (hb.cell (p := ⟨b, 2, none⟩) hB).trans h.c2⟩

end Go.Proofs.Ytcminkifdbdaaaa
