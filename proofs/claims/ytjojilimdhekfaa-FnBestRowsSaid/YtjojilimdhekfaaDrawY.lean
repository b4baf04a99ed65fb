/- Mixtures, and games with mixtures, are drawn out of a code. (Written by wip/gen/drawy.py.) -/
import Derived.Test.YtjojilimdhekfaaDrawX
namespace Go.Proofs.Ytjojilimdhekfaa
set_option linter.unusedSimpArgs false
set_option linter.unusedVariables false
open Go.RowKit

/-- what is drawn: a table and two lists -/
def DrawnXT (w : World) (e : Ending) (w' : World) : Prop :=
  ∃ (g : List (List Int)) (x y : List Int) (T A B : Option Addr) (c d f : Nat), e = .returned (.tuple #[.slice T g.length c, .slice A x.length d, .slice B y.length f]) ∧ g.length ≤ 17 ∧ (∀ i, i < g.length → (rowAt g i).length ≤ 16) ∧ x.length ≤ 18 ∧ y.length ≤ 18 ∧
    Below w.heap.size w w' ∧ Rows2 w' (· < w'.heap.size) T g ∧ Ints w' (· < w'.heap.size) A x ∧ Ints w' (· < w'.heap.size) B y

/-- a table and one list -/
def DrawnXO (w : World) (e : Ending) (w' : World) : Prop :=
  ∃ (g : List (List Int)) (x : List Int) (T A : Option Addr) (c d : Nat), e = .returned (.tuple #[.slice T g.length c, .slice A x.length d]) ∧ g.length ≤ 17 ∧ (∀ i, i < g.length → (rowAt g i).length ≤ 16) ∧ x.length ≤ 18 ∧
    Below w.heap.size w w' ∧ Rows2 w' (· < w'.heap.size) T g ∧ Ints w' (· < w'.heap.size) A x

/-- a list and a number -/
def DrawnXM (w : World) (e : Ending) (w' : World) : Prop :=
  ∃ (x : List Int) (A : Option Addr) (d : Nat) (m : Int), e = .returned (.tuple #[.slice A x.length d, .int .i64 m]) ∧ x.length ≤ 18 ∧ Below w.heap.size w w' ∧ Ints w' (· < w'.heap.size) A x

theorem own_lt {w : World} {lo hi : Nat} {A : Option Addr} {l : List Int} (h : OwnI w lo hi A l) : Ints w (· < hi) A l := h.ints.mono fun _ h => h.2

theorem ownR_lt {w : World} {lo hi : Nat} {A : Option Addr} {g : List (List Int)} (h : OwnR w lo hi A g) : Rows2 w (· < hi) A g := h.rows2.mono fun _ h => h.2

set_option maxHeartbeats 400000 in
theorem dDrawAverageOf (a : Option Addr) (len cap : Nat) (zs : List Int) (w : World) (h : IsRow .u8 w a len cap zs) :
    Calls Try.prog 13 #[.slice a len cap] w (DrawnXT w) := by
  go_enter Try.func13, Try.ntmps13
  go_wp2_with fail
  refine (l20Open a len cap zs w h).mono ?_
  rintro e w1 ⟨rfl, hb1, a1, len1, cap1, zs1, R1⟩
  go_wp2_with fail
  refine (l20Mixed w.heap.size w1 a1 len1 cap1 zs1 0 R1 (by omega)).mono ?_
  rintro e w2 ⟨g, x, y, T, A, B, c, d, f, p', rfl, h1, h2, h3, h4, hK, _, _, _, o1, o2, o3⟩
  have hbel := Lib.hid (hb1.trans (hK.below (Nat.le_refl _) hb1.size))
  have O1 := Lib.hid (ownR_lt o1)
  have O2 := Lib.hid (own_lt o2)
  have O3 := Lib.hid (own_lt o3)
  have H2 := Lib.hid h2
  clear o1 o2 o3 h2 hK R1
  go_wp2_with fail
  go_ret3
  exact ⟨g, x, y, T, A, B, c, d, f, rfl, h1, H2.out, h3, h4, hbel.out, O1.out, O2.out, O3.out⟩

set_option maxHeartbeats 400000 in
theorem dDrawSafeOf (a : Option Addr) (len cap : Nat) (zs : List Int) (w : World) (h : IsRow .u8 w a len cap zs) :
    Calls Try.prog 20 #[.slice a len cap] w (DrawnXO w) := by
  go_enter Try.func20, Try.ntmps20
  go_wp2_with fail
  refine (l20Open a len cap zs w h).mono ?_
  rintro e w1 ⟨rfl, hb1, a1, len1, cap1, zs1, R1⟩
  go_wp2_with fail
  refine (l20Mixed w.heap.size w1 a1 len1 cap1 zs1 0 R1 (by omega)).mono ?_
  rintro e w2 ⟨g, x, y, T, A, B, c, d, f, p', rfl, h1, h2, h3, h4, hK, _, _, _, o1, o2, o3⟩
  have hbel := Lib.hid (hb1.trans (hK.below (Nat.le_refl _) hb1.size))
  have O1 := Lib.hid (ownR_lt o1)
  have O2 := Lib.hid (own_lt o2)
  have O3 := Lib.hid (own_lt o3)
  have H2 := Lib.hid h2
  clear o1 o2 o3 h2 hK R1
  go_wp2_with fail
  go_ret2
  exact ⟨g, x, T, A, c, d, rfl, h1, H2.out, h3, hbel.out, O1.out, O2.out⟩

set_option maxHeartbeats 400000 in
theorem dDrawRiskOf (a : Option Addr) (len cap : Nat) (zs : List Int) (w : World) (h : IsRow .u8 w a len cap zs) :
    Calls Try.prog 23 #[.slice a len cap] w (DrawnXO w) := by
  go_enter Try.func23, Try.ntmps23
  go_wp2_with fail
  refine (l20Open a len cap zs w h).mono ?_
  rintro e w1 ⟨rfl, hb1, a1, len1, cap1, zs1, R1⟩
  go_wp2_with fail
  refine (l20Mixed w.heap.size w1 a1 len1 cap1 zs1 0 R1 (by omega)).mono ?_
  rintro e w2 ⟨g, x, y, T, A, B, c, d, f, p', rfl, h1, h2, h3, h4, hK, _, _, _, o1, o2, o3⟩
  have hbel := Lib.hid (hb1.trans (hK.below (Nat.le_refl _) hb1.size))
  have O1 := Lib.hid (ownR_lt o1)
  have O2 := Lib.hid (own_lt o2)
  have O3 := Lib.hid (own_lt o3)
  have H2 := Lib.hid h2
  clear o1 o2 o3 h2 hK R1
  go_wp2_with fail
  go_ret2
  exact ⟨g, y, T, B, c, f, rfl, h1, H2.out, h4, hbel.out, O1.out, O3.out⟩

set_option maxHeartbeats 400000 in
theorem dDrawBestRows (a : Option Addr) (len cap : Nat) (zs : List Int) (w : World) (h : IsRow .u8 w a len cap zs) :
    Calls Try.prog 30 #[.slice a len cap] w (DrawnXO w) := by
  go_enter Try.func30, Try.ntmps30
  go_wp2_with fail
  refine (l20Open a len cap zs w h).mono ?_
  rintro e w1 ⟨rfl, hb1, a1, len1, cap1, zs1, R1⟩
  go_wp2_with fail
  refine (l20Mixed w.heap.size w1 a1 len1 cap1 zs1 0 R1 (by omega)).mono ?_
  rintro e w2 ⟨g, x, y, T, A, B, c, d, f, p', rfl, h1, h2, h3, h4, hK, _, _, _, o1, o2, o3⟩
  have hbel := Lib.hid (hb1.trans (hK.below (Nat.le_refl _) hb1.size))
  have O1 := Lib.hid (ownR_lt o1)
  have O2 := Lib.hid (own_lt o2)
  have O3 := Lib.hid (own_lt o3)
  have H2 := Lib.hid h2
  clear o1 o2 o3 h2 hK R1
  go_wp2_with fail
  go_ret2
  exact ⟨g, y, T, B, c, f, rfl, h1, H2.out, h4, hbel.out, O1.out, O3.out⟩

end Go.Proofs.Ytjojilimdhekfaa
