/- Mixtures, and games with mixtures, are drawn out of a code. (Written by wip/gen/drawy.py.) -/
import Derived.Test.YtklieaikndakfaaDrawX
namespace Go.Proofs.Ytklieaikndakfaa
set_option linter.unusedSimpArgs false
set_option linter.unusedVariables false
open Go.RowKit

/-- what is drawn: a table and two lists -/
def DrawnXT (w : World) (e : Ending) (w' : World) : Prop :=
  ∃ (g : List (List Int)) (x y : List Int) (T A B : Option Addr) (c d f : Nat), e = .returned (.tuple #[.slice T g.length c, .slice A x.length d, .slice B y.length f]) ∧ g.length ≤ 17 ∧ (∀ i, i < g.length → (rowAt g i).length ≤ 16) ∧ x.length ≤ 18 ∧ y.length ≤ 18 ∧
    Below w.heap.size w w' ∧ Rows2 w' (· < w'.heap.size) T g ∧ Ints w' (· < w'.heap.size) A x ∧ Ints w' (· < w'.heap.size) B y

/-- a table and one list -/
def DrawnXO (w : World) (e : Ending) (w' : World) : Prop :=
  ∃ (g : List (List Int)) (x : List Int) (T A : Option Addr) (c d : Nat), e = .returned (.tuple #[.slice T g.length c, .slice A x.length d]) ∧ g.length ≤ 17 ∧ (∀ i, i < g.length → (rowAt g i).length ≤ 16) ∧ x.length ≤ 18 ∧
    Below w.heap.size w w' ∧ Rows2 w' (· < w'.heap.size) T g ∧ Ints w' (· < w'.heap.size) A x

/-- a list and a number -/
def DrawnXM (w : World) (e : Ending) (w' : World) : Prop :=
  ∃ (x : List Int) (A : Option Addr) (d : Nat) (m : Int), e = .returned (.tuple #[.slice A x.length d, .int .i64 m]) ∧ x.length ≤ 18 ∧ Below w.heap.size w w' ∧ Ints w' (· < w'.heap.size) A x

theorem own_lt {w : World} {lo hi : Nat} {A : Option Addr} {l : List Int} (h : OwnI w lo hi A l) : Ints w (· < hi) A l := h.ints.mono fun _ h => h.2

theorem ownR_lt {w : World} {lo hi : Nat} {A : Option Addr} {g : List (List Int)} (h : OwnR w lo hi A g) : Rows2 w (· < hi) A g := h.rows2.mono fun _ h => h.2

set_option maxHeartbeats 400000 in
theorem dDrawAverageOf (a : Option Addr) (len cap : Nat) (zs : List Int) (w : World) (h : IsRow .u8 w a len cap zs) :
    Calls Try.prog 19 #[.slice a len cap] w (DrawnXT w) := by
  go_enter Try.func19, Try.ntmps19
  go_wp2_with fail
  refine (l20Open a len cap zs w h).mono ?_
  rintro e w1 ⟨rfl, hb1, a1, len1, cap1, zs1, R1⟩
  go_wp2_with fail
  refine (l20Mixed w.heap.size w1 a1 len1 cap1 zs1 0 R1 (by omega)).mono ?_
  rintro e w2 ⟨g, x, y, T, A, B, c, d, f, p', rfl, h1, h2, h3, h4, hK, _, _, _, o1, o2, o3⟩
  have hbel := Lib.hid (hb1.trans (hK.below (Nat.le_refl _) hb1.size))
  have O1 := Lib.hid (ownR_lt o1)
  have O2 := Lib.hid (own_lt o2)
  have O3 := Lib.hid (own_lt o3)
  have H2 := Lib.hid h2
  clear o1 o2 o3 h2 hK R1
  go_wp2_with fail
  go_ret3
  exact ⟨g, x, y, T, A, B, c, d, f, rfl, h1, H2.out, h3, h4, hbel.out, O1.out, O2.out, O3.out⟩

set_option maxHeartbeats 400000 in
theorem dDrawSafeOf (a : Option Addr) (len cap : Nat) (zs : List Int) (w : World) (h : IsRow .u8 w a len cap zs) :
    Calls Try.prog 25 #[.slice a len cap] w (DrawnXO w) := by
  go_enter Try.func25, Try.ntmps25
  go_wp2_with fail
  refine (l20Open a len cap zs w h).mono ?_
  rintro e w1 ⟨rfl, hb1, a1, len1, cap1, zs1, R1⟩
  go_wp2_with fail
  refine (l20Mixed w.heap.size w1 a1 len1 cap1 zs1 0 R1 (by omega)).mono ?_
  rintro e w2 ⟨g, x, y, T, A, B, c, d, f, p', rfl, h1, h2, h3, h4, hK, _, _, _, o1, o2, o3⟩
  have hbel := Lib.hid (hb1.trans (hK.below (Nat.le_refl _) hb1.size))
  have O1 := Lib.hid (ownR_lt o1)
  have O2 := Lib.hid (own_lt o2)
  have O3 := Lib.hid (own_lt o3)
  have H2 := Lib.hid h2
  clear o1 o2 o3 h2 hK R1
  go_wp2_with fail
  go_ret2
  exact ⟨g, x, T, A, c, d, rfl, h1, H2.out, h3, hbel.out, O1.out, O2.out⟩

set_option maxHeartbeats 400000 in
theorem dDrawRiskOf (a : Option Addr) (len cap : Nat) (zs : List Int) (w : World) (h : IsRow .u8 w a len cap zs) :
    Calls Try.prog 28 #[.slice a len cap] w (DrawnXO w) := by
  go_enter Try.func28, Try.ntmps28
  go_wp2_with fail
  refine (l20Open a len cap zs w h).mono ?_
  rintro e w1 ⟨rfl, hb1, a1, len1, cap1, zs1, R1⟩
  go_wp2_with fail
  refine (l20Mixed w.heap.size w1 a1 len1 cap1 zs1 0 R1 (by omega)).mono ?_
  rintro e w2 ⟨g, x, y, T, A, B, c, d, f, p', rfl, h1, h2, h3, h4, hK, _, _, _, o1, o2, o3⟩
  have hbel := Lib.hid (hb1.trans (hK.below (Nat.le_refl _) hb1.size))
  have O1 := Lib.hid (ownR_lt o1)
  have O2 := Lib.hid (own_lt o2)
  have O3 := Lib.hid (own_lt o3)
  have H2 := Lib.hid h2
  clear o1 o2 o3 h2 hK R1
  go_wp2_with fail
  go_ret2
  exact ⟨g, y, T, B, c, f, rfl, h1, H2.out, h4, hbel.out, O1.out, O3.out⟩

set_option maxHeartbeats 400000 in
theorem dDrawBestRows (a : Option Addr) (len cap : Nat) (zs : List Int) (w : World) (h : IsRow .u8 w a len cap zs) :
    Calls Try.prog 35 #[.slice a len cap] w (DrawnXO w) := by
  go_enter Try.func35, Try.ntmps35
  go_wp2_with fail
  refine (l20Open a len cap zs w h).mono ?_
  rintro e w1 ⟨rfl, hb1, a1, len1, cap1, zs1, R1⟩
  go_wp2_with fail
  refine (l20Mixed w.heap.size w1 a1 len1 cap1 zs1 0 R1 (by omega)).mono ?_
  rintro e w2 ⟨g, x, y, T, A, B, c, d, f, p', rfl, h1, h2, h3, h4, hK, _, _, _, o1, o2, o3⟩
  have hbel := Lib.hid (hb1.trans (hK.below (Nat.le_refl _) hb1.size))
  have O1 := Lib.hid (ownR_lt o1)
  have O2 := Lib.hid (own_lt o2)
  have O3 := Lib.hid (own_lt o3)
  have H2 := Lib.hid h2
  clear o1 o2 o3 h2 hK R1
  go_wp2_with fail
  go_ret2
  exact ⟨g, y, T, B, c, f, rfl, h1, H2.out, h4, hbel.out, O1.out, O3.out⟩

set_option maxHeartbeats 400000 in
theorem dDrawMixOk (a : Option Addr) (len cap : Nat) (zs : List Int) (w : World) (h : IsRow .u8 w a len cap zs) :
    Calls Try.prog 15 #[.slice a len cap] w (DrawnXM w) := by
  go_enter Try.func15, Try.ntmps15
  go_wp2_with fail
  refine (l20Open a len cap zs w h).mono ?_
  rintro e w1 ⟨rfl, hb1, a1, len1, cap1, zs1, R1⟩
  go_wp2_with fail
  refine (pick _ _ a1 len1 cap1 zs1 0 5 R1 (by omega) (by omega) (by omega)).mono ?_
  intro e w2 hP
  obtain ⟨v2, rfl, v20, v21, k2, R2⟩ := hP
  obtain ⟨M, hM⟩ : ∃ M : Nat, (1 : Int) + v2 = (M : Int) := ⟨(1 + v2).toNat, by omega⟩
  have HM := Lib.hid hM
  clear hM
  go_wp2_with fail
  rw [HM.out]
  refine (l20Mix _ _ a1 len1 cap1 zs1 (0 + 1) 3 M R2 (by omega) (by have := HM.out; omega) (by have := HM.out; omega) (by omega) (by omega)).mono ?_
  rintro e w3 ⟨x, A, d, p3, rfl, hx, K3, R3, hp3, hp4, o3⟩
  have hMb : M ≤ 5 := by have := HM.out; omega
  have B1 := hb1.trans (k2.below (Nat.le_refl _) hb1.size)
  have B3 := Lib.hid (B1.trans (K3.below (Nat.le_refl _) B1.size))
  have hs2 := k2.size
  have hsz2 : w.heap.size < w2.heap.size := R2.lt
  have X3 := o3
  clear k2 K3
  go_wp2_with fail
  refine (pick _ _ a1 len1 cap1 zs1 p3 12 R3 (by omega) (by omega) (by omega)).mono ?_
  intro e w4 hP
  obtain ⟨v4, rfl, v40, v41, k4, R4⟩ := hP
  have B4 := Lib.hid (B3.out.trans (k4.below (Nat.le_refl _) B3.out.size))
  have X4 := Lib.hid ((X3.kept k4 hsz2 (Nat.le_refl _)).more (Nat.le_refl _) k4.size)
  have hq : 0 ≤ v4 / 11 ∧ v4 / 11 ≤ 1 := by omega
  obtain ⟨hq1, hq2⟩ := hq
  clear o3 X3 k4 B3
  go_wp2_with fail
  go_ret2
  exact ⟨x, A, d, _, rfl, by omega, B4.out, own_lt X4.out⟩

end Go.Proofs.Ytklieaikndakfaa
