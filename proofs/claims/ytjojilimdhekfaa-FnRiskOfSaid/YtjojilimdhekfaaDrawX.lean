/- The walks of what draws a game and two mixtures. -/
import Derived.Test.YtjojilimdhekfaaDrawM
import Derived.Test.YtjojilimdhekfaaDrawT
namespace Go.Proofs.Ytjojilimdhekfaa
set_option linter.unusedSimpArgs false
set_option linter.unusedVariables false
open Go.RowKit

/-- what a table and two lists drawn by a reader are -/
def DrawnX (n : Nat) (w : World) (a : Option Addr) (len cap : Nat) (zs : List Int) (p : Int) (e : Ending) (w' : World) : Prop :=
  ∃ (g : List (List Int)) (x y : List Int) (T A B : Option Addr) (c d f : Nat) (p' : Int), e = .returned (.tuple #[.slice T g.length c, .slice A x.length d, .slice B y.length f]) ∧ g.length ≤ 17 ∧ (∀ i, i < g.length → (rowAt g i).length ≤ 16) ∧ x.length ≤ 18 ∧ y.length ≤ 18 ∧
    Kept n w w' ∧ Reader n w' a len cap zs p' ∧ p ≤ p' ∧ p' ≤ p + 700 ∧ OwnR w' w.heap.size w'.heap.size T g ∧ OwnI w' w.heap.size w'.heap.size A x ∧ OwnI w' w.heap.size w'.heap.size B y

set_option maxHeartbeats 2000000 in
theorem l20Mixed (n : Nat) (w : World) (a : Option Addr) (len cap : Nat) (zs : List Int) (p : Int) (h : Reader n w a len cap zs p) (hp : p < 10000) :
    Calls Try.prog 44 #[.pointer (some ⟨n, 0, none⟩)] w (DrawnX n w a len cap zs p) := by
  have hn := h.lt
  have p0 := h.p_lo
  go_enter Try.func44, Try.ntmps44
  go_wp2_with fail
  refine (l20Game n w a len cap zs p 4 14 h (by omega) (by omega) (by omega) (by omega) (by omega)).mono ?_
  rintro e w1 ⟨g, T, c, p1, rfl, hc1, hc2, hg17, hgr, K1, R1, hp1, hp2, o1⟩
  have O1 := Lib.hid o1
  have HGR := Lib.hid hgr
  have hl : g.length ≤ maxLen := by unfold maxLen; omega
  have HL := Lib.hid hl
  clear o1 hgr hl hc2
  go_wp2_with fail
  refine (game_spec _ _ g _ HL.out _ O1.out.rows2).mono ?_
  rintro e w2 ⟨rfl, n2, rfl⟩
  have K2 : Kept n w (w1.drewN n2) := K1.drewN n2
  have R2 : Reader n (w1.drewN n2) a len cap zs p1 := R1.of_blocks (fun _ _ => rfl) (Nat.le_refl _)
  have O2 := Lib.hid ((O1.out.keep (w' := w1.drewN n2) (fun _ _ _ => rfl)).more (Nat.le_refl _) (show w1.heap.size ≤ (w1.drewN n2).heap.size from Nat.le_refl _))
  obtain ⟨wv, hwv⟩ : ∃ wv : World, wv = w1.drewN n2 := ⟨_, rfl⟩
  rw [← hwv] at K2 R2 O2
  have hk12 : ∀ (P : World → Prop), P (w1.drewN n2) → P wv := fun P hP => hwv ▸ hP
  rw [← hwv]
  clear K1 R1 O1 hwv hk12
  have hs2 := K2.size
  -- both mixtures, for whatever number of columns
  have fin : ∀ (M1 M2 : Nat), 1 ≤ M1 → M1 ≤ 17 → 1 ≤ M2 → M2 ≤ 16 → True := fun _ _ _ _ _ _ => trivial
  by_cases h0 : g.length = 0
  · obtain rfl : g = [] := List.eq_nil_of_length_eq_zero h0
    have hb : gameB ([] : List (List Int)) = false := rfl
    rw [hb]
    go_wp2_with fail
    refine (l20Mix n _ a len cap zs p1 14 1 R2 (by omega) (by omega) (by omega) (by omega) (by omega)).mono ?_
    rintro e w3 ⟨x, A, d, p3, rfl, hx, K3, R3, hp3, hp4, o3⟩
    have O3 := Lib.hid (O2.out.kept K3 hn (Nat.le_refl _))
    have X3 := Lib.hid o3
    have hs3 := K3.size
    have K3' := K2.trans K3
    clear K3 o3
    go_wp2_with fail
    refine (l20Mix n _ a len cap zs p3 14 1 R3 (by omega) (by omega) (by omega) (by omega) (by omega)).mono ?_
    rintro e w4 ⟨y, B, f, p4, rfl, hy, K4, R4, hp5, hp6, o4⟩
    have O4 := Lib.hid ((O3.out.kept K4 hn (by omega)).more (Nat.le_refl _) (Nat.le_trans hs3 K4.size))
    have X4 := Lib.hid ((X3.out.kept K4 (by omega) (Nat.le_refl _)).more hs2 K4.size)
    have Y4 := Lib.hid (o4.more (Nat.le_trans hs2 hs3) (Nat.le_refl _))
    have K4' := K3'.trans K4
    have HR4 := Lib.hid R4
    clear K4 o4 R4
    go_wp2_with fail
    go_ret3
    exact ⟨[], x, y, T, A, B, c, d, f, p4, rfl, by simp, fun i hi => by simp at hi, by omega, by omega, K4', HR4.out, by omega, by omega, O4.out, X4.out, Y4.out⟩
  have hmx : max (g.length : Int) 1 = (g.length : Int) := by omega
  rcases hb : gameB g with _ | _
  · go_wp2_with fail
    refine (l20Mix n _ a len cap zs p1 14 g.length R2 (by omega) (by omega) (by omega) (by omega) (by omega)).mono ?_
    rintro e w3 ⟨x, A, d, p3, rfl, hx, K3, R3, hp3, hp4, o3⟩
    have O3 := Lib.hid (O2.out.kept K3 hn (Nat.le_refl _))
    have X3 := Lib.hid o3
    have hs3 := K3.size
    have K3' := K2.trans K3
    clear K3 o3
    go_wp2_with fail
    refine (l20Mix n _ a len cap zs p3 14 1 R3 (by omega) (by omega) (by omega) (by omega) (by omega)).mono ?_
    rintro e w4 ⟨y, B, f, p4, rfl, hy, K4, R4, hp5, hp6, o4⟩
    have O4 := Lib.hid ((O3.out.kept K4 hn (by omega)).more (Nat.le_refl _) (Nat.le_trans hs3 K4.size))
    have X4 := Lib.hid ((X3.out.kept K4 (by omega) (Nat.le_refl _)).more hs2 K4.size)
    have Y4 := Lib.hid (o4.more (Nat.le_trans hs2 hs3) (Nat.le_refl _))
    have K4' := K3'.trans K4
    have HR4 := Lib.hid R4
    clear K4 o4 R4
    go_wp2_with fail
    go_ret3
    exact ⟨g, x, y, T, A, B, c, d, f, p4, rfl, hg17, HGR.out, by omega, by omega, K4', HR4.out, by omega, by omega, O4.out, X4.out, Y4.out⟩
  · have hg := Game.of hb
    have hg1 := hg.lo
    have hg2 := hg.hi
    have hg3 := hg.mlo
    have hg4 := hg.mhi
    have RR := Lib.hid O2.out.rows2
    obtain ⟨bt, ot, rfl⟩ := RR.out.some (by omega)
    obtain ⟨hS, A0, c0, hc0, hl0, hm0, _⟩ := RR.out.row (i := 0) (by omega)
    rw [Nat.add_zero] at hc0
    unfold maxLen at hm0
    clear hb hg
    go_wp2_with fail
    refine (l20Mix n _ a len cap zs p1 14 g.length R2 (by omega) (by omega) (by omega) (by omega) (by omega)).mono ?_
    rintro e w3 ⟨x, A, d, p3, rfl, hx, K3, R3, hp3, hp4, o3⟩
    have O3 := Lib.hid (O2.out.kept K3 hn (Nat.le_refl _))
    have X3 := Lib.hid o3
    have hs3 := K3.size
    have K3' := K2.trans K3
    clear K3 o3 hc0
    go_wp2_with fail
    refine (l20Mix n _ a len cap zs p3 14 (rowAt g 0).length R3 (by omega) (by omega) (by omega) (by omega) (by omega)).mono ?_
    rintro e w4 ⟨y, B, f, p4, rfl, hy, K4, R4, hp5, hp6, o4⟩
    have O4 := Lib.hid ((O3.out.kept K4 hn (by omega)).more (Nat.le_refl _) (Nat.le_trans hs3 K4.size))
    have X4 := Lib.hid ((X3.out.kept K4 (by omega) (Nat.le_refl _)).more hs2 K4.size)
    have Y4 := Lib.hid (o4.more (Nat.le_trans hs2 hs3) (Nat.le_refl _))
    have K4' := K3'.trans K4
    have HR4 := Lib.hid R4
    clear K4 o4 R4
    go_wp2_with fail
    go_ret3
    exact ⟨g, x, y, _, A, B, c, d, f, p4, rfl, hg17, HGR.out, by omega, by omega, K4', HR4.out, by omega, by omega, O4.out, X4.out, Y4.out⟩

end Go.Proofs.Ytjojilimdhekfaa
