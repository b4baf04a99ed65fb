/- Texts in one: LearnS, GapS, LeastS. -/
import Derived.Test.YtakkdpjgdmngkaaPA
import Derived.Test.YtakkdpjgdmngkaaMD
import Derived.Test.YtakkdpjgdmngkaaMC
import Derived.Test.YtakkdpjgdmngkaaMF
namespace Go.Proofs.Ytakkdpjgdmngkaa
set_option linter.unusedSimpArgs false
set_option linter.unusedVariables false
open Go.RowKit

def lrnB (g : List (List Int)) (s : Int) : Bool := gameB g && inR s 1 60

def lrnX (g : List (List Int)) (s : Int) : List Int := if lrnB g s = true then (lrnP g (s.toNat - 1)).1 else []

def lrnY (g : List (List Int)) (s : Int) : List Int := if lrnB g s = true then (lrnP g (s.toNat - 1)).2 else []

/-- two lists in one, and a truth -/
def CntRes (w : World) (b : Bool) (x y : List Int) (e : Ending) (w' : World) : Prop :=
  ∃ (A : Option Addr) (c : Nat) (B : Option Addr) (k : Nat), e = .returned (.tuple #[.agg #[.slice A x.length c, .slice B y.length k], .bool b]) ∧
    Below w.heap.size w w' ∧ OwnI w' w.heap.size w'.heap.size A x ∧ OwnI w' w.heap.size w'.heap.size B y ∧ (0 < x.length → 0 < y.length → A.map (·.block) ≠ B.map (·.block))

theorem lrn_no {g : List (List Int)} {s : Int} (h : lrnB g s = false) : lrnX g s = [] ∧ lrnY g s = [] := by unfold lrnX lrnY; rw [h]; exact ⟨rfl, rfl⟩

theorem CntRes.zero (w : World) {w' : World} (hb : Below w.heap.size w w') : CntRes w false [] [] (.returned (.tuple #[.agg #[.slice none 0 0, .slice none 0 0], .bool false])) w' :=
  ⟨Option.none, 0, Option.none, 0, rfl, hb, fun h => absurd h (by simp), fun h => absurd h (by simp), fun h => absurd h (by simp)⟩

/-- two rows of the call's own -/
structure TwoNow (W wr : World) (x y : List Int) : Prop where
  bel : Below W.heap.size W wr
  size : wr.heap.size = W.heap.size + 2
  one : IntRow wr W.heap.size x
  two : IntRow wr (W.heap.size + 1) y

theorem IntRow.bump {w : World} {b : Nat} {x : List Int} (h : IntRow w b x) (r : Nat) : IntRow (w.setCell ⟨b, r, none⟩ (.int .i64 (nth x r + 1))) b (bump x r) := by
  show World.rowIs _ _ _ _ _
  rw [bump_length]
  refine (World.rowIs.set h r _).congr fun i hi => ?_
  rw [nth_bump _ _ _ hi]
  by_cases e : i = r
  · subst e; rw [if_pos rfl, if_pos rfl]
  · rw [if_neg e, if_neg e]

theorem TwoNow.bump1 {W wr : World} {x y : List Int} (h : TwoNow W wr x y) (r : Nat) : TwoNow W (wr.setCell ⟨W.heap.size, r, none⟩ (.int .i64 (nth x r + 1))) (bump x r) y :=
  ⟨h.bel.setCell (Nat.le_refl _) _, by simp [World.setCell, h.size], IntRow.bump h.one r, World.rowIs.setOther h.two (by show W.heap.size + 1 ≠ W.heap.size; omega) _⟩

theorem TwoNow.bump2 {W wr : World} {x y : List Int} (h : TwoNow W wr x y) (r : Nat) : TwoNow W (wr.setCell ⟨W.heap.size + 1, r, none⟩ (.int .i64 (nth y r + 1))) x (bump y r) :=
  ⟨h.bel.setCell (by show W.heap.size ≤ W.heap.size + 1; omega) _, by simp [World.setCell, h.size], World.rowIs.setOther h.one (by show W.heap.size ≠ W.heap.size + 1; omega) _, IntRow.bump h.two r⟩

theorem TwoNow.drewN {W wr : World} {x y : List Int} (h : TwoNow W wr x y) (n : Nat) : TwoNow W (wr.drewN n) x y := ⟨below_drewN h.bel n, h.size, h.one, h.two⟩

theorem TwoNow.start (W : World) (n m : Nat) : TwoNow W ((((W.alloc (.cells (madeCells #[.int .i64 0] n) 3)).alloc (.cells (madeCells #[.int .i64 0] m) 3)).setCell ⟨W.heap.size, 0, none⟩ (.int .i64 1)).setCell ⟨W.heap.size + 1, 0, none⟩ (.int .i64 1)) (oneAt n 0 1) (oneAt m 0 1) := by
  have h0 := World.rowIs_made W (.int .i64 0) n 3
  have h1 := World.rowIs_made (W.alloc (.cells (madeCells #[.int .i64 0] n) 3)) (.int .i64 0) m 3
  have hsz : (W.alloc (.cells (madeCells #[.int .i64 0] n) 3)).heap.size = W.heap.size + 1 := by simp
  rw [hsz] at h1
  refine ⟨((((Below.refl _ _).alloc (Nat.le_refl _) _).alloc (by simp) _).setCell (Nat.le_refl _) _).setCell (by show W.heap.size ≤ W.heap.size + 1; omega) _, by simp [World.setCell], ?_, ?_⟩
  · show World.rowIs _ _ _ _ _
    rw [oneAt_length]
    exact World.rowIs.setOther (oneAt_row (h0.alloc _)) (by show W.heap.size ≠ W.heap.size + 1; omega) _
  · show World.rowIs _ _ _ _ _
    rw [oneAt_length]
    exact oneAt_row (World.rowIs.setOther h1 (by show W.heap.size + 1 ≠ W.heap.size; omega) _)

theorem unit_set2 (w : World) (m k : Nat) : (w.alloc (.cells (madeCells #[.int .i64 0] m) 3)).setCell ⟨w.heap.size, k, none⟩ (.int .i64 1) = w.alloc (.cells ((madeCells #[.int .i64 0] m).setIfInBounds k (.int .i64 1)) 3) := by
  simp [go_sem]

/-- both rows are made and stored into at once -/
theorem TwoNow.start2 (W : World) (n m : Nat) : TwoNow W ((W.alloc (.cells ((madeCells #[.int .i64 0] n).setIfInBounds 0 (.int .i64 1)) 3)).alloc (.cells ((madeCells #[.int .i64 0] m).setIfInBounds 0 (.int .i64 1)) 3)) (oneAt n 0 1) (oneAt m 0 1) := by
  obtain ⟨V, hV⟩ : ∃ V : World, V = W.alloc (.cells ((madeCells #[.int .i64 0] n).setIfInBounds 0 (.int .i64 1)) 3) := ⟨_, rfl⟩
  have hz : V.heap.size = W.heap.size + 1 := by rw [hV]; simp
  have h0 : IntRow V W.heap.size (oneAt n 0 1) := by
    show World.rowIs _ _ _ _ _
    rw [oneAt_length, hV, ← unit_set2 W n 0]
    exact oneAt_row (World.rowIs_made W _ n _)
  have hb : Below W.heap.size W V := by rw [hV]; exact (Below.refl _ _).alloc (Nat.le_refl _) _
  rw [← hV]
  refine ⟨hb.alloc hb.size _, by simp [hz], World.rowIs.alloc h0 _, ?_⟩
  show World.rowIs _ _ _ _ _
  rw [oneAt_length, ← unit_set2 V m 0, ← hz]
  exact oneAt_row (World.rowIs_made V _ m _)

theorem made_first {n : Nat} (h : 1 ≤ n) : (madeCells #[.int .i64 0] n)[0]? = some (.int .i64 0) := by
  obtain ⟨k, rfl⟩ : ∃ k, n = k + 1 := ⟨n - 1, by omega⟩
  simp [madeCells]

set_option maxHeartbeats 2000000 in
set_option maxRecDepth 100000 in
theorem learned_spec (A : Option Addr) (c : Nat) (g : List (List Int)) (s : Int) (hl : g.length ≤ maxLen) (w : World) (h : Rows2 w (· < w.heap.size) A g) :
    Calls Try.prog 11 #[.slice A g.length c, .int .i64 s] w (CntRes w (lrnB g s) (lrnX g s) (lrnY g s)) := by
  have HR := Lib.hid h
  rcases hB : lrnB g s with _ | _
  · rw [(lrn_no hB).1, (lrn_no hB).2]
    rcases hb : gameB g with _ | _
    · have HB := Lib.hid hb
      clear hb h hB
      go_enter Try.func11, Try.ntmps11
      go_wp2_with fail
      obtain ⟨V0, hV0⟩ : ∃ V0 : World, V0 = w.alloc (.cells #[.slice Option.none 0 0, .slice Option.none 0 0] 28) := ⟨_, rfl⟩
      have hbV : Below w.heap.size w V0 := by rw [hV0]; exact (Below.refl _ _).alloc (Nat.le_refl _) _
      have HBV := Lib.hid hbV
      have bx : w.heap.size < V0.heap.size := by rw [hV0]; simp
      have bx0 : V0.cell? ⟨w.heap.size, 0, Option.none⟩ = some (.slice Option.none 0 0) := by rw [hV0]; simp [go_sem]
      have bx1 : V0.cell? ⟨w.heap.size, 1, Option.none⟩ = some (.slice Option.none 0 0) := by rw [hV0]; simp [go_sem]
      have bf0 : V0.frozen? ⟨w.heap.size, 0, Option.none⟩ = false := by rw [hV0]; simp [go_sem]
      have bf1 : V0.frozen? ⟨w.heap.size, 1, Option.none⟩ = false := by rw [hV0]; simp [go_sem]
      have HR0 := Lib.hid ((keepRows hbV HR.out).lt hbV.size)
      rw [← hV0]
      clear hV0 hbV
      refine (game_spec _ _ _ _ hl _ HR0.out).mono ?_
      rintro e w1 ⟨rfl, n, rfl⟩
      obtain ⟨W, hW⟩ : ∃ W, W = V0.drewN n := ⟨_, rfl⟩
      have HBW : Hid (Below w.heap.size w W) := by show Below _ _ _; rw [hW]; exact below_drewN HBV.out n
      have cx0 : W.cell? ⟨w.heap.size, 0, Option.none⟩ = some (.slice Option.none 0 0) := by rw [hW]; exact bx0
      have cx1 : W.cell? ⟨w.heap.size, 1, Option.none⟩ = some (.slice Option.none 0 0) := by rw [hW]; exact bx1
      have cxs : w.heap.size < W.heap.size := by rw [hW]; exact bx
      have cf0 : W.frozen? ⟨w.heap.size, 0, Option.none⟩ = false := by rw [hW]; exact bf0
      have cf1 : W.frozen? ⟨w.heap.size, 1, Option.none⟩ = false := by rw [hW]; exact bf1
      rw [← hW]
      clear hW HR HR0 bx0 bx1 bx bf0 bf1 HBV
      rw [HB.out]
      go_wp2_with fail
      refine bodyPost_ret (v := .tuple #[.agg #[.slice Option.none 0 0, .slice Option.none 0 0], .bool false]) (by simp [results, Try.results11, go_sem, cx0, cx1]) rfl (CntRes.zero _ ?_)
      exact (HBW.out.setCell (Nat.le_refl _) _).setCell (Nat.le_refl _) _
    · have hi : inR s 1 60 = false := by unfold lrnB at hB; rw [hb, Bool.true_and] at hB; exact hB
      have HB := Lib.hid hb
      have HI := Lib.hid hi
      clear hb h hi hB
      go_enter Try.func11, Try.ntmps11
      go_wp2_with fail
      obtain ⟨V0, hV0⟩ : ∃ V0 : World, V0 = w.alloc (.cells #[.slice Option.none 0 0, .slice Option.none 0 0] 28) := ⟨_, rfl⟩
      have hbV : Below w.heap.size w V0 := by rw [hV0]; exact (Below.refl _ _).alloc (Nat.le_refl _) _
      have HBV := Lib.hid hbV
      have bx : w.heap.size < V0.heap.size := by rw [hV0]; simp
      have bx0 : V0.cell? ⟨w.heap.size, 0, Option.none⟩ = some (.slice Option.none 0 0) := by rw [hV0]; simp [go_sem]
      have bx1 : V0.cell? ⟨w.heap.size, 1, Option.none⟩ = some (.slice Option.none 0 0) := by rw [hV0]; simp [go_sem]
      have bf0 : V0.frozen? ⟨w.heap.size, 0, Option.none⟩ = false := by rw [hV0]; simp [go_sem]
      have bf1 : V0.frozen? ⟨w.heap.size, 1, Option.none⟩ = false := by rw [hV0]; simp [go_sem]
      have HR0 := Lib.hid ((keepRows hbV HR.out).lt hbV.size)
      rw [← hV0]
      clear hV0 hbV
      refine (game_spec _ _ _ _ hl _ HR0.out).mono ?_
      rintro e w1 ⟨rfl, n, rfl⟩
      obtain ⟨W, hW⟩ : ∃ W, W = V0.drewN n := ⟨_, rfl⟩
      have HBW : Hid (Below w.heap.size w W) := by show Below _ _ _; rw [hW]; exact below_drewN HBV.out n
      have cx0 : W.cell? ⟨w.heap.size, 0, Option.none⟩ = some (.slice Option.none 0 0) := by rw [hW]; exact bx0
      have cx1 : W.cell? ⟨w.heap.size, 1, Option.none⟩ = some (.slice Option.none 0 0) := by rw [hW]; exact bx1
      have cxs : w.heap.size < W.heap.size := by rw [hW]; exact bx
      have cf0 : W.frozen? ⟨w.heap.size, 0, Option.none⟩ = false := by rw [hW]; exact bf0
      have cf1 : W.frozen? ⟨w.heap.size, 1, Option.none⟩ = false := by rw [hW]; exact bf1
      rw [← hW]
      clear hW HR HR0 bx0 bx1 bx bf0 bf1 HBV
      rw [HB.out]
      go_wp2_with fail
      refine (in_spec _ _ _ _).mono ?_
      rintro e w1 ⟨rfl, rfl⟩
      rw [HI.out]
      go_wp2_with fail
      refine bodyPost_ret (v := .tuple #[.agg #[.slice Option.none 0 0, .slice Option.none 0 0], .bool false]) (by simp [results, Try.results11, go_sem, cx0, cx1]) rfl (CntRes.zero _ ?_)
      exact (HBW.out.setCell (Nat.le_refl _) _).setCell (Nat.le_refl _) _
  · have hgb : gameB g = true := by unfold lrnB at hB; rw [Bool.and_eq_true] at hB; exact hB.1
    have hin : inR s 1 60 = true := by unfold lrnB at hB; rw [Bool.and_eq_true] at hB; exact hB.2
    have hs60 : 1 ≤ s ∧ s ≤ 60 := by unfold inR at hin; exact of_decide_eq_true hin
    have HX : Hid (lrnX g s = (lrnP g (s.toNat - 1)).1 ∧ lrnY g s = (lrnP g (s.toNat - 1)).2) := by unfold lrnX lrnY; rw [hB]; exact ⟨rfl, rfl⟩
    obtain ⟨q, rfl⟩ : ∃ q : Nat, s = (q : Int) + 1 := ⟨(s - 1).toNat, by omega⟩
    rw [show ((q : Int) + 1).toNat - 1 = q by omega] at HX
    have HI := Lib.hid hin
    have HB := Lib.hid hgb
    have hg := Game.of hgb
    have hg1 := hg.lo
    have hg2 := hg.hi
    have hg3 := hg.mlo
    have hg4 := hg.mhi
    have HG := Lib.hid hg
    obtain ⟨bt, ot, rfl⟩ := h.some (by omega)
    have hq : q ≤ 59 := by omega
    clear h hB hin hgb hg hs60
    have hmk1 := run_make_row' (P := Try.prog) 26 3 _ 8 Try.underlying26 infoI rfl .i64 .i64 g.length (by omega) (by omega)
    have hmk2 := run_make_row' (P := Try.prog) 26 3 _ 8 Try.underlying26 infoI rfl .i64 .i64 (rowAt g 0).length (by omega) (by omega)
    go_enter Try.func11, Try.ntmps11
    go_wp2_with fail
    obtain ⟨V0, hV0⟩ : ∃ V0 : World, V0 = w.alloc (.cells #[.slice Option.none 0 0, .slice Option.none 0 0] 28) := ⟨_, rfl⟩
    have hbV : Below w.heap.size w V0 := by rw [hV0]; exact (Below.refl _ _).alloc (Nat.le_refl _) _
    have HBV := Lib.hid hbV
    have bx : w.heap.size < V0.heap.size := by rw [hV0]; simp
    have bx0 : V0.cell? ⟨w.heap.size, 0, Option.none⟩ = some (.slice Option.none 0 0) := by rw [hV0]; simp [go_sem]
    have bx1 : V0.cell? ⟨w.heap.size, 1, Option.none⟩ = some (.slice Option.none 0 0) := by rw [hV0]; simp [go_sem]
    have bf0 : V0.frozen? ⟨w.heap.size, 0, Option.none⟩ = false := by rw [hV0]; simp [go_sem]
    have bf1 : V0.frozen? ⟨w.heap.size, 1, Option.none⟩ = false := by rw [hV0]; simp [go_sem]
    have HR0 := Lib.hid ((keepRows hbV HR.out).lt hbV.size)
    rw [← hV0]
    clear hV0 hbV
    refine (game_spec _ _ _ _ hl _ HR0.out).mono ?_
    rintro e w1 ⟨rfl, n, rfl⟩
    rw [HB.out]
    go_wp2_with fail
    refine (in_spec _ _ _ _).mono ?_
    rintro e w1 ⟨rfl, rfl⟩
    rw [HI.out]
    obtain ⟨W, hW⟩ : ∃ W, W = V0.drewN n := ⟨_, rfl⟩
    have HBW : Hid (Below w.heap.size w W) := by show Below _ _ _; rw [hW]; exact below_drewN HBV.out n
    have HT : Hid (Rows2 W (· < W.heap.size) (some ⟨bt, ot, none⟩) g) := by show Rows2 _ _ _ _; rw [hW]; exact HR0.out.drewN n
    rw [← hW]
    have cx0 : W.cell? ⟨w.heap.size, 0, Option.none⟩ = some (.slice Option.none 0 0) := by rw [hW]; exact bx0
    have cx1 : W.cell? ⟨w.heap.size, 1, Option.none⟩ = some (.slice Option.none 0 0) := by rw [hW]; exact bx1
    have cxs : w.heap.size < W.heap.size := by rw [hW]; exact bx
    have cf0 : W.frozen? ⟨w.heap.size, 0, Option.none⟩ = false := by rw [hW]; exact bf0
    have cf1 : W.frozen? ⟨w.heap.size, 1, Option.none⟩ = false := by rw [hW]; exact bf1
    clear hW HR HR0 bx0 bx1 bx bf0 bf1
    obtain ⟨hS, A0, c0, hc0, hl0, hm0, _⟩ := HT.out.row (i := 0) (by omega)
    rw [Nat.add_zero] at hc0
    unfold maxLen at hm0
    have hm1 := made_first (n := g.length) hg1
    have hm2 := made_first (n := (rowAt g 0).length) hg3
    go_wp2_with fail
    have TN0 := Lib.hid (TwoNow.start2 W g.length (rowAt g 0).length)
    go_loopw [8] (fun v wr => ∃ k : Nat, k ≤ q ∧ v = .int .i64 ((k : Int) + 1) ∧ Hid (TwoNow W wr (lrnP g k).1 (lrnP g k).2)) (fun v _ => q + 1 - (intOf v).toNat)
    case atStart => exact ⟨0, Nat.zero_le _, rfl, TN0⟩
    case round =>
      clear TN0 hm1 hm2 hmk1 hmk2
      obtain ⟨k, hk, rfl, TN⟩ := hrel
      obtain ⟨hlx, hly⟩ := lrnP_length g k
      obtain ⟨hmx, hmy⟩ := lrnP_mix HB.out (show k ≤ 60 by omega)
      have hnext : (lrnP g (k + 1)).1 = bump (lrnP g k).1 (nextX g (lrnP g k).2) ∧ (lrnP g (k + 1)).2 = bump (lrnP g k).2 (nextY g (lrnP g k).1) := ⟨rfl, rfl⟩
      obtain ⟨hbx, hby⟩ := lrnP_bd g k
      by_cases hlt : k < q
      · obtain ⟨X, hX⟩ : ∃ X, (lrnP g k).1 = X := ⟨_, rfl⟩
        obtain ⟨Y, hY⟩ : ∃ Y, (lrnP g k).2 = Y := ⟨_, rfl⟩
        rw [hX] at TN hlx hmx hnext hbx
        rw [hY] at TN hly hmy hnext hby
        have HN := Lib.hid hnext
        have HMX := Lib.hid hmx
        have HMY := Lib.hid hmy
        have HBX := Lib.hid hbx
        have HBY := Lib.hid hby
        have R := Lib.hid (keepRows TN.out.bel HT.out)
        have HLX := Lib.hid hlx
        have HLY := Lib.hid hly
        clear hX hY hnext hmx hmy hbx hby
        have HROW : Hid (∀ i n, i < g.length → Calls Try.prog 42 #[.slice (some ⟨bt, ot, Option.none⟩) g.length c, .slice (some ⟨W.heap.size + 1, 0, Option.none⟩) (rowAt g 0).length (rowAt g 0).length, .int .i64 (i : Int)] (wr.drewN n) (Quiet (.int .i64 (rowD g Y i)) (wr.drewN n))) := fun i n hi => by
          have := l3Row (some ⟨bt, ot, Option.none⟩) (some ⟨W.heap.size + 1, 0, Option.none⟩) c (rowAt g 0).length g Y (rowAt g 0).length (· < W.heap.size) (· = W.heap.size + 1) i HG.out HMY.out hi (wr.drewN n) (R.out.drewN n) (IntRow.ints (TN.out.drewN n).two rfl)
          rwa [HLY.out] at this
        have HCOL : Hid (∀ j n, j < (rowAt g 0).length → Calls Try.prog 43 #[.slice (some ⟨bt, ot, Option.none⟩) g.length c, .slice (some ⟨W.heap.size, 0, Option.none⟩) g.length g.length, .int .i64 (j : Int)] (wr.drewN n) (Quiet (.int .i64 (colD g X j)) (wr.drewN n))) := fun j n hj => by
          have := l3Column (some ⟨bt, ot, Option.none⟩) (some ⟨W.heap.size, 0, Option.none⟩) c g.length g X (rowAt g 0).length (· < W.heap.size) (· = W.heap.size) j HG.out HMX.out hj (wr.drewN n) (R.out.drewN n) (IntRow.ints (TN.out.drewN n).one rfl)
          rwa [HLX.out] at this
        clear hlx hly
        go_wp2_with fail
        go_loopw [9, 10] (fun r i wq => ∃ m : Nat, m + 1 ≤ g.length ∧ i = .int .i64 ((m : Int) + 1) ∧ r = .int .i64 ((maxAt (rowD g Y) m : Nat) : Int) ∧ ∃ n, wq = wr.drewN n) (fun _ i _ => g.length - (intOf i).toNat)
        case atStart => exact ⟨0, hg1, rfl, rfl, (by first | exact ⟨0, rfl⟩ | exact ⟨_, rfl⟩ | exact ⟨_, World.drewN_drewN _ _ _⟩ | (simp only [World.drewN_drewN]; exact ⟨_, rfl⟩))⟩
        case round =>
          obtain ⟨m, hm, rfl, rfl, n1, rfl⟩ := hrel
          by_cases hlm : m + 1 < g.length
          · have hmb := maxAt_le (rowD g Y) m
            have HR1 : Hid (∀ n, Calls Try.prog 42 #[.slice (some ⟨bt, ot, Option.none⟩) g.length c, .slice (some ⟨W.heap.size + 1, 0, Option.none⟩) (rowAt g 0).length (rowAt g 0).length, .int .i64 ((m : Int) + 1)] (wr.drewN n) (Quiet (.int .i64 (rowD g Y (m + 1))) (wr.drewN n))) := fun n => HROW.out (m + 1) n hlm
            have HR2 : Hid (∀ n, Calls Try.prog 42 #[.slice (some ⟨bt, ot, Option.none⟩) g.length c, .slice (some ⟨W.heap.size + 1, 0, Option.none⟩) (rowAt g 0).length (rowAt g 0).length, .int .i64 ((maxAt (rowD g Y) m : Nat) : Int)] (wr.drewN n) (Quiet (.int .i64 (rowD g Y (maxAt (rowD g Y) m))) (wr.drewN n))) := fun n => HROW.out _ n (by omega)
            have hmlt : (m : Int) + 1 < (g.length : Int) := by omega
            have hmx : Hid (maxAt (rowD g Y) (m + 1) = if rowD g Y (maxAt (rowD g Y) m) < rowD g Y (m + 1) then m + 1 else maxAt (rowD g Y) m) := rfl
            have hbest : ((maxAt (rowD g Y) m : Nat) : Int) < (g.length : Int) := by omega
            by_cases hc : rowD g Y (maxAt (rowD g Y) m) < rowD g Y (m + 1)
            · have HMX2 : Hid (maxAt (rowD g Y) (m + 1) = m + 1) := hmx.out.trans (if_pos hc)
              have hcd : decide (rowD g Y (maxAt (rowD g Y) m) < rowD g Y (m + 1)) = true := decide_eq_true hc
              clear hc hmx
              go_wp2_with fail
              refine (HR1.out _).mono ?_
              rintro e w2 ⟨rfl, n2, rfl⟩
              go_wp2_with fail
              first | refine (HR2.out _).mono ?_ | (rw [World.drewN_drewN]; refine (HR2.out _).mono ?_)
              rintro e w3 ⟨rfl, n3, rfl⟩
              go_wp2_with fail
              go_roundw
              case rel => exact ⟨m + 1, by omega, by go_num, by rw [HMX2.out]; go_num, (by first | exact ⟨0, rfl⟩ | exact ⟨_, rfl⟩ | exact ⟨_, World.drewN_drewN _ _ _⟩ | (simp only [World.drewN_drewN]; exact ⟨_, rfl⟩))⟩
              case measure => simp [intOf]; omega
            · have HMX2 : Hid (maxAt (rowD g Y) (m + 1) = maxAt (rowD g Y) m) := hmx.out.trans (if_neg hc)
              have hcd : decide (rowD g Y (maxAt (rowD g Y) m) < rowD g Y (m + 1)) = false := decide_eq_false hc
              clear hc hmx
              go_wp2_with fail
              refine (HR1.out _).mono ?_
              rintro e w2 ⟨rfl, n2, rfl⟩
              go_wp2_with fail
              first | refine (HR2.out _).mono ?_ | (rw [World.drewN_drewN]; refine (HR2.out _).mono ?_)
              rintro e w3 ⟨rfl, n3, rfl⟩
              go_wp2_with fail
              go_roundw
              case rel => exact ⟨m + 1, by omega, by go_num, by rw [HMX2.out], (by first | exact ⟨0, rfl⟩ | exact ⟨_, rfl⟩ | exact ⟨_, World.drewN_drewN _ _ _⟩ | (simp only [World.drewN_drewN]; exact ⟨_, rfl⟩))⟩
              case measure => simp [intOf]; omega
          · have hmg : m = g.length - 1 := by omega
            obtain ⟨r, hr⟩ : ∃ r, maxAt (rowD g Y) m = r := ⟨_, rfl⟩
            have hrl : r < g.length := by have := maxAt_le (rowD g Y) m; omega
            have HNR : Hid (nextX g Y = r) := by show _ = _; rw [← hr, hmg]; rfl
            rw [hr]
            clear hr hmg
            have R1 := Lib.hid (R.out.drewN n1)
            obtain ⟨_, A1, c1, hc1, hl1, hm1, _⟩ := R1.out.row (i := 0) (by omega)
            rw [Nat.add_zero] at hc1
            have hm1' := hm1
            unfold maxLen at hm1'
            clear hm1
            go_wp2_with fail
            go_loopw [11, 12] (fun b i wq => ∃ p : Nat, p + 1 ≤ (rowAt g 0).length ∧ i = .int .i64 ((p : Int) + 1) ∧ b = .int .i64 ((minAt (colD g X) p : Nat) : Int) ∧ ∃ n, wq = wr.drewN n) (fun _ i _ => (rowAt g 0).length - (intOf i).toNat)
            case atStart => exact ⟨0, hg3, rfl, rfl, (by first | exact ⟨0, rfl⟩ | exact ⟨_, rfl⟩ | exact ⟨_, World.drewN_drewN _ _ _⟩ | (simp only [World.drewN_drewN]; exact ⟨_, rfl⟩))⟩
            case round =>
              clear hc1
              obtain ⟨p, hp, rfl, rfl, n4, rfl⟩ := hrel
              have R4 := Lib.hid (R.out.drewN n4)
              obtain ⟨_, A4, c4, hc4, hl4, hm4, _⟩ := R4.out.row (i := 0) (by omega)
              rw [Nat.add_zero] at hc4
              unfold maxLen at hm4
              by_cases hpl : p + 1 < (rowAt g 0).length
              · have hpb := minAt_le (colD g X) p
                have HC1 : Hid (∀ n, Calls Try.prog 43 #[.slice (some ⟨bt, ot, Option.none⟩) g.length c, .slice (some ⟨W.heap.size, 0, Option.none⟩) g.length g.length, .int .i64 ((p : Int) + 1)] (wr.drewN n) (Quiet (.int .i64 (colD g X (p + 1))) (wr.drewN n))) := fun n => HCOL.out (p + 1) n hpl
                have HC2 : Hid (∀ n, Calls Try.prog 43 #[.slice (some ⟨bt, ot, Option.none⟩) g.length c, .slice (some ⟨W.heap.size, 0, Option.none⟩) g.length g.length, .int .i64 ((minAt (colD g X) p : Nat) : Int)] (wr.drewN n) (Quiet (.int .i64 (colD g X (minAt (colD g X) p))) (wr.drewN n))) := fun n => HCOL.out _ n (by omega)
                have hplt : (p : Int) + 1 < ((rowAt g 0).length : Int) := by omega
                have hmn : Hid (minAt (colD g X) (p + 1) = if colD g X (p + 1) < colD g X (minAt (colD g X) p) then p + 1 else minAt (colD g X) p) := rfl
                by_cases hc : colD g X (p + 1) < colD g X (minAt (colD g X) p)
                · have HMN2 : Hid (minAt (colD g X) (p + 1) = p + 1) := hmn.out.trans (if_pos hc)
                  have hcd : decide (colD g X (p + 1) < colD g X (minAt (colD g X) p)) = true := decide_eq_true hc
                  clear hc hmn
                  go_wp2_with fail
                  refine (HC1.out _).mono ?_
                  rintro e w2 ⟨rfl, n2, rfl⟩
                  go_wp2_with fail
                  first | refine (HC2.out _).mono ?_ | (rw [World.drewN_drewN]; refine (HC2.out _).mono ?_)
                  rintro e w3 ⟨rfl, n3, rfl⟩
                  go_wp2_with fail
                  go_roundw
                  case rel => exact ⟨p + 1, by omega, by go_num, by rw [HMN2.out]; go_num, (by first | exact ⟨0, rfl⟩ | exact ⟨_, rfl⟩ | exact ⟨_, World.drewN_drewN _ _ _⟩ | (simp only [World.drewN_drewN]; exact ⟨_, rfl⟩))⟩
                  case measure => simp [intOf]; omega
                · have HMN2 : Hid (minAt (colD g X) (p + 1) = minAt (colD g X) p) := hmn.out.trans (if_neg hc)
                  have hcd : decide (colD g X (p + 1) < colD g X (minAt (colD g X) p)) = false := decide_eq_false hc
                  clear hc hmn
                  go_wp2_with fail
                  refine (HC1.out _).mono ?_
                  rintro e w2 ⟨rfl, n2, rfl⟩
                  go_wp2_with fail
                  first | refine (HC2.out _).mono ?_ | (rw [World.drewN_drewN]; refine (HC2.out _).mono ?_)
                  rintro e w3 ⟨rfl, n3, rfl⟩
                  go_wp2_with fail
                  go_roundw
                  case rel => exact ⟨p + 1, by omega, by go_num, by rw [HMN2.out], (by first | exact ⟨0, rfl⟩ | exact ⟨_, rfl⟩ | exact ⟨_, World.drewN_drewN _ _ _⟩ | (simp only [World.drewN_drewN]; exact ⟨_, rfl⟩))⟩
                  case measure => simp [intOf]; omega
              · have hpg : p = (rowAt g 0).length - 1 := by omega
                obtain ⟨s, hs⟩ : ∃ s, minAt (colD g X) p = s := ⟨_, rfl⟩
                have hsl : s < (rowAt g 0).length := by have := minAt_le (colD g X) p; omega
                have HNS : Hid (nextY g X = s) := by show _ = _; rw [← hs, hpg]; rfl
                rw [hs]
                have TN4 := Lib.hid (TN.out.drewN n4)
                have TN5 := Lib.hid ((TN4.out.bump1 r).bump2 s)
                have hr1 : World.rowIs _ _ _ _ _ := TN4.out.one
                rw [HLX.out] at hr1
                have hr2 : World.rowIs _ _ _ _ _ := TN4.out.two
                rw [HLY.out] at hr2
                have e0 := hr1.cell (i := r) hrl
                have e1 := hr1.frozen r
                have e2 := hr2.cell (i := s) hsl
                have e3 := hr2.frozen s
                have b1 := HBX.out r (by rw [HLX.out]; exact hrl)
                have b2 := HBY.out s (by rw [HLY.out]; exact hsl)
                have v1 : IntKind.i64.wrap (nth X r + 1) = nth X r + 1 := IntWalk.i64_in _ ⟨by omega, by omega⟩
                have v2 : IntKind.i64.wrap (nth Y s + 1) = nth Y s + 1 := IntWalk.i64_in _ ⟨by omega, by omega⟩
                have hrl2 : (r : Int) < (g.length : Int) := by omega
                have hsl2 : (s : Int) < ((rowAt g 0).length : Int) := by omega
                clear hs hpg hr1 hr2 b1 b2
                go_wp2_with fail
                go_roundw
                case rel => exact ⟨k + 1, by omega, by go_num, by rw [HN.out.1, HN.out.2, HNR.out, HNS.out]; exact TN5⟩
                case measure => simp [intOf]; omega
      · have hkq : k = q := by omega
        subst hkq
        have hcell0 := (TN.out.bel.cell (p := ⟨w.heap.size, 0, Option.none⟩) cxs).trans cx0
        have hcell1 := (TN.out.bel.cell (p := ⟨w.heap.size, 1, Option.none⟩) cxs).trans cx1
        have hfr0 := (TN.out.bel.frozen (p := ⟨w.heap.size, 0, Option.none⟩) cxs).trans cf0
        have hfr1 := (TN.out.bel.frozen (p := ⟨w.heap.size, 1, Option.none⟩) cxs).trans cf1
        have hws := TN.out.size
        have hwl : w.heap.size < wr.heap.size := by omega
        have HLX := Lib.hid hlx
        have HLY := Lib.hid hly
        clear hnext hbx hby hmx hmy hlx hly cx0 cx1 cf0 cf1 hws
        go_wp2_with fail
        refine bodyPost_ret (v := .tuple #[.agg #[.slice (some ⟨W.heap.size, 0, Option.none⟩) g.length g.length, .slice (some ⟨W.heap.size + 1, 0, Option.none⟩) (rowAt g 0).length (rowAt g 0).length], .bool true]) (by simp [results, Try.results11, go_sem, hcell0, hcell1]) rfl ?_
        have hne0 : W.heap.size ≠ w.heap.size := by have := cxs; omega
        have hne1 : W.heap.size + 1 ≠ w.heap.size := by have := cxs; omega
        have hsz : ((wr.setCell ⟨w.heap.size, 0, Option.none⟩ (.slice (some ⟨W.heap.size, 0, Option.none⟩) g.length g.length)).setCell ⟨w.heap.size, 1, Option.none⟩ (.slice (some ⟨W.heap.size + 1, 0, Option.none⟩) (rowAt g 0).length (rowAt g 0).length)).heap.size = W.heap.size + 2 := by simp [World.setCell, TN.out.size]
        have o1 : IntRow ((wr.setCell ⟨w.heap.size, 0, Option.none⟩ (.slice (some ⟨W.heap.size, 0, Option.none⟩) g.length g.length)).setCell ⟨w.heap.size, 1, Option.none⟩ (.slice (some ⟨W.heap.size + 1, 0, Option.none⟩) (rowAt g 0).length (rowAt g 0).length)) W.heap.size (lrnP g k).1 := World.rowIs.setOther (World.rowIs.setOther TN.out.one hne0 _) hne0 _
        have o2 : IntRow ((wr.setCell ⟨w.heap.size, 0, Option.none⟩ (.slice (some ⟨W.heap.size, 0, Option.none⟩) g.length g.length)).setCell ⟨w.heap.size, 1, Option.none⟩ (.slice (some ⟨W.heap.size + 1, 0, Option.none⟩) (rowAt g 0).length (rowAt g 0).length)) (W.heap.size + 1) (lrnP g k).2 := World.rowIs.setOther (World.rowIs.setOther TN.out.two hne1 _) hne1 _
        rw [HX.out.1, HX.out.2]
        refine ⟨some ⟨W.heap.size, 0, Option.none⟩, g.length, some ⟨W.heap.size + 1, 0, Option.none⟩, (rowAt g 0).length, by rw [HLX.out, HLY.out], ((belT HBW.out TN.out.bel).setCell (Nat.le_refl _) _).setCell (Nat.le_refl _) _, fun _ => ⟨W.heap.size, _, _, rfl, by omega, by rw [hsz]; omega, o1, Nat.le_refl _, fun _ _ => rfl⟩, fun _ => ⟨W.heap.size + 1, _, _, rfl, by omega, by rw [hsz]; omega, o2, Nat.le_refl _, fun _ _ => rfl⟩, fun _ _ h => ?_⟩
        simp at h

end Go.Proofs.Ytakkdpjgdmngkaa

namespace Go.Proofs.Ytakkdpjgdmngkaa
set_option linter.unusedSimpArgs false
set_option linter.unusedVariables false
open Go.RowKit

/-- the gap after so many steps, whatever the number -/
def gapU (g : List (List Int)) (s : Int) : Int := if lrnB g s = true then gpU g (s.toNat - 1) else 0

def gapD (g : List (List Int)) (s : Int) : Int := if lrnB g s = true then gpD g (s.toNat - 1) else 0

theorem gap_no {g : List (List Int)} {s : Int} (h : lrnB g s = false) : gapU g s = 0 ∧ gapD g s = 0 := by unfold gapU gapD; rw [h]; exact ⟨rfl, rfl⟩

theorem gap_yes {g : List (List Int)} {s : Int} (h : lrnB g s = true) : gapU g s = gpU g (s.toNat - 1) ∧ gapD g s = gpD g (s.toNat - 1) := by unfold gapU gapD; rw [h]; exact ⟨rfl, rfl⟩

/-- the least gap till so many steps -/
def lstU (g : List (List Int)) (s : Int) : Int := if lrnB g s = true then gpU g (lstAt g (s.toNat - 1)) else 0

def lstD (g : List (List Int)) (s : Int) : Int := if lrnB g s = true then gpD g (lstAt g (s.toNat - 1)) else 0

def lstN (g : List (List Int)) (s : Int) : Int := if lrnB g s = true then (lstAt g (s.toNat - 1) : Nat) + 1 else -1

set_option maxHeartbeats 2000000 in
set_option maxRecDepth 100000 in
theorem gap_spec (A : Option Addr) (c : Nat) (g : List (List Int)) (s : Int) (hl : g.length ≤ maxLen) (w : World) (h : Rows2 w (· < w.heap.size) A g) :
    Calls Try.prog 23 #[.slice A g.length c, .int .i64 s] w (Adds (FracRes (gapU g s) (gapD g s) (lrnB g s)) w) := by
  have HR := Lib.hid h
  have HLS := Lib.hid (fun w' h' => learned_spec A c g s hl w' h')
  rcases hb : lrnB g s with _ | _
  · rw [(gap_no hb).1, (gap_no hb).2]
    rw [hb, (lrn_no hb).1, (lrn_no hb).2] at HLS
    clear hb h
    go_enter Try.func23, Try.ntmps23
    go_wp2_with fail
    obtain ⟨W, hW⟩ : ∃ W : World, W = (w.alloc (.cells #[(Value.int .i64 0), (Value.int .i64 0)] 34)) := ⟨_, rfl⟩
    have hzW : W.heap.size = w.heap.size + 1 := by rw [hW]; simp
    have hbW : Below w.heap.size w W := by rw [hW]; exact (by repeat (first | exact Below.refl _ _ | assumption | exact bel1 (by assumption) | exact bel2 (by assumption) | exact bel3 (by assumption) | exact bel4 (by assumption) | refine Below.drew ?_ | refine below_drewN ?_ _ | refine Below.setCell ?_ (by first | (simp; done) | (simp; omega)) _ | refine Below.alloc ?_ (by first | (simp; done) | (simp; omega)) _))
    have r00 := stays (p := w.heap.size) (o := 0) (by omega) (show W.cell? ⟨w.heap.size, 0, none⟩ = some ((Value.int .i64 0)) from by rw [hW]; simp [go_sem])
    have g00 := staysF (p := w.heap.size) (o := 0) (by omega) (show W.frozen? ⟨w.heap.size, 0, none⟩ = false from by rw [hW]; simp [go_sem])
    have r01 := stays (p := w.heap.size) (o := 1) (by omega) (show W.cell? ⟨w.heap.size, 1, none⟩ = some ((Value.int .i64 0)) from by rw [hW]; simp [go_sem])
    have g01 := staysF (p := w.heap.size) (o := 1) (by omega) (show W.frozen? ⟨w.heap.size, 1, none⟩ = false from by rw [hW]; simp [go_sem])
    rw [← hW]
    clear hW
    have HzW := Lib.hid hzW
    clear hzW
    refine (HLS.out _ ((keepRows hbW HR.out).lt hbW.size)).mono ?_
    rintro e w1 ⟨A1, c1, B1, k1, rfl, hb1, _, _, _⟩
    have HB1 := Lib.hid hb1
    have HBW := Lib.hid hbW
    have e00 := r00 _ hb1
    have e01 := r01 _ hb1
    have f00 := g00 _ hb1
    have f01 := g01 _ hb1
    have hlt : w.heap.size < w1.heap.size := by have := hb1.size; have := HzW.out; omega
    clear r00 r01 g00 g01 hb1
    go_wp2_with fail
    refine bodyPost_ret (v := FracRes 0 0 false) (by simp [results, Try.results23, go_sem, FracRes, e00, e01, hlt, Nat.ne_of_lt hlt, Nat.ne_of_gt hlt]) rfl ⟨rfl, ?_⟩
    exact (((belT HBW.out HB1.out).setCell (Nat.le_refl _) _).setCell (Nat.le_refl _) _).alloc (by simp [World.setCell]; omega) _
  · rw [(gap_yes hb).1, (gap_yes hb).2]
    have hgb : gameB g = true := by unfold lrnB at hb; rw [Bool.and_eq_true] at hb; exact hb.1
    have hin : inR s 1 60 = true := by unfold lrnB at hb; rw [Bool.and_eq_true] at hb; exact hb.2
    have hs60 : 1 ≤ s ∧ s ≤ 60 := by unfold inR at hin; exact of_decide_eq_true hin
    have hX : lrnX g s = (lrnP g (s.toNat - 1)).1 ∧ lrnY g s = (lrnP g (s.toNat - 1)).2 := by unfold lrnX lrnY; rw [hb]; exact ⟨rfl, rfl⟩
    obtain ⟨q, hq⟩ : ∃ q, s.toNat - 1 = q := ⟨_, rfl⟩
    have hq59 : q ≤ 59 := by omega
    rw [hb, hX.1, hX.2, hq] at HLS
    rw [hq]
    have HGF := Lib.hid (gap_facts hgb hq59)
    obtain ⟨hxl, hyl⟩ := lrnP_length g q
    have hgm := Game.of hgb
    have hX16 : (lrnP g q).1.length ≤ 4294967296 := by have := hgm.hi; omega
    have hY16 : (lrnP g q).2.length ≤ 4294967296 := by have := hgm.mhi; omega
    have hsf := lrn_safe hgb (show q ≤ 60 by omega)
    obtain ⟨X, hXX⟩ : ∃ X, (lrnP g q).1 = X := ⟨_, rfl⟩
    obtain ⟨Y, hYY⟩ : ∃ Y, (lrnP g q).2 = Y := ⟨_, rfl⟩
    have hpu : gpU g q = psU (risU g Y) (risD g Y) (mnU (safU g X) (safD g X)) (mnD (safU g X) (safD g X)) := by unfold gpU; rw [hXX, hYY]
    have hpd : gpD g q = psD (risU g Y) (risD g Y) (mnU (safU g X) (safD g X)) (mnD (safU g X) (safD g X)) := by unfold gpD; rw [hXX, hYY]
    have hpb : psB (risU g Y) (risD g Y) (mnU (safU g X) (safD g X)) (mnD (safU g X) (safD g X)) = true := by rw [← hXX, ← hYY]; exact HGF.out.ps
    rw [hXX, hYY] at HLS
    rw [hXX] at hX16
    rw [hYY] at hY16
    rw [hpu, hpd]
    rw [← hpb]
    have HXL := Lib.hid hX16
    have HYL := Lib.hid hY16
    clear hb h hgb hin hs60 hX hq hq59 HGF hxl hyl hgm hX16 hY16 hsf hXX hYY hpu hpd hpb
    go_enter Try.func23, Try.ntmps23
    go_wp2_with fail
    obtain ⟨W, hW⟩ : ∃ W : World, W = (w.alloc (.cells #[(Value.int .i64 0), (Value.int .i64 0)] 34)) := ⟨_, rfl⟩
    have hzW : W.heap.size = w.heap.size + 1 := by rw [hW]; simp
    have hbW : Below w.heap.size w W := by rw [hW]; exact (by repeat (first | exact Below.refl _ _ | assumption | exact bel1 (by assumption) | exact bel2 (by assumption) | exact bel3 (by assumption) | exact bel4 (by assumption) | refine Below.drew ?_ | refine below_drewN ?_ _ | refine Below.setCell ?_ (by first | (simp; done) | (simp; omega)) _ | refine Below.alloc ?_ (by first | (simp; done) | (simp; omega)) _))
    have r00 := stays (p := w.heap.size) (o := 0) (by omega) (show W.cell? ⟨w.heap.size, 0, none⟩ = some ((Value.int .i64 0)) from by rw [hW]; simp [go_sem])
    have g00 := staysF (p := w.heap.size) (o := 0) (by omega) (show W.frozen? ⟨w.heap.size, 0, none⟩ = false from by rw [hW]; simp [go_sem])
    have r01 := stays (p := w.heap.size) (o := 1) (by omega) (show W.cell? ⟨w.heap.size, 1, none⟩ = some ((Value.int .i64 0)) from by rw [hW]; simp [go_sem])
    have g01 := staysF (p := w.heap.size) (o := 1) (by omega) (show W.frozen? ⟨w.heap.size, 1, none⟩ = false from by rw [hW]; simp [go_sem])
    have hrow : W.rowIs w.heap.size 34 2 (fun _ => .int .i64 0) := by
      rw [hW]; exact World.rowIs_alloc _ #[.int .i64 0, .int .i64 0] _ _ (fun i hi => by have : i = 0 ∨ i = 1 := (by simp at hi; omega); rcases this with rfl | rfl <;> rfl)
    rw [← hW]
    clear hW
    have HzW := Lib.hid hzW
    clear hzW
    have HRW := Lib.hid ((keepRows hbW HR.out).lt hbW.size)
    refine (HLS.out _ HRW.out).mono ?_
    rintro e w1 ⟨A1, c1, B1, k1, rfl, hb1, ho1, ho2, _⟩
    have HB1 := Lib.hid hb1
    have HBW := Lib.hid hbW
    have e00 := r00 _ hb1
    have e01 := r01 _ hb1
    have f00 := g00 _ hb1
    have f01 := g01 _ hb1
    have hlt : w.heap.size < w1.heap.size := by have := hb1.size; have := HzW.out; omega
    have HO1 : Hid (Ints w1 (fun b => b < w1.heap.size) A1 X) := ho1.ints.mono fun b h => h.2
    have HO2 : Hid (Ints w1 (fun b => b < w1.heap.size) B1 Y) := ho2.ints.mono fun b h => h.2
    clear r00 r01 g00 g01 ho1 ho2
    go_wp2_with fail
    obtain ⟨WC, hWC⟩ : ∃ WC : World, WC = (w1.alloc (.cells #[(Value.slice A1 X.length c1), (Value.slice B1 Y.length k1)] 28)) := ⟨_, rfl⟩
    have hzWC : WC.heap.size = w1.heap.size + 1 := by rw [hWC]; simp
    have hbWC : Below w1.heap.size w1 WC := by rw [hWC]; exact (by repeat (first | exact Below.refl _ _ | assumption | exact bel1 (by assumption) | exact bel2 (by assumption) | exact bel3 (by assumption) | exact bel4 (by assumption) | refine Below.drew ?_ | refine below_drewN ?_ _ | refine Below.setCell ?_ (by first | (simp; done) | (simp; omega)) _ | refine Below.alloc ?_ (by first | (simp; done) | (simp; omega)) _))
    have p00 := stays (p := w1.heap.size) (o := 0) (by omega) (show WC.cell? ⟨w1.heap.size, 0, none⟩ = some ((Value.slice A1 X.length c1)) from by rw [hWC]; simp [go_sem])
    have p01 := stays (p := w1.heap.size) (o := 1) (by omega) (show WC.cell? ⟨w1.heap.size, 1, none⟩ = some ((Value.slice B1 Y.length k1)) from by rw [hWC]; simp [go_sem])
    rw [← hWC]
    clear hWC
    have HzWC := Lib.hid hzWC
    clear hzWC
    have HBC := Lib.hid hbWC
    have HRC := Lib.hid (keepRows hb1 HRW.out)
    refine (safe_spec A A1 c c1 g X hl HXL.out WC ((keepRows hbWC (HRC.out.lt hb1.size)).lt hbWC.size) ((keepInts hbWC HO1.out).lt hbWC.size)).mono ?_
    rintro e w2 ⟨rfl, hb2⟩
    have HB2 := Lib.hid hb2
    unfold FracRes
    have pc0 := p01 _ hb2
    have lt2 : w1.heap.size < w2.heap.size := by have := hb2.size; have := HzWC.out; omega
    go_wp2_with fail
    obtain ⟨WA, hWA⟩ : ∃ WA : World, WA = (w2.alloc (.cells #[(Value.int .i64 (safU g X)), (Value.int .i64 (safD g X))] 34)) := ⟨_, rfl⟩
    have hzWA : WA.heap.size = w2.heap.size + 1 := by rw [hWA]; simp
    have hbWA : Below w2.heap.size w2 WA := by rw [hWA]; exact (by repeat (first | exact Below.refl _ _ | assumption | exact bel1 (by assumption) | exact bel2 (by assumption) | exact bel3 (by assumption) | exact bel4 (by assumption) | refine Below.drew ?_ | refine below_drewN ?_ _ | refine Below.setCell ?_ (by first | (simp; done) | (simp; omega)) _ | refine Below.alloc ?_ (by first | (simp; done) | (simp; omega)) _))
    have q00 := stays (p := w2.heap.size) (o := 0) (by omega) (show WA.cell? ⟨w2.heap.size, 0, none⟩ = some ((Value.int .i64 (safU g X))) from by rw [hWA]; simp [go_sem])
    have q01 := stays (p := w2.heap.size) (o := 1) (by omega) (show WA.cell? ⟨w2.heap.size, 1, none⟩ = some ((Value.int .i64 (safD g X))) from by rw [hWA]; simp [go_sem])
    rw [← hWA]
    clear hWA
    have HzWA := Lib.hid hzWA
    clear hzWA
    have HBA := Lib.hid hbWA
    have hwa : Below w1.heap.size w1 WA := belT (belT HBC.out HB2.out) hbWA
    have HWA := Lib.hid hwa
    refine (risk_spec A B1 c k1 g Y hl HYL.out WA ((keepRows hwa (HRC.out.lt hb1.size)).lt hwa.size) ((keepInts hwa HO2.out).lt hwa.size)).mono ?_
    rintro e w3 ⟨rfl, hb3⟩
    have HB3 := Lib.hid hb3
    unfold FracRes
    have qa0 := q00 _ hb3
    have qa1 := q01 _ hb3
    have lt3 : w2.heap.size < w3.heap.size := by have := hb3.size; have := HzWA.out; omega
    go_wp2_with fail
    obtain ⟨WB, hWB⟩ : ∃ WB : World, WB = (w3.alloc (.cells #[(Value.int .i64 (risU g Y)), (Value.int .i64 (risD g Y))] 34)) := ⟨_, rfl⟩
    have hzWB : WB.heap.size = w3.heap.size + 1 := by rw [hWB]; simp
    have hbWB : Below w3.heap.size w3 WB := by rw [hWB]; exact (by repeat (first | exact Below.refl _ _ | assumption | exact bel1 (by assumption) | exact bel2 (by assumption) | exact bel3 (by assumption) | exact bel4 (by assumption) | refine Below.drew ?_ | refine below_drewN ?_ _ | refine Below.setCell ?_ (by first | (simp; done) | (simp; omega)) _ | refine Below.alloc ?_ (by first | (simp; done) | (simp; omega)) _))
    have m00 := stays (p := w3.heap.size) (o := 0) (by omega) (show WB.cell? ⟨w3.heap.size, 0, none⟩ = some ((Value.int .i64 (risU g Y))) from by rw [hWB]; simp [go_sem])
    have m01 := stays (p := w3.heap.size) (o := 1) (by omega) (show WB.cell? ⟨w3.heap.size, 1, none⟩ = some ((Value.int .i64 (risD g Y))) from by rw [hWB]; simp [go_sem])
    rw [← hWB]
    clear hWB
    have HzWB := Lib.hid hzWB
    clear hzWB
    have hbig : Below W.heap.size W WB := belT (belT (belT (belT (belT hb1 HBC.out) HB2.out) HBA.out) HB3.out) hbWB
    have hs0 : w.heap.size < W.heap.size := by have := HzW.out; omega
    have hsA := HzWA.out
    have hsB := HzWB.out
    have hkA : Below WA.heap.size WA WB := belT HB3.out hbWB
    have hsAB := hkA.size
    have hs3 := HB3.out.size
    have hsC := HzWC.out
    have hs2 := HB2.out.size
    have hs1 := HB1.out.size
    have B0 : Boxed w WB w.heap.size WB := ⟨belT HBW.out hbig, Nat.le_refl _, fun _ _ _ => rfl, _, hrow.of_block (hbig.block _ hs0)⟩
    have ca0 := staysB (w := w) (W := WB) (p := w.heap.size) (b := w2.heap.size) (o := 0) (by omega) (by omega) (q00 _ hkA)
    have ca1 := staysB (w := w) (W := WB) (p := w.heap.size) (b := w2.heap.size) (o := 1) (by omega) (by omega) (q01 _ hkA)
    have cb0 := staysB (w := w) (W := WB) (p := w.heap.size) (b := w3.heap.size) (o := 0) (by omega) (by omega) (m00 _ (Below.refl _ _))
    have cb1 := staysB (w := w) (W := WB) (p := w.heap.size) (b := w3.heap.size) (o := 1) (by omega) (by omega) (m01 _ (Below.refl _ _))
    have cp0 : ∀ w1, Boxed w WB w.heap.size w1 → w1.cell? ⟨w.heap.size, 0, none⟩ = some (held w1 w.heap.size 0) := fun _ h => h.cell (by omega)
    have gp0 : ∀ w1, Boxed w WB w.heap.size w1 → w1.frozen? ⟨w.heap.size, 0, none⟩ = false := fun _ h => h.frozen 0
    have cp1 : ∀ w1, Boxed w WB w.heap.size w1 → w1.cell? ⟨w.heap.size, 1, none⟩ = some (held w1 w.heap.size 1) := fun _ h => h.cell (by omega)
    have gp1 : ∀ w1, Boxed w WB w.heap.size w1 → w1.frozen? ⟨w.heap.size, 1, none⟩ = false := fun _ h => h.frozen 1
    have hwB : w.heap.size < WB.heap.size := by omega
    clear q00 q01 m00 m01 p00 p01 pc0 qa0 qa1 e00 e01 f00 f01 hlt lt2 lt3 hrow hsA hsB hsC hs2 hs3 hs1 hsAB hs0 hkA hbig hwa hb1 hb2 hb3 hbW hbWA hbWB hbWC
    go_region_held3 (fun w' => Boxed w WB w.heap.size w')
      (first | assumption | exact Boxed.drew (by assumption) | exact Boxed.call (by assumption) (by omega) (by assumption) | exact Boxed.store _ _ (by omega) (by assumption))
      (first | (go_at_call 61; refine (minus_spec _ _ _).mono ?_; rintro e w5 ⟨rfl, hb5⟩) | (go_at_call 60; refine (plus_spec _ _ _ _ _).mono ?_; rintro e w6 ⟨rfl, hb6⟩))
    have hk : Boxed w WB w.heap.size w6 := Boxed.call hb6 (by omega) (Boxed.call hb5 (by omega) B0.drew)
    go_wp2_with fail
    refine bodyPost_ret (v := FracRes (psU (risU g Y) (risD g Y) (mnU (safU g X) (safD g X)) (mnD (safU g X) (safD g X))) (psD (risU g Y) (risD g Y) (mnU (safU g X) (safD g X)) (mnD (safU g X) (safD g X))) (psB (risU g Y) (risD g Y) (mnU (safU g X) (safD g X)) (mnD (safU g X) (safD g X)))) (by simp [results, Try.results23, go_sem, FracRes, cp0 _ hk, cp1 _ hk, gp0 _ hk, gp1 _ hk]) rfl ⟨rfl, ?_⟩
    exact (hk.bel.setCell (Nat.le_refl _) _).setCell (Nat.le_refl _) _

end Go.Proofs.Ytakkdpjgdmngkaa

namespace Go.Proofs.Ytakkdpjgdmngkaa
set_option linter.unusedSimpArgs false
set_option linter.unusedVariables false
open Go.RowKit

theorem lst_no {g : List (List Int)} {s : Int} (h : lrnB g s = false) : lstU g s = 0 ∧ lstD g s = 0 ∧ lstN g s = -1 := by unfold lstU lstD lstN; rw [h]; exact ⟨rfl, rfl, rfl⟩

theorem lst_yes {g : List (List Int)} {s : Int} (h : lrnB g s = true) : lstU g s = gpU g (lstAt g (s.toNat - 1)) ∧ lstD g s = gpD g (lstAt g (s.toNat - 1)) ∧ lstN g s = (lstAt g (s.toNat - 1) : Nat) + 1 := by unfold lstU lstD lstN; rw [h]; exact ⟨rfl, rfl, rfl⟩

theorem lrnB_one (g : List (List Int)) : lrnB g 1 = gameB g := by unfold lrnB inR; simp

/-- the best fraction so far, in a box of the call's own, which lies behind all of w -/
structure BestAt (w wr : World) (u d : Int) : Prop where
  bel : Below w.heap.size w wr
  lt : w.heap.size < wr.heap.size
  row : wr.rowIs w.heap.size 34 2 (fun i => .int .i64 (if i = 0 then u else d))

theorem BestAt.start (w : World) (u d : Int) : BestAt w (w.alloc (.cells #[.int .i64 u, .int .i64 d] 34)) u d :=
  ⟨(Below.refl _ _).alloc (Nat.le_refl _) _, by simp, World.rowIs_alloc w #[.int .i64 u, .int .i64 d] _ _ (fun i hi => by have : i = 0 ∨ i = 1 := (by simp at hi; omega); rcases this with rfl | rfl <;> rfl)⟩

theorem BestAt.keep {w wr w' : World} {u d : Int} (h : BestAt w wr u d) (hb : Below wr.heap.size wr w') : BestAt w w' u d :=
  ⟨h.bel.trans (hb.mono (Nat.le_of_lt h.lt)), Nat.lt_of_lt_of_le h.lt hb.size, h.row.of_block (hb.block _ h.lt)⟩

theorem BestAt.store {w wr : World} {u d : Int} (h : BestAt w wr u d) (u' d' : Int) : BestAt w ((wr.setCell ⟨w.heap.size, 0, none⟩ (.int .i64 u')).setCell ⟨w.heap.size, 1, none⟩ (.int .i64 d')) u' d' := by
  refine ⟨(h.bel.setCell (Nat.le_refl _) _).setCell (Nat.le_refl _) _, by simpa [World.setCell] using h.lt, ((h.row.set 0 _).set 1 _).congr fun i hi => ?_⟩
  have : i = 0 ∨ i = 1 := by omega
  rcases this with rfl | rfl <;> rfl

set_option maxHeartbeats 2000000 in
set_option maxRecDepth 100000 in
theorem least_spec (A : Option Addr) (c : Nat) (g : List (List Int)) (s : Int) (hl : g.length ≤ maxLen) (w : World) (h : Rows2 w (· < w.heap.size) A g) :
    Calls Try.prog 26 #[.slice A g.length c, .int .i64 s] w (Adds (.tuple #[.agg #[.int .i64 (lstU g s), .int .i64 (lstD g s)], .int .i64 (lstN g s), .bool (lrnB g s)]) w) := by
  have HR := Lib.hid h
  have HGS := Lib.hid (fun s w' h' => gap_spec A c g s hl w' h')
  rcases hg : gameB g with _ | _
  · have hb : lrnB g s = false := by unfold lrnB; rw [hg]; rfl
    rw [(lst_no hb).1, (lst_no hb).2.1, (lst_no hb).2.2, hb]
    have H1 : Hid (gapU g 1 = 0 ∧ gapD g 1 = 0 ∧ lrnB g 1 = false) := by
      have e : lrnB g 1 = false := by rw [lrnB_one]; exact hg
      exact ⟨(gap_no e).1, (gap_no e).2, e⟩
    clear hg hb h
    go_enter Try.func26, Try.ntmps26
    go_wp2_with fail
    obtain ⟨W, hW⟩ : ∃ W : World, W = (w.alloc (.cells #[(Value.int .i64 0), (Value.int .i64 0)] 34)) := ⟨_, rfl⟩
    have hzW : W.heap.size = w.heap.size + 1 := by rw [hW]; simp
    have hbW : Below w.heap.size w W := by rw [hW]; exact (by repeat (first | exact Below.refl _ _ | assumption | exact bel1 (by assumption) | exact bel2 (by assumption) | exact bel3 (by assumption) | exact bel4 (by assumption) | refine Below.drew ?_ | refine below_drewN ?_ _ | refine Below.setCell ?_ (by first | (simp; done) | (simp; omega)) _ | refine Below.alloc ?_ (by first | (simp; done) | (simp; omega)) _))
    have r00 := stays (p := w.heap.size) (o := 0) (by omega) (show W.cell? ⟨w.heap.size, 0, none⟩ = some ((Value.int .i64 0)) from by rw [hW]; simp [go_sem])
    have g00 := staysF (p := w.heap.size) (o := 0) (by omega) (show W.frozen? ⟨w.heap.size, 0, none⟩ = false from by rw [hW]; simp [go_sem])
    have r01 := stays (p := w.heap.size) (o := 1) (by omega) (show W.cell? ⟨w.heap.size, 1, none⟩ = some ((Value.int .i64 0)) from by rw [hW]; simp [go_sem])
    have g01 := staysF (p := w.heap.size) (o := 1) (by omega) (show W.frozen? ⟨w.heap.size, 1, none⟩ = false from by rw [hW]; simp [go_sem])
    rw [← hW]
    clear hW
    have HzW := Lib.hid hzW
    clear hzW
    refine (HGS.out 1 _ ((keepRows hbW HR.out).lt hbW.size)).mono ?_
    rintro e w1 ⟨rfl, hb1⟩
    rw [H1.out.1, H1.out.2.1, H1.out.2.2]
    unfold FracRes
    have HB1 := Lib.hid hb1
    have HBW := Lib.hid hbW
    have e00 := r00 _ hb1
    have e01 := r01 _ hb1
    have f00 := g00 _ hb1
    have f01 := g01 _ hb1
    have hlt : w.heap.size < w1.heap.size := by have := hb1.size; have := HzW.out; omega
    clear r00 r01 g00 g01 hb1
    go_wp2_with fail
    refine bodyPost_ret (v := .tuple #[.agg #[.int .i64 0, .int .i64 0], .int .i64 (-1), .bool false]) (by simp [results, Try.results26, go_sem, e00, e01, hlt, Nat.ne_of_lt hlt, Nat.ne_of_gt hlt]) rfl ⟨rfl, ?_⟩
    exact (((belT HBW.out HB1.out).setCell (Nat.le_refl _) _).setCell (Nat.le_refl _) _).alloc (by simp [World.setCell]; omega) _
  · have H1 : Hid (gapU g 1 = gpU g 0 ∧ gapD g 1 = gpD g 0 ∧ lrnB g 1 = true) := by
      have e : lrnB g 1 = true := by rw [lrnB_one]; exact hg
      exact ⟨(gap_yes e).1, (gap_yes e).2, e⟩
    rcases hi : inR s 1 60 with _ | _
    · have hb : lrnB g s = false := by unfold lrnB; rw [hi, Bool.and_false]
      rw [(lst_no hb).1, (lst_no hb).2.1, (lst_no hb).2.2, hb]
      have HI := Lib.hid hi
      clear hg hb h hi
      go_enter Try.func26, Try.ntmps26
      go_wp2_with fail
      obtain ⟨W, hW⟩ : ∃ W : World, W = (w.alloc (.cells #[(Value.int .i64 0), (Value.int .i64 0)] 34)) := ⟨_, rfl⟩
      have hzW : W.heap.size = w.heap.size + 1 := by rw [hW]; simp
      have hbW : Below w.heap.size w W := by rw [hW]; exact (by repeat (first | exact Below.refl _ _ | assumption | exact bel1 (by assumption) | exact bel2 (by assumption) | exact bel3 (by assumption) | exact bel4 (by assumption) | refine Below.drew ?_ | refine below_drewN ?_ _ | refine Below.setCell ?_ (by first | (simp; done) | (simp; omega)) _ | refine Below.alloc ?_ (by first | (simp; done) | (simp; omega)) _))
      have r00 := stays (p := w.heap.size) (o := 0) (by omega) (show W.cell? ⟨w.heap.size, 0, none⟩ = some ((Value.int .i64 0)) from by rw [hW]; simp [go_sem])
      have g00 := staysF (p := w.heap.size) (o := 0) (by omega) (show W.frozen? ⟨w.heap.size, 0, none⟩ = false from by rw [hW]; simp [go_sem])
      have r01 := stays (p := w.heap.size) (o := 1) (by omega) (show W.cell? ⟨w.heap.size, 1, none⟩ = some ((Value.int .i64 0)) from by rw [hW]; simp [go_sem])
      have g01 := staysF (p := w.heap.size) (o := 1) (by omega) (show W.frozen? ⟨w.heap.size, 1, none⟩ = false from by rw [hW]; simp [go_sem])
      rw [← hW]
      clear hW
      have HzW := Lib.hid hzW
      clear hzW
      refine (HGS.out 1 _ ((keepRows hbW HR.out).lt hbW.size)).mono ?_
      rintro e w1 ⟨rfl, hb1⟩
      rw [H1.out.1, H1.out.2.1, H1.out.2.2]
      unfold FracRes
      have HB1 := Lib.hid hb1
      have HBW := Lib.hid hbW
      have e00 := r00 _ hb1
      have e01 := r01 _ hb1
      have f00 := g00 _ hb1
      have f01 := g01 _ hb1
      have hlt : w.heap.size < w1.heap.size := by have := hb1.size; have := HzW.out; omega
      clear r00 r01 g00 g01 hb1
      go_wp2_with fail
      refine (in_spec _ _ _ _).mono ?_
      rintro e w2 ⟨rfl, rfl⟩
      rw [HI.out]
      go_wp2_with fail
      refine bodyPost_ret (v := .tuple #[.agg #[.int .i64 0, .int .i64 0], .int .i64 (-1), .bool false]) (by simp [results, Try.results26, go_sem, e00, e01, hlt, Nat.ne_of_lt hlt, Nat.ne_of_gt hlt]) rfl ⟨rfl, ?_⟩
      exact (((belT HBW.out HB1.out).setCell (Nat.le_refl _) _).setCell (Nat.le_refl _) _).alloc (by simp [World.setCell]; omega) _
    · have hb : lrnB g s = true := by unfold lrnB; rw [hg, hi]; rfl
      obtain ⟨y1, y2, y3⟩ := lst_yes hb
      have hs60 : 1 ≤ s ∧ s ≤ 60 := by unfold inR at hi; exact of_decide_eq_true hi
      obtain ⟨q, rfl⟩ : ∃ q : Nat, s = (q : Int) + 1 := ⟨(s - 1).toNat, by omega⟩
      rw [show ((q : Int) + 1).toNat - 1 = q by omega] at y1 y2 y3
      rw [y1, y2, y3, hb]
      have hq : q ≤ 59 := by omega
      have HI := Lib.hid hi
      have HG := Lib.hid hg
      clear hg hb h hi y1 y2 y3 hs60
      go_enter Try.func26, Try.ntmps26
      go_wp2_with fail
      obtain ⟨W, hW⟩ : ∃ W : World, W = (w.alloc (.cells #[(Value.int .i64 0), (Value.int .i64 0)] 34)) := ⟨_, rfl⟩
      have hzW : W.heap.size = w.heap.size + 1 := by rw [hW]; simp
      have hbW : Below w.heap.size w W := by rw [hW]; exact (by repeat (first | exact Below.refl _ _ | assumption | exact bel1 (by assumption) | exact bel2 (by assumption) | exact bel3 (by assumption) | exact bel4 (by assumption) | refine Below.drew ?_ | refine below_drewN ?_ _ | refine Below.setCell ?_ (by first | (simp; done) | (simp; omega)) _ | refine Below.alloc ?_ (by first | (simp; done) | (simp; omega)) _))
      have r00 := stays (p := w.heap.size) (o := 0) (by omega) (show W.cell? ⟨w.heap.size, 0, none⟩ = some ((Value.int .i64 0)) from by rw [hW]; simp [go_sem])
      have g00 := staysF (p := w.heap.size) (o := 0) (by omega) (show W.frozen? ⟨w.heap.size, 0, none⟩ = false from by rw [hW]; simp [go_sem])
      have r01 := stays (p := w.heap.size) (o := 1) (by omega) (show W.cell? ⟨w.heap.size, 1, none⟩ = some ((Value.int .i64 0)) from by rw [hW]; simp [go_sem])
      have g01 := staysF (p := w.heap.size) (o := 1) (by omega) (show W.frozen? ⟨w.heap.size, 1, none⟩ = false from by rw [hW]; simp [go_sem])
      rw [← hW]
      clear hW
      have HzW := Lib.hid hzW
      clear hzW
      refine (HGS.out 1 _ ((keepRows hbW HR.out).lt hbW.size)).mono ?_
      rintro e w1 ⟨rfl, hb1⟩
      rw [H1.out.1, H1.out.2.1, H1.out.2.2]
      unfold FracRes
      have HB1 := Lib.hid hb1
      have HBW := Lib.hid hbW
      have e00 := r00 _ hb1
      have e01 := r01 _ hb1
      have f00 := g00 _ hb1
      have f01 := g01 _ hb1
      have hlt : w.heap.size < w1.heap.size := by have := hb1.size; have := HzW.out; omega
      clear hb1
      go_wp2_with fail
      refine (in_spec _ _ _ _).mono ?_
      rintro e w2 ⟨rfl, rfl⟩
      rw [HI.out]
      go_wp2_with fail
      have BA0 := Lib.hid (BestAt.start w1 (gpU g 0) (gpD g 0))
      go_loopw [9, 10] (fun v i wr => ∃ k : Nat, k ≤ q ∧ i = .int .i64 ((k : Int) + 2) ∧ v = .int .i64 ((lstAt g k : Nat) + 1) ∧ Hid (BestAt w1 wr (gpU g (lstAt g k)) (gpD g (lstAt g k)))) (fun _ i _ => q + 2 - (intOf i).toNat)
      case atStart => exact ⟨0, Nat.zero_le _, rfl, rfl, BA0⟩
      case round =>
        clear BA0
        obtain ⟨k, hk, rfl, rfl, HA⟩ := hrel
        by_cases hlt2 : k < q
        · have hk2 : (k : Int) + 2 ≤ (q : Int) + 1 := by omega
          have HGK : Hid (∀ w', Rows2 w' (· < w'.heap.size) A g → Calls Try.prog 23 #[.slice A g.length c, .int .i64 ((k : Int) + 2)] w' (Adds (.tuple #[.agg #[.int .i64 (gpU g (k + 1)), .int .i64 (gpD g (k + 1))], .bool true]) w')) := fun w' h' => by
            have e : lrnB g ((k : Int) + 2) = true := by unfold lrnB inR; rw [HG.out, decide_eq_true (by omega)]; rfl
            have := HGS.out ((k : Int) + 2) w' h'
            rw [(gap_yes e).1, (gap_yes e).2, e, show ((k : Int) + 2).toNat - 1 = k + 1 by omega] at this
            exact this
          have HRK : Hid (Rows2 wr (· < wr.heap.size) A g) := by
            have h1 := keepRows (belT HBW.out HB1.out) HR.out
            exact (keepRows (HA.out.bel.mono (by have := HBW.out.size; have := HB1.out.size; omega)) h1).lt (by have := HA.out.lt; have := HBW.out.size; have := HB1.out.size; omega)
          go_wp2_with fail
          refine (HGK.out _ HRK.out).mono ?_
          rintro e w3 ⟨rfl, hb3⟩
          have hA3 := HA.out.keep hb3
          have cb0 := hA3.row.cell (i := 0) (by omega)
          have cb1 := hA3.row.cell (i := 1) (by omega)
          have lt3 := hA3.lt
          rw [if_pos rfl] at cb0
          rw [if_neg (by decide)] at cb1
          have HA3 := Lib.hid hA3
          clear hA3 hb3
          go_wp2_with fail
          obtain ⟨W3, hW3⟩ : ∃ W3 : World, W3 = w3.alloc (.cells #[.int .i64 (gpU g (k + 1)), .int .i64 (gpD g (k + 1))] 34) := ⟨_, rfl⟩
          have hb3' : Below w3.heap.size w3 W3 := by rw [hW3]; exact (Below.refl _ _).alloc (Nat.le_refl _) _
          have HA4 := Lib.hid (HA3.out.keep hb3')
          have hz3 : W3.heap.size = w3.heap.size + 1 := by rw [hW3]; simp
          have t0 := stays (W := W3) (p := w3.heap.size) (o := 0) (by omega) (show W3.cell? ⟨w3.heap.size, 0, none⟩ = some (.int .i64 (gpU g (k + 1))) from by rw [hW3]; simp [go_sem])
          have t1 := stays (W := W3) (p := w3.heap.size) (o := 1) (by omega) (show W3.cell? ⟨w3.heap.size, 1, none⟩ = some (.int .i64 (gpD g (k + 1))) from by rw [hW3]; simp [go_sem])
          rw [← hW3]
          clear hW3 hb3' cb0 cb1
          refine (less_spec _ _ _ _ _).mono ?_
          rintro e w5 ⟨rfl, hb5⟩
          have s0 := t0 _ hb5
          have s1 := t1 _ hb5
          have lt5 : w3.heap.size < w5.heap.size := by have := hb5.size; omega
          have hA5 := HA4.out.keep hb5
          have hne : w3.heap.size ≠ w1.heap.size := by omega
          have cb0 := hA5.row.cell (i := 0) (by omega)
          have cb1 := hA5.row.cell (i := 1) (by omega)
          have fb0 := hA5.row.frozen 0
          have fb1 := hA5.row.frozen 1
          have HA5 := Lib.hid hA5
          have HST := Lib.hid (hA5.store (gpU g (k + 1)) (gpD g (k + 1)))
          have hgl : lessB (gpU g (k + 1)) (gpD g (k + 1)) (gpU g (lstAt g k)) (gpD g (lstAt g k)) = gLess g (k + 1) (lstAt g k) := rfl
          have hw1 : IntKind.i64.wrap ((k : Int) + 2 + 1) = (k : Int) + 2 + 1 := IntWalk.i64_in _ ⟨by omega, by omega⟩
          rw [hgl]
          rcases hc : gLess g (k + 1) (lstAt g k) with _ | _
          · have HN : Hid (lstAt g (k + 1) = lstAt g k) := by show (if gLess g (k + 1) (lstAt g k) = true then k + 1 else lstAt g k) = _; rw [hc]; rfl
            clear hc hgl HST hA5 t0 t1 hb5
            go_wp2_with fail
            go_roundw
            case rel => exact ⟨k + 1, by omega, by go_num, by rw [HN.out], by rw [HN.out]; exact HA5⟩
            case measure => simp [intOf]; omega
          · have HN : Hid (lstAt g (k + 1) = k + 1) := by show (if gLess g (k + 1) (lstAt g k) = true then k + 1 else lstAt g k) = _; rw [hc]; rfl
            clear hc hgl HA5 hA5 t0 t1 hb5
            go_wp2_with fail
            go_roundw
            case rel => exact ⟨k + 1, by omega, by go_num, by rw [HN.out]; go_num, by rw [HN.out]; exact HST⟩
            case measure => simp [intOf]; omega
        · obtain rfl : k = q := by omega
          have hk2 : ¬ (k : Int) + 2 ≤ (k : Int) + 1 := by omega
          have hbr : Below W.heap.size W wr := HB1.out.trans (HA.out.bel.mono HB1.out.size)
          have cb0 := HA.out.row.cell (i := 0) (by omega)
          have cb1 := HA.out.row.cell (i := 1) (by omega)
          rw [if_pos rfl] at cb0
          rw [if_neg (by decide)] at cb1
          have z00 := r00 _ hbr
          have z01 := r01 _ hbr
          have zf0 := g00 _ hbr
          have zf1 := g01 _ hbr
          have hltr : w.heap.size < wr.heap.size := by have := hbr.size; have := HzW.out; omega
          have HBR := Lib.hid (belT HBW.out hbr)
          clear hbr e00 e01 f00 f01 r00 r01 g00 g01
          go_wp2_with fail
          refine bodyPost_ret (v := .tuple #[.agg #[.int .i64 (gpU g (lstAt g k)), .int .i64 (gpD g (lstAt g k))], .int .i64 ((lstAt g k : Nat) + 1), .bool true]) (by simp [results, Try.results26, go_sem, z00, z01, hltr, Nat.ne_of_lt hltr, Nat.ne_of_gt hltr]) rfl ⟨rfl, ?_⟩
          exact (HBR.out.setCell (Nat.le_refl _) _).setCell (Nat.le_refl _) _

end Go.Proofs.Ytakkdpjgdmngkaa
