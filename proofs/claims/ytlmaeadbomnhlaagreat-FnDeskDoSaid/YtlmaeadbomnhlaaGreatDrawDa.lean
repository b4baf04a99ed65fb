/- The walk of what draws a deed. (Written by wip/gen/l20deed.py.) -/
import Derived.Test.YtlmaeadbomnhlaaGreatMH
import Derived.Test.YtlmaeadbomnhlaaGreatQD
namespace Go.Proofs.YtlmaeadbomnhlaaGreat
set_option linter.unusedSimpArgs false
set_option linter.unusedVariables false
open Go.RowKit

/-- the reader, somewhere further; nothing else of what was there has turned -/
structure DdS (n : Nat) (W : World) (a : Option Addr) (len cap : Nat) (zs : List Int) (w' : World) : Prop where
  ex : ∃ p' : Int, Kept n W w' ∧ Reader n w' a len cap zs p'

def sevenV (i : Nat) : Value := #[Value.int .i64 0, Value.int .i64 0, Value.int .i64 0, Value.int .i64 1, Value.int .i64 2, Value.int .i64 3, Value.int .i64 4].getD i (.int .i64 0)

theorem seven_int (i : Nat) : ∃ k, sevenV i = .int .i64 k := by
  unfold sevenV
  match i with
  | 0 => exact ⟨_, rfl⟩
  | 1 => exact ⟨_, rfl⟩
  | 2 => exact ⟨_, rfl⟩
  | 3 => exact ⟨_, rfl⟩
  | 4 => exact ⟨_, rfl⟩
  | 5 => exact ⟨_, rfl⟩
  | 6 => exact ⟨_, rfl⟩
  | i + 7 => exact ⟨0, by simp⟩

theorem seven_row (w : World) : (w.alloc (.cells #[.int .i64 0, .int .i64 0, .int .i64 0, .int .i64 1, .int .i64 2, .int .i64 3, .int .i64 4] 3)).rowIs w.heap.size 3 7 sevenV :=
  World.rowIs_alloc w #[.int .i64 0, .int .i64 0, .int .i64 0, .int .i64 1, .int .i64 2, .int .i64 3, .int .i64 4] _ _ (fun i hi => by unfold sevenV; rw [Array.getD_eq_getD_getElem?, Array.getElem?_eq_getElem hi]; rfl)

theorem zero_row (w : World) : (w.alloc (.cells #[.int .i64 0, .int .i64 0, .int .i64 0, .int .i64 0] 28)).rowIs w.heap.size 28 4 (fun _ => .int .i64 0) :=
  World.rowIs_alloc w #[.int .i64 0, .int .i64 0, .int .i64 0, .int .i64 0] _ _ (fun i hi => by
    have : i = 0 ∨ i = 1 ∨ i = 2 ∨ i = 3 := (by simp at hi; omega)
    rcases this with rfl | rfl | rfl | rfl <;> rfl)

def ddRow (x0 x1 x2 x3 : Value) (i : Nat) : Value := if i = 0 then x0 else if i = 1 then x1 else if i = 2 then x2 else x3

theorem deed_row {w : World} {b : Nat} {f : Nat → Value} (h : w.rowIs b 28 4 f) (x0 x1 x2 x3 : Value) : ((((w.setCell ⟨b, 0, none⟩ x0).setCell ⟨b, 1, none⟩ x1).setCell ⟨b, 2, none⟩ x2).setCell ⟨b, 3, none⟩ x3).rowIs b 28 4 (ddRow x0 x1 x2 x3) :=
  ((((h.set 0 x0).set 1 x1).set 2 x2).set 3 x3).congr fun i hi => by
    have : i = 0 ∨ i = 1 ∨ i = 2 ∨ i = 3 := by omega
    rcases this with rfl | rfl | rfl | rfl <;> rfl

theorem Kept.setNew4 {n : Nat} {a w : World} (h : Kept n a w) {b : Nat} (hb : a.heap.size ≤ b) (x0 x1 x2 x3 : Value) : Kept n a ((((w.setCell ⟨b, 0, none⟩ x0).setCell ⟨b, 1, none⟩ x1).setCell ⟨b, 2, none⟩ x2).setCell ⟨b, 3, none⟩ x3) :=
  (((h.setNew (q := ⟨b, 0, none⟩) hb x0).setNew (q := ⟨b, 1, none⟩) hb x1).setNew (q := ⟨b, 2, none⟩) hb x2).setNew (q := ⟨b, 3, none⟩) hb x3

theorem Reader.setFar4 {n : Nat} {w : World} {a : Option Addr} {len cap : Nat} {zs : List Int} {p : Int} (h : Reader n w a len cap zs p) {b : Nat} (hb : n < b) (x0 x1 x2 x3 : Value) : Reader n ((((w.setCell ⟨b, 0, none⟩ x0).setCell ⟨b, 1, none⟩ x1).setCell ⟨b, 2, none⟩ x2).setCell ⟨b, 3, none⟩ x3) a len cap zs p :=
  (((h.setFar (q := ⟨b, 0, none⟩) hb x0).setFar (q := ⟨b, 1, none⟩) hb x1).setFar (q := ⟨b, 2, none⟩) hb x2).setFar (q := ⟨b, 3, none⟩) hb x3

/-- a deed in a box, in parts -/
structure DdBox (w : World) (b : Nat) (x0 x1 x2 x3 : Int) : Prop where
  row : w.rowIs b 28 4 (ddRow (.int .i64 x0) (.int .i64 x1) (.int .i64 x2) (.int .i64 x3))

theorem DdBox.c0 {w : World} {b : Nat} {x0 x1 x2 x3 : Int} (h : DdBox w b x0 x1 x2 x3) : w.cell? ⟨b, 0, none⟩ = some (.int .i64 x0) := h.row.cell (i := 0) (by omega)

theorem DdBox.c1 {w : World} {b : Nat} {x0 x1 x2 x3 : Int} (h : DdBox w b x0 x1 x2 x3) : w.cell? ⟨b, 1, none⟩ = some (.int .i64 x1) := h.row.cell (i := 1) (by omega)

theorem DdBox.c2 {w : World} {b : Nat} {x0 x1 x2 x3 : Int} (h : DdBox w b x0 x1 x2 x3) : w.cell? ⟨b, 2, none⟩ = some (.int .i64 x2) := h.row.cell (i := 2) (by omega)

theorem DdBox.c3 {w : World} {b : Nat} {x0 x1 x2 x3 : Int} (h : DdBox w b x0 x1 x2 x3) : w.cell? ⟨b, 3, none⟩ = some (.int .i64 x3) := h.row.cell (i := 3) (by omega)

theorem DdBox.fr {w : World} {b : Nat} {x0 x1 x2 x3 : Int} (h : DdBox w b x0 x1 x2 x3) (i : Nat) : w.frozen? ⟨b, i, none⟩ = false := h.row.frozen i

theorem DdBox.kept {n : Nat} {w w' : World} {b : Nat} {x0 x1 x2 x3 : Int} (h : DdBox w b x0 x1 x2 x3) (hk : Kept n w w') (hn : b ≠ n) : DdBox w' b x0 x1 x2 x3 := ⟨h.row.of_block (hk.block _ h.row.lt hn)⟩

theorem DdBox.s1 {w : World} {b : Nat} {x0 x1 x2 x3 : Int} (h : DdBox w b x0 x1 x2 x3) (v : Int) : DdBox (w.setCell ⟨b, 1, none⟩ (.int .i64 v)) b x0 v x2 x3 :=
  ⟨(h.row.set 1 _).congr fun i hi => by
    have : i = 0 ∨ i = 1 ∨ i = 2 ∨ i = 3 := by omega
    rcases this with rfl | rfl | rfl | rfl <;> rfl⟩

theorem DdBox.s2 {w : World} {b : Nat} {x0 x1 x2 x3 : Int} (h : DdBox w b x0 x1 x2 x3) (v : Int) : DdBox (w.setCell ⟨b, 2, none⟩ (.int .i64 v)) b x0 x1 v x3 :=
  ⟨(h.row.set 2 _).congr fun i hi => by
    have : i = 0 ∨ i = 1 ∨ i = 2 ∨ i = 3 := by omega
    rcases this with rfl | rfl | rfl | rfl <;> rfl⟩

theorem DdBox.s3 {w : World} {b : Nat} {x0 x1 x2 x3 : Int} (h : DdBox w b x0 x1 x2 x3) (v : Int) : DdBox (w.setCell ⟨b, 3, none⟩ (.int .i64 v)) b x0 x1 x2 v :=
  ⟨(h.row.set 3 _).congr fun i hi => by
    have : i = 0 ∨ i = 1 ∨ i = 2 ∨ i = 3 := by omega
    rcases this with rfl | rfl | rfl | rfl <;> rfl⟩

def threeV (i : Nat) : Value := #[Value.int .i64 (-100), Value.int .i64 100, Value.int .i64 10].getD i (.int .i64 0)

theorem three_int (i : Nat) : ∃ k, threeV i = .int .i64 k := by
  unfold threeV
  match i with
  | 0 => exact ⟨_, rfl⟩
  | 1 => exact ⟨_, rfl⟩
  | 2 => exact ⟨_, rfl⟩
  | i + 3 => exact ⟨0, by simp⟩

theorem three_row (w : World) : (w.alloc (.cells #[.int .i64 (-100), .int .i64 100, .int .i64 10] 3)).rowIs w.heap.size 3 3 threeV :=
  World.rowIs_alloc w #[.int .i64 (-100), .int .i64 100, .int .i64 10] _ _ (fun i hi => by unfold threeV; rw [Array.getD_eq_getD_getElem?, Array.getElem?_eq_getElem hi]; rfl)

theorem put4 {w : World} {b : Nat} {v0 v1 v2 v3 : Value} (x0 x1 x2 x3 : Value) (h0 : w.cell? ⟨b, 0, none⟩ = some v0) (h1 : w.cell? ⟨b, 1, none⟩ = some v1) (h2 : w.cell? ⟨b, 2, none⟩ = some v2) (h3 : w.cell? ⟨b, 3, none⟩ = some v3) :
    ((((w.setCell ⟨b, 0, none⟩ x0).setCell ⟨b, 1, none⟩ x1).setCell ⟨b, 2, none⟩ x2).setCell ⟨b, 3, none⟩ x3).cell? ⟨b, 0, none⟩ = some x0 ∧ ((((w.setCell ⟨b, 0, none⟩ x0).setCell ⟨b, 1, none⟩ x1).setCell ⟨b, 2, none⟩ x2).setCell ⟨b, 3, none⟩ x3).cell? ⟨b, 1, none⟩ = some x1 ∧
    ((((w.setCell ⟨b, 0, none⟩ x0).setCell ⟨b, 1, none⟩ x1).setCell ⟨b, 2, none⟩ x2).setCell ⟨b, 3, none⟩ x3).cell? ⟨b, 2, none⟩ = some x2 ∧ ((((w.setCell ⟨b, 0, none⟩ x0).setCell ⟨b, 1, none⟩ x1).setCell ⟨b, 2, none⟩ x2).setCell ⟨b, 3, none⟩ x3).cell? ⟨b, 3, none⟩ = some x3 := by
  refine ⟨?_, ?_, ?_, ?_⟩
  · rw [World.cell?_setCell_other _ _ _ _ (by simp), World.cell?_setCell_other _ _ _ _ (by simp), World.cell?_setCell_other _ _ _ _ (by simp)]; exact World.cell?_setCell_same _ _ _ h0
  · rw [World.cell?_setCell_other _ _ _ _ (by simp), World.cell?_setCell_other _ _ _ _ (by simp)]; exact World.cell?_setCell_same _ _ _ (by rw [World.cell?_setCell_other _ _ _ _ (by simp)]; exact h1)
  · rw [World.cell?_setCell_other _ _ _ _ (by simp)]; exact World.cell?_setCell_same _ _ _ (by rw [World.cell?_setCell_other _ _ _ _ (by simp), World.cell?_setCell_other _ _ _ _ (by simp)]; exact h2)
  · exact World.cell?_setCell_same _ _ _ (by rw [World.cell?_setCell_other _ _ _ _ (by simp), World.cell?_setCell_other _ _ _ _ (by simp), World.cell?_setCell_other _ _ _ _ (by simp)]; exact h3)

/-- what a deed drawn leaves -/
def DrawnA (n : Nat) (w : World) (a : Option Addr) (len cap : Nat) (zs : List Int) (p : Int) (e : Ending) (w' : World) : Prop :=
  ∃ (d : Dd) (p' : Int), e = .returned (ddV d) ∧ Kept n w w' ∧ Reader n w' a len cap zs p' ∧ p' ≤ p + 10

set_option maxHeartbeats 40000000 in
set_option maxRecDepth 100000 in
theorem l20Deed (n : Nat) (w : World) (a : Option Addr) (len cap : Nat) (zs : List Int) (p : Int) (h : Reader n w a len cap zs p) (hp : p < 20000) (A : Option Addr) (m c : Nat) (hm : m ≤ 17) :
    Calls Tryz.prog 13 #[.pointer (some ⟨n, 0, none⟩), .slice A m c] w (DrawnA n w a len cap zs p) := by
  obtain ⟨W, hW⟩ : ∃ W, W = w.alloc (.cells #[.int .i64 0, .int .i64 0, .int .i64 0, .int .i64 0] 28) := ⟨_, rfl⟩
  have hbW : Below w.heap.size w W := by rw [hW]; exact (Below.refl _ _).alloc (Nat.le_refl _) _
  have hzW : W.heap.size = w.heap.size + 1 := by rw [hW]; simp
  have K0w : Kept n w W := Kept.of_below hbW
  have RW := h.of_below hbW
  have hnw := h.lt
  have q0 : W.cell? ⟨w.heap.size, 0, none⟩ = some (.int .i64 0) := by rw [hW]; simp [go_sem]
  have q1 : W.cell? ⟨w.heap.size, 1, none⟩ = some (.int .i64 0) := by rw [hW]; simp [go_sem]
  have q2 : W.cell? ⟨w.heap.size, 2, none⟩ = some (.int .i64 0) := by rw [hW]; simp [go_sem]
  have q3 : W.cell? ⟨w.heap.size, 3, none⟩ = some (.int .i64 0) := by rw [hW]; simp [go_sem]
  have g0 : W.frozen? ⟨w.heap.size, 0, none⟩ = false := by rw [hW]; simp [go_sem]
  have g1 : W.frozen? ⟨w.heap.size, 1, none⟩ = false := by rw [hW]; simp [go_sem]
  have g2 : W.frozen? ⟨w.heap.size, 2, none⟩ = false := by rw [hW]; simp [go_sem]
  have g3 : W.frozen? ⟨w.heap.size, 3, none⟩ = false := by rw [hW]; simp [go_sem]
  have HQ : Hid (∀ w', Kept n W w' → (w'.cell? ⟨w.heap.size, 0, none⟩ = some (.int .i64 0) ∧ w'.cell? ⟨w.heap.size, 1, none⟩ = some (.int .i64 0) ∧ w'.cell? ⟨w.heap.size, 2, none⟩ = some (.int .i64 0) ∧ w'.cell? ⟨w.heap.size, 3, none⟩ = some (.int .i64 0)) ∧
      w'.frozen? ⟨w.heap.size, 0, none⟩ = false ∧ w'.frozen? ⟨w.heap.size, 1, none⟩ = false ∧ w'.frozen? ⟨w.heap.size, 2, none⟩ = false ∧ w'.frozen? ⟨w.heap.size, 3, none⟩ = false) := fun w' hk =>
    ⟨⟨staysK (by omega) (by omega) q0 w' hk, staysK (by omega) (by omega) q1 w' hk, staysK (by omega) (by omega) q2 w' hk, staysK (by omega) (by omega) q3 w' hk⟩, staysKF (by omega) (by omega) g0 w' hk, staysKF (by omega) (by omega) g1 w' hk, staysKF (by omega) (by omega) g2 w' hk, staysKF (by omega) (by omega) g3 w' hk⟩
  clear q0 q1 q2 q3 g0 g1 g2 g3
  go_enter Tryz.func13, Tryz.ntmps13
  go_wp2_with fail
  rw [← hW]
  clear hW
  go_cut [5] (fun sp wx => ∃ (bx : Nat) (K : Int), sp = .pointer (some ⟨bx, 0, none⟩) ∧ Kept n W wx ∧ Reader n wx a len cap zs (p + 1 + 1) ∧ W.heap.size ≤ bx ∧ wx.rowIs bx 28 4 (ddRow (.int .i64 K) (.int .i64 0) (.int .i64 0) (.int .i64 0)))
  case first =>
    have K0 : Kept n W W.drew := (Kept.refl _ _).drew
    have R0 : Reader n W.drew a len cap zs p := RW.of_below (Below.refl _ _).drew
    refine wp_region_held_drew (S := fun w' => DdS n W a len cap zs w') (by kernel_rfl) ⟨_, K0, R0⟩ (fun hHeld => ?_)
    clear hHeld
    generalize W.drew = D0 at K0 R0 ⊢
    have hHeld : DdS n W a len cap zs D0 := ⟨_, K0, R0⟩
    refine wpAnyH_take (i := 1) (v := ?v1) rfl (by kernel_rfl) (by kernel_rfl) (by kernel_rfl) (fun _ _ _ h => h) (Or.inl ⟨by rfl, ?y1⟩) (by assumption) ?z1
    case y1 => (intro w hSw; go_simp; first | done | with_reducible rfl)
    try simp only [List.getElem_toArray, List.getElem_cons_succ, List.getElem_cons_zero, Act.put, List.setIfInBounds_toArray, List.set_cons_zero, List.set_cons_succ]
    refine wpAnyH_take (i := 5) (v := ?v2) rfl (by kernel_rfl) (by kernel_rfl) (by kernel_rfl) (fun _ _ _ h => h) (Or.inl ⟨by rfl, ?y2⟩) (by assumption) ?z2
    case y2 => (intro w hSw; go_simp; first | done | with_reducible rfl)
    try simp only [List.getElem_toArray, List.getElem_cons_succ, List.getElem_cons_zero, Act.put, List.setIfInBounds_toArray, List.set_cons_zero, List.set_cons_succ]
    refine wpAnyH_ready (rs := [0, 2, 11]) (by kernel_rfl) (by simp) ?_
    refine AllReadyH.cons rfl (fun K hK => ?_) (AllReadyH.cons rfl (fun K hK => ?_) (AllReadyH.cons rfl (fun K hK => ?_) AllReadyH.nil))
    · go_simp
      obtain ⟨D1, hD⟩ : ∃ V : World, V = D0.alloc (.cells #[.int .i64 0, .int .i64 0, .int .i64 0, .int .i64 1, .int .i64 2, .int .i64 3, .int .i64 4] 3) := ⟨_, rfl⟩
      rw [← hD]
      have hb : Below D0.heap.size D0 D1 := by rw [hD]; exact (Below.refl _ _).alloc (Nat.le_refl _) _
      have SL1 : D1.rowIs D0.heap.size 3 7 sevenV := by rw [hD]; exact seven_row D0
      have NSL : D0.heap.size ≠ n := by have := R0.lt; omega
      have K1 := K0.trans (Kept.of_below hb)
      have R1 := R0.of_below hb
      have GSL : W.heap.size ≤ D0.heap.size := K0.size
      clear hD hb
      refine hK.out _ _ ⟨_, K1, R1⟩ (fun hHeld => ?_)
      clear hK K
      try simp only [List.getElem_toArray, List.getElem_cons_succ, List.getElem_cons_zero, Act.put, List.setIfInBounds_toArray, List.set_cons_zero, List.set_cons_succ]
      refine wpAnyH_ready (rs := [2, 11]) (by kernel_rfl) (by simp) ?_
      refine AllReadyH.cons rfl (fun K hK => ?_) (AllReadyH.cons rfl (fun K hK => ?_) AllReadyH.nil)
      · go_simp
        refine (pick n _ a len cap zs p 7 R1 (by omega) (by omega) (by omega)).mono ?_
        rintro e D2 ⟨v2, rfl, v20, v21, k2, R2⟩
        have K2 := K1.trans k2
        have SL2 := SL1.of_block (k2.block _ SL1.lt NSL)
        refine hK.out _ _ ⟨_, K2, R2⟩ (fun hHeld => ?_)
        clear hK K
        try simp only [List.getElem_toArray, List.getElem_cons_succ, List.getElem_cons_zero, Act.put, List.setIfInBounds_toArray, List.set_cons_zero, List.set_cons_succ]
        refine wpAnyH_take (i := 3) (v := ?v3) rfl (by kernel_rfl) (by kernel_rfl) (by kernel_rfl) (fun _ _ _ h => h) (Or.inl ⟨by rfl, ?y3⟩) (by assumption) ?z3
        case y3 => (intro w hSw; go_simp; first | done | with_reducible rfl)
        try simp only [List.getElem_toArray, List.getElem_cons_succ, List.getElem_cons_zero, Act.put, List.setIfInBounds_toArray, List.set_cons_zero, List.set_cons_succ]
        refine wpAnyH_ready (rs := [4, 6, 11]) (by kernel_rfl) (by simp) ?_
        refine AllReadyH.cons rfl (fun K hK => ?_) (AllReadyH.cons rfl (fun K hK => ?_) (AllReadyH.cons rfl (fun K hK => ?_) AllReadyH.nil))
        · have cc := SL2.cell (i := v2.toNat) (by omega)
          have cc' : D2.cell? ⟨D0.heap.size, 0 + v2.toNat, none⟩ = some (sevenV v2.toNat) := by rw [Nat.zero_add]; exact cc
          obtain ⟨kk, hkk⟩ := seven_int v2.toNat
          rw [hkk] at cc cc'
          go_simp
          clear cc cc'
          refine hK.out _ _ ⟨_, K2, R2⟩ (fun hHeld => ?_)
          clear hK K
          try simp only [List.getElem_toArray, List.getElem_cons_succ, List.getElem_cons_zero, Act.put, List.setIfInBounds_toArray, List.set_cons_zero, List.set_cons_succ]
          refine wpAnyH_ready (rs := [6, 11]) (by kernel_rfl) (by simp) ?_
          refine AllReadyH.cons rfl (fun K hK => ?_) (AllReadyH.cons rfl (fun K hK => ?_) AllReadyH.nil)
          · go_simp
            refine (pick n _ a len cap zs (p + 1) 60 R2 (by omega) (by omega) (by omega)).mono ?_
            rintro e D3 ⟨v6, rfl, v60, v61, k6, R3⟩
            have K3 := K2.trans k6
            have SL3 := SL2.of_block (k6.block _ SL2.lt NSL)
            refine hK.out _ _ ⟨_, K3, R3⟩ (fun hHeld => ?_)
            clear hK K
            try simp only [List.getElem_toArray, List.getElem_cons_succ, List.getElem_cons_zero, Act.put, List.setIfInBounds_toArray, List.set_cons_zero, List.set_cons_succ]
            refine wpAnyH_take (i := 7) (v := ?v4) rfl (by kernel_rfl) (by kernel_rfl) (by kernel_rfl) (fun _ _ _ h => h) (Or.inl ⟨by rfl, ?y4⟩) (by assumption) ?z4
            case y4 => (intro w hSw; go_simp; first | done | with_reducible rfl)
            try simp only [List.getElem_toArray, List.getElem_cons_succ, List.getElem_cons_zero, Act.put, List.setIfInBounds_toArray, List.set_cons_zero, List.set_cons_succ]
            refine wpAnyH_take (i := 8) (v := ?v5) rfl (by kernel_rfl) (by kernel_rfl) (by kernel_rfl) (fun _ _ _ h => h) (Or.inl ⟨by rfl, ?y5⟩) (by assumption) ?z5
            case y5 => (intro w hSw; go_simp; first | done | with_reducible rfl)
            try simp only [List.getElem_toArray, List.getElem_cons_succ, List.getElem_cons_zero, Act.put, List.setIfInBounds_toArray, List.set_cons_zero, List.set_cons_succ]
            refine wpAnyH_take (i := 9) (v := ?v6) rfl (by kernel_rfl) (by kernel_rfl) (by kernel_rfl) (fun _ _ _ h => h) (Or.inl ⟨by rfl, ?y6⟩) (by assumption) ?z6
            case y6 => (intro w hSw; go_simp; first | done | with_reducible rfl)
            try simp only [List.getElem_toArray, List.getElem_cons_succ, List.getElem_cons_zero, Act.put, List.setIfInBounds_toArray, List.set_cons_zero, List.set_cons_succ]
            refine wpAnyH_take (i := 10) (v := ?v7) rfl (by kernel_rfl) (by kernel_rfl) (by kernel_rfl) (fun _ _ _ h => h) (Or.inl ⟨by rfl, ?y7⟩) (by assumption) ?z7
            case y7 => (intro w hSw; go_simp; first | done | with_reducible rfl)
            try simp only [List.getElem_toArray, List.getElem_cons_succ, List.getElem_cons_zero, Act.put, List.setIfInBounds_toArray, List.set_cons_zero, List.set_cons_succ]
            refine wpAnyH_ready (rs := [11]) (by kernel_rfl) (by simp) ?_
            refine AllReadyH.cons rfl (fun K hK => ?_) AllReadyH.nil
            go_simp
            obtain ⟨D4, hD⟩ : ∃ V : World, V = D3.alloc (.cells #[.int .i64 0, .int .i64 0, .int .i64 0, .int .i64 0] 28) := ⟨_, rfl⟩
            rw [← hD]
            have hb : Below D3.heap.size D3 D4 := by rw [hD]; exact (Below.refl _ _).alloc (Nat.le_refl _) _
            have BX4 : D4.rowIs D3.heap.size 28 4 (fun _ => .int .i64 0) := by rw [hD]; exact zero_row D3
            have NBX : D3.heap.size ≠ n := by have := R3.lt; omega
            have K4 := K3.trans (Kept.of_below hb)
            have R4 := R3.of_below hb
            have GBX : W.heap.size ≤ D3.heap.size := K3.size
            have SL4 := SL3.of_block (hb.block _ SL3.lt)
            clear hD hb
            refine hK.out _ _ ⟨_, K4, R4⟩ (fun hHeld => ?_)
            clear hK K
            try simp only [List.getElem_toArray, List.getElem_cons_succ, List.getElem_cons_zero, Act.put, List.setIfInBounds_toArray, List.set_cons_zero, List.set_cons_succ]
            refine wpAnyH_ready (rs := [12]) (by kernel_rfl) (by simp) ?_
            refine AllReadyH.cons rfl (fun K hK => ?_) AllReadyH.nil
            have PC0 := BX4.cell (i := 0) (by omega)
            have PC1 := BX4.cell (i := 1) (by omega)
            have PC2 := BX4.cell (i := 2) (by omega)
            have PC3 := BX4.cell (i := 3) (by omega)
            have PF0 := BX4.frozen 0
            have PF1 := BX4.frozen 1
            have PF2 := BX4.frozen 2
            have PF3 := BX4.frozen 3
            have HSE : ∀ x0 x1 x2 x3 : Value, DdS n W a len cap zs ((((D4.setCell ⟨D3.heap.size, 0, none⟩ x0).setCell ⟨D3.heap.size, 1, none⟩ x1).setCell ⟨D3.heap.size, 2, none⟩ x2).setCell ⟨D3.heap.size, 3, none⟩ x3) := fun x0 x1 x2 x3 => ⟨_, K4.setNew4 GBX x0 x1 x2 x3, R4.setFar4 (by have := R4.lt; omega) x0 x1 x2 x3⟩
            go_simp
            refine hK.out _ _ (HSE _ _ _ _) (fun hHeld => ?_)
            clear hK K
            try simp only [List.getElem_toArray, List.getElem_cons_succ, List.getElem_cons_zero, Act.put, List.setIfInBounds_toArray, List.set_cons_zero, List.set_cons_succ]
            refine wpAnyH_done (by kernel_rfl) ?_ _
            go_wp2_with fail
            go_meet
            exact ⟨D3.heap.size, _, rfl, K4.setNew4 GBX _ _ _ _, R4.setFar4 (by have := R4.lt; omega) _ _ _ _, GBX, deed_row BX4 _ _ _ _⟩
          · go_simp
            obtain ⟨D3, hD⟩ : ∃ V : World, V = D2.alloc (.cells #[.int .i64 0, .int .i64 0, .int .i64 0, .int .i64 0] 28) := ⟨_, rfl⟩
            rw [← hD]
            have hb : Below D2.heap.size D2 D3 := by rw [hD]; exact (Below.refl _ _).alloc (Nat.le_refl _) _
            have BX3 : D3.rowIs D2.heap.size 28 4 (fun _ => .int .i64 0) := by rw [hD]; exact zero_row D2
            have NBX : D2.heap.size ≠ n := by have := R2.lt; omega
            have K3 := K2.trans (Kept.of_below hb)
            have R3 := R2.of_below hb
            have GBX : W.heap.size ≤ D2.heap.size := K2.size
            have SL3 := SL2.of_block (hb.block _ SL2.lt)
            clear hD hb
            refine hK.out _ _ ⟨_, K3, R3⟩ (fun hHeld => ?_)
            clear hK K
            try simp only [List.getElem_toArray, List.getElem_cons_succ, List.getElem_cons_zero, Act.put, List.setIfInBounds_toArray, List.set_cons_zero, List.set_cons_succ]
            refine wpAnyH_ready (rs := [6]) (by kernel_rfl) (by simp) ?_
            refine AllReadyH.cons rfl (fun K hK => ?_) AllReadyH.nil
            go_simp
            refine (pick n _ a len cap zs (p + 1) 60 R3 (by omega) (by omega) (by omega)).mono ?_
            rintro e D4 ⟨v6, rfl, v60, v61, k6, R4⟩
            have K4 := K3.trans k6
            have SL4 := SL3.of_block (k6.block _ SL3.lt NSL)
            have BX4 := BX3.of_block (k6.block _ BX3.lt NBX)
            refine hK.out _ _ ⟨_, K4, R4⟩ (fun hHeld => ?_)
            clear hK K
            try simp only [List.getElem_toArray, List.getElem_cons_succ, List.getElem_cons_zero, Act.put, List.setIfInBounds_toArray, List.set_cons_zero, List.set_cons_succ]
            refine wpAnyH_take (i := 7) (v := ?v8) rfl (by kernel_rfl) (by kernel_rfl) (by kernel_rfl) (fun _ _ _ h => h) (Or.inl ⟨by rfl, ?y8⟩) (by assumption) ?z8
            case y8 => (intro w hSw; go_simp; first | done | with_reducible rfl)
            try simp only [List.getElem_toArray, List.getElem_cons_succ, List.getElem_cons_zero, Act.put, List.setIfInBounds_toArray, List.set_cons_zero, List.set_cons_succ]
            refine wpAnyH_take (i := 8) (v := ?v9) rfl (by kernel_rfl) (by kernel_rfl) (by kernel_rfl) (fun _ _ _ h => h) (Or.inl ⟨by rfl, ?y9⟩) (by assumption) ?z9
            case y9 => (intro w hSw; go_simp; first | done | with_reducible rfl)
            try simp only [List.getElem_toArray, List.getElem_cons_succ, List.getElem_cons_zero, Act.put, List.setIfInBounds_toArray, List.set_cons_zero, List.set_cons_succ]
            refine wpAnyH_take (i := 9) (v := ?v10) rfl (by kernel_rfl) (by kernel_rfl) (by kernel_rfl) (fun _ _ _ h => h) (Or.inl ⟨by rfl, ?y10⟩) (by assumption) ?z10
            case y10 => (intro w hSw; go_simp; first | done | with_reducible rfl)
            try simp only [List.getElem_toArray, List.getElem_cons_succ, List.getElem_cons_zero, Act.put, List.setIfInBounds_toArray, List.set_cons_zero, List.set_cons_succ]
            refine wpAnyH_take (i := 10) (v := ?v11) rfl (by kernel_rfl) (by kernel_rfl) (by kernel_rfl) (fun _ _ _ h => h) (Or.inl ⟨by rfl, ?y11⟩) (by assumption) ?z11
            case y11 => (intro w hSw; go_simp; first | done | with_reducible rfl)
            try simp only [List.getElem_toArray, List.getElem_cons_succ, List.getElem_cons_zero, Act.put, List.setIfInBounds_toArray, List.set_cons_zero, List.set_cons_succ]
            refine wpAnyH_ready (rs := [12]) (by kernel_rfl) (by simp) ?_
            refine AllReadyH.cons rfl (fun K hK => ?_) AllReadyH.nil
            have PC0 := BX4.cell (i := 0) (by omega)
            have PC1 := BX4.cell (i := 1) (by omega)
            have PC2 := BX4.cell (i := 2) (by omega)
            have PC3 := BX4.cell (i := 3) (by omega)
            have PF0 := BX4.frozen 0
            have PF1 := BX4.frozen 1
            have PF2 := BX4.frozen 2
            have PF3 := BX4.frozen 3
            have HSE : ∀ x0 x1 x2 x3 : Value, DdS n W a len cap zs ((((D4.setCell ⟨D2.heap.size, 0, none⟩ x0).setCell ⟨D2.heap.size, 1, none⟩ x1).setCell ⟨D2.heap.size, 2, none⟩ x2).setCell ⟨D2.heap.size, 3, none⟩ x3) := fun x0 x1 x2 x3 => ⟨_, K4.setNew4 GBX x0 x1 x2 x3, R4.setFar4 (by have := R4.lt; omega) x0 x1 x2 x3⟩
            go_simp
            refine hK.out _ _ (HSE _ _ _ _) (fun hHeld => ?_)
            clear hK K
            try simp only [List.getElem_toArray, List.getElem_cons_succ, List.getElem_cons_zero, Act.put, List.setIfInBounds_toArray, List.set_cons_zero, List.set_cons_succ]
            refine wpAnyH_done (by kernel_rfl) ?_ _
            go_wp2_with fail
            go_meet
            exact ⟨D2.heap.size, _, rfl, K4.setNew4 GBX _ _ _ _, R4.setFar4 (by have := R4.lt; omega) _ _ _ _, GBX, deed_row BX4 _ _ _ _⟩
        · go_simp
          refine (pick n _ a len cap zs (p + 1) 60 R2 (by omega) (by omega) (by omega)).mono ?_
          rintro e D3 ⟨v6, rfl, v60, v61, k6, R3⟩
          have K3 := K2.trans k6
          have SL3 := SL2.of_block (k6.block _ SL2.lt NSL)
          refine hK.out _ _ ⟨_, K3, R3⟩ (fun hHeld => ?_)
          clear hK K
          try simp only [List.getElem_toArray, List.getElem_cons_succ, List.getElem_cons_zero, Act.put, List.setIfInBounds_toArray, List.set_cons_zero, List.set_cons_succ]
          refine wpAnyH_take (i := 7) (v := ?v12) rfl (by kernel_rfl) (by kernel_rfl) (by kernel_rfl) (fun _ _ _ h => h) (Or.inl ⟨by rfl, ?y12⟩) (by assumption) ?z12
          case y12 => (intro w hSw; go_simp; first | done | with_reducible rfl)
          try simp only [List.getElem_toArray, List.getElem_cons_succ, List.getElem_cons_zero, Act.put, List.setIfInBounds_toArray, List.set_cons_zero, List.set_cons_succ]
          refine wpAnyH_take (i := 8) (v := ?v13) rfl (by kernel_rfl) (by kernel_rfl) (by kernel_rfl) (fun _ _ _ h => h) (Or.inl ⟨by rfl, ?y13⟩) (by assumption) ?z13
          case y13 => (intro w hSw; go_simp; first | done | with_reducible rfl)
          try simp only [List.getElem_toArray, List.getElem_cons_succ, List.getElem_cons_zero, Act.put, List.setIfInBounds_toArray, List.set_cons_zero, List.set_cons_succ]
          refine wpAnyH_ready (rs := [4, 11]) (by kernel_rfl) (by simp) ?_
          refine AllReadyH.cons rfl (fun K hK => ?_) (AllReadyH.cons rfl (fun K hK => ?_) AllReadyH.nil)
          · have cc := SL3.cell (i := v2.toNat) (by omega)
            have cc' : D3.cell? ⟨D0.heap.size, 0 + v2.toNat, none⟩ = some (sevenV v2.toNat) := by rw [Nat.zero_add]; exact cc
            obtain ⟨kk, hkk⟩ := seven_int v2.toNat
            rw [hkk] at cc cc'
            go_simp
            clear cc cc'
            refine hK.out _ _ ⟨_, K3, R3⟩ (fun hHeld => ?_)
            clear hK K
            try simp only [List.getElem_toArray, List.getElem_cons_succ, List.getElem_cons_zero, Act.put, List.setIfInBounds_toArray, List.set_cons_zero, List.set_cons_succ]
            refine wpAnyH_take (i := 9) (v := ?v14) rfl (by kernel_rfl) (by kernel_rfl) (by kernel_rfl) (fun _ _ _ h => h) (Or.inl ⟨by rfl, ?y14⟩) (by assumption) ?z14
            case y14 => (intro w hSw; go_simp; first | done | with_reducible rfl)
            try simp only [List.getElem_toArray, List.getElem_cons_succ, List.getElem_cons_zero, Act.put, List.setIfInBounds_toArray, List.set_cons_zero, List.set_cons_succ]
            refine wpAnyH_take (i := 10) (v := ?v15) rfl (by kernel_rfl) (by kernel_rfl) (by kernel_rfl) (fun _ _ _ h => h) (Or.inl ⟨by rfl, ?y15⟩) (by assumption) ?z15
            case y15 => (intro w hSw; go_simp; first | done | with_reducible rfl)
            try simp only [List.getElem_toArray, List.getElem_cons_succ, List.getElem_cons_zero, Act.put, List.setIfInBounds_toArray, List.set_cons_zero, List.set_cons_succ]
            refine wpAnyH_ready (rs := [11]) (by kernel_rfl) (by simp) ?_
            refine AllReadyH.cons rfl (fun K hK => ?_) AllReadyH.nil
            go_simp
            obtain ⟨D4, hD⟩ : ∃ V : World, V = D3.alloc (.cells #[.int .i64 0, .int .i64 0, .int .i64 0, .int .i64 0] 28) := ⟨_, rfl⟩
            rw [← hD]
            have hb : Below D3.heap.size D3 D4 := by rw [hD]; exact (Below.refl _ _).alloc (Nat.le_refl _) _
            have BX4 : D4.rowIs D3.heap.size 28 4 (fun _ => .int .i64 0) := by rw [hD]; exact zero_row D3
            have NBX : D3.heap.size ≠ n := by have := R3.lt; omega
            have K4 := K3.trans (Kept.of_below hb)
            have R4 := R3.of_below hb
            have GBX : W.heap.size ≤ D3.heap.size := K3.size
            have SL4 := SL3.of_block (hb.block _ SL3.lt)
            clear hD hb
            refine hK.out _ _ ⟨_, K4, R4⟩ (fun hHeld => ?_)
            clear hK K
            try simp only [List.getElem_toArray, List.getElem_cons_succ, List.getElem_cons_zero, Act.put, List.setIfInBounds_toArray, List.set_cons_zero, List.set_cons_succ]
            refine wpAnyH_ready (rs := [12]) (by kernel_rfl) (by simp) ?_
            refine AllReadyH.cons rfl (fun K hK => ?_) AllReadyH.nil
            have PC0 := BX4.cell (i := 0) (by omega)
            have PC1 := BX4.cell (i := 1) (by omega)
            have PC2 := BX4.cell (i := 2) (by omega)
            have PC3 := BX4.cell (i := 3) (by omega)
            have PF0 := BX4.frozen 0
            have PF1 := BX4.frozen 1
            have PF2 := BX4.frozen 2
            have PF3 := BX4.frozen 3
            have HSE : ∀ x0 x1 x2 x3 : Value, DdS n W a len cap zs ((((D4.setCell ⟨D3.heap.size, 0, none⟩ x0).setCell ⟨D3.heap.size, 1, none⟩ x1).setCell ⟨D3.heap.size, 2, none⟩ x2).setCell ⟨D3.heap.size, 3, none⟩ x3) := fun x0 x1 x2 x3 => ⟨_, K4.setNew4 GBX x0 x1 x2 x3, R4.setFar4 (by have := R4.lt; omega) x0 x1 x2 x3⟩
            go_simp
            refine hK.out _ _ (HSE _ _ _ _) (fun hHeld => ?_)
            clear hK K
            try simp only [List.getElem_toArray, List.getElem_cons_succ, List.getElem_cons_zero, Act.put, List.setIfInBounds_toArray, List.set_cons_zero, List.set_cons_succ]
            refine wpAnyH_done (by kernel_rfl) ?_ _
            go_wp2_with fail
            go_meet
            exact ⟨D3.heap.size, _, rfl, K4.setNew4 GBX _ _ _ _, R4.setFar4 (by have := R4.lt; omega) _ _ _ _, GBX, deed_row BX4 _ _ _ _⟩
          · go_simp
            obtain ⟨D4, hD⟩ : ∃ V : World, V = D3.alloc (.cells #[.int .i64 0, .int .i64 0, .int .i64 0, .int .i64 0] 28) := ⟨_, rfl⟩
            rw [← hD]
            have hb : Below D3.heap.size D3 D4 := by rw [hD]; exact (Below.refl _ _).alloc (Nat.le_refl _) _
            have BX4 : D4.rowIs D3.heap.size 28 4 (fun _ => .int .i64 0) := by rw [hD]; exact zero_row D3
            have NBX : D3.heap.size ≠ n := by have := R3.lt; omega
            have K4 := K3.trans (Kept.of_below hb)
            have R4 := R3.of_below hb
            have GBX : W.heap.size ≤ D3.heap.size := K3.size
            have SL4 := SL3.of_block (hb.block _ SL3.lt)
            clear hD hb
            refine hK.out _ _ ⟨_, K4, R4⟩ (fun hHeld => ?_)
            clear hK K
            try simp only [List.getElem_toArray, List.getElem_cons_succ, List.getElem_cons_zero, Act.put, List.setIfInBounds_toArray, List.set_cons_zero, List.set_cons_succ]
            refine wpAnyH_ready (rs := [4]) (by kernel_rfl) (by simp) ?_
            refine AllReadyH.cons rfl (fun K hK => ?_) AllReadyH.nil
            have cc := SL4.cell (i := v2.toNat) (by omega)
            have cc' : D4.cell? ⟨D0.heap.size, 0 + v2.toNat, none⟩ = some (sevenV v2.toNat) := by rw [Nat.zero_add]; exact cc
            obtain ⟨kk, hkk⟩ := seven_int v2.toNat
            rw [hkk] at cc cc'
            go_simp
            clear cc cc'
            refine hK.out _ _ ⟨_, K4, R4⟩ (fun hHeld => ?_)
            clear hK K
            try simp only [List.getElem_toArray, List.getElem_cons_succ, List.getElem_cons_zero, Act.put, List.setIfInBounds_toArray, List.set_cons_zero, List.set_cons_succ]
            refine wpAnyH_take (i := 9) (v := ?v16) rfl (by kernel_rfl) (by kernel_rfl) (by kernel_rfl) (fun _ _ _ h => h) (Or.inl ⟨by rfl, ?y16⟩) (by assumption) ?z16
            case y16 => (intro w hSw; go_simp; first | done | with_reducible rfl)
            try simp only [List.getElem_toArray, List.getElem_cons_succ, List.getElem_cons_zero, Act.put, List.setIfInBounds_toArray, List.set_cons_zero, List.set_cons_succ]
            refine wpAnyH_take (i := 10) (v := ?v17) rfl (by kernel_rfl) (by kernel_rfl) (by kernel_rfl) (fun _ _ _ h => h) (Or.inl ⟨by rfl, ?y17⟩) (by assumption) ?z17
            case y17 => (intro w hSw; go_simp; first | done | with_reducible rfl)
            try simp only [List.getElem_toArray, List.getElem_cons_succ, List.getElem_cons_zero, Act.put, List.setIfInBounds_toArray, List.set_cons_zero, List.set_cons_succ]
            refine wpAnyH_ready (rs := [12]) (by kernel_rfl) (by simp) ?_
            refine AllReadyH.cons rfl (fun K hK => ?_) AllReadyH.nil
            have PC0 := BX4.cell (i := 0) (by omega)
            have PC1 := BX4.cell (i := 1) (by omega)
            have PC2 := BX4.cell (i := 2) (by omega)
            have PC3 := BX4.cell (i := 3) (by omega)
            have PF0 := BX4.frozen 0
            have PF1 := BX4.frozen 1
            have PF2 := BX4.frozen 2
            have PF3 := BX4.frozen 3
            have HSE : ∀ x0 x1 x2 x3 : Value, DdS n W a len cap zs ((((D4.setCell ⟨D3.heap.size, 0, none⟩ x0).setCell ⟨D3.heap.size, 1, none⟩ x1).setCell ⟨D3.heap.size, 2, none⟩ x2).setCell ⟨D3.heap.size, 3, none⟩ x3) := fun x0 x1 x2 x3 => ⟨_, K4.setNew4 GBX x0 x1 x2 x3, R4.setFar4 (by have := R4.lt; omega) x0 x1 x2 x3⟩
            go_simp
            refine hK.out _ _ (HSE _ _ _ _) (fun hHeld => ?_)
            clear hK K
            try simp only [List.getElem_toArray, List.getElem_cons_succ, List.getElem_cons_zero, Act.put, List.setIfInBounds_toArray, List.set_cons_zero, List.set_cons_succ]
            refine wpAnyH_done (by kernel_rfl) ?_ _
            go_wp2_with fail
            go_meet
            exact ⟨D3.heap.size, _, rfl, K4.setNew4 GBX _ _ _ _, R4.setFar4 (by have := R4.lt; omega) _ _ _ _, GBX, deed_row BX4 _ _ _ _⟩
        · go_simp
          obtain ⟨D3, hD⟩ : ∃ V : World, V = D2.alloc (.cells #[.int .i64 0, .int .i64 0, .int .i64 0, .int .i64 0] 28) := ⟨_, rfl⟩
          rw [← hD]
          have hb : Below D2.heap.size D2 D3 := by rw [hD]; exact (Below.refl _ _).alloc (Nat.le_refl _) _
          have BX3 : D3.rowIs D2.heap.size 28 4 (fun _ => .int .i64 0) := by rw [hD]; exact zero_row D2
          have NBX : D2.heap.size ≠ n := by have := R2.lt; omega
          have K3 := K2.trans (Kept.of_below hb)
          have R3 := R2.of_below hb
          have GBX : W.heap.size ≤ D2.heap.size := K2.size
          have SL3 := SL2.of_block (hb.block _ SL2.lt)
          clear hD hb
          refine hK.out _ _ ⟨_, K3, R3⟩ (fun hHeld => ?_)
          clear hK K
          try simp only [List.getElem_toArray, List.getElem_cons_succ, List.getElem_cons_zero, Act.put, List.setIfInBounds_toArray, List.set_cons_zero, List.set_cons_succ]
          refine wpAnyH_ready (rs := [4, 6]) (by kernel_rfl) (by simp) ?_
          refine AllReadyH.cons rfl (fun K hK => ?_) (AllReadyH.cons rfl (fun K hK => ?_) AllReadyH.nil)
          · have cc := SL3.cell (i := v2.toNat) (by omega)
            have cc' : D3.cell? ⟨D0.heap.size, 0 + v2.toNat, none⟩ = some (sevenV v2.toNat) := by rw [Nat.zero_add]; exact cc
            obtain ⟨kk, hkk⟩ := seven_int v2.toNat
            rw [hkk] at cc cc'
            go_simp
            clear cc cc'
            refine hK.out _ _ ⟨_, K3, R3⟩ (fun hHeld => ?_)
            clear hK K
            try simp only [List.getElem_toArray, List.getElem_cons_succ, List.getElem_cons_zero, Act.put, List.setIfInBounds_toArray, List.set_cons_zero, List.set_cons_succ]
            refine wpAnyH_ready (rs := [6]) (by kernel_rfl) (by simp) ?_
            refine AllReadyH.cons rfl (fun K hK => ?_) AllReadyH.nil
            go_simp
            refine (pick n _ a len cap zs (p + 1) 60 R3 (by omega) (by omega) (by omega)).mono ?_
            rintro e D4 ⟨v6, rfl, v60, v61, k6, R4⟩
            have K4 := K3.trans k6
            have SL4 := SL3.of_block (k6.block _ SL3.lt NSL)
            have BX4 := BX3.of_block (k6.block _ BX3.lt NBX)
            refine hK.out _ _ ⟨_, K4, R4⟩ (fun hHeld => ?_)
            clear hK K
            try simp only [List.getElem_toArray, List.getElem_cons_succ, List.getElem_cons_zero, Act.put, List.setIfInBounds_toArray, List.set_cons_zero, List.set_cons_succ]
            refine wpAnyH_take (i := 7) (v := ?v18) rfl (by kernel_rfl) (by kernel_rfl) (by kernel_rfl) (fun _ _ _ h => h) (Or.inl ⟨by rfl, ?y18⟩) (by assumption) ?z18
            case y18 => (intro w hSw; go_simp; first | done | with_reducible rfl)
            try simp only [List.getElem_toArray, List.getElem_cons_succ, List.getElem_cons_zero, Act.put, List.setIfInBounds_toArray, List.set_cons_zero, List.set_cons_succ]
            refine wpAnyH_take (i := 8) (v := ?v19) rfl (by kernel_rfl) (by kernel_rfl) (by kernel_rfl) (fun _ _ _ h => h) (Or.inl ⟨by rfl, ?y19⟩) (by assumption) ?z19
            case y19 => (intro w hSw; go_simp; first | done | with_reducible rfl)
            try simp only [List.getElem_toArray, List.getElem_cons_succ, List.getElem_cons_zero, Act.put, List.setIfInBounds_toArray, List.set_cons_zero, List.set_cons_succ]
            refine wpAnyH_take (i := 9) (v := ?v20) rfl (by kernel_rfl) (by kernel_rfl) (by kernel_rfl) (fun _ _ _ h => h) (Or.inl ⟨by rfl, ?y20⟩) (by assumption) ?z20
            case y20 => (intro w hSw; go_simp; first | done | with_reducible rfl)
            try simp only [List.getElem_toArray, List.getElem_cons_succ, List.getElem_cons_zero, Act.put, List.setIfInBounds_toArray, List.set_cons_zero, List.set_cons_succ]
            refine wpAnyH_take (i := 10) (v := ?v21) rfl (by kernel_rfl) (by kernel_rfl) (by kernel_rfl) (fun _ _ _ h => h) (Or.inl ⟨by rfl, ?y21⟩) (by assumption) ?z21
            case y21 => (intro w hSw; go_simp; first | done | with_reducible rfl)
            try simp only [List.getElem_toArray, List.getElem_cons_succ, List.getElem_cons_zero, Act.put, List.setIfInBounds_toArray, List.set_cons_zero, List.set_cons_succ]
            refine wpAnyH_ready (rs := [12]) (by kernel_rfl) (by simp) ?_
            refine AllReadyH.cons rfl (fun K hK => ?_) AllReadyH.nil
            have PC0 := BX4.cell (i := 0) (by omega)
            have PC1 := BX4.cell (i := 1) (by omega)
            have PC2 := BX4.cell (i := 2) (by omega)
            have PC3 := BX4.cell (i := 3) (by omega)
            have PF0 := BX4.frozen 0
            have PF1 := BX4.frozen 1
            have PF2 := BX4.frozen 2
            have PF3 := BX4.frozen 3
            have HSE : ∀ x0 x1 x2 x3 : Value, DdS n W a len cap zs ((((D4.setCell ⟨D2.heap.size, 0, none⟩ x0).setCell ⟨D2.heap.size, 1, none⟩ x1).setCell ⟨D2.heap.size, 2, none⟩ x2).setCell ⟨D2.heap.size, 3, none⟩ x3) := fun x0 x1 x2 x3 => ⟨_, K4.setNew4 GBX x0 x1 x2 x3, R4.setFar4 (by have := R4.lt; omega) x0 x1 x2 x3⟩
            go_simp
            refine hK.out _ _ (HSE _ _ _ _) (fun hHeld => ?_)
            clear hK K
            try simp only [List.getElem_toArray, List.getElem_cons_succ, List.getElem_cons_zero, Act.put, List.setIfInBounds_toArray, List.set_cons_zero, List.set_cons_succ]
            refine wpAnyH_done (by kernel_rfl) ?_ _
            go_wp2_with fail
            go_meet
            exact ⟨D2.heap.size, _, rfl, K4.setNew4 GBX _ _ _ _, R4.setFar4 (by have := R4.lt; omega) _ _ _ _, GBX, deed_row BX4 _ _ _ _⟩
          · go_simp
            refine (pick n _ a len cap zs (p + 1) 60 R3 (by omega) (by omega) (by omega)).mono ?_
            rintro e D4 ⟨v6, rfl, v60, v61, k6, R4⟩
            have K4 := K3.trans k6
            have SL4 := SL3.of_block (k6.block _ SL3.lt NSL)
            have BX4 := BX3.of_block (k6.block _ BX3.lt NBX)
            refine hK.out _ _ ⟨_, K4, R4⟩ (fun hHeld => ?_)
            clear hK K
            try simp only [List.getElem_toArray, List.getElem_cons_succ, List.getElem_cons_zero, Act.put, List.setIfInBounds_toArray, List.set_cons_zero, List.set_cons_succ]
            refine wpAnyH_take (i := 7) (v := ?v22) rfl (by kernel_rfl) (by kernel_rfl) (by kernel_rfl) (fun _ _ _ h => h) (Or.inl ⟨by rfl, ?y22⟩) (by assumption) ?z22
            case y22 => (intro w hSw; go_simp; first | done | with_reducible rfl)
            try simp only [List.getElem_toArray, List.getElem_cons_succ, List.getElem_cons_zero, Act.put, List.setIfInBounds_toArray, List.set_cons_zero, List.set_cons_succ]
            refine wpAnyH_take (i := 8) (v := ?v23) rfl (by kernel_rfl) (by kernel_rfl) (by kernel_rfl) (fun _ _ _ h => h) (Or.inl ⟨by rfl, ?y23⟩) (by assumption) ?z23
            case y23 => (intro w hSw; go_simp; first | done | with_reducible rfl)
            try simp only [List.getElem_toArray, List.getElem_cons_succ, List.getElem_cons_zero, Act.put, List.setIfInBounds_toArray, List.set_cons_zero, List.set_cons_succ]
            refine wpAnyH_ready (rs := [4]) (by kernel_rfl) (by simp) ?_
            refine AllReadyH.cons rfl (fun K hK => ?_) AllReadyH.nil
            have cc := SL4.cell (i := v2.toNat) (by omega)
            have cc' : D4.cell? ⟨D0.heap.size, 0 + v2.toNat, none⟩ = some (sevenV v2.toNat) := by rw [Nat.zero_add]; exact cc
            obtain ⟨kk, hkk⟩ := seven_int v2.toNat
            rw [hkk] at cc cc'
            go_simp
            clear cc cc'
            refine hK.out _ _ ⟨_, K4, R4⟩ (fun hHeld => ?_)
            clear hK K
            try simp only [List.getElem_toArray, List.getElem_cons_succ, List.getElem_cons_zero, Act.put, List.setIfInBounds_toArray, List.set_cons_zero, List.set_cons_succ]
            refine wpAnyH_take (i := 9) (v := ?v24) rfl (by kernel_rfl) (by kernel_rfl) (by kernel_rfl) (fun _ _ _ h => h) (Or.inl ⟨by rfl, ?y24⟩) (by assumption) ?z24
            case y24 => (intro w hSw; go_simp; first | done | with_reducible rfl)
            try simp only [List.getElem_toArray, List.getElem_cons_succ, List.getElem_cons_zero, Act.put, List.setIfInBounds_toArray, List.set_cons_zero, List.set_cons_succ]
            refine wpAnyH_take (i := 10) (v := ?v25) rfl (by kernel_rfl) (by kernel_rfl) (by kernel_rfl) (fun _ _ _ h => h) (Or.inl ⟨by rfl, ?y25⟩) (by assumption) ?z25
            case y25 => (intro w hSw; go_simp; first | done | with_reducible rfl)
            try simp only [List.getElem_toArray, List.getElem_cons_succ, List.getElem_cons_zero, Act.put, List.setIfInBounds_toArray, List.set_cons_zero, List.set_cons_succ]
            refine wpAnyH_ready (rs := [12]) (by kernel_rfl) (by simp) ?_
            refine AllReadyH.cons rfl (fun K hK => ?_) AllReadyH.nil
            have PC0 := BX4.cell (i := 0) (by omega)
            have PC1 := BX4.cell (i := 1) (by omega)
            have PC2 := BX4.cell (i := 2) (by omega)
            have PC3 := BX4.cell (i := 3) (by omega)
            have PF0 := BX4.frozen 0
            have PF1 := BX4.frozen 1
            have PF2 := BX4.frozen 2
            have PF3 := BX4.frozen 3
            have HSE : ∀ x0 x1 x2 x3 : Value, DdS n W a len cap zs ((((D4.setCell ⟨D2.heap.size, 0, none⟩ x0).setCell ⟨D2.heap.size, 1, none⟩ x1).setCell ⟨D2.heap.size, 2, none⟩ x2).setCell ⟨D2.heap.size, 3, none⟩ x3) := fun x0 x1 x2 x3 => ⟨_, K4.setNew4 GBX x0 x1 x2 x3, R4.setFar4 (by have := R4.lt; omega) x0 x1 x2 x3⟩
            go_simp
            refine hK.out _ _ (HSE _ _ _ _) (fun hHeld => ?_)
            clear hK K
            try simp only [List.getElem_toArray, List.getElem_cons_succ, List.getElem_cons_zero, Act.put, List.setIfInBounds_toArray, List.set_cons_zero, List.set_cons_succ]
            refine wpAnyH_done (by kernel_rfl) ?_ _
            go_wp2_with fail
            go_meet
            exact ⟨D2.heap.size, _, rfl, K4.setNew4 GBX _ _ _ _, R4.setFar4 (by have := R4.lt; omega) _ _ _ _, GBX, deed_row BX4 _ _ _ _⟩
      · go_simp
        obtain ⟨D2, hD⟩ : ∃ V : World, V = D1.alloc (.cells #[.int .i64 0, .int .i64 0, .int .i64 0, .int .i64 0] 28) := ⟨_, rfl⟩
        rw [← hD]
        have hb : Below D1.heap.size D1 D2 := by rw [hD]; exact (Below.refl _ _).alloc (Nat.le_refl _) _
        have BX2 : D2.rowIs D1.heap.size 28 4 (fun _ => .int .i64 0) := by rw [hD]; exact zero_row D1
        have NBX : D1.heap.size ≠ n := by have := R1.lt; omega
        have K2 := K1.trans (Kept.of_below hb)
        have R2 := R1.of_below hb
        have GBX : W.heap.size ≤ D1.heap.size := K1.size
        have SL2 := SL1.of_block (hb.block _ SL1.lt)
        clear hD hb
        refine hK.out _ _ ⟨_, K2, R2⟩ (fun hHeld => ?_)
        clear hK K
        try simp only [List.getElem_toArray, List.getElem_cons_succ, List.getElem_cons_zero, Act.put, List.setIfInBounds_toArray, List.set_cons_zero, List.set_cons_succ]
        refine wpAnyH_ready (rs := [2]) (by kernel_rfl) (by simp) ?_
        refine AllReadyH.cons rfl (fun K hK => ?_) AllReadyH.nil
        go_simp
        refine (pick n _ a len cap zs p 7 R2 (by omega) (by omega) (by omega)).mono ?_
        rintro e D3 ⟨v2, rfl, v20, v21, k2, R3⟩
        have K3 := K2.trans k2
        have SL3 := SL2.of_block (k2.block _ SL2.lt NSL)
        have BX3 := BX2.of_block (k2.block _ BX2.lt NBX)
        refine hK.out _ _ ⟨_, K3, R3⟩ (fun hHeld => ?_)
        clear hK K
        try simp only [List.getElem_toArray, List.getElem_cons_succ, List.getElem_cons_zero, Act.put, List.setIfInBounds_toArray, List.set_cons_zero, List.set_cons_succ]
        refine wpAnyH_take (i := 3) (v := ?v26) rfl (by kernel_rfl) (by kernel_rfl) (by kernel_rfl) (fun _ _ _ h => h) (Or.inl ⟨by rfl, ?y26⟩) (by assumption) ?z26
        case y26 => (intro w hSw; go_simp; first | done | with_reducible rfl)
        try simp only [List.getElem_toArray, List.getElem_cons_succ, List.getElem_cons_zero, Act.put, List.setIfInBounds_toArray, List.set_cons_zero, List.set_cons_succ]
        refine wpAnyH_ready (rs := [4, 6]) (by kernel_rfl) (by simp) ?_
        refine AllReadyH.cons rfl (fun K hK => ?_) (AllReadyH.cons rfl (fun K hK => ?_) AllReadyH.nil)
        · have cc := SL3.cell (i := v2.toNat) (by omega)
          have cc' : D3.cell? ⟨D0.heap.size, 0 + v2.toNat, none⟩ = some (sevenV v2.toNat) := by rw [Nat.zero_add]; exact cc
          obtain ⟨kk, hkk⟩ := seven_int v2.toNat
          rw [hkk] at cc cc'
          go_simp
          clear cc cc'
          refine hK.out _ _ ⟨_, K3, R3⟩ (fun hHeld => ?_)
          clear hK K
          try simp only [List.getElem_toArray, List.getElem_cons_succ, List.getElem_cons_zero, Act.put, List.setIfInBounds_toArray, List.set_cons_zero, List.set_cons_succ]
          refine wpAnyH_ready (rs := [6]) (by kernel_rfl) (by simp) ?_
          refine AllReadyH.cons rfl (fun K hK => ?_) AllReadyH.nil
          go_simp
          refine (pick n _ a len cap zs (p + 1) 60 R3 (by omega) (by omega) (by omega)).mono ?_
          rintro e D4 ⟨v6, rfl, v60, v61, k6, R4⟩
          have K4 := K3.trans k6
          have SL4 := SL3.of_block (k6.block _ SL3.lt NSL)
          have BX4 := BX3.of_block (k6.block _ BX3.lt NBX)
          refine hK.out _ _ ⟨_, K4, R4⟩ (fun hHeld => ?_)
          clear hK K
          try simp only [List.getElem_toArray, List.getElem_cons_succ, List.getElem_cons_zero, Act.put, List.setIfInBounds_toArray, List.set_cons_zero, List.set_cons_succ]
          refine wpAnyH_take (i := 7) (v := ?v27) rfl (by kernel_rfl) (by kernel_rfl) (by kernel_rfl) (fun _ _ _ h => h) (Or.inl ⟨by rfl, ?y27⟩) (by assumption) ?z27
          case y27 => (intro w hSw; go_simp; first | done | with_reducible rfl)
          try simp only [List.getElem_toArray, List.getElem_cons_succ, List.getElem_cons_zero, Act.put, List.setIfInBounds_toArray, List.set_cons_zero, List.set_cons_succ]
          refine wpAnyH_take (i := 8) (v := ?v28) rfl (by kernel_rfl) (by kernel_rfl) (by kernel_rfl) (fun _ _ _ h => h) (Or.inl ⟨by rfl, ?y28⟩) (by assumption) ?z28
          case y28 => (intro w hSw; go_simp; first | done | with_reducible rfl)
          try simp only [List.getElem_toArray, List.getElem_cons_succ, List.getElem_cons_zero, Act.put, List.setIfInBounds_toArray, List.set_cons_zero, List.set_cons_succ]
          refine wpAnyH_take (i := 9) (v := ?v29) rfl (by kernel_rfl) (by kernel_rfl) (by kernel_rfl) (fun _ _ _ h => h) (Or.inl ⟨by rfl, ?y29⟩) (by assumption) ?z29
          case y29 => (intro w hSw; go_simp; first | done | with_reducible rfl)
          try simp only [List.getElem_toArray, List.getElem_cons_succ, List.getElem_cons_zero, Act.put, List.setIfInBounds_toArray, List.set_cons_zero, List.set_cons_succ]
          refine wpAnyH_take (i := 10) (v := ?v30) rfl (by kernel_rfl) (by kernel_rfl) (by kernel_rfl) (fun _ _ _ h => h) (Or.inl ⟨by rfl, ?y30⟩) (by assumption) ?z30
          case y30 => (intro w hSw; go_simp; first | done | with_reducible rfl)
          try simp only [List.getElem_toArray, List.getElem_cons_succ, List.getElem_cons_zero, Act.put, List.setIfInBounds_toArray, List.set_cons_zero, List.set_cons_succ]
          refine wpAnyH_ready (rs := [12]) (by kernel_rfl) (by simp) ?_
          refine AllReadyH.cons rfl (fun K hK => ?_) AllReadyH.nil
          have PC0 := BX4.cell (i := 0) (by omega)
          have PC1 := BX4.cell (i := 1) (by omega)
          have PC2 := BX4.cell (i := 2) (by omega)
          have PC3 := BX4.cell (i := 3) (by omega)
          have PF0 := BX4.frozen 0
          have PF1 := BX4.frozen 1
          have PF2 := BX4.frozen 2
          have PF3 := BX4.frozen 3
          have HSE : ∀ x0 x1 x2 x3 : Value, DdS n W a len cap zs ((((D4.setCell ⟨D1.heap.size, 0, none⟩ x0).setCell ⟨D1.heap.size, 1, none⟩ x1).setCell ⟨D1.heap.size, 2, none⟩ x2).setCell ⟨D1.heap.size, 3, none⟩ x3) := fun x0 x1 x2 x3 => ⟨_, K4.setNew4 GBX x0 x1 x2 x3, R4.setFar4 (by have := R4.lt; omega) x0 x1 x2 x3⟩
          go_simp
          refine hK.out _ _ (HSE _ _ _ _) (fun hHeld => ?_)
          clear hK K
          try simp only [List.getElem_toArray, List.getElem_cons_succ, List.getElem_cons_zero, Act.put, List.setIfInBounds_toArray, List.set_cons_zero, List.set_cons_succ]
          refine wpAnyH_done (by kernel_rfl) ?_ _
          go_wp2_with fail
          go_meet
          exact ⟨D1.heap.size, _, rfl, K4.setNew4 GBX _ _ _ _, R4.setFar4 (by have := R4.lt; omega) _ _ _ _, GBX, deed_row BX4 _ _ _ _⟩
        · go_simp
          refine (pick n _ a len cap zs (p + 1) 60 R3 (by omega) (by omega) (by omega)).mono ?_
          rintro e D4 ⟨v6, rfl, v60, v61, k6, R4⟩
          have K4 := K3.trans k6
          have SL4 := SL3.of_block (k6.block _ SL3.lt NSL)
          have BX4 := BX3.of_block (k6.block _ BX3.lt NBX)
          refine hK.out _ _ ⟨_, K4, R4⟩ (fun hHeld => ?_)
          clear hK K
          try simp only [List.getElem_toArray, List.getElem_cons_succ, List.getElem_cons_zero, Act.put, List.setIfInBounds_toArray, List.set_cons_zero, List.set_cons_succ]
          refine wpAnyH_take (i := 7) (v := ?v31) rfl (by kernel_rfl) (by kernel_rfl) (by kernel_rfl) (fun _ _ _ h => h) (Or.inl ⟨by rfl, ?y31⟩) (by assumption) ?z31
          case y31 => (intro w hSw; go_simp; first | done | with_reducible rfl)
          try simp only [List.getElem_toArray, List.getElem_cons_succ, List.getElem_cons_zero, Act.put, List.setIfInBounds_toArray, List.set_cons_zero, List.set_cons_succ]
          refine wpAnyH_take (i := 8) (v := ?v32) rfl (by kernel_rfl) (by kernel_rfl) (by kernel_rfl) (fun _ _ _ h => h) (Or.inl ⟨by rfl, ?y32⟩) (by assumption) ?z32
          case y32 => (intro w hSw; go_simp; first | done | with_reducible rfl)
          try simp only [List.getElem_toArray, List.getElem_cons_succ, List.getElem_cons_zero, Act.put, List.setIfInBounds_toArray, List.set_cons_zero, List.set_cons_succ]
          refine wpAnyH_ready (rs := [4]) (by kernel_rfl) (by simp) ?_
          refine AllReadyH.cons rfl (fun K hK => ?_) AllReadyH.nil
          have cc := SL4.cell (i := v2.toNat) (by omega)
          have cc' : D4.cell? ⟨D0.heap.size, 0 + v2.toNat, none⟩ = some (sevenV v2.toNat) := by rw [Nat.zero_add]; exact cc
          obtain ⟨kk, hkk⟩ := seven_int v2.toNat
          rw [hkk] at cc cc'
          go_simp
          clear cc cc'
          refine hK.out _ _ ⟨_, K4, R4⟩ (fun hHeld => ?_)
          clear hK K
          try simp only [List.getElem_toArray, List.getElem_cons_succ, List.getElem_cons_zero, Act.put, List.setIfInBounds_toArray, List.set_cons_zero, List.set_cons_succ]
          refine wpAnyH_take (i := 9) (v := ?v33) rfl (by kernel_rfl) (by kernel_rfl) (by kernel_rfl) (fun _ _ _ h => h) (Or.inl ⟨by rfl, ?y33⟩) (by assumption) ?z33
          case y33 => (intro w hSw; go_simp; first | done | with_reducible rfl)
          try simp only [List.getElem_toArray, List.getElem_cons_succ, List.getElem_cons_zero, Act.put, List.setIfInBounds_toArray, List.set_cons_zero, List.set_cons_succ]
          refine wpAnyH_take (i := 10) (v := ?v34) rfl (by kernel_rfl) (by kernel_rfl) (by kernel_rfl) (fun _ _ _ h => h) (Or.inl ⟨by rfl, ?y34⟩) (by assumption) ?z34
          case y34 => (intro w hSw; go_simp; first | done | with_reducible rfl)
          try simp only [List.getElem_toArray, List.getElem_cons_succ, List.getElem_cons_zero, Act.put, List.setIfInBounds_toArray, List.set_cons_zero, List.set_cons_succ]
          refine wpAnyH_ready (rs := [12]) (by kernel_rfl) (by simp) ?_
          refine AllReadyH.cons rfl (fun K hK => ?_) AllReadyH.nil
          have PC0 := BX4.cell (i := 0) (by omega)
          have PC1 := BX4.cell (i := 1) (by omega)
          have PC2 := BX4.cell (i := 2) (by omega)
          have PC3 := BX4.cell (i := 3) (by omega)
          have PF0 := BX4.frozen 0
          have PF1 := BX4.frozen 1
          have PF2 := BX4.frozen 2
          have PF3 := BX4.frozen 3
          have HSE : ∀ x0 x1 x2 x3 : Value, DdS n W a len cap zs ((((D4.setCell ⟨D1.heap.size, 0, none⟩ x0).setCell ⟨D1.heap.size, 1, none⟩ x1).setCell ⟨D1.heap.size, 2, none⟩ x2).setCell ⟨D1.heap.size, 3, none⟩ x3) := fun x0 x1 x2 x3 => ⟨_, K4.setNew4 GBX x0 x1 x2 x3, R4.setFar4 (by have := R4.lt; omega) x0 x1 x2 x3⟩
          go_simp
          refine hK.out _ _ (HSE _ _ _ _) (fun hHeld => ?_)
          clear hK K
          try simp only [List.getElem_toArray, List.getElem_cons_succ, List.getElem_cons_zero, Act.put, List.setIfInBounds_toArray, List.set_cons_zero, List.set_cons_succ]
          refine wpAnyH_done (by kernel_rfl) ?_ _
          go_wp2_with fail
          go_meet
          exact ⟨D1.heap.size, _, rfl, K4.setNew4 GBX _ _ _ _, R4.setFar4 (by have := R4.lt; omega) _ _ _ _, GBX, deed_row BX4 _ _ _ _⟩
    · go_simp
      refine (pick n _ a len cap zs p 7 R0 (by omega) (by omega) (by omega)).mono ?_
      rintro e D1 ⟨v2, rfl, v20, v21, k2, R1⟩
      have K1 := K0.trans k2
      refine hK.out _ _ ⟨_, K1, R1⟩ (fun hHeld => ?_)
      clear hK K
      try simp only [List.getElem_toArray, List.getElem_cons_succ, List.getElem_cons_zero, Act.put, List.setIfInBounds_toArray, List.set_cons_zero, List.set_cons_succ]
      refine wpAnyH_ready (rs := [0, 6, 11]) (by kernel_rfl) (by simp) ?_
      refine AllReadyH.cons rfl (fun K hK => ?_) (AllReadyH.cons rfl (fun K hK => ?_) (AllReadyH.cons rfl (fun K hK => ?_) AllReadyH.nil))
      · go_simp
        obtain ⟨D2, hD⟩ : ∃ V : World, V = D1.alloc (.cells #[.int .i64 0, .int .i64 0, .int .i64 0, .int .i64 1, .int .i64 2, .int .i64 3, .int .i64 4] 3) := ⟨_, rfl⟩
        rw [← hD]
        have hb : Below D1.heap.size D1 D2 := by rw [hD]; exact (Below.refl _ _).alloc (Nat.le_refl _) _
        have SL2 : D2.rowIs D1.heap.size 3 7 sevenV := by rw [hD]; exact seven_row D1
        have NSL : D1.heap.size ≠ n := by have := R1.lt; omega
        have K2 := K1.trans (Kept.of_below hb)
        have R2 := R1.of_below hb
        have GSL : W.heap.size ≤ D1.heap.size := K1.size
        clear hD hb
        refine hK.out _ _ ⟨_, K2, R2⟩ (fun hHeld => ?_)
        clear hK K
        try simp only [List.getElem_toArray, List.getElem_cons_succ, List.getElem_cons_zero, Act.put, List.setIfInBounds_toArray, List.set_cons_zero, List.set_cons_succ]
        refine wpAnyH_take (i := 3) (v := ?v35) rfl (by kernel_rfl) (by kernel_rfl) (by kernel_rfl) (fun _ _ _ h => h) (Or.inl ⟨by rfl, ?y35⟩) (by assumption) ?z35
        case y35 => (intro w hSw; go_simp; first | done | with_reducible rfl)
        try simp only [List.getElem_toArray, List.getElem_cons_succ, List.getElem_cons_zero, Act.put, List.setIfInBounds_toArray, List.set_cons_zero, List.set_cons_succ]
        refine wpAnyH_ready (rs := [4, 6, 11]) (by kernel_rfl) (by simp) ?_
        refine AllReadyH.cons rfl (fun K hK => ?_) (AllReadyH.cons rfl (fun K hK => ?_) (AllReadyH.cons rfl (fun K hK => ?_) AllReadyH.nil))
        · have cc := SL2.cell (i := v2.toNat) (by omega)
          have cc' : D2.cell? ⟨D1.heap.size, 0 + v2.toNat, none⟩ = some (sevenV v2.toNat) := by rw [Nat.zero_add]; exact cc
          obtain ⟨kk, hkk⟩ := seven_int v2.toNat
          rw [hkk] at cc cc'
          go_simp
          clear cc cc'
          refine hK.out _ _ ⟨_, K2, R2⟩ (fun hHeld => ?_)
          clear hK K
          try simp only [List.getElem_toArray, List.getElem_cons_succ, List.getElem_cons_zero, Act.put, List.setIfInBounds_toArray, List.set_cons_zero, List.set_cons_succ]
          refine wpAnyH_ready (rs := [6, 11]) (by kernel_rfl) (by simp) ?_
          refine AllReadyH.cons rfl (fun K hK => ?_) (AllReadyH.cons rfl (fun K hK => ?_) AllReadyH.nil)
          · go_simp
            refine (pick n _ a len cap zs (p + 1) 60 R2 (by omega) (by omega) (by omega)).mono ?_
            rintro e D3 ⟨v6, rfl, v60, v61, k6, R3⟩
            have K3 := K2.trans k6
            have SL3 := SL2.of_block (k6.block _ SL2.lt NSL)
            refine hK.out _ _ ⟨_, K3, R3⟩ (fun hHeld => ?_)
            clear hK K
            try simp only [List.getElem_toArray, List.getElem_cons_succ, List.getElem_cons_zero, Act.put, List.setIfInBounds_toArray, List.set_cons_zero, List.set_cons_succ]
            refine wpAnyH_take (i := 7) (v := ?v36) rfl (by kernel_rfl) (by kernel_rfl) (by kernel_rfl) (fun _ _ _ h => h) (Or.inl ⟨by rfl, ?y36⟩) (by assumption) ?z36
            case y36 => (intro w hSw; go_simp; first | done | with_reducible rfl)
            try simp only [List.getElem_toArray, List.getElem_cons_succ, List.getElem_cons_zero, Act.put, List.setIfInBounds_toArray, List.set_cons_zero, List.set_cons_succ]
            refine wpAnyH_take (i := 8) (v := ?v37) rfl (by kernel_rfl) (by kernel_rfl) (by kernel_rfl) (fun _ _ _ h => h) (Or.inl ⟨by rfl, ?y37⟩) (by assumption) ?z37
            case y37 => (intro w hSw; go_simp; first | done | with_reducible rfl)
            try simp only [List.getElem_toArray, List.getElem_cons_succ, List.getElem_cons_zero, Act.put, List.setIfInBounds_toArray, List.set_cons_zero, List.set_cons_succ]
            refine wpAnyH_take (i := 9) (v := ?v38) rfl (by kernel_rfl) (by kernel_rfl) (by kernel_rfl) (fun _ _ _ h => h) (Or.inl ⟨by rfl, ?y38⟩) (by assumption) ?z38
            case y38 => (intro w hSw; go_simp; first | done | with_reducible rfl)
            try simp only [List.getElem_toArray, List.getElem_cons_succ, List.getElem_cons_zero, Act.put, List.setIfInBounds_toArray, List.set_cons_zero, List.set_cons_succ]
            refine wpAnyH_take (i := 10) (v := ?v39) rfl (by kernel_rfl) (by kernel_rfl) (by kernel_rfl) (fun _ _ _ h => h) (Or.inl ⟨by rfl, ?y39⟩) (by assumption) ?z39
            case y39 => (intro w hSw; go_simp; first | done | with_reducible rfl)
            try simp only [List.getElem_toArray, List.getElem_cons_succ, List.getElem_cons_zero, Act.put, List.setIfInBounds_toArray, List.set_cons_zero, List.set_cons_succ]
            refine wpAnyH_ready (rs := [11]) (by kernel_rfl) (by simp) ?_
            refine AllReadyH.cons rfl (fun K hK => ?_) AllReadyH.nil
            go_simp
            obtain ⟨D4, hD⟩ : ∃ V : World, V = D3.alloc (.cells #[.int .i64 0, .int .i64 0, .int .i64 0, .int .i64 0] 28) := ⟨_, rfl⟩
            rw [← hD]
            have hb : Below D3.heap.size D3 D4 := by rw [hD]; exact (Below.refl _ _).alloc (Nat.le_refl _) _
            have BX4 : D4.rowIs D3.heap.size 28 4 (fun _ => .int .i64 0) := by rw [hD]; exact zero_row D3
            have NBX : D3.heap.size ≠ n := by have := R3.lt; omega
            have K4 := K3.trans (Kept.of_below hb)
            have R4 := R3.of_below hb
            have GBX : W.heap.size ≤ D3.heap.size := K3.size
            have SL4 := SL3.of_block (hb.block _ SL3.lt)
            clear hD hb
            refine hK.out _ _ ⟨_, K4, R4⟩ (fun hHeld => ?_)
            clear hK K
            try simp only [List.getElem_toArray, List.getElem_cons_succ, List.getElem_cons_zero, Act.put, List.setIfInBounds_toArray, List.set_cons_zero, List.set_cons_succ]
            refine wpAnyH_ready (rs := [12]) (by kernel_rfl) (by simp) ?_
            refine AllReadyH.cons rfl (fun K hK => ?_) AllReadyH.nil
            have PC0 := BX4.cell (i := 0) (by omega)
            have PC1 := BX4.cell (i := 1) (by omega)
            have PC2 := BX4.cell (i := 2) (by omega)
            have PC3 := BX4.cell (i := 3) (by omega)
            have PF0 := BX4.frozen 0
            have PF1 := BX4.frozen 1
            have PF2 := BX4.frozen 2
            have PF3 := BX4.frozen 3
            have HSE : ∀ x0 x1 x2 x3 : Value, DdS n W a len cap zs ((((D4.setCell ⟨D3.heap.size, 0, none⟩ x0).setCell ⟨D3.heap.size, 1, none⟩ x1).setCell ⟨D3.heap.size, 2, none⟩ x2).setCell ⟨D3.heap.size, 3, none⟩ x3) := fun x0 x1 x2 x3 => ⟨_, K4.setNew4 GBX x0 x1 x2 x3, R4.setFar4 (by have := R4.lt; omega) x0 x1 x2 x3⟩
            go_simp
            refine hK.out _ _ (HSE _ _ _ _) (fun hHeld => ?_)
            clear hK K
            try simp only [List.getElem_toArray, List.getElem_cons_succ, List.getElem_cons_zero, Act.put, List.setIfInBounds_toArray, List.set_cons_zero, List.set_cons_succ]
            refine wpAnyH_done (by kernel_rfl) ?_ _
            go_wp2_with fail
            go_meet
            exact ⟨D3.heap.size, _, rfl, K4.setNew4 GBX _ _ _ _, R4.setFar4 (by have := R4.lt; omega) _ _ _ _, GBX, deed_row BX4 _ _ _ _⟩
          · go_simp
            obtain ⟨D3, hD⟩ : ∃ V : World, V = D2.alloc (.cells #[.int .i64 0, .int .i64 0, .int .i64 0, .int .i64 0] 28) := ⟨_, rfl⟩
            rw [← hD]
            have hb : Below D2.heap.size D2 D3 := by rw [hD]; exact (Below.refl _ _).alloc (Nat.le_refl _) _
            have BX3 : D3.rowIs D2.heap.size 28 4 (fun _ => .int .i64 0) := by rw [hD]; exact zero_row D2
            have NBX : D2.heap.size ≠ n := by have := R2.lt; omega
            have K3 := K2.trans (Kept.of_below hb)
            have R3 := R2.of_below hb
            have GBX : W.heap.size ≤ D2.heap.size := K2.size
            have SL3 := SL2.of_block (hb.block _ SL2.lt)
            clear hD hb
            refine hK.out _ _ ⟨_, K3, R3⟩ (fun hHeld => ?_)
            clear hK K
            try simp only [List.getElem_toArray, List.getElem_cons_succ, List.getElem_cons_zero, Act.put, List.setIfInBounds_toArray, List.set_cons_zero, List.set_cons_succ]
            refine wpAnyH_ready (rs := [6]) (by kernel_rfl) (by simp) ?_
            refine AllReadyH.cons rfl (fun K hK => ?_) AllReadyH.nil
            go_simp
            refine (pick n _ a len cap zs (p + 1) 60 R3 (by omega) (by omega) (by omega)).mono ?_
            rintro e D4 ⟨v6, rfl, v60, v61, k6, R4⟩
            have K4 := K3.trans k6
            have SL4 := SL3.of_block (k6.block _ SL3.lt NSL)
            have BX4 := BX3.of_block (k6.block _ BX3.lt NBX)
            refine hK.out _ _ ⟨_, K4, R4⟩ (fun hHeld => ?_)
            clear hK K
            try simp only [List.getElem_toArray, List.getElem_cons_succ, List.getElem_cons_zero, Act.put, List.setIfInBounds_toArray, List.set_cons_zero, List.set_cons_succ]
            refine wpAnyH_take (i := 7) (v := ?v40) rfl (by kernel_rfl) (by kernel_rfl) (by kernel_rfl) (fun _ _ _ h => h) (Or.inl ⟨by rfl, ?y40⟩) (by assumption) ?z40
            case y40 => (intro w hSw; go_simp; first | done | with_reducible rfl)
            try simp only [List.getElem_toArray, List.getElem_cons_succ, List.getElem_cons_zero, Act.put, List.setIfInBounds_toArray, List.set_cons_zero, List.set_cons_succ]
            refine wpAnyH_take (i := 8) (v := ?v41) rfl (by kernel_rfl) (by kernel_rfl) (by kernel_rfl) (fun _ _ _ h => h) (Or.inl ⟨by rfl, ?y41⟩) (by assumption) ?z41
            case y41 => (intro w hSw; go_simp; first | done | with_reducible rfl)
            try simp only [List.getElem_toArray, List.getElem_cons_succ, List.getElem_cons_zero, Act.put, List.setIfInBounds_toArray, List.set_cons_zero, List.set_cons_succ]
            refine wpAnyH_take (i := 9) (v := ?v42) rfl (by kernel_rfl) (by kernel_rfl) (by kernel_rfl) (fun _ _ _ h => h) (Or.inl ⟨by rfl, ?y42⟩) (by assumption) ?z42
            case y42 => (intro w hSw; go_simp; first | done | with_reducible rfl)
            try simp only [List.getElem_toArray, List.getElem_cons_succ, List.getElem_cons_zero, Act.put, List.setIfInBounds_toArray, List.set_cons_zero, List.set_cons_succ]
            refine wpAnyH_take (i := 10) (v := ?v43) rfl (by kernel_rfl) (by kernel_rfl) (by kernel_rfl) (fun _ _ _ h => h) (Or.inl ⟨by rfl, ?y43⟩) (by assumption) ?z43
            case y43 => (intro w hSw; go_simp; first | done | with_reducible rfl)
            try simp only [List.getElem_toArray, List.getElem_cons_succ, List.getElem_cons_zero, Act.put, List.setIfInBounds_toArray, List.set_cons_zero, List.set_cons_succ]
            refine wpAnyH_ready (rs := [12]) (by kernel_rfl) (by simp) ?_
            refine AllReadyH.cons rfl (fun K hK => ?_) AllReadyH.nil
            have PC0 := BX4.cell (i := 0) (by omega)
            have PC1 := BX4.cell (i := 1) (by omega)
            have PC2 := BX4.cell (i := 2) (by omega)
            have PC3 := BX4.cell (i := 3) (by omega)
            have PF0 := BX4.frozen 0
            have PF1 := BX4.frozen 1
            have PF2 := BX4.frozen 2
            have PF3 := BX4.frozen 3
            have HSE : ∀ x0 x1 x2 x3 : Value, DdS n W a len cap zs ((((D4.setCell ⟨D2.heap.size, 0, none⟩ x0).setCell ⟨D2.heap.size, 1, none⟩ x1).setCell ⟨D2.heap.size, 2, none⟩ x2).setCell ⟨D2.heap.size, 3, none⟩ x3) := fun x0 x1 x2 x3 => ⟨_, K4.setNew4 GBX x0 x1 x2 x3, R4.setFar4 (by have := R4.lt; omega) x0 x1 x2 x3⟩
            go_simp
            refine hK.out _ _ (HSE _ _ _ _) (fun hHeld => ?_)
            clear hK K
            try simp only [List.getElem_toArray, List.getElem_cons_succ, List.getElem_cons_zero, Act.put, List.setIfInBounds_toArray, List.set_cons_zero, List.set_cons_succ]
            refine wpAnyH_done (by kernel_rfl) ?_ _
            go_wp2_with fail
            go_meet
            exact ⟨D2.heap.size, _, rfl, K4.setNew4 GBX _ _ _ _, R4.setFar4 (by have := R4.lt; omega) _ _ _ _, GBX, deed_row BX4 _ _ _ _⟩
        · go_simp
          refine (pick n _ a len cap zs (p + 1) 60 R2 (by omega) (by omega) (by omega)).mono ?_
          rintro e D3 ⟨v6, rfl, v60, v61, k6, R3⟩
          have K3 := K2.trans k6
          have SL3 := SL2.of_block (k6.block _ SL2.lt NSL)
          refine hK.out _ _ ⟨_, K3, R3⟩ (fun hHeld => ?_)
          clear hK K
          try simp only [List.getElem_toArray, List.getElem_cons_succ, List.getElem_cons_zero, Act.put, List.setIfInBounds_toArray, List.set_cons_zero, List.set_cons_succ]
          refine wpAnyH_take (i := 7) (v := ?v44) rfl (by kernel_rfl) (by kernel_rfl) (by kernel_rfl) (fun _ _ _ h => h) (Or.inl ⟨by rfl, ?y44⟩) (by assumption) ?z44
          case y44 => (intro w hSw; go_simp; first | done | with_reducible rfl)
          try simp only [List.getElem_toArray, List.getElem_cons_succ, List.getElem_cons_zero, Act.put, List.setIfInBounds_toArray, List.set_cons_zero, List.set_cons_succ]
          refine wpAnyH_take (i := 8) (v := ?v45) rfl (by kernel_rfl) (by kernel_rfl) (by kernel_rfl) (fun _ _ _ h => h) (Or.inl ⟨by rfl, ?y45⟩) (by assumption) ?z45
          case y45 => (intro w hSw; go_simp; first | done | with_reducible rfl)
          try simp only [List.getElem_toArray, List.getElem_cons_succ, List.getElem_cons_zero, Act.put, List.setIfInBounds_toArray, List.set_cons_zero, List.set_cons_succ]
          refine wpAnyH_ready (rs := [4, 11]) (by kernel_rfl) (by simp) ?_
          refine AllReadyH.cons rfl (fun K hK => ?_) (AllReadyH.cons rfl (fun K hK => ?_) AllReadyH.nil)
          · have cc := SL3.cell (i := v2.toNat) (by omega)
            have cc' : D3.cell? ⟨D1.heap.size, 0 + v2.toNat, none⟩ = some (sevenV v2.toNat) := by rw [Nat.zero_add]; exact cc
            obtain ⟨kk, hkk⟩ := seven_int v2.toNat
            rw [hkk] at cc cc'
            go_simp
            clear cc cc'
            refine hK.out _ _ ⟨_, K3, R3⟩ (fun hHeld => ?_)
            clear hK K
            try simp only [List.getElem_toArray, List.getElem_cons_succ, List.getElem_cons_zero, Act.put, List.setIfInBounds_toArray, List.set_cons_zero, List.set_cons_succ]
            refine wpAnyH_take (i := 9) (v := ?v46) rfl (by kernel_rfl) (by kernel_rfl) (by kernel_rfl) (fun _ _ _ h => h) (Or.inl ⟨by rfl, ?y46⟩) (by assumption) ?z46
            case y46 => (intro w hSw; go_simp; first | done | with_reducible rfl)
            try simp only [List.getElem_toArray, List.getElem_cons_succ, List.getElem_cons_zero, Act.put, List.setIfInBounds_toArray, List.set_cons_zero, List.set_cons_succ]
            refine wpAnyH_take (i := 10) (v := ?v47) rfl (by kernel_rfl) (by kernel_rfl) (by kernel_rfl) (fun _ _ _ h => h) (Or.inl ⟨by rfl, ?y47⟩) (by assumption) ?z47
            case y47 => (intro w hSw; go_simp; first | done | with_reducible rfl)
            try simp only [List.getElem_toArray, List.getElem_cons_succ, List.getElem_cons_zero, Act.put, List.setIfInBounds_toArray, List.set_cons_zero, List.set_cons_succ]
            refine wpAnyH_ready (rs := [11]) (by kernel_rfl) (by simp) ?_
            refine AllReadyH.cons rfl (fun K hK => ?_) AllReadyH.nil
            go_simp
            obtain ⟨D4, hD⟩ : ∃ V : World, V = D3.alloc (.cells #[.int .i64 0, .int .i64 0, .int .i64 0, .int .i64 0] 28) := ⟨_, rfl⟩
            rw [← hD]
            have hb : Below D3.heap.size D3 D4 := by rw [hD]; exact (Below.refl _ _).alloc (Nat.le_refl _) _
            have BX4 : D4.rowIs D3.heap.size 28 4 (fun _ => .int .i64 0) := by rw [hD]; exact zero_row D3
            have NBX : D3.heap.size ≠ n := by have := R3.lt; omega
            have K4 := K3.trans (Kept.of_below hb)
            have R4 := R3.of_below hb
            have GBX : W.heap.size ≤ D3.heap.size := K3.size
            have SL4 := SL3.of_block (hb.block _ SL3.lt)
            clear hD hb
            refine hK.out _ _ ⟨_, K4, R4⟩ (fun hHeld => ?_)
            clear hK K
            try simp only [List.getElem_toArray, List.getElem_cons_succ, List.getElem_cons_zero, Act.put, List.setIfInBounds_toArray, List.set_cons_zero, List.set_cons_succ]
            refine wpAnyH_ready (rs := [12]) (by kernel_rfl) (by simp) ?_
            refine AllReadyH.cons rfl (fun K hK => ?_) AllReadyH.nil
            have PC0 := BX4.cell (i := 0) (by omega)
            have PC1 := BX4.cell (i := 1) (by omega)
            have PC2 := BX4.cell (i := 2) (by omega)
            have PC3 := BX4.cell (i := 3) (by omega)
            have PF0 := BX4.frozen 0
            have PF1 := BX4.frozen 1
            have PF2 := BX4.frozen 2
            have PF3 := BX4.frozen 3
            have HSE : ∀ x0 x1 x2 x3 : Value, DdS n W a len cap zs ((((D4.setCell ⟨D3.heap.size, 0, none⟩ x0).setCell ⟨D3.heap.size, 1, none⟩ x1).setCell ⟨D3.heap.size, 2, none⟩ x2).setCell ⟨D3.heap.size, 3, none⟩ x3) := fun x0 x1 x2 x3 => ⟨_, K4.setNew4 GBX x0 x1 x2 x3, R4.setFar4 (by have := R4.lt; omega) x0 x1 x2 x3⟩
            go_simp
            refine hK.out _ _ (HSE _ _ _ _) (fun hHeld => ?_)
            clear hK K
            try simp only [List.getElem_toArray, List.getElem_cons_succ, List.getElem_cons_zero, Act.put, List.setIfInBounds_toArray, List.set_cons_zero, List.set_cons_succ]
            refine wpAnyH_done (by kernel_rfl) ?_ _
            go_wp2_with fail
            go_meet
            exact ⟨D3.heap.size, _, rfl, K4.setNew4 GBX _ _ _ _, R4.setFar4 (by have := R4.lt; omega) _ _ _ _, GBX, deed_row BX4 _ _ _ _⟩
          · go_simp
            obtain ⟨D4, hD⟩ : ∃ V : World, V = D3.alloc (.cells #[.int .i64 0, .int .i64 0, .int .i64 0, .int .i64 0] 28) := ⟨_, rfl⟩
            rw [← hD]
            have hb : Below D3.heap.size D3 D4 := by rw [hD]; exact (Below.refl _ _).alloc (Nat.le_refl _) _
            have BX4 : D4.rowIs D3.heap.size 28 4 (fun _ => .int .i64 0) := by rw [hD]; exact zero_row D3
            have NBX : D3.heap.size ≠ n := by have := R3.lt; omega
            have K4 := K3.trans (Kept.of_below hb)
            have R4 := R3.of_below hb
            have GBX : W.heap.size ≤ D3.heap.size := K3.size
            have SL4 := SL3.of_block (hb.block _ SL3.lt)
            clear hD hb
            refine hK.out _ _ ⟨_, K4, R4⟩ (fun hHeld => ?_)
            clear hK K
            try simp only [List.getElem_toArray, List.getElem_cons_succ, List.getElem_cons_zero, Act.put, List.setIfInBounds_toArray, List.set_cons_zero, List.set_cons_succ]
            refine wpAnyH_ready (rs := [4]) (by kernel_rfl) (by simp) ?_
            refine AllReadyH.cons rfl (fun K hK => ?_) AllReadyH.nil
            have cc := SL4.cell (i := v2.toNat) (by omega)
            have cc' : D4.cell? ⟨D1.heap.size, 0 + v2.toNat, none⟩ = some (sevenV v2.toNat) := by rw [Nat.zero_add]; exact cc
            obtain ⟨kk, hkk⟩ := seven_int v2.toNat
            rw [hkk] at cc cc'
            go_simp
            clear cc cc'
            refine hK.out _ _ ⟨_, K4, R4⟩ (fun hHeld => ?_)
            clear hK K
            try simp only [List.getElem_toArray, List.getElem_cons_succ, List.getElem_cons_zero, Act.put, List.setIfInBounds_toArray, List.set_cons_zero, List.set_cons_succ]
            refine wpAnyH_take (i := 9) (v := ?v48) rfl (by kernel_rfl) (by kernel_rfl) (by kernel_rfl) (fun _ _ _ h => h) (Or.inl ⟨by rfl, ?y48⟩) (by assumption) ?z48
            case y48 => (intro w hSw; go_simp; first | done | with_reducible rfl)
            try simp only [List.getElem_toArray, List.getElem_cons_succ, List.getElem_cons_zero, Act.put, List.setIfInBounds_toArray, List.set_cons_zero, List.set_cons_succ]
            refine wpAnyH_take (i := 10) (v := ?v49) rfl (by kernel_rfl) (by kernel_rfl) (by kernel_rfl) (fun _ _ _ h => h) (Or.inl ⟨by rfl, ?y49⟩) (by assumption) ?z49
            case y49 => (intro w hSw; go_simp; first | done | with_reducible rfl)
            try simp only [List.getElem_toArray, List.getElem_cons_succ, List.getElem_cons_zero, Act.put, List.setIfInBounds_toArray, List.set_cons_zero, List.set_cons_succ]
            refine wpAnyH_ready (rs := [12]) (by kernel_rfl) (by simp) ?_
            refine AllReadyH.cons rfl (fun K hK => ?_) AllReadyH.nil
            have PC0 := BX4.cell (i := 0) (by omega)
            have PC1 := BX4.cell (i := 1) (by omega)
            have PC2 := BX4.cell (i := 2) (by omega)
            have PC3 := BX4.cell (i := 3) (by omega)
            have PF0 := BX4.frozen 0
            have PF1 := BX4.frozen 1
            have PF2 := BX4.frozen 2
            have PF3 := BX4.frozen 3
            have HSE : ∀ x0 x1 x2 x3 : Value, DdS n W a len cap zs ((((D4.setCell ⟨D3.heap.size, 0, none⟩ x0).setCell ⟨D3.heap.size, 1, none⟩ x1).setCell ⟨D3.heap.size, 2, none⟩ x2).setCell ⟨D3.heap.size, 3, none⟩ x3) := fun x0 x1 x2 x3 => ⟨_, K4.setNew4 GBX x0 x1 x2 x3, R4.setFar4 (by have := R4.lt; omega) x0 x1 x2 x3⟩
            go_simp
            refine hK.out _ _ (HSE _ _ _ _) (fun hHeld => ?_)
            clear hK K
            try simp only [List.getElem_toArray, List.getElem_cons_succ, List.getElem_cons_zero, Act.put, List.setIfInBounds_toArray, List.set_cons_zero, List.set_cons_succ]
            refine wpAnyH_done (by kernel_rfl) ?_ _
            go_wp2_with fail
            go_meet
            exact ⟨D3.heap.size, _, rfl, K4.setNew4 GBX _ _ _ _, R4.setFar4 (by have := R4.lt; omega) _ _ _ _, GBX, deed_row BX4 _ _ _ _⟩
        · go_simp
          obtain ⟨D3, hD⟩ : ∃ V : World, V = D2.alloc (.cells #[.int .i64 0, .int .i64 0, .int .i64 0, .int .i64 0] 28) := ⟨_, rfl⟩
          rw [← hD]
          have hb : Below D2.heap.size D2 D3 := by rw [hD]; exact (Below.refl _ _).alloc (Nat.le_refl _) _
          have BX3 : D3.rowIs D2.heap.size 28 4 (fun _ => .int .i64 0) := by rw [hD]; exact zero_row D2
          have NBX : D2.heap.size ≠ n := by have := R2.lt; omega
          have K3 := K2.trans (Kept.of_below hb)
          have R3 := R2.of_below hb
          have GBX : W.heap.size ≤ D2.heap.size := K2.size
          have SL3 := SL2.of_block (hb.block _ SL2.lt)
          clear hD hb
          refine hK.out _ _ ⟨_, K3, R3⟩ (fun hHeld => ?_)
          clear hK K
          try simp only [List.getElem_toArray, List.getElem_cons_succ, List.getElem_cons_zero, Act.put, List.setIfInBounds_toArray, List.set_cons_zero, List.set_cons_succ]
          refine wpAnyH_ready (rs := [4, 6]) (by kernel_rfl) (by simp) ?_
          refine AllReadyH.cons rfl (fun K hK => ?_) (AllReadyH.cons rfl (fun K hK => ?_) AllReadyH.nil)
          · have cc := SL3.cell (i := v2.toNat) (by omega)
            have cc' : D3.cell? ⟨D1.heap.size, 0 + v2.toNat, none⟩ = some (sevenV v2.toNat) := by rw [Nat.zero_add]; exact cc
            obtain ⟨kk, hkk⟩ := seven_int v2.toNat
            rw [hkk] at cc cc'
            go_simp
            clear cc cc'
            refine hK.out _ _ ⟨_, K3, R3⟩ (fun hHeld => ?_)
            clear hK K
            try simp only [List.getElem_toArray, List.getElem_cons_succ, List.getElem_cons_zero, Act.put, List.setIfInBounds_toArray, List.set_cons_zero, List.set_cons_succ]
            refine wpAnyH_ready (rs := [6]) (by kernel_rfl) (by simp) ?_
            refine AllReadyH.cons rfl (fun K hK => ?_) AllReadyH.nil
            go_simp
            refine (pick n _ a len cap zs (p + 1) 60 R3 (by omega) (by omega) (by omega)).mono ?_
            rintro e D4 ⟨v6, rfl, v60, v61, k6, R4⟩
            have K4 := K3.trans k6
            have SL4 := SL3.of_block (k6.block _ SL3.lt NSL)
            have BX4 := BX3.of_block (k6.block _ BX3.lt NBX)
            refine hK.out _ _ ⟨_, K4, R4⟩ (fun hHeld => ?_)
            clear hK K
            try simp only [List.getElem_toArray, List.getElem_cons_succ, List.getElem_cons_zero, Act.put, List.setIfInBounds_toArray, List.set_cons_zero, List.set_cons_succ]
            refine wpAnyH_take (i := 7) (v := ?v50) rfl (by kernel_rfl) (by kernel_rfl) (by kernel_rfl) (fun _ _ _ h => h) (Or.inl ⟨by rfl, ?y50⟩) (by assumption) ?z50
            case y50 => (intro w hSw; go_simp; first | done | with_reducible rfl)
            try simp only [List.getElem_toArray, List.getElem_cons_succ, List.getElem_cons_zero, Act.put, List.setIfInBounds_toArray, List.set_cons_zero, List.set_cons_succ]
            refine wpAnyH_take (i := 8) (v := ?v51) rfl (by kernel_rfl) (by kernel_rfl) (by kernel_rfl) (fun _ _ _ h => h) (Or.inl ⟨by rfl, ?y51⟩) (by assumption) ?z51
            case y51 => (intro w hSw; go_simp; first | done | with_reducible rfl)
            try simp only [List.getElem_toArray, List.getElem_cons_succ, List.getElem_cons_zero, Act.put, List.setIfInBounds_toArray, List.set_cons_zero, List.set_cons_succ]
            refine wpAnyH_take (i := 9) (v := ?v52) rfl (by kernel_rfl) (by kernel_rfl) (by kernel_rfl) (fun _ _ _ h => h) (Or.inl ⟨by rfl, ?y52⟩) (by assumption) ?z52
            case y52 => (intro w hSw; go_simp; first | done | with_reducible rfl)
            try simp only [List.getElem_toArray, List.getElem_cons_succ, List.getElem_cons_zero, Act.put, List.setIfInBounds_toArray, List.set_cons_zero, List.set_cons_succ]
            refine wpAnyH_take (i := 10) (v := ?v53) rfl (by kernel_rfl) (by kernel_rfl) (by kernel_rfl) (fun _ _ _ h => h) (Or.inl ⟨by rfl, ?y53⟩) (by assumption) ?z53
            case y53 => (intro w hSw; go_simp; first | done | with_reducible rfl)
            try simp only [List.getElem_toArray, List.getElem_cons_succ, List.getElem_cons_zero, Act.put, List.setIfInBounds_toArray, List.set_cons_zero, List.set_cons_succ]
            refine wpAnyH_ready (rs := [12]) (by kernel_rfl) (by simp) ?_
            refine AllReadyH.cons rfl (fun K hK => ?_) AllReadyH.nil
            have PC0 := BX4.cell (i := 0) (by omega)
            have PC1 := BX4.cell (i := 1) (by omega)
            have PC2 := BX4.cell (i := 2) (by omega)
            have PC3 := BX4.cell (i := 3) (by omega)
            have PF0 := BX4.frozen 0
            have PF1 := BX4.frozen 1
            have PF2 := BX4.frozen 2
            have PF3 := BX4.frozen 3
            have HSE : ∀ x0 x1 x2 x3 : Value, DdS n W a len cap zs ((((D4.setCell ⟨D2.heap.size, 0, none⟩ x0).setCell ⟨D2.heap.size, 1, none⟩ x1).setCell ⟨D2.heap.size, 2, none⟩ x2).setCell ⟨D2.heap.size, 3, none⟩ x3) := fun x0 x1 x2 x3 => ⟨_, K4.setNew4 GBX x0 x1 x2 x3, R4.setFar4 (by have := R4.lt; omega) x0 x1 x2 x3⟩
            go_simp
            refine hK.out _ _ (HSE _ _ _ _) (fun hHeld => ?_)
            clear hK K
            try simp only [List.getElem_toArray, List.getElem_cons_succ, List.getElem_cons_zero, Act.put, List.setIfInBounds_toArray, List.set_cons_zero, List.set_cons_succ]
            refine wpAnyH_done (by kernel_rfl) ?_ _
            go_wp2_with fail
            go_meet
            exact ⟨D2.heap.size, _, rfl, K4.setNew4 GBX _ _ _ _, R4.setFar4 (by have := R4.lt; omega) _ _ _ _, GBX, deed_row BX4 _ _ _ _⟩
          · go_simp
            refine (pick n _ a len cap zs (p + 1) 60 R3 (by omega) (by omega) (by omega)).mono ?_
            rintro e D4 ⟨v6, rfl, v60, v61, k6, R4⟩
            have K4 := K3.trans k6
            have SL4 := SL3.of_block (k6.block _ SL3.lt NSL)
            have BX4 := BX3.of_block (k6.block _ BX3.lt NBX)
            refine hK.out _ _ ⟨_, K4, R4⟩ (fun hHeld => ?_)
            clear hK K
            try simp only [List.getElem_toArray, List.getElem_cons_succ, List.getElem_cons_zero, Act.put, List.setIfInBounds_toArray, List.set_cons_zero, List.set_cons_succ]
            refine wpAnyH_take (i := 7) (v := ?v54) rfl (by kernel_rfl) (by kernel_rfl) (by kernel_rfl) (fun _ _ _ h => h) (Or.inl ⟨by rfl, ?y54⟩) (by assumption) ?z54
            case y54 => (intro w hSw; go_simp; first | done | with_reducible rfl)
            try simp only [List.getElem_toArray, List.getElem_cons_succ, List.getElem_cons_zero, Act.put, List.setIfInBounds_toArray, List.set_cons_zero, List.set_cons_succ]
            refine wpAnyH_take (i := 8) (v := ?v55) rfl (by kernel_rfl) (by kernel_rfl) (by kernel_rfl) (fun _ _ _ h => h) (Or.inl ⟨by rfl, ?y55⟩) (by assumption) ?z55
            case y55 => (intro w hSw; go_simp; first | done | with_reducible rfl)
            try simp only [List.getElem_toArray, List.getElem_cons_succ, List.getElem_cons_zero, Act.put, List.setIfInBounds_toArray, List.set_cons_zero, List.set_cons_succ]
            refine wpAnyH_ready (rs := [4]) (by kernel_rfl) (by simp) ?_
            refine AllReadyH.cons rfl (fun K hK => ?_) AllReadyH.nil
            have cc := SL4.cell (i := v2.toNat) (by omega)
            have cc' : D4.cell? ⟨D1.heap.size, 0 + v2.toNat, none⟩ = some (sevenV v2.toNat) := by rw [Nat.zero_add]; exact cc
            obtain ⟨kk, hkk⟩ := seven_int v2.toNat
            rw [hkk] at cc cc'
            go_simp
            clear cc cc'
            refine hK.out _ _ ⟨_, K4, R4⟩ (fun hHeld => ?_)
            clear hK K
            try simp only [List.getElem_toArray, List.getElem_cons_succ, List.getElem_cons_zero, Act.put, List.setIfInBounds_toArray, List.set_cons_zero, List.set_cons_succ]
            refine wpAnyH_take (i := 9) (v := ?v56) rfl (by kernel_rfl) (by kernel_rfl) (by kernel_rfl) (fun _ _ _ h => h) (Or.inl ⟨by rfl, ?y56⟩) (by assumption) ?z56
            case y56 => (intro w hSw; go_simp; first | done | with_reducible rfl)
            try simp only [List.getElem_toArray, List.getElem_cons_succ, List.getElem_cons_zero, Act.put, List.setIfInBounds_toArray, List.set_cons_zero, List.set_cons_succ]
            refine wpAnyH_take (i := 10) (v := ?v57) rfl (by kernel_rfl) (by kernel_rfl) (by kernel_rfl) (fun _ _ _ h => h) (Or.inl ⟨by rfl, ?y57⟩) (by assumption) ?z57
            case y57 => (intro w hSw; go_simp; first | done | with_reducible rfl)
            try simp only [List.getElem_toArray, List.getElem_cons_succ, List.getElem_cons_zero, Act.put, List.setIfInBounds_toArray, List.set_cons_zero, List.set_cons_succ]
            refine wpAnyH_ready (rs := [12]) (by kernel_rfl) (by simp) ?_
            refine AllReadyH.cons rfl (fun K hK => ?_) AllReadyH.nil
            have PC0 := BX4.cell (i := 0) (by omega)
            have PC1 := BX4.cell (i := 1) (by omega)
            have PC2 := BX4.cell (i := 2) (by omega)
            have PC3 := BX4.cell (i := 3) (by omega)
            have PF0 := BX4.frozen 0
            have PF1 := BX4.frozen 1
            have PF2 := BX4.frozen 2
            have PF3 := BX4.frozen 3
            have HSE : ∀ x0 x1 x2 x3 : Value, DdS n W a len cap zs ((((D4.setCell ⟨D2.heap.size, 0, none⟩ x0).setCell ⟨D2.heap.size, 1, none⟩ x1).setCell ⟨D2.heap.size, 2, none⟩ x2).setCell ⟨D2.heap.size, 3, none⟩ x3) := fun x0 x1 x2 x3 => ⟨_, K4.setNew4 GBX x0 x1 x2 x3, R4.setFar4 (by have := R4.lt; omega) x0 x1 x2 x3⟩
            go_simp
            refine hK.out _ _ (HSE _ _ _ _) (fun hHeld => ?_)
            clear hK K
            try simp only [List.getElem_toArray, List.getElem_cons_succ, List.getElem_cons_zero, Act.put, List.setIfInBounds_toArray, List.set_cons_zero, List.set_cons_succ]
            refine wpAnyH_done (by kernel_rfl) ?_ _
            go_wp2_with fail
            go_meet
            exact ⟨D2.heap.size, _, rfl, K4.setNew4 GBX _ _ _ _, R4.setFar4 (by have := R4.lt; omega) _ _ _ _, GBX, deed_row BX4 _ _ _ _⟩
      · go_simp
        refine (pick n _ a len cap zs (p + 1) 60 R1 (by omega) (by omega) (by omega)).mono ?_
        rintro e D2 ⟨v6, rfl, v60, v61, k6, R2⟩
        have K2 := K1.trans k6
        refine hK.out _ _ ⟨_, K2, R2⟩ (fun hHeld => ?_)
        clear hK K
        try simp only [List.getElem_toArray, List.getElem_cons_succ, List.getElem_cons_zero, Act.put, List.setIfInBounds_toArray, List.set_cons_zero, List.set_cons_succ]
        refine wpAnyH_take (i := 7) (v := ?v58) rfl (by kernel_rfl) (by kernel_rfl) (by kernel_rfl) (fun _ _ _ h => h) (Or.inl ⟨by rfl, ?y58⟩) (by assumption) ?z58
        case y58 => (intro w hSw; go_simp; first | done | with_reducible rfl)
        try simp only [List.getElem_toArray, List.getElem_cons_succ, List.getElem_cons_zero, Act.put, List.setIfInBounds_toArray, List.set_cons_zero, List.set_cons_succ]
        refine wpAnyH_take (i := 8) (v := ?v59) rfl (by kernel_rfl) (by kernel_rfl) (by kernel_rfl) (fun _ _ _ h => h) (Or.inl ⟨by rfl, ?y59⟩) (by assumption) ?z59
        case y59 => (intro w hSw; go_simp; first | done | with_reducible rfl)
        try simp only [List.getElem_toArray, List.getElem_cons_succ, List.getElem_cons_zero, Act.put, List.setIfInBounds_toArray, List.set_cons_zero, List.set_cons_succ]
        refine wpAnyH_ready (rs := [0, 11]) (by kernel_rfl) (by simp) ?_
        refine AllReadyH.cons rfl (fun K hK => ?_) (AllReadyH.cons rfl (fun K hK => ?_) AllReadyH.nil)
        · go_simp
          obtain ⟨D3, hD⟩ : ∃ V : World, V = D2.alloc (.cells #[.int .i64 0, .int .i64 0, .int .i64 0, .int .i64 1, .int .i64 2, .int .i64 3, .int .i64 4] 3) := ⟨_, rfl⟩
          rw [← hD]
          have hb : Below D2.heap.size D2 D3 := by rw [hD]; exact (Below.refl _ _).alloc (Nat.le_refl _) _
          have SL3 : D3.rowIs D2.heap.size 3 7 sevenV := by rw [hD]; exact seven_row D2
          have NSL : D2.heap.size ≠ n := by have := R2.lt; omega
          have K3 := K2.trans (Kept.of_below hb)
          have R3 := R2.of_below hb
          have GSL : W.heap.size ≤ D2.heap.size := K2.size
          clear hD hb
          refine hK.out _ _ ⟨_, K3, R3⟩ (fun hHeld => ?_)
          clear hK K
          try simp only [List.getElem_toArray, List.getElem_cons_succ, List.getElem_cons_zero, Act.put, List.setIfInBounds_toArray, List.set_cons_zero, List.set_cons_succ]
          refine wpAnyH_take (i := 3) (v := ?v60) rfl (by kernel_rfl) (by kernel_rfl) (by kernel_rfl) (fun _ _ _ h => h) (Or.inl ⟨by rfl, ?y60⟩) (by assumption) ?z60
          case y60 => (intro w hSw; go_simp; first | done | with_reducible rfl)
          try simp only [List.getElem_toArray, List.getElem_cons_succ, List.getElem_cons_zero, Act.put, List.setIfInBounds_toArray, List.set_cons_zero, List.set_cons_succ]
          refine wpAnyH_ready (rs := [4, 11]) (by kernel_rfl) (by simp) ?_
          refine AllReadyH.cons rfl (fun K hK => ?_) (AllReadyH.cons rfl (fun K hK => ?_) AllReadyH.nil)
          · have cc := SL3.cell (i := v2.toNat) (by omega)
            have cc' : D3.cell? ⟨D2.heap.size, 0 + v2.toNat, none⟩ = some (sevenV v2.toNat) := by rw [Nat.zero_add]; exact cc
            obtain ⟨kk, hkk⟩ := seven_int v2.toNat
            rw [hkk] at cc cc'
            go_simp
            clear cc cc'
            refine hK.out _ _ ⟨_, K3, R3⟩ (fun hHeld => ?_)
            clear hK K
            try simp only [List.getElem_toArray, List.getElem_cons_succ, List.getElem_cons_zero, Act.put, List.setIfInBounds_toArray, List.set_cons_zero, List.set_cons_succ]
            refine wpAnyH_take (i := 9) (v := ?v61) rfl (by kernel_rfl) (by kernel_rfl) (by kernel_rfl) (fun _ _ _ h => h) (Or.inl ⟨by rfl, ?y61⟩) (by assumption) ?z61
            case y61 => (intro w hSw; go_simp; first | done | with_reducible rfl)
            try simp only [List.getElem_toArray, List.getElem_cons_succ, List.getElem_cons_zero, Act.put, List.setIfInBounds_toArray, List.set_cons_zero, List.set_cons_succ]
            refine wpAnyH_take (i := 10) (v := ?v62) rfl (by kernel_rfl) (by kernel_rfl) (by kernel_rfl) (fun _ _ _ h => h) (Or.inl ⟨by rfl, ?y62⟩) (by assumption) ?z62
            case y62 => (intro w hSw; go_simp; first | done | with_reducible rfl)
            try simp only [List.getElem_toArray, List.getElem_cons_succ, List.getElem_cons_zero, Act.put, List.setIfInBounds_toArray, List.set_cons_zero, List.set_cons_succ]
            refine wpAnyH_ready (rs := [11]) (by kernel_rfl) (by simp) ?_
            refine AllReadyH.cons rfl (fun K hK => ?_) AllReadyH.nil
            go_simp
            obtain ⟨D4, hD⟩ : ∃ V : World, V = D3.alloc (.cells #[.int .i64 0, .int .i64 0, .int .i64 0, .int .i64 0] 28) := ⟨_, rfl⟩
            rw [← hD]
            have hb : Below D3.heap.size D3 D4 := by rw [hD]; exact (Below.refl _ _).alloc (Nat.le_refl _) _
            have BX4 : D4.rowIs D3.heap.size 28 4 (fun _ => .int .i64 0) := by rw [hD]; exact zero_row D3
            have NBX : D3.heap.size ≠ n := by have := R3.lt; omega
            have K4 := K3.trans (Kept.of_below hb)
            have R4 := R3.of_below hb
            have GBX : W.heap.size ≤ D3.heap.size := K3.size
            have SL4 := SL3.of_block (hb.block _ SL3.lt)
            clear hD hb
            refine hK.out _ _ ⟨_, K4, R4⟩ (fun hHeld => ?_)
            clear hK K
            try simp only [List.getElem_toArray, List.getElem_cons_succ, List.getElem_cons_zero, Act.put, List.setIfInBounds_toArray, List.set_cons_zero, List.set_cons_succ]
            refine wpAnyH_ready (rs := [12]) (by kernel_rfl) (by simp) ?_
            refine AllReadyH.cons rfl (fun K hK => ?_) AllReadyH.nil
            have PC0 := BX4.cell (i := 0) (by omega)
            have PC1 := BX4.cell (i := 1) (by omega)
            have PC2 := BX4.cell (i := 2) (by omega)
            have PC3 := BX4.cell (i := 3) (by omega)
            have PF0 := BX4.frozen 0
            have PF1 := BX4.frozen 1
            have PF2 := BX4.frozen 2
            have PF3 := BX4.frozen 3
            have HSE : ∀ x0 x1 x2 x3 : Value, DdS n W a len cap zs ((((D4.setCell ⟨D3.heap.size, 0, none⟩ x0).setCell ⟨D3.heap.size, 1, none⟩ x1).setCell ⟨D3.heap.size, 2, none⟩ x2).setCell ⟨D3.heap.size, 3, none⟩ x3) := fun x0 x1 x2 x3 => ⟨_, K4.setNew4 GBX x0 x1 x2 x3, R4.setFar4 (by have := R4.lt; omega) x0 x1 x2 x3⟩
            go_simp
            refine hK.out _ _ (HSE _ _ _ _) (fun hHeld => ?_)
            clear hK K
            try simp only [List.getElem_toArray, List.getElem_cons_succ, List.getElem_cons_zero, Act.put, List.setIfInBounds_toArray, List.set_cons_zero, List.set_cons_succ]
            refine wpAnyH_done (by kernel_rfl) ?_ _
            go_wp2_with fail
            go_meet
            exact ⟨D3.heap.size, _, rfl, K4.setNew4 GBX _ _ _ _, R4.setFar4 (by have := R4.lt; omega) _ _ _ _, GBX, deed_row BX4 _ _ _ _⟩
          · go_simp
            obtain ⟨D4, hD⟩ : ∃ V : World, V = D3.alloc (.cells #[.int .i64 0, .int .i64 0, .int .i64 0, .int .i64 0] 28) := ⟨_, rfl⟩
            rw [← hD]
            have hb : Below D3.heap.size D3 D4 := by rw [hD]; exact (Below.refl _ _).alloc (Nat.le_refl _) _
            have BX4 : D4.rowIs D3.heap.size 28 4 (fun _ => .int .i64 0) := by rw [hD]; exact zero_row D3
            have NBX : D3.heap.size ≠ n := by have := R3.lt; omega
            have K4 := K3.trans (Kept.of_below hb)
            have R4 := R3.of_below hb
            have GBX : W.heap.size ≤ D3.heap.size := K3.size
            have SL4 := SL3.of_block (hb.block _ SL3.lt)
            clear hD hb
            refine hK.out _ _ ⟨_, K4, R4⟩ (fun hHeld => ?_)
            clear hK K
            try simp only [List.getElem_toArray, List.getElem_cons_succ, List.getElem_cons_zero, Act.put, List.setIfInBounds_toArray, List.set_cons_zero, List.set_cons_succ]
            refine wpAnyH_ready (rs := [4]) (by kernel_rfl) (by simp) ?_
            refine AllReadyH.cons rfl (fun K hK => ?_) AllReadyH.nil
            have cc := SL4.cell (i := v2.toNat) (by omega)
            have cc' : D4.cell? ⟨D2.heap.size, 0 + v2.toNat, none⟩ = some (sevenV v2.toNat) := by rw [Nat.zero_add]; exact cc
            obtain ⟨kk, hkk⟩ := seven_int v2.toNat
            rw [hkk] at cc cc'
            go_simp
            clear cc cc'
            refine hK.out _ _ ⟨_, K4, R4⟩ (fun hHeld => ?_)
            clear hK K
            try simp only [List.getElem_toArray, List.getElem_cons_succ, List.getElem_cons_zero, Act.put, List.setIfInBounds_toArray, List.set_cons_zero, List.set_cons_succ]
            refine wpAnyH_take (i := 9) (v := ?v63) rfl (by kernel_rfl) (by kernel_rfl) (by kernel_rfl) (fun _ _ _ h => h) (Or.inl ⟨by rfl, ?y63⟩) (by assumption) ?z63
            case y63 => (intro w hSw; go_simp; first | done | with_reducible rfl)
            try simp only [List.getElem_toArray, List.getElem_cons_succ, List.getElem_cons_zero, Act.put, List.setIfInBounds_toArray, List.set_cons_zero, List.set_cons_succ]
            refine wpAnyH_take (i := 10) (v := ?v64) rfl (by kernel_rfl) (by kernel_rfl) (by kernel_rfl) (fun _ _ _ h => h) (Or.inl ⟨by rfl, ?y64⟩) (by assumption) ?z64
            case y64 => (intro w hSw; go_simp; first | done | with_reducible rfl)
            try simp only [List.getElem_toArray, List.getElem_cons_succ, List.getElem_cons_zero, Act.put, List.setIfInBounds_toArray, List.set_cons_zero, List.set_cons_succ]
            refine wpAnyH_ready (rs := [12]) (by kernel_rfl) (by simp) ?_
            refine AllReadyH.cons rfl (fun K hK => ?_) AllReadyH.nil
            have PC0 := BX4.cell (i := 0) (by omega)
            have PC1 := BX4.cell (i := 1) (by omega)
            have PC2 := BX4.cell (i := 2) (by omega)
            have PC3 := BX4.cell (i := 3) (by omega)
            have PF0 := BX4.frozen 0
            have PF1 := BX4.frozen 1
            have PF2 := BX4.frozen 2
            have PF3 := BX4.frozen 3
            have HSE : ∀ x0 x1 x2 x3 : Value, DdS n W a len cap zs ((((D4.setCell ⟨D3.heap.size, 0, none⟩ x0).setCell ⟨D3.heap.size, 1, none⟩ x1).setCell ⟨D3.heap.size, 2, none⟩ x2).setCell ⟨D3.heap.size, 3, none⟩ x3) := fun x0 x1 x2 x3 => ⟨_, K4.setNew4 GBX x0 x1 x2 x3, R4.setFar4 (by have := R4.lt; omega) x0 x1 x2 x3⟩
            go_simp
            refine hK.out _ _ (HSE _ _ _ _) (fun hHeld => ?_)
            clear hK K
            try simp only [List.getElem_toArray, List.getElem_cons_succ, List.getElem_cons_zero, Act.put, List.setIfInBounds_toArray, List.set_cons_zero, List.set_cons_succ]
            refine wpAnyH_done (by kernel_rfl) ?_ _
            go_wp2_with fail
            go_meet
            exact ⟨D3.heap.size, _, rfl, K4.setNew4 GBX _ _ _ _, R4.setFar4 (by have := R4.lt; omega) _ _ _ _, GBX, deed_row BX4 _ _ _ _⟩
        · go_simp
          obtain ⟨D3, hD⟩ : ∃ V : World, V = D2.alloc (.cells #[.int .i64 0, .int .i64 0, .int .i64 0, .int .i64 0] 28) := ⟨_, rfl⟩
          rw [← hD]
          have hb : Below D2.heap.size D2 D3 := by rw [hD]; exact (Below.refl _ _).alloc (Nat.le_refl _) _
          have BX3 : D3.rowIs D2.heap.size 28 4 (fun _ => .int .i64 0) := by rw [hD]; exact zero_row D2
          have NBX : D2.heap.size ≠ n := by have := R2.lt; omega
          have K3 := K2.trans (Kept.of_below hb)
          have R3 := R2.of_below hb
          have GBX : W.heap.size ≤ D2.heap.size := K2.size
          clear hD hb
          refine hK.out _ _ ⟨_, K3, R3⟩ (fun hHeld => ?_)
          clear hK K
          try simp only [List.getElem_toArray, List.getElem_cons_succ, List.getElem_cons_zero, Act.put, List.setIfInBounds_toArray, List.set_cons_zero, List.set_cons_succ]
          refine wpAnyH_ready (rs := [0]) (by kernel_rfl) (by simp) ?_
          refine AllReadyH.cons rfl (fun K hK => ?_) AllReadyH.nil
          go_simp
          obtain ⟨D4, hD⟩ : ∃ V : World, V = D3.alloc (.cells #[.int .i64 0, .int .i64 0, .int .i64 0, .int .i64 1, .int .i64 2, .int .i64 3, .int .i64 4] 3) := ⟨_, rfl⟩
          rw [← hD]
          have hb : Below D3.heap.size D3 D4 := by rw [hD]; exact (Below.refl _ _).alloc (Nat.le_refl _) _
          have SL4 : D4.rowIs D3.heap.size 3 7 sevenV := by rw [hD]; exact seven_row D3
          have NSL : D3.heap.size ≠ n := by have := R3.lt; omega
          have K4 := K3.trans (Kept.of_below hb)
          have R4 := R3.of_below hb
          have GSL : W.heap.size ≤ D3.heap.size := K3.size
          have BX4 := BX3.of_block (hb.block _ BX3.lt)
          clear hD hb
          refine hK.out _ _ ⟨_, K4, R4⟩ (fun hHeld => ?_)
          clear hK K
          try simp only [List.getElem_toArray, List.getElem_cons_succ, List.getElem_cons_zero, Act.put, List.setIfInBounds_toArray, List.set_cons_zero, List.set_cons_succ]
          refine wpAnyH_take (i := 3) (v := ?v65) rfl (by kernel_rfl) (by kernel_rfl) (by kernel_rfl) (fun _ _ _ h => h) (Or.inl ⟨by rfl, ?y65⟩) (by assumption) ?z65
          case y65 => (intro w hSw; go_simp; first | done | with_reducible rfl)
          try simp only [List.getElem_toArray, List.getElem_cons_succ, List.getElem_cons_zero, Act.put, List.setIfInBounds_toArray, List.set_cons_zero, List.set_cons_succ]
          refine wpAnyH_ready (rs := [4]) (by kernel_rfl) (by simp) ?_
          refine AllReadyH.cons rfl (fun K hK => ?_) AllReadyH.nil
          have cc := SL4.cell (i := v2.toNat) (by omega)
          have cc' : D4.cell? ⟨D3.heap.size, 0 + v2.toNat, none⟩ = some (sevenV v2.toNat) := by rw [Nat.zero_add]; exact cc
          obtain ⟨kk, hkk⟩ := seven_int v2.toNat
          rw [hkk] at cc cc'
          go_simp
          clear cc cc'
          refine hK.out _ _ ⟨_, K4, R4⟩ (fun hHeld => ?_)
          clear hK K
          try simp only [List.getElem_toArray, List.getElem_cons_succ, List.getElem_cons_zero, Act.put, List.setIfInBounds_toArray, List.set_cons_zero, List.set_cons_succ]
          refine wpAnyH_take (i := 9) (v := ?v66) rfl (by kernel_rfl) (by kernel_rfl) (by kernel_rfl) (fun _ _ _ h => h) (Or.inl ⟨by rfl, ?y66⟩) (by assumption) ?z66
          case y66 => (intro w hSw; go_simp; first | done | with_reducible rfl)
          try simp only [List.getElem_toArray, List.getElem_cons_succ, List.getElem_cons_zero, Act.put, List.setIfInBounds_toArray, List.set_cons_zero, List.set_cons_succ]
          refine wpAnyH_take (i := 10) (v := ?v67) rfl (by kernel_rfl) (by kernel_rfl) (by kernel_rfl) (fun _ _ _ h => h) (Or.inl ⟨by rfl, ?y67⟩) (by assumption) ?z67
          case y67 => (intro w hSw; go_simp; first | done | with_reducible rfl)
          try simp only [List.getElem_toArray, List.getElem_cons_succ, List.getElem_cons_zero, Act.put, List.setIfInBounds_toArray, List.set_cons_zero, List.set_cons_succ]
          refine wpAnyH_ready (rs := [12]) (by kernel_rfl) (by simp) ?_
          refine AllReadyH.cons rfl (fun K hK => ?_) AllReadyH.nil
          have PC0 := BX4.cell (i := 0) (by omega)
          have PC1 := BX4.cell (i := 1) (by omega)
          have PC2 := BX4.cell (i := 2) (by omega)
          have PC3 := BX4.cell (i := 3) (by omega)
          have PF0 := BX4.frozen 0
          have PF1 := BX4.frozen 1
          have PF2 := BX4.frozen 2
          have PF3 := BX4.frozen 3
          have HSE : ∀ x0 x1 x2 x3 : Value, DdS n W a len cap zs ((((D4.setCell ⟨D2.heap.size, 0, none⟩ x0).setCell ⟨D2.heap.size, 1, none⟩ x1).setCell ⟨D2.heap.size, 2, none⟩ x2).setCell ⟨D2.heap.size, 3, none⟩ x3) := fun x0 x1 x2 x3 => ⟨_, K4.setNew4 GBX x0 x1 x2 x3, R4.setFar4 (by have := R4.lt; omega) x0 x1 x2 x3⟩
          go_simp
          refine hK.out _ _ (HSE _ _ _ _) (fun hHeld => ?_)
          clear hK K
          try simp only [List.getElem_toArray, List.getElem_cons_succ, List.getElem_cons_zero, Act.put, List.setIfInBounds_toArray, List.set_cons_zero, List.set_cons_succ]
          refine wpAnyH_done (by kernel_rfl) ?_ _
          go_wp2_with fail
          go_meet
          exact ⟨D2.heap.size, _, rfl, K4.setNew4 GBX _ _ _ _, R4.setFar4 (by have := R4.lt; omega) _ _ _ _, GBX, deed_row BX4 _ _ _ _⟩
      · go_simp
        obtain ⟨D2, hD⟩ : ∃ V : World, V = D1.alloc (.cells #[.int .i64 0, .int .i64 0, .int .i64 0, .int .i64 0] 28) := ⟨_, rfl⟩
        rw [← hD]
        have hb : Below D1.heap.size D1 D2 := by rw [hD]; exact (Below.refl _ _).alloc (Nat.le_refl _) _
        have BX2 : D2.rowIs D1.heap.size 28 4 (fun _ => .int .i64 0) := by rw [hD]; exact zero_row D1
        have NBX : D1.heap.size ≠ n := by have := R1.lt; omega
        have K2 := K1.trans (Kept.of_below hb)
        have R2 := R1.of_below hb
        have GBX : W.heap.size ≤ D1.heap.size := K1.size
        clear hD hb
        refine hK.out _ _ ⟨_, K2, R2⟩ (fun hHeld => ?_)
        clear hK K
        try simp only [List.getElem_toArray, List.getElem_cons_succ, List.getElem_cons_zero, Act.put, List.setIfInBounds_toArray, List.set_cons_zero, List.set_cons_succ]
        refine wpAnyH_ready (rs := [0, 6]) (by kernel_rfl) (by simp) ?_
        refine AllReadyH.cons rfl (fun K hK => ?_) (AllReadyH.cons rfl (fun K hK => ?_) AllReadyH.nil)
        · go_simp
          obtain ⟨D3, hD⟩ : ∃ V : World, V = D2.alloc (.cells #[.int .i64 0, .int .i64 0, .int .i64 0, .int .i64 1, .int .i64 2, .int .i64 3, .int .i64 4] 3) := ⟨_, rfl⟩
          rw [← hD]
          have hb : Below D2.heap.size D2 D3 := by rw [hD]; exact (Below.refl _ _).alloc (Nat.le_refl _) _
          have SL3 : D3.rowIs D2.heap.size 3 7 sevenV := by rw [hD]; exact seven_row D2
          have NSL : D2.heap.size ≠ n := by have := R2.lt; omega
          have K3 := K2.trans (Kept.of_below hb)
          have R3 := R2.of_below hb
          have GSL : W.heap.size ≤ D2.heap.size := K2.size
          have BX3 := BX2.of_block (hb.block _ BX2.lt)
          clear hD hb
          refine hK.out _ _ ⟨_, K3, R3⟩ (fun hHeld => ?_)
          clear hK K
          try simp only [List.getElem_toArray, List.getElem_cons_succ, List.getElem_cons_zero, Act.put, List.setIfInBounds_toArray, List.set_cons_zero, List.set_cons_succ]
          refine wpAnyH_take (i := 3) (v := ?v68) rfl (by kernel_rfl) (by kernel_rfl) (by kernel_rfl) (fun _ _ _ h => h) (Or.inl ⟨by rfl, ?y68⟩) (by assumption) ?z68
          case y68 => (intro w hSw; go_simp; first | done | with_reducible rfl)
          try simp only [List.getElem_toArray, List.getElem_cons_succ, List.getElem_cons_zero, Act.put, List.setIfInBounds_toArray, List.set_cons_zero, List.set_cons_succ]
          refine wpAnyH_ready (rs := [4, 6]) (by kernel_rfl) (by simp) ?_
          refine AllReadyH.cons rfl (fun K hK => ?_) (AllReadyH.cons rfl (fun K hK => ?_) AllReadyH.nil)
          · have cc := SL3.cell (i := v2.toNat) (by omega)
            have cc' : D3.cell? ⟨D2.heap.size, 0 + v2.toNat, none⟩ = some (sevenV v2.toNat) := by rw [Nat.zero_add]; exact cc
            obtain ⟨kk, hkk⟩ := seven_int v2.toNat
            rw [hkk] at cc cc'
            go_simp
            clear cc cc'
            refine hK.out _ _ ⟨_, K3, R3⟩ (fun hHeld => ?_)
            clear hK K
            try simp only [List.getElem_toArray, List.getElem_cons_succ, List.getElem_cons_zero, Act.put, List.setIfInBounds_toArray, List.set_cons_zero, List.set_cons_succ]
            refine wpAnyH_ready (rs := [6]) (by kernel_rfl) (by simp) ?_
            refine AllReadyH.cons rfl (fun K hK => ?_) AllReadyH.nil
            go_simp
            refine (pick n _ a len cap zs (p + 1) 60 R3 (by omega) (by omega) (by omega)).mono ?_
            rintro e D4 ⟨v6, rfl, v60, v61, k6, R4⟩
            have K4 := K3.trans k6
            have SL4 := SL3.of_block (k6.block _ SL3.lt NSL)
            have BX4 := BX3.of_block (k6.block _ BX3.lt NBX)
            refine hK.out _ _ ⟨_, K4, R4⟩ (fun hHeld => ?_)
            clear hK K
            try simp only [List.getElem_toArray, List.getElem_cons_succ, List.getElem_cons_zero, Act.put, List.setIfInBounds_toArray, List.set_cons_zero, List.set_cons_succ]
            refine wpAnyH_take (i := 7) (v := ?v69) rfl (by kernel_rfl) (by kernel_rfl) (by kernel_rfl) (fun _ _ _ h => h) (Or.inl ⟨by rfl, ?y69⟩) (by assumption) ?z69
            case y69 => (intro w hSw; go_simp; first | done | with_reducible rfl)
            try simp only [List.getElem_toArray, List.getElem_cons_succ, List.getElem_cons_zero, Act.put, List.setIfInBounds_toArray, List.set_cons_zero, List.set_cons_succ]
            refine wpAnyH_take (i := 8) (v := ?v70) rfl (by kernel_rfl) (by kernel_rfl) (by kernel_rfl) (fun _ _ _ h => h) (Or.inl ⟨by rfl, ?y70⟩) (by assumption) ?z70
            case y70 => (intro w hSw; go_simp; first | done | with_reducible rfl)
            try simp only [List.getElem_toArray, List.getElem_cons_succ, List.getElem_cons_zero, Act.put, List.setIfInBounds_toArray, List.set_cons_zero, List.set_cons_succ]
            refine wpAnyH_take (i := 9) (v := ?v71) rfl (by kernel_rfl) (by kernel_rfl) (by kernel_rfl) (fun _ _ _ h => h) (Or.inl ⟨by rfl, ?y71⟩) (by assumption) ?z71
            case y71 => (intro w hSw; go_simp; first | done | with_reducible rfl)
            try simp only [List.getElem_toArray, List.getElem_cons_succ, List.getElem_cons_zero, Act.put, List.setIfInBounds_toArray, List.set_cons_zero, List.set_cons_succ]
            refine wpAnyH_take (i := 10) (v := ?v72) rfl (by kernel_rfl) (by kernel_rfl) (by kernel_rfl) (fun _ _ _ h => h) (Or.inl ⟨by rfl, ?y72⟩) (by assumption) ?z72
            case y72 => (intro w hSw; go_simp; first | done | with_reducible rfl)
            try simp only [List.getElem_toArray, List.getElem_cons_succ, List.getElem_cons_zero, Act.put, List.setIfInBounds_toArray, List.set_cons_zero, List.set_cons_succ]
            refine wpAnyH_ready (rs := [12]) (by kernel_rfl) (by simp) ?_
            refine AllReadyH.cons rfl (fun K hK => ?_) AllReadyH.nil
            have PC0 := BX4.cell (i := 0) (by omega)
            have PC1 := BX4.cell (i := 1) (by omega)
            have PC2 := BX4.cell (i := 2) (by omega)
            have PC3 := BX4.cell (i := 3) (by omega)
            have PF0 := BX4.frozen 0
            have PF1 := BX4.frozen 1
            have PF2 := BX4.frozen 2
            have PF3 := BX4.frozen 3
            have HSE : ∀ x0 x1 x2 x3 : Value, DdS n W a len cap zs ((((D4.setCell ⟨D1.heap.size, 0, none⟩ x0).setCell ⟨D1.heap.size, 1, none⟩ x1).setCell ⟨D1.heap.size, 2, none⟩ x2).setCell ⟨D1.heap.size, 3, none⟩ x3) := fun x0 x1 x2 x3 => ⟨_, K4.setNew4 GBX x0 x1 x2 x3, R4.setFar4 (by have := R4.lt; omega) x0 x1 x2 x3⟩
            go_simp
            refine hK.out _ _ (HSE _ _ _ _) (fun hHeld => ?_)
            clear hK K
            try simp only [List.getElem_toArray, List.getElem_cons_succ, List.getElem_cons_zero, Act.put, List.setIfInBounds_toArray, List.set_cons_zero, List.set_cons_succ]
            refine wpAnyH_done (by kernel_rfl) ?_ _
            go_wp2_with fail
            go_meet
            exact ⟨D1.heap.size, _, rfl, K4.setNew4 GBX _ _ _ _, R4.setFar4 (by have := R4.lt; omega) _ _ _ _, GBX, deed_row BX4 _ _ _ _⟩
          · go_simp
            refine (pick n _ a len cap zs (p + 1) 60 R3 (by omega) (by omega) (by omega)).mono ?_
            rintro e D4 ⟨v6, rfl, v60, v61, k6, R4⟩
            have K4 := K3.trans k6
            have SL4 := SL3.of_block (k6.block _ SL3.lt NSL)
            have BX4 := BX3.of_block (k6.block _ BX3.lt NBX)
            refine hK.out _ _ ⟨_, K4, R4⟩ (fun hHeld => ?_)
            clear hK K
            try simp only [List.getElem_toArray, List.getElem_cons_succ, List.getElem_cons_zero, Act.put, List.setIfInBounds_toArray, List.set_cons_zero, List.set_cons_succ]
            refine wpAnyH_take (i := 7) (v := ?v73) rfl (by kernel_rfl) (by kernel_rfl) (by kernel_rfl) (fun _ _ _ h => h) (Or.inl ⟨by rfl, ?y73⟩) (by assumption) ?z73
            case y73 => (intro w hSw; go_simp; first | done | with_reducible rfl)
            try simp only [List.getElem_toArray, List.getElem_cons_succ, List.getElem_cons_zero, Act.put, List.setIfInBounds_toArray, List.set_cons_zero, List.set_cons_succ]
            refine wpAnyH_take (i := 8) (v := ?v74) rfl (by kernel_rfl) (by kernel_rfl) (by kernel_rfl) (fun _ _ _ h => h) (Or.inl ⟨by rfl, ?y74⟩) (by assumption) ?z74
            case y74 => (intro w hSw; go_simp; first | done | with_reducible rfl)
            try simp only [List.getElem_toArray, List.getElem_cons_succ, List.getElem_cons_zero, Act.put, List.setIfInBounds_toArray, List.set_cons_zero, List.set_cons_succ]
            refine wpAnyH_ready (rs := [4]) (by kernel_rfl) (by simp) ?_
            refine AllReadyH.cons rfl (fun K hK => ?_) AllReadyH.nil
            have cc := SL4.cell (i := v2.toNat) (by omega)
            have cc' : D4.cell? ⟨D2.heap.size, 0 + v2.toNat, none⟩ = some (sevenV v2.toNat) := by rw [Nat.zero_add]; exact cc
            obtain ⟨kk, hkk⟩ := seven_int v2.toNat
            rw [hkk] at cc cc'
            go_simp
            clear cc cc'
            refine hK.out _ _ ⟨_, K4, R4⟩ (fun hHeld => ?_)
            clear hK K
            try simp only [List.getElem_toArray, List.getElem_cons_succ, List.getElem_cons_zero, Act.put, List.setIfInBounds_toArray, List.set_cons_zero, List.set_cons_succ]
            refine wpAnyH_take (i := 9) (v := ?v75) rfl (by kernel_rfl) (by kernel_rfl) (by kernel_rfl) (fun _ _ _ h => h) (Or.inl ⟨by rfl, ?y75⟩) (by assumption) ?z75
            case y75 => (intro w hSw; go_simp; first | done | with_reducible rfl)
            try simp only [List.getElem_toArray, List.getElem_cons_succ, List.getElem_cons_zero, Act.put, List.setIfInBounds_toArray, List.set_cons_zero, List.set_cons_succ]
            refine wpAnyH_take (i := 10) (v := ?v76) rfl (by kernel_rfl) (by kernel_rfl) (by kernel_rfl) (fun _ _ _ h => h) (Or.inl ⟨by rfl, ?y76⟩) (by assumption) ?z76
            case y76 => (intro w hSw; go_simp; first | done | with_reducible rfl)
            try simp only [List.getElem_toArray, List.getElem_cons_succ, List.getElem_cons_zero, Act.put, List.setIfInBounds_toArray, List.set_cons_zero, List.set_cons_succ]
            refine wpAnyH_ready (rs := [12]) (by kernel_rfl) (by simp) ?_
            refine AllReadyH.cons rfl (fun K hK => ?_) AllReadyH.nil
            have PC0 := BX4.cell (i := 0) (by omega)
            have PC1 := BX4.cell (i := 1) (by omega)
            have PC2 := BX4.cell (i := 2) (by omega)
            have PC3 := BX4.cell (i := 3) (by omega)
            have PF0 := BX4.frozen 0
            have PF1 := BX4.frozen 1
            have PF2 := BX4.frozen 2
            have PF3 := BX4.frozen 3
            have HSE : ∀ x0 x1 x2 x3 : Value, DdS n W a len cap zs ((((D4.setCell ⟨D1.heap.size, 0, none⟩ x0).setCell ⟨D1.heap.size, 1, none⟩ x1).setCell ⟨D1.heap.size, 2, none⟩ x2).setCell ⟨D1.heap.size, 3, none⟩ x3) := fun x0 x1 x2 x3 => ⟨_, K4.setNew4 GBX x0 x1 x2 x3, R4.setFar4 (by have := R4.lt; omega) x0 x1 x2 x3⟩
            go_simp
            refine hK.out _ _ (HSE _ _ _ _) (fun hHeld => ?_)
            clear hK K
            try simp only [List.getElem_toArray, List.getElem_cons_succ, List.getElem_cons_zero, Act.put, List.setIfInBounds_toArray, List.set_cons_zero, List.set_cons_succ]
            refine wpAnyH_done (by kernel_rfl) ?_ _
            go_wp2_with fail
            go_meet
            exact ⟨D1.heap.size, _, rfl, K4.setNew4 GBX _ _ _ _, R4.setFar4 (by have := R4.lt; omega) _ _ _ _, GBX, deed_row BX4 _ _ _ _⟩
        · go_simp
          refine (pick n _ a len cap zs (p + 1) 60 R2 (by omega) (by omega) (by omega)).mono ?_
          rintro e D3 ⟨v6, rfl, v60, v61, k6, R3⟩
          have K3 := K2.trans k6
          have BX3 := BX2.of_block (k6.block _ BX2.lt NBX)
          refine hK.out _ _ ⟨_, K3, R3⟩ (fun hHeld => ?_)
          clear hK K
          try simp only [List.getElem_toArray, List.getElem_cons_succ, List.getElem_cons_zero, Act.put, List.setIfInBounds_toArray, List.set_cons_zero, List.set_cons_succ]
          refine wpAnyH_take (i := 7) (v := ?v77) rfl (by kernel_rfl) (by kernel_rfl) (by kernel_rfl) (fun _ _ _ h => h) (Or.inl ⟨by rfl, ?y77⟩) (by assumption) ?z77
          case y77 => (intro w hSw; go_simp; first | done | with_reducible rfl)
          try simp only [List.getElem_toArray, List.getElem_cons_succ, List.getElem_cons_zero, Act.put, List.setIfInBounds_toArray, List.set_cons_zero, List.set_cons_succ]
          refine wpAnyH_take (i := 8) (v := ?v78) rfl (by kernel_rfl) (by kernel_rfl) (by kernel_rfl) (fun _ _ _ h => h) (Or.inl ⟨by rfl, ?y78⟩) (by assumption) ?z78
          case y78 => (intro w hSw; go_simp; first | done | with_reducible rfl)
          try simp only [List.getElem_toArray, List.getElem_cons_succ, List.getElem_cons_zero, Act.put, List.setIfInBounds_toArray, List.set_cons_zero, List.set_cons_succ]
          refine wpAnyH_ready (rs := [0]) (by kernel_rfl) (by simp) ?_
          refine AllReadyH.cons rfl (fun K hK => ?_) AllReadyH.nil
          go_simp
          obtain ⟨D4, hD⟩ : ∃ V : World, V = D3.alloc (.cells #[.int .i64 0, .int .i64 0, .int .i64 0, .int .i64 1, .int .i64 2, .int .i64 3, .int .i64 4] 3) := ⟨_, rfl⟩
          rw [← hD]
          have hb : Below D3.heap.size D3 D4 := by rw [hD]; exact (Below.refl _ _).alloc (Nat.le_refl _) _
          have SL4 : D4.rowIs D3.heap.size 3 7 sevenV := by rw [hD]; exact seven_row D3
          have NSL : D3.heap.size ≠ n := by have := R3.lt; omega
          have K4 := K3.trans (Kept.of_below hb)
          have R4 := R3.of_below hb
          have GSL : W.heap.size ≤ D3.heap.size := K3.size
          have BX4 := BX3.of_block (hb.block _ BX3.lt)
          clear hD hb
          refine hK.out _ _ ⟨_, K4, R4⟩ (fun hHeld => ?_)
          clear hK K
          try simp only [List.getElem_toArray, List.getElem_cons_succ, List.getElem_cons_zero, Act.put, List.setIfInBounds_toArray, List.set_cons_zero, List.set_cons_succ]
          refine wpAnyH_take (i := 3) (v := ?v79) rfl (by kernel_rfl) (by kernel_rfl) (by kernel_rfl) (fun _ _ _ h => h) (Or.inl ⟨by rfl, ?y79⟩) (by assumption) ?z79
          case y79 => (intro w hSw; go_simp; first | done | with_reducible rfl)
          try simp only [List.getElem_toArray, List.getElem_cons_succ, List.getElem_cons_zero, Act.put, List.setIfInBounds_toArray, List.set_cons_zero, List.set_cons_succ]
          refine wpAnyH_ready (rs := [4]) (by kernel_rfl) (by simp) ?_
          refine AllReadyH.cons rfl (fun K hK => ?_) AllReadyH.nil
          have cc := SL4.cell (i := v2.toNat) (by omega)
          have cc' : D4.cell? ⟨D3.heap.size, 0 + v2.toNat, none⟩ = some (sevenV v2.toNat) := by rw [Nat.zero_add]; exact cc
          obtain ⟨kk, hkk⟩ := seven_int v2.toNat
          rw [hkk] at cc cc'
          go_simp
          clear cc cc'
          refine hK.out _ _ ⟨_, K4, R4⟩ (fun hHeld => ?_)
          clear hK K
          try simp only [List.getElem_toArray, List.getElem_cons_succ, List.getElem_cons_zero, Act.put, List.setIfInBounds_toArray, List.set_cons_zero, List.set_cons_succ]
          refine wpAnyH_take (i := 9) (v := ?v80) rfl (by kernel_rfl) (by kernel_rfl) (by kernel_rfl) (fun _ _ _ h => h) (Or.inl ⟨by rfl, ?y80⟩) (by assumption) ?z80
          case y80 => (intro w hSw; go_simp; first | done | with_reducible rfl)
          try simp only [List.getElem_toArray, List.getElem_cons_succ, List.getElem_cons_zero, Act.put, List.setIfInBounds_toArray, List.set_cons_zero, List.set_cons_succ]
          refine wpAnyH_take (i := 10) (v := ?v81) rfl (by kernel_rfl) (by kernel_rfl) (by kernel_rfl) (fun _ _ _ h => h) (Or.inl ⟨by rfl, ?y81⟩) (by assumption) ?z81
          case y81 => (intro w hSw; go_simp; first | done | with_reducible rfl)
          try simp only [List.getElem_toArray, List.getElem_cons_succ, List.getElem_cons_zero, Act.put, List.setIfInBounds_toArray, List.set_cons_zero, List.set_cons_succ]
          refine wpAnyH_ready (rs := [12]) (by kernel_rfl) (by simp) ?_
          refine AllReadyH.cons rfl (fun K hK => ?_) AllReadyH.nil
          have PC0 := BX4.cell (i := 0) (by omega)
          have PC1 := BX4.cell (i := 1) (by omega)
          have PC2 := BX4.cell (i := 2) (by omega)
          have PC3 := BX4.cell (i := 3) (by omega)
          have PF0 := BX4.frozen 0
          have PF1 := BX4.frozen 1
          have PF2 := BX4.frozen 2
          have PF3 := BX4.frozen 3
          have HSE : ∀ x0 x1 x2 x3 : Value, DdS n W a len cap zs ((((D4.setCell ⟨D1.heap.size, 0, none⟩ x0).setCell ⟨D1.heap.size, 1, none⟩ x1).setCell ⟨D1.heap.size, 2, none⟩ x2).setCell ⟨D1.heap.size, 3, none⟩ x3) := fun x0 x1 x2 x3 => ⟨_, K4.setNew4 GBX x0 x1 x2 x3, R4.setFar4 (by have := R4.lt; omega) x0 x1 x2 x3⟩
          go_simp
          refine hK.out _ _ (HSE _ _ _ _) (fun hHeld => ?_)
          clear hK K
          try simp only [List.getElem_toArray, List.getElem_cons_succ, List.getElem_cons_zero, Act.put, List.setIfInBounds_toArray, List.set_cons_zero, List.set_cons_succ]
          refine wpAnyH_done (by kernel_rfl) ?_ _
          go_wp2_with fail
          go_meet
          exact ⟨D1.heap.size, _, rfl, K4.setNew4 GBX _ _ _ _, R4.setFar4 (by have := R4.lt; omega) _ _ _ _, GBX, deed_row BX4 _ _ _ _⟩
    · go_simp
      obtain ⟨D1, hD⟩ : ∃ V : World, V = D0.alloc (.cells #[.int .i64 0, .int .i64 0, .int .i64 0, .int .i64 0] 28) := ⟨_, rfl⟩
      rw [← hD]
      have hb : Below D0.heap.size D0 D1 := by rw [hD]; exact (Below.refl _ _).alloc (Nat.le_refl _) _
      have BX1 : D1.rowIs D0.heap.size 28 4 (fun _ => .int .i64 0) := by rw [hD]; exact zero_row D0
      have NBX : D0.heap.size ≠ n := by have := R0.lt; omega
      have K1 := K0.trans (Kept.of_below hb)
      have R1 := R0.of_below hb
      have GBX : W.heap.size ≤ D0.heap.size := K0.size
      clear hD hb
      refine hK.out _ _ ⟨_, K1, R1⟩ (fun hHeld => ?_)
      clear hK K
      try simp only [List.getElem_toArray, List.getElem_cons_succ, List.getElem_cons_zero, Act.put, List.setIfInBounds_toArray, List.set_cons_zero, List.set_cons_succ]
      refine wpAnyH_ready (rs := [0, 2]) (by kernel_rfl) (by simp) ?_
      refine AllReadyH.cons rfl (fun K hK => ?_) (AllReadyH.cons rfl (fun K hK => ?_) AllReadyH.nil)
      · go_simp
        obtain ⟨D2, hD⟩ : ∃ V : World, V = D1.alloc (.cells #[.int .i64 0, .int .i64 0, .int .i64 0, .int .i64 1, .int .i64 2, .int .i64 3, .int .i64 4] 3) := ⟨_, rfl⟩
        rw [← hD]
        have hb : Below D1.heap.size D1 D2 := by rw [hD]; exact (Below.refl _ _).alloc (Nat.le_refl _) _
        have SL2 : D2.rowIs D1.heap.size 3 7 sevenV := by rw [hD]; exact seven_row D1
        have NSL : D1.heap.size ≠ n := by have := R1.lt; omega
        have K2 := K1.trans (Kept.of_below hb)
        have R2 := R1.of_below hb
        have GSL : W.heap.size ≤ D1.heap.size := K1.size
        have BX2 := BX1.of_block (hb.block _ BX1.lt)
        clear hD hb
        refine hK.out _ _ ⟨_, K2, R2⟩ (fun hHeld => ?_)
        clear hK K
        try simp only [List.getElem_toArray, List.getElem_cons_succ, List.getElem_cons_zero, Act.put, List.setIfInBounds_toArray, List.set_cons_zero, List.set_cons_succ]
        refine wpAnyH_ready (rs := [2]) (by kernel_rfl) (by simp) ?_
        refine AllReadyH.cons rfl (fun K hK => ?_) AllReadyH.nil
        go_simp
        refine (pick n _ a len cap zs p 7 R2 (by omega) (by omega) (by omega)).mono ?_
        rintro e D3 ⟨v2, rfl, v20, v21, k2, R3⟩
        have K3 := K2.trans k2
        have SL3 := SL2.of_block (k2.block _ SL2.lt NSL)
        have BX3 := BX2.of_block (k2.block _ BX2.lt NBX)
        refine hK.out _ _ ⟨_, K3, R3⟩ (fun hHeld => ?_)
        clear hK K
        try simp only [List.getElem_toArray, List.getElem_cons_succ, List.getElem_cons_zero, Act.put, List.setIfInBounds_toArray, List.set_cons_zero, List.set_cons_succ]
        refine wpAnyH_take (i := 3) (v := ?v82) rfl (by kernel_rfl) (by kernel_rfl) (by kernel_rfl) (fun _ _ _ h => h) (Or.inl ⟨by rfl, ?y82⟩) (by assumption) ?z82
        case y82 => (intro w hSw; go_simp; first | done | with_reducible rfl)
        try simp only [List.getElem_toArray, List.getElem_cons_succ, List.getElem_cons_zero, Act.put, List.setIfInBounds_toArray, List.set_cons_zero, List.set_cons_succ]
        refine wpAnyH_ready (rs := [4, 6]) (by kernel_rfl) (by simp) ?_
        refine AllReadyH.cons rfl (fun K hK => ?_) (AllReadyH.cons rfl (fun K hK => ?_) AllReadyH.nil)
        · have cc := SL3.cell (i := v2.toNat) (by omega)
          have cc' : D3.cell? ⟨D1.heap.size, 0 + v2.toNat, none⟩ = some (sevenV v2.toNat) := by rw [Nat.zero_add]; exact cc
          obtain ⟨kk, hkk⟩ := seven_int v2.toNat
          rw [hkk] at cc cc'
          go_simp
          clear cc cc'
          refine hK.out _ _ ⟨_, K3, R3⟩ (fun hHeld => ?_)
          clear hK K
          try simp only [List.getElem_toArray, List.getElem_cons_succ, List.getElem_cons_zero, Act.put, List.setIfInBounds_toArray, List.set_cons_zero, List.set_cons_succ]
          refine wpAnyH_ready (rs := [6]) (by kernel_rfl) (by simp) ?_
          refine AllReadyH.cons rfl (fun K hK => ?_) AllReadyH.nil
          go_simp
          refine (pick n _ a len cap zs (p + 1) 60 R3 (by omega) (by omega) (by omega)).mono ?_
          rintro e D4 ⟨v6, rfl, v60, v61, k6, R4⟩
          have K4 := K3.trans k6
          have SL4 := SL3.of_block (k6.block _ SL3.lt NSL)
          have BX4 := BX3.of_block (k6.block _ BX3.lt NBX)
          refine hK.out _ _ ⟨_, K4, R4⟩ (fun hHeld => ?_)
          clear hK K
          try simp only [List.getElem_toArray, List.getElem_cons_succ, List.getElem_cons_zero, Act.put, List.setIfInBounds_toArray, List.set_cons_zero, List.set_cons_succ]
          refine wpAnyH_take (i := 7) (v := ?v83) rfl (by kernel_rfl) (by kernel_rfl) (by kernel_rfl) (fun _ _ _ h => h) (Or.inl ⟨by rfl, ?y83⟩) (by assumption) ?z83
          case y83 => (intro w hSw; go_simp; first | done | with_reducible rfl)
          try simp only [List.getElem_toArray, List.getElem_cons_succ, List.getElem_cons_zero, Act.put, List.setIfInBounds_toArray, List.set_cons_zero, List.set_cons_succ]
          refine wpAnyH_take (i := 8) (v := ?v84) rfl (by kernel_rfl) (by kernel_rfl) (by kernel_rfl) (fun _ _ _ h => h) (Or.inl ⟨by rfl, ?y84⟩) (by assumption) ?z84
          case y84 => (intro w hSw; go_simp; first | done | with_reducible rfl)
          try simp only [List.getElem_toArray, List.getElem_cons_succ, List.getElem_cons_zero, Act.put, List.setIfInBounds_toArray, List.set_cons_zero, List.set_cons_succ]
          refine wpAnyH_take (i := 9) (v := ?v85) rfl (by kernel_rfl) (by kernel_rfl) (by kernel_rfl) (fun _ _ _ h => h) (Or.inl ⟨by rfl, ?y85⟩) (by assumption) ?z85
          case y85 => (intro w hSw; go_simp; first | done | with_reducible rfl)
          try simp only [List.getElem_toArray, List.getElem_cons_succ, List.getElem_cons_zero, Act.put, List.setIfInBounds_toArray, List.set_cons_zero, List.set_cons_succ]
          refine wpAnyH_take (i := 10) (v := ?v86) rfl (by kernel_rfl) (by kernel_rfl) (by kernel_rfl) (fun _ _ _ h => h) (Or.inl ⟨by rfl, ?y86⟩) (by assumption) ?z86
          case y86 => (intro w hSw; go_simp; first | done | with_reducible rfl)
          try simp only [List.getElem_toArray, List.getElem_cons_succ, List.getElem_cons_zero, Act.put, List.setIfInBounds_toArray, List.set_cons_zero, List.set_cons_succ]
          refine wpAnyH_ready (rs := [12]) (by kernel_rfl) (by simp) ?_
          refine AllReadyH.cons rfl (fun K hK => ?_) AllReadyH.nil
          have PC0 := BX4.cell (i := 0) (by omega)
          have PC1 := BX4.cell (i := 1) (by omega)
          have PC2 := BX4.cell (i := 2) (by omega)
          have PC3 := BX4.cell (i := 3) (by omega)
          have PF0 := BX4.frozen 0
          have PF1 := BX4.frozen 1
          have PF2 := BX4.frozen 2
          have PF3 := BX4.frozen 3
          have HSE : ∀ x0 x1 x2 x3 : Value, DdS n W a len cap zs ((((D4.setCell ⟨D0.heap.size, 0, none⟩ x0).setCell ⟨D0.heap.size, 1, none⟩ x1).setCell ⟨D0.heap.size, 2, none⟩ x2).setCell ⟨D0.heap.size, 3, none⟩ x3) := fun x0 x1 x2 x3 => ⟨_, K4.setNew4 GBX x0 x1 x2 x3, R4.setFar4 (by have := R4.lt; omega) x0 x1 x2 x3⟩
          go_simp
          refine hK.out _ _ (HSE _ _ _ _) (fun hHeld => ?_)
          clear hK K
          try simp only [List.getElem_toArray, List.getElem_cons_succ, List.getElem_cons_zero, Act.put, List.setIfInBounds_toArray, List.set_cons_zero, List.set_cons_succ]
          refine wpAnyH_done (by kernel_rfl) ?_ _
          go_wp2_with fail
          go_meet
          exact ⟨D0.heap.size, _, rfl, K4.setNew4 GBX _ _ _ _, R4.setFar4 (by have := R4.lt; omega) _ _ _ _, GBX, deed_row BX4 _ _ _ _⟩
        · go_simp
          refine (pick n _ a len cap zs (p + 1) 60 R3 (by omega) (by omega) (by omega)).mono ?_
          rintro e D4 ⟨v6, rfl, v60, v61, k6, R4⟩
          have K4 := K3.trans k6
          have SL4 := SL3.of_block (k6.block _ SL3.lt NSL)
          have BX4 := BX3.of_block (k6.block _ BX3.lt NBX)
          refine hK.out _ _ ⟨_, K4, R4⟩ (fun hHeld => ?_)
          clear hK K
          try simp only [List.getElem_toArray, List.getElem_cons_succ, List.getElem_cons_zero, Act.put, List.setIfInBounds_toArray, List.set_cons_zero, List.set_cons_succ]
          refine wpAnyH_take (i := 7) (v := ?v87) rfl (by kernel_rfl) (by kernel_rfl) (by kernel_rfl) (fun _ _ _ h => h) (Or.inl ⟨by rfl, ?y87⟩) (by assumption) ?z87
          case y87 => (intro w hSw; go_simp; first | done | with_reducible rfl)
          try simp only [List.getElem_toArray, List.getElem_cons_succ, List.getElem_cons_zero, Act.put, List.setIfInBounds_toArray, List.set_cons_zero, List.set_cons_succ]
          refine wpAnyH_take (i := 8) (v := ?v88) rfl (by kernel_rfl) (by kernel_rfl) (by kernel_rfl) (fun _ _ _ h => h) (Or.inl ⟨by rfl, ?y88⟩) (by assumption) ?z88
          case y88 => (intro w hSw; go_simp; first | done | with_reducible rfl)
          try simp only [List.getElem_toArray, List.getElem_cons_succ, List.getElem_cons_zero, Act.put, List.setIfInBounds_toArray, List.set_cons_zero, List.set_cons_succ]
          refine wpAnyH_ready (rs := [4]) (by kernel_rfl) (by simp) ?_
          refine AllReadyH.cons rfl (fun K hK => ?_) AllReadyH.nil
          have cc := SL4.cell (i := v2.toNat) (by omega)
          have cc' : D4.cell? ⟨D1.heap.size, 0 + v2.toNat, none⟩ = some (sevenV v2.toNat) := by rw [Nat.zero_add]; exact cc
          obtain ⟨kk, hkk⟩ := seven_int v2.toNat
          rw [hkk] at cc cc'
          go_simp
          clear cc cc'
          refine hK.out _ _ ⟨_, K4, R4⟩ (fun hHeld => ?_)
          clear hK K
          try simp only [List.getElem_toArray, List.getElem_cons_succ, List.getElem_cons_zero, Act.put, List.setIfInBounds_toArray, List.set_cons_zero, List.set_cons_succ]
          refine wpAnyH_take (i := 9) (v := ?v89) rfl (by kernel_rfl) (by kernel_rfl) (by kernel_rfl) (fun _ _ _ h => h) (Or.inl ⟨by rfl, ?y89⟩) (by assumption) ?z89
          case y89 => (intro w hSw; go_simp; first | done | with_reducible rfl)
          try simp only [List.getElem_toArray, List.getElem_cons_succ, List.getElem_cons_zero, Act.put, List.setIfInBounds_toArray, List.set_cons_zero, List.set_cons_succ]
          refine wpAnyH_take (i := 10) (v := ?v90) rfl (by kernel_rfl) (by kernel_rfl) (by kernel_rfl) (fun _ _ _ h => h) (Or.inl ⟨by rfl, ?y90⟩) (by assumption) ?z90
          case y90 => (intro w hSw; go_simp; first | done | with_reducible rfl)
          try simp only [List.getElem_toArray, List.getElem_cons_succ, List.getElem_cons_zero, Act.put, List.setIfInBounds_toArray, List.set_cons_zero, List.set_cons_succ]
          refine wpAnyH_ready (rs := [12]) (by kernel_rfl) (by simp) ?_
          refine AllReadyH.cons rfl (fun K hK => ?_) AllReadyH.nil
          have PC0 := BX4.cell (i := 0) (by omega)
          have PC1 := BX4.cell (i := 1) (by omega)
          have PC2 := BX4.cell (i := 2) (by omega)
          have PC3 := BX4.cell (i := 3) (by omega)
          have PF0 := BX4.frozen 0
          have PF1 := BX4.frozen 1
          have PF2 := BX4.frozen 2
          have PF3 := BX4.frozen 3
          have HSE : ∀ x0 x1 x2 x3 : Value, DdS n W a len cap zs ((((D4.setCell ⟨D0.heap.size, 0, none⟩ x0).setCell ⟨D0.heap.size, 1, none⟩ x1).setCell ⟨D0.heap.size, 2, none⟩ x2).setCell ⟨D0.heap.size, 3, none⟩ x3) := fun x0 x1 x2 x3 => ⟨_, K4.setNew4 GBX x0 x1 x2 x3, R4.setFar4 (by have := R4.lt; omega) x0 x1 x2 x3⟩
          go_simp
          refine hK.out _ _ (HSE _ _ _ _) (fun hHeld => ?_)
          clear hK K
          try simp only [List.getElem_toArray, List.getElem_cons_succ, List.getElem_cons_zero, Act.put, List.setIfInBounds_toArray, List.set_cons_zero, List.set_cons_succ]
          refine wpAnyH_done (by kernel_rfl) ?_ _
          go_wp2_with fail
          go_meet
          exact ⟨D0.heap.size, _, rfl, K4.setNew4 GBX _ _ _ _, R4.setFar4 (by have := R4.lt; omega) _ _ _ _, GBX, deed_row BX4 _ _ _ _⟩
      · go_simp
        refine (pick n _ a len cap zs p 7 R1 (by omega) (by omega) (by omega)).mono ?_
        rintro e D2 ⟨v2, rfl, v20, v21, k2, R2⟩
        have K2 := K1.trans k2
        have BX2 := BX1.of_block (k2.block _ BX1.lt NBX)
        refine hK.out _ _ ⟨_, K2, R2⟩ (fun hHeld => ?_)
        clear hK K
        try simp only [List.getElem_toArray, List.getElem_cons_succ, List.getElem_cons_zero, Act.put, List.setIfInBounds_toArray, List.set_cons_zero, List.set_cons_succ]
        refine wpAnyH_ready (rs := [0, 6]) (by kernel_rfl) (by simp) ?_
        refine AllReadyH.cons rfl (fun K hK => ?_) (AllReadyH.cons rfl (fun K hK => ?_) AllReadyH.nil)
        · go_simp
          obtain ⟨D3, hD⟩ : ∃ V : World, V = D2.alloc (.cells #[.int .i64 0, .int .i64 0, .int .i64 0, .int .i64 1, .int .i64 2, .int .i64 3, .int .i64 4] 3) := ⟨_, rfl⟩
          rw [← hD]
          have hb : Below D2.heap.size D2 D3 := by rw [hD]; exact (Below.refl _ _).alloc (Nat.le_refl _) _
          have SL3 : D3.rowIs D2.heap.size 3 7 sevenV := by rw [hD]; exact seven_row D2
          have NSL : D2.heap.size ≠ n := by have := R2.lt; omega
          have K3 := K2.trans (Kept.of_below hb)
          have R3 := R2.of_below hb
          have GSL : W.heap.size ≤ D2.heap.size := K2.size
          have BX3 := BX2.of_block (hb.block _ BX2.lt)
          clear hD hb
          refine hK.out _ _ ⟨_, K3, R3⟩ (fun hHeld => ?_)
          clear hK K
          try simp only [List.getElem_toArray, List.getElem_cons_succ, List.getElem_cons_zero, Act.put, List.setIfInBounds_toArray, List.set_cons_zero, List.set_cons_succ]
          refine wpAnyH_take (i := 3) (v := ?v91) rfl (by kernel_rfl) (by kernel_rfl) (by kernel_rfl) (fun _ _ _ h => h) (Or.inl ⟨by rfl, ?y91⟩) (by assumption) ?z91
          case y91 => (intro w hSw; go_simp; first | done | with_reducible rfl)
          try simp only [List.getElem_toArray, List.getElem_cons_succ, List.getElem_cons_zero, Act.put, List.setIfInBounds_toArray, List.set_cons_zero, List.set_cons_succ]
          refine wpAnyH_ready (rs := [4, 6]) (by kernel_rfl) (by simp) ?_
          refine AllReadyH.cons rfl (fun K hK => ?_) (AllReadyH.cons rfl (fun K hK => ?_) AllReadyH.nil)
          · have cc := SL3.cell (i := v2.toNat) (by omega)
            have cc' : D3.cell? ⟨D2.heap.size, 0 + v2.toNat, none⟩ = some (sevenV v2.toNat) := by rw [Nat.zero_add]; exact cc
            obtain ⟨kk, hkk⟩ := seven_int v2.toNat
            rw [hkk] at cc cc'
            go_simp
            clear cc cc'
            refine hK.out _ _ ⟨_, K3, R3⟩ (fun hHeld => ?_)
            clear hK K
            try simp only [List.getElem_toArray, List.getElem_cons_succ, List.getElem_cons_zero, Act.put, List.setIfInBounds_toArray, List.set_cons_zero, List.set_cons_succ]
            refine wpAnyH_ready (rs := [6]) (by kernel_rfl) (by simp) ?_
            refine AllReadyH.cons rfl (fun K hK => ?_) AllReadyH.nil
            go_simp
            refine (pick n _ a len cap zs (p + 1) 60 R3 (by omega) (by omega) (by omega)).mono ?_
            rintro e D4 ⟨v6, rfl, v60, v61, k6, R4⟩
            have K4 := K3.trans k6
            have SL4 := SL3.of_block (k6.block _ SL3.lt NSL)
            have BX4 := BX3.of_block (k6.block _ BX3.lt NBX)
            refine hK.out _ _ ⟨_, K4, R4⟩ (fun hHeld => ?_)
            clear hK K
            try simp only [List.getElem_toArray, List.getElem_cons_succ, List.getElem_cons_zero, Act.put, List.setIfInBounds_toArray, List.set_cons_zero, List.set_cons_succ]
            refine wpAnyH_take (i := 7) (v := ?v92) rfl (by kernel_rfl) (by kernel_rfl) (by kernel_rfl) (fun _ _ _ h => h) (Or.inl ⟨by rfl, ?y92⟩) (by assumption) ?z92
            case y92 => (intro w hSw; go_simp; first | done | with_reducible rfl)
            try simp only [List.getElem_toArray, List.getElem_cons_succ, List.getElem_cons_zero, Act.put, List.setIfInBounds_toArray, List.set_cons_zero, List.set_cons_succ]
            refine wpAnyH_take (i := 8) (v := ?v93) rfl (by kernel_rfl) (by kernel_rfl) (by kernel_rfl) (fun _ _ _ h => h) (Or.inl ⟨by rfl, ?y93⟩) (by assumption) ?z93
            case y93 => (intro w hSw; go_simp; first | done | with_reducible rfl)
            try simp only [List.getElem_toArray, List.getElem_cons_succ, List.getElem_cons_zero, Act.put, List.setIfInBounds_toArray, List.set_cons_zero, List.set_cons_succ]
            refine wpAnyH_take (i := 9) (v := ?v94) rfl (by kernel_rfl) (by kernel_rfl) (by kernel_rfl) (fun _ _ _ h => h) (Or.inl ⟨by rfl, ?y94⟩) (by assumption) ?z94
            case y94 => (intro w hSw; go_simp; first | done | with_reducible rfl)
            try simp only [List.getElem_toArray, List.getElem_cons_succ, List.getElem_cons_zero, Act.put, List.setIfInBounds_toArray, List.set_cons_zero, List.set_cons_succ]
            refine wpAnyH_take (i := 10) (v := ?v95) rfl (by kernel_rfl) (by kernel_rfl) (by kernel_rfl) (fun _ _ _ h => h) (Or.inl ⟨by rfl, ?y95⟩) (by assumption) ?z95
            case y95 => (intro w hSw; go_simp; first | done | with_reducible rfl)
            try simp only [List.getElem_toArray, List.getElem_cons_succ, List.getElem_cons_zero, Act.put, List.setIfInBounds_toArray, List.set_cons_zero, List.set_cons_succ]
            refine wpAnyH_ready (rs := [12]) (by kernel_rfl) (by simp) ?_
            refine AllReadyH.cons rfl (fun K hK => ?_) AllReadyH.nil
            have PC0 := BX4.cell (i := 0) (by omega)
            have PC1 := BX4.cell (i := 1) (by omega)
            have PC2 := BX4.cell (i := 2) (by omega)
            have PC3 := BX4.cell (i := 3) (by omega)
            have PF0 := BX4.frozen 0
            have PF1 := BX4.frozen 1
            have PF2 := BX4.frozen 2
            have PF3 := BX4.frozen 3
            have HSE : ∀ x0 x1 x2 x3 : Value, DdS n W a len cap zs ((((D4.setCell ⟨D0.heap.size, 0, none⟩ x0).setCell ⟨D0.heap.size, 1, none⟩ x1).setCell ⟨D0.heap.size, 2, none⟩ x2).setCell ⟨D0.heap.size, 3, none⟩ x3) := fun x0 x1 x2 x3 => ⟨_, K4.setNew4 GBX x0 x1 x2 x3, R4.setFar4 (by have := R4.lt; omega) x0 x1 x2 x3⟩
            go_simp
            refine hK.out _ _ (HSE _ _ _ _) (fun hHeld => ?_)
            clear hK K
            try simp only [List.getElem_toArray, List.getElem_cons_succ, List.getElem_cons_zero, Act.put, List.setIfInBounds_toArray, List.set_cons_zero, List.set_cons_succ]
            refine wpAnyH_done (by kernel_rfl) ?_ _
            go_wp2_with fail
            go_meet
            exact ⟨D0.heap.size, _, rfl, K4.setNew4 GBX _ _ _ _, R4.setFar4 (by have := R4.lt; omega) _ _ _ _, GBX, deed_row BX4 _ _ _ _⟩
          · go_simp
            refine (pick n _ a len cap zs (p + 1) 60 R3 (by omega) (by omega) (by omega)).mono ?_
            rintro e D4 ⟨v6, rfl, v60, v61, k6, R4⟩
            have K4 := K3.trans k6
            have SL4 := SL3.of_block (k6.block _ SL3.lt NSL)
            have BX4 := BX3.of_block (k6.block _ BX3.lt NBX)
            refine hK.out _ _ ⟨_, K4, R4⟩ (fun hHeld => ?_)
            clear hK K
            try simp only [List.getElem_toArray, List.getElem_cons_succ, List.getElem_cons_zero, Act.put, List.setIfInBounds_toArray, List.set_cons_zero, List.set_cons_succ]
            refine wpAnyH_take (i := 7) (v := ?v96) rfl (by kernel_rfl) (by kernel_rfl) (by kernel_rfl) (fun _ _ _ h => h) (Or.inl ⟨by rfl, ?y96⟩) (by assumption) ?z96
            case y96 => (intro w hSw; go_simp; first | done | with_reducible rfl)
            try simp only [List.getElem_toArray, List.getElem_cons_succ, List.getElem_cons_zero, Act.put, List.setIfInBounds_toArray, List.set_cons_zero, List.set_cons_succ]
            refine wpAnyH_take (i := 8) (v := ?v97) rfl (by kernel_rfl) (by kernel_rfl) (by kernel_rfl) (fun _ _ _ h => h) (Or.inl ⟨by rfl, ?y97⟩) (by assumption) ?z97
            case y97 => (intro w hSw; go_simp; first | done | with_reducible rfl)
            try simp only [List.getElem_toArray, List.getElem_cons_succ, List.getElem_cons_zero, Act.put, List.setIfInBounds_toArray, List.set_cons_zero, List.set_cons_succ]
            refine wpAnyH_ready (rs := [4]) (by kernel_rfl) (by simp) ?_
            refine AllReadyH.cons rfl (fun K hK => ?_) AllReadyH.nil
            have cc := SL4.cell (i := v2.toNat) (by omega)
            have cc' : D4.cell? ⟨D2.heap.size, 0 + v2.toNat, none⟩ = some (sevenV v2.toNat) := by rw [Nat.zero_add]; exact cc
            obtain ⟨kk, hkk⟩ := seven_int v2.toNat
            rw [hkk] at cc cc'
            go_simp
            clear cc cc'
            refine hK.out _ _ ⟨_, K4, R4⟩ (fun hHeld => ?_)
            clear hK K
            try simp only [List.getElem_toArray, List.getElem_cons_succ, List.getElem_cons_zero, Act.put, List.setIfInBounds_toArray, List.set_cons_zero, List.set_cons_succ]
            refine wpAnyH_take (i := 9) (v := ?v98) rfl (by kernel_rfl) (by kernel_rfl) (by kernel_rfl) (fun _ _ _ h => h) (Or.inl ⟨by rfl, ?y98⟩) (by assumption) ?z98
            case y98 => (intro w hSw; go_simp; first | done | with_reducible rfl)
            try simp only [List.getElem_toArray, List.getElem_cons_succ, List.getElem_cons_zero, Act.put, List.setIfInBounds_toArray, List.set_cons_zero, List.set_cons_succ]
            refine wpAnyH_take (i := 10) (v := ?v99) rfl (by kernel_rfl) (by kernel_rfl) (by kernel_rfl) (fun _ _ _ h => h) (Or.inl ⟨by rfl, ?y99⟩) (by assumption) ?z99
            case y99 => (intro w hSw; go_simp; first | done | with_reducible rfl)
            try simp only [List.getElem_toArray, List.getElem_cons_succ, List.getElem_cons_zero, Act.put, List.setIfInBounds_toArray, List.set_cons_zero, List.set_cons_succ]
            refine wpAnyH_ready (rs := [12]) (by kernel_rfl) (by simp) ?_
            refine AllReadyH.cons rfl (fun K hK => ?_) AllReadyH.nil
            have PC0 := BX4.cell (i := 0) (by omega)
            have PC1 := BX4.cell (i := 1) (by omega)
            have PC2 := BX4.cell (i := 2) (by omega)
            have PC3 := BX4.cell (i := 3) (by omega)
            have PF0 := BX4.frozen 0
            have PF1 := BX4.frozen 1
            have PF2 := BX4.frozen 2
            have PF3 := BX4.frozen 3
            have HSE : ∀ x0 x1 x2 x3 : Value, DdS n W a len cap zs ((((D4.setCell ⟨D0.heap.size, 0, none⟩ x0).setCell ⟨D0.heap.size, 1, none⟩ x1).setCell ⟨D0.heap.size, 2, none⟩ x2).setCell ⟨D0.heap.size, 3, none⟩ x3) := fun x0 x1 x2 x3 => ⟨_, K4.setNew4 GBX x0 x1 x2 x3, R4.setFar4 (by have := R4.lt; omega) x0 x1 x2 x3⟩
            go_simp
            refine hK.out _ _ (HSE _ _ _ _) (fun hHeld => ?_)
            clear hK K
            try simp only [List.getElem_toArray, List.getElem_cons_succ, List.getElem_cons_zero, Act.put, List.setIfInBounds_toArray, List.set_cons_zero, List.set_cons_succ]
            refine wpAnyH_done (by kernel_rfl) ?_ _
            go_wp2_with fail
            go_meet
            exact ⟨D0.heap.size, _, rfl, K4.setNew4 GBX _ _ _ _, R4.setFar4 (by have := R4.lt; omega) _ _ _ _, GBX, deed_row BX4 _ _ _ _⟩
        · go_simp
          refine (pick n _ a len cap zs (p + 1) 60 R2 (by omega) (by omega) (by omega)).mono ?_
          rintro e D3 ⟨v6, rfl, v60, v61, k6, R3⟩
          have K3 := K2.trans k6
          have BX3 := BX2.of_block (k6.block _ BX2.lt NBX)
          refine hK.out _ _ ⟨_, K3, R3⟩ (fun hHeld => ?_)
          clear hK K
          try simp only [List.getElem_toArray, List.getElem_cons_succ, List.getElem_cons_zero, Act.put, List.setIfInBounds_toArray, List.set_cons_zero, List.set_cons_succ]
          refine wpAnyH_take (i := 7) (v := ?v100) rfl (by kernel_rfl) (by kernel_rfl) (by kernel_rfl) (fun _ _ _ h => h) (Or.inl ⟨by rfl, ?y100⟩) (by assumption) ?z100
          case y100 => (intro w hSw; go_simp; first | done | with_reducible rfl)
          try simp only [List.getElem_toArray, List.getElem_cons_succ, List.getElem_cons_zero, Act.put, List.setIfInBounds_toArray, List.set_cons_zero, List.set_cons_succ]
          refine wpAnyH_take (i := 8) (v := ?v101) rfl (by kernel_rfl) (by kernel_rfl) (by kernel_rfl) (fun _ _ _ h => h) (Or.inl ⟨by rfl, ?y101⟩) (by assumption) ?z101
          case y101 => (intro w hSw; go_simp; first | done | with_reducible rfl)
          try simp only [List.getElem_toArray, List.getElem_cons_succ, List.getElem_cons_zero, Act.put, List.setIfInBounds_toArray, List.set_cons_zero, List.set_cons_succ]
          refine wpAnyH_ready (rs := [0]) (by kernel_rfl) (by simp) ?_
          refine AllReadyH.cons rfl (fun K hK => ?_) AllReadyH.nil
          go_simp
          obtain ⟨D4, hD⟩ : ∃ V : World, V = D3.alloc (.cells #[.int .i64 0, .int .i64 0, .int .i64 0, .int .i64 1, .int .i64 2, .int .i64 3, .int .i64 4] 3) := ⟨_, rfl⟩
          rw [← hD]
          have hb : Below D3.heap.size D3 D4 := by rw [hD]; exact (Below.refl _ _).alloc (Nat.le_refl _) _
          have SL4 : D4.rowIs D3.heap.size 3 7 sevenV := by rw [hD]; exact seven_row D3
          have NSL : D3.heap.size ≠ n := by have := R3.lt; omega
          have K4 := K3.trans (Kept.of_below hb)
          have R4 := R3.of_below hb
          have GSL : W.heap.size ≤ D3.heap.size := K3.size
          have BX4 := BX3.of_block (hb.block _ BX3.lt)
          clear hD hb
          refine hK.out _ _ ⟨_, K4, R4⟩ (fun hHeld => ?_)
          clear hK K
          try simp only [List.getElem_toArray, List.getElem_cons_succ, List.getElem_cons_zero, Act.put, List.setIfInBounds_toArray, List.set_cons_zero, List.set_cons_succ]
          refine wpAnyH_take (i := 3) (v := ?v102) rfl (by kernel_rfl) (by kernel_rfl) (by kernel_rfl) (fun _ _ _ h => h) (Or.inl ⟨by rfl, ?y102⟩) (by assumption) ?z102
          case y102 => (intro w hSw; go_simp; first | done | with_reducible rfl)
          try simp only [List.getElem_toArray, List.getElem_cons_succ, List.getElem_cons_zero, Act.put, List.setIfInBounds_toArray, List.set_cons_zero, List.set_cons_succ]
          refine wpAnyH_ready (rs := [4]) (by kernel_rfl) (by simp) ?_
          refine AllReadyH.cons rfl (fun K hK => ?_) AllReadyH.nil
          have cc := SL4.cell (i := v2.toNat) (by omega)
          have cc' : D4.cell? ⟨D3.heap.size, 0 + v2.toNat, none⟩ = some (sevenV v2.toNat) := by rw [Nat.zero_add]; exact cc
          obtain ⟨kk, hkk⟩ := seven_int v2.toNat
          rw [hkk] at cc cc'
          go_simp
          clear cc cc'
          refine hK.out _ _ ⟨_, K4, R4⟩ (fun hHeld => ?_)
          clear hK K
          try simp only [List.getElem_toArray, List.getElem_cons_succ, List.getElem_cons_zero, Act.put, List.setIfInBounds_toArray, List.set_cons_zero, List.set_cons_succ]
          refine wpAnyH_take (i := 9) (v := ?v103) rfl (by kernel_rfl) (by kernel_rfl) (by kernel_rfl) (fun _ _ _ h => h) (Or.inl ⟨by rfl, ?y103⟩) (by assumption) ?z103
          case y103 => (intro w hSw; go_simp; first | done | with_reducible rfl)
          try simp only [List.getElem_toArray, List.getElem_cons_succ, List.getElem_cons_zero, Act.put, List.setIfInBounds_toArray, List.set_cons_zero, List.set_cons_succ]
          refine wpAnyH_take (i := 10) (v := ?v104) rfl (by kernel_rfl) (by kernel_rfl) (by kernel_rfl) (fun _ _ _ h => h) (Or.inl ⟨by rfl, ?y104⟩) (by assumption) ?z104
          case y104 => (intro w hSw; go_simp; first | done | with_reducible rfl)
          try simp only [List.getElem_toArray, List.getElem_cons_succ, List.getElem_cons_zero, Act.put, List.setIfInBounds_toArray, List.set_cons_zero, List.set_cons_succ]
          refine wpAnyH_ready (rs := [12]) (by kernel_rfl) (by simp) ?_
          refine AllReadyH.cons rfl (fun K hK => ?_) AllReadyH.nil
          have PC0 := BX4.cell (i := 0) (by omega)
          have PC1 := BX4.cell (i := 1) (by omega)
          have PC2 := BX4.cell (i := 2) (by omega)
          have PC3 := BX4.cell (i := 3) (by omega)
          have PF0 := BX4.frozen 0
          have PF1 := BX4.frozen 1
          have PF2 := BX4.frozen 2
          have PF3 := BX4.frozen 3
          have HSE : ∀ x0 x1 x2 x3 : Value, DdS n W a len cap zs ((((D4.setCell ⟨D0.heap.size, 0, none⟩ x0).setCell ⟨D0.heap.size, 1, none⟩ x1).setCell ⟨D0.heap.size, 2, none⟩ x2).setCell ⟨D0.heap.size, 3, none⟩ x3) := fun x0 x1 x2 x3 => ⟨_, K4.setNew4 GBX x0 x1 x2 x3, R4.setFar4 (by have := R4.lt; omega) x0 x1 x2 x3⟩
          go_simp
          refine hK.out _ _ (HSE _ _ _ _) (fun hHeld => ?_)
          clear hK K
          try simp only [List.getElem_toArray, List.getElem_cons_succ, List.getElem_cons_zero, Act.put, List.setIfInBounds_toArray, List.set_cons_zero, List.set_cons_succ]
          refine wpAnyH_done (by kernel_rfl) ?_ _
          go_wp2_with fail
          go_meet
          exact ⟨D0.heap.size, _, rfl, K4.setNew4 GBX _ _ _ _, R4.setFar4 (by have := R4.lt; omega) _ _ _ _, GBX, deed_row BX4 _ _ _ _⟩
  case rest =>
    obtain ⟨bx, K, rfl, Ku0, Ru0, hbx, hrow⟩ := hcut
    have Bu0 : DdBox wc bx K 0 0 0 := ⟨hrow⟩
    obtain ⟨u0, hu0⟩ : ∃ x, x = wc := ⟨_, rfl⟩
    rw [← hu0] at Ku0 Ru0 Bu0 ⊢
    clear hu0 hrow hbW h RW
    have NBX : bx ≠ n := by omega
    have z0 := Bu0.c0
    by_cases hk0 : K = 0
    · subst hk0
      go_wp2_with fail
      refine (pick n _ a len cap zs (p + 1 + 1) _ Ru0 (by omega) (by omega) (by omega)).mono ?_
      rintro e u1 ⟨x1, rfl, x10, x11, k1, Ru1⟩
      have Bu1 := Bu0.kept k1 NBX
      have Ku1 := Ku0.trans k1
      clear z0
      have y2 := Bu1.c1
      have f2 := Bu1.fr 1
      have Bu2 := Bu1.s1 x1
      have Ku2 := Ku1.setNew (q := ⟨bx, 1, none⟩) (show W.heap.size ≤ bx from hbx) (.int .i64 x1)
      have Ru2 := Ru1.setFar (q := ⟨bx, 1, none⟩) (show n < bx by omega) (.int .i64 x1)
      obtain ⟨u2, hu2⟩ : ∃ x, u1.setCell ⟨bx, 1, none⟩ (.int .i64 x1) = x := ⟨_, rfl⟩
      rw [hu2] at Bu2 Ku2 Ru2
      go_wp2_with fail
      try rw [hu2]
      clear hu2 y2 f2
      refine (pick n _ a len cap zs (p + 1 + 1 + 1) _ Ru2 (by omega) (by omega) (by omega)).mono ?_
      rintro e u3 ⟨x3, rfl, x30, x31, k3, Ru3⟩
      have Bu3 := Bu2.kept k3 NBX
      have Ku3 := Ku2.trans k3
      have y4 := Bu3.c2
      have f4 := Bu3.fr 2
      have Bu4 := Bu3.s2 x3
      have Ku4 := Ku3.setNew (q := ⟨bx, 2, none⟩) (show W.heap.size ≤ bx from hbx) (.int .i64 x3)
      have Ru4 := Ru3.setFar (q := ⟨bx, 2, none⟩) (show n < bx by omega) (.int .i64 x3)
      obtain ⟨u4, hu4⟩ : ∃ x, u3.setCell ⟨bx, 2, none⟩ (.int .i64 x3) = x := ⟨_, rfl⟩
      rw [hu4] at Bu4 Ku4 Ru4
      go_wp2_with fail
      try rw [hu4]
      clear hu4 y4 f4
      refine (pick n _ a len cap zs (p + 1 + 1 + 1 + 1) _ Ru4 (by omega) (by omega) (by omega)).mono ?_
      rintro e u5 ⟨x5, rfl, x50, x51, k5, Ru5⟩
      have Bu5 := Bu4.kept k5 NBX
      have Ku5 := Ku4.trans k5
      go_wp2_with fail
      refine (pick n _ a len cap zs (p + 1 + 1 + 1 + 1 + 1) _ Ru5 (by omega) (by omega) (by omega)).mono ?_
      rintro e u6 ⟨x6, rfl, x60, x61, k6, Ru6⟩
      have Bu6 := Bu5.kept k6 NBX
      have Ku6 := Ku5.trans k6
      have hs3 : IntKind.i64.wrap (x5 - x6) = x5 - x6 := IntWalk.i64_in _ ⟨by omega, by omega⟩
      have y7 := Bu6.c3
      have f7 := Bu6.fr 3
      have Bu7 := Bu6.s3 (x5 - x6)
      have Ku7 := Ku6.setNew (q := ⟨bx, 3, none⟩) (show W.heap.size ≤ bx from hbx) (.int .i64 (x5 - x6))
      have Ru7 := Ru6.setFar (q := ⟨bx, 3, none⟩) (show n < bx by omega) (.int .i64 (x5 - x6))
      obtain ⟨u7, hu7⟩ : ∃ x, u6.setCell ⟨bx, 3, none⟩ (.int .i64 (x5 - x6)) = x := ⟨_, rfl⟩
      rw [hu7] at Bu7 Ku7 Ru7
      go_wp2_with fail
      try rw [hu7]
      clear hu7 y7 f7
      refine (odd n _ a len cap zs (p + 1 + 1 + 1 + 1 + 1 + 1) _ Ru7 (by omega) (by omega) (by omega)).mono ?_
      rintro e u8 ⟨x8, rfl, k8, Ru8⟩
      have Bu8 := Bu7.kept k8 NBX
      have Ku8 := Ku7.trans k8
      rcases hx8 : x8 with _ | _
      · have z0 := Bu8.c0
        have z1 := Bu8.c1
        have z2 := Bu8.c2
        have z3 := Bu8.c3
        have KW := Ku8.size
        obtain ⟨⟨y0, y1, y2, y3⟩, g0, g1, g2, g3⟩ := HQ.out _ Ku8
        go_wp2_with fail
        obtain ⟨r0, r1, r2, r3⟩ := put4 (.int .i64 (0)) (.int .i64 (x1)) (.int .i64 (x3)) (.int .i64 ((x5 - x6))) y0 y1 y2 y3
        exact bodyPost_ret (v := ddV ⟨0, x1, x3, (x5 - x6)⟩) (by simp [results, ddV, Tryz.results13, go_sem, r0, r1, r2, r3]) rfl ⟨_, _, rfl, (K0w.trans Ku8).setNew4 (Nat.le_refl _) _ _ _ _, Ru8.setFar4 (by omega) _ _ _ _, by omega⟩
      · go_wp2_with fail
        have SL : (u8.alloc (.cells #[.int .i64 (-100), .int .i64 100, .int .i64 10] 3)).rowIs u8.heap.size 3 3 threeV := three_row u8
        have hb : Below u8.heap.size u8 (u8.alloc (.cells #[.int .i64 (-100), .int .i64 100, .int .i64 10] 3)) := (Below.refl _ _).alloc (Nat.le_refl _) _
        have Bu9 := Bu8.kept (Kept.of_below (n := n) hb) NBX
        have Ku9 := Ku8.trans (Kept.of_below hb)
        have Ru9 := Ru8.of_below hb
        obtain ⟨u9, hu9⟩ : ∃ x, u8.alloc (.cells #[.int .i64 (-100), .int .i64 100, .int .i64 10] 3) = x := ⟨_, rfl⟩
        rw [hu9] at SL Bu9 Ku9 Ru9
        rw [hu9]
        clear hu9 hb
        have NSL : u8.heap.size ≠ n := by have := Ru8.lt; omega
        refine (pick n _ a len cap zs (p + 1 + 1 + 1 + 1 + 1 + 1 + 1) _ Ru9 (by omega) (by omega) (by omega)).mono ?_
        rintro e u10 ⟨x10, rfl, x100, x101, k10, Ru10⟩
        have Bu10 := Bu9.kept k10 NBX
        have Ku10 := Ku9.trans k10
        have cc := (SL.of_block (k10.block _ SL.lt NSL)).cell (i := x10.toNat) (by omega)
        obtain ⟨kk, hkk⟩ := three_int x10.toNat
        rw [hkk] at cc
        have cc' : u10.cell? ⟨u8.heap.size, 0 + x10.toNat, none⟩ = some (.int .i64 kk) := by rw [Nat.zero_add]; exact cc
        clear hkk
        have y11 := Bu10.c3
        have f11 := Bu10.fr 3
        have Bu11 := Bu10.s3 kk
        have Ku11 := Ku10.setNew (q := ⟨bx, 3, none⟩) (show W.heap.size ≤ bx from hbx) (.int .i64 kk)
        have Ru11 := Ru10.setFar (q := ⟨bx, 3, none⟩) (show n < bx by omega) (.int .i64 kk)
        obtain ⟨u11, hu11⟩ : ∃ x, u10.setCell ⟨bx, 3, none⟩ (.int .i64 kk) = x := ⟨_, rfl⟩
        rw [hu11] at Bu11 Ku11 Ru11
        have z0 := Bu11.c0
        have z1 := Bu11.c1
        have z2 := Bu11.c2
        have z3 := Bu11.c3
        have KW := Ku11.size
        obtain ⟨⟨y0, y1, y2, y3⟩, g0, g1, g2, g3⟩ := HQ.out _ Ku11
        go_wp2_with fail
        try rw [hu11]
        obtain ⟨r0, r1, r2, r3⟩ := put4 (.int .i64 (0)) (.int .i64 (x1)) (.int .i64 (x3)) (.int .i64 (kk)) y0 y1 y2 y3
        exact bodyPost_ret (v := ddV ⟨0, x1, x3, kk⟩) (by simp [results, ddV, Tryz.results13, go_sem, r0, r1, r2, r3]) rfl ⟨_, _, rfl, (K0w.trans Ku11).setNew4 (Nat.le_refl _) _ _ _ _, Ru11.setFar4 (by omega) _ _ _ _, by omega⟩
    by_cases hk2 : K = 2
    · subst hk2
      go_wp2_with fail
      refine (pick n _ a len cap zs (p + 1 + 1) _ Ru0 (by omega) (by omega) (by omega)).mono ?_
      rintro e u1 ⟨x1, rfl, x10, x11, k1, Ru1⟩
      have Bu1 := Bu0.kept k1 NBX
      have Ku1 := Ku0.trans k1
      clear z0
      have hs3 : IntKind.i64.wrap (x1 - 2) = x1 - 2 := IntWalk.i64_in _ ⟨by omega, by omega⟩
      have y2 := Bu1.c3
      have f2 := Bu1.fr 3
      have Bu2 := Bu1.s3 (x1 - 2)
      have Ku2 := Ku1.setNew (q := ⟨bx, 3, none⟩) (show W.heap.size ≤ bx from hbx) (.int .i64 (x1 - 2))
      have Ru2 := Ru1.setFar (q := ⟨bx, 3, none⟩) (show n < bx by omega) (.int .i64 (x1 - 2))
      obtain ⟨u2, hu2⟩ : ∃ x, u1.setCell ⟨bx, 3, none⟩ (.int .i64 (x1 - 2)) = x := ⟨_, rfl⟩
      rw [hu2] at Bu2 Ku2 Ru2
      go_wp2_with fail
      try rw [hu2]
      clear hu2 y2 f2
      refine (odd n _ a len cap zs (p + 1 + 1 + 1) _ Ru2 (by omega) (by omega) (by omega)).mono ?_
      rintro e u3 ⟨x3, rfl, k3, Ru3⟩
      have Bu3 := Bu2.kept k3 NBX
      have Ku3 := Ku2.trans k3
      rcases hx3 : x3 with _ | _
      · have z0 := Bu3.c0
        have z1 := Bu3.c1
        have z2 := Bu3.c2
        have z3 := Bu3.c3
        have KW := Ku3.size
        obtain ⟨⟨y0, y1, y2, y3⟩, g0, g1, g2, g3⟩ := HQ.out _ Ku3
        go_wp2_with fail
        obtain ⟨r0, r1, r2, r3⟩ := put4 (.int .i64 (2)) (.int .i64 (0)) (.int .i64 (0)) (.int .i64 ((x1 - 2))) y0 y1 y2 y3
        exact bodyPost_ret (v := ddV ⟨2, 0, 0, (x1 - 2)⟩) (by simp [results, ddV, Tryz.results13, go_sem, r0, r1, r2, r3]) rfl ⟨_, _, rfl, (K0w.trans Ku3).setNew4 (Nat.le_refl _) _ _ _ _, Ru3.setFar4 (by omega) _ _ _ _, by omega⟩
      · go_wp2_with fail
        have SL : (u3.alloc (.cells #[.int .i64 (-100), .int .i64 100, .int .i64 10] 3)).rowIs u3.heap.size 3 3 threeV := three_row u3
        have hb : Below u3.heap.size u3 (u3.alloc (.cells #[.int .i64 (-100), .int .i64 100, .int .i64 10] 3)) := (Below.refl _ _).alloc (Nat.le_refl _) _
        have Bu4 := Bu3.kept (Kept.of_below (n := n) hb) NBX
        have Ku4 := Ku3.trans (Kept.of_below hb)
        have Ru4 := Ru3.of_below hb
        obtain ⟨u4, hu4⟩ : ∃ x, u3.alloc (.cells #[.int .i64 (-100), .int .i64 100, .int .i64 10] 3) = x := ⟨_, rfl⟩
        rw [hu4] at SL Bu4 Ku4 Ru4
        rw [hu4]
        clear hu4 hb
        have NSL : u3.heap.size ≠ n := by have := Ru3.lt; omega
        refine (pick n _ a len cap zs (p + 1 + 1 + 1 + 1) _ Ru4 (by omega) (by omega) (by omega)).mono ?_
        rintro e u5 ⟨x5, rfl, x50, x51, k5, Ru5⟩
        have Bu5 := Bu4.kept k5 NBX
        have Ku5 := Ku4.trans k5
        have cc := (SL.of_block (k5.block _ SL.lt NSL)).cell (i := x5.toNat) (by omega)
        obtain ⟨kk, hkk⟩ := three_int x5.toNat
        rw [hkk] at cc
        have cc' : u5.cell? ⟨u3.heap.size, 0 + x5.toNat, none⟩ = some (.int .i64 kk) := by rw [Nat.zero_add]; exact cc
        clear hkk
        have y6 := Bu5.c3
        have f6 := Bu5.fr 3
        have Bu6 := Bu5.s3 kk
        have Ku6 := Ku5.setNew (q := ⟨bx, 3, none⟩) (show W.heap.size ≤ bx from hbx) (.int .i64 kk)
        have Ru6 := Ru5.setFar (q := ⟨bx, 3, none⟩) (show n < bx by omega) (.int .i64 kk)
        obtain ⟨u6, hu6⟩ : ∃ x, u5.setCell ⟨bx, 3, none⟩ (.int .i64 kk) = x := ⟨_, rfl⟩
        rw [hu6] at Bu6 Ku6 Ru6
        have z0 := Bu6.c0
        have z1 := Bu6.c1
        have z2 := Bu6.c2
        have z3 := Bu6.c3
        have KW := Ku6.size
        obtain ⟨⟨y0, y1, y2, y3⟩, g0, g1, g2, g3⟩ := HQ.out _ Ku6
        go_wp2_with fail
        try rw [hu6]
        obtain ⟨r0, r1, r2, r3⟩ := put4 (.int .i64 (2)) (.int .i64 (0)) (.int .i64 (0)) (.int .i64 (kk)) y0 y1 y2 y3
        exact bodyPost_ret (v := ddV ⟨2, 0, 0, kk⟩) (by simp [results, ddV, Tryz.results13, go_sem, r0, r1, r2, r3]) rfl ⟨_, _, rfl, (K0w.trans Ku6).setNew4 (Nat.le_refl _) _ _ _ _, Ru6.setFar4 (by omega) _ _ _ _, by omega⟩
    have e0 : (K == 0) = false := by rw [beq_eq_false_iff_ne]; exact hk0
    have e2 : (K == 2) = false := by rw [beq_eq_false_iff_ne]; exact hk2
    go_wp2_with fail
    refine (odd n _ a len cap zs (p + 1 + 1) _ Ru0 (by omega) (by omega) (by omega)).mono ?_
    rintro e u1 ⟨x1, rfl, k1, Ru1⟩
    have Bu1 := Bu0.kept k1 NBX
    have Ku1 := Ku0.trans k1
    rcases hx1 : x1 with _ | _
    · have z0 := Bu1.c0
      have z1 := Bu1.c1
      have z2 := Bu1.c2
      have z3 := Bu1.c3
      have KW := Ku1.size
      obtain ⟨⟨y0, y1, y2, y3⟩, g0, g1, g2, g3⟩ := HQ.out _ Ku1
      go_wp2_with fail
      obtain ⟨r0, r1, r2, r3⟩ := put4 (.int .i64 (K)) (.int .i64 (0)) (.int .i64 (0)) (.int .i64 (0)) y0 y1 y2 y3
      exact bodyPost_ret (v := ddV ⟨K, 0, 0, 0⟩) (by simp [results, ddV, Tryz.results13, go_sem, r0, r1, r2, r3]) rfl ⟨_, _, rfl, (K0w.trans Ku1).setNew4 (Nat.le_refl _) _ _ _ _, Ru1.setFar4 (by omega) _ _ _ _, by omega⟩
    · go_wp2_with fail
      have SL : (u1.alloc (.cells #[.int .i64 (-100), .int .i64 100, .int .i64 10] 3)).rowIs u1.heap.size 3 3 threeV := three_row u1
      have hb : Below u1.heap.size u1 (u1.alloc (.cells #[.int .i64 (-100), .int .i64 100, .int .i64 10] 3)) := (Below.refl _ _).alloc (Nat.le_refl _) _
      have Bu2 := Bu1.kept (Kept.of_below (n := n) hb) NBX
      have Ku2 := Ku1.trans (Kept.of_below hb)
      have Ru2 := Ru1.of_below hb
      obtain ⟨u2, hu2⟩ : ∃ x, u1.alloc (.cells #[.int .i64 (-100), .int .i64 100, .int .i64 10] 3) = x := ⟨_, rfl⟩
      rw [hu2] at SL Bu2 Ku2 Ru2
      rw [hu2]
      clear hu2 hb
      have NSL : u1.heap.size ≠ n := by have := Ru1.lt; omega
      refine (pick n _ a len cap zs (p + 1 + 1 + 1) _ Ru2 (by omega) (by omega) (by omega)).mono ?_
      rintro e u3 ⟨x3, rfl, x30, x31, k3, Ru3⟩
      have Bu3 := Bu2.kept k3 NBX
      have Ku3 := Ku2.trans k3
      have cc := (SL.of_block (k3.block _ SL.lt NSL)).cell (i := x3.toNat) (by omega)
      obtain ⟨kk, hkk⟩ := three_int x3.toNat
      rw [hkk] at cc
      have cc' : u3.cell? ⟨u1.heap.size, 0 + x3.toNat, none⟩ = some (.int .i64 kk) := by rw [Nat.zero_add]; exact cc
      clear hkk
      have y4 := Bu3.c3
      have f4 := Bu3.fr 3
      have Bu4 := Bu3.s3 kk
      have Ku4 := Ku3.setNew (q := ⟨bx, 3, none⟩) (show W.heap.size ≤ bx from hbx) (.int .i64 kk)
      have Ru4 := Ru3.setFar (q := ⟨bx, 3, none⟩) (show n < bx by omega) (.int .i64 kk)
      obtain ⟨u4, hu4⟩ : ∃ x, u3.setCell ⟨bx, 3, none⟩ (.int .i64 kk) = x := ⟨_, rfl⟩
      rw [hu4] at Bu4 Ku4 Ru4
      have z0 := Bu4.c0
      have z1 := Bu4.c1
      have z2 := Bu4.c2
      have z3 := Bu4.c3
      have KW := Ku4.size
      obtain ⟨⟨y0, y1, y2, y3⟩, g0, g1, g2, g3⟩ := HQ.out _ Ku4
      go_wp2_with fail
      try rw [hu4]
      obtain ⟨r0, r1, r2, r3⟩ := put4 (.int .i64 (K)) (.int .i64 (0)) (.int .i64 (0)) (.int .i64 (kk)) y0 y1 y2 y3
      exact bodyPost_ret (v := ddV ⟨K, 0, 0, kk⟩) (by simp [results, ddV, Tryz.results13, go_sem, r0, r1, r2, r3]) rfl ⟨_, _, rfl, (K0w.trans Ku4).setNew4 (Nat.le_refl _) _ _ _ _, Ru4.setFar4 (by omega) _ _ _ _, by omega⟩

end Go.Proofs.YtlmaeadbomnhlaaGreat
