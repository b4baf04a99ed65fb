/- Texts in one: DeedM, DeskX, DeskO, DeskP, DeskQ, DeskR, DeskY, DeskZ. -/
import Derived.Test.YtlmaeadbomnhlaaGreatQA
import Derived.Lib.ItoaNum
import Derived.Test.YtlmaeadbomnhlaaGreatQC
import Derived.Test.YtlmaeadbomnhlaaGreatOC
import Derived.Test.YtlmaeadbomnhlaaGreatMF
import Derived.Test.YtlmaeadbomnhlaaGreatMG
namespace Go.Proofs.YtlmaeadbomnhlaaGreat
set_option linter.unusedSimpArgs false
set_option linter.unusedVariables false
open Go.RowKit
theorem inR_is {n lo hi : Int} : inR n lo hi = true ↔ lo ≤ n ∧ n ≤ hi := by unfold inR; rw [decide_eq_true_eq]
end Go.Proofs.YtlmaeadbomnhlaaGreat

namespace Go.Proofs.YtlmaeadbomnhlaaGreat
set_option linter.unusedSimpArgs false
set_option linter.unusedVariables false
open Go.RowKit
def ddV (a : Dd) : Value := .agg #[.int .i64 a.kind, .int .i64 a.row, .int .i64 a.col, .int .i64 a.num]
def setInB (g : List (List Int)) (a : Dd) : Bool := decide (a.kind = 0) && (inR a.row 0 ((g.length : Int) - 1) && inR a.col 0 (((rowAt g 0).length : Int) - 1))
theorem setIn_iff {g : List (List Int)} {a : Dd} : setInB g a = true ↔ a.kind = 0 ∧ (0 ≤ a.row ∧ a.row ≤ (g.length : Int) - 1) ∧ (0 ≤ a.col ∧ a.col ≤ ((rowAt g 0).length : Int) - 1) := by
  unfold setInB; rw [Bool.and_eq_true, Bool.and_eq_true, decide_eq_true_eq, inR_is, inR_is]
theorem made_put {g : List (List Int)} {a : Dd} (h : setInB g a = true) : madeT g a = putT g a.row.toNat a.col.toNat a.num := by
  unfold madeT; rw [if_pos (setIn_iff.1 h)]
theorem made_out {g : List (List Int)} {r c v : Int} (h : setInB g ⟨0, r, c, v⟩ = false) : madeT g ⟨0, r, c, v⟩ = [] := by
  unfold madeT
  rw [if_neg (fun hx => by rw [setIn_iff.2 hx] at h; cases h), if_neg (by simp), if_neg (by simp), if_neg (by simp)]
theorem TouchS.drew {K : Nat → Prop} {a b : World} (h : TouchS K a b) : TouchS K a b.drew := ⟨h.os, h.tape, h.output, h.size, h.block⟩
theorem TouchS.put {br : Nat} {a b : World} (h : TouchS (fun x => x = br) a b) (o : Nat) (v : Value) : TouchS (fun x => x = br) a (b.setCell ⟨br, o, none⟩ v) :=
  ⟨h.os, h.tape, h.output, by simpa [World.setCell] using h.size, fun i hi => by rw [Below.heap_setCell _ _ _ _ (by show i ≠ br; exact hi)]; exact h.block i hi⟩
theorem touchCell {br b o : Nat} {a : World} {v : Value} (hb : b ≠ br) (h : a.cell? ⟨b, o, none⟩ = some v) : ∀ w', TouchS (fun x => x = br) a w' → w'.cell? ⟨b, o, none⟩ = some v := fun w' ht => (World.cell?_of_block (w := a) (ht.block b hb)).trans h
set_option maxHeartbeats 4000000 in
set_option maxRecDepth 100000 in
theorem made_spec (A : Option Addr) (c : Nat) (g : List (List Int)) (a : Dd) (hg : gameB g = true) (w : World) (h : Rows2 w (· < w.heap.size) A g) :
    Calls Tryz.prog 18 #[.slice A g.length c, ddV a] w (NewTable w (madeT g a)) := by
  obtain ⟨kind, row, col, num⟩ := a
  unfold ddV
  simp only
  have HR := Lib.hid h
  have hgm := Game.of hg
  have g1 := hgm.lo
  have g2 := hgm.hi
  have g3 := hgm.mlo
  have g4 := hgm.mhi
  have HG := Lib.hid hg
  obtain ⟨b, off, rfl⟩ := h.some (by omega)
  obtain ⟨W2, hW⟩ : ∃ W2, W2 = (w.alloc (.cells #[.int .i64 kind, .int .i64 row, .int .i64 col, .int .i64 num] 28)).alloc (.cells #[] 52) := ⟨_, rfl⟩
  have hzW : W2.heap.size = w.heap.size + 1 + 1 := by rw [hW]; simp
  have a0 : W2.cell? ⟨w.heap.size, 0, none⟩ = some (.int .i64 kind) := by rw [hW]; simp [go_sem]
  have a1 : W2.cell? ⟨w.heap.size, 1, none⟩ = some (.int .i64 row) := by rw [hW]; simp [go_sem]
  have a2 : W2.cell? ⟨w.heap.size, 2, none⟩ = some (.int .i64 col) := by rw [hW]; simp [go_sem]
  have a3 : W2.cell? ⟨w.heap.size, 3, none⟩ = some (.int .i64 num) := by rw [hW]; simp [go_sem]
  have hbW : Below w.heap.size w W2 := by rw [hW]; exact ((Below.refl _ _).alloc (Nat.le_refl _) _).alloc (by simp) _
  have HBW := Lib.hid hbW
  have HzW := Lib.hid hzW
  have s0 := stays (W := W2) (p := w.heap.size) (o := 0) (by omega) a0
  have s1 := stays (W := W2) (p := w.heap.size) (o := 1) (by omega) a1
  have s2 := stays (W := W2) (p := w.heap.size) (o := 2) (by omega) a2
  have s3 := stays (W := W2) (p := w.heap.size) (o := 3) (by omega) a3
  obtain ⟨hS, A0, c0, hc0, hl0, hm0, _⟩ := (keepRows hbW h).row (i := 0) (by omega)
  rw [Nat.add_zero] at hc0
  have s4 := stays (W := W2) (p := b) (o := off) (by have : b < w.heap.size := hS; omega) hc0
  have HS := Lib.hid (And.intro s0 (And.intro s1 (And.intro s2 s3)))
  unfold maxLen at hm0
  have q1 : IntKind.i64.wrap ((g.length : Int) - 1) = (g.length : Int) - 1 := IntWalk.i64_in _ (by omega)
  have q2 : IntKind.i64.wrap (((rowAt g 0).length : Int) - 1) = ((rowAt g 0).length : Int) - 1 := IntWalk.i64_in _ (by omega)
  have q3 : 0 < g.length := by omega
  clear h hgm hg a0 a1 a2 a3 hbW hc0 hS hzW
  go_enter Tryz.func18, Tryz.ntmps18
  go_wp2_with fail
  rw [← hW]
  clear hW
  by_cases k0 : kind = 0
  · subst k0
    rcases e1 : inR row 0 ((g.length : Int) - 1) with _ | _
    · have HX : Hid (setInB g ⟨0, row, col, num⟩ = false) := by show _ = _; unfold setInB; simp only; rw [e1]; simp
      have P1 : ∀ w', Calls Tryz.prog 37 #[.int .i64 row, .int .i64 0, .int .i64 ((g.length : Int) - 1)] w' (Same (.bool false) w') := fun w' => by have := in_spec row 0 ((g.length : Int) - 1) w'; rw [e1] at this; exact this
      clear e1
      refine wp_region_held_drew (S := fun w' => Below W2.heap.size W2 w') (by kernel_rfl) (Below.drew (Below.refl _ _)) (fun hHeld => ?_)
      refine wpAnyH_take (i := 0) (v := ?v1) rfl (by kernel_rfl) (by kernel_rfl) (by kernel_rfl) (fun _ _ _ h => h) (Or.inl ⟨by rfl, ?y1⟩) (by assumption) ?z1
      case y1 => (intro w hSw; go_simp; first | done | with_reducible rfl)
      try simp only [List.getElem_toArray, List.getElem_cons_succ, List.getElem_cons_zero, Act.put, List.setIfInBounds_toArray, List.set_cons_zero, List.set_cons_succ]
      refine wpAnyH_take (i := 1) (v := ?v2) rfl (by kernel_rfl) (by kernel_rfl) (by kernel_rfl) (fun _ _ _ h => h) (Or.inl ⟨by rfl, ?y2⟩) (by assumption) ?z2
      case y2 => (intro w hSw; go_simp; first | done | with_reducible rfl)
      try simp only [List.getElem_toArray, List.getElem_cons_succ, List.getElem_cons_zero, Act.put, List.setIfInBounds_toArray, List.set_cons_zero, List.set_cons_succ]
      refine wpAnyH_take (i := 2) (v := ?v3) rfl (by kernel_rfl) (by kernel_rfl) (by kernel_rfl) (fun _ _ _ h => h) (Or.inl ⟨by rfl, ?y3⟩) (by assumption) ?z3
      case y3 => (intro w hSw; go_simp; first | done | with_reducible rfl)
      try simp only [List.getElem_toArray, List.getElem_cons_succ, List.getElem_cons_zero, Act.put, List.setIfInBounds_toArray, List.set_cons_zero, List.set_cons_succ]
      refine wpAnyH_take (i := 3) (v := ?v4) rfl (by kernel_rfl) (by kernel_rfl) (by kernel_rfl) (fun _ _ _ h => h) (Or.inl ⟨by rfl, ?y4⟩) (by assumption) ?z4
      case y4 => (intro w hSw; go_simp; first | done | with_reducible rfl)
      try simp only [List.getElem_toArray, List.getElem_cons_succ, List.getElem_cons_zero, Act.put, List.setIfInBounds_toArray, List.set_cons_zero, List.set_cons_succ]
      refine wpAnyH_take (i := 4) (v := ?v5) rfl (by kernel_rfl) (by kernel_rfl) (by kernel_rfl) (fun _ _ _ h => h) (Or.inl ⟨by rfl, ?y5⟩) (by assumption) ?z5
      case y5 => (intro w hSw; go_simp; first | done | with_reducible rfl)
      try simp only [List.getElem_toArray, List.getElem_cons_succ, List.getElem_cons_zero, Act.put, List.setIfInBounds_toArray, List.set_cons_zero, List.set_cons_succ]
      refine wpAnyH_take (i := 5) (v := ?v6) rfl (by kernel_rfl) (by kernel_rfl) (by kernel_rfl) (fun _ _ _ h => h) (Or.inl ⟨by rfl, ?y6⟩) (by assumption) ?z6
      case y6 => (intro w hSw; go_simp; first | done | with_reducible rfl)
      try simp only [List.getElem_toArray, List.getElem_cons_succ, List.getElem_cons_zero, Act.put, List.setIfInBounds_toArray, List.set_cons_zero, List.set_cons_succ]
      refine wpAnyH_take (i := 6) (v := ?v7) rfl (by kernel_rfl) (by kernel_rfl) (by kernel_rfl) (fun _ _ _ h => h) (Or.inl ⟨by rfl, ?y7⟩) (by assumption) ?z7
      case y7 => (intro w hSw; go_simp; first | done | with_reducible rfl)
      try simp only [List.getElem_toArray, List.getElem_cons_succ, List.getElem_cons_zero, Act.put, List.setIfInBounds_toArray, List.set_cons_zero, List.set_cons_succ]
      refine wpAnyH_take (i := 7) (v := ?v8) rfl (by kernel_rfl) (by kernel_rfl) (by kernel_rfl) (fun _ _ _ h => h) (Or.inl ⟨by rfl, ?y8⟩) (by assumption) ?z8
      case y8 => (intro w hSw; go_simp; first | done | with_reducible rfl)
      try simp only [List.getElem_toArray, List.getElem_cons_succ, List.getElem_cons_zero, Act.put, List.setIfInBounds_toArray, List.set_cons_zero, List.set_cons_succ]
      refine wpAnyH_take (i := 8) (v := ?v9) rfl (by kernel_rfl) (by kernel_rfl) (by kernel_rfl) (fun _ _ _ h => h) (Or.inl ⟨by rfl, ?y9⟩) (by assumption) ?z9
      case y9 => (intro w hSw; go_simp; first | done | with_reducible rfl)
      try simp only [List.getElem_toArray, List.getElem_cons_succ, List.getElem_cons_zero, Act.put, List.setIfInBounds_toArray, List.set_cons_zero, List.set_cons_succ]
      refine wpAnyH_ready (rs := [9]) (by kernel_rfl) (by simp) ?_
      refine AllReadyH.cons rfl (fun K hK => ?_) AllReadyH.nil
      go_simp
      (go_at_call 37; refine (P1 _).mono ?_; rintro e w9 ⟨rfl, rfl⟩)
      refine hK.out _ _ (by first | assumption) (fun hHeld => ?_)
      clear hK K
      try simp only [List.getElem_toArray, List.getElem_cons_succ, List.getElem_cons_zero, Act.put, List.setIfInBounds_toArray, List.set_cons_zero, List.set_cons_succ]
      refine wpAnyH_take (i := 10) (v := ?v11) rfl (by kernel_rfl) (by kernel_rfl) (by kernel_rfl) (fun _ _ _ h => h) (Or.inl ⟨by rfl, ?y11⟩) (by assumption) ?z11
      case y11 => (intro w hSw; go_simp; first | done | with_reducible rfl)
      try simp only [List.getElem_toArray, List.getElem_cons_succ, List.getElem_cons_zero, Act.put, List.setIfInBounds_toArray, List.set_cons_zero, List.set_cons_succ]
      refine wpAnyH_take (i := 11) (v := ?v12) rfl (by kernel_rfl) (by kernel_rfl) (by kernel_rfl) (fun _ _ _ h => h) (Or.inl ⟨by rfl, ?y12⟩) (by assumption) ?z12
      case y12 => (intro w hSw; go_simp; first | done | with_reducible rfl)
      try simp only [List.getElem_toArray, List.getElem_cons_succ, List.getElem_cons_zero, Act.put, List.setIfInBounds_toArray, List.set_cons_zero, List.set_cons_succ]
      refine wpAnyH_take (i := 12) rfl (by kernel_rfl) (by kernel_rfl) (by kernel_rfl) (fun _ _ _ h => h) (Or.inr ⟨by rfl, rfl⟩) (by assumption) ?_
      try simp only [List.getElem_toArray, List.getElem_cons_succ, List.getElem_cons_zero, Act.put, List.setIfInBounds_toArray, List.set_cons_zero, List.set_cons_succ]
      refine wpAnyH_take (i := 13) rfl (by kernel_rfl) (by kernel_rfl) (by kernel_rfl) (fun _ _ _ h => h) (Or.inr ⟨by rfl, rfl⟩) (by assumption) ?_
      try simp only [List.getElem_toArray, List.getElem_cons_succ, List.getElem_cons_zero, Act.put, List.setIfInBounds_toArray, List.set_cons_zero, List.set_cons_succ]
      refine wpAnyH_take (i := 14) rfl (by kernel_rfl) (by kernel_rfl) (by kernel_rfl) (fun _ _ _ h => h) (Or.inr ⟨by rfl, rfl⟩) (by assumption) ?_
      try simp only [List.getElem_toArray, List.getElem_cons_succ, List.getElem_cons_zero, Act.put, List.setIfInBounds_toArray, List.set_cons_zero, List.set_cons_succ]
      refine wpAnyH_take (i := 15) rfl (by kernel_rfl) (by kernel_rfl) (by kernel_rfl) (fun _ _ _ h => h) (Or.inr ⟨by rfl, rfl⟩) (by assumption) ?_
      try simp only [List.getElem_toArray, List.getElem_cons_succ, List.getElem_cons_zero, Act.put, List.setIfInBounds_toArray, List.set_cons_zero, List.set_cons_succ]
      refine wpAnyH_take (i := 16) rfl (by kernel_rfl) (by kernel_rfl) (by kernel_rfl) (fun _ _ _ h => h) (Or.inr ⟨by rfl, rfl⟩) (by assumption) ?_
      try simp only [List.getElem_toArray, List.getElem_cons_succ, List.getElem_cons_zero, Act.put, List.setIfInBounds_toArray, List.set_cons_zero, List.set_cons_succ]
      refine wpAnyH_take (i := 17) rfl (by kernel_rfl) (by kernel_rfl) (by kernel_rfl) (fun _ _ _ h => h) (Or.inr ⟨by rfl, rfl⟩) (by assumption) ?_
      try simp only [List.getElem_toArray, List.getElem_cons_succ, List.getElem_cons_zero, Act.put, List.setIfInBounds_toArray, List.set_cons_zero, List.set_cons_succ]
      refine wpAnyH_take (i := 18) rfl (by kernel_rfl) (by kernel_rfl) (by kernel_rfl) (fun _ _ _ h => h) (Or.inr ⟨by rfl, rfl⟩) (by assumption) ?_
      try simp only [List.getElem_toArray, List.getElem_cons_succ, List.getElem_cons_zero, Act.put, List.setIfInBounds_toArray, List.set_cons_zero, List.set_cons_succ]
      refine wpAnyH_take (i := 19) rfl (by kernel_rfl) (by kernel_rfl) (by kernel_rfl) (fun _ _ _ h => h) (Or.inr ⟨by rfl, rfl⟩) (by assumption) ?_
      try simp only [List.getElem_toArray, List.getElem_cons_succ, List.getElem_cons_zero, Act.put, List.setIfInBounds_toArray, List.set_cons_zero, List.set_cons_succ]
      refine wpAnyH_take (i := 20) (v := ?v21) rfl (by kernel_rfl) (by kernel_rfl) (by kernel_rfl) (fun _ _ _ h => h) (Or.inl ⟨by rfl, ?y21⟩) (by assumption) ?z21
      case y21 => (intro w hSw; go_simp; first | done | with_reducible rfl)
      try simp only [List.getElem_toArray, List.getElem_cons_succ, List.getElem_cons_zero, Act.put, List.setIfInBounds_toArray, List.set_cons_zero, List.set_cons_succ]
      refine wpAnyH_take (i := 21) (v := ?v22) rfl (by kernel_rfl) (by kernel_rfl) (by kernel_rfl) (fun _ _ _ h => h) (Or.inl ⟨by rfl, ?y22⟩) (by assumption) ?z22
      case y22 => (intro w hSw; go_simp; first | done | with_reducible rfl)
      try simp only [List.getElem_toArray, List.getElem_cons_succ, List.getElem_cons_zero, Act.put, List.setIfInBounds_toArray, List.set_cons_zero, List.set_cons_succ]
      refine wpAnyH_done (by kernel_rfl) ?_ _
      have HBd : Hid (Below w.heap.size w W2.drew) := HBW.out.drew
      have HRd : Hid (Rows2 W2.drew (· < W2.drew.heap.size) (some ⟨b, off, none⟩) g) := (keepRows HBd.out HR.out).lt HBd.out.size
      go_wp2_with fail
      all_goals (go_ret; rw [made_out HX.out]; exact ⟨_, _, rfl, HBd.out, fun h0 => absurd h0 (by simp)⟩)
    rcases e2 : inR col 0 (((rowAt g 0).length : Int) - 1) with _ | _
    · have HX : Hid (setInB g ⟨0, row, col, num⟩ = false) := by show _ = _; unfold setInB; simp only; rw [e2]; simp
      have P1 : ∀ w', Calls Tryz.prog 37 #[.int .i64 row, .int .i64 0, .int .i64 ((g.length : Int) - 1)] w' (Same (.bool true) w') := fun w' => by have := in_spec row 0 ((g.length : Int) - 1) w'; rw [e1] at this; exact this
      have P2 : ∀ w', Calls Tryz.prog 37 #[.int .i64 col, .int .i64 0, .int .i64 (((rowAt g 0).length : Int) - 1)] w' (Same (.bool false) w') := fun w' => by have := in_spec col 0 (((rowAt g 0).length : Int) - 1) w'; rw [e2] at this; exact this
      clear e1 e2
      refine wp_region_held_drew (S := fun w' => Below W2.heap.size W2 w') (by kernel_rfl) (Below.drew (Below.refl _ _)) (fun hHeld => ?_)
      refine wpAnyH_take (i := 0) (v := ?v23) rfl (by kernel_rfl) (by kernel_rfl) (by kernel_rfl) (fun _ _ _ h => h) (Or.inl ⟨by rfl, ?y23⟩) (by assumption) ?z23
      case y23 => (intro w hSw; go_simp; first | done | with_reducible rfl)
      try simp only [List.getElem_toArray, List.getElem_cons_succ, List.getElem_cons_zero, Act.put, List.setIfInBounds_toArray, List.set_cons_zero, List.set_cons_succ]
      refine wpAnyH_take (i := 1) (v := ?v24) rfl (by kernel_rfl) (by kernel_rfl) (by kernel_rfl) (fun _ _ _ h => h) (Or.inl ⟨by rfl, ?y24⟩) (by assumption) ?z24
      case y24 => (intro w hSw; go_simp; first | done | with_reducible rfl)
      try simp only [List.getElem_toArray, List.getElem_cons_succ, List.getElem_cons_zero, Act.put, List.setIfInBounds_toArray, List.set_cons_zero, List.set_cons_succ]
      refine wpAnyH_take (i := 2) (v := ?v25) rfl (by kernel_rfl) (by kernel_rfl) (by kernel_rfl) (fun _ _ _ h => h) (Or.inl ⟨by rfl, ?y25⟩) (by assumption) ?z25
      case y25 => (intro w hSw; go_simp; first | done | with_reducible rfl)
      try simp only [List.getElem_toArray, List.getElem_cons_succ, List.getElem_cons_zero, Act.put, List.setIfInBounds_toArray, List.set_cons_zero, List.set_cons_succ]
      refine wpAnyH_take (i := 3) (v := ?v26) rfl (by kernel_rfl) (by kernel_rfl) (by kernel_rfl) (fun _ _ _ h => h) (Or.inl ⟨by rfl, ?y26⟩) (by assumption) ?z26
      case y26 => (intro w hSw; go_simp; first | done | with_reducible rfl)
      try simp only [List.getElem_toArray, List.getElem_cons_succ, List.getElem_cons_zero, Act.put, List.setIfInBounds_toArray, List.set_cons_zero, List.set_cons_succ]
      refine wpAnyH_take (i := 4) (v := ?v27) rfl (by kernel_rfl) (by kernel_rfl) (by kernel_rfl) (fun _ _ _ h => h) (Or.inl ⟨by rfl, ?y27⟩) (by assumption) ?z27
      case y27 => (intro w hSw; go_simp; first | done | with_reducible rfl)
      try simp only [List.getElem_toArray, List.getElem_cons_succ, List.getElem_cons_zero, Act.put, List.setIfInBounds_toArray, List.set_cons_zero, List.set_cons_succ]
      refine wpAnyH_take (i := 5) (v := ?v28) rfl (by kernel_rfl) (by kernel_rfl) (by kernel_rfl) (fun _ _ _ h => h) (Or.inl ⟨by rfl, ?y28⟩) (by assumption) ?z28
      case y28 => (intro w hSw; go_simp; first | done | with_reducible rfl)
      try simp only [List.getElem_toArray, List.getElem_cons_succ, List.getElem_cons_zero, Act.put, List.setIfInBounds_toArray, List.set_cons_zero, List.set_cons_succ]
      refine wpAnyH_take (i := 6) (v := ?v29) rfl (by kernel_rfl) (by kernel_rfl) (by kernel_rfl) (fun _ _ _ h => h) (Or.inl ⟨by rfl, ?y29⟩) (by assumption) ?z29
      case y29 => (intro w hSw; go_simp; first | done | with_reducible rfl)
      try simp only [List.getElem_toArray, List.getElem_cons_succ, List.getElem_cons_zero, Act.put, List.setIfInBounds_toArray, List.set_cons_zero, List.set_cons_succ]
      refine wpAnyH_take (i := 7) (v := ?v30) rfl (by kernel_rfl) (by kernel_rfl) (by kernel_rfl) (fun _ _ _ h => h) (Or.inl ⟨by rfl, ?y30⟩) (by assumption) ?z30
      case y30 => (intro w hSw; go_simp; first | done | with_reducible rfl)
      try simp only [List.getElem_toArray, List.getElem_cons_succ, List.getElem_cons_zero, Act.put, List.setIfInBounds_toArray, List.set_cons_zero, List.set_cons_succ]
      refine wpAnyH_take (i := 8) (v := ?v31) rfl (by kernel_rfl) (by kernel_rfl) (by kernel_rfl) (fun _ _ _ h => h) (Or.inl ⟨by rfl, ?y31⟩) (by assumption) ?z31
      case y31 => (intro w hSw; go_simp; first | done | with_reducible rfl)
      try simp only [List.getElem_toArray, List.getElem_cons_succ, List.getElem_cons_zero, Act.put, List.setIfInBounds_toArray, List.set_cons_zero, List.set_cons_succ]
      refine wpAnyH_ready (rs := [9]) (by kernel_rfl) (by simp) ?_
      refine AllReadyH.cons rfl (fun K hK => ?_) AllReadyH.nil
      go_simp
      (go_at_call 37; refine (P1 _).mono ?_; rintro e w9 ⟨rfl, rfl⟩)
      refine hK.out _ _ (by first | assumption) (fun hHeld => ?_)
      clear hK K
      try simp only [List.getElem_toArray, List.getElem_cons_succ, List.getElem_cons_zero, Act.put, List.setIfInBounds_toArray, List.set_cons_zero, List.set_cons_succ]
      refine wpAnyH_take (i := 10) (v := ?v33) rfl (by kernel_rfl) (by kernel_rfl) (by kernel_rfl) (fun _ _ _ h => h) (Or.inl ⟨by rfl, ?y33⟩) (by assumption) ?z33
      case y33 => (intro w hSw; go_simp; first | done | with_reducible rfl)
      try simp only [List.getElem_toArray, List.getElem_cons_succ, List.getElem_cons_zero, Act.put, List.setIfInBounds_toArray, List.set_cons_zero, List.set_cons_succ]
      refine wpAnyH_take (i := 11) (v := ?v34) rfl (by kernel_rfl) (by kernel_rfl) (by kernel_rfl) (fun _ _ _ h => h) (Or.inl ⟨by rfl, ?y34⟩) (by assumption) ?z34
      case y34 => (intro w hSw; go_simp; first | done | with_reducible rfl)
      try simp only [List.getElem_toArray, List.getElem_cons_succ, List.getElem_cons_zero, Act.put, List.setIfInBounds_toArray, List.set_cons_zero, List.set_cons_succ]
      refine wpAnyH_take (i := 12) (v := ?v35) rfl (by kernel_rfl) (by kernel_rfl) (by kernel_rfl) (fun _ _ _ h => h) (Or.inl ⟨by rfl, ?y35⟩) (by assumption) ?z35
      case y35 => (intro w hSw; go_simp; first | done | with_reducible rfl)
      try simp only [List.getElem_toArray, List.getElem_cons_succ, List.getElem_cons_zero, Act.put, List.setIfInBounds_toArray, List.set_cons_zero, List.set_cons_succ]
      refine wpAnyH_take (i := 13) (v := ?v36) rfl (by kernel_rfl) (by kernel_rfl) (by kernel_rfl) (fun _ _ _ h => h) (Or.inl ⟨by rfl, ?y36⟩) (by assumption) ?z36
      case y36 => (intro w hSw; go_simp; first | done | with_reducible rfl)
      try simp only [List.getElem_toArray, List.getElem_cons_succ, List.getElem_cons_zero, Act.put, List.setIfInBounds_toArray, List.set_cons_zero, List.set_cons_succ]
      refine wpAnyH_take (i := 14) (v := ?v37) rfl (by kernel_rfl) (by kernel_rfl) (by kernel_rfl) (fun _ _ _ h => h) (Or.inl ⟨by rfl, ?y37⟩) (by assumption) ?z37
      case y37 => (intro w hSw; go_simp; first | done | with_reducible rfl)
      try simp only [List.getElem_toArray, List.getElem_cons_succ, List.getElem_cons_zero, Act.put, List.setIfInBounds_toArray, List.set_cons_zero, List.set_cons_succ]
      refine wpAnyH_take (i := 15) (v := ?v38) rfl (by kernel_rfl) (by kernel_rfl) (by kernel_rfl) (fun _ _ _ h => h) (Or.inl ⟨by rfl, ?y38⟩) (by assumption) ?z38
      case y38 => (intro w hSw; go_simp; first | done | with_reducible rfl)
      try simp only [List.getElem_toArray, List.getElem_cons_succ, List.getElem_cons_zero, Act.put, List.setIfInBounds_toArray, List.set_cons_zero, List.set_cons_succ]
      refine wpAnyH_take (i := 16) (v := ?v39) rfl (by kernel_rfl) (by kernel_rfl) (by kernel_rfl) (fun _ _ _ h => h) (Or.inl ⟨by rfl, ?y39⟩) (by assumption) ?z39
      case y39 => (intro w hSw; go_simp; first | done | with_reducible rfl)
      try simp only [List.getElem_toArray, List.getElem_cons_succ, List.getElem_cons_zero, Act.put, List.setIfInBounds_toArray, List.set_cons_zero, List.set_cons_succ]
      refine wpAnyH_take (i := 17) (v := ?v40) rfl (by kernel_rfl) (by kernel_rfl) (by kernel_rfl) (fun _ _ _ h => h) (Or.inl ⟨by rfl, ?y40⟩) (by assumption) ?z40
      case y40 => (intro w hSw; go_simp; first | done | with_reducible rfl)
      try simp only [List.getElem_toArray, List.getElem_cons_succ, List.getElem_cons_zero, Act.put, List.setIfInBounds_toArray, List.set_cons_zero, List.set_cons_succ]
      refine wpAnyH_take (i := 18) (v := ?v41) rfl (by kernel_rfl) (by kernel_rfl) (by kernel_rfl) (fun _ _ _ h => h) (Or.inl ⟨by rfl, ?y41⟩) (by assumption) ?z41
      case y41 => (intro w hSw; go_simp; first | done | with_reducible rfl)
      try simp only [List.getElem_toArray, List.getElem_cons_succ, List.getElem_cons_zero, Act.put, List.setIfInBounds_toArray, List.set_cons_zero, List.set_cons_succ]
      refine wpAnyH_ready (rs := [19]) (by kernel_rfl) (by simp) ?_
      refine AllReadyH.cons rfl (fun K hK => ?_) AllReadyH.nil
      go_simp
      (go_at_call 37; refine (P2 _).mono ?_; rintro e w9 ⟨rfl, rfl⟩)
      refine hK.out _ _ (by first | assumption) (fun hHeld => ?_)
      clear hK K
      try simp only [List.getElem_toArray, List.getElem_cons_succ, List.getElem_cons_zero, Act.put, List.setIfInBounds_toArray, List.set_cons_zero, List.set_cons_succ]
      refine wpAnyH_take (i := 20) (v := ?v43) rfl (by kernel_rfl) (by kernel_rfl) (by kernel_rfl) (fun _ _ _ h => h) (Or.inl ⟨by rfl, ?y43⟩) (by assumption) ?z43
      case y43 => (intro w hSw; go_simp; first | done | with_reducible rfl)
      try simp only [List.getElem_toArray, List.getElem_cons_succ, List.getElem_cons_zero, Act.put, List.setIfInBounds_toArray, List.set_cons_zero, List.set_cons_succ]
      refine wpAnyH_take (i := 21) (v := ?v44) rfl (by kernel_rfl) (by kernel_rfl) (by kernel_rfl) (fun _ _ _ h => h) (Or.inl ⟨by rfl, ?y44⟩) (by assumption) ?z44
      case y44 => (intro w hSw; go_simp; first | done | with_reducible rfl)
      try simp only [List.getElem_toArray, List.getElem_cons_succ, List.getElem_cons_zero, Act.put, List.setIfInBounds_toArray, List.set_cons_zero, List.set_cons_succ]
      refine wpAnyH_done (by kernel_rfl) ?_ _
      have HBd : Hid (Below w.heap.size w W2.drew) := HBW.out.drew
      have HRd : Hid (Rows2 W2.drew (· < W2.drew.heap.size) (some ⟨b, off, none⟩) g) := (keepRows HBd.out HR.out).lt HBd.out.size
      go_wp2_with fail
      all_goals (go_ret; rw [made_out HX.out]; exact ⟨_, _, rfl, HBd.out, fun h0 => absurd h0 (by simp)⟩)
    · have HX : Hid (setInB g ⟨0, row, col, num⟩ = true) := by show _ = _; unfold setInB; simp only; rw [e1, e2]; simp
      have P1 : ∀ w', Calls Tryz.prog 37 #[.int .i64 row, .int .i64 0, .int .i64 ((g.length : Int) - 1)] w' (Same (.bool true) w') := fun w' => by have := in_spec row 0 ((g.length : Int) - 1) w'; rw [e1] at this; exact this
      have P2 : ∀ w', Calls Tryz.prog 37 #[.int .i64 col, .int .i64 0, .int .i64 (((rowAt g 0).length : Int) - 1)] w' (Same (.bool true) w') := fun w' => by have := in_spec col 0 (((rowAt g 0).length : Int) - 1) w'; rw [e2] at this; exact this
      clear e1 e2
      refine wp_region_held_drew (S := fun w' => Below W2.heap.size W2 w') (by kernel_rfl) (Below.drew (Below.refl _ _)) (fun hHeld => ?_)
      refine wpAnyH_take (i := 0) (v := ?v45) rfl (by kernel_rfl) (by kernel_rfl) (by kernel_rfl) (fun _ _ _ h => h) (Or.inl ⟨by rfl, ?y45⟩) (by assumption) ?z45
      case y45 => (intro w hSw; go_simp; first | done | with_reducible rfl)
      try simp only [List.getElem_toArray, List.getElem_cons_succ, List.getElem_cons_zero, Act.put, List.setIfInBounds_toArray, List.set_cons_zero, List.set_cons_succ]
      refine wpAnyH_take (i := 1) (v := ?v46) rfl (by kernel_rfl) (by kernel_rfl) (by kernel_rfl) (fun _ _ _ h => h) (Or.inl ⟨by rfl, ?y46⟩) (by assumption) ?z46
      case y46 => (intro w hSw; go_simp; first | done | with_reducible rfl)
      try simp only [List.getElem_toArray, List.getElem_cons_succ, List.getElem_cons_zero, Act.put, List.setIfInBounds_toArray, List.set_cons_zero, List.set_cons_succ]
      refine wpAnyH_take (i := 2) (v := ?v47) rfl (by kernel_rfl) (by kernel_rfl) (by kernel_rfl) (fun _ _ _ h => h) (Or.inl ⟨by rfl, ?y47⟩) (by assumption) ?z47
      case y47 => (intro w hSw; go_simp; first | done | with_reducible rfl)
      try simp only [List.getElem_toArray, List.getElem_cons_succ, List.getElem_cons_zero, Act.put, List.setIfInBounds_toArray, List.set_cons_zero, List.set_cons_succ]
      refine wpAnyH_take (i := 3) (v := ?v48) rfl (by kernel_rfl) (by kernel_rfl) (by kernel_rfl) (fun _ _ _ h => h) (Or.inl ⟨by rfl, ?y48⟩) (by assumption) ?z48
      case y48 => (intro w hSw; go_simp; first | done | with_reducible rfl)
      try simp only [List.getElem_toArray, List.getElem_cons_succ, List.getElem_cons_zero, Act.put, List.setIfInBounds_toArray, List.set_cons_zero, List.set_cons_succ]
      refine wpAnyH_take (i := 4) (v := ?v49) rfl (by kernel_rfl) (by kernel_rfl) (by kernel_rfl) (fun _ _ _ h => h) (Or.inl ⟨by rfl, ?y49⟩) (by assumption) ?z49
      case y49 => (intro w hSw; go_simp; first | done | with_reducible rfl)
      try simp only [List.getElem_toArray, List.getElem_cons_succ, List.getElem_cons_zero, Act.put, List.setIfInBounds_toArray, List.set_cons_zero, List.set_cons_succ]
      refine wpAnyH_take (i := 5) (v := ?v50) rfl (by kernel_rfl) (by kernel_rfl) (by kernel_rfl) (fun _ _ _ h => h) (Or.inl ⟨by rfl, ?y50⟩) (by assumption) ?z50
      case y50 => (intro w hSw; go_simp; first | done | with_reducible rfl)
      try simp only [List.getElem_toArray, List.getElem_cons_succ, List.getElem_cons_zero, Act.put, List.setIfInBounds_toArray, List.set_cons_zero, List.set_cons_succ]
      refine wpAnyH_take (i := 6) (v := ?v51) rfl (by kernel_rfl) (by kernel_rfl) (by kernel_rfl) (fun _ _ _ h => h) (Or.inl ⟨by rfl, ?y51⟩) (by assumption) ?z51
      case y51 => (intro w hSw; go_simp; first | done | with_reducible rfl)
      try simp only [List.getElem_toArray, List.getElem_cons_succ, List.getElem_cons_zero, Act.put, List.setIfInBounds_toArray, List.set_cons_zero, List.set_cons_succ]
      refine wpAnyH_take (i := 7) (v := ?v52) rfl (by kernel_rfl) (by kernel_rfl) (by kernel_rfl) (fun _ _ _ h => h) (Or.inl ⟨by rfl, ?y52⟩) (by assumption) ?z52
      case y52 => (intro w hSw; go_simp; first | done | with_reducible rfl)
      try simp only [List.getElem_toArray, List.getElem_cons_succ, List.getElem_cons_zero, Act.put, List.setIfInBounds_toArray, List.set_cons_zero, List.set_cons_succ]
      refine wpAnyH_take (i := 8) (v := ?v53) rfl (by kernel_rfl) (by kernel_rfl) (by kernel_rfl) (fun _ _ _ h => h) (Or.inl ⟨by rfl, ?y53⟩) (by assumption) ?z53
      case y53 => (intro w hSw; go_simp; first | done | with_reducible rfl)
      try simp only [List.getElem_toArray, List.getElem_cons_succ, List.getElem_cons_zero, Act.put, List.setIfInBounds_toArray, List.set_cons_zero, List.set_cons_succ]
      refine wpAnyH_ready (rs := [9]) (by kernel_rfl) (by simp) ?_
      refine AllReadyH.cons rfl (fun K hK => ?_) AllReadyH.nil
      go_simp
      (go_at_call 37; refine (P1 _).mono ?_; rintro e w9 ⟨rfl, rfl⟩)
      refine hK.out _ _ (by first | assumption) (fun hHeld => ?_)
      clear hK K
      try simp only [List.getElem_toArray, List.getElem_cons_succ, List.getElem_cons_zero, Act.put, List.setIfInBounds_toArray, List.set_cons_zero, List.set_cons_succ]
      refine wpAnyH_take (i := 10) (v := ?v55) rfl (by kernel_rfl) (by kernel_rfl) (by kernel_rfl) (fun _ _ _ h => h) (Or.inl ⟨by rfl, ?y55⟩) (by assumption) ?z55
      case y55 => (intro w hSw; go_simp; first | done | with_reducible rfl)
      try simp only [List.getElem_toArray, List.getElem_cons_succ, List.getElem_cons_zero, Act.put, List.setIfInBounds_toArray, List.set_cons_zero, List.set_cons_succ]
      refine wpAnyH_take (i := 11) (v := ?v56) rfl (by kernel_rfl) (by kernel_rfl) (by kernel_rfl) (fun _ _ _ h => h) (Or.inl ⟨by rfl, ?y56⟩) (by assumption) ?z56
      case y56 => (intro w hSw; go_simp; first | done | with_reducible rfl)
      try simp only [List.getElem_toArray, List.getElem_cons_succ, List.getElem_cons_zero, Act.put, List.setIfInBounds_toArray, List.set_cons_zero, List.set_cons_succ]
      refine wpAnyH_take (i := 12) (v := ?v57) rfl (by kernel_rfl) (by kernel_rfl) (by kernel_rfl) (fun _ _ _ h => h) (Or.inl ⟨by rfl, ?y57⟩) (by assumption) ?z57
      case y57 => (intro w hSw; go_simp; first | done | with_reducible rfl)
      try simp only [List.getElem_toArray, List.getElem_cons_succ, List.getElem_cons_zero, Act.put, List.setIfInBounds_toArray, List.set_cons_zero, List.set_cons_succ]
      refine wpAnyH_take (i := 13) (v := ?v58) rfl (by kernel_rfl) (by kernel_rfl) (by kernel_rfl) (fun _ _ _ h => h) (Or.inl ⟨by rfl, ?y58⟩) (by assumption) ?z58
      case y58 => (intro w hSw; go_simp; first | done | with_reducible rfl)
      try simp only [List.getElem_toArray, List.getElem_cons_succ, List.getElem_cons_zero, Act.put, List.setIfInBounds_toArray, List.set_cons_zero, List.set_cons_succ]
      refine wpAnyH_take (i := 14) (v := ?v59) rfl (by kernel_rfl) (by kernel_rfl) (by kernel_rfl) (fun _ _ _ h => h) (Or.inl ⟨by rfl, ?y59⟩) (by assumption) ?z59
      case y59 => (intro w hSw; go_simp; first | done | with_reducible rfl)
      try simp only [List.getElem_toArray, List.getElem_cons_succ, List.getElem_cons_zero, Act.put, List.setIfInBounds_toArray, List.set_cons_zero, List.set_cons_succ]
      refine wpAnyH_take (i := 15) (v := ?v60) rfl (by kernel_rfl) (by kernel_rfl) (by kernel_rfl) (fun _ _ _ h => h) (Or.inl ⟨by rfl, ?y60⟩) (by assumption) ?z60
      case y60 => (intro w hSw; go_simp; first | done | with_reducible rfl)
      try simp only [List.getElem_toArray, List.getElem_cons_succ, List.getElem_cons_zero, Act.put, List.setIfInBounds_toArray, List.set_cons_zero, List.set_cons_succ]
      refine wpAnyH_take (i := 16) (v := ?v61) rfl (by kernel_rfl) (by kernel_rfl) (by kernel_rfl) (fun _ _ _ h => h) (Or.inl ⟨by rfl, ?y61⟩) (by assumption) ?z61
      case y61 => (intro w hSw; go_simp; first | done | with_reducible rfl)
      try simp only [List.getElem_toArray, List.getElem_cons_succ, List.getElem_cons_zero, Act.put, List.setIfInBounds_toArray, List.set_cons_zero, List.set_cons_succ]
      refine wpAnyH_take (i := 17) (v := ?v62) rfl (by kernel_rfl) (by kernel_rfl) (by kernel_rfl) (fun _ _ _ h => h) (Or.inl ⟨by rfl, ?y62⟩) (by assumption) ?z62
      case y62 => (intro w hSw; go_simp; first | done | with_reducible rfl)
      try simp only [List.getElem_toArray, List.getElem_cons_succ, List.getElem_cons_zero, Act.put, List.setIfInBounds_toArray, List.set_cons_zero, List.set_cons_succ]
      refine wpAnyH_take (i := 18) (v := ?v63) rfl (by kernel_rfl) (by kernel_rfl) (by kernel_rfl) (fun _ _ _ h => h) (Or.inl ⟨by rfl, ?y63⟩) (by assumption) ?z63
      case y63 => (intro w hSw; go_simp; first | done | with_reducible rfl)
      try simp only [List.getElem_toArray, List.getElem_cons_succ, List.getElem_cons_zero, Act.put, List.setIfInBounds_toArray, List.set_cons_zero, List.set_cons_succ]
      refine wpAnyH_ready (rs := [19]) (by kernel_rfl) (by simp) ?_
      refine AllReadyH.cons rfl (fun K hK => ?_) AllReadyH.nil
      go_simp
      (go_at_call 37; refine (P2 _).mono ?_; rintro e w9 ⟨rfl, rfl⟩)
      refine hK.out _ _ (by first | assumption) (fun hHeld => ?_)
      clear hK K
      try simp only [List.getElem_toArray, List.getElem_cons_succ, List.getElem_cons_zero, Act.put, List.setIfInBounds_toArray, List.set_cons_zero, List.set_cons_succ]
      refine wpAnyH_take (i := 20) (v := ?v65) rfl (by kernel_rfl) (by kernel_rfl) (by kernel_rfl) (fun _ _ _ h => h) (Or.inl ⟨by rfl, ?y65⟩) (by assumption) ?z65
      case y65 => (intro w hSw; go_simp; first | done | with_reducible rfl)
      try simp only [List.getElem_toArray, List.getElem_cons_succ, List.getElem_cons_zero, Act.put, List.setIfInBounds_toArray, List.set_cons_zero, List.set_cons_succ]
      refine wpAnyH_take (i := 21) (v := ?v66) rfl (by kernel_rfl) (by kernel_rfl) (by kernel_rfl) (fun _ _ _ h => h) (Or.inl ⟨by rfl, ?y66⟩) (by assumption) ?z66
      case y66 => (intro w hSw; go_simp; first | done | with_reducible rfl)
      try simp only [List.getElem_toArray, List.getElem_cons_succ, List.getElem_cons_zero, Act.put, List.setIfInBounds_toArray, List.set_cons_zero, List.set_cons_succ]
      refine wpAnyH_done (by kernel_rfl) ?_ _
      have HBd : Hid (Below w.heap.size w W2.drew) := HBW.out.drew
      have HRd : Hid (Rows2 W2.drew (· < W2.drew.heap.size) (some ⟨b, off, none⟩) g) := (keepRows HBd.out HR.out).lt HBd.out.size
      obtain ⟨p1, p2, p3⟩ := setIn_iff.1 HX.out
      simp only at p2 p3
      obtain ⟨r, rfl⟩ : ∃ r : Nat, row = r := ⟨row.toNat, by omega⟩
      obtain ⟨k, rfl⟩ : ∃ k : Nat, col = k := ⟨col.toNat, by omega⟩
      have hr : r < g.length := by omega
      have hk : k < (rowAt g r).length := by rw [(Game.of HG.out).len r hr]; omega
      have hrl : (rowAt g r).length ≤ 16 := by rw [(Game.of HG.out).len r hr]; omega
      have HM : Hid (madeT g ⟨0, (r : Int), (k : Int), num⟩ = pokeRC g r k num) := by show _ = _; rw [made_put HX.out]; rfl
      clear p1 p2 p3 HX P1 P2
      go_wp2_with fail
      refine (copyG_spec _ _ g HG.out _ HRd.out).mono ?_
      rintro e w3 ⟨T3, c3, rfl, hc1, hc2, hb3, ho3⟩
      obtain ⟨bt, _, _, _, _, rfl, _⟩ := ho3 (by omega)
      obtain ⟨br, cr, N, f, hcr, hcl, hcm, hlo, hhi, hne, hlo2, hhi2, hrow, hN, hcells⟩ := ho3.oneRow hr (by omega)
      have hb33 : Below W2.heap.size W2 w3 := ((Below.refl W2.heap.size W2).drew).trans hb3
      have hlw : W2.heap.size ≤ br := hlo
      have hzw := HzW.out
      have t1 := touchCell (br := br) (b := w.heap.size) (o := 1) (by omega) (s1 w3 hb33)
      have t2 := touchCell (br := br) (b := w.heap.size) (o := 2) (by omega) (s2 w3 hb33)
      have t3 := touchCell (br := br) (b := w.heap.size) (o := 3) (by omega) (s3 w3 hb33)
      have t4 := touchCell (br := br) (b := bt) (o := r) hne hcr
      have HPK := Lib.hid (ho3.pokeRC hr hk num (fun b' e => by injection e with e; injection e with e; rw [← e]; exact hcr))
      have hck := hcells k hk
      have hfk := hrow.frozen k
      have HB3 : Hid (Below w.heap.size w w3) := HBd.out.trans (hb3.mono HBd.out.size)
      unfold maxLen at hcm
      clear s0 s1 s2 s3 s4 hb33 hb3 hcr hrow hcells ho3 hzw HRd
      go_wp2_with fail
      refine wp_region_held_drew (S := fun w' => TouchS (fun b => b = br) w3 w') (by kernel_rfl) ((TouchS.refl _ _ : TouchS (fun b => b = br) w3 w3).drew) (fun hHeld => ?_)
      refine wpAnyH_take (i := 0) (v := ?v67) rfl (by kernel_rfl) (by kernel_rfl) (by kernel_rfl) (fun _ _ _ h => h) (Or.inl ⟨by rfl, ?y67⟩) (by assumption) ?z67
      case y67 => (intro w hSw; go_simp; first | done | with_reducible rfl)
      try simp only [List.getElem_toArray, List.getElem_cons_succ, List.getElem_cons_zero, Act.put, List.setIfInBounds_toArray, List.set_cons_zero, List.set_cons_succ]
      refine wpAnyH_take (i := 1) (v := ?v68) rfl (by kernel_rfl) (by kernel_rfl) (by kernel_rfl) (fun _ _ _ h => h) (Or.inl ⟨by rfl, ?y68⟩) (by assumption) ?z68
      case y68 => (intro w hSw; go_simp; first | done | with_reducible rfl)
      try simp only [List.getElem_toArray, List.getElem_cons_succ, List.getElem_cons_zero, Act.put, List.setIfInBounds_toArray, List.set_cons_zero, List.set_cons_succ]
      refine wpAnyH_take (i := 2) (v := ?v69) rfl (by kernel_rfl) (by kernel_rfl) (by kernel_rfl) (fun _ _ _ h => h) (Or.inl ⟨by rfl, ?y69⟩) (by assumption) ?z69
      case y69 => (intro w hSw; go_simp; first | done | with_reducible rfl)
      try simp only [List.getElem_toArray, List.getElem_cons_succ, List.getElem_cons_zero, Act.put, List.setIfInBounds_toArray, List.set_cons_zero, List.set_cons_succ]
      refine wpAnyH_take (i := 3) (v := ?v70) rfl (by kernel_rfl) (by kernel_rfl) (by kernel_rfl) (fun _ _ _ h => h) (Or.inl ⟨by rfl, ?y70⟩) (by assumption) ?z70
      case y70 => (intro w hSw; go_simp; first | done | with_reducible rfl)
      try simp only [List.getElem_toArray, List.getElem_cons_succ, List.getElem_cons_zero, Act.put, List.setIfInBounds_toArray, List.set_cons_zero, List.set_cons_succ]
      refine wpAnyH_take (i := 4) (v := ?v71) rfl (by kernel_rfl) (by kernel_rfl) (by kernel_rfl) (fun _ _ _ h => h) (Or.inl ⟨by rfl, ?y71⟩) (by assumption) ?z71
      case y71 => (intro w hSw; go_simp; first | done | with_reducible rfl)
      try simp only [List.getElem_toArray, List.getElem_cons_succ, List.getElem_cons_zero, Act.put, List.setIfInBounds_toArray, List.set_cons_zero, List.set_cons_succ]
      refine wpAnyH_take (i := 5) (v := ?v72) rfl (by kernel_rfl) (by kernel_rfl) (by kernel_rfl) (fun _ _ _ h => h) (Or.inl ⟨by rfl, ?y72⟩) (by assumption) ?z72
      case y72 => (intro w hSw; go_simp; first | done | with_reducible rfl)
      try simp only [List.getElem_toArray, List.getElem_cons_succ, List.getElem_cons_zero, Act.put, List.setIfInBounds_toArray, List.set_cons_zero, List.set_cons_succ]
      refine wpAnyH_take (i := 6) (v := ?v73) rfl (by kernel_rfl) (by kernel_rfl) (by kernel_rfl) (fun _ _ _ h => h) (Or.inl ⟨by rfl, ?y73⟩) (by assumption) ?z73
      case y73 => (intro w hSw; go_simp; first | done | with_reducible rfl)
      try simp only [List.getElem_toArray, List.getElem_cons_succ, List.getElem_cons_zero, Act.put, List.setIfInBounds_toArray, List.set_cons_zero, List.set_cons_succ]
      refine wpAnyH_take (i := 7) (v := ?v74) rfl (by kernel_rfl) (by kernel_rfl) (by kernel_rfl) (fun _ _ _ h => h) (Or.inl ⟨by rfl, ?y74⟩) (by assumption) ?z74
      case y74 => (intro w hSw; go_simp; first | done | with_reducible rfl)
      try simp only [List.getElem_toArray, List.getElem_cons_succ, List.getElem_cons_zero, Act.put, List.setIfInBounds_toArray, List.set_cons_zero, List.set_cons_succ]
      refine wpAnyH_take (i := 8) (v := ?v75) rfl (by kernel_rfl) (by kernel_rfl) (by kernel_rfl) (fun _ _ _ h => h) (Or.inl ⟨by rfl, ?y75⟩) (by assumption) ?z75
      case y75 => (intro w hSw; go_simp; first | done | with_reducible rfl)
      try simp only [List.getElem_toArray, List.getElem_cons_succ, List.getElem_cons_zero, Act.put, List.setIfInBounds_toArray, List.set_cons_zero, List.set_cons_succ]
      refine wpAnyH_take (i := 9) (v := ?v76) rfl (by kernel_rfl) (by kernel_rfl) (by kernel_rfl) (fun _ _ _ h => h) (Or.inl ⟨by rfl, ?y76⟩) (by assumption) ?z76
      case y76 => (intro w hSw; go_simp; first | done | with_reducible rfl)
      try simp only [List.getElem_toArray, List.getElem_cons_succ, List.getElem_cons_zero, Act.put, List.setIfInBounds_toArray, List.set_cons_zero, List.set_cons_succ]
      refine wpAnyH_ready (rs := [10]) (by kernel_rfl) (by simp) ?_
      refine AllReadyH.cons rfl (fun K hK => ?_) AllReadyH.nil
      go_simp
      refine hK.out _ _ (by first | assumption | exact TouchS.put (by assumption) _ _) (fun hHeld => ?_)
      clear hK K
      try simp only [List.getElem_toArray, List.getElem_cons_succ, List.getElem_cons_zero, Act.put, List.setIfInBounds_toArray, List.set_cons_zero, List.set_cons_succ]
      refine wpAnyH_done (by kernel_rfl) ?_ _
      go_wp2_with fail
      go_ret
      rw [HM.out]
      have hlz : W2.heap.size ≤ br := hlw
      have hzw := HzW.out
      exact ⟨_, _, by rw [pokeRC_length]; rfl, (HB3.out.drew).setCell (p := ⟨br, k, none⟩) (by show w.heap.size ≤ br; omega) _, (HPK.out.more HBd.out.size (by simp [World.setCell])).keep fun b' _ _ => rfl⟩
  · have k1 : (kind == 0) = false := by rw [beq_eq_false_iff_ne]; exact k0
    have HX : Hid (setInB g ⟨kind, row, col, num⟩ = false) := by show _ = _; unfold setInB; rw [decide_eq_false k0]; rfl
    refine wp_region_held_drew (S := fun w' => Below W2.heap.size W2 w') (by kernel_rfl) (Below.drew (Below.refl _ _)) (fun hHeld => ?_)
    refine wpAnyH_take (i := 0) (v := ?v78) rfl (by kernel_rfl) (by kernel_rfl) (by kernel_rfl) (fun _ _ _ h => h) (Or.inl ⟨by rfl, ?y78⟩) (by assumption) ?z78
    case y78 => (intro w hSw; go_simp; first | done | with_reducible rfl)
    try simp only [List.getElem_toArray, List.getElem_cons_succ, List.getElem_cons_zero, Act.put, List.setIfInBounds_toArray, List.set_cons_zero, List.set_cons_succ]
    refine wpAnyH_take (i := 1) (v := ?v79) rfl (by kernel_rfl) (by kernel_rfl) (by kernel_rfl) (fun _ _ _ h => h) (Or.inl ⟨by rfl, ?y79⟩) (by assumption) ?z79
    case y79 => (intro w hSw; go_simp; first | done | with_reducible rfl)
    try simp only [List.getElem_toArray, List.getElem_cons_succ, List.getElem_cons_zero, Act.put, List.setIfInBounds_toArray, List.set_cons_zero, List.set_cons_succ]
    refine wpAnyH_take (i := 2) (v := ?v80) rfl (by kernel_rfl) (by kernel_rfl) (by kernel_rfl) (fun _ _ _ h => h) (Or.inl ⟨by rfl, ?y80⟩) (by assumption) ?z80
    case y80 => (intro w hSw; go_simp; first | done | with_reducible rfl)
    try simp only [List.getElem_toArray, List.getElem_cons_succ, List.getElem_cons_zero, Act.put, List.setIfInBounds_toArray, List.set_cons_zero, List.set_cons_succ]
    refine wpAnyH_take (i := 3) (v := ?v81) rfl (by kernel_rfl) (by kernel_rfl) (by kernel_rfl) (fun _ _ _ h => h) (Or.inl ⟨by rfl, ?y81⟩) (by assumption) ?z81
    case y81 => (intro w hSw; go_simp; first | done | with_reducible rfl)
    try simp only [List.getElem_toArray, List.getElem_cons_succ, List.getElem_cons_zero, Act.put, List.setIfInBounds_toArray, List.set_cons_zero, List.set_cons_succ]
    refine wpAnyH_take (i := 4) rfl (by kernel_rfl) (by kernel_rfl) (by kernel_rfl) (fun _ _ _ h => h) (Or.inr ⟨by rfl, rfl⟩) (by assumption) ?_
    try simp only [List.getElem_toArray, List.getElem_cons_succ, List.getElem_cons_zero, Act.put, List.setIfInBounds_toArray, List.set_cons_zero, List.set_cons_succ]
    refine wpAnyH_take (i := 5) rfl (by kernel_rfl) (by kernel_rfl) (by kernel_rfl) (fun _ _ _ h => h) (Or.inr ⟨by rfl, rfl⟩) (by assumption) ?_
    try simp only [List.getElem_toArray, List.getElem_cons_succ, List.getElem_cons_zero, Act.put, List.setIfInBounds_toArray, List.set_cons_zero, List.set_cons_succ]
    refine wpAnyH_take (i := 6) rfl (by kernel_rfl) (by kernel_rfl) (by kernel_rfl) (fun _ _ _ h => h) (Or.inr ⟨by rfl, rfl⟩) (by assumption) ?_
    try simp only [List.getElem_toArray, List.getElem_cons_succ, List.getElem_cons_zero, Act.put, List.setIfInBounds_toArray, List.set_cons_zero, List.set_cons_succ]
    refine wpAnyH_take (i := 7) rfl (by kernel_rfl) (by kernel_rfl) (by kernel_rfl) (fun _ _ _ h => h) (Or.inr ⟨by rfl, rfl⟩) (by assumption) ?_
    try simp only [List.getElem_toArray, List.getElem_cons_succ, List.getElem_cons_zero, Act.put, List.setIfInBounds_toArray, List.set_cons_zero, List.set_cons_succ]
    refine wpAnyH_take (i := 8) rfl (by kernel_rfl) (by kernel_rfl) (by kernel_rfl) (fun _ _ _ h => h) (Or.inr ⟨by rfl, rfl⟩) (by assumption) ?_
    try simp only [List.getElem_toArray, List.getElem_cons_succ, List.getElem_cons_zero, Act.put, List.setIfInBounds_toArray, List.set_cons_zero, List.set_cons_succ]
    refine wpAnyH_take (i := 9) rfl (by kernel_rfl) (by kernel_rfl) (by kernel_rfl) (fun _ _ _ h => h) (Or.inr ⟨by rfl, rfl⟩) (by assumption) ?_
    try simp only [List.getElem_toArray, List.getElem_cons_succ, List.getElem_cons_zero, Act.put, List.setIfInBounds_toArray, List.set_cons_zero, List.set_cons_succ]
    refine wpAnyH_take (i := 10) (v := ?v88) rfl (by kernel_rfl) (by kernel_rfl) (by kernel_rfl) (fun _ _ _ h => h) (Or.inl ⟨by rfl, ?y88⟩) (by assumption) ?z88
    case y88 => (intro w hSw; go_simp; first | done | with_reducible rfl)
    try simp only [List.getElem_toArray, List.getElem_cons_succ, List.getElem_cons_zero, Act.put, List.setIfInBounds_toArray, List.set_cons_zero, List.set_cons_succ]
    refine wpAnyH_take (i := 11) (v := ?v89) rfl (by kernel_rfl) (by kernel_rfl) (by kernel_rfl) (fun _ _ _ h => h) (Or.inl ⟨by rfl, ?y89⟩) (by assumption) ?z89
    case y89 => (intro w hSw; go_simp; first | done | with_reducible rfl)
    try simp only [List.getElem_toArray, List.getElem_cons_succ, List.getElem_cons_zero, Act.put, List.setIfInBounds_toArray, List.set_cons_zero, List.set_cons_succ]
    refine wpAnyH_take (i := 12) rfl (by kernel_rfl) (by kernel_rfl) (by kernel_rfl) (fun _ _ _ h => h) (Or.inr ⟨by rfl, rfl⟩) (by assumption) ?_
    try simp only [List.getElem_toArray, List.getElem_cons_succ, List.getElem_cons_zero, Act.put, List.setIfInBounds_toArray, List.set_cons_zero, List.set_cons_succ]
    refine wpAnyH_take (i := 13) rfl (by kernel_rfl) (by kernel_rfl) (by kernel_rfl) (fun _ _ _ h => h) (Or.inr ⟨by rfl, rfl⟩) (by assumption) ?_
    try simp only [List.getElem_toArray, List.getElem_cons_succ, List.getElem_cons_zero, Act.put, List.setIfInBounds_toArray, List.set_cons_zero, List.set_cons_succ]
    refine wpAnyH_take (i := 14) rfl (by kernel_rfl) (by kernel_rfl) (by kernel_rfl) (fun _ _ _ h => h) (Or.inr ⟨by rfl, rfl⟩) (by assumption) ?_
    try simp only [List.getElem_toArray, List.getElem_cons_succ, List.getElem_cons_zero, Act.put, List.setIfInBounds_toArray, List.set_cons_zero, List.set_cons_succ]
    refine wpAnyH_take (i := 15) rfl (by kernel_rfl) (by kernel_rfl) (by kernel_rfl) (fun _ _ _ h => h) (Or.inr ⟨by rfl, rfl⟩) (by assumption) ?_
    try simp only [List.getElem_toArray, List.getElem_cons_succ, List.getElem_cons_zero, Act.put, List.setIfInBounds_toArray, List.set_cons_zero, List.set_cons_succ]
    refine wpAnyH_take (i := 16) rfl (by kernel_rfl) (by kernel_rfl) (by kernel_rfl) (fun _ _ _ h => h) (Or.inr ⟨by rfl, rfl⟩) (by assumption) ?_
    try simp only [List.getElem_toArray, List.getElem_cons_succ, List.getElem_cons_zero, Act.put, List.setIfInBounds_toArray, List.set_cons_zero, List.set_cons_succ]
    refine wpAnyH_take (i := 17) rfl (by kernel_rfl) (by kernel_rfl) (by kernel_rfl) (fun _ _ _ h => h) (Or.inr ⟨by rfl, rfl⟩) (by assumption) ?_
    try simp only [List.getElem_toArray, List.getElem_cons_succ, List.getElem_cons_zero, Act.put, List.setIfInBounds_toArray, List.set_cons_zero, List.set_cons_succ]
    refine wpAnyH_take (i := 18) rfl (by kernel_rfl) (by kernel_rfl) (by kernel_rfl) (fun _ _ _ h => h) (Or.inr ⟨by rfl, rfl⟩) (by assumption) ?_
    try simp only [List.getElem_toArray, List.getElem_cons_succ, List.getElem_cons_zero, Act.put, List.setIfInBounds_toArray, List.set_cons_zero, List.set_cons_succ]
    refine wpAnyH_take (i := 19) rfl (by kernel_rfl) (by kernel_rfl) (by kernel_rfl) (fun _ _ _ h => h) (Or.inr ⟨by rfl, rfl⟩) (by assumption) ?_
    try simp only [List.getElem_toArray, List.getElem_cons_succ, List.getElem_cons_zero, Act.put, List.setIfInBounds_toArray, List.set_cons_zero, List.set_cons_succ]
    refine wpAnyH_take (i := 20) (v := ?v98) rfl (by kernel_rfl) (by kernel_rfl) (by kernel_rfl) (fun _ _ _ h => h) (Or.inl ⟨by rfl, ?y98⟩) (by assumption) ?z98
    case y98 => (intro w hSw; go_simp; first | done | with_reducible rfl)
    try simp only [List.getElem_toArray, List.getElem_cons_succ, List.getElem_cons_zero, Act.put, List.setIfInBounds_toArray, List.set_cons_zero, List.set_cons_succ]
    refine wpAnyH_take (i := 21) (v := ?v99) rfl (by kernel_rfl) (by kernel_rfl) (by kernel_rfl) (fun _ _ _ h => h) (Or.inl ⟨by rfl, ?y99⟩) (by assumption) ?z99
    case y99 => (intro w hSw; go_simp; first | done | with_reducible rfl)
    try simp only [List.getElem_toArray, List.getElem_cons_succ, List.getElem_cons_zero, Act.put, List.setIfInBounds_toArray, List.set_cons_zero, List.set_cons_succ]
    refine wpAnyH_done (by kernel_rfl) ?_ _
    have HBd : Hid (Below w.heap.size w W2.drew) := HBW.out.drew
    have HRd : Hid (Rows2 W2.drew (· < W2.drew.heap.size) (some ⟨b, off, none⟩) g) := (keepRows HBd.out HR.out).lt HBd.out.size
    have HGL : Hid (g.length ≤ maxLen) := by show _ ≤ _; unfold maxLen; omega
    go_wp2_with fail
    all_goals first | (go_ret; rw [show madeT g ⟨kind, row, col, num⟩ = [] from by unfold madeT; simp only; rw [if_neg (by omega), if_neg (by omega), if_neg (by omega), if_neg (by omega)]]; exact ⟨_, _, rfl, HBd.out, fun h0 => absurd h0 (by simp)⟩) | (refine (turned_spec _ _ g HGL.out _ HRd.out).mono ?_; rintro e w9 ⟨T9, c9, rfl, hb9, ho9⟩; have HB9 : Hid (Below w.heap.size w w9) := HBd.out.trans (hb9.mono HBd.out.size); have HO9 := Lib.hid (ho9.more HBd.out.size (Nat.le_refl _)); clear hb9 ho9; go_wp2_with fail; go_ret; rw [show madeT g ⟨kind, row, col, num⟩ = turned g from by unfold madeT; simp only; rw [if_neg (by omega), if_pos (by omega)]]; exact ⟨T9, c9, rfl, HB9.out, HO9.out⟩) | (refine (shi_spec _ _ g num HGL.out _ HRd.out).mono ?_; rintro e w9 ⟨T9, c9, rfl, hb9, ho9⟩; have HB9 : Hid (Below w.heap.size w w9) := HBd.out.trans (hb9.mono HBd.out.size); have HO9 := Lib.hid (ho9.more HBd.out.size (Nat.le_refl _)); clear hb9 ho9; go_wp2_with fail; go_ret; rw [show madeT g ⟨kind, row, col, num⟩ = shi g num from by unfold madeT; simp only; rw [if_neg (by omega), if_neg (by omega), if_pos (by omega)]]; exact ⟨T9, c9, rfl, HB9.out, HO9.out⟩) | (refine (small_spec _ _ g HGL.out _ HRd.out).mono ?_; rintro e w9 ⟨T9, c9, rfl, hb9, ho9⟩; have HB9 : Hid (Below w.heap.size w w9) := HBd.out.trans (hb9.mono HBd.out.size); have HO9 := Lib.hid (ho9.more HBd.out.size (Nat.le_refl _)); clear hb9 ho9; go_wp2_with fail; go_ret; rw [show madeT g ⟨kind, row, col, num⟩ = small g from by unfold madeT; simp only; rw [if_neg (by omega), if_neg (by omega), if_neg (by omega), if_pos (by omega)]]; exact ⟨T9, c9, rfl, HB9.out, HO9.out⟩) | skip
end Go.Proofs.YtlmaeadbomnhlaaGreat

namespace Go.Proofs.YtlmaeadbomnhlaaGreat
set_option linter.unusedSimpArgs false
set_option linter.unusedVariables false
open Go.RowKit
def conF {α : Type} (x : α) (F : Nat → α) : Nat → α
  | 0 => x
  | t + 1 => F t
theorem own_copy {w : World} {lo hi : Nat} {TN TP : Option Addr} {d : Dk} {A0 : Nat → Option Addr} {C0 : Nat → Nat} {A : Nat → Nat → Option Addr} {C : Nat → Nat → Nat} {TT : Nat → Option Addr} {CC : Nat → Nat} (h : TabOwn w lo hi TN A0 C0 d.now) (hp : PastOwn w lo hi TP d.past A C TT CC)
    (ha : ∀ t b, t < d.past.length → RowAtB A0 d.now b → ¬ RowAtB (A t) (tabAt d.past t) b) : OwnDk w lo hi TN TP d (conF A0 A) (conF C0 C) TT CC := OwnDk.of h hp ha
theorem tabAt_take (p : List (List (List Int))) {m i : Nat} (h : i < m) : tabAt (p.take m) i = tabAt p i := by unfold tabAt; simp [List.getElem?_take, h]
theorem PastOwn.take {w : World} {lo hi : Nat} {TP : Option Addr} {p : List (List (List Int))} {A : Nat → Nat → Option Addr} {C : Nat → Nat → Nat} {TT : Nat → Option Addr} {CC : Nat → Nat} (h : PastOwn w lo hi TP p A C TT CC) (m : Nat) : PastOwn w lo hi TP (p.take m) A C TT CC := by
  have hl : (p.take m).length = min m p.length := List.length_take
  refine ⟨fun h0 => ?_, fun i hi => ?_, fun s t b hs ht hne => ?_⟩
  · obtain ⟨b, off, N, f, e, h1, h2, h3, h4, h5⟩ := h.top (by omega)
    exact ⟨b, off, N, f, e, h1, h2, by omega, h4, fun i hi => by rw [tabAt_take p (by omega)]; exact h5 i (by omega)⟩
  · rw [tabAt_take p (by omega)]; exact h.tabs i (by omega)
  · rw [tabAt_take p (by omega), tabAt_take p (by omega)]; exact h.apart s t b (by omega) (by omega) hne
theorem tabAt_drop (p : List (List (List Int))) (i : Nat) : tabAt (p.drop 1) i = tabAt p (i + 1) := by unfold tabAt; simp [Nat.add_comm]
theorem PastOwn.drop {w : World} {lo hi b off : Nat} {p : List (List (List Int))} {A : Nat → Nat → Option Addr} {C : Nat → Nat → Nat} {TT : Nat → Option Addr} {CC : Nat → Nat} (h : PastOwn w lo hi (some ⟨b, off, none⟩) p A C TT CC) : PastOwn w lo hi (some ⟨b, off + 1, none⟩) (p.drop 1) (fun t => A (t + 1)) (fun t => C (t + 1)) (fun t => TT (t + 1)) (fun t => CC (t + 1)) := by
  have hl : (p.drop 1).length = p.length - 1 := List.length_drop
  refine ⟨fun h0 => ?_, fun i hi => ?_, fun s t x hs ht hne => ?_⟩
  · obtain ⟨b', off', N, f, e, h1, h2, h3, h4, h5⟩ := h.top (by omega)
    injection e with e
    injection e with e1 e2
    subst e1 e2
    exact ⟨b, off + 1, N, f, rfl, h1, h2, by omega, h4, fun i hi => by rw [tabAt_drop, show off + 1 + i = off + (i + 1) by omega]; exact h5 (i + 1) (by omega)⟩
  · rw [tabAt_drop]; exact h.tabs (i + 1) (by omega)
  · rw [tabAt_drop, tabAt_drop]; exact h.apart (s + 1) (t + 1) x (by omega) (by omega) (by omega)
theorem own_back {w : World} {lo hi : Nat} {TP : Option Addr} {p : List (List (List Int))} {A : Nat → Nat → Option Addr} {C : Nat → Nat → Nat} {TT : Nat → Option Addr} {CC : Nat → Nat} (h : PastOwn w lo hi TP p A C TT CC) (h0 : 0 < p.length) :
    OwnDk w lo hi (TT (p.length - 1)) TP ⟨tabAt p (p.length - 1), p.take (p.length - 1)⟩ (conF (A (p.length - 1)) A) (conF (C (p.length - 1)) C) TT CC := by
  have hl : (p.take (p.length - 1)).length = p.length - 1 := by rw [List.length_take]; omega
  refine OwnDk.of (h.tabs _ (by omega)) (h.take _) fun t b ht h1 h2 => ?_
  simp only at ht h1 h2
  rw [tabAt_take p (by omega)] at h2
  exact h.apart (p.length - 1) t b (by omega) (by omega) (by omega) h1 h2
theorem own_push {w : World} {lo hi mid : Nat} {TN TP : Option Addr} {p : List (List (List Int))} {g n : List (List Int)} {A0 : Nat → Option Addr} {C0 : Nat → Nat} {A : Nat → Nat → Option Addr} {C : Nat → Nat → Nat} {TT : Nat → Option Addr} {CC : Nat → Nat} (hn : TabOwn w mid hi TN A0 C0 n) (hm : lo ≤ mid) (hp : PastOwn w lo hi TP (p ++ [g]) A C TT CC)
    (ht : ∀ t b, t < (p ++ [g]).length → RowAtB (A t) (tabAt (p ++ [g]) t) b → b < mid) (h8 : p.length < 8) : OwnDk w lo hi TN TP ⟨n, pushP p g⟩ (conF A0 A) (conF C0 C) TT CC := by
  have e : pushP p g = p ++ [g] := by unfold pushP; rw [if_pos h8]
  rw [e]
  refine OwnDk.of (hn.more hm (Nat.le_refl _)) hp fun t b hb h1 h2 => ?_
  have := hn.rows_in h1
  have := ht t b hb h2
  omega
theorem own_shove {w : World} {lo hi mid b off : Nat} {TN : Option Addr} {p : List (List (List Int))} {g n : List (List Int)} {A0 : Nat → Option Addr} {C0 : Nat → Nat} {A : Nat → Nat → Option Addr} {C : Nat → Nat → Nat} {TT : Nat → Option Addr} {CC : Nat → Nat} (hn : TabOwn w mid hi TN A0 C0 n) (hm : lo ≤ mid) (hp : PastOwn w lo hi (some ⟨b, off, none⟩) (p ++ [g]) A C TT CC)
    (ht : ∀ t b, t < (p ++ [g]).length → RowAtB (A t) (tabAt (p ++ [g]) t) b → b < mid) (h8 : ¬ p.length < 8) : OwnDk w lo hi TN (some ⟨b, off + 1, none⟩) ⟨n, pushP p g⟩ (conF A0 fun t => A (t + 1)) (conF C0 fun t => C (t + 1)) (fun t => TT (t + 1)) (fun t => CC (t + 1)) := by
  have e : pushP p g = (p ++ [g]).drop 1 := by unfold pushP; rw [if_neg h8]
  have hl : ((p ++ [g]).drop 1).length = (p ++ [g]).length - 1 := List.length_drop
  rw [e]
  refine OwnDk.of (hn.more hm (Nat.le_refl _)) hp.drop fun t x hb h1 h2 => ?_
  simp only at hb h1 h2
  rw [tabAt_drop] at h2
  have := hn.rows_in h1
  have := ht (t + 1) x (by omega) h2
  omega
end Go.Proofs.YtlmaeadbomnhlaaGreat

namespace Go.Proofs.YtlmaeadbomnhlaaGreat
set_option linter.unusedSimpArgs false
set_option linter.unusedVariables false
open Go.RowKit
theorem box_put {wr : World} {R : Nat} {x0 x1 : Value} (v0 v1 : Value) (h0 : wr.cell? ⟨R, 0, none⟩ = some x0) (h1 : wr.cell? ⟨R, 1, none⟩ = some x1) :
    ((wr.setCell ⟨R, 0, none⟩ v0).setCell ⟨R, 1, none⟩ v1).cell? ⟨R, 0, none⟩ = some v0 ∧ ((wr.setCell ⟨R, 0, none⟩ v0).setCell ⟨R, 1, none⟩ v1).cell? ⟨R, 1, none⟩ = some v1 ∧
    ((wr.setCell ⟨R, 0, none⟩ v0).setCell ⟨R, 1, none⟩ v1).heap.size = wr.heap.size ∧ ∀ b, b ≠ R → ((wr.setCell ⟨R, 0, none⟩ v0).setCell ⟨R, 1, none⟩ v1).heap[b]? = wr.heap[b]? := by
  have ne : (⟨R, 0, none⟩ : Addr) ≠ ⟨R, 1, none⟩ := by intro e; injection e with e1 e2; omega
  refine ⟨?_, ?_, by simp [World.setCell], fun b hb => ?_⟩
  · rw [World.cell?_setCell_other (h := ne.symm)]; exact World.cell?_setCell_same _ _ _ h0
  · exact World.cell?_setCell_same _ _ _ (by rw [World.cell?_setCell_other (h := ne)]; exact h1)
  · rw [Below.heap_setCell _ _ _ _ hb, Below.heap_setCell _ _ _ _ hb]
theorem below_put {B R : Nat} {w wr : World} (h : Below B w wr) (hR : B ≤ R) (v0 v1 : Value) : Below B w ((wr.setCell ⟨R, 0, none⟩ v0).setCell ⟨R, 1, none⟩ v1) := (h.setCell (p := ⟨R, 0, none⟩) hR _).setCell (p := ⟨R, 1, none⟩) hR _
structure DoBox (w W : World) (v0 v1 : Value) (a : Dd) : Prop where
  size : W.heap.size = w.heap.size + 1 + 1 + 1
  bel : Below w.heap.size w W
  d0 : W.cell? ⟨w.heap.size, 0, none⟩ = some v0
  d1 : W.cell? ⟨w.heap.size, 1, none⟩ = some v1
  a0 : W.cell? ⟨w.heap.size + 1, 0, none⟩ = some (.int .i64 a.kind)
  a1 : W.cell? ⟨w.heap.size + 1, 1, none⟩ = some (.int .i64 a.row)
  a2 : W.cell? ⟨w.heap.size + 1, 2, none⟩ = some (.int .i64 a.col)
  a3 : W.cell? ⟨w.heap.size + 1, 3, none⟩ = some (.int .i64 a.num)
  y0 : W.cell? ⟨w.heap.size + 1 + 1, 0, none⟩ = some (.slice none 0 0)
  y1 : W.cell? ⟨w.heap.size + 1 + 1, 1, none⟩ = some (.slice none 0 0)
  f0 : W.frozen? ⟨w.heap.size + 1 + 1, 0, none⟩ = false
  f1 : W.frozen? ⟨w.heap.size + 1 + 1, 1, none⟩ = false
theorem DoBox.new (w : World) (v0 v1 : Value) (a : Dd) : DoBox w (((w.alloc (.cells #[v0, v1] 26)).alloc (.cells #[.int .i64 a.kind, .int .i64 a.row, .int .i64 a.col, .int .i64 a.num] 28)).alloc (.cells #[.slice none 0 0, .slice none 0 0] 26)) v0 v1 a :=
  ⟨by simp, (((Below.refl _ _).alloc (Nat.le_refl _) _).alloc (by simp) _).alloc (by simp; omega) _, by simp [go_sem], by simp [go_sem], by simp [go_sem], by simp [go_sem], by simp [go_sem], by simp [go_sem], by simp [go_sem], by simp [go_sem], by simp [go_sem], by simp [go_sem]⟩
theorem DoBox.on {w W w' : World} {v0 v1 : Value} {a : Dd} (h : DoBox w W v0 v1 a) (hb : Below W.heap.size W w') :
    Below w.heap.size w w' ∧ (w'.cell? ⟨w.heap.size, 0, none⟩ = some v0 ∧ w'.cell? ⟨w.heap.size, 1, none⟩ = some v1) ∧
    (w'.cell? ⟨w.heap.size + 1, 0, none⟩ = some (.int .i64 a.kind) ∧ w'.cell? ⟨w.heap.size + 1, 1, none⟩ = some (.int .i64 a.row) ∧ w'.cell? ⟨w.heap.size + 1, 2, none⟩ = some (.int .i64 a.col) ∧ w'.cell? ⟨w.heap.size + 1, 3, none⟩ = some (.int .i64 a.num)) ∧
    (w'.cell? ⟨w.heap.size + 1 + 1, 0, none⟩ = some (.slice none 0 0) ∧ w'.cell? ⟨w.heap.size + 1 + 1, 1, none⟩ = some (.slice none 0 0)) ∧ (w'.frozen? ⟨w.heap.size + 1 + 1, 0, none⟩ = false ∧ w'.frozen? ⟨w.heap.size + 1 + 1, 1, none⟩ = false) := by
  have hz := h.size
  have k0 : ∀ o, w'.cell? ⟨w.heap.size, o, none⟩ = W.cell? ⟨w.heap.size, o, none⟩ := fun o => hb.cell (p := ⟨w.heap.size, o, none⟩) (by show w.heap.size < _; omega)
  have k1 : ∀ o, w'.cell? ⟨w.heap.size + 1, o, none⟩ = W.cell? ⟨w.heap.size + 1, o, none⟩ := fun o => hb.cell (p := ⟨w.heap.size + 1, o, none⟩) (by show w.heap.size + 1 < _; omega)
  have k2 : ∀ o, w'.cell? ⟨w.heap.size + 1 + 1, o, none⟩ = W.cell? ⟨w.heap.size + 1 + 1, o, none⟩ := fun o => hb.cell (p := ⟨w.heap.size + 1 + 1, o, none⟩) (by show w.heap.size + 1 + 1 < _; omega)
  have k3 : ∀ o, w'.frozen? ⟨w.heap.size + 1 + 1, o, none⟩ = W.frozen? ⟨w.heap.size + 1 + 1, o, none⟩ := fun o => hb.frozen (p := ⟨w.heap.size + 1 + 1, o, none⟩) (by show w.heap.size + 1 + 1 < _; omega)
  exact ⟨h.bel.trans (hb.mono (by omega)), ⟨(k0 0).trans h.d0, (k0 1).trans h.d1⟩, ⟨(k1 0).trans h.a0, (k1 1).trans h.a1, (k1 2).trans h.a2, (k1 3).trans h.a3⟩, ⟨(k2 0).trans h.y0, (k2 1).trans h.y1⟩, ⟨(k3 0).trans h.f0, (k3 1).trans h.f1⟩⟩
set_option maxHeartbeats 4000000 in
set_option maxRecDepth 100000 in
theorem deskDo_no (A B : Option Addr) (c kk : Nat) (d : Dk) (a : Dd) (hx : d.now.length ≤ maxLen) (hy : d.past.length ≤ maxLen) (hd : dkB d = false) (w : World) (h : Rows2 w (· < w.heap.size) A d.now) (h' : Rows3 w (· < w.heap.size) B d.past) :
    Calls Tryz.prog 6 #[dskV A d.now.length c B d.past.length kk, ddV a] w (DeskResR w (doD d a) (.bool (canB d a))) := by
  have HD := Lib.hid (do_no hd a)
  obtain ⟨kind, row, col, num⟩ := a
  obtain ⟨W, hW⟩ : ∃ W, W = ((w.alloc (.cells #[.slice A d.now.length c, .slice B d.past.length kk] 26)).alloc (.cells #[.int .i64 kind, .int .i64 row, .int .i64 col, .int .i64 num] 28)).alloc (.cells #[.slice none 0 0, .slice none 0 0] 26) := ⟨_, rfl⟩
  have HX : Hid (DoBox w W (.slice A d.now.length c) (.slice B d.past.length kk) ⟨kind, row, col, num⟩) := by show DoBox _ _ _ _ _; rw [hW]; exact DoBox.new w _ _ ⟨kind, row, col, num⟩
  have HB := Lib.hid HX.out.bel
  have HK := Lib.hid (deskOk_spec A B c kk d hx hy W ((keepRows HB.out h).lt HB.out.size) ((keepTabs HB.out h').lt HB.out.size))
  rw [hd] at HK
  obtain ⟨_, ⟨e0, e1⟩, _, _, _⟩ := HX.out.on (Below.refl _ _)
  unfold dskV ddV
  unfold dskV at HK
  clear h h' hd hx hy
  go_enter Tryz.func6, Tryz.ntmps6
  go_wp2_with fail
  rw [← hW]
  clear hW
  refine HK.out.mono ?_
  rintro e w1 ⟨rfl, hb1⟩
  obtain ⟨k0, _, _, ⟨y0, y1⟩, ⟨f0, f1⟩⟩ := HX.out.on hb1
  have HK0 := Lib.hid k0
  clear k0 hb1
  go_wp2_with fail
  obtain ⟨r0, r1, _, _⟩ := box_put (.slice none 0 0) (.slice none 0 0) y0 y1
  rw [HD.out.1, HD.out.2]
  exact bodyPost_ret (v := .tuple #[dskV none 0 0 none 0 0, .bool false]) (by simp [results, dskV, Tryz.results6, go_sem, r0, r1]) rfl (DeskResR.zero rfl (below_put HK0.out (by omega) _ _))
end Go.Proofs.YtlmaeadbomnhlaaGreat

namespace Go.Proofs.YtlmaeadbomnhlaaGreat
set_option linter.unusedSimpArgs false
set_option linter.unusedVariables false
open Go.RowKit
theorem GrowsP.room {w : World} {base hi : Nat} {TP : Option Addr} {n cP : Nat} {A : Nat → Nat → Option Addr} {C : Nat → Nat → Nat} {TT : Nat → Option Addr} {CC : Nat → Nat} {p : List (List (List Int))} (h : GrowsP w base hi (.slice TP n cP) A C TT CC p) : Room w base hi TP cP := fun h0 => by
  rcases h.top_row with ⟨_, e⟩ | ⟨b, cap, f, e, h1, h2, h3, h4, h5⟩
  · first | (injection e with e1 e2 e3; omega) | (rename_i e'; injection e' with e1 e2 e3; omega)
  · injection e with e1 e2 e3
    subst e3
    exact ⟨b, 0, cP, f, e1, h1, h.hib b (by rw [e1]; rfl), by omega, h4⟩
set_option maxHeartbeats 4000000 in
set_option maxRecDepth 100000 in
theorem deskDo_back (A B : Option Addr) (c kk : Nat) (d : Dk) (a : Dd) (hx : d.now.length ≤ maxLen) (hy : d.past.length ≤ maxLen) (hd : dkB d = true) (hb : backB a = true) (h0 : 0 < d.past.length) (w : World) (h : Rows2 w (· < w.heap.size) A d.now) (h' : Rows3 w (· < w.heap.size) B d.past) :
    Calls Tryz.prog 6 #[dskV A d.now.length c B d.past.length kk, ddV a] w (DeskResR w (doD d a) (.bool (canB d a))) := by
  have HD := Lib.hid (do_back hd hb h0)
  have hp8 := (dkB_iff.1 hd).2.2
  unfold backB at hb
  rw [decide_eq_true_eq] at hb
  obtain ⟨kind, row, col, num⟩ := a
  simp only at hb
  obtain ⟨rfl, rfl, rfl, rfl⟩ := hb
  obtain ⟨W, hW⟩ : ∃ W, W = ((w.alloc (.cells #[.slice A d.now.length c, .slice B d.past.length kk] 26)).alloc (.cells #[.int .i64 4, .int .i64 0, .int .i64 0, .int .i64 0] 28)).alloc (.cells #[.slice none 0 0, .slice none 0 0] 26) := ⟨_, rfl⟩
  have HX : Hid (DoBox w W (.slice A d.now.length c) (.slice B d.past.length kk) ⟨4, 0, 0, 0⟩) := by show DoBox _ _ _ _ _; rw [hW]; exact DoBox.new w _ _ ⟨4, 0, 0, 0⟩
  have HB := Lib.hid HX.out.bel
  have H1 := Lib.hid h
  have H2 := Lib.hid h'
  have HK := Lib.hid (deskOk_spec A B c kk d hx hy W ((keepRows HB.out h).lt HB.out.size) ((keepTabs HB.out h').lt HB.out.size))
  rw [hd] at HK
  have HDK := Lib.hid hd
  obtain ⟨_, ⟨e0, e1⟩, _, _, _⟩ := HX.out.on (Below.refl _ _)
  unfold dskV ddV
  unfold dskV at HK
  clear h h' hd hx hy
  go_enter Tryz.func6, Tryz.ntmps6
  go_wp2_with fail
  rw [← hW]
  clear hW
  refine HK.out.mono ?_
  rintro e w1 ⟨rfl, hb1⟩
  obtain ⟨k0, ⟨d0, d1⟩, _, _, _⟩ := HX.out.on hb1
  have HB1 := Lib.hid hb1
  have HK0 := Lib.hid k0
  clear k0 hb1 e0 e1
  go_wp2_with fail
  refine (copyD_spec A B c kk d HDK.out w1 ((keepRows HK0.out H1.out).lt HK0.out.size) ((keepTabs HK0.out H2.out).lt HK0.out.size)).mono ?_
  rintro e w2 ⟨TN, cN, v, A0, C0, AA, CC, TT, UU, rfl, hcN1, hcN2, hb2, hT2, hG2, hap⟩
  obtain ⟨TP, cP, rfl, hcP1, hcP2, hP2⟩ := hG2.past
  have hR2 := hG2.room
  obtain ⟨w3, hw3⟩ : ∃ w3, w3 = w2.alloc (.cells #[.slice TN d.now.length cN, .slice TP d.past.length cP] 26) := ⟨_, rfl⟩
  obtain ⟨pO, hpO⟩ : ∃ pO, w2.heap.size = pO := ⟨_, rfl⟩
  have hs2 := hb2.size
  have hb23 : Below w1.heap.size w1 w3 := by rw [hw3]; exact hb2.alloc hs2 _
  have o0 : w3.cell? ⟨pO, 0, none⟩ = some (.slice TN d.now.length cN) := by rw [hw3, ← hpO]; simp [go_sem]
  have o1 : w3.cell? ⟨pO, 1, none⟩ = some (.slice TP d.past.length cP) := by rw [hw3, ← hpO]; simp [go_sem]
  have fo0 : w3.frozen? ⟨pO, 0, none⟩ = false := by rw [hw3, ← hpO]; simp [go_sem]
  have fo1 : w3.frozen? ⟨pO, 1, none⟩ = false := by rw [hw3, ← hpO]; simp [go_sem]
  have hz3 : w3.heap.size = pO + 1 := by rw [hw3, ← hpO]; simp
  have hP3 : PastOwn w3 w1.heap.size pO TP d.past AA CC TT UU := by
    have := hP2.keep (w' := w3) fun b _ hb => by rw [hw3]; exact Below.heap_alloc _ _ _ hb
    rw [hpO] at this; exact this
  have hR3 : Room w3 w1.heap.size pO TP cP := by
    have := hR2.keep (w' := w3) fun b _ hb => by rw [hw3]; exact Below.heap_alloc _ _ _ hb
    rw [hpO] at this; exact this
  have HR3 := Lib.hid hR3
  clear hR2 hR3
  have HBW3 := Lib.hid (HB1.out.trans (hb23.mono HB1.out.size))
  obtain ⟨k0, ⟨d0', d1'⟩, ⟨a0, a1, a2, a3⟩, ⟨y0, y1⟩, ⟨f0, f1⟩⟩ := HX.out.on HBW3.out
  obtain ⟨bP, off, N, f, rfl, hbl, hbh, hN, hrow, hf⟩ := hP3.top h0
  have hcell := hrow.cell (i := off + (d.past.length - 1)) (by omega)
  obtain ⟨hf1, hcc1, hcc2⟩ := hf (d.past.length - 1) (by omega)
  rw [hf1] at hcell
  have HP3 := Lib.hid hP3
  have HK3 := Lib.hid k0
  have Hz3 := Lib.hid hz3
  have Hs2 := Lib.hid hs2
  have Hlo : Hid (w1.heap.size ≤ pO) := by show _ ≤ _; omega
  have q1 : IntKind.i64.wrap ((d.past.length : Int) - 1) = (d.past.length : Int) - 1 := IntWalk.i64_in _ (by omega)
  have q2 : ((d.past.length : Int) - 1).toNat = d.past.length - 1 := by omega
  unfold maxLen at hcP2 hcc2
  have e3 : w2.alloc (.cells #[.slice TN d.now.length cN, .slice (some ⟨bP, off, none⟩) d.past.length cP] 26) = w3 := hw3.symm
  have hXz := HX.out.size
  have hB1s := HB1.out.size
  have n1 : w.heap.size + 1 + 1 < pO := by omega
  have n2 : ¬ (w.heap.size + 1 + 1 = pO) := by omega
  have n3 : ¬ (pO = w.heap.size + 1 + 1) := by omega
  clear hXz hB1s
  clear hap hT2 hG2 hb2 hb23 hP3 hP2 hrow hf hf1 k0 hw3 HK d0 d1
  go_wp2_with fail
  obtain ⟨vN, hvN⟩ : ∃ vN, vN = Value.slice (TT (d.past.length - 1)) (tabAt d.past (d.past.length - 1)).length (UU (d.past.length - 1)) := ⟨_, rfl⟩
  obtain ⟨vP, hvP⟩ : ∃ vP, vP = Value.slice (some ⟨bP, off, none⟩) (d.past.length - 1) cP := ⟨_, rfl⟩
  rw [← hvN, ← hvP]
  obtain ⟨p0, p1, pz, pb⟩ := box_put vN vP o0 o1
  have z0 : ((w3.setCell ⟨pO, 0, none⟩ vN).setCell ⟨pO, 1, none⟩ vP).cell? ⟨w.heap.size + 1 + 1, 0, none⟩ = some (.slice none 0 0) := (World.cell?_of_block (w := w3) (pb _ n2)).trans y0
  have z1 : ((w3.setCell ⟨pO, 0, none⟩ vN).setCell ⟨pO, 1, none⟩ vP).cell? ⟨w.heap.size + 1 + 1, 1, none⟩ = some (.slice none 0 0) := (World.cell?_of_block (w := w3) (pb _ n2)).trans y1
  obtain ⟨r0, r1, rz, rb⟩ := box_put vN vP z0 z1
  have hbF := below_put (below_put HK3.out (show w.heap.size ≤ pO by omega) vN vP) (show w.heap.size ≤ w.heap.size + 1 + 1 by omega) vN vP
  have hl : (d.past.take (d.past.length - 1)).length = d.past.length - 1 := by rw [List.length_take]; omega
  have hXz := HX.out.size
  have hB1s := HB1.out.size
  have hown := (own_back HP3.out h0).keep (w' := ((((w3.setCell ⟨pO, 0, none⟩ vN).setCell ⟨pO, 1, none⟩ vP).setCell ⟨w.heap.size + 1 + 1, 0, none⟩ vN).setCell ⟨w.heap.size + 1 + 1, 1, none⟩ vP)) fun b h1 h2 => (rb b (by omega)).trans (pb b (by omega))
  have hroom := (HR3.out).keep (w' := ((((w3.setCell ⟨pO, 0, none⟩ vN).setCell ⟨pO, 1, none⟩ vP).setCell ⟨w.heap.size + 1 + 1, 0, none⟩ vN).setCell ⟨w.heap.size + 1 + 1, 1, none⟩ vP)) fun b h1 h2 => (rb b (by omega)).trans (pb b (by omega))
  rw [HD.out.1, HD.out.2]
  have hz3 := Hz3.out
  subst hvN
  subst hvP
  refine bodyPost_ret (v := .tuple #[dskV (TT (d.past.length - 1)) (tabAt d.past (d.past.length - 1)).length (UU (d.past.length - 1)) (some ⟨bP, off, none⟩) (d.past.length - 1) cP, .bool true]) (by simp [results, dskV, Tryz.results6, go_sem, r0, r1]) rfl ?_
  exact ⟨_, _, _, ⟨cP, by simp only; rw [hl]; omega, by unfold maxLen; omega⟩, _, _, _, _, by simp only; rw [hl], hbF, hown.more (by omega) (by rw [rz, pz]; omega), hroom.more (by omega) (by rw [rz, pz]; omega)⟩
end Go.Proofs.YtlmaeadbomnhlaaGreat

namespace Go.Proofs.YtlmaeadbomnhlaaGreat
set_option linter.unusedSimpArgs false
set_option linter.unusedVariables false
open Go.RowKit
theorem GrowsP.past' {w : World} {base hi : Nat} {TP : Option Addr} {n cP : Nat} {A : Nat → Nat → Option Addr} {C : Nat → Nat → Nat} {TT : Nat → Option Addr} {CC : Nat → Nat} {p : List (List (List Int))} (h : GrowsP w base hi (.slice TP n cP) A C TT CC p) : p.length ≤ cP ∧ PastOwn w base hi TP p A C TT CC := by
  obtain ⟨TP', c', e, h1, _, h3⟩ := h.past
  injection e with e1 e2 e3
  subst e1 e3
  exact ⟨h1, h3⟩
theorem made_max {d : Dk} (hd : dkB d = true) (a : Dd) : (madeT d.now a).length ≤ maxLen := by
  have hg := (Game.of (laid_game (dkB_iff.1 hd).2.1)).hi
  have hs : solB d.now = true := by rw [← laid_sol]; exact (dkB_iff.1 hd).2.1
  have h1 := (turned_len d.now).1
  have h2 := (shi_len d.now a.num).1
  have h3 := (Game.of (laid_game (by rw [laid_sol]; exact (small_sol hs).1))).hi
  have h4 : (putT d.now a.row.toNat a.col.toNat a.num).length = d.now.length := by unfold putT; simp
  unfold maxLen madeT
  split
  · omega
  · split
    · omega
    · split
      · omega
      · split
        · omega
        · simp
set_option maxHeartbeats 8000000 in
set_option maxRecDepth 100000 in
theorem deskDo_none (A B : Option Addr) (c kk : Nat) (d : Dk) (a : Dd) (hx : d.now.length ≤ maxLen) (hy : d.past.length ≤ maxLen) (hd : dkB d = true) (hnb : ¬ (backB a = true ∧ 0 < d.past.length)) (hno : ¬ (laidB (madeT d.now a) = true ∧ madeT d.now a ≠ d.now)) (w : World) (h : Rows2 w (· < w.heap.size) A d.now) (h' : Rows3 w (· < w.heap.size) B d.past) :
    Calls Tryz.prog 6 #[dskV A d.now.length c B d.past.length kk, ddV a] w (DeskResR w (doD d a) (.bool (canB d a))) := by
  rw [(do_none hd hnb hno).1, (do_none hd hnb hno).2]
  have hp8 := (dkB_iff.1 hd).2.2
  have hgn := laid_game (dkB_iff.1 hd).2.1
  have hML := made_max hd a
  obtain ⟨M, hM⟩ : ∃ M, madeT d.now a = M := ⟨_, rfl⟩
  rw [hM] at hML
  try rw [hM] at hl
  try rw [hM] at hn
  try rw [hM] at hno
  try rw [hM]
  have HMS : Hid (∀ (w' : World) (A' : Option Addr) (c' : Nat), Rows2 w' (· < w'.heap.size) A' d.now → Calls Tryz.prog 18 #[.slice A' d.now.length c', ddV a] w' (NewTable w' M)) := fun w' A' c' hr => by have := made_spec A' c' d.now a hgn w' hr; rwa [hM] at this
  have HNB := Lib.hid hnb
  obtain ⟨i1, hi1, hy0, hy1, hy2⟩ := info_parts infoT
  have HI1 := Lib.hid hi1
  have HY0 := Lib.hid hy0
  have HY1 := Lib.hid hy1
  have HY2 := Lib.hid hy2
  clear hi1 hy0 hy1 hy2
  clear hnb hM
  obtain ⟨kind, row, col, num⟩ := a
  obtain ⟨W, hW⟩ : ∃ W, W = ((w.alloc (.cells #[.slice A d.now.length c, .slice B d.past.length kk] 26)).alloc (.cells #[.int .i64 kind, .int .i64 row, .int .i64 col, .int .i64 num] 28)).alloc (.cells #[.slice none 0 0, .slice none 0 0] 26) := ⟨_, rfl⟩
  have HX : Hid (DoBox w W (.slice A d.now.length c) (.slice B d.past.length kk) ⟨kind, row, col, num⟩) := by show DoBox _ _ _ _ _; rw [hW]; exact DoBox.new w _ _ ⟨kind, row, col, num⟩
  have HB := Lib.hid HX.out.bel
  have H1 := Lib.hid h
  have H2 := Lib.hid h'
  have HK := Lib.hid (deskOk_spec A B c kk d hx hy W ((keepRows HB.out h).lt HB.out.size) ((keepTabs HB.out h').lt HB.out.size))
  rw [hd] at HK
  have HDK := Lib.hid hd
  have HXL := Lib.hid hx
  obtain ⟨_, ⟨e0, e1⟩, _, _, _⟩ := HX.out.on (Below.refl _ _)
  unfold dskV ddV
  unfold dskV at HK
  unfold ddV at HMS
  simp only at HMS
  have HP0 : Hid (0 < d.past.length → ¬ (kind = 4 ∧ row = 0 ∧ col = 0 ∧ num = 0)) := fun h0 hh => HNB.out ⟨decide_eq_true hh, h0⟩
  clear h h' hd hx hy hgn HNB
  have HPC : Hid (d.past.length = 0 ∧ decide (0 < d.past.length) = false ∨ 0 < d.past.length ∧ decide (0 < d.past.length) = true) := by
    rcases Nat.eq_zero_or_pos d.past.length with hpz | hpz
    · exact .inl ⟨hpz, decide_eq_false (by omega)⟩
    · exact .inr ⟨hpz, decide_eq_true hpz⟩
  rcases HPC.out with ⟨hpz, hpd⟩ | ⟨hpz, hpd⟩
  all_goals
    have HPZ := Lib.hid hpz
    have hpe := hpd
    rw [show decide (0 < d.past.length) = decide ((0 : Int) < (d.past.length : Int)) from decide_eq_decide.2 (by omega)] at hpe
    clear HPC hpz
    go_enter Tryz.func6, Tryz.ntmps6
    go_wp2_with fail
    rw [← hW]
    clear hW
    refine HK.out.mono ?_
    rintro e w1 ⟨rfl, hb1⟩
    obtain ⟨k0, ⟨d0, d1⟩, _, _, _⟩ := HX.out.on hb1
    have HB1 := Lib.hid hb1
    have HK0 := Lib.hid k0
    clear k0 hb1 e0 e1
    go_wp2_with fail
    refine (copyD_spec A B c kk d HDK.out w1 ((keepRows HK0.out H1.out).lt HK0.out.size) ((keepTabs HK0.out H2.out).lt HK0.out.size)).mono ?_
    rintro e w2 ⟨TN, cN, v, A0, C0, AA, CC, TT, UU, rfl, hcN1, hcN2, hb2, hT2, hG2, hap⟩
    obtain ⟨TP, cP, rfl, hcP1, hcP2, hP2⟩ := hG2.past
    obtain ⟨w3, hw3⟩ : ∃ w3, w3 = w2.alloc (.cells #[.slice TN d.now.length cN, .slice TP d.past.length cP] 26) := ⟨_, rfl⟩
    obtain ⟨pO, hpO⟩ : ∃ pO, w2.heap.size = pO := ⟨_, rfl⟩
    have hs2 := hb2.size
    have hb23 : Below w1.heap.size w1 w3 := by rw [hw3]; exact hb2.alloc hs2 _
    have hz3 : w3.heap.size = pO + 1 := by rw [hw3, ← hpO]; simp
    have hb03 : Below pO w2 w3 := by rw [hw3]; exact (Below.refl _ _).alloc (by omega) _
    have HO3 : Hid (BoxD w3 pO (.slice TN d.now.length cN) (.slice TP d.past.length cP) ∧ w3.frozen? ⟨pO, 0, none⟩ = false ∧ w3.frozen? ⟨pO, 1, none⟩ = false) := by
      refine ⟨⟨by omega, ?_, ?_⟩, ?_, ?_⟩
      all_goals (rw [hw3, ← hpO]; simp [go_sem])
    have HT3 : Hid (TabOwn w3 w1.heap.size pO TN A0 C0 d.now) := by
      have := hT2.keep (w' := w3) fun b _ hb => hb03.block b (by omega)
      rw [hpO] at this; exact this
    have HG3 : Hid (GrowsP w3 w1.heap.size pO (.slice TP d.past.length cP) AA CC TT UU d.past) := by
      have hg := hG2.keep (w' := w3) (by rw [hpO]; exact hb03)
      rw [hpO] at hg; exact hg
    have HAP := Lib.hid hap
    have HBW3 := Lib.hid (HB1.out.trans (hb23.mono HB1.out.size))
    obtain ⟨k0, ⟨d0', d1'⟩, ⟨a0, a1, a2, a3⟩, _, _⟩ := HX.out.on HBW3.out
    have HR3 : Hid (Rows2 w3 (· < w3.heap.size) A d.now) := (keepRows k0 H1.out).lt k0.size
    have Hz3 := Lib.hid hz3
    have Hs2 : Hid (w1.heap.size ≤ pO) := by show _ ≤ _; omega
    have hXz := HX.out.size
    have hB1s := HB1.out.size
    have n1 : w.heap.size + 1 + 1 < pO := by omega
    have n2 : ¬ (w.heap.size + 1 + 1 = pO) := by omega
    have n3 : ¬ (pO = w.heap.size + 1 + 1) := by omega
    unfold maxLen at hcP2
    have e3 : w2.alloc (.cells #[.slice TN d.now.length cN, .slice TP d.past.length cP] 26) = w3 := hw3.symm
    clear hXz hB1s hap hT2 hG2 hb2 hb23 hb03 hP2 k0 hw3 HK d0 d1 hz3 hs2
    go_wp2_with fail
    all_goals try (exfalso; exact HP0.out HPZ.out ⟨by assumption, by assumption, by assumption, by assumption⟩)
    all_goals clear e3 a0 a1 a2 a3 hpO
    all_goals try subst_vars
    all_goals
      refine (HMS.out w3 _ _ HR3.out).mono ?_
      rintro e w4 ⟨TM, cM, rfl, hb4, ho4⟩
      have HB4 := Lib.hid (HBW3.out.trans (hb4.mono HBW3.out.size))
      have HL4 := Lib.hid (laid_spec TM cM M _ hML w4 (ho4.rows2.mono fun b hb => hb.2 : Rows2 w4 (· < w4.heap.size) TM M))
      have HM4 : Hid (Rows2 w4 (· < w4.heap.size) TM M) := ho4.rows2.mono fun b hb => hb.2
      have hk4 : Below pO w3 w4 := hb4.mono (by rw [Hz3.out]; omega)
      have HB34 := Lib.hid hb4
      clear hb4 ho4
      go_wp2_with fail
      refine HL4.out.mono ?_
      rintro e w5 ⟨rfl, n5, rfl⟩
      obtain ⟨k0, ⟨d0, d1⟩, _, ⟨y0, y1⟩, ⟨f0, f1⟩⟩ := HX.out.on (below_drewN HB4.out n5)
      have hlt4 : pO < w3.heap.size := by rw [Hz3.out]; omega
      have o0 : (w4.drewN n5).cell? ⟨pO, 0, none⟩ = some (.slice TN d.now.length cN) := (HB34.out.cell (p := ⟨pO, 0, none⟩) hlt4).trans HO3.out.1.c0
      have o1 : (w4.drewN n5).cell? ⟨pO, 1, none⟩ = some (.slice TP d.past.length cP) := (HB34.out.cell (p := ⟨pO, 1, none⟩) hlt4).trans HO3.out.1.c1
      have HK4 := Lib.hid k0
      clear k0
      rcases hlb : laidB M with _ | _
      · clear hlb
        go_wp2_with fail
        obtain ⟨r0, r1, rz, rb⟩ := box_put (.slice TN d.now.length cN) (.slice TP d.past.length cP) y0 y1
        have hown := (own_copy HT3.out HG3.out.past'.2 HAP.out).keep (w' := (((w4.drewN n5).setCell ⟨w.heap.size + 1 + 1, 0, none⟩ (.slice TN d.now.length cN)).setCell ⟨w.heap.size + 1 + 1, 1, none⟩ (.slice TP d.past.length cP))) fun b h1 h2 => (rb b (by have := HX.out.size; have := HB1.out.size; omega)).trans (HB34.out.block b (by rw [Hz3.out]; omega))
        have hroom := (HG3.out.room).keep (w' := (((w4.drewN n5).setCell ⟨w.heap.size + 1 + 1, 0, none⟩ (.slice TN d.now.length cN)).setCell ⟨w.heap.size + 1 + 1, 1, none⟩ (.slice TP d.past.length cP))) fun b h1 h2 => (rb b (by have := HX.out.size; have := HB1.out.size; omega)).trans (HB34.out.block b (by rw [Hz3.out]; omega))
        have hbF := below_put HK4.out (show w.heap.size ≤ w.heap.size + 1 + 1 by omega) (.slice TN d.now.length cN) (.slice TP d.past.length cP)
        refine bodyPost_ret (v := .tuple #[dskV TN d.now.length cN TP d.past.length cP, .bool false]) (by simp [results, dskV, Tryz.results6, go_sem, r0, r1]) rfl ?_
        have hz4 := HB34.out.size
        exact ⟨_, _, _, ⟨cP, by first | assumption | omega, by unfold maxLen; omega⟩, _, _, _, _, rfl, hbF, hown.more (by have := HX.out.size; have := HB1.out.size; omega) (by rw [rz]; show pO ≤ w4.heap.size; rw [Hz3.out] at hz4; omega), hroom.more (by have := HX.out.size; have := HB1.out.size; omega) (by rw [rz]; show pO ≤ w4.heap.size; rw [Hz3.out] at hz4; omega)⟩
      · have hMe : M = d.now := Classical.byContradiction fun hc => hno ⟨hlb, hc⟩
        have HSM := Lib.hid (sameG_spec TM A cM c M d.now _ _ hML HXL.out (w4.drewN n5) (HM4.out.drewN n5) ((keepRows HK4.out H1.out).lt HK4.out.size : Rows2 (w4.drewN n5) (· < (w4.drewN n5).heap.size) A d.now))
        rw [decide_eq_true hMe] at HSM
        clear hlb hMe
        go_wp2_with fail
        refine HSM.out.mono ?_
        rintro e w6 ⟨rfl, n6, rfl⟩
        have u0 : (w4.drewN (n5 + n6)).cell? ⟨pO, 0, none⟩ = some (.slice TN d.now.length cN) := o0
        have u1 : (w4.drewN (n5 + n6)).cell? ⟨pO, 1, none⟩ = some (.slice TP d.past.length cP) := o1
        have z0 : (w4.drewN (n5 + n6)).cell? ⟨w.heap.size + 1 + 1, 0, none⟩ = some (.slice none 0 0) := y0
        have z1 : (w4.drewN (n5 + n6)).cell? ⟨w.heap.size + 1 + 1, 1, none⟩ = some (.slice none 0 0) := y1
        have g0 : (w4.drewN (n5 + n6)).frozen? ⟨w.heap.size + 1 + 1, 0, none⟩ = false := f0
        have g1 : (w4.drewN (n5 + n6)).frozen? ⟨w.heap.size + 1 + 1, 1, none⟩ = false := f1
        go_wp2_with fail
        obtain ⟨r0, r1, rz, rb⟩ := box_put (.slice TN d.now.length cN) (.slice TP d.past.length cP) z0 z1
        have hown := (own_copy HT3.out HG3.out.past'.2 HAP.out).keep (w' := (((w4.drewN (n5 + n6)).setCell ⟨w.heap.size + 1 + 1, 0, none⟩ (.slice TN d.now.length cN)).setCell ⟨w.heap.size + 1 + 1, 1, none⟩ (.slice TP d.past.length cP))) fun b h1 h2 => (rb b (by have := HX.out.size; have := HB1.out.size; omega)).trans (HB34.out.block b (by rw [Hz3.out]; omega))
        have hroom := (HG3.out.room).keep (w' := (((w4.drewN (n5 + n6)).setCell ⟨w.heap.size + 1 + 1, 0, none⟩ (.slice TN d.now.length cN)).setCell ⟨w.heap.size + 1 + 1, 1, none⟩ (.slice TP d.past.length cP))) fun b h1 h2 => (rb b (by have := HX.out.size; have := HB1.out.size; omega)).trans (HB34.out.block b (by rw [Hz3.out]; omega))
        have hbF := below_put (by rw [← World.drewN_drewN]; exact below_drewN HK4.out n6 : Below w.heap.size w (w4.drewN (n5 + n6))) (show w.heap.size ≤ w.heap.size + 1 + 1 by omega) (.slice TN d.now.length cN) (.slice TP d.past.length cP)
        refine bodyPost_ret (v := .tuple #[dskV TN d.now.length cN TP d.past.length cP, .bool false]) (by simp [results, dskV, Tryz.results6, go_sem, r0, r1]) rfl ?_
        have hz4 := HB34.out.size
        exact ⟨_, _, _, ⟨cP, by first | assumption | omega, by unfold maxLen; omega⟩, _, _, _, _, rfl, hbF, hown.more (by have := HX.out.size; have := HB1.out.size; omega) (by rw [rz]; show pO ≤ w4.heap.size; rw [Hz3.out] at hz4; omega), hroom.more (by have := HX.out.size; have := HB1.out.size; omega) (by rw [rz]; show pO ≤ w4.heap.size; rw [Hz3.out] at hz4; omega)⟩
end Go.Proofs.YtlmaeadbomnhlaaGreat

namespace Go.Proofs.YtlmaeadbomnhlaaGreat
set_option linter.unusedSimpArgs false
set_option linter.unusedVariables false
open Go.RowKit
set_option maxHeartbeats 8000000 in
set_option maxRecDepth 100000 in
theorem deskDo_made (A B : Option Addr) (c kk : Nat) (d : Dk) (a : Dd) (hx : d.now.length ≤ maxLen) (hy : d.past.length ≤ maxLen) (hd : dkB d = true) (hnb : ¬ (backB a = true ∧ 0 < d.past.length)) (hl : laidB (madeT d.now a) = true) (hn : madeT d.now a ≠ d.now) (w : World) (h : Rows2 w (· < w.heap.size) A d.now) (h' : Rows3 w (· < w.heap.size) B d.past) :
    Calls Tryz.prog 6 #[dskV A d.now.length c B d.past.length kk, ddV a] w (DeskResR w (doD d a) (.bool (canB d a))) := by
  rw [(do_made hd hnb hl hn).1, (do_made hd hnb hl hn).2]
  have hp8 := (dkB_iff.1 hd).2.2
  have hgn := laid_game (dkB_iff.1 hd).2.1
  have hML := made_max hd a
  obtain ⟨M, hM⟩ : ∃ M, madeT d.now a = M := ⟨_, rfl⟩
  rw [hM] at hML
  try rw [hM] at hl
  try rw [hM] at hn
  try rw [hM] at hno
  try rw [hM]
  have HMS : Hid (∀ (w' : World) (A' : Option Addr) (c' : Nat), Rows2 w' (· < w'.heap.size) A' d.now → Calls Tryz.prog 18 #[.slice A' d.now.length c', ddV a] w' (NewTable w' M)) := fun w' A' c' hr => by have := made_spec A' c' d.now a hgn w' hr; rwa [hM] at this
  have HNB := Lib.hid hnb
  obtain ⟨i1, hi1, hy0, hy1, hy2⟩ := info_parts infoT
  have HI1 := Lib.hid hi1
  have HY0 := Lib.hid hy0
  have HY1 := Lib.hid hy1
  have HY2 := Lib.hid hy2
  clear hi1 hy0 hy1 hy2
  have HLM := Lib.hid hl
  have HNM := Lib.hid hn
  clear hnb hM hl hn
  obtain ⟨kind, row, col, num⟩ := a
  obtain ⟨W, hW⟩ : ∃ W, W = ((w.alloc (.cells #[.slice A d.now.length c, .slice B d.past.length kk] 26)).alloc (.cells #[.int .i64 kind, .int .i64 row, .int .i64 col, .int .i64 num] 28)).alloc (.cells #[.slice none 0 0, .slice none 0 0] 26) := ⟨_, rfl⟩
  have HX : Hid (DoBox w W (.slice A d.now.length c) (.slice B d.past.length kk) ⟨kind, row, col, num⟩) := by show DoBox _ _ _ _ _; rw [hW]; exact DoBox.new w _ _ ⟨kind, row, col, num⟩
  have HB := Lib.hid HX.out.bel
  have H1 := Lib.hid h
  have H2 := Lib.hid h'
  have HK := Lib.hid (deskOk_spec A B c kk d hx hy W ((keepRows HB.out h).lt HB.out.size) ((keepTabs HB.out h').lt HB.out.size))
  rw [hd] at HK
  have HDK := Lib.hid hd
  have HXL := Lib.hid hx
  obtain ⟨_, ⟨e0, e1⟩, _, _, _⟩ := HX.out.on (Below.refl _ _)
  unfold dskV ddV
  unfold dskV at HK
  unfold ddV at HMS
  simp only at HMS
  have HP0 : Hid (0 < d.past.length → ¬ (kind = 4 ∧ row = 0 ∧ col = 0 ∧ num = 0)) := fun h0 hh => HNB.out ⟨decide_eq_true hh, h0⟩
  clear h h' hd hx hy hgn HNB
  have HPC : Hid (d.past.length = 0 ∧ decide (0 < d.past.length) = false ∨ 0 < d.past.length ∧ decide (0 < d.past.length) = true) := by
    rcases Nat.eq_zero_or_pos d.past.length with hpz | hpz
    · exact .inl ⟨hpz, decide_eq_false (by omega)⟩
    · exact .inr ⟨hpz, decide_eq_true hpz⟩
  rcases HPC.out with ⟨hpz, hpd⟩ | ⟨hpz, hpd⟩
  all_goals
    have HPZ := Lib.hid hpz
    have hpe := hpd
    rw [show decide (0 < d.past.length) = decide ((0 : Int) < (d.past.length : Int)) from decide_eq_decide.2 (by omega)] at hpe
    clear HPC hpz
    go_enter Tryz.func6, Tryz.ntmps6
    go_wp2_with fail
    rw [← hW]
    clear hW
    refine HK.out.mono ?_
    rintro e w1 ⟨rfl, hb1⟩
    obtain ⟨k0, ⟨d0, d1⟩, _, _, _⟩ := HX.out.on hb1
    have HB1 := Lib.hid hb1
    have HK0 := Lib.hid k0
    clear k0 hb1 e0 e1
    go_wp2_with fail
    refine (copyD_spec A B c kk d HDK.out w1 ((keepRows HK0.out H1.out).lt HK0.out.size) ((keepTabs HK0.out H2.out).lt HK0.out.size)).mono ?_
    rintro e w2 ⟨TN, cN, v, A0, C0, AA, CC, TT, UU, rfl, hcN1, hcN2, hb2, hT2, hG2, hap⟩
    obtain ⟨TP, cP, rfl, hcP1, hcP2, hP2⟩ := hG2.past
    obtain ⟨w3, hw3⟩ : ∃ w3, w3 = w2.alloc (.cells #[.slice TN d.now.length cN, .slice TP d.past.length cP] 26) := ⟨_, rfl⟩
    obtain ⟨pO, hpO⟩ : ∃ pO, w2.heap.size = pO := ⟨_, rfl⟩
    have hs2 := hb2.size
    have hb23 : Below w1.heap.size w1 w3 := by rw [hw3]; exact hb2.alloc hs2 _
    have hz3 : w3.heap.size = pO + 1 := by rw [hw3, ← hpO]; simp
    have hb03 : Below pO w2 w3 := by rw [hw3]; exact (Below.refl _ _).alloc (by omega) _
    have HO3 : Hid (BoxD w3 pO (.slice TN d.now.length cN) (.slice TP d.past.length cP) ∧ w3.frozen? ⟨pO, 0, none⟩ = false ∧ w3.frozen? ⟨pO, 1, none⟩ = false) := by
      refine ⟨⟨by omega, ?_, ?_⟩, ?_, ?_⟩
      all_goals (rw [hw3, ← hpO]; simp [go_sem])
    have HT3 : Hid (TabOwn w3 w1.heap.size pO TN A0 C0 d.now) := by
      have := hT2.keep (w' := w3) fun b _ hb => hb03.block b (by omega)
      rw [hpO] at this; exact this
    have HG3 : Hid (GrowsP w3 w1.heap.size pO (.slice TP d.past.length cP) AA CC TT UU d.past) := by
      have hg := hG2.keep (w' := w3) (by rw [hpO]; exact hb03)
      rw [hpO] at hg; exact hg
    have HAP := Lib.hid hap
    have HBW3 := Lib.hid (HB1.out.trans (hb23.mono HB1.out.size))
    obtain ⟨k0, ⟨d0', d1'⟩, ⟨a0, a1, a2, a3⟩, _, _⟩ := HX.out.on HBW3.out
    have HR3 : Hid (Rows2 w3 (· < w3.heap.size) A d.now) := (keepRows k0 H1.out).lt k0.size
    have Hz3 := Lib.hid hz3
    have Hs2 : Hid (w1.heap.size ≤ pO) := by show _ ≤ _; omega
    have hXz := HX.out.size
    have hB1s := HB1.out.size
    have n1 : w.heap.size + 1 + 1 < pO := by omega
    have n2 : ¬ (w.heap.size + 1 + 1 = pO) := by omega
    have n3 : ¬ (pO = w.heap.size + 1 + 1) := by omega
    unfold maxLen at hcP2
    have e3 : w2.alloc (.cells #[.slice TN d.now.length cN, .slice TP d.past.length cP] 26) = w3 := hw3.symm
    clear hXz hB1s hap hT2 hG2 hb2 hb23 hb03 hP2 k0 hw3 HK d0 d1 hz3 hs2
    go_wp2_with fail
    all_goals try (exfalso; exact HP0.out HPZ.out ⟨by assumption, by assumption, by assumption, by assumption⟩)
    all_goals clear e3 a0 a1 a2 a3 hpO
    all_goals try subst_vars
    all_goals
      refine (HMS.out w3 _ _ HR3.out).mono ?_
      rintro e w4 ⟨TM, cM, rfl, hb4, ho4⟩
      have HB4 := Lib.hid (HBW3.out.trans (hb4.mono HBW3.out.size))
      have HL4 := Lib.hid (laid_spec TM cM M _ hML w4 (ho4.rows2.mono fun b hb => hb.2 : Rows2 w4 (· < w4.heap.size) TM M))
      rw [HLM.out] at HL4
      have HM4 : Hid (Rows2 w4 (· < w4.heap.size) TM M) := ho4.rows2.mono fun b hb => hb.2
      have HB34 := Lib.hid hb4
      have HO4 := Lib.hid ho4
      clear hb4 ho4
      go_wp2_with fail
      refine HL4.out.mono ?_
      rintro e w5 ⟨rfl, n5, rfl⟩
      obtain ⟨k0, ⟨d0, d1⟩, _, _, _⟩ := HX.out.on (below_drewN HB4.out n5)
      have HSM := Lib.hid (sameG_spec TM A cM c M d.now _ _ hML HXL.out (w4.drewN n5) (HM4.out.drewN n5) ((keepRows k0 H1.out).lt k0.size : Rows2 (w4.drewN n5) (· < (w4.drewN n5).heap.size) A d.now))
      rw [decide_eq_false HNM.out] at HSM
      clear k0
      go_wp2_with fail
      refine HSM.out.mono ?_
      rintro e w5 ⟨rfl, n6, rfl⟩
      obtain ⟨w6, hw6⟩ : ∃ w6, w6 = (w4.drewN n5).drewN n6 := ⟨_, rfl⟩
      rw [← hw6]
      have HB6 : Hid (Below W.heap.size W w6) := by show Below _ _ _; rw [hw6]; exact below_drewN (below_drewN HB4.out n5) n6
      have HK6 : Hid (Below w3.heap.size w3 w6) := by show Below _ _ _; rw [hw6]; exact below_drewN (below_drewN HB34.out n5) n6
      have HN6 : Hid (OwnR w6 w3.heap.size w6.heap.size TM M) := by show OwnR _ _ _ _ _; rw [hw6]; exact HO4.out.keep fun _ _ _ => rfl
      clear hw6 d0 d1
      obtain ⟨AM, CM, hNT⟩ := HN6.out.tab
      have HNT := Lib.hid hNT
      clear hNT HSM HL4 HM4 HO4 HB34
      have hlt3 : pO < w3.heap.size := by rw [Hz3.out]; omega
      have o0 := (HK6.out.cell (p := ⟨pO, 0, none⟩) hlt3).trans HO3.out.1.c0
      have o1 := (HK6.out.cell (p := ⟨pO, 1, none⟩) hlt3).trans HO3.out.1.c1
      have HG6 : Hid (GrowsP w6 w1.heap.size w6.heap.size (.slice TP d.past.length cP) AA CC TT UU d.past) := (HG3.out.keep (HK6.out.mono (by rw [Hz3.out]; omega))).up (by have := HK6.out.size; omega) (Nat.le_refl _)
      have HT6 : Hid (TabOwn w6 w1.heap.size w6.heap.size TN A0 C0 d.now) := (HT3.out.keep fun b _ hb => HK6.out.block b (by omega)).more (Nat.le_refl _) (by have := HK6.out.size; omega)
      have hs6 : w1.heap.size ≤ w6.heap.size := by have := HK6.out.size; have := Hs2.out; omega
      go_wp2_with (at_builtin; refine wpList_append_own_at _ rfl (.tmp 55) (.tmp 58) _ rfl w1.heap.size 23 i1 (.slice none 0 0) 1 24 Tryz.underlying24 HI1.out HY0.out HY1.out HY2.out rfl (by decide) _ _ _ rfl (World.ownsRow.alloc HG6.out.top _) ⟨w6.heap.size, 0, none⟩ 1 1 [.slice TN d.now.length cN] rfl rfl (cell_one_new _ _ _) ?c2 ?c3 ?c4 ?c5 ?_)
      case c2 => intro u hu; simp at hu; subst hu; rfl
      case c3 => unfold maxLen; omega
      case c4 => omega
      case c5 => simp; omega
      intro v' w7 hown hgrow _ hat
      have hlt6 : pO < w6.heap.size := by have := HK6.out.size; omega
      have hblk : ∀ b, pO ≤ b → b < w6.heap.size → w7.heap[b]? = w6.heap[b]? := fun b h1 h2 => by
        rw [hgrow.block b (by simp; omega) (fun e => by have := HG3.out.hib b e.symm; omega), Below.heap_alloc _ _ _ h2]
      have hbl7 : Below w1.heap.size w6 w7 := HG6.out.below hgrow (Below.refl _ _) (Nat.le_refl _) hs6
      have hz7 : w6.heap.size ≤ w7.heap.size := hbl7.size
      have G7 := HG6.out.snoc HT6.out hcN1 hcN2 (fun t b ht h1 h2 => HAP.out t b ht h2 h1) hown hgrow (by rcases hat with e | e; exact .inl e; exact .inr (by rw [e]; try simp))
      have HN7 := Lib.hid (HG6.out.stays hgrow (Nat.le_refl _) HNT.out)
      have tabs7 : ∀ i, i < (d.past ++ [d.now]).length → TabOwn w7 w1.heap.size pO (if i < d.past.length then TT i else TN) (if i < d.past.length then AA i else A0) (if i < d.past.length then CC i else C0) (tabAt (d.past ++ [d.now]) i) := fun i hi => by
        rw [List.length_append, List.length_singleton] at hi
        by_cases e : i < d.past.length
        · rw [if_pos e, if_pos e, if_pos e, tabAt_snoc_lt _ _ _ e]
          exact HG6.out.stays hgrow (by omega) ((HG3.out.tabs i e).keep fun b _ hb => HK6.out.block b (by omega))
        · obtain rfl : i = d.past.length := by omega
          rw [if_neg e, if_neg e, if_neg e, tabAt_snoc_eq]
          exact HG6.out.stays hgrow (by omega) (HT3.out.keep fun b _ hb => HK6.out.block b (by omega))
      have hbP : ∀ k, v'.ownBlock = some k → k ≠ pO := fun k hk => by
        rcases hat with e | e
        · have := HG3.out.hib k (by rw [← e]; exact hk); omega
        · rw [e] at hk; injection hk with hk; (try simp at hk); omega
      rcases G7.top_row with ⟨_, e⟩ | ⟨bP, c5, f5, hv', q1, q2, q3, q4, q5⟩
      · exact absurd e (by simp)
      have hbP2 : bP ≠ pO := hbP bP (by rw [hv']; rfl)
      have hbP3 : bP < w7.heap.size := G7.hib bP (by rw [hv']; rfl)
      have HG7 := Lib.hid (And.intro tabs7 (And.intro G7.cap G7.apart))
      have hlen : (d.past ++ [d.now]).length = d.past.length + 1 := by simp
      have HQ := Lib.hid (And.intro q4 q5)
      rw [hlen] at hv' q2
      subst hv'
      have HL := Lib.hid hlen
      obtain ⟨k0, _, _, ⟨z0, z1⟩, ⟨g0, g1⟩⟩ := HX.out.on (HB6.out.trans (hbl7.mono HB1.out.size))
      have HK7 := Lib.hid k0
      have p0 := (World.cell?_of_block (w := w6) (a := ⟨pO, 0, none⟩) (hblk pO (Nat.le_refl _) hlt6)).trans o0
      have p1 := (World.cell?_of_block (w := w6) (a := ⟨pO, 1, none⟩) (hblk pO (Nat.le_refl _) hlt6)).trans o1
      have fp0 := (World.frozen?_of_block (w := w6) (a := ⟨pO, 0, none⟩) (hblk pO (Nat.le_refl _) hlt6)).trans ((HK6.out.frozen (p := ⟨pO, 0, none⟩) hlt3).trans HO3.out.2.1)
      have fp1 := (World.frozen?_of_block (w := w6) (a := ⟨pO, 1, none⟩) (hblk pO (Nat.le_refl _) hlt6)).trans ((HK6.out.frozen (p := ⟨pO, 1, none⟩) hlt3).trans HO3.out.2.2)
      clear hown hgrow hat hblk hbl7 G7 tabs7 hbP q4 q5 k0 o0 o1 hlen HG6 HNT HN6 HT6
      unfold maxLen at q3
      by_cases h8 : d.past.length < 8
      · have gd1 : decide ((8 : Int) < (d.past.length : Int) + 1) = false := decide_eq_false (by omega)
        have gd2 : decide (8 < d.past.length + 1) = false := decide_eq_false (by omega)
        have gd3 : decide ((8 : Int) < ((d.past.length + 1 : Nat) : Int)) = false := decide_eq_false (by omega)
        go_wp2_with fail
        obtain ⟨wm, hwm⟩ : ∃ wm, wm = (w7.setCell ⟨pO, 1, none⟩ (Value.slice (some ⟨bP, 0, none⟩) (d.past.length + 1) c5)).setCell ⟨pO, 0, none⟩ (.slice TM M.length cM) := ⟨_, rfl⟩
        have hst : ∀ b, b ≠ pO → wm.heap[b]? = w7.heap[b]? := fun b hb => by
          rw [hwm]
          repeat rw [Below.heap_setCell _ _ _ _ hb]
        have hzm : wm.heap.size = w7.heap.size := by rw [hwm]; simp [World.setCell]
        have hbm : Below w.heap.size w wm := by
          rw [hwm]
          repeat refine Below.setCell ?_ (by show w.heap.size ≤ pO; omega) _
          exact HK7.out
        rw [← hwm]
        have y0 := (World.cell?_of_block (w := w7) (w' := wm) (a := ⟨w.heap.size + 1 + 1, 0, none⟩) (hst _ n2)).trans z0
        have y1 := (World.cell?_of_block (w := w7) (w' := wm) (a := ⟨w.heap.size + 1 + 1, 1, none⟩) (hst _ n2)).trans z1
        obtain ⟨r0, r1, rz, rb⟩ := box_put (.slice TM M.length cM) (Value.slice (some ⟨bP, 0, none⟩) (d.past.length + 1) c5) y0 y1
        obtain ⟨wF, hwF⟩ : ∃ wF, wF = (wm.setCell ⟨w.heap.size + 1 + 1, 0, none⟩ (.slice TM M.length cM)).setCell ⟨w.heap.size + 1 + 1, 1, none⟩ (Value.slice (some ⟨bP, 0, none⟩) (d.past.length + 1) c5) := ⟨_, rfl⟩
        have hbF := below_put hbm (show w.heap.size ≤ w.heap.size + 1 + 1 by omega) (.slice TM M.length cM) (Value.slice (some ⟨bP, 0, none⟩) (d.past.length + 1) c5)
        rw [← hwF] at r0 r1 rz rb hbF ⊢
        have hXz := HX.out.size
        have hB1s := HB1.out.size
        have hz3 := Hz3.out
        have hk6 := HK6.out.size
        have hs2 := Hs2.out
        have stF : ∀ b, b ≠ pO → w1.heap.size ≤ b → wF.heap[b]? = w7.heap[b]? := fun b h1 h2 => (rb b (by omega)).trans (hst b h1)
        have hnF : TabOwn wF w3.heap.size wF.heap.size TM AM CM M := (HN7.out.keep fun b h1 _ => stF b (by omega) (by omega)).more (Nat.le_refl _) (by omega)
        have hpF : PastOwn wF w1.heap.size wF.heap.size (some ⟨bP, 0, none⟩) (d.past ++ [d.now]) (fun i => if i < d.past.length then AA i else A0) (fun i => if i < d.past.length then CC i else C0) (fun i => if i < d.past.length then TT i else TN) (fun i => if i < d.past.length then UU i else cN) :=
          ⟨fun _ => ⟨bP, 0, c5, f5, rfl, q1, by omega, by rw [HL.out]; omega, HQ.out.1.of_block (stF bP hbP2 q1), fun i hi => ⟨by rw [Nat.zero_add]; exact HQ.out.2 i hi, HG7.out.2.1 i hi⟩⟩, fun i hi => ((HG7.out.1 i hi).keep fun b h1 h2 => stF b (by omega) h1).more (Nat.le_refl _) (by omega), HG7.out.2.2⟩
        have htF : ∀ t b, t < (d.past ++ [d.now]).length → RowAtB (if t < d.past.length then AA t else A0) (tabAt (d.past ++ [d.now]) t) b → b < w3.heap.size := fun t b ht h1 => by have := (HG7.out.1 t ht).rows_in h1; omega
        have hown := (own_push hnF (show w1.heap.size ≤ w3.heap.size by have := Hs2.out; omega) hpF htF h8).more (show w.heap.size ≤ w1.heap.size by omega) (Nat.le_refl _)
        have hpl : (pushP d.past d.now).length = d.past.length + 1 := by unfold pushP; first | (rw [if_pos h8]; simp) | (rw [if_neg h8]; simp)
        refine bodyPost_ret (v := .tuple #[.agg #[.slice TM M.length cM, Value.slice (some ⟨bP, 0, none⟩) (d.past.length + 1) c5], .bool true]) (by simp [results, dskV, Tryz.results6, go_sem, r0, r1]) rfl ?_
        exact ⟨_, _, _, ⟨c5, by simp only; rw [hpl]; omega, by unfold maxLen; omega⟩, _, _, _, _, by simp only; rw [hpl]; rfl, hbF, hown, fun hc0 => ⟨bP, 0, c5, f5, rfl, by omega, by omega, by (have h0 : 0 < c5 := hc0); show _ + (c5) ≤ _; omega, HQ.out.1.of_block (stF bP hbP2 q1)⟩⟩
      · have e8 : d.past.length = 8 := by omega
        have gd1 : decide ((8 : Int) < (d.past.length : Int) + 1) = true := decide_eq_true (by omega)
        have gd2 : decide (8 < d.past.length + 1) = true := decide_eq_true (by omega)
        have gd3 : decide ((8 : Int) < ((d.past.length + 1 : Nat) : Int)) = true := decide_eq_true (by omega)
        have HE8 := Lib.hid e8
        clear e8
        go_wp2_with fail
        obtain ⟨wm, hwm⟩ : ∃ wm, wm = ((w7.setCell ⟨pO, 1, none⟩ (Value.slice (some ⟨bP, 0, none⟩) (d.past.length + 1) c5)).setCell ⟨pO, 1, none⟩ (Value.slice (some ⟨bP, 1, none⟩) d.past.length (c5 - 1))).setCell ⟨pO, 0, none⟩ (.slice TM M.length cM) := ⟨_, rfl⟩
        have hst : ∀ b, b ≠ pO → wm.heap[b]? = w7.heap[b]? := fun b hb => by
          rw [hwm]
          repeat rw [Below.heap_setCell _ _ _ _ hb]
        have hzm : wm.heap.size = w7.heap.size := by rw [hwm]; simp [World.setCell]
        have hbm : Below w.heap.size w wm := by
          rw [hwm]
          repeat refine Below.setCell ?_ (by show w.heap.size ≤ pO; omega) _
          exact HK7.out
        rw [← hwm]
        have y0 := (World.cell?_of_block (w := w7) (w' := wm) (a := ⟨w.heap.size + 1 + 1, 0, none⟩) (hst _ n2)).trans z0
        have y1 := (World.cell?_of_block (w := w7) (w' := wm) (a := ⟨w.heap.size + 1 + 1, 1, none⟩) (hst _ n2)).trans z1
        obtain ⟨r0, r1, rz, rb⟩ := box_put (.slice TM M.length cM) (Value.slice (some ⟨bP, 1, none⟩) d.past.length (c5 - 1)) y0 y1
        obtain ⟨wF, hwF⟩ : ∃ wF, wF = (wm.setCell ⟨w.heap.size + 1 + 1, 0, none⟩ (.slice TM M.length cM)).setCell ⟨w.heap.size + 1 + 1, 1, none⟩ (Value.slice (some ⟨bP, 1, none⟩) d.past.length (c5 - 1)) := ⟨_, rfl⟩
        have hbF := below_put hbm (show w.heap.size ≤ w.heap.size + 1 + 1 by omega) (.slice TM M.length cM) (Value.slice (some ⟨bP, 1, none⟩) d.past.length (c5 - 1))
        rw [← hwF] at r0 r1 rz rb hbF ⊢
        have hXz := HX.out.size
        have hB1s := HB1.out.size
        have hz3 := Hz3.out
        have hk6 := HK6.out.size
        have hs2 := Hs2.out
        have stF : ∀ b, b ≠ pO → w1.heap.size ≤ b → wF.heap[b]? = w7.heap[b]? := fun b h1 h2 => (rb b (by omega)).trans (hst b h1)
        have hnF : TabOwn wF w3.heap.size wF.heap.size TM AM CM M := (HN7.out.keep fun b h1 _ => stF b (by omega) (by omega)).more (Nat.le_refl _) (by omega)
        have hpF : PastOwn wF w1.heap.size wF.heap.size (some ⟨bP, 0, none⟩) (d.past ++ [d.now]) (fun i => if i < d.past.length then AA i else A0) (fun i => if i < d.past.length then CC i else C0) (fun i => if i < d.past.length then TT i else TN) (fun i => if i < d.past.length then UU i else cN) :=
          ⟨fun _ => ⟨bP, 0, c5, f5, rfl, q1, by omega, by rw [HL.out]; omega, HQ.out.1.of_block (stF bP hbP2 q1), fun i hi => ⟨by rw [Nat.zero_add]; exact HQ.out.2 i hi, HG7.out.2.1 i hi⟩⟩, fun i hi => ((HG7.out.1 i hi).keep fun b h1 h2 => stF b (by omega) h1).more (Nat.le_refl _) (by omega), HG7.out.2.2⟩
        have htF : ∀ t b, t < (d.past ++ [d.now]).length → RowAtB (if t < d.past.length then AA t else A0) (tabAt (d.past ++ [d.now]) t) b → b < w3.heap.size := fun t b ht h1 => by have := (HG7.out.1 t ht).rows_in h1; omega
        have hown := (own_shove hnF (show w1.heap.size ≤ w3.heap.size by have := Hs2.out; omega) hpF htF h8).more (show w.heap.size ≤ w1.heap.size by omega) (Nat.le_refl _)
        have hpl : (pushP d.past d.now).length = d.past.length := by unfold pushP; first | (rw [if_pos h8]; simp) | (rw [if_neg h8]; simp)
        refine bodyPost_ret (v := .tuple #[.agg #[.slice TM M.length cM, Value.slice (some ⟨bP, 1, none⟩) d.past.length (c5 - 1)], .bool true]) (by simp [results, dskV, Tryz.results6, go_sem, r0, r1]) rfl ?_
        exact ⟨_, _, _, ⟨c5 - 1, by simp only; rw [hpl]; omega, by unfold maxLen; omega⟩, _, _, _, _, by simp only; rw [hpl]; rfl, hbF, hown, fun hc0 => ⟨bP, 1, c5, f5, rfl, by omega, by omega, by (have h0 : 0 < c5 - 1 := hc0); show _ + (c5 - 1) ≤ _; omega, HQ.out.1.of_block (stF bP hbP2 q1)⟩⟩
end Go.Proofs.YtlmaeadbomnhlaaGreat

namespace Go.Proofs.YtlmaeadbomnhlaaGreat
set_option linter.unusedSimpArgs false
set_option linter.unusedVariables false
open Go.RowKit
theorem deskDo_room (A B : Option Addr) (c kk : Nat) (d : Dk) (a : Dd) (hx : d.now.length ≤ maxLen) (hy : d.past.length ≤ maxLen) (w : World) (h : Rows2 w (· < w.heap.size) A d.now) (h' : Rows3 w (· < w.heap.size) B d.past) :
    Calls Tryz.prog 6 #[dskV A d.now.length c B d.past.length kk, ddV a] w (DeskResR w (doD d a) (.bool (canB d a))) := by
  rcases hd : dkB d with _ | _
  · exact deskDo_no A B c kk d a hx hy hd w h h'
  by_cases hb : backB a = true ∧ 0 < d.past.length
  · exact deskDo_back A B c kk d a hx hy hd hb.1 hb.2 w h h'
  by_cases hm : laidB (madeT d.now a) = true ∧ madeT d.now a ≠ d.now
  · exact deskDo_made A B c kk d a hx hy hd hb hm.1 hm.2 w h h'
  · exact deskDo_none A B c kk d a hx hy hd hb hm w h h'
theorem deskDo_spec (A B : Option Addr) (c kk : Nat) (d : Dk) (a : Dd) (hx : d.now.length ≤ maxLen) (hy : d.past.length ≤ maxLen) (w : World) (h : Rows2 w (· < w.heap.size) A d.now) (h' : Rows3 w (· < w.heap.size) B d.past) :
    Calls Tryz.prog 6 #[dskV A d.now.length c B d.past.length kk, ddV a] w (DeskRes w (doD d a) (.bool (canB d a))) :=
  (deskDo_room A B c kk d a hx hy w h h').mono fun e w' h => h.res
end Go.Proofs.YtlmaeadbomnhlaaGreat
