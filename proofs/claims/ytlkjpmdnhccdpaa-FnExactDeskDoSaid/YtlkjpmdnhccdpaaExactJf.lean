/- The walk of the exact law of DeskDo, over contracts of the program's functions. (Written by wip/gen/ex12e.py.) -/
import Derived.Test.YtlkjpmdnhccdpaaQK
namespace Go.Proofs.Ytlkjpmdnhccdpaa
set_option linter.unusedSimpArgs false
set_option linter.unusedVariables false
open Go.RowKit

/-- a deed in a box -/
structure BoxA (w : World) (b : Nat) (v0 v1 v2 v3 : Value) : Prop where
  lt : b < w.heap.size
  c0 : w.cell? ⟨b, 0, none⟩ = some v0
  c1 : w.cell? ⟨b, 1, none⟩ = some v1
  c2 : w.cell? ⟨b, 2, none⟩ = some v2
  c3 : w.cell? ⟨b, 3, none⟩ = some v3

theorem BoxA.keep {w w' : World} {b : Nat} {v0 v1 v2 v3 : Value} (h : BoxA w b v0 v1 v2 v3) (hs : w.heap.size ≤ w'.heap.size) (hb : w'.heap[b]? = w.heap[b]?) : BoxA w' b v0 v1 v2 v3 :=
  ⟨Nat.lt_of_lt_of_le h.lt hs, (World.cell?_of_block (w := w) hb).trans h.c0, (World.cell?_of_block (w := w) hb).trans h.c1, (World.cell?_of_block (w := w) hb).trans h.c2, (World.cell?_of_block (w := w) hb).trans h.c3⟩

theorem BoxA.still {w w' : World} {b : Nat} {v0 v1 v2 v3 : Value} (h : BoxA w b v0 v1 v2 v3) (hb : Below w.heap.size w w') : BoxA w' b v0 v1 v2 v3 := h.keep hb.size (hb.block b h.lt)

theorem BoxA.off {w w' : World} {b lo hi : Nat} {v0 v1 v2 v3 : Value} (h : BoxA w b v0 v1 v2 v3) (hf : Off lo hi w w') (ho : ¬ (lo ≤ b ∧ b < hi)) : BoxA w' b v0 v1 v2 v3 := h.keep (Nat.le_of_eq hf.size.symm) (hf.block b ho)

theorem BoxA.offB {w w' : World} {b lo hi : Nat} {v0 v1 v2 v3 : Value} (h : BoxA w b v0 v1 v2 v3) (hf : OffB lo hi w w') (ho : ¬ (lo ≤ b ∧ b < hi)) : BoxA w' b v0 v1 v2 v3 := h.keep hf.size (hf.block b h.lt ho)

theorem do_smallD (d : Dk) (a : Dd) : SmallD (doD d a) := by
  rcases h : dkB d with _ | _
  · rw [(do_no h a).1]; exact small_zero
  · exact small_ok (do_ok h a)

/-- what is asked of the program's DeskDo -/
structure Impl12D : Prop where
  do_ : ∀ (A B : Option Addr) (c k : Nat) (d : Dk) (a : Dd) (_ : d.now.length ≤ maxLen) (_ : d.past.length ≤ maxLen) (_ : d.past.length ≤ k ∧ k ≤ maxLen) (w : World) (_ : Rows2 w (fun b => b < w.heap.size) A d.now) (_ : Rows3 w (fun b => b < w.heap.size) B d.past), Calls Try.prog 29 #[dskV A d.now.length c B d.past.length k, ddV a] w (DeskRes w (doD d a) (.bool (canB d a)))

set_option maxHeartbeats 8000000 in
set_option maxRecDepth 100000 in
theorem wFnExactDeskDo (I : Impl12D) (A B : Option Addr) (c k : Nat) (d : Dk) (a : Dd) (hx : d.now.length ≤ maxLen) (hy : d.past.length ≤ maxLen) (w : World) (h : Rows2 w (· < w.heap.size) A d.now) (h' : Rows3 w (· < w.heap.size) B d.past) :
    Calls Try.prog 7 #[dskV A d.now.length c B d.past.length k, ddV a] w (Adds (.bool true) w) := by
  obtain ⟨kd, rr, cc, nn⟩ := a
  have R0 : Hid (RdD w w.heap.size A B d) := ⟨h, h'⟩
  have HSZ := Lib.hid (szDesk_c A B c k d 1048576 hx hy (by omega) (by omega))
  have HTD := Lib.hid (fun w => toDeed_c ⟨kd, rr, cc, nn⟩ w)
  have HSR := Lib.hid (do_smallD d ⟨kd, rr, cc, nn⟩)
  have hsp := fun A B c k w => deskDo_spec A B c k d ⟨kd, rr, cc, nn⟩ hx hy w
  have him := fun A B c k hk w => I.do_ A B c k d ⟨kd, rr, cc, nn⟩ hx hy hk w
  obtain ⟨dn, hdn⟩ : ∃ dn, doD d ⟨kd, rr, cc, nn⟩ = dn := ⟨_, rfl⟩
  obtain ⟨ob, hob⟩ : ∃ ob, canB d ⟨kd, rr, cc, nn⟩ = ob := ⟨_, rfl⟩
  rw [hdn] at HSR
  rw [hdn, hob] at hsp him
  unfold dskV ddV at hsp him
  simp only at hsp him
  have HSP := Lib.hid hsp
  have HIM := Lib.hid him
  have HL1 : Hid (dn.now.length ≤ maxLen) := by have := HSR.out.now; show _ ≤ _; unfold maxLen; omega
  have HL2 : Hid (dn.past.length ≤ maxLen) := by have := HSR.out.past; show _ ≤ _; unfold maxLen; omega
  have zB : (ob != ob) = false := by simp
  clear hsp him hdn hob
  unfold ddV at HTD
  simp only at HTD
  unfold dskV ddV
  simp only
  clear h h'
  obtain ⟨W, hW⟩ : ∃ W, W = (w.alloc (.cells #[.slice A d.now.length c, .slice B d.past.length k] 49)).alloc (.cells #[.int .i64 kd, .int .i64 rr, .int .i64 cc, .int .i64 nn] 51) := ⟨_, rfl⟩
  have hbW : Below w.heap.size w W := by rw [hW]; exact ((Below.refl _ _).alloc (Nat.le_refl _) _).alloc (by simp) _
  have BP : Hid (BoxD W w.heap.size (.slice A d.now.length c) (.slice B d.past.length k)) := by show BoxD _ _ _ _; rw [hW]; exact ⟨by simp; omega, by simp [go_sem], by simp [go_sem]⟩
  have BA : Hid (BoxA W (w.heap.size + 1) (.int .i64 kd) (.int .i64 rr) (.int .i64 cc) (.int .i64 nn)) := by show BoxA _ _ _ _ _ _; rw [hW]; exact ⟨by simp, by simp [go_sem], by simp [go_sem], by simp [go_sem], by simp [go_sem]⟩
  have bzBP : w.heap.size + 1 < W.heap.size := by rw [hW]; simp
  have BEL0 := Lib.hid hbW
  have le_w : w.heap.size ≤ W.heap.size := hbW.size
  replace R0 := Lib.hid (keepDk hbW R0.out)
  clear hbW
  have o_w_W : w.heap.size ≤ W.heap.size := le_w
  have le_W : W.heap.size ≤ W.heap.size := Nat.le_refl _
  have cBP0 := BP.out.c0
  have cBP1 := BP.out.c1
  have ltBP := BP.out.lt
  go_enter Try.func7, Try.ntmps7
  go_wp2_with fail
  rw [← hW]
  clear hW
  refine (HSZ.out W (R0.out.lt le_w).n (R0.out.lt le_w).p).mono ?_
  rintro e w1 ⟨r, rfl, hb1, hr⟩
  clear cBP0 cBP1 ltBP
  replace BP := Lib.hid (BP.out.still hb1)
  replace BA := Lib.hid (BA.out.still hb1)
  replace R0 := Lib.hid (keepDk (hb1.mono le_w) R0.out)
  replace le_w := Nat.le_trans le_w hb1.size
  replace le_W := Nat.le_trans le_W hb1.size
  replace BEL0 := Lib.hid (belT BEL0.out hb1)
  clear hb1
  by_cases hz : r < 0
  · clear hr
    go_wp2_with fail
    go_ret
    exact Adds.of rfl BEL0.out
  have HD := Lib.hid (SizedD.small (d := d) (left := 1048576) (r := r) (by omega) (by omega) (by omega))
  clear hr HSZ
  have hsd : sizeD d ≤ 1048576 := HD.out.size
  have hsr : sizeD dn ≤ 1048576 := HSR.out.size
  have o_W_w1 : W.heap.size ≤ w1.heap.size := le_W
  have le_w1 : w1.heap.size ≤ w1.heap.size := Nat.le_refl _
  have HR : Hid (∀ w', Below w1.heap.size w1 w' → Rows2 w' (· < w'.heap.size) A d.now ∧ Rows3 w' (· < w'.heap.size) B d.past) := fun w' hb => (keepDk (hb.mono le_w) R0.out).two (Nat.le_trans le_w hb.size)
  have sY0 := stays BP.out.lt BP.out.c0
  have sY1 := stays BP.out.lt BP.out.c1
  have sZ0 := stays BA.out.lt BA.out.c0
  have sZ1 := stays BA.out.lt BA.out.c1
  have sZ2 := stays BA.out.lt BA.out.c2
  have sZ3 := stays BA.out.lt BA.out.c3
  go_wp2_with fail
  go_cut [6, 7] (fun sp sn wx => ∃ (p lo hi : Nat) (TN : Option Addr) (cN : Nat) (TP : Option Addr) (cP : Nat) (AA : Nat → Nat → Option Addr) (CC : Nat → Nat → Nat) (TT : Nat → Option Addr) (UU : Nat → Nat), sp = .pointer (some ⟨p, 0, none⟩) ∧ sn = .bool ob ∧ Below w1.heap.size w1 wx ∧ BoxD wx p (.slice TN dn.now.length cN) (.slice TP dn.past.length cP) ∧ OwnDk wx lo hi TN TP dn AA CC TT UU ∧ w1.heap.size ≤ p ∧ w1.heap.size ≤ lo ∧ hi ≤ wx.heap.size ∧ lo ≤ wx.heap.size ∧ ¬ (lo ≤ p ∧ p < hi))
  case first =>
    have HS0 : Below w1.heap.size w1 w1.drew := (Below.refl _ _).drew
    refine wp_region_held_drew (S := fun w' => Below w1.heap.size w1 w') (by kernel_rfl) HS0 (fun hHeld => ?_)
    clear hHeld
    generalize w1.drew = D at HS0 ⊢
    have hs0 := HS0.size
    have hHeld := HS0
    refine wpAnyH_take (i := 0) (v := ?v1) rfl (by kernel_rfl) (by kernel_rfl) (by kernel_rfl) (fun _ _ _ h => h) (Or.inl ⟨by rfl, ?y1⟩) (by assumption) ?z1
    case y1 => (intro w hSw; go_simp; first | done | with_reducible rfl)
    try simp only [List.getElem_toArray, List.getElem_cons_succ, List.getElem_cons_zero, Act.put, List.setIfInBounds_toArray, List.set_cons_zero, List.set_cons_succ]
    refine wpAnyH_take (i := 2) (v := ?v2) rfl (by kernel_rfl) (by kernel_rfl) (by kernel_rfl) (fun _ _ _ h => h) (Or.inl ⟨by rfl, ?y2⟩) (by assumption) ?z2
    case y2 => (intro w hSw; go_simp; first | done | with_reducible rfl)
    try simp only [List.getElem_toArray, List.getElem_cons_succ, List.getElem_cons_zero, Act.put, List.setIfInBounds_toArray, List.set_cons_zero, List.set_cons_succ]
    refine wpAnyH_ready (rs := [1, 8]) (by kernel_rfl) (by simp) ?_
    refine AllReadyH.cons rfl (fun K hK => ?_) (AllReadyH.cons rfl (fun K hK => ?_) AllReadyH.nil)
    · go_simp
      refine (toDesk_c A B c k d HD.out HD.out.short.now HD.out.short.past _ (HR.out _ HS0).1 (HR.out _ HS0).2).mono ?_
      rintro e u1 ⟨v1, rfl, TN1, cN1, TP1, cP1, AA1, CC1, TT1, UU1, rfl, hb1, ho1⟩
      have DX1 := (ho1.more (lo' := 0) (Nat.zero_le _) (Nat.le_refl _)).two
      clear ho1
      have HS1 : Below w1.heap.size w1 u1 := HS0.trans (hb1.mono HS0.size)
      have shb1 := hb1.size
      refine hK.out _ _ HS1 (fun hHeld => ?_)
      clear hK K
      try simp only [List.getElem_toArray, List.getElem_cons_succ, List.getElem_cons_zero, Act.put, List.setIfInBounds_toArray, List.set_cons_zero, List.set_cons_succ]
      refine wpAnyH_ready (rs := [3, 8]) (by kernel_rfl) (by simp) ?_
      refine AllReadyH.cons rfl (fun K hK => ?_) (AllReadyH.cons rfl (fun K hK => ?_) AllReadyH.nil)
      · go_simp
        refine (HTD.out _).mono ?_
        rintro e u3 ⟨rfl, hb3⟩
        have HS2 : Below w1.heap.size w1 u3 := HS1.trans (hb3.mono HS1.size)
        have shb3 := hb3.size
        have DX2 := stillDk DX1 hb3
        refine hK.out _ _ HS2 (fun hHeld => ?_)
        clear hK K
        try simp only [List.getElem_toArray, List.getElem_cons_succ, List.getElem_cons_zero, Act.put, List.setIfInBounds_toArray, List.set_cons_zero, List.set_cons_succ]
        refine wpAnyH_ready (rs := [4, 8]) (by kernel_rfl) (by simp) ?_
        refine AllReadyH.cons rfl (fun K hK => ?_) (AllReadyH.cons rfl (fun K hK => ?_) AllReadyH.nil)
        · go_simp
          refine (HSP.out TN1 TP1 cN1 cP1 _ DX2.1 DX2.2).mono ?_
          rintro e u4 ⟨TN4, cN4, TP4, cP4, AA4, CC4, TT4, UU4, rfl, hb4, DO3⟩
          unfold dskV
          have HS3 : Below w1.heap.size w1 u4 := HS2.trans (hb4.mono HS2.size)
          have shb4 := hb4.size
          have DX3 := stillDk DX2 hb4
          refine hK.out _ _ HS3 (fun hHeld => ?_)
          clear hK K
          try simp only [List.getElem_toArray, List.getElem_cons_succ, List.getElem_cons_zero, Act.put, List.setIfInBounds_toArray, List.set_cons_zero, List.set_cons_succ]
          refine wpAnyH_take (i := 5) (v := ?v3) rfl (by kernel_rfl) (by kernel_rfl) (by kernel_rfl) (fun _ _ _ h => h) (Or.inl ⟨by rfl, ?y3⟩) (by assumption) ?z3
          case y3 => (intro w hSw; go_simp; first | done | with_reducible rfl)
          try simp only [List.getElem_toArray, List.getElem_cons_succ, List.getElem_cons_zero, Act.put, List.setIfInBounds_toArray, List.set_cons_zero, List.set_cons_succ]
          refine wpAnyH_take (i := 6) (v := ?v4) rfl (by kernel_rfl) (by kernel_rfl) (by kernel_rfl) (fun _ _ _ h => h) (Or.inl ⟨by rfl, ?y4⟩) (by assumption) ?z4
          case y4 => (intro w hSw; go_simp; first | done | with_reducible rfl)
          try simp only [List.getElem_toArray, List.getElem_cons_succ, List.getElem_cons_zero, Act.put, List.setIfInBounds_toArray, List.set_cons_zero, List.set_cons_succ]
          refine wpAnyH_take (i := 7) (v := ?v5) rfl (by kernel_rfl) (by kernel_rfl) (by kernel_rfl) (fun _ _ _ h => h) (Or.inl ⟨by rfl, ?y5⟩) (by assumption) ?z5
          case y5 => (intro w hSw; go_simp; first | done | with_reducible rfl)
          try simp only [List.getElem_toArray, List.getElem_cons_succ, List.getElem_cons_zero, Act.put, List.setIfInBounds_toArray, List.set_cons_zero, List.set_cons_succ]
          refine wpAnyH_ready (rs := [8]) (by kernel_rfl) (by simp) ?_
          refine AllReadyH.cons rfl (fun K hK => ?_) AllReadyH.nil
          go_simp
          obtain ⟨V, hV⟩ : ∃ V : World, V = (u4).alloc (.cells #[.slice none 0 0, .slice none 0 0] 26) := ⟨_, rfl⟩
          rw [← hV]
          have hbV : Below (u4).heap.size (u4) V := by rw [hV]; exact (Below.refl _ _).alloc (Nat.le_refl _) _
          have PL4 : (u4).heap.size < V.heap.size := by rw [hV]; simp
          have PR4 : V.rowIs (u4).heap.size 26 2 (fun _ => .slice none 0 0) := by rw [hV]; exact World.rowIs_alloc _ #[.slice none 0 0, .slice none 0 0] _ _ (fun i hi => by have : i = 0 ∨ i = 1 := (by simp at hi; omega); rcases this with rfl | rfl <;> rfl)
          have HS4 : Below w1.heap.size w1 V := HS3.trans (hbV.mono HS3.size)
          have hsV := hbV.size
          clear hV
          have DX4 := stillDk DX3 hbV
          have DO4 := DO3.keep (fun b _ h2 => hbV.block b h2)
          refine hK.out _ _ HS4 (fun hHeld => ?_)
          clear hK K
          try simp only [List.getElem_toArray, List.getElem_cons_succ, List.getElem_cons_zero, Act.put, List.setIfInBounds_toArray, List.set_cons_zero, List.set_cons_succ]
          refine wpAnyH_ready (rs := [9]) (by kernel_rfl) (by simp) ?_
          refine AllReadyH.cons rfl (fun K hK => ?_) AllReadyH.nil
          have PC0 := PR4.cell (i := 0) (by omega)
          have PC1 := PR4.cell (i := 1) (by omega)
          have PF0 := PR4.frozen 0
          have PF1 := PR4.frozen 1
          have PLE : w1.heap.size ≤ (u4).heap.size := by first | exact Nat.le_refl _ | omega
          have HS5 : ∀ u v : Value, Below w1.heap.size w1 ((V.setCell ⟨(u4).heap.size, 0, none⟩ u).setCell ⟨(u4).heap.size, 1, none⟩ v) := fun u v => (HS4.setCell PLE u).setCell PLE v
          have PRX := PR4
          have PLX := PL4
          go_simp
          refine hK.out _ _ (HS5 _ _) (fun hHeld => ?_)
          clear hK K
          try simp only [List.getElem_toArray, List.getElem_cons_succ, List.getElem_cons_zero, Act.put, List.setIfInBounds_toArray, List.set_cons_zero, List.set_cons_succ]
          refine wpAnyH_take (i := 10) (v := ?v6) rfl (by kernel_rfl) (by kernel_rfl) (by kernel_rfl) (fun _ _ _ h => h) (Or.inl ⟨by rfl, ?y6⟩) (by assumption) ?z6
          case y6 => (intro w hSw; go_simp; first | done | with_reducible rfl)
          try simp only [List.getElem_toArray, List.getElem_cons_succ, List.getElem_cons_zero, Act.put, List.setIfInBounds_toArray, List.set_cons_zero, List.set_cons_succ]
          refine wpAnyH_done (by kernel_rfl) ?_ _
          go_wp2_with fail
          go_meet
          exact ⟨(u4).heap.size, _, _, TN4, cN4, TP4, cP4, AA4, CC4, TT4, UU4, rfl, rfl, HS5 _ _, BoxD.made (desk_row PRX _ _), DO4.keep (fun b h1 h2 => far2 (by omega) _ _), PLE, by omega, by simp [World.setCell]; try omega, by simp [World.setCell]; try omega, by omega⟩
        · go_simp
          obtain ⟨V, hV⟩ : ∃ V : World, V = (u3).alloc (.cells #[.slice none 0 0, .slice none 0 0] 26) := ⟨_, rfl⟩
          rw [← hV]
          have hbV : Below (u3).heap.size (u3) V := by rw [hV]; exact (Below.refl _ _).alloc (Nat.le_refl _) _
          have PL3 : (u3).heap.size < V.heap.size := by rw [hV]; simp
          have PR3 : V.rowIs (u3).heap.size 26 2 (fun _ => .slice none 0 0) := by rw [hV]; exact World.rowIs_alloc _ #[.slice none 0 0, .slice none 0 0] _ _ (fun i hi => by have : i = 0 ∨ i = 1 := (by simp at hi; omega); rcases this with rfl | rfl <;> rfl)
          have HS3 : Below w1.heap.size w1 V := HS2.trans (hbV.mono HS2.size)
          have hsV := hbV.size
          clear hV
          have DX3 := stillDk DX2 hbV
          refine hK.out _ _ HS3 (fun hHeld => ?_)
          clear hK K
          try simp only [List.getElem_toArray, List.getElem_cons_succ, List.getElem_cons_zero, Act.put, List.setIfInBounds_toArray, List.set_cons_zero, List.set_cons_succ]
          refine wpAnyH_ready (rs := [4]) (by kernel_rfl) (by simp) ?_
          refine AllReadyH.cons rfl (fun K hK => ?_) AllReadyH.nil
          go_simp
          refine (HSP.out TN1 TP1 cN1 cP1 _ DX3.1 DX3.2).mono ?_
          rintro e u4 ⟨TN4, cN4, TP4, cP4, AA4, CC4, TT4, UU4, rfl, hb4, DO4⟩
          unfold dskV
          have HS4 : Below w1.heap.size w1 u4 := HS3.trans (hb4.mono HS3.size)
          have shb4 := hb4.size
          have PR4 := PR3.of_block (hb4.block _ PL3)
          have PL4 := Nat.lt_of_lt_of_le PL3 hb4.size
          have DX4 := stillDk DX3 hb4
          refine hK.out _ _ HS4 (fun hHeld => ?_)
          clear hK K
          try simp only [List.getElem_toArray, List.getElem_cons_succ, List.getElem_cons_zero, Act.put, List.setIfInBounds_toArray, List.set_cons_zero, List.set_cons_succ]
          refine wpAnyH_take (i := 5) (v := ?v7) rfl (by kernel_rfl) (by kernel_rfl) (by kernel_rfl) (fun _ _ _ h => h) (Or.inl ⟨by rfl, ?y7⟩) (by assumption) ?z7
          case y7 => (intro w hSw; go_simp; first | done | with_reducible rfl)
          try simp only [List.getElem_toArray, List.getElem_cons_succ, List.getElem_cons_zero, Act.put, List.setIfInBounds_toArray, List.set_cons_zero, List.set_cons_succ]
          refine wpAnyH_take (i := 6) (v := ?v8) rfl (by kernel_rfl) (by kernel_rfl) (by kernel_rfl) (fun _ _ _ h => h) (Or.inl ⟨by rfl, ?y8⟩) (by assumption) ?z8
          case y8 => (intro w hSw; go_simp; first | done | with_reducible rfl)
          try simp only [List.getElem_toArray, List.getElem_cons_succ, List.getElem_cons_zero, Act.put, List.setIfInBounds_toArray, List.set_cons_zero, List.set_cons_succ]
          refine wpAnyH_take (i := 7) (v := ?v9) rfl (by kernel_rfl) (by kernel_rfl) (by kernel_rfl) (fun _ _ _ h => h) (Or.inl ⟨by rfl, ?y9⟩) (by assumption) ?z9
          case y9 => (intro w hSw; go_simp; first | done | with_reducible rfl)
          try simp only [List.getElem_toArray, List.getElem_cons_succ, List.getElem_cons_zero, Act.put, List.setIfInBounds_toArray, List.set_cons_zero, List.set_cons_succ]
          refine wpAnyH_ready (rs := [9]) (by kernel_rfl) (by simp) ?_
          refine AllReadyH.cons rfl (fun K hK => ?_) AllReadyH.nil
          have PC0 := PR4.cell (i := 0) (by omega)
          have PC1 := PR4.cell (i := 1) (by omega)
          have PF0 := PR4.frozen 0
          have PF1 := PR4.frozen 1
          have PLE : w1.heap.size ≤ (u3).heap.size := by first | exact Nat.le_refl _ | omega
          have HS5 : ∀ u v : Value, Below w1.heap.size w1 ((u4.setCell ⟨(u3).heap.size, 0, none⟩ u).setCell ⟨(u3).heap.size, 1, none⟩ v) := fun u v => (HS4.setCell PLE u).setCell PLE v
          have PRX := PR4
          have PLX := PL4
          go_simp
          refine hK.out _ _ (HS5 _ _) (fun hHeld => ?_)
          clear hK K
          try simp only [List.getElem_toArray, List.getElem_cons_succ, List.getElem_cons_zero, Act.put, List.setIfInBounds_toArray, List.set_cons_zero, List.set_cons_succ]
          refine wpAnyH_take (i := 10) (v := ?v10) rfl (by kernel_rfl) (by kernel_rfl) (by kernel_rfl) (fun _ _ _ h => h) (Or.inl ⟨by rfl, ?y10⟩) (by assumption) ?z10
          case y10 => (intro w hSw; go_simp; first | done | with_reducible rfl)
          try simp only [List.getElem_toArray, List.getElem_cons_succ, List.getElem_cons_zero, Act.put, List.setIfInBounds_toArray, List.set_cons_zero, List.set_cons_succ]
          refine wpAnyH_done (by kernel_rfl) ?_ _
          go_wp2_with fail
          go_meet
          exact ⟨(u3).heap.size, _, _, TN4, cN4, TP4, cP4, AA4, CC4, TT4, UU4, rfl, rfl, HS5 _ _, BoxD.made (desk_row PRX _ _), DO4.keep (fun b h1 h2 => far2 (by omega) _ _), PLE, by omega, by simp [World.setCell]; try omega, by simp [World.setCell]; try omega, by omega⟩
      · go_simp
        obtain ⟨V, hV⟩ : ∃ V : World, V = (u1).alloc (.cells #[.slice none 0 0, .slice none 0 0] 26) := ⟨_, rfl⟩
        rw [← hV]
        have hbV : Below (u1).heap.size (u1) V := by rw [hV]; exact (Below.refl _ _).alloc (Nat.le_refl _) _
        have PL2 : (u1).heap.size < V.heap.size := by rw [hV]; simp
        have PR2 : V.rowIs (u1).heap.size 26 2 (fun _ => .slice none 0 0) := by rw [hV]; exact World.rowIs_alloc _ #[.slice none 0 0, .slice none 0 0] _ _ (fun i hi => by have : i = 0 ∨ i = 1 := (by simp at hi; omega); rcases this with rfl | rfl <;> rfl)
        have HS2 : Below w1.heap.size w1 V := HS1.trans (hbV.mono HS1.size)
        have hsV := hbV.size
        clear hV
        have DX2 := stillDk DX1 hbV
        refine hK.out _ _ HS2 (fun hHeld => ?_)
        clear hK K
        try simp only [List.getElem_toArray, List.getElem_cons_succ, List.getElem_cons_zero, Act.put, List.setIfInBounds_toArray, List.set_cons_zero, List.set_cons_succ]
        refine wpAnyH_ready (rs := [3]) (by kernel_rfl) (by simp) ?_
        refine AllReadyH.cons rfl (fun K hK => ?_) AllReadyH.nil
        go_simp
        refine (HTD.out _).mono ?_
        rintro e u3 ⟨rfl, hb3⟩
        have HS3 : Below w1.heap.size w1 u3 := HS2.trans (hb3.mono HS2.size)
        have shb3 := hb3.size
        have PR3 := PR2.of_block (hb3.block _ PL2)
        have PL3 := Nat.lt_of_lt_of_le PL2 hb3.size
        have DX3 := stillDk DX2 hb3
        refine hK.out _ _ HS3 (fun hHeld => ?_)
        clear hK K
        try simp only [List.getElem_toArray, List.getElem_cons_succ, List.getElem_cons_zero, Act.put, List.setIfInBounds_toArray, List.set_cons_zero, List.set_cons_succ]
        refine wpAnyH_ready (rs := [4]) (by kernel_rfl) (by simp) ?_
        refine AllReadyH.cons rfl (fun K hK => ?_) AllReadyH.nil
        go_simp
        refine (HSP.out TN1 TP1 cN1 cP1 _ DX3.1 DX3.2).mono ?_
        rintro e u4 ⟨TN4, cN4, TP4, cP4, AA4, CC4, TT4, UU4, rfl, hb4, DO4⟩
        unfold dskV
        have HS4 : Below w1.heap.size w1 u4 := HS3.trans (hb4.mono HS3.size)
        have shb4 := hb4.size
        have PR4 := PR3.of_block (hb4.block _ PL3)
        have PL4 := Nat.lt_of_lt_of_le PL3 hb4.size
        have DX4 := stillDk DX3 hb4
        refine hK.out _ _ HS4 (fun hHeld => ?_)
        clear hK K
        try simp only [List.getElem_toArray, List.getElem_cons_succ, List.getElem_cons_zero, Act.put, List.setIfInBounds_toArray, List.set_cons_zero, List.set_cons_succ]
        refine wpAnyH_take (i := 5) (v := ?v11) rfl (by kernel_rfl) (by kernel_rfl) (by kernel_rfl) (fun _ _ _ h => h) (Or.inl ⟨by rfl, ?y11⟩) (by assumption) ?z11
        case y11 => (intro w hSw; go_simp; first | done | with_reducible rfl)
        try simp only [List.getElem_toArray, List.getElem_cons_succ, List.getElem_cons_zero, Act.put, List.setIfInBounds_toArray, List.set_cons_zero, List.set_cons_succ]
        refine wpAnyH_take (i := 6) (v := ?v12) rfl (by kernel_rfl) (by kernel_rfl) (by kernel_rfl) (fun _ _ _ h => h) (Or.inl ⟨by rfl, ?y12⟩) (by assumption) ?z12
        case y12 => (intro w hSw; go_simp; first | done | with_reducible rfl)
        try simp only [List.getElem_toArray, List.getElem_cons_succ, List.getElem_cons_zero, Act.put, List.setIfInBounds_toArray, List.set_cons_zero, List.set_cons_succ]
        refine wpAnyH_take (i := 7) (v := ?v13) rfl (by kernel_rfl) (by kernel_rfl) (by kernel_rfl) (fun _ _ _ h => h) (Or.inl ⟨by rfl, ?y13⟩) (by assumption) ?z13
        case y13 => (intro w hSw; go_simp; first | done | with_reducible rfl)
        try simp only [List.getElem_toArray, List.getElem_cons_succ, List.getElem_cons_zero, Act.put, List.setIfInBounds_toArray, List.set_cons_zero, List.set_cons_succ]
        refine wpAnyH_ready (rs := [9]) (by kernel_rfl) (by simp) ?_
        refine AllReadyH.cons rfl (fun K hK => ?_) AllReadyH.nil
        have PC0 := PR4.cell (i := 0) (by omega)
        have PC1 := PR4.cell (i := 1) (by omega)
        have PF0 := PR4.frozen 0
        have PF1 := PR4.frozen 1
        have PLE : w1.heap.size ≤ (u1).heap.size := by first | exact Nat.le_refl _ | omega
        have HS5 : ∀ u v : Value, Below w1.heap.size w1 ((u4.setCell ⟨(u1).heap.size, 0, none⟩ u).setCell ⟨(u1).heap.size, 1, none⟩ v) := fun u v => (HS4.setCell PLE u).setCell PLE v
        have PRX := PR4
        have PLX := PL4
        go_simp
        refine hK.out _ _ (HS5 _ _) (fun hHeld => ?_)
        clear hK K
        try simp only [List.getElem_toArray, List.getElem_cons_succ, List.getElem_cons_zero, Act.put, List.setIfInBounds_toArray, List.set_cons_zero, List.set_cons_succ]
        refine wpAnyH_take (i := 10) (v := ?v14) rfl (by kernel_rfl) (by kernel_rfl) (by kernel_rfl) (fun _ _ _ h => h) (Or.inl ⟨by rfl, ?y14⟩) (by assumption) ?z14
        case y14 => (intro w hSw; go_simp; first | done | with_reducible rfl)
        try simp only [List.getElem_toArray, List.getElem_cons_succ, List.getElem_cons_zero, Act.put, List.setIfInBounds_toArray, List.set_cons_zero, List.set_cons_succ]
        refine wpAnyH_done (by kernel_rfl) ?_ _
        go_wp2_with fail
        go_meet
        exact ⟨(u1).heap.size, _, _, TN4, cN4, TP4, cP4, AA4, CC4, TT4, UU4, rfl, rfl, HS5 _ _, BoxD.made (desk_row PRX _ _), DO4.keep (fun b h1 h2 => far2 (by omega) _ _), PLE, by omega, by simp [World.setCell]; try omega, by simp [World.setCell]; try omega, by omega⟩
    · go_simp
      obtain ⟨V, hV⟩ : ∃ V : World, V = (D).alloc (.cells #[.slice none 0 0, .slice none 0 0] 26) := ⟨_, rfl⟩
      rw [← hV]
      have hbV : Below (D).heap.size (D) V := by rw [hV]; exact (Below.refl _ _).alloc (Nat.le_refl _) _
      have PL1 : (D).heap.size < V.heap.size := by rw [hV]; simp
      have PR1 : V.rowIs (D).heap.size 26 2 (fun _ => .slice none 0 0) := by rw [hV]; exact World.rowIs_alloc _ #[.slice none 0 0, .slice none 0 0] _ _ (fun i hi => by have : i = 0 ∨ i = 1 := (by simp at hi; omega); rcases this with rfl | rfl <;> rfl)
      have HS1 : Below w1.heap.size w1 V := HS0.trans (hbV.mono HS0.size)
      have hsV := hbV.size
      clear hV
      refine hK.out _ _ HS1 (fun hHeld => ?_)
      clear hK K
      try simp only [List.getElem_toArray, List.getElem_cons_succ, List.getElem_cons_zero, Act.put, List.setIfInBounds_toArray, List.set_cons_zero, List.set_cons_succ]
      refine wpAnyH_ready (rs := [1]) (by kernel_rfl) (by simp) ?_
      refine AllReadyH.cons rfl (fun K hK => ?_) AllReadyH.nil
      go_simp
      refine (toDesk_c A B c k d HD.out HD.out.short.now HD.out.short.past _ (HR.out _ HS1).1 (HR.out _ HS1).2).mono ?_
      rintro e u1 ⟨v1, rfl, TN1, cN1, TP1, cP1, AA1, CC1, TT1, UU1, rfl, hb1, ho1⟩
      have DX2 := (ho1.more (lo' := 0) (Nat.zero_le _) (Nat.le_refl _)).two
      clear ho1
      have HS2 : Below w1.heap.size w1 u1 := HS1.trans (hb1.mono HS1.size)
      have shb1 := hb1.size
      have PR2 := PR1.of_block (hb1.block _ PL1)
      have PL2 := Nat.lt_of_lt_of_le PL1 hb1.size
      refine hK.out _ _ HS2 (fun hHeld => ?_)
      clear hK K
      try simp only [List.getElem_toArray, List.getElem_cons_succ, List.getElem_cons_zero, Act.put, List.setIfInBounds_toArray, List.set_cons_zero, List.set_cons_succ]
      refine wpAnyH_ready (rs := [3]) (by kernel_rfl) (by simp) ?_
      refine AllReadyH.cons rfl (fun K hK => ?_) AllReadyH.nil
      go_simp
      refine (HTD.out _).mono ?_
      rintro e u3 ⟨rfl, hb3⟩
      have HS3 : Below w1.heap.size w1 u3 := HS2.trans (hb3.mono HS2.size)
      have shb3 := hb3.size
      have PR3 := PR2.of_block (hb3.block _ PL2)
      have PL3 := Nat.lt_of_lt_of_le PL2 hb3.size
      have DX3 := stillDk DX2 hb3
      refine hK.out _ _ HS3 (fun hHeld => ?_)
      clear hK K
      try simp only [List.getElem_toArray, List.getElem_cons_succ, List.getElem_cons_zero, Act.put, List.setIfInBounds_toArray, List.set_cons_zero, List.set_cons_succ]
      refine wpAnyH_ready (rs := [4]) (by kernel_rfl) (by simp) ?_
      refine AllReadyH.cons rfl (fun K hK => ?_) AllReadyH.nil
      go_simp
      refine (HSP.out TN1 TP1 cN1 cP1 _ DX3.1 DX3.2).mono ?_
      rintro e u4 ⟨TN4, cN4, TP4, cP4, AA4, CC4, TT4, UU4, rfl, hb4, DO4⟩
      unfold dskV
      have HS4 : Below w1.heap.size w1 u4 := HS3.trans (hb4.mono HS3.size)
      have shb4 := hb4.size
      have PR4 := PR3.of_block (hb4.block _ PL3)
      have PL4 := Nat.lt_of_lt_of_le PL3 hb4.size
      have DX4 := stillDk DX3 hb4
      refine hK.out _ _ HS4 (fun hHeld => ?_)
      clear hK K
      try simp only [List.getElem_toArray, List.getElem_cons_succ, List.getElem_cons_zero, Act.put, List.setIfInBounds_toArray, List.set_cons_zero, List.set_cons_succ]
      refine wpAnyH_take (i := 5) (v := ?v15) rfl (by kernel_rfl) (by kernel_rfl) (by kernel_rfl) (fun _ _ _ h => h) (Or.inl ⟨by rfl, ?y15⟩) (by assumption) ?z15
      case y15 => (intro w hSw; go_simp; first | done | with_reducible rfl)
      try simp only [List.getElem_toArray, List.getElem_cons_succ, List.getElem_cons_zero, Act.put, List.setIfInBounds_toArray, List.set_cons_zero, List.set_cons_succ]
      refine wpAnyH_take (i := 6) (v := ?v16) rfl (by kernel_rfl) (by kernel_rfl) (by kernel_rfl) (fun _ _ _ h => h) (Or.inl ⟨by rfl, ?y16⟩) (by assumption) ?z16
      case y16 => (intro w hSw; go_simp; first | done | with_reducible rfl)
      try simp only [List.getElem_toArray, List.getElem_cons_succ, List.getElem_cons_zero, Act.put, List.setIfInBounds_toArray, List.set_cons_zero, List.set_cons_succ]
      refine wpAnyH_take (i := 7) (v := ?v17) rfl (by kernel_rfl) (by kernel_rfl) (by kernel_rfl) (fun _ _ _ h => h) (Or.inl ⟨by rfl, ?y17⟩) (by assumption) ?z17
      case y17 => (intro w hSw; go_simp; first | done | with_reducible rfl)
      try simp only [List.getElem_toArray, List.getElem_cons_succ, List.getElem_cons_zero, Act.put, List.setIfInBounds_toArray, List.set_cons_zero, List.set_cons_succ]
      refine wpAnyH_ready (rs := [9]) (by kernel_rfl) (by simp) ?_
      refine AllReadyH.cons rfl (fun K hK => ?_) AllReadyH.nil
      have PC0 := PR4.cell (i := 0) (by omega)
      have PC1 := PR4.cell (i := 1) (by omega)
      have PF0 := PR4.frozen 0
      have PF1 := PR4.frozen 1
      have PLE : w1.heap.size ≤ (D).heap.size := by first | exact Nat.le_refl _ | omega
      have HS5 : ∀ u v : Value, Below w1.heap.size w1 ((u4.setCell ⟨(D).heap.size, 0, none⟩ u).setCell ⟨(D).heap.size, 1, none⟩ v) := fun u v => (HS4.setCell PLE u).setCell PLE v
      have PRX := PR4
      have PLX := PL4
      go_simp
      refine hK.out _ _ (HS5 _ _) (fun hHeld => ?_)
      clear hK K
      try simp only [List.getElem_toArray, List.getElem_cons_succ, List.getElem_cons_zero, Act.put, List.setIfInBounds_toArray, List.set_cons_zero, List.set_cons_succ]
      refine wpAnyH_take (i := 10) (v := ?v18) rfl (by kernel_rfl) (by kernel_rfl) (by kernel_rfl) (fun _ _ _ h => h) (Or.inl ⟨by rfl, ?y18⟩) (by assumption) ?z18
      case y18 => (intro w hSw; go_simp; first | done | with_reducible rfl)
      try simp only [List.getElem_toArray, List.getElem_cons_succ, List.getElem_cons_zero, Act.put, List.setIfInBounds_toArray, List.set_cons_zero, List.set_cons_succ]
      refine wpAnyH_done (by kernel_rfl) ?_ _
      go_wp2_with fail
      go_meet
      exact ⟨(D).heap.size, _, _, TN4, cN4, TP4, cP4, AA4, CC4, TT4, UU4, rfl, rfl, HS5 _ _, BoxD.made (desk_row PRX _ _), DO4.keep (fun b h1 h2 => far2 (by omega) _ _), PLE, by omega, by simp [World.setCell]; try omega, by simp [World.setCell]; try omega, by omega⟩
  case rest =>
    obtain ⟨pV, loV, hiV, TV1, cV1, TV2, cV2, AV, CV, UV, KV, rfl, rfl, hbx, hBV, hRV, hpV, hlV, hhV, hmV, hnV⟩ := hcut
    obtain ⟨wV, rfl⟩ : ∃ x, x = wc := ⟨_, rfl⟩
    clear HR sY0 sY1 sZ0 sZ1 sZ2 sZ3
    replace BP := Lib.hid (BP.out.still hbx)
    replace BA := Lib.hid (BA.out.still hbx)
    replace R0 := Lib.hid (keepDk (hbx.mono le_w) R0.out)
    replace le_w := Nat.le_trans le_w hbx.size
    replace le_W := Nat.le_trans le_W hbx.size
    replace le_w1 := Nat.le_trans le_w1 hbx.size
    replace BEL0 := Lib.hid (belT BEL0.out hbx)
    have o_w1_wV : w1.heap.size ≤ wV.heap.size := le_w1
    have le_wV : wV.heap.size ≤ wV.heap.size := Nat.le_refl _
    have BV := Lib.hid hBV
    have bzBV : pV < wV.heap.size := hBV.lt
    have V : Hid (RdD wV wV.heap.size TV1 TV2 dn) := hRV.lt.lt hhV
    clear hlV hnV hmV
    clear hbx hBV hRV hhV
    have cBP0 := BP.out.c0
    have cBP1 := BP.out.c1
    have ltBP := BP.out.lt
    go_wp2_with fail
    refine (toDesk_c A B c k d HD.out HD.out.short.now HD.out.short.past _ (R0.out.lt le_w).n (R0.out.lt le_w).p).mono ?_
    rintro e w2 ⟨v2, rfl, TX1, cX1, TX2, cX2, AX, CX, UX, KX, rfl, hb2, ho2⟩
    have X := Lib.hid ho2
    clear cBP0 cBP1 ltBP
    replace BP := Lib.hid (BP.out.still hb2)
    replace BA := Lib.hid (BA.out.still hb2)
    replace BV := Lib.hid (BV.out.still hb2)
    replace R0 := Lib.hid (keepDk (hb2.mono le_w) R0.out)
    replace V := Lib.hid (keepDk (hb2.mono le_wV) V.out)
    replace le_w := Nat.le_trans le_w hb2.size
    replace le_W := Nat.le_trans le_W hb2.size
    replace le_w1 := Nat.le_trans le_w1 hb2.size
    replace le_wV := Nat.le_trans le_wV hb2.size
    replace BEL0 := Lib.hid (belT BEL0.out hb2)
    have o_wV_w2 : wV.heap.size ≤ w2.heap.size := le_wV
    have le_w2 : w2.heap.size ≤ w2.heap.size := Nat.le_refl _
    clear hb2 ho2
    go_wp2_with fail
    obtain ⟨WBX, hWBX⟩ : ∃ WBX : World, WBX = w2.alloc (.cells #[.slice TX1 d.now.length cX1, .slice TX2 d.past.length cX2] 26) := ⟨_, rfl⟩
    have hbWBX : Below w2.heap.size w2 WBX := by rw [hWBX]; exact (Below.refl _ _).alloc (Nat.le_refl _) _
    have BX : Hid (BoxD WBX w2.heap.size (.slice TX1 d.now.length cX1) (.slice TX2 d.past.length cX2)) := by show BoxD _ _ _ _; rw [hWBX]; exact BoxD.new _ _ _
    have bzBX : w2.heap.size < WBX.heap.size := by rw [hWBX]; simp
    rw [← hWBX]
    clear hWBX
    replace BP := Lib.hid (BP.out.still hbWBX)
    replace BA := Lib.hid (BA.out.still hbWBX)
    replace BV := Lib.hid (BV.out.still hbWBX)
    replace X := Lib.hid (X.out.below (hbWBX.mono le_w2))
    replace R0 := Lib.hid (keepDk (hbWBX.mono le_w) R0.out)
    replace V := Lib.hid (keepDk (hbWBX.mono le_wV) V.out)
    replace le_w := Nat.le_trans le_w hbWBX.size
    replace le_W := Nat.le_trans le_W hbWBX.size
    replace le_w1 := Nat.le_trans le_w1 hbWBX.size
    replace le_wV := Nat.le_trans le_wV hbWBX.size
    replace le_w2 := Nat.le_trans le_w2 hbWBX.size
    replace BEL0 := Lib.hid (belT BEL0.out hbWBX)
    have o_w2_WBX : w2.heap.size ≤ WBX.heap.size := le_w2
    have le_WBX : WBX.heap.size ≤ WBX.heap.size := Nat.le_refl _
    clear hbWBX
    have HR : Hid (∀ w', Below WBX.heap.size WBX w' → Rows2 w' (· < w'.heap.size) A d.now ∧ Rows3 w' (· < w'.heap.size) B d.past) := fun w' hb => (keepDk (hb.mono le_w) R0.out).two (Nat.le_trans le_w hb.size)
    have HX : Hid (∀ w', Below WBX.heap.size WBX w' → Rows2 w' (· < w'.heap.size) TX1 d.now ∧ Rows3 w' (· < w'.heap.size) TX2 d.past) := fun w' hb => (keepDk (hb.mono le_w2) X.out.lt).two (Nat.le_trans le_w2 hb.size)
    have sY0 := stays BX.out.lt BX.out.c0
    have sY1 := stays BX.out.lt BX.out.c1
    have sZ0 := stays BA.out.lt BA.out.c0
    have sZ1 := stays BA.out.lt BA.out.c1
    have sZ2 := stays BA.out.lt BA.out.c2
    have sZ3 := stays BA.out.lt BA.out.c3
    go_wp2_with fail
    go_cut [9, 10] (fun sp sn wx => ∃ (p lo hi : Nat) (TN : Option Addr) (cN : Nat) (TP : Option Addr) (cP : Nat) (AA : Nat → Nat → Option Addr) (CC : Nat → Nat → Nat) (TT : Nat → Option Addr) (UU : Nat → Nat), sp = .pointer (some ⟨p, 0, none⟩) ∧ sn = .bool ob ∧ Below WBX.heap.size WBX wx ∧ BoxD wx p (.slice TN dn.now.length cN) (.slice TP dn.past.length cP) ∧ OwnDk wx lo hi TN TP dn AA CC TT UU ∧ WBX.heap.size ≤ p ∧ WBX.heap.size ≤ lo ∧ hi ≤ wx.heap.size ∧ lo ≤ wx.heap.size ∧ ¬ (lo ≤ p ∧ p < hi))
    case first =>
      have HS0 : Below WBX.heap.size WBX WBX.drew := (Below.refl _ _).drew
      refine wp_region_held_drew (S := fun w' => Below WBX.heap.size WBX w') (by kernel_rfl) HS0 (fun hHeld => ?_)
      clear hHeld
      generalize WBX.drew = D at HS0 ⊢
      have hs0 := HS0.size
      have hHeld := HS0
      refine wpAnyH_take (i := 0) (v := ?v19) rfl (by kernel_rfl) (by kernel_rfl) (by kernel_rfl) (fun _ _ _ h => h) (Or.inl ⟨by rfl, ?y19⟩) (by assumption) ?z19
      case y19 => (intro w hSw; go_simp; first | done | with_reducible rfl)
      try simp only [List.getElem_toArray, List.getElem_cons_succ, List.getElem_cons_zero, Act.put, List.setIfInBounds_toArray, List.set_cons_zero, List.set_cons_succ]
      refine wpAnyH_take (i := 1) (v := ?v20) rfl (by kernel_rfl) (by kernel_rfl) (by kernel_rfl) (fun _ _ _ h => h) (Or.inl ⟨by rfl, ?y20⟩) (by assumption) ?z20
      case y20 => (intro w hSw; go_simp; first | done | with_reducible rfl)
      try simp only [List.getElem_toArray, List.getElem_cons_succ, List.getElem_cons_zero, Act.put, List.setIfInBounds_toArray, List.set_cons_zero, List.set_cons_succ]
      refine wpAnyH_ready (rs := [2, 7]) (by kernel_rfl) (by simp) ?_
      refine AllReadyH.cons rfl (fun K hK => ?_) (AllReadyH.cons rfl (fun K hK => ?_) AllReadyH.nil)
      · go_simp
        refine (HTD.out _).mono ?_
        rintro e u3 ⟨rfl, hb3⟩
        have HS1 : Below WBX.heap.size WBX u3 := HS0.trans (hb3.mono HS0.size)
        have shb3 := hb3.size
        refine hK.out _ _ HS1 (fun hHeld => ?_)
        clear hK K
        try simp only [List.getElem_toArray, List.getElem_cons_succ, List.getElem_cons_zero, Act.put, List.setIfInBounds_toArray, List.set_cons_zero, List.set_cons_succ]
        refine wpAnyH_ready (rs := [3, 7]) (by kernel_rfl) (by simp) ?_
        refine AllReadyH.cons rfl (fun K hK => ?_) (AllReadyH.cons rfl (fun K hK => ?_) AllReadyH.nil)
        · go_simp
          refine (HIM.out TX1 TX2 cX1 cX2 cX2.two _ (HX.out _ HS1).1 (HX.out _ HS1).2).mono ?_
          rintro e u4 ⟨TN4, cN4, TP4, cP4, AA4, CC4, TT4, UU4, rfl, hb4, DO2⟩
          unfold dskV
          have HS2 : Below WBX.heap.size WBX u4 := HS1.trans (hb4.mono HS1.size)
          have shb4 := hb4.size
          refine hK.out _ _ HS2 (fun hHeld => ?_)
          clear hK K
          try simp only [List.getElem_toArray, List.getElem_cons_succ, List.getElem_cons_zero, Act.put, List.setIfInBounds_toArray, List.set_cons_zero, List.set_cons_succ]
          refine wpAnyH_take (i := 4) (v := ?v21) rfl (by kernel_rfl) (by kernel_rfl) (by kernel_rfl) (fun _ _ _ h => h) (Or.inl ⟨by rfl, ?y21⟩) (by assumption) ?z21
          case y21 => (intro w hSw; go_simp; first | done | with_reducible rfl)
          try simp only [List.getElem_toArray, List.getElem_cons_succ, List.getElem_cons_zero, Act.put, List.setIfInBounds_toArray, List.set_cons_zero, List.set_cons_succ]
          refine wpAnyH_take (i := 5) (v := ?v22) rfl (by kernel_rfl) (by kernel_rfl) (by kernel_rfl) (fun _ _ _ h => h) (Or.inl ⟨by rfl, ?y22⟩) (by assumption) ?z22
          case y22 => (intro w hSw; go_simp; first | done | with_reducible rfl)
          try simp only [List.getElem_toArray, List.getElem_cons_succ, List.getElem_cons_zero, Act.put, List.setIfInBounds_toArray, List.set_cons_zero, List.set_cons_succ]
          refine wpAnyH_take (i := 6) (v := ?v23) rfl (by kernel_rfl) (by kernel_rfl) (by kernel_rfl) (fun _ _ _ h => h) (Or.inl ⟨by rfl, ?y23⟩) (by assumption) ?z23
          case y23 => (intro w hSw; go_simp; first | done | with_reducible rfl)
          try simp only [List.getElem_toArray, List.getElem_cons_succ, List.getElem_cons_zero, Act.put, List.setIfInBounds_toArray, List.set_cons_zero, List.set_cons_succ]
          refine wpAnyH_ready (rs := [7]) (by kernel_rfl) (by simp) ?_
          refine AllReadyH.cons rfl (fun K hK => ?_) AllReadyH.nil
          go_simp
          obtain ⟨V, hV⟩ : ∃ V : World, V = (u4).alloc (.cells #[.slice none 0 0, .slice none 0 0] 26) := ⟨_, rfl⟩
          rw [← hV]
          have hbV : Below (u4).heap.size (u4) V := by rw [hV]; exact (Below.refl _ _).alloc (Nat.le_refl _) _
          have PL3 : (u4).heap.size < V.heap.size := by rw [hV]; simp
          have PR3 : V.rowIs (u4).heap.size 26 2 (fun _ => .slice none 0 0) := by rw [hV]; exact World.rowIs_alloc _ #[.slice none 0 0, .slice none 0 0] _ _ (fun i hi => by have : i = 0 ∨ i = 1 := (by simp at hi; omega); rcases this with rfl | rfl <;> rfl)
          have HS3 : Below WBX.heap.size WBX V := HS2.trans (hbV.mono HS2.size)
          have hsV := hbV.size
          clear hV
          have DO3 := DO2.keep (fun b _ h2 => hbV.block b h2)
          refine hK.out _ _ HS3 (fun hHeld => ?_)
          clear hK K
          try simp only [List.getElem_toArray, List.getElem_cons_succ, List.getElem_cons_zero, Act.put, List.setIfInBounds_toArray, List.set_cons_zero, List.set_cons_succ]
          refine wpAnyH_ready (rs := [8]) (by kernel_rfl) (by simp) ?_
          refine AllReadyH.cons rfl (fun K hK => ?_) AllReadyH.nil
          have PC0 := PR3.cell (i := 0) (by omega)
          have PC1 := PR3.cell (i := 1) (by omega)
          have PF0 := PR3.frozen 0
          have PF1 := PR3.frozen 1
          have PLE : WBX.heap.size ≤ (u4).heap.size := by first | exact Nat.le_refl _ | omega
          have HS4 : ∀ u v : Value, Below WBX.heap.size WBX ((V.setCell ⟨(u4).heap.size, 0, none⟩ u).setCell ⟨(u4).heap.size, 1, none⟩ v) := fun u v => (HS3.setCell PLE u).setCell PLE v
          have PRX := PR3
          have PLX := PL3
          go_simp
          refine hK.out _ _ (HS4 _ _) (fun hHeld => ?_)
          clear hK K
          try simp only [List.getElem_toArray, List.getElem_cons_succ, List.getElem_cons_zero, Act.put, List.setIfInBounds_toArray, List.set_cons_zero, List.set_cons_succ]
          refine wpAnyH_take (i := 9) (v := ?v24) rfl (by kernel_rfl) (by kernel_rfl) (by kernel_rfl) (fun _ _ _ h => h) (Or.inl ⟨by rfl, ?y24⟩) (by assumption) ?z24
          case y24 => (intro w hSw; go_simp; first | done | with_reducible rfl)
          try simp only [List.getElem_toArray, List.getElem_cons_succ, List.getElem_cons_zero, Act.put, List.setIfInBounds_toArray, List.set_cons_zero, List.set_cons_succ]
          refine wpAnyH_done (by kernel_rfl) ?_ _
          go_wp2_with fail
          go_meet
          exact ⟨(u4).heap.size, _, _, TN4, cN4, TP4, cP4, AA4, CC4, TT4, UU4, rfl, rfl, HS4 _ _, BoxD.made (desk_row PRX _ _), DO3.keep (fun b h1 h2 => far2 (by omega) _ _), PLE, by omega, by simp [World.setCell]; try omega, by simp [World.setCell]; try omega, by omega⟩
        · go_simp
          obtain ⟨V, hV⟩ : ∃ V : World, V = (u3).alloc (.cells #[.slice none 0 0, .slice none 0 0] 26) := ⟨_, rfl⟩
          rw [← hV]
          have hbV : Below (u3).heap.size (u3) V := by rw [hV]; exact (Below.refl _ _).alloc (Nat.le_refl _) _
          have PL2 : (u3).heap.size < V.heap.size := by rw [hV]; simp
          have PR2 : V.rowIs (u3).heap.size 26 2 (fun _ => .slice none 0 0) := by rw [hV]; exact World.rowIs_alloc _ #[.slice none 0 0, .slice none 0 0] _ _ (fun i hi => by have : i = 0 ∨ i = 1 := (by simp at hi; omega); rcases this with rfl | rfl <;> rfl)
          have HS2 : Below WBX.heap.size WBX V := HS1.trans (hbV.mono HS1.size)
          have hsV := hbV.size
          clear hV
          refine hK.out _ _ HS2 (fun hHeld => ?_)
          clear hK K
          try simp only [List.getElem_toArray, List.getElem_cons_succ, List.getElem_cons_zero, Act.put, List.setIfInBounds_toArray, List.set_cons_zero, List.set_cons_succ]
          refine wpAnyH_ready (rs := [3]) (by kernel_rfl) (by simp) ?_
          refine AllReadyH.cons rfl (fun K hK => ?_) AllReadyH.nil
          go_simp
          refine (HIM.out TX1 TX2 cX1 cX2 cX2.two _ (HX.out _ HS2).1 (HX.out _ HS2).2).mono ?_
          rintro e u4 ⟨TN4, cN4, TP4, cP4, AA4, CC4, TT4, UU4, rfl, hb4, DO3⟩
          unfold dskV
          have HS3 : Below WBX.heap.size WBX u4 := HS2.trans (hb4.mono HS2.size)
          have shb4 := hb4.size
          have PR3 := PR2.of_block (hb4.block _ PL2)
          have PL3 := Nat.lt_of_lt_of_le PL2 hb4.size
          refine hK.out _ _ HS3 (fun hHeld => ?_)
          clear hK K
          try simp only [List.getElem_toArray, List.getElem_cons_succ, List.getElem_cons_zero, Act.put, List.setIfInBounds_toArray, List.set_cons_zero, List.set_cons_succ]
          refine wpAnyH_take (i := 4) (v := ?v25) rfl (by kernel_rfl) (by kernel_rfl) (by kernel_rfl) (fun _ _ _ h => h) (Or.inl ⟨by rfl, ?y25⟩) (by assumption) ?z25
          case y25 => (intro w hSw; go_simp; first | done | with_reducible rfl)
          try simp only [List.getElem_toArray, List.getElem_cons_succ, List.getElem_cons_zero, Act.put, List.setIfInBounds_toArray, List.set_cons_zero, List.set_cons_succ]
          refine wpAnyH_take (i := 5) (v := ?v26) rfl (by kernel_rfl) (by kernel_rfl) (by kernel_rfl) (fun _ _ _ h => h) (Or.inl ⟨by rfl, ?y26⟩) (by assumption) ?z26
          case y26 => (intro w hSw; go_simp; first | done | with_reducible rfl)
          try simp only [List.getElem_toArray, List.getElem_cons_succ, List.getElem_cons_zero, Act.put, List.setIfInBounds_toArray, List.set_cons_zero, List.set_cons_succ]
          refine wpAnyH_take (i := 6) (v := ?v27) rfl (by kernel_rfl) (by kernel_rfl) (by kernel_rfl) (fun _ _ _ h => h) (Or.inl ⟨by rfl, ?y27⟩) (by assumption) ?z27
          case y27 => (intro w hSw; go_simp; first | done | with_reducible rfl)
          try simp only [List.getElem_toArray, List.getElem_cons_succ, List.getElem_cons_zero, Act.put, List.setIfInBounds_toArray, List.set_cons_zero, List.set_cons_succ]
          refine wpAnyH_ready (rs := [8]) (by kernel_rfl) (by simp) ?_
          refine AllReadyH.cons rfl (fun K hK => ?_) AllReadyH.nil
          have PC0 := PR3.cell (i := 0) (by omega)
          have PC1 := PR3.cell (i := 1) (by omega)
          have PF0 := PR3.frozen 0
          have PF1 := PR3.frozen 1
          have PLE : WBX.heap.size ≤ (u3).heap.size := by first | exact Nat.le_refl _ | omega
          have HS4 : ∀ u v : Value, Below WBX.heap.size WBX ((u4.setCell ⟨(u3).heap.size, 0, none⟩ u).setCell ⟨(u3).heap.size, 1, none⟩ v) := fun u v => (HS3.setCell PLE u).setCell PLE v
          have PRX := PR3
          have PLX := PL3
          go_simp
          refine hK.out _ _ (HS4 _ _) (fun hHeld => ?_)
          clear hK K
          try simp only [List.getElem_toArray, List.getElem_cons_succ, List.getElem_cons_zero, Act.put, List.setIfInBounds_toArray, List.set_cons_zero, List.set_cons_succ]
          refine wpAnyH_take (i := 9) (v := ?v28) rfl (by kernel_rfl) (by kernel_rfl) (by kernel_rfl) (fun _ _ _ h => h) (Or.inl ⟨by rfl, ?y28⟩) (by assumption) ?z28
          case y28 => (intro w hSw; go_simp; first | done | with_reducible rfl)
          try simp only [List.getElem_toArray, List.getElem_cons_succ, List.getElem_cons_zero, Act.put, List.setIfInBounds_toArray, List.set_cons_zero, List.set_cons_succ]
          refine wpAnyH_done (by kernel_rfl) ?_ _
          go_wp2_with fail
          go_meet
          exact ⟨(u3).heap.size, _, _, TN4, cN4, TP4, cP4, AA4, CC4, TT4, UU4, rfl, rfl, HS4 _ _, BoxD.made (desk_row PRX _ _), DO3.keep (fun b h1 h2 => far2 (by omega) _ _), PLE, by omega, by simp [World.setCell]; try omega, by simp [World.setCell]; try omega, by omega⟩
      · go_simp
        obtain ⟨V, hV⟩ : ∃ V : World, V = (D).alloc (.cells #[.slice none 0 0, .slice none 0 0] 26) := ⟨_, rfl⟩
        rw [← hV]
        have hbV : Below (D).heap.size (D) V := by rw [hV]; exact (Below.refl _ _).alloc (Nat.le_refl _) _
        have PL1 : (D).heap.size < V.heap.size := by rw [hV]; simp
        have PR1 : V.rowIs (D).heap.size 26 2 (fun _ => .slice none 0 0) := by rw [hV]; exact World.rowIs_alloc _ #[.slice none 0 0, .slice none 0 0] _ _ (fun i hi => by have : i = 0 ∨ i = 1 := (by simp at hi; omega); rcases this with rfl | rfl <;> rfl)
        have HS1 : Below WBX.heap.size WBX V := HS0.trans (hbV.mono HS0.size)
        have hsV := hbV.size
        clear hV
        refine hK.out _ _ HS1 (fun hHeld => ?_)
        clear hK K
        try simp only [List.getElem_toArray, List.getElem_cons_succ, List.getElem_cons_zero, Act.put, List.setIfInBounds_toArray, List.set_cons_zero, List.set_cons_succ]
        refine wpAnyH_ready (rs := [2]) (by kernel_rfl) (by simp) ?_
        refine AllReadyH.cons rfl (fun K hK => ?_) AllReadyH.nil
        go_simp
        refine (HTD.out _).mono ?_
        rintro e u3 ⟨rfl, hb3⟩
        have HS2 : Below WBX.heap.size WBX u3 := HS1.trans (hb3.mono HS1.size)
        have shb3 := hb3.size
        have PR2 := PR1.of_block (hb3.block _ PL1)
        have PL2 := Nat.lt_of_lt_of_le PL1 hb3.size
        refine hK.out _ _ HS2 (fun hHeld => ?_)
        clear hK K
        try simp only [List.getElem_toArray, List.getElem_cons_succ, List.getElem_cons_zero, Act.put, List.setIfInBounds_toArray, List.set_cons_zero, List.set_cons_succ]
        refine wpAnyH_ready (rs := [3]) (by kernel_rfl) (by simp) ?_
        refine AllReadyH.cons rfl (fun K hK => ?_) AllReadyH.nil
        go_simp
        refine (HIM.out TX1 TX2 cX1 cX2 cX2.two _ (HX.out _ HS2).1 (HX.out _ HS2).2).mono ?_
        rintro e u4 ⟨TN4, cN4, TP4, cP4, AA4, CC4, TT4, UU4, rfl, hb4, DO3⟩
        unfold dskV
        have HS3 : Below WBX.heap.size WBX u4 := HS2.trans (hb4.mono HS2.size)
        have shb4 := hb4.size
        have PR3 := PR2.of_block (hb4.block _ PL2)
        have PL3 := Nat.lt_of_lt_of_le PL2 hb4.size
        refine hK.out _ _ HS3 (fun hHeld => ?_)
        clear hK K
        try simp only [List.getElem_toArray, List.getElem_cons_succ, List.getElem_cons_zero, Act.put, List.setIfInBounds_toArray, List.set_cons_zero, List.set_cons_succ]
        refine wpAnyH_take (i := 4) (v := ?v29) rfl (by kernel_rfl) (by kernel_rfl) (by kernel_rfl) (fun _ _ _ h => h) (Or.inl ⟨by rfl, ?y29⟩) (by assumption) ?z29
        case y29 => (intro w hSw; go_simp; first | done | with_reducible rfl)
        try simp only [List.getElem_toArray, List.getElem_cons_succ, List.getElem_cons_zero, Act.put, List.setIfInBounds_toArray, List.set_cons_zero, List.set_cons_succ]
        refine wpAnyH_take (i := 5) (v := ?v30) rfl (by kernel_rfl) (by kernel_rfl) (by kernel_rfl) (fun _ _ _ h => h) (Or.inl ⟨by rfl, ?y30⟩) (by assumption) ?z30
        case y30 => (intro w hSw; go_simp; first | done | with_reducible rfl)
        try simp only [List.getElem_toArray, List.getElem_cons_succ, List.getElem_cons_zero, Act.put, List.setIfInBounds_toArray, List.set_cons_zero, List.set_cons_succ]
        refine wpAnyH_take (i := 6) (v := ?v31) rfl (by kernel_rfl) (by kernel_rfl) (by kernel_rfl) (fun _ _ _ h => h) (Or.inl ⟨by rfl, ?y31⟩) (by assumption) ?z31
        case y31 => (intro w hSw; go_simp; first | done | with_reducible rfl)
        try simp only [List.getElem_toArray, List.getElem_cons_succ, List.getElem_cons_zero, Act.put, List.setIfInBounds_toArray, List.set_cons_zero, List.set_cons_succ]
        refine wpAnyH_ready (rs := [8]) (by kernel_rfl) (by simp) ?_
        refine AllReadyH.cons rfl (fun K hK => ?_) AllReadyH.nil
        have PC0 := PR3.cell (i := 0) (by omega)
        have PC1 := PR3.cell (i := 1) (by omega)
        have PF0 := PR3.frozen 0
        have PF1 := PR3.frozen 1
        have PLE : WBX.heap.size ≤ (D).heap.size := by first | exact Nat.le_refl _ | omega
        have HS4 : ∀ u v : Value, Below WBX.heap.size WBX ((u4.setCell ⟨(D).heap.size, 0, none⟩ u).setCell ⟨(D).heap.size, 1, none⟩ v) := fun u v => (HS3.setCell PLE u).setCell PLE v
        have PRX := PR3
        have PLX := PL3
        go_simp
        refine hK.out _ _ (HS4 _ _) (fun hHeld => ?_)
        clear hK K
        try simp only [List.getElem_toArray, List.getElem_cons_succ, List.getElem_cons_zero, Act.put, List.setIfInBounds_toArray, List.set_cons_zero, List.set_cons_succ]
        refine wpAnyH_take (i := 9) (v := ?v32) rfl (by kernel_rfl) (by kernel_rfl) (by kernel_rfl) (fun _ _ _ h => h) (Or.inl ⟨by rfl, ?y32⟩) (by assumption) ?z32
        case y32 => (intro w hSw; go_simp; first | done | with_reducible rfl)
        try simp only [List.getElem_toArray, List.getElem_cons_succ, List.getElem_cons_zero, Act.put, List.setIfInBounds_toArray, List.set_cons_zero, List.set_cons_succ]
        refine wpAnyH_done (by kernel_rfl) ?_ _
        go_wp2_with fail
        go_meet
        exact ⟨(D).heap.size, _, _, TN4, cN4, TP4, cP4, AA4, CC4, TT4, UU4, rfl, rfl, HS4 _ _, BoxD.made (desk_row PRX _ _), DO3.keep (fun b h1 h2 => far2 (by omega) _ _), PLE, by omega, by simp [World.setCell]; try omega, by simp [World.setCell]; try omega, by omega⟩
    case rest =>
      obtain ⟨pG, loG, hiG, TG1, cG1, TG2, cG2, AG, CG, UG, KG, rfl, rfl, hbx, hBG, hRG, hpG, hlG, hhG, hmG, hnG⟩ := hcut
      obtain ⟨wG, rfl⟩ : ∃ x, x = wc := ⟨_, rfl⟩
      clear HR sY0 sY1 sZ0 sZ1 sZ2 sZ3 HX
      replace BP := Lib.hid (BP.out.still hbx)
      replace BA := Lib.hid (BA.out.still hbx)
      replace BV := Lib.hid (BV.out.still hbx)
      replace BX := Lib.hid (BX.out.still hbx)
      replace X := Lib.hid (X.out.below (hbx.mono le_w2))
      replace R0 := Lib.hid (keepDk (hbx.mono le_w) R0.out)
      replace V := Lib.hid (keepDk (hbx.mono le_wV) V.out)
      replace le_w := Nat.le_trans le_w hbx.size
      replace le_W := Nat.le_trans le_W hbx.size
      replace le_w1 := Nat.le_trans le_w1 hbx.size
      replace le_wV := Nat.le_trans le_wV hbx.size
      replace le_w2 := Nat.le_trans le_w2 hbx.size
      replace le_WBX := Nat.le_trans le_WBX hbx.size
      replace BEL0 := Lib.hid (belT BEL0.out hbx)
      have o_WBX_wG : WBX.heap.size ≤ wG.heap.size := le_WBX
      have le_wG : wG.heap.size ≤ wG.heap.size := Nat.le_refl _
      have BG := Lib.hid hBG
      have bzBG : pG < wG.heap.size := hBG.lt
      have G := Lib.hid hRG
      have le_hiG : hiG ≤ wG.heap.size := hhG
      clear hbx hBG hRG hhG
      have cBG0 := BG.out.c0
      have cBG1 := BG.out.c1
      have ltBG := BG.out.lt
      have cBV0 := BV.out.c0
      have cBV1 := BV.out.c1
      have ltBV := BV.out.lt
      go_wp2_with fail
      refine (eqDesk_same _ _ _ _ _ _ _ _ dn HL1.out HL2.out _ (G.out.lt.lt le_hiG).n (G.out.lt.lt le_hiG).p (V.out.lt le_wV).n (V.out.lt le_wV).p).mono ?_
      rintro e w3 ⟨rfl, hb3⟩
      replace BP := Lib.hid (BP.out.still hb3)
      replace BA := Lib.hid (BA.out.still hb3)
      replace BV := Lib.hid (BV.out.still hb3)
      replace BX := Lib.hid (BX.out.still hb3)
      replace BG := Lib.hid (BG.out.still hb3)
      replace X := Lib.hid (X.out.below (hb3.mono le_w2))
      replace G := Lib.hid (G.out.below (hb3.mono le_hiG))
      replace R0 := Lib.hid (keepDk (hb3.mono le_w) R0.out)
      replace V := Lib.hid (keepDk (hb3.mono le_wV) V.out)
      replace le_w := Nat.le_trans le_w hb3.size
      replace le_W := Nat.le_trans le_W hb3.size
      replace le_w1 := Nat.le_trans le_w1 hb3.size
      replace le_wV := Nat.le_trans le_wV hb3.size
      replace le_w2 := Nat.le_trans le_w2 hb3.size
      replace le_WBX := Nat.le_trans le_WBX hb3.size
      replace le_hiG := Nat.le_trans le_hiG hb3.size
      replace le_wG := Nat.le_trans le_wG hb3.size
      replace BEL0 := Lib.hid (belT BEL0.out hb3)
      clear hb3
      clear cBG0 cBG1 ltBG
      clear cBV0 cBV1 ltBV
      have o_wG_w3 : wG.heap.size ≤ w3.heap.size := le_wG
      have le_w3 : w3.heap.size ≤ w3.heap.size := Nat.le_refl _
      have sX0 := stays BX.out.lt BX.out.c0
      have sX1 := stays BX.out.lt BX.out.c1
      have sY0 := stays BP.out.lt BP.out.c0
      have sY1 := stays BP.out.lt BP.out.c1
      have HR : Hid (∀ w', Below w3.heap.size w3 w' → (Rows2 w' (· < w'.heap.size) A d.now ∧ Rows3 w' (· < w'.heap.size) B d.past) ∧ (Rows2 w' (· < w'.heap.size) TX1 d.now ∧ Rows3 w' (· < w'.heap.size) TX2 d.past)) := fun w' hb => ⟨(keepDk (hb.mono le_w) R0.out).two (Nat.le_trans le_w hb.size), (keepDk (hb.mono le_w2) X.out.lt).two (Nat.le_trans le_w2 hb.size)⟩
      go_wp2_with fail
      go_region_held3 (fun w' => Below w3.heap.size w3 w')
        (first | exact Below.refl _ _ | exact Below.drew (Below.refl _ _) | (refine Below.drew ?_; assumption) | exact belT (by assumption) (by assumption) | assumption)
        (first
          | (go_at_call 27; refine (toDesk_c A B c k d HD.out HD.out.short.now HD.out.short.past _ (HR.out _ (by first | exact Below.refl _ _ | exact Below.drew (Below.refl _ _) | assumption)).1.1 (HR.out _ (by first | exact Below.refl _ _ | exact Below.drew (Below.refl _ _) | assumption)).1.2).mono ?_; rintro e w4 ⟨v4, rfl, TN4, cN4, TP4, cP4, AA4, CC4, TT4, UU4, rfl, hb4, ho4⟩
             have hk4 : Below w3.heap.size w3 w4 := belT (by first | exact Below.refl _ _ | exact Below.drew (Below.refl _ _) | assumption) hb4)
          | (go_at_call 30; refine (eqDesk_same TX1 TX2 TN4 TP4 _ _ cN4 cP4 d hx hy w4 (HR.out _ hk4).2.1 (HR.out _ hk4).2.2 (ho4.more (lo' := 0) (Nat.zero_le _) (Nat.le_refl _)).two.1 (ho4.more (lo' := 0) (Nat.zero_le _) (Nat.le_refl _)).two.2).mono ?_; rintro e w5 ⟨rfl, hb5⟩))
      have hbr : Below w3.heap.size w3 w5 := belT hk4 hb5
      clear HR sX0 sX1 sY0 sY1 ho4 hk4 hb4 hb5
      replace BP := Lib.hid (BP.out.still hbr)
      replace BA := Lib.hid (BA.out.still hbr)
      replace BV := Lib.hid (BV.out.still hbr)
      replace BX := Lib.hid (BX.out.still hbr)
      replace BG := Lib.hid (BG.out.still hbr)
      replace X := Lib.hid (X.out.below (hbr.mono le_w2))
      replace G := Lib.hid (G.out.below (hbr.mono le_hiG))
      replace R0 := Lib.hid (keepDk (hbr.mono le_w) R0.out)
      replace V := Lib.hid (keepDk (hbr.mono le_wV) V.out)
      replace le_w := Nat.le_trans le_w hbr.size
      replace le_W := Nat.le_trans le_W hbr.size
      replace le_w1 := Nat.le_trans le_w1 hbr.size
      replace le_wV := Nat.le_trans le_wV hbr.size
      replace le_w2 := Nat.le_trans le_w2 hbr.size
      replace le_WBX := Nat.le_trans le_WBX hbr.size
      replace le_hiG := Nat.le_trans le_hiG hbr.size
      replace le_wG := Nat.le_trans le_wG hbr.size
      replace le_w3 := Nat.le_trans le_w3 hbr.size
      replace BEL0 := Lib.hid (belT BEL0.out hbr)
      clear hbr
      have o_w3_w5 : w3.heap.size ≤ w5.heap.size := le_w3
      have le_w5 : w5.heap.size ≤ w5.heap.size := Nat.le_refl _
      have cBX0 := BX.out.c0
      have cBX1 := BX.out.c1
      have ltBX := BX.out.lt
      go_wp2_with fail
      refine (markDesk_c TX1 TX2 AX CX UX KX _ _ d _ _ 1 HD.out (by omega) (by omega) _ le_w2 X.out).mono ?_
      rintro e w6 ⟨rfl, hf6, ho6⟩
      clear cBX0 cBX1 ltBX
      have hfb6 := hf6.below (Nat.le_refl _) (show wV.heap.size ≤ w5.heap.size by omega)
      replace BP := Lib.hid (BP.out.offB hf6 (by omega))
      replace BA := Lib.hid (BA.out.offB hf6 (by omega))
      replace BV := Lib.hid (BV.out.offB hf6 (by omega))
      replace BX := Lib.hid (BX.out.offB hf6 (by omega))
      replace BG := Lib.hid (BG.out.offB hf6 (by omega))
      replace X := Lib.hid ho6
      replace G := Lib.hid (G.out.offB hf6 le_hiG (by omega))
      replace R0 := Lib.hid (keepDk (hfb6.mono (by omega)) R0.out)
      replace V := Lib.hid (keepDk (hfb6.mono (by omega)) V.out)
      replace le_w := Nat.le_trans le_w hf6.size
      replace le_W := Nat.le_trans le_W hf6.size
      replace le_w1 := Nat.le_trans le_w1 hf6.size
      replace le_wV := Nat.le_trans le_wV hf6.size
      replace le_w2 := Nat.le_trans le_w2 hf6.size
      replace le_WBX := Nat.le_trans le_WBX hf6.size
      replace le_hiG := Nat.le_trans le_hiG hf6.size
      replace le_wG := Nat.le_trans le_wG hf6.size
      replace le_w3 := Nat.le_trans le_w3 hf6.size
      replace le_w5 := Nat.le_trans le_w5 hf6.size
      replace BEL0 := Lib.hid (BEL0.out.trans (hfb6.mono (by omega)))
      clear hf6 hfb6 ho6
      have o_w5_w6 : w5.heap.size ≤ w6.heap.size := le_w5
      have le_w6 : w6.heap.size ≤ w6.heap.size := Nat.le_refl _
      clear X
      clear BX
      have kpos : ¬ (1 + (sizeD d : Int)) < 0 := by omega
      have cBG0 := BG.out.c0
      have cBG1 := BG.out.c1
      have ltBG := BG.out.lt
      have cBV0 := BV.out.c0
      have cBV1 := BV.out.c1
      have ltBV := BV.out.lt
      go_wp2_with fail
      refine (eqDesk_same _ _ _ _ _ _ _ _ dn HL1.out HL2.out _ (G.out.lt.lt le_hiG).n (G.out.lt.lt le_hiG).p (V.out.lt le_wV).n (V.out.lt le_wV).p).mono ?_
      rintro e w7 ⟨rfl, hb7⟩
      replace BP := Lib.hid (BP.out.still hb7)
      replace BA := Lib.hid (BA.out.still hb7)
      replace BV := Lib.hid (BV.out.still hb7)
      replace BG := Lib.hid (BG.out.still hb7)
      replace G := Lib.hid (G.out.below (hb7.mono le_hiG))
      replace R0 := Lib.hid (keepDk (hb7.mono le_w) R0.out)
      replace V := Lib.hid (keepDk (hb7.mono le_wV) V.out)
      replace le_w := Nat.le_trans le_w hb7.size
      replace le_W := Nat.le_trans le_W hb7.size
      replace le_w1 := Nat.le_trans le_w1 hb7.size
      replace le_wV := Nat.le_trans le_wV hb7.size
      replace le_w2 := Nat.le_trans le_w2 hb7.size
      replace le_WBX := Nat.le_trans le_WBX hb7.size
      replace le_hiG := Nat.le_trans le_hiG hb7.size
      replace le_wG := Nat.le_trans le_wG hb7.size
      replace le_w3 := Nat.le_trans le_w3 hb7.size
      replace le_w5 := Nat.le_trans le_w5 hb7.size
      replace le_w6 := Nat.le_trans le_w6 hb7.size
      replace BEL0 := Lib.hid (belT BEL0.out hb7)
      clear hb7
      clear cBG0 cBG1 ltBG
      clear cBV0 cBV1 ltBV
      have cBG0 := BG.out.c0
      have cBG1 := BG.out.c1
      have ltBG := BG.out.lt
      go_wp2_with fail
      refine (markDesk_c TG1 TG2 AG CG UG KG _ _ dn _ _ 1 HSR.out (by omega) (by omega) _ le_hiG G.out).mono ?_
      rintro e w8 ⟨rfl, hf8, ho8⟩
      clear cBG0 cBG1 ltBG
      have hfb8 := hf8.below (Nat.le_refl _) (show loG ≤ w7.heap.size by omega)
      replace BP := Lib.hid (BP.out.offB hf8 (by omega))
      replace BA := Lib.hid (BA.out.offB hf8 (by omega))
      replace BV := Lib.hid (BV.out.offB hf8 (by omega))
      replace BG := Lib.hid (BG.out.offB hf8 (by omega))
      replace G := Lib.hid ho8
      replace R0 := Lib.hid (keepDk (hfb8.mono (by omega)) R0.out)
      replace V := Lib.hid (keepDk (hfb8.mono (by omega)) V.out)
      replace le_w := Nat.le_trans le_w hf8.size
      replace le_W := Nat.le_trans le_W hf8.size
      replace le_w1 := Nat.le_trans le_w1 hf8.size
      replace le_wV := Nat.le_trans le_wV hf8.size
      replace le_w2 := Nat.le_trans le_w2 hf8.size
      replace le_WBX := Nat.le_trans le_WBX hf8.size
      replace le_hiG := Nat.le_trans le_hiG hf8.size
      replace le_wG := Nat.le_trans le_wG hf8.size
      replace le_w3 := Nat.le_trans le_w3 hf8.size
      replace le_w5 := Nat.le_trans le_w5 hf8.size
      replace le_w6 := Nat.le_trans le_w6 hf8.size
      replace BEL0 := Lib.hid (BEL0.out.trans (hfb8.mono (by omega)))
      clear hf8 hfb8 ho8
      have o_w6_w8 : w6.heap.size ≤ w8.heap.size := le_w6
      have le_w8 : w8.heap.size ≤ w8.heap.size := Nat.le_refl _
      have zz : ((1 + (sizeD dn : Int)) != (1 + (sizeD dn : Int))) = false := by simp
      have kpos2 : ¬ (1 + (sizeD dn : Int)) < 0 := by omega
      have cBG0 := BG.out.c0
      have cBG1 := BG.out.c1
      have ltBG := BG.out.lt
      go_wp2_with fail
      refine (heldDesk_c _ _ _ _ dn _ _ 1 HSR.out (by omega) (by omega) _ (fun b hb => Nat.lt_of_lt_of_le hb.2 le_hiG) (fun b hb => Nat.lt_of_lt_of_le hb.2 le_hiG) G.out.rows2 G.out.rows3).mono ?_
      rintro e w9 ⟨rfl, hb9⟩
      replace BP := Lib.hid (BP.out.still hb9)
      replace BA := Lib.hid (BA.out.still hb9)
      replace BV := Lib.hid (BV.out.still hb9)
      replace BG := Lib.hid (BG.out.still hb9)
      replace G := Lib.hid (G.out.below (hb9.mono le_hiG))
      replace R0 := Lib.hid (keepDk (hb9.mono le_w) R0.out)
      replace V := Lib.hid (keepDk (hb9.mono le_wV) V.out)
      replace le_w := Nat.le_trans le_w hb9.size
      replace le_W := Nat.le_trans le_W hb9.size
      replace le_w1 := Nat.le_trans le_w1 hb9.size
      replace le_wV := Nat.le_trans le_wV hb9.size
      replace le_w2 := Nat.le_trans le_w2 hb9.size
      replace le_WBX := Nat.le_trans le_WBX hb9.size
      replace le_hiG := Nat.le_trans le_hiG hb9.size
      replace le_wG := Nat.le_trans le_wG hb9.size
      replace le_w3 := Nat.le_trans le_w3 hb9.size
      replace le_w5 := Nat.le_trans le_w5 hb9.size
      replace le_w6 := Nat.le_trans le_w6 hb9.size
      replace le_w8 := Nat.le_trans le_w8 hb9.size
      replace BEL0 := Lib.hid (belT BEL0.out hb9)
      clear hb9
      clear cBG0 cBG1 ltBG
      have o_w8_w9 : w8.heap.size ≤ w9.heap.size := le_w8
      have le_w9 : w9.heap.size ≤ w9.heap.size := Nat.le_refl _
      have HR : Hid (∀ w', Below w9.heap.size w9 w' → Rows2 w' (· < w'.heap.size) A d.now ∧ Rows3 w' (· < w'.heap.size) B d.past) := fun w' hb => (keepDk (hb.mono le_w) R0.out).two (Nat.le_trans le_w hb.size)
      have sY0 := stays BP.out.lt BP.out.c0
      have sY1 := stays BP.out.lt BP.out.c1
      have sZ0 := stays BA.out.lt BA.out.c0
      have sZ1 := stays BA.out.lt BA.out.c1
      have sZ2 := stays BA.out.lt BA.out.c2
      have sZ3 := stays BA.out.lt BA.out.c3
      go_wp2_with fail
      go_cut [14, 15] (fun sp sn wx => ∃ (p lo hi : Nat) (TN : Option Addr) (cN : Nat) (TP : Option Addr) (cP : Nat) (AA : Nat → Nat → Option Addr) (CC : Nat → Nat → Nat) (TT : Nat → Option Addr) (UU : Nat → Nat), sp = .pointer (some ⟨p, 0, none⟩) ∧ sn = .bool ob ∧ Below w9.heap.size w9 wx ∧ BoxD wx p (.slice TN dn.now.length cN) (.slice TP dn.past.length cP) ∧ OwnDk wx lo hi TN TP dn AA CC TT UU ∧ w9.heap.size ≤ p ∧ w9.heap.size ≤ lo ∧ hi ≤ wx.heap.size ∧ lo ≤ wx.heap.size ∧ ¬ (lo ≤ p ∧ p < hi))
      case first =>
        have HS0 : Below w9.heap.size w9 w9.drew := (Below.refl _ _).drew
        refine wp_region_held_drew (S := fun w' => Below w9.heap.size w9 w') (by kernel_rfl) HS0 (fun hHeld => ?_)
        clear hHeld
        generalize w9.drew = D at HS0 ⊢
        have hs0 := HS0.size
        have hHeld := HS0
        refine wpAnyH_take (i := 0) (v := ?v33) rfl (by kernel_rfl) (by kernel_rfl) (by kernel_rfl) (fun _ _ _ h => h) (Or.inl ⟨by rfl, ?y33⟩) (by assumption) ?z33
        case y33 => (intro w hSw; go_simp; first | done | with_reducible rfl)
        try simp only [List.getElem_toArray, List.getElem_cons_succ, List.getElem_cons_zero, Act.put, List.setIfInBounds_toArray, List.set_cons_zero, List.set_cons_succ]
        refine wpAnyH_take (i := 2) (v := ?v34) rfl (by kernel_rfl) (by kernel_rfl) (by kernel_rfl) (fun _ _ _ h => h) (Or.inl ⟨by rfl, ?y34⟩) (by assumption) ?z34
        case y34 => (intro w hSw; go_simp; first | done | with_reducible rfl)
        try simp only [List.getElem_toArray, List.getElem_cons_succ, List.getElem_cons_zero, Act.put, List.setIfInBounds_toArray, List.set_cons_zero, List.set_cons_succ]
        refine wpAnyH_ready (rs := [1, 8]) (by kernel_rfl) (by simp) ?_
        refine AllReadyH.cons rfl (fun K hK => ?_) (AllReadyH.cons rfl (fun K hK => ?_) AllReadyH.nil)
        · go_simp
          refine (toDesk_c A B c k d HD.out HD.out.short.now HD.out.short.past _ (HR.out _ HS0).1 (HR.out _ HS0).2).mono ?_
          rintro e u1 ⟨v1, rfl, TN1, cN1, TP1, cP1, AA1, CC1, TT1, UU1, rfl, hb1, ho1⟩
          have DX1 := (ho1.more (lo' := 0) (Nat.zero_le _) (Nat.le_refl _)).two
          clear ho1
          have HS1 : Below w9.heap.size w9 u1 := HS0.trans (hb1.mono HS0.size)
          have shb1 := hb1.size
          refine hK.out _ _ HS1 (fun hHeld => ?_)
          clear hK K
          try simp only [List.getElem_toArray, List.getElem_cons_succ, List.getElem_cons_zero, Act.put, List.setIfInBounds_toArray, List.set_cons_zero, List.set_cons_succ]
          refine wpAnyH_ready (rs := [3, 8]) (by kernel_rfl) (by simp) ?_
          refine AllReadyH.cons rfl (fun K hK => ?_) (AllReadyH.cons rfl (fun K hK => ?_) AllReadyH.nil)
          · go_simp
            refine (HTD.out _).mono ?_
            rintro e u3 ⟨rfl, hb3⟩
            have HS2 : Below w9.heap.size w9 u3 := HS1.trans (hb3.mono HS1.size)
            have shb3 := hb3.size
            have DX2 := stillDk DX1 hb3
            refine hK.out _ _ HS2 (fun hHeld => ?_)
            clear hK K
            try simp only [List.getElem_toArray, List.getElem_cons_succ, List.getElem_cons_zero, Act.put, List.setIfInBounds_toArray, List.set_cons_zero, List.set_cons_succ]
            refine wpAnyH_ready (rs := [4, 8]) (by kernel_rfl) (by simp) ?_
            refine AllReadyH.cons rfl (fun K hK => ?_) (AllReadyH.cons rfl (fun K hK => ?_) AllReadyH.nil)
            · go_simp
              refine (HIM.out TN1 TP1 cN1 cP1 cP1.two _ DX2.1 DX2.2).mono ?_
              rintro e u4 ⟨TN4, cN4, TP4, cP4, AA4, CC4, TT4, UU4, rfl, hb4, DO3⟩
              unfold dskV
              have HS3 : Below w9.heap.size w9 u4 := HS2.trans (hb4.mono HS2.size)
              have shb4 := hb4.size
              have DX3 := stillDk DX2 hb4
              refine hK.out _ _ HS3 (fun hHeld => ?_)
              clear hK K
              try simp only [List.getElem_toArray, List.getElem_cons_succ, List.getElem_cons_zero, Act.put, List.setIfInBounds_toArray, List.set_cons_zero, List.set_cons_succ]
              refine wpAnyH_take (i := 5) (v := ?v35) rfl (by kernel_rfl) (by kernel_rfl) (by kernel_rfl) (fun _ _ _ h => h) (Or.inl ⟨by rfl, ?y35⟩) (by assumption) ?z35
              case y35 => (intro w hSw; go_simp; first | done | with_reducible rfl)
              try simp only [List.getElem_toArray, List.getElem_cons_succ, List.getElem_cons_zero, Act.put, List.setIfInBounds_toArray, List.set_cons_zero, List.set_cons_succ]
              refine wpAnyH_take (i := 6) (v := ?v36) rfl (by kernel_rfl) (by kernel_rfl) (by kernel_rfl) (fun _ _ _ h => h) (Or.inl ⟨by rfl, ?y36⟩) (by assumption) ?z36
              case y36 => (intro w hSw; go_simp; first | done | with_reducible rfl)
              try simp only [List.getElem_toArray, List.getElem_cons_succ, List.getElem_cons_zero, Act.put, List.setIfInBounds_toArray, List.set_cons_zero, List.set_cons_succ]
              refine wpAnyH_take (i := 7) (v := ?v37) rfl (by kernel_rfl) (by kernel_rfl) (by kernel_rfl) (fun _ _ _ h => h) (Or.inl ⟨by rfl, ?y37⟩) (by assumption) ?z37
              case y37 => (intro w hSw; go_simp; first | done | with_reducible rfl)
              try simp only [List.getElem_toArray, List.getElem_cons_succ, List.getElem_cons_zero, Act.put, List.setIfInBounds_toArray, List.set_cons_zero, List.set_cons_succ]
              refine wpAnyH_ready (rs := [8]) (by kernel_rfl) (by simp) ?_
              refine AllReadyH.cons rfl (fun K hK => ?_) AllReadyH.nil
              go_simp
              obtain ⟨V, hV⟩ : ∃ V : World, V = (u4).alloc (.cells #[.slice none 0 0, .slice none 0 0] 26) := ⟨_, rfl⟩
              rw [← hV]
              have hbV : Below (u4).heap.size (u4) V := by rw [hV]; exact (Below.refl _ _).alloc (Nat.le_refl _) _
              have PL4 : (u4).heap.size < V.heap.size := by rw [hV]; simp
              have PR4 : V.rowIs (u4).heap.size 26 2 (fun _ => .slice none 0 0) := by rw [hV]; exact World.rowIs_alloc _ #[.slice none 0 0, .slice none 0 0] _ _ (fun i hi => by have : i = 0 ∨ i = 1 := (by simp at hi; omega); rcases this with rfl | rfl <;> rfl)
              have HS4 : Below w9.heap.size w9 V := HS3.trans (hbV.mono HS3.size)
              have hsV := hbV.size
              clear hV
              have DX4 := stillDk DX3 hbV
              have DO4 := DO3.keep (fun b _ h2 => hbV.block b h2)
              refine hK.out _ _ HS4 (fun hHeld => ?_)
              clear hK K
              try simp only [List.getElem_toArray, List.getElem_cons_succ, List.getElem_cons_zero, Act.put, List.setIfInBounds_toArray, List.set_cons_zero, List.set_cons_succ]
              refine wpAnyH_ready (rs := [9]) (by kernel_rfl) (by simp) ?_
              refine AllReadyH.cons rfl (fun K hK => ?_) AllReadyH.nil
              have PC0 := PR4.cell (i := 0) (by omega)
              have PC1 := PR4.cell (i := 1) (by omega)
              have PF0 := PR4.frozen 0
              have PF1 := PR4.frozen 1
              have PLE : w9.heap.size ≤ (u4).heap.size := by first | exact Nat.le_refl _ | omega
              have HS5 : ∀ u v : Value, Below w9.heap.size w9 ((V.setCell ⟨(u4).heap.size, 0, none⟩ u).setCell ⟨(u4).heap.size, 1, none⟩ v) := fun u v => (HS4.setCell PLE u).setCell PLE v
              have PRX := PR4
              have PLX := PL4
              go_simp
              refine hK.out _ _ (HS5 _ _) (fun hHeld => ?_)
              clear hK K
              try simp only [List.getElem_toArray, List.getElem_cons_succ, List.getElem_cons_zero, Act.put, List.setIfInBounds_toArray, List.set_cons_zero, List.set_cons_succ]
              refine wpAnyH_take (i := 10) (v := ?v38) rfl (by kernel_rfl) (by kernel_rfl) (by kernel_rfl) (fun _ _ _ h => h) (Or.inl ⟨by rfl, ?y38⟩) (by assumption) ?z38
              case y38 => (intro w hSw; go_simp; first | done | with_reducible rfl)
              try simp only [List.getElem_toArray, List.getElem_cons_succ, List.getElem_cons_zero, Act.put, List.setIfInBounds_toArray, List.set_cons_zero, List.set_cons_succ]
              refine wpAnyH_done (by kernel_rfl) ?_ _
              go_wp2_with fail
              go_meet
              exact ⟨(u4).heap.size, _, _, TN4, cN4, TP4, cP4, AA4, CC4, TT4, UU4, rfl, rfl, HS5 _ _, BoxD.made (desk_row PRX _ _), DO4.keep (fun b h1 h2 => far2 (by omega) _ _), PLE, by omega, by simp [World.setCell]; try omega, by simp [World.setCell]; try omega, by omega⟩
            · go_simp
              obtain ⟨V, hV⟩ : ∃ V : World, V = (u3).alloc (.cells #[.slice none 0 0, .slice none 0 0] 26) := ⟨_, rfl⟩
              rw [← hV]
              have hbV : Below (u3).heap.size (u3) V := by rw [hV]; exact (Below.refl _ _).alloc (Nat.le_refl _) _
              have PL3 : (u3).heap.size < V.heap.size := by rw [hV]; simp
              have PR3 : V.rowIs (u3).heap.size 26 2 (fun _ => .slice none 0 0) := by rw [hV]; exact World.rowIs_alloc _ #[.slice none 0 0, .slice none 0 0] _ _ (fun i hi => by have : i = 0 ∨ i = 1 := (by simp at hi; omega); rcases this with rfl | rfl <;> rfl)
              have HS3 : Below w9.heap.size w9 V := HS2.trans (hbV.mono HS2.size)
              have hsV := hbV.size
              clear hV
              have DX3 := stillDk DX2 hbV
              refine hK.out _ _ HS3 (fun hHeld => ?_)
              clear hK K
              try simp only [List.getElem_toArray, List.getElem_cons_succ, List.getElem_cons_zero, Act.put, List.setIfInBounds_toArray, List.set_cons_zero, List.set_cons_succ]
              refine wpAnyH_ready (rs := [4]) (by kernel_rfl) (by simp) ?_
              refine AllReadyH.cons rfl (fun K hK => ?_) AllReadyH.nil
              go_simp
              refine (HIM.out TN1 TP1 cN1 cP1 cP1.two _ DX3.1 DX3.2).mono ?_
              rintro e u4 ⟨TN4, cN4, TP4, cP4, AA4, CC4, TT4, UU4, rfl, hb4, DO4⟩
              unfold dskV
              have HS4 : Below w9.heap.size w9 u4 := HS3.trans (hb4.mono HS3.size)
              have shb4 := hb4.size
              have PR4 := PR3.of_block (hb4.block _ PL3)
              have PL4 := Nat.lt_of_lt_of_le PL3 hb4.size
              have DX4 := stillDk DX3 hb4
              refine hK.out _ _ HS4 (fun hHeld => ?_)
              clear hK K
              try simp only [List.getElem_toArray, List.getElem_cons_succ, List.getElem_cons_zero, Act.put, List.setIfInBounds_toArray, List.set_cons_zero, List.set_cons_succ]
              refine wpAnyH_take (i := 5) (v := ?v39) rfl (by kernel_rfl) (by kernel_rfl) (by kernel_rfl) (fun _ _ _ h => h) (Or.inl ⟨by rfl, ?y39⟩) (by assumption) ?z39
              case y39 => (intro w hSw; go_simp; first | done | with_reducible rfl)
              try simp only [List.getElem_toArray, List.getElem_cons_succ, List.getElem_cons_zero, Act.put, List.setIfInBounds_toArray, List.set_cons_zero, List.set_cons_succ]
              refine wpAnyH_take (i := 6) (v := ?v40) rfl (by kernel_rfl) (by kernel_rfl) (by kernel_rfl) (fun _ _ _ h => h) (Or.inl ⟨by rfl, ?y40⟩) (by assumption) ?z40
              case y40 => (intro w hSw; go_simp; first | done | with_reducible rfl)
              try simp only [List.getElem_toArray, List.getElem_cons_succ, List.getElem_cons_zero, Act.put, List.setIfInBounds_toArray, List.set_cons_zero, List.set_cons_succ]
              refine wpAnyH_take (i := 7) (v := ?v41) rfl (by kernel_rfl) (by kernel_rfl) (by kernel_rfl) (fun _ _ _ h => h) (Or.inl ⟨by rfl, ?y41⟩) (by assumption) ?z41
              case y41 => (intro w hSw; go_simp; first | done | with_reducible rfl)
              try simp only [List.getElem_toArray, List.getElem_cons_succ, List.getElem_cons_zero, Act.put, List.setIfInBounds_toArray, List.set_cons_zero, List.set_cons_succ]
              refine wpAnyH_ready (rs := [9]) (by kernel_rfl) (by simp) ?_
              refine AllReadyH.cons rfl (fun K hK => ?_) AllReadyH.nil
              have PC0 := PR4.cell (i := 0) (by omega)
              have PC1 := PR4.cell (i := 1) (by omega)
              have PF0 := PR4.frozen 0
              have PF1 := PR4.frozen 1
              have PLE : w9.heap.size ≤ (u3).heap.size := by first | exact Nat.le_refl _ | omega
              have HS5 : ∀ u v : Value, Below w9.heap.size w9 ((u4.setCell ⟨(u3).heap.size, 0, none⟩ u).setCell ⟨(u3).heap.size, 1, none⟩ v) := fun u v => (HS4.setCell PLE u).setCell PLE v
              have PRX := PR4
              have PLX := PL4
              go_simp
              refine hK.out _ _ (HS5 _ _) (fun hHeld => ?_)
              clear hK K
              try simp only [List.getElem_toArray, List.getElem_cons_succ, List.getElem_cons_zero, Act.put, List.setIfInBounds_toArray, List.set_cons_zero, List.set_cons_succ]
              refine wpAnyH_take (i := 10) (v := ?v42) rfl (by kernel_rfl) (by kernel_rfl) (by kernel_rfl) (fun _ _ _ h => h) (Or.inl ⟨by rfl, ?y42⟩) (by assumption) ?z42
              case y42 => (intro w hSw; go_simp; first | done | with_reducible rfl)
              try simp only [List.getElem_toArray, List.getElem_cons_succ, List.getElem_cons_zero, Act.put, List.setIfInBounds_toArray, List.set_cons_zero, List.set_cons_succ]
              refine wpAnyH_done (by kernel_rfl) ?_ _
              go_wp2_with fail
              go_meet
              exact ⟨(u3).heap.size, _, _, TN4, cN4, TP4, cP4, AA4, CC4, TT4, UU4, rfl, rfl, HS5 _ _, BoxD.made (desk_row PRX _ _), DO4.keep (fun b h1 h2 => far2 (by omega) _ _), PLE, by omega, by simp [World.setCell]; try omega, by simp [World.setCell]; try omega, by omega⟩
          · go_simp
            obtain ⟨V, hV⟩ : ∃ V : World, V = (u1).alloc (.cells #[.slice none 0 0, .slice none 0 0] 26) := ⟨_, rfl⟩
            rw [← hV]
            have hbV : Below (u1).heap.size (u1) V := by rw [hV]; exact (Below.refl _ _).alloc (Nat.le_refl _) _
            have PL2 : (u1).heap.size < V.heap.size := by rw [hV]; simp
            have PR2 : V.rowIs (u1).heap.size 26 2 (fun _ => .slice none 0 0) := by rw [hV]; exact World.rowIs_alloc _ #[.slice none 0 0, .slice none 0 0] _ _ (fun i hi => by have : i = 0 ∨ i = 1 := (by simp at hi; omega); rcases this with rfl | rfl <;> rfl)
            have HS2 : Below w9.heap.size w9 V := HS1.trans (hbV.mono HS1.size)
            have hsV := hbV.size
            clear hV
            have DX2 := stillDk DX1 hbV
            refine hK.out _ _ HS2 (fun hHeld => ?_)
            clear hK K
            try simp only [List.getElem_toArray, List.getElem_cons_succ, List.getElem_cons_zero, Act.put, List.setIfInBounds_toArray, List.set_cons_zero, List.set_cons_succ]
            refine wpAnyH_ready (rs := [3]) (by kernel_rfl) (by simp) ?_
            refine AllReadyH.cons rfl (fun K hK => ?_) AllReadyH.nil
            go_simp
            refine (HTD.out _).mono ?_
            rintro e u3 ⟨rfl, hb3⟩
            have HS3 : Below w9.heap.size w9 u3 := HS2.trans (hb3.mono HS2.size)
            have shb3 := hb3.size
            have PR3 := PR2.of_block (hb3.block _ PL2)
            have PL3 := Nat.lt_of_lt_of_le PL2 hb3.size
            have DX3 := stillDk DX2 hb3
            refine hK.out _ _ HS3 (fun hHeld => ?_)
            clear hK K
            try simp only [List.getElem_toArray, List.getElem_cons_succ, List.getElem_cons_zero, Act.put, List.setIfInBounds_toArray, List.set_cons_zero, List.set_cons_succ]
            refine wpAnyH_ready (rs := [4]) (by kernel_rfl) (by simp) ?_
            refine AllReadyH.cons rfl (fun K hK => ?_) AllReadyH.nil
            go_simp
            refine (HIM.out TN1 TP1 cN1 cP1 cP1.two _ DX3.1 DX3.2).mono ?_
            rintro e u4 ⟨TN4, cN4, TP4, cP4, AA4, CC4, TT4, UU4, rfl, hb4, DO4⟩
            unfold dskV
            have HS4 : Below w9.heap.size w9 u4 := HS3.trans (hb4.mono HS3.size)
            have shb4 := hb4.size
            have PR4 := PR3.of_block (hb4.block _ PL3)
            have PL4 := Nat.lt_of_lt_of_le PL3 hb4.size
            have DX4 := stillDk DX3 hb4
            refine hK.out _ _ HS4 (fun hHeld => ?_)
            clear hK K
            try simp only [List.getElem_toArray, List.getElem_cons_succ, List.getElem_cons_zero, Act.put, List.setIfInBounds_toArray, List.set_cons_zero, List.set_cons_succ]
            refine wpAnyH_take (i := 5) (v := ?v43) rfl (by kernel_rfl) (by kernel_rfl) (by kernel_rfl) (fun _ _ _ h => h) (Or.inl ⟨by rfl, ?y43⟩) (by assumption) ?z43
            case y43 => (intro w hSw; go_simp; first | done | with_reducible rfl)
            try simp only [List.getElem_toArray, List.getElem_cons_succ, List.getElem_cons_zero, Act.put, List.setIfInBounds_toArray, List.set_cons_zero, List.set_cons_succ]
            refine wpAnyH_take (i := 6) (v := ?v44) rfl (by kernel_rfl) (by kernel_rfl) (by kernel_rfl) (fun _ _ _ h => h) (Or.inl ⟨by rfl, ?y44⟩) (by assumption) ?z44
            case y44 => (intro w hSw; go_simp; first | done | with_reducible rfl)
            try simp only [List.getElem_toArray, List.getElem_cons_succ, List.getElem_cons_zero, Act.put, List.setIfInBounds_toArray, List.set_cons_zero, List.set_cons_succ]
            refine wpAnyH_take (i := 7) (v := ?v45) rfl (by kernel_rfl) (by kernel_rfl) (by kernel_rfl) (fun _ _ _ h => h) (Or.inl ⟨by rfl, ?y45⟩) (by assumption) ?z45
            case y45 => (intro w hSw; go_simp; first | done | with_reducible rfl)
            try simp only [List.getElem_toArray, List.getElem_cons_succ, List.getElem_cons_zero, Act.put, List.setIfInBounds_toArray, List.set_cons_zero, List.set_cons_succ]
            refine wpAnyH_ready (rs := [9]) (by kernel_rfl) (by simp) ?_
            refine AllReadyH.cons rfl (fun K hK => ?_) AllReadyH.nil
            have PC0 := PR4.cell (i := 0) (by omega)
            have PC1 := PR4.cell (i := 1) (by omega)
            have PF0 := PR4.frozen 0
            have PF1 := PR4.frozen 1
            have PLE : w9.heap.size ≤ (u1).heap.size := by first | exact Nat.le_refl _ | omega
            have HS5 : ∀ u v : Value, Below w9.heap.size w9 ((u4.setCell ⟨(u1).heap.size, 0, none⟩ u).setCell ⟨(u1).heap.size, 1, none⟩ v) := fun u v => (HS4.setCell PLE u).setCell PLE v
            have PRX := PR4
            have PLX := PL4
            go_simp
            refine hK.out _ _ (HS5 _ _) (fun hHeld => ?_)
            clear hK K
            try simp only [List.getElem_toArray, List.getElem_cons_succ, List.getElem_cons_zero, Act.put, List.setIfInBounds_toArray, List.set_cons_zero, List.set_cons_succ]
            refine wpAnyH_take (i := 10) (v := ?v46) rfl (by kernel_rfl) (by kernel_rfl) (by kernel_rfl) (fun _ _ _ h => h) (Or.inl ⟨by rfl, ?y46⟩) (by assumption) ?z46
            case y46 => (intro w hSw; go_simp; first | done | with_reducible rfl)
            try simp only [List.getElem_toArray, List.getElem_cons_succ, List.getElem_cons_zero, Act.put, List.setIfInBounds_toArray, List.set_cons_zero, List.set_cons_succ]
            refine wpAnyH_done (by kernel_rfl) ?_ _
            go_wp2_with fail
            go_meet
            exact ⟨(u1).heap.size, _, _, TN4, cN4, TP4, cP4, AA4, CC4, TT4, UU4, rfl, rfl, HS5 _ _, BoxD.made (desk_row PRX _ _), DO4.keep (fun b h1 h2 => far2 (by omega) _ _), PLE, by omega, by simp [World.setCell]; try omega, by simp [World.setCell]; try omega, by omega⟩
        · go_simp
          obtain ⟨V, hV⟩ : ∃ V : World, V = (D).alloc (.cells #[.slice none 0 0, .slice none 0 0] 26) := ⟨_, rfl⟩
          rw [← hV]
          have hbV : Below (D).heap.size (D) V := by rw [hV]; exact (Below.refl _ _).alloc (Nat.le_refl _) _
          have PL1 : (D).heap.size < V.heap.size := by rw [hV]; simp
          have PR1 : V.rowIs (D).heap.size 26 2 (fun _ => .slice none 0 0) := by rw [hV]; exact World.rowIs_alloc _ #[.slice none 0 0, .slice none 0 0] _ _ (fun i hi => by have : i = 0 ∨ i = 1 := (by simp at hi; omega); rcases this with rfl | rfl <;> rfl)
          have HS1 : Below w9.heap.size w9 V := HS0.trans (hbV.mono HS0.size)
          have hsV := hbV.size
          clear hV
          refine hK.out _ _ HS1 (fun hHeld => ?_)
          clear hK K
          try simp only [List.getElem_toArray, List.getElem_cons_succ, List.getElem_cons_zero, Act.put, List.setIfInBounds_toArray, List.set_cons_zero, List.set_cons_succ]
          refine wpAnyH_ready (rs := [1]) (by kernel_rfl) (by simp) ?_
          refine AllReadyH.cons rfl (fun K hK => ?_) AllReadyH.nil
          go_simp
          refine (toDesk_c A B c k d HD.out HD.out.short.now HD.out.short.past _ (HR.out _ HS1).1 (HR.out _ HS1).2).mono ?_
          rintro e u1 ⟨v1, rfl, TN1, cN1, TP1, cP1, AA1, CC1, TT1, UU1, rfl, hb1, ho1⟩
          have DX2 := (ho1.more (lo' := 0) (Nat.zero_le _) (Nat.le_refl _)).two
          clear ho1
          have HS2 : Below w9.heap.size w9 u1 := HS1.trans (hb1.mono HS1.size)
          have shb1 := hb1.size
          have PR2 := PR1.of_block (hb1.block _ PL1)
          have PL2 := Nat.lt_of_lt_of_le PL1 hb1.size
          refine hK.out _ _ HS2 (fun hHeld => ?_)
          clear hK K
          try simp only [List.getElem_toArray, List.getElem_cons_succ, List.getElem_cons_zero, Act.put, List.setIfInBounds_toArray, List.set_cons_zero, List.set_cons_succ]
          refine wpAnyH_ready (rs := [3]) (by kernel_rfl) (by simp) ?_
          refine AllReadyH.cons rfl (fun K hK => ?_) AllReadyH.nil
          go_simp
          refine (HTD.out _).mono ?_
          rintro e u3 ⟨rfl, hb3⟩
          have HS3 : Below w9.heap.size w9 u3 := HS2.trans (hb3.mono HS2.size)
          have shb3 := hb3.size
          have PR3 := PR2.of_block (hb3.block _ PL2)
          have PL3 := Nat.lt_of_lt_of_le PL2 hb3.size
          have DX3 := stillDk DX2 hb3
          refine hK.out _ _ HS3 (fun hHeld => ?_)
          clear hK K
          try simp only [List.getElem_toArray, List.getElem_cons_succ, List.getElem_cons_zero, Act.put, List.setIfInBounds_toArray, List.set_cons_zero, List.set_cons_succ]
          refine wpAnyH_ready (rs := [4]) (by kernel_rfl) (by simp) ?_
          refine AllReadyH.cons rfl (fun K hK => ?_) AllReadyH.nil
          go_simp
          refine (HIM.out TN1 TP1 cN1 cP1 cP1.two _ DX3.1 DX3.2).mono ?_
          rintro e u4 ⟨TN4, cN4, TP4, cP4, AA4, CC4, TT4, UU4, rfl, hb4, DO4⟩
          unfold dskV
          have HS4 : Below w9.heap.size w9 u4 := HS3.trans (hb4.mono HS3.size)
          have shb4 := hb4.size
          have PR4 := PR3.of_block (hb4.block _ PL3)
          have PL4 := Nat.lt_of_lt_of_le PL3 hb4.size
          have DX4 := stillDk DX3 hb4
          refine hK.out _ _ HS4 (fun hHeld => ?_)
          clear hK K
          try simp only [List.getElem_toArray, List.getElem_cons_succ, List.getElem_cons_zero, Act.put, List.setIfInBounds_toArray, List.set_cons_zero, List.set_cons_succ]
          refine wpAnyH_take (i := 5) (v := ?v47) rfl (by kernel_rfl) (by kernel_rfl) (by kernel_rfl) (fun _ _ _ h => h) (Or.inl ⟨by rfl, ?y47⟩) (by assumption) ?z47
          case y47 => (intro w hSw; go_simp; first | done | with_reducible rfl)
          try simp only [List.getElem_toArray, List.getElem_cons_succ, List.getElem_cons_zero, Act.put, List.setIfInBounds_toArray, List.set_cons_zero, List.set_cons_succ]
          refine wpAnyH_take (i := 6) (v := ?v48) rfl (by kernel_rfl) (by kernel_rfl) (by kernel_rfl) (fun _ _ _ h => h) (Or.inl ⟨by rfl, ?y48⟩) (by assumption) ?z48
          case y48 => (intro w hSw; go_simp; first | done | with_reducible rfl)
          try simp only [List.getElem_toArray, List.getElem_cons_succ, List.getElem_cons_zero, Act.put, List.setIfInBounds_toArray, List.set_cons_zero, List.set_cons_succ]
          refine wpAnyH_take (i := 7) (v := ?v49) rfl (by kernel_rfl) (by kernel_rfl) (by kernel_rfl) (fun _ _ _ h => h) (Or.inl ⟨by rfl, ?y49⟩) (by assumption) ?z49
          case y49 => (intro w hSw; go_simp; first | done | with_reducible rfl)
          try simp only [List.getElem_toArray, List.getElem_cons_succ, List.getElem_cons_zero, Act.put, List.setIfInBounds_toArray, List.set_cons_zero, List.set_cons_succ]
          refine wpAnyH_ready (rs := [9]) (by kernel_rfl) (by simp) ?_
          refine AllReadyH.cons rfl (fun K hK => ?_) AllReadyH.nil
          have PC0 := PR4.cell (i := 0) (by omega)
          have PC1 := PR4.cell (i := 1) (by omega)
          have PF0 := PR4.frozen 0
          have PF1 := PR4.frozen 1
          have PLE : w9.heap.size ≤ (D).heap.size := by first | exact Nat.le_refl _ | omega
          have HS5 : ∀ u v : Value, Below w9.heap.size w9 ((u4.setCell ⟨(D).heap.size, 0, none⟩ u).setCell ⟨(D).heap.size, 1, none⟩ v) := fun u v => (HS4.setCell PLE u).setCell PLE v
          have PRX := PR4
          have PLX := PL4
          go_simp
          refine hK.out _ _ (HS5 _ _) (fun hHeld => ?_)
          clear hK K
          try simp only [List.getElem_toArray, List.getElem_cons_succ, List.getElem_cons_zero, Act.put, List.setIfInBounds_toArray, List.set_cons_zero, List.set_cons_succ]
          refine wpAnyH_take (i := 10) (v := ?v50) rfl (by kernel_rfl) (by kernel_rfl) (by kernel_rfl) (fun _ _ _ h => h) (Or.inl ⟨by rfl, ?y50⟩) (by assumption) ?z50
          case y50 => (intro w hSw; go_simp; first | done | with_reducible rfl)
          try simp only [List.getElem_toArray, List.getElem_cons_succ, List.getElem_cons_zero, Act.put, List.setIfInBounds_toArray, List.set_cons_zero, List.set_cons_succ]
          refine wpAnyH_done (by kernel_rfl) ?_ _
          go_wp2_with fail
          go_meet
          exact ⟨(D).heap.size, _, _, TN4, cN4, TP4, cP4, AA4, CC4, TT4, UU4, rfl, rfl, HS5 _ _, BoxD.made (desk_row PRX _ _), DO4.keep (fun b h1 h2 => far2 (by omega) _ _), PLE, by omega, by simp [World.setCell]; try omega, by simp [World.setCell]; try omega, by omega⟩
      case rest =>
        obtain ⟨pH, loH, hiH, TH1, cH1, TH2, cH2, AH, CH, UH, KH, rfl, rfl, hbx, hBH, hRH, hpH, hlH, hhH, hmH, hnH⟩ := hcut
        obtain ⟨wH, rfl⟩ : ∃ x, x = wc := ⟨_, rfl⟩
        clear HR sY0 sY1 sZ0 sZ1 sZ2 sZ3
        replace BP := Lib.hid (BP.out.still hbx)
        replace BA := Lib.hid (BA.out.still hbx)
        replace BV := Lib.hid (BV.out.still hbx)
        replace BG := Lib.hid (BG.out.still hbx)
        replace G := Lib.hid (G.out.below (hbx.mono le_hiG))
        replace R0 := Lib.hid (keepDk (hbx.mono le_w) R0.out)
        replace V := Lib.hid (keepDk (hbx.mono le_wV) V.out)
        replace le_w := Nat.le_trans le_w hbx.size
        replace le_W := Nat.le_trans le_W hbx.size
        replace le_w1 := Nat.le_trans le_w1 hbx.size
        replace le_wV := Nat.le_trans le_wV hbx.size
        replace le_w2 := Nat.le_trans le_w2 hbx.size
        replace le_WBX := Nat.le_trans le_WBX hbx.size
        replace le_hiG := Nat.le_trans le_hiG hbx.size
        replace le_wG := Nat.le_trans le_wG hbx.size
        replace le_w3 := Nat.le_trans le_w3 hbx.size
        replace le_w5 := Nat.le_trans le_w5 hbx.size
        replace le_w6 := Nat.le_trans le_w6 hbx.size
        replace le_w8 := Nat.le_trans le_w8 hbx.size
        replace le_w9 := Nat.le_trans le_w9 hbx.size
        replace BEL0 := Lib.hid (belT BEL0.out hbx)
        have o_w9_wH : w9.heap.size ≤ wH.heap.size := le_w9
        have le_wH : wH.heap.size ≤ wH.heap.size := Nat.le_refl _
        have BH := Lib.hid hBH
        have bzBH : pH < wH.heap.size := hBH.lt
        have H : Hid (RdD wH wH.heap.size TH1 TH2 dn) := hRH.lt.lt hhH
        clear hlH hnH hmH
        clear hbx hBH hRH hhH
        have cBH0 := BH.out.c0
        have cBH1 := BH.out.c1
        have ltBH := BH.out.lt
        have cBV0 := BV.out.c0
        have cBV1 := BV.out.c1
        have ltBV := BV.out.lt
        go_wp2_with fail
        refine (eqDesk_same _ _ _ _ _ _ _ _ dn HL1.out HL2.out _ (H.out.lt le_wH).n (H.out.lt le_wH).p (V.out.lt le_wV).n (V.out.lt le_wV).p).mono ?_
        rintro e w10 ⟨rfl, hb10⟩
        replace BP := Lib.hid (BP.out.still hb10)
        replace BA := Lib.hid (BA.out.still hb10)
        replace BV := Lib.hid (BV.out.still hb10)
        replace BG := Lib.hid (BG.out.still hb10)
        replace BH := Lib.hid (BH.out.still hb10)
        replace G := Lib.hid (G.out.below (hb10.mono le_hiG))
        replace R0 := Lib.hid (keepDk (hb10.mono le_w) R0.out)
        replace V := Lib.hid (keepDk (hb10.mono le_wV) V.out)
        replace H := Lib.hid (keepDk (hb10.mono le_wH) H.out)
        replace le_w := Nat.le_trans le_w hb10.size
        replace le_W := Nat.le_trans le_W hb10.size
        replace le_w1 := Nat.le_trans le_w1 hb10.size
        replace le_wV := Nat.le_trans le_wV hb10.size
        replace le_w2 := Nat.le_trans le_w2 hb10.size
        replace le_WBX := Nat.le_trans le_WBX hb10.size
        replace le_hiG := Nat.le_trans le_hiG hb10.size
        replace le_wG := Nat.le_trans le_wG hb10.size
        replace le_w3 := Nat.le_trans le_w3 hb10.size
        replace le_w5 := Nat.le_trans le_w5 hb10.size
        replace le_w6 := Nat.le_trans le_w6 hb10.size
        replace le_w8 := Nat.le_trans le_w8 hb10.size
        replace le_w9 := Nat.le_trans le_w9 hb10.size
        replace le_wH := Nat.le_trans le_wH hb10.size
        replace BEL0 := Lib.hid (belT BEL0.out hb10)
        clear hb10
        clear cBH0 cBH1 ltBH
        clear cBV0 cBV1 ltBV
        clear H
        clear V
        clear BH
        clear BV
        have cBG0 := BG.out.c0
        have cBG1 := BG.out.c1
        have ltBG := BG.out.lt
        go_wp2_with fail
        refine (heldDesk_c _ _ _ _ dn _ _ 1 HSR.out (by omega) (by omega) _ (fun b hb => Nat.lt_of_lt_of_le hb.2 le_hiG) (fun b hb => Nat.lt_of_lt_of_le hb.2 le_hiG) G.out.rows2 G.out.rows3).mono ?_
        rintro e w11 ⟨rfl, hb11⟩
        replace BP := Lib.hid (BP.out.still hb11)
        replace BA := Lib.hid (BA.out.still hb11)
        replace BG := Lib.hid (BG.out.still hb11)
        replace G := Lib.hid (G.out.below (hb11.mono le_hiG))
        replace R0 := Lib.hid (keepDk (hb11.mono le_w) R0.out)
        replace le_w := Nat.le_trans le_w hb11.size
        replace le_W := Nat.le_trans le_W hb11.size
        replace le_w1 := Nat.le_trans le_w1 hb11.size
        replace le_wV := Nat.le_trans le_wV hb11.size
        replace le_w2 := Nat.le_trans le_w2 hb11.size
        replace le_WBX := Nat.le_trans le_WBX hb11.size
        replace le_hiG := Nat.le_trans le_hiG hb11.size
        replace le_wG := Nat.le_trans le_wG hb11.size
        replace le_w3 := Nat.le_trans le_w3 hb11.size
        replace le_w5 := Nat.le_trans le_w5 hb11.size
        replace le_w6 := Nat.le_trans le_w6 hb11.size
        replace le_w8 := Nat.le_trans le_w8 hb11.size
        replace le_w9 := Nat.le_trans le_w9 hb11.size
        replace le_wH := Nat.le_trans le_wH hb11.size
        replace BEL0 := Lib.hid (belT BEL0.out hb11)
        clear hb11
        clear cBG0 cBG1 ltBG
        go_wp2_with fail
        go_ret
        exact Adds.of rfl BEL0.out

end Go.Proofs.Ytlkjpmdnhccdpaa
