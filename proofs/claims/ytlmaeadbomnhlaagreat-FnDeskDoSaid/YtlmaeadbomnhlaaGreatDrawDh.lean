import Derived.Test.YtlmaeadbomnhlaaGreatRF
namespace Go.Proofs.YtlmaeadbomnhlaaGreat
set_option linter.unusedSimpArgs false
set_option linter.unusedVariables false
open Go.RowKit

structure DrT (n R : Nat) (W w' : World) : Prop where
  os : w'.os = W.os
  tape : w'.tape = W.tape
  output : w'.output = W.output
  size : W.heap.size ≤ w'.heap.size
  block : ∀ k, k < W.heap.size → k ≠ n → k ≠ R → k ≠ R + 1 → w'.heap[k]? = W.heap[k]?

theorem DrT.kept {n R : Nat} {W w' : World} (h : Kept n W w') : DrT n R W w' := ⟨h.os, h.tape, h.output, h.size, fun k h1 h2 _ _ => h.block k h1 h2⟩

theorem DrT.set {n R : Nat} {W w' : World} (h : DrT n R W w') (o : Nat) (v : Value) : DrT n R W (w'.setCell ⟨R, o, none⟩ v) :=
  ⟨h.os, h.tape, h.output, by simpa [World.setCell] using h.size, fun k h1 h2 h3 h4 => (Below.heap_setCell _ _ _ _ h3).trans (h.block k h1 h2 h3 h4)⟩

theorem DrT.set' {n R : Nat} {W w' : World} (h : DrT n R W w') (o : Nat) (v : Value) : DrT n R W (w'.setCell ⟨R + 1, o, none⟩ v) :=
  ⟨h.os, h.tape, h.output, by simpa [World.setCell] using h.size, fun k h1 h2 h3 h4 => (Below.heap_setCell _ _ _ _ h4).trans (h.block k h1 h2 h3 h4)⟩

theorem staysT {W : World} {n R p o : Nat} {a : Value} (hp : p < W.heap.size) (hn : p ≠ n) (hR : p ≠ R) (hR' : p ≠ R + 1) (h : W.cell? ⟨p, o, none⟩ = some a) : ∀ w1, DrT n R W w1 → w1.cell? ⟨p, o, none⟩ = some a :=
  fun w1 hs => (World.cell?_of_block (w := W) (hs.block p hp hn hR hR')).trans h

def DrawnDA (w : World) (e : Ending) (w' : World) : Prop :=
  ∃ (d : Dk) (TN : Option Addr) (cN : Nat) (TP : Option Addr) (cP : CapN d.past.length) (a : Dd), e = .returned (.tuple #[dskV TN d.now.length cN TP d.past.length cP, ddV a]) ∧ Below w.heap.size w w' ∧ d.now.length ≤ 16 ∧ d.past.length ≤ 9 ∧
    Rows2 w' (· < w'.heap.size) TN d.now ∧ Rows3 w' (· < w'.heap.size) TP d.past

theorem far4 {w : World} {p b : Nat} (h : b ≠ p) (x0 x1 x2 x3 : Value) : ((((w.setCell ⟨p, 0, none⟩ x0).setCell ⟨p, 1, none⟩ x1).setCell ⟨p, 2, none⟩ x2).setCell ⟨p, 3, none⟩ x3).heap[b]? = w.heap[b]? := by
  rw [Below.heap_setCell _ _ _ _ h, Below.heap_setCell _ _ _ _ h, Below.heap_setCell _ _ _ _ h, Below.heap_setCell _ _ _ _ h]

set_option maxHeartbeats 8000000 in
set_option maxRecDepth 100000 in
theorem dDrawDeskDo (a : Option Addr) (len cap : Nat) (zs : List Int) (w : World) (h : IsRow .u8 w a len cap zs) :
    Calls Tryz.prog 4 #[.slice a len cap] w (DrawnDA w) := by
  go_enter Tryz.func4, Tryz.ntmps4
  obtain ⟨W, hW⟩ : ∃ W : World, W = (w.alloc (.cells #[.slice none 0 0, .slice none 0 0] 26)).alloc (.cells #[.int .i64 0, .int .i64 0, .int .i64 0, .int .i64 0] 28) := ⟨_, rfl⟩
  have hz : W.heap.size = w.heap.size + 1 + 1 := by rw [hW]; simp
  have hbW : Below w.heap.size w W := by rw [hW]; exact ((Below.refl _ _).alloc (Nat.le_refl _) _).alloc (by simp) _
  have hrow0 : W.rowIs w.heap.size 26 2 (fun _ => .slice none 0 0) := by
    rw [hW]
    exact (World.rowIs_alloc w #[.slice none 0 0, .slice none 0 0] _ _ (fun i hi => by have : i = 0 ∨ i = 1 := (by simp at hi; omega); rcases this with rfl | rfl <;> rfl)).of_block (Below.heap_alloc _ _ _ (by simp))
  have hrowD : W.rowIs (w.heap.size + 1) 28 4 (fun _ => .int .i64 0) := by
    have := World.rowIs_alloc (w.alloc (.cells #[.slice none 0 0, .slice none 0 0] 26)) #[.int .i64 0, .int .i64 0, .int .i64 0, .int .i64 0] 28 (fun _ => .int .i64 0) (fun i hi => by have : i = 0 ∨ i = 1 ∨ i = 2 ∨ i = 3 := (by simp at hi; omega); rcases this with rfl | rfl | rfl | rfl <;> rfl)
    rw [hW]; rw [World.size_alloc] at this; exact this
  have HI := Lib.hid (h.below hbW)
  have HW := Lib.hid hW
  have HBW := Lib.hid hbW
  have HLT : Hid (w.heap.size + 1 < W.heap.size) := by show _ < _; omega
  clear hW hbW h hz
  go_wp2_with fail
  try rw [← HW.out]
  refine (l20Open a len cap zs W HI.out).mono ?_
  rintro e w1 ⟨rfl, hb1, a1, len1, cap1, zs1, R1⟩
  have HB1 := Lib.hid hb1
  have HR1 := Lib.hid R1
  have hs1 : W.heap.size < w1.heap.size := R1.lt
  have hlt := HLT.out
  have hrow1 := hrow0.of_block (hb1.block _ (by omega))
  have hrowD1 := hrowD.of_block (hb1.block _ (by omega))
  clear hb1 R1 hrow0 hrowD hlt
  go_wp2_with fail
  refine (l20Desk W.heap.size w1 a1 len1 cap1 zs1 0 12 HR1.out (by omega) (by omega) (by omega)).mono ?_
  rintro e w2 ⟨d, TN, cN, TP, cP, p', rfl, k2, R2, hp2, hn, hpl, s1, s2⟩
  have hs2 := k2.size
  have hlt := HLT.out
  obtain ⟨pO, hpO⟩ : ∃ pO, w2.heap.size = pO := ⟨_, rfl⟩
  obtain ⟨w3, hw3⟩ : ∃ w3 : World, w2.alloc (.cells #[.slice TN d.now.length cN, .slice TP d.past.length cP.val] 26) = w3 := ⟨_, rfl⟩
  have hb3 : Below w2.heap.size w2 w3 := by rw [← hw3]; exact (Below.refl _ _).alloc (Nat.le_refl _) _
  have hz3 : w3.heap.size = pO + 1 := by rw [← hw3, ← hpO]; simp
  have hbox3 : w3.rowIs pO 26 2 (fun i => if i = 0 then .slice TN d.now.length cN else .slice TP d.past.length cP.val) := by
    rw [← hw3, ← hpO]
    exact World.rowIs_alloc w2 #[.slice TN d.now.length cN, .slice TP d.past.length cP.val] _ _ (fun i hi => by have : i = 0 ∨ i = 1 := (by simp at hi; omega); rcases this with rfl | rfl <;> rfl)
  have hrow3 := (hrow1.of_block (k2.block _ (by have := hrow1.lt; omega) (by omega))).of_block (hb3.block _ (by omega))
  have hrowD3 := (hrowD1.of_block (k2.block _ (by have := hrowD1.lt; omega) (by omega))).of_block (hb3.block _ (by omega))
  have t1 := s1.keep (w' := w3) (fun b hb => hb3.block b hb.2)
  have t2 := s2.keep (w' := w3) (fun b hb => hb3.block b hb.2)
  have R3 := R2.of_below hb3
  have K3 := (k2.trans (Kept.of_below hb3))
  have e0 := staysT (n := W.heap.size) (R := w.heap.size) (p := pO) (o := 0) (by omega) (by omega) (by omega) (by omega) (show w3.cell? ⟨pO, 0, none⟩ = some (.slice TN d.now.length cN) from hbox3.cell (i := 0) (by omega))
  have e1 := staysT (n := W.heap.size) (R := w.heap.size) (p := pO) (o := 1) (by omega) (by omega) (by omega) (by omega) (show w3.cell? ⟨pO, 1, none⟩ = some (.slice TP d.past.length cP.val) from hbox3.cell (i := 1) (by omega))
  have HROW : Hid (∀ w', Kept W.heap.size w3 w' → w'.rowIs w.heap.size 26 2 (fun _ => .slice none 0 0)) := fun w' hk => hrow3.of_block (hk.block _ (by omega) (by omega))
  have HROD : Hid (∀ w', Kept W.heap.size w3 w' → w'.rowIs (w.heap.size + 1) 28 4 (fun _ => .int .i64 0)) := fun w' hk => hrowD3.of_block (hk.block _ (by omega) (by omega))
  have HT := Lib.hid (And.intro t1 t2)
  have HN := Lib.hid (And.intro hn hpl)
  have HK3 := Lib.hid K3
  have HR3 := Lib.hid R3
  have HZX : Hid ((w.heap.size + 1 < W.heap.size ∧ W.heap.size < w1.heap.size) ∧ (w1.heap.size ≤ w2.heap.size ∧ w2.heap.size < w3.heap.size)) := ⟨⟨hlt, hs1⟩, hs2, by omega⟩
  have HDL := Lib.hid (fun w' hr => l20Deed W.heap.size w' a1 len1 cap1 zs1 p' hr (by omega) TN d.now.length cN (by have := HN.out.1; omega))
  unfold dskV
  clear s1 s2 hb3 k2 R2 hrow1 hrowD1 hbox3 hrow3 hrowD3 t1 t2 K3 R3 hn hlt hs1 hs2 hz3
  go_wp2_with fail
  try rw [hw3]
  try rw [hpO]
  clear hw3 hpO
  have K0 : Kept W.heap.size w3 w3.drew := (Kept.refl _ _).drew
  have R0 : Reader W.heap.size w3.drew a1 len1 cap1 zs1 p' := HR3.out.of_below (Below.refl _ _).drew
  refine wp_region_held_drew (S := fun w' => DrT W.heap.size w.heap.size w3 w') (by kernel_rfl) (DrT.kept K0) (fun hHeld => ?_)
  clear hHeld
  generalize w3.drew = D0 at K0 R0 ⊢
  have hHeld : DrT W.heap.size w.heap.size w3 D0 := DrT.kept K0
  refine wpAnyH_take (i := 0) (v := ?v1) rfl (by kernel_rfl) (by kernel_rfl) (by kernel_rfl) (fun _ _ _ h => h) (Or.inl ⟨by rfl, ?y1⟩) (by assumption) ?z1
  case y1 => (intro w hSw; go_simp; first | done | with_reducible rfl)
  try simp only [List.getElem_toArray, List.getElem_cons_succ, List.getElem_cons_zero, Act.put, List.setIfInBounds_toArray, List.set_cons_zero, List.set_cons_succ]
  refine wpAnyH_take (i := 1) (v := ?v2) rfl (by kernel_rfl) (by kernel_rfl) (by kernel_rfl) (fun _ _ _ h => h) (Or.inl ⟨by rfl, ?y2⟩) (by assumption) ?z2
  case y2 => (intro w hSw; go_simp; first | done | with_reducible rfl)
  try simp only [List.getElem_toArray, List.getElem_cons_succ, List.getElem_cons_zero, Act.put, List.setIfInBounds_toArray, List.set_cons_zero, List.set_cons_succ]
  refine wpAnyH_take (i := 2) (v := ?v3) rfl (by kernel_rfl) (by kernel_rfl) (by kernel_rfl) (fun _ _ _ h => h) (Or.inl ⟨by rfl, ?y3⟩) (by assumption) ?z3
  case y3 => (intro w hSw; go_simp; first | done | with_reducible rfl)
  try simp only [List.getElem_toArray, List.getElem_cons_succ, List.getElem_cons_zero, Act.put, List.setIfInBounds_toArray, List.set_cons_zero, List.set_cons_succ]
  refine wpAnyH_take (i := 3) (v := ?v4) rfl (by kernel_rfl) (by kernel_rfl) (by kernel_rfl) (fun _ _ _ h => h) (Or.inl ⟨by rfl, ?y4⟩) (by assumption) ?z4
  case y4 => (intro w hSw; go_simp; first | done | with_reducible rfl)
  try simp only [List.getElem_toArray, List.getElem_cons_succ, List.getElem_cons_zero, Act.put, List.setIfInBounds_toArray, List.set_cons_zero, List.set_cons_succ]
  refine wpAnyH_ready (rs := [4]) (by kernel_rfl) (by simp) ?_
  refine AllReadyH.cons rfl (fun K hK => ?_) AllReadyH.nil
  go_simp
  refine (HDL.out _ R0).mono ?_
  rintro e D1 ⟨⟨kd, rr, cc, nn⟩, p5, rfl, k5, R5, hp5⟩
  unfold ddV
  have K1 : Kept W.heap.size w3 D1 := K0.trans k5
  have S1 : DrT W.heap.size w.heap.size w3 D1 := DrT.kept K1
  refine hK.out _ _ S1 (fun hHeld => ?_)
  clear hK K
  try simp only [List.getElem_toArray, List.getElem_cons_succ, List.getElem_cons_zero, Act.put, List.setIfInBounds_toArray, List.set_cons_zero, List.set_cons_succ]
  refine wpAnyH_ready (rs := [5]) (by kernel_rfl) (by simp) ?_
  refine AllReadyH.cons rfl (fun K hK => ?_) AllReadyH.nil
  have hr := HROW.out D1 K1
  have PC0 := hr.cell (i := 0) (by omega)
  have PC1 := hr.cell (i := 1) (by omega)
  have PF0 := hr.frozen 0
  have PF1 := hr.frozen 1
  go_simp
  obtain ⟨r0, r1, rz, rb⟩ := box_put (.slice TN d.now.length cN) (.slice TP d.past.length cP.val) PC0 PC1
  have S2 := ((S1.set 0 (.slice TN d.now.length cN)).set 1 (.slice TP d.past.length cP.val))
  clear PC0 PC1 PF0 PF1
  obtain ⟨V, hV⟩ : ∃ V : World, V = ((D1.setCell ⟨w.heap.size, 0, none⟩ (.slice TN d.now.length cN)).setCell ⟨w.heap.size, 1, none⟩ (.slice TP d.past.length cP.val)) := ⟨_, rfl⟩
  rw [← hV] at r0 r1 rz rb S2 ⊢
  have HV := Lib.hid hV
  clear hV
  refine hK.out _ _ S2 (fun hHeld => ?_)
  clear hK K
  try simp only [List.getElem_toArray, List.getElem_cons_succ, List.getElem_cons_zero, Act.put, List.setIfInBounds_toArray, List.set_cons_zero, List.set_cons_succ]
  refine wpAnyH_ready (rs := [6]) (by kernel_rfl) (by simp) ?_
  refine AllReadyH.cons rfl (fun K hK => ?_) AllReadyH.nil
  have hd := (HROD.out D1 K1).of_block (rb _ (by omega))
  have QC0 := hd.cell (i := 0) (by omega)
  have QC1 := hd.cell (i := 1) (by omega)
  have QC2 := hd.cell (i := 2) (by omega)
  have QC3 := hd.cell (i := 3) (by omega)
  have QF0 := hd.frozen 0
  have QF1 := hd.frozen 1
  have QF2 := hd.frozen 2
  have QF3 := hd.frozen 3
  go_simp
  have S3 := ((((S2.set' 0 (.int .i64 kd)).set' 1 (.int .i64 rr)).set' 2 (.int .i64 cc)).set' 3 (.int .i64 nn))
  refine hK.out _ _ S3 (fun hHeld => ?_)
  clear hK K
  try simp only [List.getElem_toArray, List.getElem_cons_succ, List.getElem_cons_zero, Act.put, List.setIfInBounds_toArray, List.set_cons_zero, List.set_cons_succ]
  refine wpAnyH_done (by kernel_rfl) ?_ _
  go_wp2_with fail
  obtain ⟨⟨y1, y2⟩, y3, y4⟩ := HZX.out
  have hk := HK3.out.trans K1
  have hs5 := K1.size
  have hbV : Below w.heap.size w V := by rw [HV.out]; exact below_put (HBW.out.trans ((HB1.out.trans (hk.below (Nat.le_refl _) HB1.out.size)).mono (by omega))) (Nat.le_refl w.heap.size) (.slice TN d.now.length cN) (.slice TP d.past.length cP.val)
  obtain ⟨q0, q1, q2, q3⟩ := put4 (.int .i64 kd) (.int .i64 rr) (.int .i64 cc) (.int .i64 nn) QC0 QC1 QC2 QC3
  obtain ⟨F, hF⟩ : ∃ F : World, F = ((((V.setCell ⟨w.heap.size + 1, 0, none⟩ (.int .i64 kd)).setCell ⟨w.heap.size + 1, 1, none⟩ (.int .i64 rr)).setCell ⟨w.heap.size + 1, 2, none⟩ (.int .i64 cc)).setCell ⟨w.heap.size + 1, 3, none⟩ (.int .i64 nn)) := ⟨_, rfl⟩
  rw [← hF] at q0 q1 q2 q3 ⊢
  have hbF : Below w.heap.size w F := by rw [hF]; exact (((hbV.setCell (p := ⟨w.heap.size + 1, 0, none⟩) (Nat.le_succ _) _).setCell (p := ⟨w.heap.size + 1, 1, none⟩) (Nat.le_succ _) _).setCell (p := ⟨w.heap.size + 1, 2, none⟩) (Nat.le_succ _) _).setCell (p := ⟨w.heap.size + 1, 3, none⟩) (Nat.le_succ _) _
  have hez : F.heap.size = D1.heap.size := by rw [hF, World.size_setCell, World.size_setCell, World.size_setCell, World.size_setCell]; exact rz
  have hfr : ∀ b, b ≠ w.heap.size + 1 → F.heap[b]? = V.heap[b]? := fun b hb => by rw [hF]; exact far4 hb _ _ _ _
  have v0 : F.cell? ⟨w.heap.size, 0, none⟩ = some (.slice TN d.now.length cN) := (World.cell?_of_block (w := V) (hfr w.heap.size (by omega))).trans r0
  have v1 : F.cell? ⟨w.heap.size, 1, none⟩ = some (.slice TP d.past.length cP.val) := (World.cell?_of_block (w := V) (hfr w.heap.size (by omega))).trans r1
  have u1 := (HT.out.1.keep (w' := F) (fun b hb => (hfr b (by have := hb.1; omega)).trans ((rb b (by have := hb.1; omega)).trans (K1.block b (by have := hb.2; omega) (by have := hb.1; omega))))).mono (T := fun b => b < F.heap.size) (fun b hb => by show b < _; rw [hez]; have := hb.2; omega)
  have u2 := (HT.out.2.keep (w' := F) (fun b hb => (hfr b (by have := hb.1; omega)).trans ((rb b (by have := hb.1; omega)).trans (K1.block b (by have := hb.2; omega) (by have := hb.1; omega))))).mono (T := fun b => b < F.heap.size) (fun b hb => by show b < _; rw [hez]; have := hb.2; omega)
  exact bodyPost_ret (v := .tuple #[dskV TN d.now.length cN TP d.past.length cP.val, ddV ⟨kd, rr, cc, nn⟩]) (by simp [results, dskV, ddV, Tryz.results4, go_sem, v0, v1, q0, q1, q2, q3]) rfl ⟨d, TN, cN, TP, cP, ⟨kd, rr, cc, nn⟩, rfl, hbF, HN.out.1, HN.out.2, u1, u2⟩

end Go.Proofs.YtlmaeadbomnhlaaGreat
