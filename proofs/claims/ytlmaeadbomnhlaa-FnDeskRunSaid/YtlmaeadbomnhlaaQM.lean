/- Texts in one: RunI, Impl12R. -/
import Derived.Test.YtlmaeadbomnhlaaQL
import Derived.Test.YtlmaeadbomnhlaaQK
namespace Go.Proofs.Ytlmaeadbomnhlaa
set_option linter.unusedSimpArgs false
set_option linter.unusedVariables false
open Go.RowKit

set_option maxHeartbeats 8000000 in
set_option maxRecDepth 100000 in
theorem deskRun_impl (A B D : Option Addr) (c kk e : Nat) (d : Dk) (l : List Dd) (hx : d.now.length ≤ maxLen) (hy : d.past.length ≤ maxLen) (hl : l.length ≤ 4294967296) (hkk : d.past.length ≤ kk ∧ kk ≤ maxLen) (w : World) (h : Rows2 w (· < w.heap.size) A d.now) (h' : Rows3 w (· < w.heap.size) B d.past) (h2 : Deeds w (· < w.heap.size) D l) :
    Calls Try.prog 23 #[dskV A d.now.length c B d.past.length kk, .slice D l.length e] w (DeskRes w (rnD d l) (.int .i64 (rnN d l : Nat))) := by
  obtain ⟨W, hW⟩ : ∃ W : World, W = (w.alloc (.cells #[.slice A d.now.length c, .slice B d.past.length kk] 37)).alloc (.cells #[.slice none 0 0, .slice none 0 0] 37) := ⟨_, rfl⟩
  have hzW : W.heap.size = w.heap.size + 2 := by rw [hW]; simp
  have hbW : Below w.heap.size w W := by rw [hW]; exact ((Below.refl _ w).alloc (Nat.le_refl _) _).alloc (by simp) _
  have r00 := stays (p := w.heap.size) (o := 0) (by omega) (show W.cell? ⟨w.heap.size, 0, none⟩ = some (.slice A d.now.length c) from by rw [hW]; simp [go_sem])
  have r01 := stays (p := w.heap.size) (o := 1) (by omega) (show W.cell? ⟨w.heap.size, 1, none⟩ = some (.slice B d.past.length kk) from by rw [hW]; simp [go_sem])
  have r10 := stays (p := w.heap.size + 1) (o := 0) (by omega) (show W.cell? ⟨w.heap.size + 1, 0, none⟩ = some (.slice none 0 0) from by rw [hW]; simp [go_sem])
  have g10 := staysF (p := w.heap.size + 1) (o := 0) (by omega) (show W.frozen? ⟨w.heap.size + 1, 0, none⟩ = false from by rw [hW]; simp [go_sem])
  have r11 := stays (p := w.heap.size + 1) (o := 1) (by omega) (show W.cell? ⟨w.heap.size + 1, 1, none⟩ = some (.slice none 0 0) from by rw [hW]; simp [go_sem])
  have g11 := staysF (p := w.heap.size + 1) (o := 1) (by omega) (show W.frozen? ⟨w.heap.size + 1, 1, none⟩ = false from by rw [hW]; simp [go_sem])
  have HR : Hid (∀ w', Below W.heap.size W w' → Rows2 w' (· < w'.heap.size) A d.now ∧ Rows3 w' (· < w'.heap.size) B d.past) := fun w' hb => ⟨(keepRows (belT hbW hb) h).lt (belT hbW hb).size, (keepTabs (belT hbW hb) h').mono fun b hb' => Nat.lt_of_lt_of_le hb' (belT hbW hb).size⟩
  have HOK := Lib.hid (deskOk_impl A B c kk d hx hy W (HR.out W (Below.refl _ _)).1 (HR.out W (Below.refl _ _)).2)
  have HD := Lib.hid h2
  have HW := Lib.hid hW.symm
  have HBW := Lib.hid hbW
  have HZW := Lib.hid hzW
  have HKK := Lib.hid hkk
  clear h h' h2 hW hbW hzW hkk
  unfold dskV at HOK ⊢
  rcases hb : rnB d l with _ | _
  · rw [(rn_no hb).1, (rn_no hb).2]
    have HNO : Hid (dkB d = false ∨ ¬ l.length ≤ 40) := by
      unfold rnB at hb
      rcases hx : dkB d with _ | _
      · exact .inl rfl
      · rw [hx] at hb; simp at hb; exact .inr (by omega)
    clear hb hx hy
    have s00 := r00 W (Below.refl _ _)
    have s01 := r01 W (Below.refl _ _)
    go_enter Try.func23, Try.ntmps23
    go_wp2_with fail
    rw [HW.out]
    clear s00 s01
    refine HOK.out.mono ?_
    rintro e w1 ⟨rfl, hb1⟩
    have y0 := r10 _ hb1
    have y1 := r11 _ hb1
    have z0 := g10 _ hb1
    have z1 := g11 _ hb1
    have HB1 := Lib.hid (belT HBW.out hb1)
    clear r00 r01 r10 r11 g10 g11 hb1
    rcases hdk : dkB d with _ | _
    · clear HNO
      go_wp2_with fail
      refine bodyPost_ret (v := .tuple #[.agg #[.slice none 0 0, .slice none 0 0], .int .i64 0]) (by simp [results, Try.results23, go_sem, y0, y1]) rfl ?_
      exact DeskRes.zero (TN := none) (TP := none) rfl ((HB1.out.setCell (p := ⟨w.heap.size + 1, 0, none⟩) (Nat.le_succ _) _).setCell (p := ⟨w.heap.size + 1, 1, none⟩) (Nat.le_succ _) _)
    · have h40 : (40 : Int) < (l.length : Int) := by rcases HNO.out with h | h; rw [hdk] at h; cases h; omega
      clear HNO
      go_wp2_with fail
      refine bodyPost_ret (v := .tuple #[.agg #[.slice none 0 0, .slice none 0 0], .int .i64 0]) (by simp [results, Try.results23, go_sem, y0, y1]) rfl ?_
      exact DeskRes.zero (TN := none) (TP := none) rfl ((HB1.out.setCell (p := ⟨w.heap.size + 1, 0, none⟩) (Nat.le_succ _) _).setCell (p := ⟨w.heap.size + 1, 1, none⟩) (Nat.le_succ _) _)
  · have hdk : dkB d = true := by unfold rnB at hb; rw [Bool.and_eq_true] at hb; exact hb.1
    have h40 : l.length ≤ 40 := by unfold rnB at hb; rw [Bool.and_eq_true, decide_eq_true_eq] at hb; exact hb.2
    have h40i : ¬ (40 : Int) < (l.length : Int) := by omega
    have HRY := Lib.hid (rn_yes hb)
    have HDK := Lib.hid hdk
    rw [hdk] at HOK
    clear hb hx hy hdk
    have s00 := r00 W (Below.refl _ _)
    have s01 := r01 W (Below.refl _ _)
    go_enter Try.func23, Try.ntmps23
    go_wp2_with fail
    rw [HW.out]
    clear s00 s01
    refine HOK.out.mono ?_
    rintro e w1 ⟨rfl, hb1⟩
    have q0 := r00 _ hb1
    have q1 := r01 _ hb1
    have HB1 := Lib.hid hb1
    have HC1 := Lib.hid (copyI_own A B c kk d HDK.out HKK.out w1 (HR.out w1 hb1).1 (HR.out w1 hb1).2)
    clear r00 r01 hb1
    go_wp2_with fail
    refine HC1.out.mono ?_
    rintro e w2 ⟨TN, cN, TP, cP, rfl, hb2, ho2⟩
    have HB2 := Lib.hid (HB1.out.trans (hb2.mono HB1.out.size))
    have HO2 := Lib.hid ho2
    have hw1s := HB1.out.size
    clear hb2 ho2 q0 q1
    go_wp2_with fail
    obtain ⟨V0, hV0⟩ : ∃ V0 : World, w2.alloc (.cells #[.slice TN d.now.length cN, .slice TP d.past.length cP] 37) = V0 := ⟨_, rfl⟩
    have HA0 : Hid (RunAt W V0 w2.heap.size (runK d l 0)) := by
      have hb : Below w2.heap.size w2 V0 := by rw [← hV0]; exact (Below.refl _ _).alloc (Nat.le_refl _) _
      refine ⟨HB2.out.trans (hb.mono HB2.out.size), TN, cN, TP, cP, w1.heap.size, w2.heap.size, ?_, HO2.out.keep (fun b _ h2 => hb.block b h2), hw1s, hb.size, .inl (Nat.le_refl _), cP.lo, cP.hi⟩
      rw [← hV0]
      exact World.rowIs_alloc w2 #[.slice TN d.now.length cN, .slice TP d.past.length cP] _ _ (fun i hi => by have : i = 0 ∨ i = 1 := (by simp at hi; omega); rcases this with rfl | rfl <;> rfl)
    have HPO : Hid (W.heap.size ≤ w2.heap.size) := HB2.out.size
    obtain ⟨pO, hpO⟩ : ∃ pO, w2.heap.size = pO := ⟨_, rfl⟩
    rw [hpO] at HA0 HPO
    rw [hV0, hpO]
    clear hV0 hpO HO2 HB2 HC1 HB1 hw1s HOK
    go_loopw [7, 28] (fun nv kv wr => ∃ k : Nat, k ≤ l.length ∧ kv = .int .i64 (k : Nat) ∧ nv = .int .i64 (runC d l k : Nat) ∧ Hid (RunAt W wr pO (runK d l k))) (fun _ kv _ => l.length - (intOf kv).toNat)
    case atStart => exact ⟨0, Nat.zero_le _, rfl, rfl, HA0⟩
    case round =>
      clear HA0
      obtain ⟨k, hk, rfl, rfl, HA⟩ := hrel
      obtain ⟨TN, cN, TP, cP, lo, hi, hrow, hown, hlo, hhi, hap, hcap1, hcap2⟩ := HA.out.ex
      have HCP : Hid ((runK d l k).past.length ≤ cP ∧ cP ≤ maxLen) := ⟨hcap1, hcap2⟩
      clear hcap1 hcap2
      have hpl := hrow.lt
      have hrc := runC_le d l k
      by_cases hlt : k < l.length
      · have hst := run_step d l hlt
        have hok := runK_ok HDK.out l k
        obtain ⟨bd, od, rfl, hbd, hcd⟩ := (HD.out.below (belT HBW.out HA.out.bel)) (by omega)
        obtain ⟨c0, c1, c2, c3⟩ := hcd k hlt
        obtain ⟨dk, hdk⟩ : ∃ dk, runK d l k = dk := ⟨_, rfl⟩
        obtain ⟨nk, hnk⟩ : ∃ nk, runC d l k = nk := ⟨_, rfl⟩
        obtain ⟨⟨kd, rr, cc, nn⟩, ha⟩ : ∃ a, ddAt l k = a := ⟨_, rfl⟩
        rw [hdk] at hst hok hrow hown HCP
        rw [ha] at hst c0 c1 c2 c3
        rw [hnk] at hst hrc ⊢
        simp only at c0 c1 c2 c3
        have hbl : bd < wr.heap.size := by have := HA.out.bel.size; have := HBW.out.size; omega
        have e0 : ∀ o, (wr.alloc o).cell? ⟨pO, 0, none⟩ = some (.slice TN dk.now.length cN) := fun o => (World.cell?_alloc_lt _ _ _ hpl).trans (show wr.cell? ⟨pO, 0, none⟩ = some (.slice TN dk.now.length cN) from hrow.cell (i := 0) (by omega))
        have e1 : ∀ o, (wr.alloc o).cell? ⟨pO, 1, none⟩ = some (.slice TP dk.past.length cP) := fun o => (World.cell?_alloc_lt _ _ _ hpl).trans (show wr.cell? ⟨pO, 1, none⟩ = some (.slice TP dk.past.length cP) from hrow.cell (i := 1) (by omega))
        have HROW : Hid (∀ wx, Below wr.heap.size wr wx → wx.rowIs pO 37 2 (fun i => if i = 0 then .slice TN dk.now.length cN else .slice TP dk.past.length cP)) := fun wx hb => hrow.of_block (hb.block _ hpl)
        have HDO : Hid (∀ w', Below wr.heap.size wr w' → Calls Try.prog 43 #[.agg #[.slice TN dk.now.length cN, .slice TP dk.past.length cP], .agg #[.int .i64 kd, .int .i64 rr, .int .i64 cc, .int .i64 nn]] w' fun e w'' => ∃ (TN' : Option Addr) (cN' : Nat) (TP' : Option Addr) (cP' : CapN (aftD dk ⟨kd, rr, cc, nn⟩).past.length), e = .returned (.tuple #[.agg #[.slice TN' (aftD dk ⟨kd, rr, cc, nn⟩).now.length cN', .slice TP' (aftD dk ⟨kd, rr, cc, nn⟩).past.length cP'], .bool (canB dk ⟨kd, rr, cc, nn⟩)]) ∧ Below w'.heap.size w' w'' ∧ DeskOwn w'' w'.heap.size w''.heap.size TN' TP' (aftD dk ⟨kd, rr, cc, nn⟩)) := fun w' hb => by
          have h2 := (hown.keep (fun b _ h2 => hb.block b (by omega))).two (Nat.le_trans hhi hb.size)
          exact after_own TN TP cN cP dk ⟨kd, rr, cc, nn⟩ hok HCP.out w' h2.1 h2.2
        have HOWN := Lib.hid hown
        have HLH := Lib.hid (And.intro hlo (And.intro hhi hap))
        have HST := Lib.hid hst
        have HKN : Hid (dkB dk = true) := hok
        have HBL := Lib.hid HA.out.bel
        have hki : (k : Int) < (l.length : Int) := by omega
        have hw1 : IntKind.i64.wrap ((k : Int) + 1) = (k : Int) + 1 := IntWalk.i64_in _ ⟨by omega, by omega⟩
        have hw2 : IntKind.i64.wrap ((nk : Int) + 1) = (nk : Int) + 1 := IntWalk.i64_in _ ⟨by omega, by omega⟩
        have HPL := Lib.hid hpl
        have HAF : Hid (canB dk ⟨kd, rr, cc, nn⟩ = true → doD dk ⟨kd, rr, cc, nn⟩ = aftD dk ⟨kd, rr, cc, nn⟩) := fun h => (aft_yes h).symm
        have HSY : Hid (canB dk ⟨kd, rr, cc, nn⟩ = false → doD dk ⟨kd, rr, cc, nn⟩ = dk) := fun h => do_stay HKN.out h
        obtain ⟨dx, hdx⟩ : ∃ dx, doD dk ⟨kd, rr, cc, nn⟩ = dx := ⟨_, rfl⟩
        obtain ⟨dn, hdn⟩ : ∃ dn, aftD dk ⟨kd, rr, cc, nn⟩ = dn := ⟨_, rfl⟩
        obtain ⟨cb, hcb⟩ : ∃ cb, canB dk ⟨kd, rr, cc, nn⟩ = cb := ⟨_, rfl⟩
        rw [hdx, hdn, hcb] at HAF
        rw [hdx, hcb] at HSY
        rw [hdx, hcb] at HST
        rw [hdn, hcb] at HDO
        clear hst hok hown hlo hhi hap hrow hrc hcd hdk hnk ha hpl hdn hcb hdx HA hbd hbl
        go_wp2_with fail
        obtain ⟨w1, hw1'⟩ : ∃ w1, wr.alloc (.cells #[.int .i64 kd, .int .i64 rr, .int .i64 cc, .int .i64 nn] 69) = w1 := ⟨_, rfl⟩
        have hb1 : Below wr.heap.size wr w1 := by rw [← hw1']; exact (Below.refl _ _).alloc (Nat.le_refl _) _
        have HB1 := Lib.hid hb1
        rw [hw1']
        clear hw1' hb1 e0 e1 c0 c1 c2 c3
        refine (HDO.out w1 HB1.out).mono ?_
        rintro e w2 ⟨TN5, cN5, TP5, cP5, rfl, hb2, ho2⟩
        have HBX : Hid (∀ o, Below wr.heap.size wr (w2.alloc o)) := fun o => (belT HB1.out hb2).alloc (belT HB1.out hb2).size o
        have HOW5 := Lib.hid ho2
        have HS2 : Hid (wr.heap.size ≤ w1.heap.size ∧ w1.heap.size ≤ w2.heap.size) := ⟨HB1.out.size, hb2.size⟩
        have y0 : ∀ o, (w2.alloc o).cell? ⟨pO, 0, none⟩ = some (.slice TN dk.now.length cN) := fun o => (HROW.out _ (HBX.out o)).cell (i := 0) (by omega)
        have y1 : ∀ o, (w2.alloc o).cell? ⟨pO, 1, none⟩ = some (.slice TP dk.past.length cP) := fun o => (HROW.out _ (HBX.out o)).cell (i := 1) (by omega)
        have z0 : ∀ o, (w2.alloc o).frozen? ⟨pO, 0, none⟩ = false := fun o => (HROW.out _ (HBX.out o)).frozen 0
        have z1 : ∀ o, (w2.alloc o).frozen? ⟨pO, 1, none⟩ = false := fun o => (HROW.out _ (HBX.out o)).frozen 1
        clear hb2 ho2
        rcases hcb : cb with _ | _
        · have hdx : dx = dk := HSY.out hcb
          rw [hcb] at HST
          have HN : Hid (∀ o, RunAt W (w2.alloc o) pO (runK d l (k + 1))) := fun o => by
            rw [HST.out.1, hdx]
            have hbx := HBX.out o
            exact ⟨HBL.out.trans (hbx.mono HBL.out.size), TN, cN, TP, cP, lo, hi, HROW.out _ hbx, HOWN.out.keep (fun b _ h2 => hbx.block b (by have := HLH.out.2.1; omega)), HLH.out.1, Nat.le_trans HLH.out.2.1 hbx.size, HLH.out.2.2, HCP.out.1, HCP.out.2⟩
          have HC : Hid (runC d l (k + 1) = nk) := by show _ = _; rw [HST.out.2]; simp
          clear hdx hcb
          go_wp2_with fail
          first
            | exact ⟨⟨k + 1, hlt, by first | rfl | simp, by rw [HC.out], HN.out _⟩, by simp [intOf]; omega⟩
            | (go_roundw
               case rel => exact ⟨k + 1, hlt, by go_num, by rw [HC.out], HN.out _⟩
               case measure => simp [intOf]; omega)
        · have hdx : dx = dn := HAF.out hcb
          rw [hcb] at HST
          have HN : Hid (∀ o, RunAt W (((w2.alloc o).setCell ⟨pO, 0, none⟩ (.slice TN5 dn.now.length cN5)).setCell ⟨pO, 1, none⟩ (.slice TP5 dn.past.length cP5)) pO (runK d l (k + 1))) := fun o => by
            rw [HST.out.1, hdx]
            have hbx := HBX.out o
            have hs := HS2.out
            have hp := HPL.out
            refine ⟨((HBL.out.trans (hbx.mono HBL.out.size)).setCell (p := ⟨pO, 0, none⟩) HPO.out _).setCell (p := ⟨pO, 1, none⟩) HPO.out _, TN5, cN5, TP5, cP5, w1.heap.size, w2.heap.size, desk_row (HROW.out _ hbx) _ _, HOW5.out.keep (fun b h1 h2 => (far2 (by omega) _ _).trans (Below.heap_alloc _ _ _ h2)), ?_, by simp [World.setCell], .inr (by omega), cP5.lo, cP5.hi⟩
            have := HBL.out.size; omega
          have HC : Hid (runC d l (k + 1) = nk + 1) := by show _ = _; rw [HST.out.2]; simp
          clear hdx hcb
          go_wp2_with fail
          first
            | exact ⟨⟨k + 1, hlt, by first | rfl | simp, by rw [HC.out]; first | rfl | simp, HN.out _⟩, by simp [intOf]; omega⟩
            | (go_roundw
               case rel => exact ⟨k + 1, hlt, by go_num, by rw [HC.out]; go_num, HN.out _⟩
               case measure => simp [intOf]; omega)
      · have hkl : k = l.length := by omega
        rw [hkl] at hrow hown ⊢
        obtain ⟨dk, hdk⟩ : ∃ dk, runK d l l.length = dk := ⟨_, rfl⟩
        obtain ⟨nk, hnk⟩ : ∃ nk, runC d l l.length = nk := ⟨_, rfl⟩
        rw [hkl, hdk] at HCP
        rw [hdk] at hrow hown
        rw [hnk]
        have HRD : Hid (rnD d l = dk ∧ rnN d l = nk) := by have := HRY.out; rw [hdk, hnk] at this; exact this
        have x0 : wr.cell? ⟨pO, 0, none⟩ = some (.slice TN dk.now.length cN) := hrow.cell (i := 0) (by omega)
        have x1 : wr.cell? ⟨pO, 1, none⟩ = some (.slice TP dk.past.length cP) := hrow.cell (i := 1) (by omega)
        have y0 := r10 _ HA.out.bel
        have y1 := r11 _ HA.out.bel
        have z0 := g10 _ HA.out.bel
        have z1 := g11 _ HA.out.bel
        have HBL := Lib.hid (belT HBW.out HA.out.bel)
        have HOWN := Lib.hid hown
        have HLL : Hid (W.heap.size ≤ lo ∧ hi ≤ wr.heap.size ∧ W.heap.size = w.heap.size + 2) := ⟨hlo, hhi, HZW.out⟩
        have hnl : ¬ (k : Int) < (l.length : Int) := by omega
        clear hrow hown hlo hhi hap hrc hdk hnk HA r10 r11 g10 g11 hpl hkl
        obtain ⟨R, hR⟩ : ∃ R, w.heap.size + 1 = R := ⟨_, rfl⟩
        rw [hR] at y0 y1 z0 z1 ⊢
        have HRR : Hid (w.heap.size + 1 = R) := hR
        clear hR
        go_wp2_with fail
        refine bodyPost_ret (v := .tuple #[.agg #[.slice TN dk.now.length cN, .slice TP dk.past.length cP], .int .i64 (nk : Nat)]) (by simp [results, Try.results23, go_sem, y0, y1]) rfl ?_
        rw [HRD.out.1, HRD.out.2]
        have hr1 := HRR.out
        have hr2 := HLL.out
        have hfin := (HBL.out.setCell (p := ⟨R, 0, none⟩) (show w.heap.size ≤ R by omega) (.slice TN dk.now.length cN)).setCell (p := ⟨R, 1, none⟩) (show w.heap.size ≤ R by omega) (.slice TP dk.past.length cP)
        obtain ⟨AA, CC, TT, UU, ho⟩ := (HOWN.out.keep (w' := (wr.setCell ⟨R, 0, none⟩ (.slice TN dk.now.length cN)).setCell ⟨R, 1, none⟩ (.slice TP dk.past.length cP)) (fun b h1 h2 => far2 (by omega) _ _)).more (lo' := w.heap.size) (hi' := ((wr.setCell ⟨R, 0, none⟩ (.slice TN dk.now.length cN)).setCell ⟨R, 1, none⟩ (.slice TP dk.past.length cP)).heap.size) (by omega) (by simp [World.setCell]; omega)
        exact ⟨TN, cN, TP, ⟨cP, HCP.out.1, HCP.out.2⟩, AA, CC, TT, UU, rfl, hfin, ho⟩

end Go.Proofs.Ytlmaeadbomnhlaa

namespace Go.Proofs.Ytlmaeadbomnhlaa
set_option linter.unusedSimpArgs false
set_option linter.unusedVariables false
open Go.RowKit

theorem impl12R : Impl12R where
  run := fun A B D c kk e d l hx hy hl hk w h h' h2 => deskRun_impl A B D c kk e d l hx hy hl hk w h h' h2

end Go.Proofs.Ytlmaeadbomnhlaa
