/- The walk of the law of DeskRun, over contracts of the program's functions. (Written by wip/gen/law12r.py.) -/
import Derived.Test.YtlmaeadbomnhlaaQK
import Derived.Test.YtlmaeadbomnhlaaLawJc
import Derived.Test.YtlmaeadbomnhlaaQF
import Derived.Test.YtlmaeadbomnhlaaRF
namespace Go.Proofs.Ytlmaeadbomnhlaa
set_option linter.unusedSimpArgs false
set_option linter.unusedVariables false
open Go.RowKit

theorem Deeds.take_ {w : World} {S : Nat → Prop} {A : Option Addr} {l : List Dd} (h : Deeds w S A l) (k : Nat) : Deeds w S A (l.take k) := fun h0 => by
  have hk : 0 < l.length := by rw [List.length_take] at h0; omega
  obtain ⟨b, off, e, hb, hc⟩ := h hk
  refine ⟨b, off, e, hb, fun i hi => ?_⟩
  have hi2 : i < l.length := by rw [List.length_take] at hi; omega
  have ea : ddAt (l.take k) i = ddAt l i := by rw [ddAt_eq _ _ hi, ddAt_eq _ _ hi2, List.getElem_take]
  rw [ea]; exact hc i hi2

theorem Deeds.drop_ {w : World} {S : Nat → Prop} {b off : Nat} {l : List Dd} (h : Deeds w S (some ⟨b, off, none⟩) l) (k : Nat) : Deeds w S (some ⟨b, off + k * 4, none⟩) (l.drop k) := fun h0 => by
  have hk : k < l.length := by rw [List.length_drop] at h0; omega
  obtain ⟨b', off', e, hb, hc⟩ := h (by omega)
  injection e with e; injection e with e1 e2; subst e1 e2
  refine ⟨b, off + k * 4, rfl, hb, fun i hi => ?_⟩
  have hi2 : k + i < l.length := by rw [List.length_drop] at hi; omega
  have ea : ddAt (l.drop k) i = ddAt l (k + i) := by rw [ddAt_eq _ _ hi, ddAt_eq _ _ hi2, List.getElem_drop]
  rw [ea, show off + k * 4 + i * 4 = off + (k + i) * 4 by omega]; exact hc (k + i) hi2

theorem slice_front (TL : Option Addr) (n c h : Nat) (hh : h ≤ n) (hc : n ≤ c) : ∃ A1 : Option Addr, (∀ w, (Instr.slice 44 (.slice TL n c) none (some (.int .i64 (h : Nat))) none).run Try.prog w = .ok (.slice A1 h c) w) ∧
    ∀ (w : World) (S : Nat → Prop) (l : List Dd), l.length = n → Deeds w S TL l → Deeds w S A1 (l.take h) := by
  have he : Try.prog.elem 44 = 69 := by kernel_rfl
  refine ⟨if c = 0 then TL else TL.map (·.add (0 * 4)), fun w => ?_, fun w S l hl hd => ?_⟩
  · rw [run_slice_h w 44 TL n c (by rw [he]; exact Try.underlying44) .i64 h (by omega) (by omega), he]
    simp [sliced, go_sem]
  · intro h0
    have hk : 0 < l.length := by rw [List.length_take] at h0; omega
    obtain ⟨b, off, rfl, _⟩ := hd hk
    have := hd.take_ h h0
    rw [if_neg (by omega)]
    simpa [Addr.add] using this

theorem slice_back (TL : Option Addr) (n c h : Nat) (hh : h ≤ n) (hc : n ≤ c) : ∃ A1 : Option Addr, (∀ w, (Instr.slice 44 (.slice TL n c) (some (.int .i64 (h : Nat))) none none).run Try.prog w = .ok (.slice A1 (n - h) (c - h)) w) ∧
    ∀ (w : World) (S : Nat → Prop) (l : List Dd), l.length = n → Deeds w S TL l → Deeds w S A1 (l.drop h) := by
  have he : Try.prog.elem 44 = 69 := by kernel_rfl
  refine ⟨if c = h then TL else TL.map (·.add (h * 4)), fun w => ?_, fun w S l hl hd => ?_⟩
  · rw [run_slice_l w 44 TL n c (by rw [he]; exact Try.underlying44) .i64 h (by omega) (by omega), he]
    simp [sliced, go_sem]
  · intro h0
    have hk : h < l.length := by rw [List.length_drop] at h0; omega
    obtain ⟨b, off, rfl, _⟩ := hd (by omega)
    have := hd.drop_ h h0
    have e : Addr.add ⟨b, off, none⟩ (h * 4) = ⟨b, off + h * 4, none⟩ := by unfold Addr.add; first | rfl | (split <;> simp_all)
    rw [if_neg (by omega), Option.map_some, e]
    exact this

theorem rn_parts {d : Dk} {l : List Dd} (h : rnB d l = true) (k : Nat) : rnD (rnD d (l.take k)) (l.drop k) = rnD d l ∧ rnN d (l.take k) + rnN (rnD d (l.take k)) (l.drop k) = rnN d l := by
  unfold rnB at h; rw [Bool.and_eq_true, decide_eq_true_eq] at h
  have h1 : rnB d (l.take k) = true := by unfold rnB; rw [h.1, Bool.true_and, decide_eq_true_eq, List.length_take]; omega
  have e1 : rnD d (l.take k) = runD d (l.take k) := by unfold rnD; rw [if_pos h1]
  have n1 : rnN d (l.take k) = runN d (l.take k) := by unfold rnN; rw [if_pos h1]
  have h2 : rnB (runD d (l.take k)) (l.drop k) = true := by unfold rnB; rw [run_ok h.1, Bool.true_and, decide_eq_true_eq, List.length_drop]; omega
  have h3 : rnB d l = true := by unfold rnB; rw [h.1, Bool.true_and, decide_eq_true_eq]; exact h.2
  rw [e1, n1]
  unfold rnD rnN
  rw [if_pos h2, if_pos h2, if_pos h3, if_pos h3]
  have := run_app d (l.take k) (l.drop k)
  rw [List.take_append_drop] at this
  exact ⟨this.1.symm, this.2.symm⟩

theorem rn_le (d : Dk) (l : List Dd) : rnN d l ≤ l.length := by
  rcases h : rnB d l with _ | _
  · rw [(rn_no h).2]; omega
  · rw [(rn_yes h).2]; exact runC_le d l _

theorem rn_ok {d : Dk} {l : List Dd} (h : rnB d l = true) : dkB (rnD d l) = true := by
  have hk : dkB d = true := by unfold rnB at h; rw [Bool.and_eq_true] at h; exact h.1
  unfold rnD; rw [if_pos h]; exact run_ok hk l

set_option maxHeartbeats 8000000 in
set_option maxRecDepth 100000 in
theorem wFnDeskRun (I : Impl12R) (J : Impl12O) (a : Option Addr) (len cap : Nat) (zs : List Int) (w : World) (h : IsRow .u8 w a len cap zs) :
    Calls Try.prog 6 #[.slice a len cap] w fun e w' => e = .returned (.bool true) ∧ Below w.heap.size w w' := by
  have hle := byte_len h
  by_cases hbig : (1048576 : Int) < (len : Int)
  · go_enter Try.func6, Try.ntmps6
    go_wp2_with fail
    go_ret
    exact ⟨rfl, Below.refl _ _⟩
  go_enter Try.func6, Try.ntmps6
  go_wp2_with fail
  refine (dDrawDeskRun a len cap zs w h).mono ?_
  rintro e w1 ⟨d, TN, cN, TP, cP, l, TL, cL, rfl, B1, hn, hp, hl, hcL, s1, s2, s3⟩
  clear hbig hle
  have hx : d.now.length ≤ maxLen := by unfold maxLen; omega
  have hy : d.past.length ≤ maxLen := by unfold maxLen; omega
  have hl4 : l.length ≤ 4294967296 := by omega
  have D0 : Hid (RdD w1 w1.heap.size TN TP d) := ⟨s1, s2⟩
  have LL := Lib.hid s3
  have BEL0 := Lib.hid B1
  have HSR := Lib.hid (run_small d l)
  have HHY := Lib.hid (And.intro (And.intro hx hy) (And.intro hl hcL))
  have hsp := fun A B D c k e w' h1 h2 h3 => deskRun_spec A B D c k e d l hx hy hl4 w' h1 h2 h3
  have him := fun A B D c k e hk w' h1 h2 h3 => I.run A B D c k e d l hx hy hl4 hk w' h1 h2 h3
  obtain ⟨xd, hxd⟩ : ∃ x, rnD d l = x := ⟨_, rfl⟩
  obtain ⟨n, hnn⟩ : ∃ x, rnN d l = x := ⟨_, rfl⟩
  have HNM := Lib.hid (And.intro hxd hnn)
  rw [hxd] at HSR
  rw [hxd, hnn] at hsp him
  have hnl : n ≤ 41 := by rw [← hnn]; have := rn_le d l; omega
  unfold dskV at hsp him ⊢
  have HSP := Lib.hid hsp
  have HIM := Lib.hid him
  have HL1 : Hid (xd.now.length ≤ maxLen) := by have := HSR.out.now; show _ ≤ _; unfold maxLen; omega
  have HL2 : Hid (xd.past.length ≤ maxLen) := by have := HSR.out.past; show _ ≤ _; unfold maxLen; omega
  have zB : ((n : Int) != (n : Int)) = false := by simp
  clear hsp him hxd hnn B1 s1 s2 s3 hx hy hcL
  have le_w1 : w1.heap.size ≤ w1.heap.size := Nat.le_refl _
  go_wp2_with fail
  obtain ⟨WBD, hWBD⟩ : ∃ WBD : World, WBD = w1.alloc (.cells #[.slice TN d.now.length cN, .slice TP d.past.length cP.val] 37) := ⟨_, rfl⟩
  have hbWBD : Below w1.heap.size w1 WBD := by rw [hWBD]; exact (Below.refl _ _).alloc (Nat.le_refl _) _
  have BD : Hid (BoxD WBD w1.heap.size (.slice TN d.now.length cN) (.slice TP d.past.length cP.val)) := by show BoxD _ _ _ _; rw [hWBD]; exact BoxD.new _ _ _
  have bzBD : w1.heap.size < WBD.heap.size := by rw [hWBD]; simp
  rw [← hWBD]
  clear hWBD
  replace D0 := Lib.hid (keepDk (hbWBD.mono le_w1) D0.out)
  replace LL := Lib.hid (keepDd (hbWBD.mono le_w1) LL.out)
  replace le_w1 := Nat.le_trans le_w1 hbWBD.size
  replace BEL0 := Lib.hid (belT BEL0.out hbWBD)
  have o_w1_WBD : w1.heap.size ≤ WBD.heap.size := le_w1
  have le_WBD : WBD.heap.size ≤ WBD.heap.size := Nat.le_refl _
  clear hbWBD
  have cBD0 := BD.out.c0
  have cBD1 := BD.out.c1
  have ltBD := BD.out.lt
  go_wp2_with fail
  refine (HIM.out _ _ _ _ _ _ cP.two _ (D0.out.lt le_w1).n (D0.out.lt le_w1).p (LL.out.lt le_w1)).mono ?_
  rintro e w2 ⟨TX1, cX1, TX2, cX2, AX, CX, UX, KX, rfl, hb2, ho2⟩
  unfold dskV
  have X := Lib.hid ho2.lt
  clear cBD0 cBD1 ltBD
  replace BD := Lib.hid (BD.out.still hb2)
  replace D0 := Lib.hid (keepDk (hb2.mono le_w1) D0.out)
  replace LL := Lib.hid (keepDd (hb2.mono le_w1) LL.out)
  replace le_w1 := Nat.le_trans le_w1 hb2.size
  replace le_WBD := Nat.le_trans le_WBD hb2.size
  replace BEL0 := Lib.hid (belT BEL0.out hb2)
  have o_WBD_w2 : WBD.heap.size ≤ w2.heap.size := le_WBD
  have le_w2 : w2.heap.size ≤ w2.heap.size := Nat.le_refl _
  clear hb2 ho2
  have cBD0 := BD.out.c0
  have cBD1 := BD.out.c1
  have ltBD := BD.out.lt
  go_wp2_with fail
  clear cBD0 cBD1 ltBD
  obtain ⟨WBX, hWBX⟩ : ∃ WBX : World, WBX = w2.alloc (.cells #[.slice TX1 xd.now.length cX1, .slice TX2 xd.past.length cX2] 37) := ⟨_, rfl⟩
  have hbWBX : Below w2.heap.size w2 WBX := by rw [hWBX]; exact (Below.refl _ _).alloc (Nat.le_refl _) _
  have BX : Hid (BoxD WBX w2.heap.size (.slice TX1 xd.now.length cX1) (.slice TX2 xd.past.length cX2)) := by show BoxD _ _ _ _; rw [hWBX]; exact BoxD.new _ _ _
  have bzBX : w2.heap.size < WBX.heap.size := by rw [hWBX]; simp
  rw [← hWBX]
  clear hWBX
  replace BD := Lib.hid (BD.out.still hbWBX)
  replace D0 := Lib.hid (keepDk (hbWBX.mono le_w1) D0.out)
  replace LL := Lib.hid (keepDd (hbWBX.mono le_w1) LL.out)
  replace X := Lib.hid (keepDk (hbWBX.mono le_w2) X.out)
  replace le_w1 := Nat.le_trans le_w1 hbWBX.size
  replace le_WBD := Nat.le_trans le_WBD hbWBX.size
  replace le_w2 := Nat.le_trans le_w2 hbWBX.size
  replace BEL0 := Lib.hid (belT BEL0.out hbWBX)
  have o_w2_WBX : w2.heap.size ≤ WBX.heap.size := le_w2
  have le_WBX : WBX.heap.size ≤ WBX.heap.size := Nat.le_refl _
  clear hbWBX
  have cBD0 := BD.out.c0
  have cBD1 := BD.out.c1
  have ltBD := BD.out.lt
  go_wp2_with fail
  refine (HSP.out _ _ _ _ _ _ _ (D0.out.lt le_w1).n (D0.out.lt le_w1).p (LL.out.lt le_w1)).mono ?_
  rintro e w3 ⟨TY1, cY1, TY2, cY2, AY, CY, UY, KY, rfl, hb3, ho3⟩
  unfold dskV
  have Y := Lib.hid ho3.lt
  clear cBD0 cBD1 ltBD
  replace BD := Lib.hid (BD.out.still hb3)
  replace BX := Lib.hid (BX.out.still hb3)
  replace D0 := Lib.hid (keepDk (hb3.mono le_w1) D0.out)
  replace LL := Lib.hid (keepDd (hb3.mono le_w1) LL.out)
  replace X := Lib.hid (keepDk (hb3.mono le_w2) X.out)
  replace le_w1 := Nat.le_trans le_w1 hb3.size
  replace le_WBD := Nat.le_trans le_WBD hb3.size
  replace le_w2 := Nat.le_trans le_w2 hb3.size
  replace le_WBX := Nat.le_trans le_WBX hb3.size
  replace BEL0 := Lib.hid (belT BEL0.out hb3)
  have o_WBX_w3 : WBX.heap.size ≤ w3.heap.size := le_WBX
  have le_w3 : w3.heap.size ≤ w3.heap.size := Nat.le_refl _
  clear hb3 ho3
  have cBX0 := BX.out.c0
  have cBX1 := BX.out.c1
  have ltBX := BX.out.lt
  go_wp2_with fail
  clear cBX0 cBX1 ltBX
  obtain ⟨WBY, hWBY⟩ : ∃ WBY : World, WBY = w3.alloc (.cells #[.slice TY1 xd.now.length cY1, .slice TY2 xd.past.length cY2] 37) := ⟨_, rfl⟩
  have hbWBY : Below w3.heap.size w3 WBY := by rw [hWBY]; exact (Below.refl _ _).alloc (Nat.le_refl _) _
  have BY : Hid (BoxD WBY w3.heap.size (.slice TY1 xd.now.length cY1) (.slice TY2 xd.past.length cY2)) := by show BoxD _ _ _ _; rw [hWBY]; exact BoxD.new _ _ _
  have bzBY : w3.heap.size < WBY.heap.size := by rw [hWBY]; simp
  rw [← hWBY]
  clear hWBY
  replace BD := Lib.hid (BD.out.still hbWBY)
  replace BX := Lib.hid (BX.out.still hbWBY)
  replace D0 := Lib.hid (keepDk (hbWBY.mono le_w1) D0.out)
  replace LL := Lib.hid (keepDd (hbWBY.mono le_w1) LL.out)
  replace X := Lib.hid (keepDk (hbWBY.mono le_w2) X.out)
  replace Y := Lib.hid (keepDk (hbWBY.mono le_w3) Y.out)
  replace le_w1 := Nat.le_trans le_w1 hbWBY.size
  replace le_WBD := Nat.le_trans le_WBD hbWBY.size
  replace le_w2 := Nat.le_trans le_w2 hbWBY.size
  replace le_WBX := Nat.le_trans le_WBX hbWBY.size
  replace le_w3 := Nat.le_trans le_w3 hbWBY.size
  replace BEL0 := Lib.hid (belT BEL0.out hbWBY)
  have o_w3_WBY : w3.heap.size ≤ WBY.heap.size := le_w3
  have le_WBY : WBY.heap.size ≤ WBY.heap.size := Nat.le_refl _
  clear hbWBY
  have cBX0 := BX.out.c0
  have cBX1 := BX.out.c1
  have ltBX := BX.out.lt
  have cBY0 := BY.out.c0
  have cBY1 := BY.out.c1
  have ltBY := BY.out.lt
  go_wp2_with fail
  refine (sameDesk_c _ _ _ _ _ _ _ _ xd HL1.out HL2.out _ (X.out.lt le_w2).n (X.out.lt le_w2).p (Y.out.lt le_w3).n (Y.out.lt le_w3).p).mono ?_
  rintro e w4 ⟨rfl, hb4⟩
  replace BD := Lib.hid (BD.out.still hb4)
  replace BX := Lib.hid (BX.out.still hb4)
  replace BY := Lib.hid (BY.out.still hb4)
  replace D0 := Lib.hid (keepDk (hb4.mono le_w1) D0.out)
  replace LL := Lib.hid (keepDd (hb4.mono le_w1) LL.out)
  replace X := Lib.hid (keepDk (hb4.mono le_w2) X.out)
  replace Y := Lib.hid (keepDk (hb4.mono le_w3) Y.out)
  replace le_w1 := Nat.le_trans le_w1 hb4.size
  replace le_WBD := Nat.le_trans le_WBD hb4.size
  replace le_w2 := Nat.le_trans le_w2 hb4.size
  replace le_WBX := Nat.le_trans le_WBX hb4.size
  replace le_w3 := Nat.le_trans le_w3 hb4.size
  replace le_WBY := Nat.le_trans le_WBY hb4.size
  replace BEL0 := Lib.hid (belT BEL0.out hb4)
  clear hb4
  clear cBX0 cBX1 ltBX
  clear cBY0 cBY1 ltBY
  have cBD0 := BD.out.c0
  have cBD1 := BD.out.c1
  have ltBD := BD.out.lt
  have HDO := Lib.hid (deskOk_spec TN TP cN cP.val d HHY.out.1.1 HHY.out.1.2 _ (D0.out.lt le_w1).n (D0.out.lt le_w1).p)
  rcases hk : dkB d with _ | _
  · have HNO : Hid (xd = dkZero ∧ n = 0) := by
      have := rn_no (d := d) (l := l) (by unfold rnB; rw [hk]; rfl)
      rw [HNM.out.1, HNM.out.2] at this; exact this
    rw [hk] at HDO
    go_wp2_with fail
    refine HDO.out.mono ?_
    rintro e wo ⟨rfl, hbo⟩
    clear cBD0 cBD1 ltBD
    replace BD := Lib.hid (BD.out.still hbo)
    replace BX := Lib.hid (BX.out.still hbo)
    replace BY := Lib.hid (BY.out.still hbo)
    replace D0 := Lib.hid (keepDk (hbo.mono le_w1) D0.out)
    replace LL := Lib.hid (keepDd (hbo.mono le_w1) LL.out)
    replace X := Lib.hid (keepDk (hbo.mono le_w2) X.out)
    replace Y := Lib.hid (keepDk (hbo.mono le_w3) Y.out)
    replace le_w1 := Nat.le_trans le_w1 hbo.size
    replace le_WBD := Nat.le_trans le_WBD hbo.size
    replace le_w2 := Nat.le_trans le_w2 hbo.size
    replace le_WBX := Nat.le_trans le_WBX hbo.size
    replace le_w3 := Nat.le_trans le_w3 hbo.size
    replace le_WBY := Nat.le_trans le_WBY hbo.size
    replace BEL0 := Lib.hid (belT BEL0.out hbo)
    clear hbo
    have o_WBY_wo : WBY.heap.size ≤ wo.heap.size := le_WBY
    have le_wo : wo.heap.size ≤ wo.heap.size := Nat.le_refl _
    have HND : Hid (∀ w', Calls Try.prog 20 #[.agg #[.slice TX1 xd.now.length cX1, .slice TX2 xd.past.length cX2]] w' (Adds (.bool true) w')) := fun w' => by generalize cX2.val = kX2; rw [HNO.out.1]; exact noDesk_c TX1 TX2 cX1 kX2 w'
    have n0 := HNO.out.2
    subst n0
    have cBX0 := BX.out.c0
    have cBX1 := BX.out.c1
    go_wp2_with fail
    refine (HND.out _).mono ?_
    rintro e wn ⟨rfl, hbn⟩
    have BN := Lib.hid (belT BEL0.out hbn)
    clear hbn
    go_wp2_with fail
    refine (alive _).mono ?_
    rintro e wa ⟨rfl, hba⟩
    go_wp2_with fail
    go_ret
    exact ⟨rfl, belT BN.out hba⟩
  by_cases h40 : 40 < l.length
  · have HNO : Hid (xd = dkZero ∧ n = 0) := by
      have := rn_no (d := d) (l := l) (by unfold rnB; rw [hk, Bool.true_and, decide_eq_false_iff_not]; omega)
      rw [HNM.out.1, HNM.out.2] at this; exact this
    rw [hk] at HDO
    have h40i : (40 : Int) < (l.length : Int) := by omega
    go_wp2_with fail
    refine HDO.out.mono ?_
    rintro e wo ⟨rfl, hbo⟩
    clear cBD0 cBD1 ltBD
    replace BD := Lib.hid (BD.out.still hbo)
    replace BX := Lib.hid (BX.out.still hbo)
    replace BY := Lib.hid (BY.out.still hbo)
    replace D0 := Lib.hid (keepDk (hbo.mono le_w1) D0.out)
    replace LL := Lib.hid (keepDd (hbo.mono le_w1) LL.out)
    replace X := Lib.hid (keepDk (hbo.mono le_w2) X.out)
    replace Y := Lib.hid (keepDk (hbo.mono le_w3) Y.out)
    replace le_w1 := Nat.le_trans le_w1 hbo.size
    replace le_WBD := Nat.le_trans le_WBD hbo.size
    replace le_w2 := Nat.le_trans le_w2 hbo.size
    replace le_WBX := Nat.le_trans le_WBX hbo.size
    replace le_w3 := Nat.le_trans le_w3 hbo.size
    replace le_WBY := Nat.le_trans le_WBY hbo.size
    replace BEL0 := Lib.hid (belT BEL0.out hbo)
    clear hbo
    have o_WBY_wo : WBY.heap.size ≤ wo.heap.size := le_WBY
    have le_wo : wo.heap.size ≤ wo.heap.size := Nat.le_refl _
    have HND : Hid (∀ w', Calls Try.prog 20 #[.agg #[.slice TX1 xd.now.length cX1, .slice TX2 xd.past.length cX2]] w' (Adds (.bool true) w')) := fun w' => by generalize cX2.val = kX2; rw [HNO.out.1]; exact noDesk_c TX1 TX2 cX1 kX2 w'
    have n0 := HNO.out.2
    subst n0
    have cBX0 := BX.out.c0
    have cBX1 := BX.out.c1
    go_wp2_with fail
    refine (HND.out _).mono ?_
    rintro e wn ⟨rfl, hbn⟩
    have BN := Lib.hid (belT BEL0.out hbn)
    clear hbn
    go_wp2_with fail
    refine (alive _).mono ?_
    rintro e wa ⟨rfl, hba⟩
    go_wp2_with fail
    go_ret
    exact ⟨rfl, belT BN.out hba⟩
  have h40i : ¬ (40 : Int) < (l.length : Int) := by omega
  have hrb : rnB d l = true := by unfold rnB; rw [hk, Bool.true_and, decide_eq_true_eq]; omega
  rw [hk] at HDO
  obtain ⟨hf, hhf⟩ : ∃ h, l.length / 2 = h := ⟨_, rfl⟩
  have hq : (l.length : Int).tdiv 2 = (hf : Int) := by rw [Int.tdiv_eq_ediv_of_nonneg (by omega)]; omega
  have hqw : IntKind.i64.wrap (hf : Int) = (hf : Int) := IntWalk.i64_in _ ⟨by omega, by omega⟩
  have hfl : hf ≤ l.length := by omega
  have HP := Lib.hid (rn_parts hrb hf)
  have HXO := Lib.hid (rn_ok hrb)
  obtain ⟨l1, hl1⟩ : ∃ x, l.take hf = x := ⟨_, rfl⟩
  obtain ⟨l2, hl2⟩ : ∃ x, l.drop hf = x := ⟨_, rfl⟩
  have hz1 : l1.length = hf := by rw [← hl1, List.length_take]; omega
  have hz2 : l2.length = l.length - hf := by rw [← hl2, List.length_drop]
  obtain ⟨A1, hs1, hd1⟩ := slice_front TL l.length cL hf hfl HHY.out.2.2.1
  obtain ⟨A2, hs2, hd2⟩ := slice_back TL l.length cL hf hfl HHY.out.2.2.1
  have HD1 : Hid (∀ (w : World) (S : Nat → Prop), Deeds w S TL l → Deeds w S A1 l1) := fun w S h => by rw [← hl1]; exact hd1 w S l rfl h
  have HD2 : Hid (∀ (w : World) (S : Nat → Prop), Deeds w S TL l → Deeds w S A2 l2) := fun w S h => by rw [← hl2]; exact hd2 w S l rfl h
  rw [hl1, hl2] at HP
  have hSA := run_small d l1
  have hR1 := fun A B D c k e hk w' h1 h2 h3 => I.run A B D c k e d l1 HHY.out.1.1 HHY.out.1.2 (by omega) hk w' h1 h2 h3
  have hR2 := fun A B D c k e hk w' h1 h2 h3 => I.run A B D c k e (rnD d l1) l2 (by have := hSA.now; unfold maxLen; omega) (by have := hSA.past; unfold maxLen; omega) (by omega) hk w' h1 h2 h3
  obtain ⟨ad, had⟩ : ∃ x, rnD d l1 = x := ⟨_, rfl⟩
  obtain ⟨np, hnp⟩ : ∃ x, rnN d l1 = x := ⟨_, rfl⟩
  rw [had, hnp] at HP hR1
  rw [had] at hR2 hSA
  rw [HP.out.1, HNM.out.1] at hR2
  obtain ⟨nq, hnq⟩ : ∃ x, rnN ad l2 = x := ⟨_, rfl⟩
  rw [hnq] at hR2 HP
  rw [hz1] at hR1
  rw [hz2] at hR2
  have hsum : np + nq = n := by have := HP.out.2; rw [HNM.out.2] at this; exact this
  have hadd : IntKind.i64.wrap ((np : Int) + (nq : Int)) = (n : Int) := by rw [IntWalk.i64_in _ ⟨by omega, by omega⟩]; omega
  rw [HNM.out.1] at HXO
  unfold dskV at hR1 hR2
  have HR1 := Lib.hid hR1
  have HR2 := Lib.hid hR2
  have HSA := Lib.hid hSA
  have HQF := Lib.hid (And.intro (And.intro hq hqw) (And.intro hs1 (And.intro hs2 hadd)))
  clear hk h40 hrb hl1 hl2 hz1 hz2 hd1 hd2 hSA hR1 hR2 had hnp hnq hsum HP HNM hhf hq hqw hs1 hs2 hadd
  go_wp2_with fail
  refine HDO.out.mono ?_
  rintro e wo ⟨rfl, hbo⟩
  clear cBD0 cBD1 ltBD
  replace BD := Lib.hid (BD.out.still hbo)
  replace BX := Lib.hid (BX.out.still hbo)
  replace BY := Lib.hid (BY.out.still hbo)
  replace D0 := Lib.hid (keepDk (hbo.mono le_w1) D0.out)
  replace LL := Lib.hid (keepDd (hbo.mono le_w1) LL.out)
  replace X := Lib.hid (keepDk (hbo.mono le_w2) X.out)
  replace Y := Lib.hid (keepDk (hbo.mono le_w3) Y.out)
  replace le_w1 := Nat.le_trans le_w1 hbo.size
  replace le_WBD := Nat.le_trans le_WBD hbo.size
  replace le_w2 := Nat.le_trans le_w2 hbo.size
  replace le_WBX := Nat.le_trans le_WBX hbo.size
  replace le_w3 := Nat.le_trans le_w3 hbo.size
  replace le_WBY := Nat.le_trans le_WBY hbo.size
  replace BEL0 := Lib.hid (belT BEL0.out hbo)
  clear hbo
  have o_WBY_wo : WBY.heap.size ≤ wo.heap.size := le_WBY
  have le_wo : wo.heap.size ≤ wo.heap.size := Nat.le_refl _
  have hq := HQF.out.1.1
  have hqw := HQF.out.1.2
  have hs1 := HQF.out.2.1
  have hs2 := HQF.out.2.2.1
  have hadd := HQF.out.2.2.2
  have HR : Hid (∀ w', Below wo.heap.size wo w' → (Rows2 w' (· < w'.heap.size) TN d.now ∧ Rows3 w' (· < w'.heap.size) TP d.past) ∧ Deeds w' (· < w'.heap.size) A1 l1) := fun w' hb => ⟨(keepDk (hb.mono le_w1) D0.out).two (Nat.le_trans le_w1 hb.size), HD1.out _ _ ((keepDd (hb.mono le_w1) LL.out).lt (Nat.le_trans le_w1 hb.size))⟩
  have sY0 := stays BD.out.lt BD.out.c0
  have sY1 := stays BD.out.lt BD.out.c1
  go_wp2_with fail
  go_cut [10, 11] (fun sp sn wx => ∃ (p lo hi : Nat) (TN : Option Addr) (cN : Nat) (TP : Option Addr) (cP : CapN ad.past.length) (AA : Nat → Nat → Option Addr) (CC : Nat → Nat → Nat) (TT : Nat → Option Addr) (UU : Nat → Nat), sp = .pointer (some ⟨p, 0, none⟩) ∧ sn = .int .i64 (np : Nat) ∧ Below wo.heap.size wo wx ∧ BoxD wx p (.slice TN ad.now.length cN) (.slice TP ad.past.length cP) ∧ OwnDk wx lo hi TN TP ad AA CC TT UU ∧ wo.heap.size ≤ p ∧ wo.heap.size ≤ lo ∧ hi ≤ wx.heap.size)
  case first =>
    have HS0 : Below wo.heap.size wo wo.drew := (Below.refl _ _).drew
    refine wp_region_held_drew (S := fun w' => Below wo.heap.size wo w') (by kernel_rfl) HS0 (fun hHeld => ?_)
    clear hHeld
    generalize wo.drew = D at HS0 ⊢
    have hs0 := HS0.size
    have hHeld := HS0
    refine wpAnyH_take (i := 0) (v := ?v1) rfl (by kernel_rfl) (by kernel_rfl) (by kernel_rfl) (fun _ _ _ h => h) (Or.inl ⟨by rfl, ?y1⟩) (by assumption) ?z1
    case y1 => (intro w hSw; go_simp; first | done | with_reducible rfl)
    try simp only [List.getElem_toArray, List.getElem_cons_succ, List.getElem_cons_zero, Act.put, List.setIfInBounds_toArray, List.set_cons_zero, List.set_cons_succ]
    refine wpAnyH_take (i := 1) (v := ?v2) rfl (by kernel_rfl) (by kernel_rfl) (by kernel_rfl) (fun _ _ _ h => h) (Or.inl ⟨by rfl, ?y2⟩) (by assumption) ?z2
    case y2 => (intro w hSw; go_simp; first | done | with_reducible rfl)
    try simp only [List.getElem_toArray, List.getElem_cons_succ, List.getElem_cons_zero, Act.put, List.setIfInBounds_toArray, List.set_cons_zero, List.set_cons_succ]
    refine wpAnyH_take (i := 2) (v := ?v3) rfl (by kernel_rfl) (by kernel_rfl) (by kernel_rfl) (fun _ _ _ h => h) (Or.inl ⟨by rfl, ?y3⟩) (by assumption) ?z3
    case y3 => (intro w hSw; go_simp; first | done | with_reducible rfl)
    try simp only [List.getElem_toArray, List.getElem_cons_succ, List.getElem_cons_zero, Act.put, List.setIfInBounds_toArray, List.set_cons_zero, List.set_cons_succ]
    refine wpAnyH_take (i := 3) (v := ?v4) rfl (by kernel_rfl) (by kernel_rfl) (by kernel_rfl) (fun _ _ _ h => h) (Or.inl ⟨by rfl, ?y4⟩) (by assumption) ?z4
    case y4 => (intro w hSw; go_simp; first | done | with_reducible rfl)
    try simp only [List.getElem_toArray, List.getElem_cons_succ, List.getElem_cons_zero, Act.put, List.setIfInBounds_toArray, List.set_cons_zero, List.set_cons_succ]
    refine wpAnyH_ready (rs := [4, 8]) (by kernel_rfl) (by simp) ?_
    refine AllReadyH.cons rfl (fun K hK => ?_) (AllReadyH.cons rfl (fun K hK => ?_) AllReadyH.nil)
    · go_simp
      refine (HR1.out _ _ _ _ _ _ cP.two _ (HR.out _ HS0).1.1 (HR.out _ HS0).1.2 (HR.out _ HS0).2).mono ?_
      rintro e u4 ⟨TN4, cN4, TP4, cP4, AA4, CC4, TT4, UU4, rfl, hb4, DO1⟩
      unfold dskV
      have HS1 : Below wo.heap.size wo u4 := HS0.trans (hb4.mono HS0.size)
      have shb4 := hb4.size
      refine hK.out _ _ HS1 (fun hHeld => ?_)
      clear hK K
      try simp only [List.getElem_toArray, List.getElem_cons_succ, List.getElem_cons_zero, Act.put, List.setIfInBounds_toArray, List.set_cons_zero, List.set_cons_succ]
      refine wpAnyH_take (i := 5) (v := ?v5) rfl (by kernel_rfl) (by kernel_rfl) (by kernel_rfl) (fun _ _ _ h => h) (Or.inl ⟨by rfl, ?y5⟩) (by assumption) ?z5
      case y5 => (intro w hSw; go_simp; first | done | with_reducible rfl)
      try simp only [List.getElem_toArray, List.getElem_cons_succ, List.getElem_cons_zero, Act.put, List.setIfInBounds_toArray, List.set_cons_zero, List.set_cons_succ]
      refine wpAnyH_take (i := 6) (v := ?v6) rfl (by kernel_rfl) (by kernel_rfl) (by kernel_rfl) (fun _ _ _ h => h) (Or.inl ⟨by rfl, ?y6⟩) (by assumption) ?z6
      case y6 => (intro w hSw; go_simp; first | done | with_reducible rfl)
      try simp only [List.getElem_toArray, List.getElem_cons_succ, List.getElem_cons_zero, Act.put, List.setIfInBounds_toArray, List.set_cons_zero, List.set_cons_succ]
      refine wpAnyH_take (i := 7) (v := ?v7) rfl (by kernel_rfl) (by kernel_rfl) (by kernel_rfl) (fun _ _ _ h => h) (Or.inl ⟨by rfl, ?y7⟩) (by assumption) ?z7
      case y7 => (intro w hSw; go_simp; first | done | with_reducible rfl)
      try simp only [List.getElem_toArray, List.getElem_cons_succ, List.getElem_cons_zero, Act.put, List.setIfInBounds_toArray, List.set_cons_zero, List.set_cons_succ]
      refine wpAnyH_ready (rs := [8]) (by kernel_rfl) (by simp) ?_
      refine AllReadyH.cons rfl (fun K hK => ?_) AllReadyH.nil
      go_simp
      obtain ⟨V, hV⟩ : ∃ V : World, V = (u4).alloc (.cells #[.slice none 0 0, .slice none 0 0] 37) := ⟨_, rfl⟩
      rw [← hV]
      have hbV : Below (u4).heap.size (u4) V := by rw [hV]; exact (Below.refl _ _).alloc (Nat.le_refl _) _
      have PL2 : (u4).heap.size < V.heap.size := by rw [hV]; simp
      have PR2 : V.rowIs (u4).heap.size 37 2 (fun _ => .slice none 0 0) := by rw [hV]; exact World.rowIs_alloc _ #[.slice none 0 0, .slice none 0 0] _ _ (fun i hi => by have : i = 0 ∨ i = 1 := (by simp at hi; omega); rcases this with rfl | rfl <;> rfl)
      have HS2 : Below wo.heap.size wo V := HS1.trans (hbV.mono HS1.size)
      have hsV := hbV.size
      clear hV
      have DO2 := DO1.keep (fun b _ h2 => hbV.block b h2)
      refine hK.out _ _ HS2 (fun hHeld => ?_)
      clear hK K
      try simp only [List.getElem_toArray, List.getElem_cons_succ, List.getElem_cons_zero, Act.put, List.setIfInBounds_toArray, List.set_cons_zero, List.set_cons_succ]
      refine wpAnyH_ready (rs := [9]) (by kernel_rfl) (by simp) ?_
      refine AllReadyH.cons rfl (fun K hK => ?_) AllReadyH.nil
      have PC0 := PR2.cell (i := 0) (by omega)
      have PC1 := PR2.cell (i := 1) (by omega)
      have PF0 := PR2.frozen 0
      have PF1 := PR2.frozen 1
      have PLE : wo.heap.size ≤ (u4).heap.size := by first | exact Nat.le_refl _ | omega
      have HS3 : ∀ u v : Value, Below wo.heap.size wo ((V.setCell ⟨(u4).heap.size, 0, none⟩ u).setCell ⟨(u4).heap.size, 1, none⟩ v) := fun u v => (HS2.setCell PLE u).setCell PLE v
      have PRX := PR2
      have PLX := PL2
      go_simp
      refine hK.out _ _ (HS3 _ _) (fun hHeld => ?_)
      clear hK K
      try simp only [List.getElem_toArray, List.getElem_cons_succ, List.getElem_cons_zero, Act.put, List.setIfInBounds_toArray, List.set_cons_zero, List.set_cons_succ]
      refine wpAnyH_take (i := 10) (v := ?v8) rfl (by kernel_rfl) (by kernel_rfl) (by kernel_rfl) (fun _ _ _ h => h) (Or.inl ⟨by rfl, ?y8⟩) (by assumption) ?z8
      case y8 => (intro w hSw; go_simp; first | done | with_reducible rfl)
      try simp only [List.getElem_toArray, List.getElem_cons_succ, List.getElem_cons_zero, Act.put, List.setIfInBounds_toArray, List.set_cons_zero, List.set_cons_succ]
      refine wpAnyH_done (by kernel_rfl) ?_ _
      go_wp2_with fail
      go_meet
      exact ⟨(u4).heap.size, _, _, TN4, cN4, TP4, cP4, AA4, CC4, TT4, UU4, rfl, rfl, HS3 _ _, BoxD.made (desk_row PRX _ _), DO2.keep (fun b h1 h2 => far2 (by omega) _ _), PLE, by omega, by simp [World.setCell]; try omega⟩
    · go_simp
      obtain ⟨V, hV⟩ : ∃ V : World, V = (D).alloc (.cells #[.slice none 0 0, .slice none 0 0] 37) := ⟨_, rfl⟩
      rw [← hV]
      have hbV : Below (D).heap.size (D) V := by rw [hV]; exact (Below.refl _ _).alloc (Nat.le_refl _) _
      have PL1 : (D).heap.size < V.heap.size := by rw [hV]; simp
      have PR1 : V.rowIs (D).heap.size 37 2 (fun _ => .slice none 0 0) := by rw [hV]; exact World.rowIs_alloc _ #[.slice none 0 0, .slice none 0 0] _ _ (fun i hi => by have : i = 0 ∨ i = 1 := (by simp at hi; omega); rcases this with rfl | rfl <;> rfl)
      have HS1 : Below wo.heap.size wo V := HS0.trans (hbV.mono HS0.size)
      have hsV := hbV.size
      clear hV
      refine hK.out _ _ HS1 (fun hHeld => ?_)
      clear hK K
      try simp only [List.getElem_toArray, List.getElem_cons_succ, List.getElem_cons_zero, Act.put, List.setIfInBounds_toArray, List.set_cons_zero, List.set_cons_succ]
      refine wpAnyH_ready (rs := [4]) (by kernel_rfl) (by simp) ?_
      refine AllReadyH.cons rfl (fun K hK => ?_) AllReadyH.nil
      go_simp
      refine (HR1.out _ _ _ _ _ _ cP.two _ (HR.out _ HS1).1.1 (HR.out _ HS1).1.2 (HR.out _ HS1).2).mono ?_
      rintro e u4 ⟨TN4, cN4, TP4, cP4, AA4, CC4, TT4, UU4, rfl, hb4, DO2⟩
      unfold dskV
      have HS2 : Below wo.heap.size wo u4 := HS1.trans (hb4.mono HS1.size)
      have shb4 := hb4.size
      have PR2 := PR1.of_block (hb4.block _ PL1)
      have PL2 := Nat.lt_of_lt_of_le PL1 hb4.size
      refine hK.out _ _ HS2 (fun hHeld => ?_)
      clear hK K
      try simp only [List.getElem_toArray, List.getElem_cons_succ, List.getElem_cons_zero, Act.put, List.setIfInBounds_toArray, List.set_cons_zero, List.set_cons_succ]
      refine wpAnyH_take (i := 5) (v := ?v9) rfl (by kernel_rfl) (by kernel_rfl) (by kernel_rfl) (fun _ _ _ h => h) (Or.inl ⟨by rfl, ?y9⟩) (by assumption) ?z9
      case y9 => (intro w hSw; go_simp; first | done | with_reducible rfl)
      try simp only [List.getElem_toArray, List.getElem_cons_succ, List.getElem_cons_zero, Act.put, List.setIfInBounds_toArray, List.set_cons_zero, List.set_cons_succ]
      refine wpAnyH_take (i := 6) (v := ?v10) rfl (by kernel_rfl) (by kernel_rfl) (by kernel_rfl) (fun _ _ _ h => h) (Or.inl ⟨by rfl, ?y10⟩) (by assumption) ?z10
      case y10 => (intro w hSw; go_simp; first | done | with_reducible rfl)
      try simp only [List.getElem_toArray, List.getElem_cons_succ, List.getElem_cons_zero, Act.put, List.setIfInBounds_toArray, List.set_cons_zero, List.set_cons_succ]
      refine wpAnyH_take (i := 7) (v := ?v11) rfl (by kernel_rfl) (by kernel_rfl) (by kernel_rfl) (fun _ _ _ h => h) (Or.inl ⟨by rfl, ?y11⟩) (by assumption) ?z11
      case y11 => (intro w hSw; go_simp; first | done | with_reducible rfl)
      try simp only [List.getElem_toArray, List.getElem_cons_succ, List.getElem_cons_zero, Act.put, List.setIfInBounds_toArray, List.set_cons_zero, List.set_cons_succ]
      refine wpAnyH_ready (rs := [9]) (by kernel_rfl) (by simp) ?_
      refine AllReadyH.cons rfl (fun K hK => ?_) AllReadyH.nil
      have PC0 := PR2.cell (i := 0) (by omega)
      have PC1 := PR2.cell (i := 1) (by omega)
      have PF0 := PR2.frozen 0
      have PF1 := PR2.frozen 1
      have PLE : wo.heap.size ≤ (D).heap.size := by first | exact Nat.le_refl _ | omega
      have HS3 : ∀ u v : Value, Below wo.heap.size wo ((u4.setCell ⟨(D).heap.size, 0, none⟩ u).setCell ⟨(D).heap.size, 1, none⟩ v) := fun u v => (HS2.setCell PLE u).setCell PLE v
      have PRX := PR2
      have PLX := PL2
      go_simp
      refine hK.out _ _ (HS3 _ _) (fun hHeld => ?_)
      clear hK K
      try simp only [List.getElem_toArray, List.getElem_cons_succ, List.getElem_cons_zero, Act.put, List.setIfInBounds_toArray, List.set_cons_zero, List.set_cons_succ]
      refine wpAnyH_take (i := 10) (v := ?v12) rfl (by kernel_rfl) (by kernel_rfl) (by kernel_rfl) (fun _ _ _ h => h) (Or.inl ⟨by rfl, ?y12⟩) (by assumption) ?z12
      case y12 => (intro w hSw; go_simp; first | done | with_reducible rfl)
      try simp only [List.getElem_toArray, List.getElem_cons_succ, List.getElem_cons_zero, Act.put, List.setIfInBounds_toArray, List.set_cons_zero, List.set_cons_succ]
      refine wpAnyH_done (by kernel_rfl) ?_ _
      go_wp2_with fail
      go_meet
      exact ⟨(D).heap.size, _, _, TN4, cN4, TP4, cP4, AA4, CC4, TT4, UU4, rfl, rfl, HS3 _ _, BoxD.made (desk_row PRX _ _), DO2.keep (fun b h1 h2 => far2 (by omega) _ _), PLE, by omega, by simp [World.setCell]; try omega⟩
  case rest =>
    obtain ⟨pA, loA, hiA, TA1, cA1, TA2, cA2, AA, CA, UA, KA, rfl, rfl, hbx, hBA, hRA, hpA, hlA, hhA⟩ := hcut
    obtain ⟨wA, rfl⟩ : ∃ x, x = wc := ⟨_, rfl⟩
    clear HR sY0 sY1
    replace BD := Lib.hid (BD.out.still hbx)
    replace BX := Lib.hid (BX.out.still hbx)
    replace BY := Lib.hid (BY.out.still hbx)
    replace D0 := Lib.hid (keepDk (hbx.mono le_w1) D0.out)
    replace LL := Lib.hid (keepDd (hbx.mono le_w1) LL.out)
    replace X := Lib.hid (keepDk (hbx.mono le_w2) X.out)
    replace Y := Lib.hid (keepDk (hbx.mono le_w3) Y.out)
    replace le_w1 := Nat.le_trans le_w1 hbx.size
    replace le_WBD := Nat.le_trans le_WBD hbx.size
    replace le_w2 := Nat.le_trans le_w2 hbx.size
    replace le_WBX := Nat.le_trans le_WBX hbx.size
    replace le_w3 := Nat.le_trans le_w3 hbx.size
    replace le_WBY := Nat.le_trans le_WBY hbx.size
    replace le_wo := Nat.le_trans le_wo hbx.size
    replace BEL0 := Lib.hid (belT BEL0.out hbx)
    have o_wo_wA : wo.heap.size ≤ wA.heap.size := le_wo
    have le_wA : wA.heap.size ≤ wA.heap.size := Nat.le_refl _
    have BA := Lib.hid hBA
    have bzBA : pA < wA.heap.size := hBA.lt
    have A : Hid (RdD wA wA.heap.size TA1 TA2 ad) := hRA.lt.lt hhA
    clear hlA hbx hBA hRA hhA
    have HR : Hid (∀ w', Below wA.heap.size wA w' → (Rows2 w' (· < w'.heap.size) TA1 ad.now ∧ Rows3 w' (· < w'.heap.size) TA2 ad.past) ∧ Deeds w' (· < w'.heap.size) A2 l2) := fun w' hb => ⟨(keepDk (hb.mono le_wA) A.out).two (Nat.le_trans le_wA hb.size), HD2.out _ _ ((keepDd (hb.mono le_w1) LL.out).lt (Nat.le_trans le_w1 hb.size))⟩
    have sY0 := stays BA.out.lt BA.out.c0
    have sY1 := stays BA.out.lt BA.out.c1
    go_wp2_with fail
    go_cut [12, 13] (fun sp sn wx => ∃ (p lo hi : Nat) (TN : Option Addr) (cN : Nat) (TP : Option Addr) (cP : CapN xd.past.length) (AA : Nat → Nat → Option Addr) (CC : Nat → Nat → Nat) (TT : Nat → Option Addr) (UU : Nat → Nat), sp = .pointer (some ⟨p, 0, none⟩) ∧ sn = .int .i64 (nq : Nat) ∧ Below wA.heap.size wA wx ∧ BoxD wx p (.slice TN xd.now.length cN) (.slice TP xd.past.length cP) ∧ OwnDk wx lo hi TN TP xd AA CC TT UU ∧ wA.heap.size ≤ p ∧ wA.heap.size ≤ lo ∧ hi ≤ wx.heap.size)
    case first =>
      have HS0 : Below wA.heap.size wA wA.drew := (Below.refl _ _).drew
      refine wp_region_held_drew (S := fun w' => Below wA.heap.size wA w') (by kernel_rfl) HS0 (fun hHeld => ?_)
      clear hHeld
      generalize wA.drew = D at HS0 ⊢
      have hs0 := HS0.size
      have hHeld := HS0
      refine wpAnyH_take (i := 0) (v := ?v13) rfl (by kernel_rfl) (by kernel_rfl) (by kernel_rfl) (fun _ _ _ h => h) (Or.inl ⟨by rfl, ?y13⟩) (by assumption) ?z13
      case y13 => (intro w hSw; go_simp; first | done | with_reducible rfl)
      try simp only [List.getElem_toArray, List.getElem_cons_succ, List.getElem_cons_zero, Act.put, List.setIfInBounds_toArray, List.set_cons_zero, List.set_cons_succ]
      refine wpAnyH_take (i := 1) (v := ?v14) rfl (by kernel_rfl) (by kernel_rfl) (by kernel_rfl) (fun _ _ _ h => h) (Or.inl ⟨by rfl, ?y14⟩) (by assumption) ?z14
      case y14 => (intro w hSw; go_simp; first | done | with_reducible rfl)
      try simp only [List.getElem_toArray, List.getElem_cons_succ, List.getElem_cons_zero, Act.put, List.setIfInBounds_toArray, List.set_cons_zero, List.set_cons_succ]
      refine wpAnyH_take (i := 2) (v := ?v15) rfl (by kernel_rfl) (by kernel_rfl) (by kernel_rfl) (fun _ _ _ h => h) (Or.inl ⟨by rfl, ?y15⟩) (by assumption) ?z15
      case y15 => (intro w hSw; go_simp; first | done | with_reducible rfl)
      try simp only [List.getElem_toArray, List.getElem_cons_succ, List.getElem_cons_zero, Act.put, List.setIfInBounds_toArray, List.set_cons_zero, List.set_cons_succ]
      refine wpAnyH_take (i := 3) (v := ?v16) rfl (by kernel_rfl) (by kernel_rfl) (by kernel_rfl) (fun _ _ _ h => h) (Or.inl ⟨by rfl, ?y16⟩) (by assumption) ?z16
      case y16 => (intro w hSw; go_simp; first | done | with_reducible rfl)
      try simp only [List.getElem_toArray, List.getElem_cons_succ, List.getElem_cons_zero, Act.put, List.setIfInBounds_toArray, List.set_cons_zero, List.set_cons_succ]
      refine wpAnyH_ready (rs := [4, 8]) (by kernel_rfl) (by simp) ?_
      refine AllReadyH.cons rfl (fun K hK => ?_) (AllReadyH.cons rfl (fun K hK => ?_) AllReadyH.nil)
      · go_simp
        refine (HR2.out _ _ _ _ _ _ cA2.two _ (HR.out _ HS0).1.1 (HR.out _ HS0).1.2 (HR.out _ HS0).2).mono ?_
        rintro e u4 ⟨TN4, cN4, TP4, cP4, AA4, CC4, TT4, UU4, rfl, hb4, DO1⟩
        unfold dskV
        have HS1 : Below wA.heap.size wA u4 := HS0.trans (hb4.mono HS0.size)
        have shb4 := hb4.size
        refine hK.out _ _ HS1 (fun hHeld => ?_)
        clear hK K
        try simp only [List.getElem_toArray, List.getElem_cons_succ, List.getElem_cons_zero, Act.put, List.setIfInBounds_toArray, List.set_cons_zero, List.set_cons_succ]
        refine wpAnyH_take (i := 5) (v := ?v17) rfl (by kernel_rfl) (by kernel_rfl) (by kernel_rfl) (fun _ _ _ h => h) (Or.inl ⟨by rfl, ?y17⟩) (by assumption) ?z17
        case y17 => (intro w hSw; go_simp; first | done | with_reducible rfl)
        try simp only [List.getElem_toArray, List.getElem_cons_succ, List.getElem_cons_zero, Act.put, List.setIfInBounds_toArray, List.set_cons_zero, List.set_cons_succ]
        refine wpAnyH_take (i := 6) (v := ?v18) rfl (by kernel_rfl) (by kernel_rfl) (by kernel_rfl) (fun _ _ _ h => h) (Or.inl ⟨by rfl, ?y18⟩) (by assumption) ?z18
        case y18 => (intro w hSw; go_simp; first | done | with_reducible rfl)
        try simp only [List.getElem_toArray, List.getElem_cons_succ, List.getElem_cons_zero, Act.put, List.setIfInBounds_toArray, List.set_cons_zero, List.set_cons_succ]
        refine wpAnyH_take (i := 7) (v := ?v19) rfl (by kernel_rfl) (by kernel_rfl) (by kernel_rfl) (fun _ _ _ h => h) (Or.inl ⟨by rfl, ?y19⟩) (by assumption) ?z19
        case y19 => (intro w hSw; go_simp; first | done | with_reducible rfl)
        try simp only [List.getElem_toArray, List.getElem_cons_succ, List.getElem_cons_zero, Act.put, List.setIfInBounds_toArray, List.set_cons_zero, List.set_cons_succ]
        refine wpAnyH_ready (rs := [8]) (by kernel_rfl) (by simp) ?_
        refine AllReadyH.cons rfl (fun K hK => ?_) AllReadyH.nil
        go_simp
        obtain ⟨V, hV⟩ : ∃ V : World, V = (u4).alloc (.cells #[.slice none 0 0, .slice none 0 0] 37) := ⟨_, rfl⟩
        rw [← hV]
        have hbV : Below (u4).heap.size (u4) V := by rw [hV]; exact (Below.refl _ _).alloc (Nat.le_refl _) _
        have PL2 : (u4).heap.size < V.heap.size := by rw [hV]; simp
        have PR2 : V.rowIs (u4).heap.size 37 2 (fun _ => .slice none 0 0) := by rw [hV]; exact World.rowIs_alloc _ #[.slice none 0 0, .slice none 0 0] _ _ (fun i hi => by have : i = 0 ∨ i = 1 := (by simp at hi; omega); rcases this with rfl | rfl <;> rfl)
        have HS2 : Below wA.heap.size wA V := HS1.trans (hbV.mono HS1.size)
        have hsV := hbV.size
        clear hV
        have DO2 := DO1.keep (fun b _ h2 => hbV.block b h2)
        refine hK.out _ _ HS2 (fun hHeld => ?_)
        clear hK K
        try simp only [List.getElem_toArray, List.getElem_cons_succ, List.getElem_cons_zero, Act.put, List.setIfInBounds_toArray, List.set_cons_zero, List.set_cons_succ]
        refine wpAnyH_ready (rs := [9]) (by kernel_rfl) (by simp) ?_
        refine AllReadyH.cons rfl (fun K hK => ?_) AllReadyH.nil
        have PC0 := PR2.cell (i := 0) (by omega)
        have PC1 := PR2.cell (i := 1) (by omega)
        have PF0 := PR2.frozen 0
        have PF1 := PR2.frozen 1
        have PLE : wA.heap.size ≤ (u4).heap.size := by first | exact Nat.le_refl _ | omega
        have HS3 : ∀ u v : Value, Below wA.heap.size wA ((V.setCell ⟨(u4).heap.size, 0, none⟩ u).setCell ⟨(u4).heap.size, 1, none⟩ v) := fun u v => (HS2.setCell PLE u).setCell PLE v
        have PRX := PR2
        have PLX := PL2
        go_simp
        refine hK.out _ _ (HS3 _ _) (fun hHeld => ?_)
        clear hK K
        try simp only [List.getElem_toArray, List.getElem_cons_succ, List.getElem_cons_zero, Act.put, List.setIfInBounds_toArray, List.set_cons_zero, List.set_cons_succ]
        refine wpAnyH_take (i := 10) (v := ?v20) rfl (by kernel_rfl) (by kernel_rfl) (by kernel_rfl) (fun _ _ _ h => h) (Or.inl ⟨by rfl, ?y20⟩) (by assumption) ?z20
        case y20 => (intro w hSw; go_simp; first | done | with_reducible rfl)
        try simp only [List.getElem_toArray, List.getElem_cons_succ, List.getElem_cons_zero, Act.put, List.setIfInBounds_toArray, List.set_cons_zero, List.set_cons_succ]
        refine wpAnyH_done (by kernel_rfl) ?_ _
        go_wp2_with fail
        go_meet
        exact ⟨(u4).heap.size, _, _, TN4, cN4, TP4, cP4, AA4, CC4, TT4, UU4, rfl, rfl, HS3 _ _, BoxD.made (desk_row PRX _ _), DO2.keep (fun b h1 h2 => far2 (by omega) _ _), PLE, by omega, by simp [World.setCell]; try omega⟩
      · go_simp
        obtain ⟨V, hV⟩ : ∃ V : World, V = (D).alloc (.cells #[.slice none 0 0, .slice none 0 0] 37) := ⟨_, rfl⟩
        rw [← hV]
        have hbV : Below (D).heap.size (D) V := by rw [hV]; exact (Below.refl _ _).alloc (Nat.le_refl _) _
        have PL1 : (D).heap.size < V.heap.size := by rw [hV]; simp
        have PR1 : V.rowIs (D).heap.size 37 2 (fun _ => .slice none 0 0) := by rw [hV]; exact World.rowIs_alloc _ #[.slice none 0 0, .slice none 0 0] _ _ (fun i hi => by have : i = 0 ∨ i = 1 := (by simp at hi; omega); rcases this with rfl | rfl <;> rfl)
        have HS1 : Below wA.heap.size wA V := HS0.trans (hbV.mono HS0.size)
        have hsV := hbV.size
        clear hV
        refine hK.out _ _ HS1 (fun hHeld => ?_)
        clear hK K
        try simp only [List.getElem_toArray, List.getElem_cons_succ, List.getElem_cons_zero, Act.put, List.setIfInBounds_toArray, List.set_cons_zero, List.set_cons_succ]
        refine wpAnyH_ready (rs := [4]) (by kernel_rfl) (by simp) ?_
        refine AllReadyH.cons rfl (fun K hK => ?_) AllReadyH.nil
        go_simp
        refine (HR2.out _ _ _ _ _ _ cA2.two _ (HR.out _ HS1).1.1 (HR.out _ HS1).1.2 (HR.out _ HS1).2).mono ?_
        rintro e u4 ⟨TN4, cN4, TP4, cP4, AA4, CC4, TT4, UU4, rfl, hb4, DO2⟩
        unfold dskV
        have HS2 : Below wA.heap.size wA u4 := HS1.trans (hb4.mono HS1.size)
        have shb4 := hb4.size
        have PR2 := PR1.of_block (hb4.block _ PL1)
        have PL2 := Nat.lt_of_lt_of_le PL1 hb4.size
        refine hK.out _ _ HS2 (fun hHeld => ?_)
        clear hK K
        try simp only [List.getElem_toArray, List.getElem_cons_succ, List.getElem_cons_zero, Act.put, List.setIfInBounds_toArray, List.set_cons_zero, List.set_cons_succ]
        refine wpAnyH_take (i := 5) (v := ?v21) rfl (by kernel_rfl) (by kernel_rfl) (by kernel_rfl) (fun _ _ _ h => h) (Or.inl ⟨by rfl, ?y21⟩) (by assumption) ?z21
        case y21 => (intro w hSw; go_simp; first | done | with_reducible rfl)
        try simp only [List.getElem_toArray, List.getElem_cons_succ, List.getElem_cons_zero, Act.put, List.setIfInBounds_toArray, List.set_cons_zero, List.set_cons_succ]
        refine wpAnyH_take (i := 6) (v := ?v22) rfl (by kernel_rfl) (by kernel_rfl) (by kernel_rfl) (fun _ _ _ h => h) (Or.inl ⟨by rfl, ?y22⟩) (by assumption) ?z22
        case y22 => (intro w hSw; go_simp; first | done | with_reducible rfl)
        try simp only [List.getElem_toArray, List.getElem_cons_succ, List.getElem_cons_zero, Act.put, List.setIfInBounds_toArray, List.set_cons_zero, List.set_cons_succ]
        refine wpAnyH_take (i := 7) (v := ?v23) rfl (by kernel_rfl) (by kernel_rfl) (by kernel_rfl) (fun _ _ _ h => h) (Or.inl ⟨by rfl, ?y23⟩) (by assumption) ?z23
        case y23 => (intro w hSw; go_simp; first | done | with_reducible rfl)
        try simp only [List.getElem_toArray, List.getElem_cons_succ, List.getElem_cons_zero, Act.put, List.setIfInBounds_toArray, List.set_cons_zero, List.set_cons_succ]
        refine wpAnyH_ready (rs := [9]) (by kernel_rfl) (by simp) ?_
        refine AllReadyH.cons rfl (fun K hK => ?_) AllReadyH.nil
        have PC0 := PR2.cell (i := 0) (by omega)
        have PC1 := PR2.cell (i := 1) (by omega)
        have PF0 := PR2.frozen 0
        have PF1 := PR2.frozen 1
        have PLE : wA.heap.size ≤ (D).heap.size := by first | exact Nat.le_refl _ | omega
        have HS3 : ∀ u v : Value, Below wA.heap.size wA ((u4.setCell ⟨(D).heap.size, 0, none⟩ u).setCell ⟨(D).heap.size, 1, none⟩ v) := fun u v => (HS2.setCell PLE u).setCell PLE v
        have PRX := PR2
        have PLX := PL2
        go_simp
        refine hK.out _ _ (HS3 _ _) (fun hHeld => ?_)
        clear hK K
        try simp only [List.getElem_toArray, List.getElem_cons_succ, List.getElem_cons_zero, Act.put, List.setIfInBounds_toArray, List.set_cons_zero, List.set_cons_succ]
        refine wpAnyH_take (i := 10) (v := ?v24) rfl (by kernel_rfl) (by kernel_rfl) (by kernel_rfl) (fun _ _ _ h => h) (Or.inl ⟨by rfl, ?y24⟩) (by assumption) ?z24
        case y24 => (intro w hSw; go_simp; first | done | with_reducible rfl)
        try simp only [List.getElem_toArray, List.getElem_cons_succ, List.getElem_cons_zero, Act.put, List.setIfInBounds_toArray, List.set_cons_zero, List.set_cons_succ]
        refine wpAnyH_done (by kernel_rfl) ?_ _
        go_wp2_with fail
        go_meet
        exact ⟨(D).heap.size, _, _, TN4, cN4, TP4, cP4, AA4, CC4, TT4, UU4, rfl, rfl, HS3 _ _, BoxD.made (desk_row PRX _ _), DO2.keep (fun b h1 h2 => far2 (by omega) _ _), PLE, by omega, by simp [World.setCell]; try omega⟩
    case rest =>
      obtain ⟨pC, loC, hiC, TC1, cC1, TC2, cC2, AC, CC, UC, KC, rfl, rfl, hbx, hBC, hRC, hpC, hlC, hhC⟩ := hcut
      obtain ⟨wC, rfl⟩ : ∃ x, x = wc := ⟨_, rfl⟩
      clear HR sY0 sY1
      replace BD := Lib.hid (BD.out.still hbx)
      replace BX := Lib.hid (BX.out.still hbx)
      replace BY := Lib.hid (BY.out.still hbx)
      replace BA := Lib.hid (BA.out.still hbx)
      replace D0 := Lib.hid (keepDk (hbx.mono le_w1) D0.out)
      replace LL := Lib.hid (keepDd (hbx.mono le_w1) LL.out)
      replace X := Lib.hid (keepDk (hbx.mono le_w2) X.out)
      replace Y := Lib.hid (keepDk (hbx.mono le_w3) Y.out)
      replace A := Lib.hid (keepDk (hbx.mono le_wA) A.out)
      replace le_w1 := Nat.le_trans le_w1 hbx.size
      replace le_WBD := Nat.le_trans le_WBD hbx.size
      replace le_w2 := Nat.le_trans le_w2 hbx.size
      replace le_WBX := Nat.le_trans le_WBX hbx.size
      replace le_w3 := Nat.le_trans le_w3 hbx.size
      replace le_WBY := Nat.le_trans le_WBY hbx.size
      replace le_wo := Nat.le_trans le_wo hbx.size
      replace le_wA := Nat.le_trans le_wA hbx.size
      replace BEL0 := Lib.hid (belT BEL0.out hbx)
      have o_wA_wC : wA.heap.size ≤ wC.heap.size := le_wA
      have le_wC : wC.heap.size ≤ wC.heap.size := Nat.le_refl _
      have BC := Lib.hid hBC
      have bzBC : pC < wC.heap.size := hBC.lt
      have C : Hid (RdD wC wC.heap.size TC1 TC2 xd) := hRC.lt.lt hhC
      clear hlC hbx hBC hRC hhC
      have cBX0 := BX.out.c0
      have cBX1 := BX.out.c1
      have ltBX := BX.out.lt
      go_wp2_with fail
      refine (J.ok TX1 TX2 cX1 cX2.val xd HL1.out HL2.out _ (X.out.lt le_w2).n (X.out.lt le_w2).p).mono ?_
      rintro e w5 ⟨rfl, hb5⟩
      rw [HXO.out]
      clear cBX0 cBX1 ltBX
      replace BD := Lib.hid (BD.out.still hb5)
      replace BX := Lib.hid (BX.out.still hb5)
      replace BY := Lib.hid (BY.out.still hb5)
      replace BA := Lib.hid (BA.out.still hb5)
      replace BC := Lib.hid (BC.out.still hb5)
      replace D0 := Lib.hid (keepDk (hb5.mono le_w1) D0.out)
      replace LL := Lib.hid (keepDd (hb5.mono le_w1) LL.out)
      replace X := Lib.hid (keepDk (hb5.mono le_w2) X.out)
      replace Y := Lib.hid (keepDk (hb5.mono le_w3) Y.out)
      replace A := Lib.hid (keepDk (hb5.mono le_wA) A.out)
      replace C := Lib.hid (keepDk (hb5.mono le_wC) C.out)
      replace le_w1 := Nat.le_trans le_w1 hb5.size
      replace le_WBD := Nat.le_trans le_WBD hb5.size
      replace le_w2 := Nat.le_trans le_w2 hb5.size
      replace le_WBX := Nat.le_trans le_WBX hb5.size
      replace le_w3 := Nat.le_trans le_w3 hb5.size
      replace le_WBY := Nat.le_trans le_WBY hb5.size
      replace le_wo := Nat.le_trans le_wo hb5.size
      replace le_wA := Nat.le_trans le_wA hb5.size
      replace le_wC := Nat.le_trans le_wC hb5.size
      replace BEL0 := Lib.hid (belT BEL0.out hb5)
      clear hb5
      have o_wC_w5 : wC.heap.size ≤ w5.heap.size := le_wC
      have le_w5 : w5.heap.size ≤ w5.heap.size := Nat.le_refl _
      have cBX0 := BX.out.c0
      have cBX1 := BX.out.c1
      have ltBX := BX.out.lt
      have cBC0 := BC.out.c0
      have cBC1 := BC.out.c1
      have ltBC := BC.out.lt
      go_wp2_with fail
      refine (sameDesk_c _ _ _ _ _ _ _ _ xd HL1.out HL2.out _ (C.out.lt le_wC).n (C.out.lt le_wC).p (X.out.lt le_w2).n (X.out.lt le_w2).p).mono ?_
      rintro e w6 ⟨rfl, hb6⟩
      replace BD := Lib.hid (BD.out.still hb6)
      replace BX := Lib.hid (BX.out.still hb6)
      replace BY := Lib.hid (BY.out.still hb6)
      replace BA := Lib.hid (BA.out.still hb6)
      replace BC := Lib.hid (BC.out.still hb6)
      replace D0 := Lib.hid (keepDk (hb6.mono le_w1) D0.out)
      replace LL := Lib.hid (keepDd (hb6.mono le_w1) LL.out)
      replace X := Lib.hid (keepDk (hb6.mono le_w2) X.out)
      replace Y := Lib.hid (keepDk (hb6.mono le_w3) Y.out)
      replace A := Lib.hid (keepDk (hb6.mono le_wA) A.out)
      replace C := Lib.hid (keepDk (hb6.mono le_wC) C.out)
      replace le_w1 := Nat.le_trans le_w1 hb6.size
      replace le_WBD := Nat.le_trans le_WBD hb6.size
      replace le_w2 := Nat.le_trans le_w2 hb6.size
      replace le_WBX := Nat.le_trans le_WBX hb6.size
      replace le_w3 := Nat.le_trans le_w3 hb6.size
      replace le_WBY := Nat.le_trans le_WBY hb6.size
      replace le_wo := Nat.le_trans le_wo hb6.size
      replace le_wA := Nat.le_trans le_wA hb6.size
      replace le_wC := Nat.le_trans le_wC hb6.size
      replace le_w5 := Nat.le_trans le_w5 hb6.size
      replace BEL0 := Lib.hid (belT BEL0.out hb6)
      clear hb6
      clear cBX0 cBX1 ltBX
      clear cBC0 cBC1 ltBC
      go_wp2_with fail
      go_ret
      exact ⟨rfl, BEL0.out⟩

end Go.Proofs.Ytlmaeadbomnhlaa
