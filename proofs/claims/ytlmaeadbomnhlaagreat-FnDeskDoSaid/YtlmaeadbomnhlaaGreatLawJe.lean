import Derived.Test.YtlmaeadbomnhlaaGreatExactJf
import Derived.Test.YtlmaeadbomnhlaaGreatLawJc
import Derived.Test.YtlmaeadbomnhlaaGreatSameZ
import Derived.Test.YtlmaeadbomnhlaaGreatDrawDh
import Derived.Test.YtlmaeadbomnhlaaGreatMO
namespace Go.Proofs.YtlmaeadbomnhlaaGreat
set_option linter.unusedSimpArgs false
set_option linter.unusedVariables false
open Go.RowKit

set_option maxHeartbeats 16000000 in
set_option maxRecDepth 100000 in
theorem wFnDeskDo (I : Impl12D) (J : Impl12O) (a : Option Addr) (len cap : Nat) (zs : List Int) (w : World) (h : IsRow .u8 w a len cap zs) :
    Calls Tryz.prog 3 #[.slice a len cap] w fun e w' => e = .returned (.bool true) ∧ Below w.heap.size w w' := by
  have hle := byte_len h
  by_cases hbig : (1048576 : Int) < (len : Int)
  · go_enter Tryz.func3, Tryz.ntmps3
    go_wp2_with fail
    go_ret
    exact ⟨rfl, Below.refl _ _⟩
  go_enter Tryz.func3, Tryz.ntmps3
  go_wp2_with fail
  refine (dDrawDeskDo a len cap zs w h).mono ?_
  rintro e w1 ⟨d, TN, cN, TP, cP, ⟨kd, rr, cc, nn⟩, rfl, B1, hn, hp, s1, s2⟩
  clear hbig hle
  have hx : d.now.length ≤ maxLen := by unfold maxLen; omega
  have hy : d.past.length ≤ maxLen := by unfold maxLen; omega
  have D0 : Hid (RdD w1 w1.heap.size TN TP d) := ⟨s1, s2⟩
  have BEL0 := Lib.hid B1
  have HSR := Lib.hid (do_smallD d ⟨kd, rr, cc, nn⟩)
  have HHY := Lib.hid (And.intro hx hy)
  have hsp := fun A B c k w' => deskDo_spec A B c k d ⟨kd, rr, cc, nn⟩ hx hy w'
  have him := fun A B c k hk w' => I.do_ A B c k d ⟨kd, rr, cc, nn⟩ hx hy hk w'
  obtain ⟨xd, hxd⟩ : ∃ x, doD d ⟨kd, rr, cc, nn⟩ = x := ⟨_, rfl⟩
  obtain ⟨ob, hob⟩ : ∃ x, canB d ⟨kd, rr, cc, nn⟩ = x := ⟨_, rfl⟩
  have HNM := Lib.hid (And.intro hxd hob)
  rw [hxd] at HSR
  rw [hxd, hob] at hsp him
  unfold dskV ddV at hsp him ⊢
  simp only at hsp him ⊢
  have HSP := Lib.hid hsp
  have HIM := Lib.hid him
  have HL1 : Hid (xd.now.length ≤ maxLen) := by have := HSR.out.now; show _ ≤ _; unfold maxLen; omega
  have HL2 : Hid (xd.past.length ≤ maxLen) := by have := HSR.out.past; show _ ≤ _; unfold maxLen; omega
  have zB : (ob != ob) = false := by simp
  clear hsp him hxd hob B1 s1 s2 hx hy
  obtain ⟨W, hW⟩ : ∃ W : World, W = (w1.alloc (.cells #[.slice TN d.now.length cN, .slice TP d.past.length cP.val] 26)).alloc (.cells #[.int .i64 kd, .int .i64 rr, .int .i64 cc, .int .i64 nn] 28) := ⟨_, rfl⟩
  have hbW : Below w1.heap.size w1 W := by rw [hW]; exact ((Below.refl _ _).alloc (Nat.le_refl _) _).alloc (by simp) _
  have BD : Hid (BoxD W w1.heap.size (.slice TN d.now.length cN) (.slice TP d.past.length cP.val)) := by show BoxD _ _ _ _; rw [hW]; exact ⟨by simp; omega, by simp [go_sem], by simp [go_sem]⟩
  have BA : Hid (BoxA W (w1.heap.size + 1) (.int .i64 kd) (.int .i64 rr) (.int .i64 cc) (.int .i64 nn)) := by show BoxA _ _ _ _ _ _; rw [hW]; exact ⟨by simp, by simp [go_sem], by simp [go_sem], by simp [go_sem], by simp [go_sem]⟩
  have bzBD : w1.heap.size + 1 < W.heap.size := by rw [hW]; simp
  have le_w1 : w1.heap.size ≤ W.heap.size := hbW.size
  replace D0 := Lib.hid (keepDk hbW D0.out)
  replace BEL0 := Lib.hid (belT BEL0.out hbW)
  clear hbW
  have cBD0 := BD.out.c0
  have cBD1 := BD.out.c1
  have ltBD := BD.out.lt
  have cBA0 := BA.out.c0
  have cBA1 := BA.out.c1
  have cBA2 := BA.out.c2
  have cBA3 := BA.out.c3
  have ltBA := BA.out.lt
  go_wp2_with fail
  try rw [← hW]
  clear hW
  go_wp2_with fail
  refine (HIM.out _ _ _ _ cP.two _ (D0.out.lt le_w1).n (D0.out.lt le_w1).p).mono ?_
  rintro e w2 ⟨TX1, cX1, TX2, cX2, AX, CX, UX, KX, rfl, hb2, ho2⟩
  unfold dskV
  have X := Lib.hid ho2.lt
  clear cBD0 cBD1 ltBD
  clear cBA0 cBA1 cBA2 cBA3 ltBA
  replace BD := Lib.hid (BD.out.still hb2)
  replace BA := Lib.hid (BA.out.still hb2)
  replace D0 := Lib.hid (keepDk (hb2.mono le_w1) D0.out)
  replace le_w1 := Nat.le_trans le_w1 hb2.size
  replace BEL0 := Lib.hid (belT BEL0.out hb2)
  have le_w2 : w2.heap.size ≤ w2.heap.size := Nat.le_refl _
  clear hb2 ho2
  have cBA0 := BA.out.c0
  have cBA1 := BA.out.c1
  have cBA2 := BA.out.c2
  have cBA3 := BA.out.c3
  have ltBA := BA.out.lt
  have cBD0 := BD.out.c0
  have cBD1 := BD.out.c1
  have ltBD := BD.out.lt
  go_wp2_with fail
  clear cBD0 cBD1 ltBD
  obtain ⟨WBX, hWBX⟩ : ∃ WBX : World, WBX = w2.alloc (.cells #[.slice TX1 xd.now.length cX1, .slice TX2 xd.past.length cX2] 26) := ⟨_, rfl⟩
  have hbWBX : Below w2.heap.size w2 WBX := by rw [hWBX]; exact (Below.refl _ _).alloc (Nat.le_refl _) _
  have BX : Hid (BoxD WBX w2.heap.size (.slice TX1 xd.now.length cX1) (.slice TX2 xd.past.length cX2)) := by show BoxD _ _ _ _; rw [hWBX]; exact BoxD.new _ _ _
  have bzBX : w2.heap.size < WBX.heap.size := by rw [hWBX]; simp
  rw [← hWBX]
  clear hWBX
  replace BD := Lib.hid (BD.out.still hbWBX)
  replace BA := Lib.hid (BA.out.still hbWBX)
  replace D0 := Lib.hid (keepDk (hbWBX.mono le_w1) D0.out)
  replace X := Lib.hid (keepDk (hbWBX.mono le_w2) X.out)
  replace le_w1 := Nat.le_trans le_w1 hbWBX.size
  replace le_w2 := Nat.le_trans le_w2 hbWBX.size
  replace BEL0 := Lib.hid (belT BEL0.out hbWBX)
  clear hbWBX
  clear cBA0 cBA1 cBA2 cBA3 ltBA
  have cBD0 := BD.out.c0
  have cBD1 := BD.out.c1
  have ltBD := BD.out.lt
  have cBA0 := BA.out.c0
  have cBA1 := BA.out.c1
  have cBA2 := BA.out.c2
  have cBA3 := BA.out.c3
  have ltBA := BA.out.lt
  go_wp2_with fail
  refine (HSP.out _ _ _ _ _ (D0.out.lt le_w1).n (D0.out.lt le_w1).p).mono ?_
  rintro e w3 ⟨TY1, cY1, TY2, cY2, AY, CY, UY, KY, rfl, hb3, ho3⟩
  unfold dskV
  have Y := Lib.hid ho3.lt
  clear cBD0 cBD1 ltBD
  clear cBA0 cBA1 cBA2 cBA3 ltBA
  replace BD := Lib.hid (BD.out.still hb3)
  replace BA := Lib.hid (BA.out.still hb3)
  replace BX := Lib.hid (BX.out.still hb3)
  replace D0 := Lib.hid (keepDk (hb3.mono le_w1) D0.out)
  replace X := Lib.hid (keepDk (hb3.mono le_w2) X.out)
  replace le_w1 := Nat.le_trans le_w1 hb3.size
  replace le_w2 := Nat.le_trans le_w2 hb3.size
  replace BEL0 := Lib.hid (belT BEL0.out hb3)
  have le_w3 : w3.heap.size ≤ w3.heap.size := Nat.le_refl _
  clear hb3 ho3
  have cBX0 := BX.out.c0
  have cBX1 := BX.out.c1
  have ltBX := BX.out.lt
  go_wp2_with fail
  clear cBX0 cBX1 ltBX
  obtain ⟨WBY, hWBY⟩ : ∃ WBY : World, WBY = w3.alloc (.cells #[.slice TY1 xd.now.length cY1, .slice TY2 xd.past.length cY2] 26) := ⟨_, rfl⟩
  have hbWBY : Below w3.heap.size w3 WBY := by rw [hWBY]; exact (Below.refl _ _).alloc (Nat.le_refl _) _
  have BY : Hid (BoxD WBY w3.heap.size (.slice TY1 xd.now.length cY1) (.slice TY2 xd.past.length cY2)) := by show BoxD _ _ _ _; rw [hWBY]; exact BoxD.new _ _ _
  have bzBY : w3.heap.size < WBY.heap.size := by rw [hWBY]; simp
  rw [← hWBY]
  clear hWBY
  replace BD := Lib.hid (BD.out.still hbWBY)
  replace BA := Lib.hid (BA.out.still hbWBY)
  replace BX := Lib.hid (BX.out.still hbWBY)
  replace D0 := Lib.hid (keepDk (hbWBY.mono le_w1) D0.out)
  replace X := Lib.hid (keepDk (hbWBY.mono le_w2) X.out)
  replace Y := Lib.hid (keepDk (hbWBY.mono le_w3) Y.out)
  replace le_w1 := Nat.le_trans le_w1 hbWBY.size
  replace le_w2 := Nat.le_trans le_w2 hbWBY.size
  replace le_w3 := Nat.le_trans le_w3 hbWBY.size
  replace BEL0 := Lib.hid (belT BEL0.out hbWBY)
  clear hbWBY
  have cBX0 := BX.out.c0
  have cBX1 := BX.out.c1
  have ltBX := BX.out.lt
  have cBY0 := BY.out.c0
  have cBY1 := BY.out.c1
  have ltBY := BY.out.lt
  go_wp2_with fail
  refine (sameDesk_c _ _ _ _ _ _ _ _ xd HL1.out HL2.out _ (X.out.lt le_w2).n (X.out.lt le_w2).p (Y.out.lt le_w3).n (Y.out.lt le_w3).p).mono ?_
  rintro e w4 ⟨rfl, hb4⟩
  replace BD := Lib.hid (BD.out.still hb4)
  replace BA := Lib.hid (BA.out.still hb4)
  replace BX := Lib.hid (BX.out.still hb4)
  replace BY := Lib.hid (BY.out.still hb4)
  replace D0 := Lib.hid (keepDk (hb4.mono le_w1) D0.out)
  replace X := Lib.hid (keepDk (hb4.mono le_w2) X.out)
  replace Y := Lib.hid (keepDk (hb4.mono le_w3) Y.out)
  replace le_w1 := Nat.le_trans le_w1 hb4.size
  replace le_w2 := Nat.le_trans le_w2 hb4.size
  replace le_w3 := Nat.le_trans le_w3 hb4.size
  replace BEL0 := Lib.hid (belT BEL0.out hb4)
  clear hb4
  clear cBX0 cBX1 ltBX
  clear cBY0 cBY1 ltBY
  clear BY
  clear Y
  clear le_w3
  rcases hob : ob with _ | _
  · subst hob
    rcases hk : dkB d with _ | _
    · have HZ : Hid (xd = dkZero) := by show _ = _; rw [← HNM.out.1]; exact (do_no hk _).1
      have HZD : Hid (∀ w', Calls Tryz.prog 7 #[.agg #[.slice TX1 xd.now.length cX1, .slice TX2 xd.past.length cX2], .agg #[.slice TN d.now.length cN, .slice TP d.past.length cP]] w' (fun e w'' => ∃ b : Bool, e = .returned (.bool b) ∧ Below w'.heap.size w' w'')) := fun w' => by generalize cX2.val = kX2; rw [HZ.out]; exact sameDesk_zero TX1 TX2 TN TP cX1 kX2 cN cP _ _ w'
      have cBX0 := BX.out.c0
      have cBX1 := BX.out.c1
      have ltBX := BX.out.lt
      have cBD0 := BD.out.c0
      have cBD1 := BD.out.c1
      have ltBD := BD.out.lt
      go_wp2_with fail
      refine (HZD.out _).mono ?_
      rintro e w5 ⟨sb, rfl, hb5⟩
      clear cBX0 cBX1 ltBX
      clear cBD0 cBD1 ltBD
      replace BD := Lib.hid (BD.out.still hb5)
      replace BA := Lib.hid (BA.out.still hb5)
      replace BX := Lib.hid (BX.out.still hb5)
      replace D0 := Lib.hid (keepDk (hb5.mono le_w1) D0.out)
      replace X := Lib.hid (keepDk (hb5.mono le_w2) X.out)
      replace le_w1 := Nat.le_trans le_w1 hb5.size
      replace le_w2 := Nat.le_trans le_w2 hb5.size
      replace BEL0 := Lib.hid (belT BEL0.out hb5)
      clear hb5
      have le_w5 : w5.heap.size ≤ w5.heap.size := Nat.le_refl _
      rcases hsb : sb with _ | _
      · subst hsb
        have HOK := Lib.hid (fun w' h1 h2 => J.ok TN TP cN cP.val d HHY.out.1 HHY.out.2 w' h1 h2)
        rw [hk] at HOK
        have cBD0 := BD.out.c0
        have cBD1 := BD.out.c1
        have ltBD := BD.out.lt
        go_wp2_with fail
        refine (HOK.out _ (D0.out.lt le_w1).n (D0.out.lt le_w1).p).mono ?_
        rintro e w6 ⟨rfl, hb6⟩
        clear cBD0 cBD1 ltBD
        replace BD := Lib.hid (BD.out.still hb6)
        replace BA := Lib.hid (BA.out.still hb6)
        replace BX := Lib.hid (BX.out.still hb6)
        replace D0 := Lib.hid (keepDk (hb6.mono le_w1) D0.out)
        replace X := Lib.hid (keepDk (hb6.mono le_w2) X.out)
        replace le_w1 := Nat.le_trans le_w1 hb6.size
        replace le_w2 := Nat.le_trans le_w2 hb6.size
        replace le_w5 := Nat.le_trans le_w5 hb6.size
        replace BEL0 := Lib.hid (belT BEL0.out hb6)
        clear hb6
        go_wp2_with fail
        refine (alive _).mono ?_
        rintro e w7 ⟨rfl, hb7⟩
        replace BD := Lib.hid (BD.out.still hb7)
        replace BA := Lib.hid (BA.out.still hb7)
        replace BX := Lib.hid (BX.out.still hb7)
        replace D0 := Lib.hid (keepDk (hb7.mono le_w1) D0.out)
        replace X := Lib.hid (keepDk (hb7.mono le_w2) X.out)
        replace le_w1 := Nat.le_trans le_w1 hb7.size
        replace le_w2 := Nat.le_trans le_w2 hb7.size
        replace le_w5 := Nat.le_trans le_w5 hb7.size
        replace BEL0 := Lib.hid (belT BEL0.out hb7)
        clear hb7
        go_wp2_with fail
        go_ret
        exact ⟨rfl, BEL0.out⟩
      · subst hsb
        go_wp2_with fail
        refine (alive _).mono ?_
        rintro e w6 ⟨rfl, hb6⟩
        replace BD := Lib.hid (BD.out.still hb6)
        replace BA := Lib.hid (BA.out.still hb6)
        replace BX := Lib.hid (BX.out.still hb6)
        replace D0 := Lib.hid (keepDk (hb6.mono le_w1) D0.out)
        replace X := Lib.hid (keepDk (hb6.mono le_w2) X.out)
        replace le_w1 := Nat.le_trans le_w1 hb6.size
        replace le_w2 := Nat.le_trans le_w2 hb6.size
        replace le_w5 := Nat.le_trans le_w5 hb6.size
        replace BEL0 := Lib.hid (belT BEL0.out hb6)
        clear hb6
        go_wp2_with fail
        go_ret
        exact ⟨rfl, BEL0.out⟩
    · have hxe : xd = d := by rw [← HNM.out.1]; exact do_stay hk HNM.out.2
      clear HNM
      subst hxe
      have cBX0 := BX.out.c0
      have cBX1 := BX.out.c1
      have ltBX := BX.out.lt
      have cBD0 := BD.out.c0
      have cBD1 := BD.out.c1
      have ltBD := BD.out.lt
      go_wp2_with fail
      refine (sameDesk_c _ _ _ _ _ _ _ _ xd HL1.out HL2.out _ (X.out.lt le_w2).n (X.out.lt le_w2).p (D0.out.lt le_w1).n (D0.out.lt le_w1).p).mono ?_
      rintro e w5 ⟨rfl, hb5⟩
      clear cBX0 cBX1 ltBX
      clear cBD0 cBD1 ltBD
      replace BD := Lib.hid (BD.out.still hb5)
      replace BA := Lib.hid (BA.out.still hb5)
      replace BX := Lib.hid (BX.out.still hb5)
      replace D0 := Lib.hid (keepDk (hb5.mono le_w1) D0.out)
      replace X := Lib.hid (keepDk (hb5.mono le_w2) X.out)
      replace le_w1 := Nat.le_trans le_w1 hb5.size
      replace le_w2 := Nat.le_trans le_w2 hb5.size
      replace BEL0 := Lib.hid (belT BEL0.out hb5)
      clear hb5
      have le_w5 : w5.heap.size ≤ w5.heap.size := Nat.le_refl _
      go_wp2_with fail
      refine (alive _).mono ?_
      rintro e w6 ⟨rfl, hb6⟩
      replace BD := Lib.hid (BD.out.still hb6)
      replace BA := Lib.hid (BA.out.still hb6)
      replace BX := Lib.hid (BX.out.still hb6)
      replace D0 := Lib.hid (keepDk (hb6.mono le_w1) D0.out)
      replace X := Lib.hid (keepDk (hb6.mono le_w2) X.out)
      replace le_w1 := Nat.le_trans le_w1 hb6.size
      replace le_w2 := Nat.le_trans le_w2 hb6.size
      replace le_w5 := Nat.le_trans le_w5 hb6.size
      replace BEL0 := Lib.hid (belT BEL0.out hb6)
      clear hb6
      go_wp2_with fail
      go_ret
      exact ⟨rfl, BEL0.out⟩
  · subst hob
    have hk : dkB d = true := by
      rcases hx : dkB d with _ | _
      · have := (do_no hx ⟨kd, rr, cc, nn⟩).2; rw [HNM.out.2] at this; cases this
      · rfl
    have hkx : dkB xd = true := by rw [← HNM.out.1]; exact do_ok hk _
    have HKX := Lib.hid hkx
    have hsol : solB d.now = true := by rw [← laid_sol]; exact (dkB_iff.1 hk).2.1
    have hsolx : solB xd.now = true := by rw [← laid_sol]; exact (dkB_iff.1 hkx).2.1
    have HUN : Hid (kd ≠ 4 → d.past.length < 8 → canB xd ddBack = true ∧ doD xd ddBack = d) := fun h4 h8 => by rw [← HNM.out.1]; exact do_undo HNM.out.2 h4 h8
    have HSM : Hid (kd = 3 → solU xd.now = solU d.now ∧ solD xd.now = solD d.now) := fun h3 => by rw [← HNM.out.1]; exact do_small HNM.out.2 h3
    have hib := fun A B c k hk w' => I.do_ A B c k xd ddBack HL1.out HL2.out hk w'
    have HSB := Lib.hid (do_smallD xd ddBack)
    obtain ⟨bd, hbd⟩ : ∃ x, doD xd ddBack = x := ⟨_, rfl⟩
    obtain ⟨cb, hcb⟩ : ∃ x, canB xd ddBack = x := ⟨_, rfl⟩
    rw [hbd, hcb] at hib HUN
    rw [hbd] at HSB
    unfold dskV ddV ddBack at hib
    simp only at hib
    have HIB := Lib.hid hib
    have hwd := fun w' h => worth_impl TN cN d.now HHY.out.1 w' h
    have hwx := fun w' h => worth_impl TX1 cX1 xd.now HL1.out w' h
    rw [hsol] at hwd
    rw [hsolx] at hwx
    obtain ⟨U, hU⟩ : ∃ x, solU d.now = x := ⟨_, rfl⟩
    obtain ⟨V, hV⟩ : ∃ x, solD d.now = x := ⟨_, rfl⟩
    obtain ⟨U', hU'⟩ : ∃ x, solU xd.now = x := ⟨_, rfl⟩
    obtain ⟨V', hV'⟩ : ∃ x, solD xd.now = x := ⟨_, rfl⟩
    rw [hU, hV] at hwd
    rw [hU', hV'] at hwx
    rw [hU, hV, hU', hV'] at HSM
    unfold FracRes at hwd hwx
    have HWD := Lib.hid hwd
    have HWX := Lib.hid hwx
    clear hk hkx hsol hsolx hib hbd hcb hwd hwx hU hV hU' hV' HNM
    have cBX0 := BX.out.c0
    have cBX1 := BX.out.c1
    have ltBX := BX.out.lt
    go_wp2_with fail
    refine (HIB.out _ _ _ _ cX2.two _ (X.out.lt le_w2).n (X.out.lt le_w2).p).mono ?_
    rintro e w5 ⟨TB1, cB1, TB2, cB2, AB, CB, UB, KB, rfl, hb5, ho5⟩
    unfold dskV
    have B := Lib.hid ho5.lt
    clear cBX0 cBX1 ltBX
    replace BD := Lib.hid (BD.out.still hb5)
    replace BA := Lib.hid (BA.out.still hb5)
    replace BX := Lib.hid (BX.out.still hb5)
    replace D0 := Lib.hid (keepDk (hb5.mono le_w1) D0.out)
    replace X := Lib.hid (keepDk (hb5.mono le_w2) X.out)
    replace le_w1 := Nat.le_trans le_w1 hb5.size
    replace le_w2 := Nat.le_trans le_w2 hb5.size
    replace BEL0 := Lib.hid (belT BEL0.out hb5)
    have le_w5 : w5.heap.size ≤ w5.heap.size := Nat.le_refl _
    clear hb5 ho5
    have cBD0 := BD.out.c0
    have cBD1 := BD.out.c1
    have ltBD := BD.out.lt
    go_wp2_with fail
    clear cBD0 cBD1 ltBD
    obtain ⟨WBB, hWBB⟩ : ∃ WBB : World, WBB = w5.alloc (.cells #[.slice TB1 bd.now.length cB1, .slice TB2 bd.past.length cB2] 26) := ⟨_, rfl⟩
    have hbWBB : Below w5.heap.size w5 WBB := by rw [hWBB]; exact (Below.refl _ _).alloc (Nat.le_refl _) _
    have BB : Hid (BoxD WBB w5.heap.size (.slice TB1 bd.now.length cB1) (.slice TB2 bd.past.length cB2)) := by show BoxD _ _ _ _; rw [hWBB]; exact BoxD.new _ _ _
    have bzBB : w5.heap.size < WBB.heap.size := by rw [hWBB]; simp
    rw [← hWBB]
    clear hWBB
    replace BD := Lib.hid (BD.out.still hbWBB)
    replace BA := Lib.hid (BA.out.still hbWBB)
    replace BX := Lib.hid (BX.out.still hbWBB)
    replace D0 := Lib.hid (keepDk (hbWBB.mono le_w1) D0.out)
    replace X := Lib.hid (keepDk (hbWBB.mono le_w2) X.out)
    replace B := Lib.hid (keepDk (hbWBB.mono le_w5) B.out)
    replace le_w1 := Nat.le_trans le_w1 hbWBB.size
    replace le_w2 := Nat.le_trans le_w2 hbWBB.size
    replace le_w5 := Nat.le_trans le_w5 hbWBB.size
    replace BEL0 := Lib.hid (belT BEL0.out hbWBB)
    clear hbWBB
    have cBD0 := BD.out.c0
    have cBD1 := BD.out.c1
    have ltBD := BD.out.lt
    go_wp2_with fail
    refine (HWD.out _ (D0.out.lt le_w1).n).mono ?_
    rintro e w6 ⟨rfl, hb6⟩
    clear cBD0 cBD1 ltBD
    replace BD := Lib.hid (BD.out.still hb6)
    replace BA := Lib.hid (BA.out.still hb6)
    replace BX := Lib.hid (BX.out.still hb6)
    replace BB := Lib.hid (BB.out.still hb6)
    replace D0 := Lib.hid (keepDk (hb6.mono le_w1) D0.out)
    replace X := Lib.hid (keepDk (hb6.mono le_w2) X.out)
    replace B := Lib.hid (keepDk (hb6.mono le_w5) B.out)
    replace le_w1 := Nat.le_trans le_w1 hb6.size
    replace le_w2 := Nat.le_trans le_w2 hb6.size
    replace le_w5 := Nat.le_trans le_w5 hb6.size
    replace BEL0 := Lib.hid (belT BEL0.out hb6)
    clear hb6
    have cBX0 := BX.out.c0
    have cBX1 := BX.out.c1
    have ltBX := BX.out.lt
    go_wp2_with fail
    clear cBX0 cBX1 ltBX
    obtain ⟨WBF, hWBF⟩ : ∃ WBF : World, WBF = w6.alloc (.cells #[.int .i64 U, .int .i64 V] 37) := ⟨_, rfl⟩
    have hbWBF : Below w6.heap.size w6 WBF := by rw [hWBF]; exact (Below.refl _ _).alloc (Nat.le_refl _) _
    have BF : Hid (BoxD WBF w6.heap.size (.int .i64 U) (.int .i64 V)) := by show BoxD _ _ _ _; rw [hWBF]; exact ⟨by simp, by simp [go_sem], by simp [go_sem]⟩
    have bzBF : w6.heap.size < WBF.heap.size := by rw [hWBF]; simp
    rw [← hWBF]
    clear hWBF
    replace BD := Lib.hid (BD.out.still hbWBF)
    replace BA := Lib.hid (BA.out.still hbWBF)
    replace BX := Lib.hid (BX.out.still hbWBF)
    replace BB := Lib.hid (BB.out.still hbWBF)
    replace D0 := Lib.hid (keepDk (hbWBF.mono le_w1) D0.out)
    replace X := Lib.hid (keepDk (hbWBF.mono le_w2) X.out)
    replace B := Lib.hid (keepDk (hbWBF.mono le_w5) B.out)
    replace le_w1 := Nat.le_trans le_w1 hbWBF.size
    replace le_w2 := Nat.le_trans le_w2 hbWBF.size
    replace le_w5 := Nat.le_trans le_w5 hbWBF.size
    replace BEL0 := Lib.hid (belT BEL0.out hbWBF)
    clear hbWBF
    have cBX0 := BX.out.c0
    have cBX1 := BX.out.c1
    have ltBX := BX.out.lt
    go_wp2_with fail
    refine (HWX.out _ (X.out.lt le_w2).n).mono ?_
    rintro e w7 ⟨rfl, hb7⟩
    clear cBX0 cBX1 ltBX
    replace BD := Lib.hid (BD.out.still hb7)
    replace BA := Lib.hid (BA.out.still hb7)
    replace BX := Lib.hid (BX.out.still hb7)
    replace BB := Lib.hid (BB.out.still hb7)
    replace BF := Lib.hid (BF.out.still hb7)
    replace D0 := Lib.hid (keepDk (hb7.mono le_w1) D0.out)
    replace X := Lib.hid (keepDk (hb7.mono le_w2) X.out)
    replace B := Lib.hid (keepDk (hb7.mono le_w5) B.out)
    replace le_w1 := Nat.le_trans le_w1 hb7.size
    replace le_w2 := Nat.le_trans le_w2 hb7.size
    replace le_w5 := Nat.le_trans le_w5 hb7.size
    replace BEL0 := Lib.hid (belT BEL0.out hb7)
    clear hb7
    have cBX0 := BX.out.c0
    have cBX1 := BX.out.c1
    have ltBX := BX.out.lt
    go_wp2_with fail
    clear cBX0 cBX1 ltBX
    obtain ⟨WBH, hWBH⟩ : ∃ WBH : World, WBH = w7.alloc (.cells #[.int .i64 U', .int .i64 V'] 37) := ⟨_, rfl⟩
    have hbWBH : Below w7.heap.size w7 WBH := by rw [hWBH]; exact (Below.refl _ _).alloc (Nat.le_refl _) _
    have BH : Hid (BoxD WBH w7.heap.size (.int .i64 U') (.int .i64 V')) := by show BoxD _ _ _ _; rw [hWBH]; exact ⟨by simp, by simp [go_sem], by simp [go_sem]⟩
    have bzBH : w7.heap.size < WBH.heap.size := by rw [hWBH]; simp
    rw [← hWBH]
    clear hWBH
    replace BD := Lib.hid (BD.out.still hbWBH)
    replace BA := Lib.hid (BA.out.still hbWBH)
    replace BX := Lib.hid (BX.out.still hbWBH)
    replace BB := Lib.hid (BB.out.still hbWBH)
    replace BF := Lib.hid (BF.out.still hbWBH)
    replace D0 := Lib.hid (keepDk (hbWBH.mono le_w1) D0.out)
    replace X := Lib.hid (keepDk (hbWBH.mono le_w2) X.out)
    replace B := Lib.hid (keepDk (hbWBH.mono le_w5) B.out)
    replace le_w1 := Nat.le_trans le_w1 hbWBH.size
    replace le_w2 := Nat.le_trans le_w2 hbWBH.size
    replace le_w5 := Nat.le_trans le_w5 hbWBH.size
    replace BEL0 := Lib.hid (belT BEL0.out hbWBH)
    clear hbWBH
    have cBX0 := BX.out.c0
    have cBX1 := BX.out.c1
    have ltBX := BX.out.lt
    go_wp2_with fail
    refine (J.ok TX1 TX2 cX1 cX2.val xd HL1.out HL2.out _ (X.out.lt le_w2).n (X.out.lt le_w2).p).mono ?_
    rintro e w8 ⟨rfl, hb8⟩
    rw [HKX.out]
    clear cBX0 cBX1 ltBX
    replace BD := Lib.hid (BD.out.still hb8)
    replace BA := Lib.hid (BA.out.still hb8)
    replace BX := Lib.hid (BX.out.still hb8)
    replace BB := Lib.hid (BB.out.still hb8)
    replace BF := Lib.hid (BF.out.still hb8)
    replace BH := Lib.hid (BH.out.still hb8)
    replace D0 := Lib.hid (keepDk (hb8.mono le_w1) D0.out)
    replace X := Lib.hid (keepDk (hb8.mono le_w2) X.out)
    replace B := Lib.hid (keepDk (hb8.mono le_w5) B.out)
    replace le_w1 := Nat.le_trans le_w1 hb8.size
    replace le_w2 := Nat.le_trans le_w2 hb8.size
    replace le_w5 := Nat.le_trans le_w5 hb8.size
    replace BEL0 := Lib.hid (belT BEL0.out hb8)
    clear hb8
    clear BX
    clear X
    clear le_w2
    by_cases h4 : kd = 4
    · have e4 : (kd == 4) = true := by rw [beq_iff_eq]; exact h4
      have e3 : (kd != 3) = true := by rw [bne_iff_ne]; omega
      clear h4
      have cBD0 := BD.out.c0
      have cBD1 := BD.out.c1
      have ltBD := BD.out.lt
      have cBA0 := BA.out.c0
      have cBA1 := BA.out.c1
      have cBA2 := BA.out.c2
      have cBA3 := BA.out.c3
      have ltBA := BA.out.lt
      go_wp2_with fail
      go_ret
      exact ⟨rfl, BEL0.out⟩
    have e4 : (kd == 4) = false := by rw [beq_eq_false_iff_ne]; exact h4
    by_cases h8 : 8 ≤ d.past.length
    · have h8i : (8 : Int) ≤ (d.past.length : Int) := by omega
      clear h4
      by_cases h3 : kd = 3
      · have e3 : (kd != 3) = false := by rw [bne_eq_false_iff_eq]; exact h3
        obtain ⟨hu, hv⟩ := HSM.out h3
        subst hu
        subst hv
        have cBD0 := BD.out.c0
        have cBD1 := BD.out.c1
        have ltBD := BD.out.lt
        have cBF0 := BF.out.c0
        have cBF1 := BF.out.c1
        have ltBF := BF.out.lt
        have cBH0 := BH.out.c0
        have cBH1 := BH.out.c1
        have ltBH := BH.out.lt
        have cBA0 := BA.out.c0
        have cBA1 := BA.out.c1
        have cBA2 := BA.out.c2
        have cBA3 := BA.out.c3
        have ltBA := BA.out.lt
        go_wp2_with fail
        go_ret
        exact ⟨rfl, BEL0.out⟩
      · have e3 : (kd != 3) = true := by rw [bne_iff_ne]; exact h3
        clear h3
        have cBD0 := BD.out.c0
        have cBD1 := BD.out.c1
        have ltBD := BD.out.lt
        have cBA0 := BA.out.c0
        have cBA1 := BA.out.c1
        have cBA2 := BA.out.c2
        have cBA3 := BA.out.c3
        have ltBA := BA.out.lt
        go_wp2_with fail
        go_ret
        exact ⟨rfl, BEL0.out⟩
    have h8i : ¬ (8 : Int) ≤ (d.past.length : Int) := by omega
    obtain ⟨hcb, hbd⟩ := HUN.out h4 (by omega)
    clear h4 h8 HUN
    subst hcb hbd
    by_cases h3 : kd = 3
    · have e3 : (kd != 3) = false := by rw [bne_eq_false_iff_eq]; exact h3
      obtain ⟨hu, hv⟩ := HSM.out h3
      subst hu
      subst hv
      have cBB0 := BB.out.c0
      have cBB1 := BB.out.c1
      have ltBB := BB.out.lt
      have cBD0 := BD.out.c0
      have cBD1 := BD.out.c1
      have ltBD := BD.out.lt
      have cBA0 := BA.out.c0
      have cBA1 := BA.out.c1
      have cBA2 := BA.out.c2
      have cBA3 := BA.out.c3
      have ltBA := BA.out.lt
      go_wp2_with fail
      refine (sameDesk_c _ _ _ _ _ _ _ _ bd HHY.out.1 HHY.out.2 _ (B.out.lt le_w5).n (B.out.lt le_w5).p (D0.out.lt le_w1).n (D0.out.lt le_w1).p).mono ?_
      rintro e w9 ⟨rfl, hb9⟩
      clear cBB0 cBB1 ltBB
      clear cBD0 cBD1 ltBD
      clear cBA0 cBA1 cBA2 cBA3 ltBA
      replace BD := Lib.hid (BD.out.still hb9)
      replace BA := Lib.hid (BA.out.still hb9)
      replace BB := Lib.hid (BB.out.still hb9)
      replace BF := Lib.hid (BF.out.still hb9)
      replace BH := Lib.hid (BH.out.still hb9)
      replace D0 := Lib.hid (keepDk (hb9.mono le_w1) D0.out)
      replace B := Lib.hid (keepDk (hb9.mono le_w5) B.out)
      replace le_w1 := Nat.le_trans le_w1 hb9.size
      replace le_w5 := Nat.le_trans le_w5 hb9.size
      replace BEL0 := Lib.hid (belT BEL0.out hb9)
      clear hb9
      have cBF0 := BF.out.c0
      have cBF1 := BF.out.c1
      have ltBF := BF.out.lt
      have cBH0 := BH.out.c0
      have cBH1 := BH.out.c1
      have ltBH := BH.out.lt
      have cBA0 := BA.out.c0
      have cBA1 := BA.out.c1
      have cBA2 := BA.out.c2
      have cBA3 := BA.out.c3
      have ltBA := BA.out.lt
      go_wp2_with fail
      go_ret
      exact ⟨rfl, BEL0.out⟩
    · have e3 : (kd != 3) = true := by rw [bne_iff_ne]; exact h3
      clear h3
      have cBB0 := BB.out.c0
      have cBB1 := BB.out.c1
      have ltBB := BB.out.lt
      have cBD0 := BD.out.c0
      have cBD1 := BD.out.c1
      have ltBD := BD.out.lt
      have cBA0 := BA.out.c0
      have cBA1 := BA.out.c1
      have cBA2 := BA.out.c2
      have cBA3 := BA.out.c3
      have ltBA := BA.out.lt
      go_wp2_with fail
      refine (sameDesk_c _ _ _ _ _ _ _ _ bd HHY.out.1 HHY.out.2 _ (B.out.lt le_w5).n (B.out.lt le_w5).p (D0.out.lt le_w1).n (D0.out.lt le_w1).p).mono ?_
      rintro e w9 ⟨rfl, hb9⟩
      clear cBB0 cBB1 ltBB
      clear cBD0 cBD1 ltBD
      clear cBA0 cBA1 cBA2 cBA3 ltBA
      replace BD := Lib.hid (BD.out.still hb9)
      replace BA := Lib.hid (BA.out.still hb9)
      replace BB := Lib.hid (BB.out.still hb9)
      replace BF := Lib.hid (BF.out.still hb9)
      replace BH := Lib.hid (BH.out.still hb9)
      replace D0 := Lib.hid (keepDk (hb9.mono le_w1) D0.out)
      replace B := Lib.hid (keepDk (hb9.mono le_w5) B.out)
      replace le_w1 := Nat.le_trans le_w1 hb9.size
      replace le_w5 := Nat.le_trans le_w5 hb9.size
      replace BEL0 := Lib.hid (belT BEL0.out hb9)
      clear hb9
      have cBA0 := BA.out.c0
      have cBA1 := BA.out.c1
      have cBA2 := BA.out.c2
      have cBA3 := BA.out.c3
      have ltBA := BA.out.lt
      go_wp2_with fail
      go_ret
      exact ⟨rfl, BEL0.out⟩

end Go.Proofs.YtlmaeadbomnhlaaGreat
