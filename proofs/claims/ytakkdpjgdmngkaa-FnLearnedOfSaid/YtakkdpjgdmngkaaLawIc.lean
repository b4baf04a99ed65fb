/- The walk of the law of LearnedOf, over contracts of the program's functions. (Written by wip/gen/law11.py.) -/
import Derived.Test.YtakkdpjgdmngkaaLawIb
import Derived.Test.YtakkdpjgdmngkaaMO
import Derived.Test.YtakkdpjgdmngkaaMC
import Derived.Test.YtakkdpjgdmngkaaMI
import Derived.Test.YtakkdpjgdmngkaaMB
namespace Go.Proofs.Ytakkdpjgdmngkaa
set_option linter.unusedSimpArgs false
set_option linter.unusedVariables false
open Go.RowKit

set_option maxHeartbeats 2000000 in
theorem sameCounts_c (A B A' B' : Option Addr) (c k c' k' : Nat) (x y : List Int) (hx : x.length ≤ maxLen) (hy : y.length ≤ maxLen) (w : World) (h1 : Ints w (· < w.heap.size) A x) (h2 : Ints w (· < w.heap.size) B y) (h3 : Ints w (· < w.heap.size) A' x) (h4 : Ints w (· < w.heap.size) B' y) :
    Calls Try.prog 12 #[.agg #[.slice A x.length c, .slice B y.length k], .agg #[.slice A' x.length c', .slice B' y.length k']] w (Adds (.bool true) w) := by
  have H1 := Lib.hid h1
  have H2 := Lib.hid h2
  have H3 := Lib.hid h3
  have H4 := Lib.hid h4
  clear h1 h2 h3 h4
  go_enter Try.func12, Try.ntmps12
  go_wp2_with fail
  obtain ⟨W, hW⟩ : ∃ W : World, W = ((w.alloc (.cells #[(Value.slice A x.length c), (Value.slice B y.length k)] 28)).alloc (.cells #[(Value.slice A' x.length c'), (Value.slice B' y.length k')] 28)) := ⟨_, rfl⟩
  have hzW : W.heap.size = w.heap.size + 2 := by rw [hW]; simp
  have hbW : Below w.heap.size w W := by rw [hW]; exact (by repeat (first | exact Below.refl _ _ | assumption | exact bel1 (by assumption) | exact bel2 (by assumption) | exact bel3 (by assumption) | exact bel4 (by assumption) | refine Below.drew ?_ | refine below_drewN ?_ _ | refine Below.setCell ?_ (by first | (simp; done) | (simp; omega)) _ | refine Below.alloc ?_ (by first | (simp; done) | (simp; omega)) _))
  have r00 := stays (p := w.heap.size) (o := 0) (by omega) (show W.cell? ⟨w.heap.size, 0, none⟩ = some ((Value.slice A x.length c)) from by rw [hW]; simp [go_sem])
  have r01 := stays (p := w.heap.size) (o := 1) (by omega) (show W.cell? ⟨w.heap.size, 1, none⟩ = some ((Value.slice B y.length k)) from by rw [hW]; simp [go_sem])
  have r10 := stays (p := w.heap.size + 1) (o := 0) (by omega) (show W.cell? ⟨w.heap.size + 1, 0, none⟩ = some ((Value.slice A' x.length c')) from by rw [hW]; simp [go_sem])
  have r11 := stays (p := w.heap.size + 1) (o := 1) (by omega) (show W.cell? ⟨w.heap.size + 1, 1, none⟩ = some ((Value.slice B' y.length k')) from by rw [hW]; simp [go_sem])
  rw [← hW]
  clear hW
  have HzW := Lib.hid hzW
  clear hzW
  have HBW := Lib.hid hbW
  have hkk := Below.refl W.heap.size W
  have q00 := r00 _ hkk
  have q01 := r01 _ hkk
  have q10 := r10 _ hkk
  have q11 := r11 _ hkk
  clear r00 r10 hkk
  try go_wp2_with fail
  refine (sameInts _ _ _ _ x _ _ hx _ (keepInts HBW.out H1.out) (keepInts HBW.out H3.out)).mono ?_
  rintro e w2 ⟨rfl, n, rfl⟩
  have hk2 : Below W.heap.size W (W.drewN n) := below_drewN (Below.refl _ _) n
  have HB2 : Hid (Below w.heap.size w (W.drewN n)) := below_drewN HBW.out n
  go_wp2_with fail
  refine (sameInts _ _ _ _ y _ _ hy _ (keepInts HB2.out H2.out) (keepInts HB2.out H4.out)).mono ?_
  rintro e w3 ⟨rfl, n2, rfl⟩
  go_wp2_with fail
  go_ret
  exact Adds.of rfl (below_drewN HBW.out _)

/-- what the law asks of what is learned -/
structure LrnL (g : List (List Int)) (s : Int) : Prop where
  mx : mixB (lrnX g s) g.length = true
  my : mixB (lrnY g s) (rowAt g 0).length = true
  sum : sumW (lrnX g s) (lrnX g s).length = s
  bd : ∀ k, k ≤ (lrnX g s).length → 0 ≤ sumW (lrnX g s) k ∧ sumW (lrnX g s) k ≤ 2000000
  saf : safB g (lrnX g s) = true
  ris : risB g (lrnY g s) = true
  one : solB g = true → lessB (solU g) (solD g) (safU g (lrnX g s)) (safD g (lrnX g s)) = false
  two : solB g = true → lessB (risU g (lrnY g s)) (risD g (lrnY g s)) (solU g) (solD g) = false
  sad : 0 < (saddles g).length → nth (saddles g) 0 = 0 → setB g (lrnX g s) (lrnY g s) = true

theorem lrn_law {g : List (List Int)} {s : Int} (h : lrnB g s = true) : LrnL g s := by
  have hg : gameB g = true := by unfold lrnB at h; rw [Bool.and_eq_true] at h; exact h.1
  have hs : 1 ≤ s ∧ s ≤ 60 := by unfold lrnB at h; rw [Bool.and_eq_true] at h; have := h.2; unfold inR at this; exact of_decide_eq_true this
  have hX : lrnX g s = (lrnP g (s.toNat - 1)).1 ∧ lrnY g s = (lrnP g (s.toNat - 1)).2 := by unfold lrnX lrnY; rw [h]; exact ⟨rfl, rfl⟩
  obtain ⟨q, hq⟩ : ∃ q, s.toNat - 1 = q := ⟨_, rfl⟩
  have hq60 : q ≤ 60 := by omega
  rw [hq] at hX
  have hgm := Game.of hg
  obtain ⟨m1, m2⟩ := lrnP_mix hg hq60
  obtain ⟨s1, s2⟩ := lrn_safe hg hq60
  obtain ⟨l1, l2⟩ := lrnP_length g q
  have hb := (lrnP_bd g q).1
  refine ⟨by rw [hX.1]; exact m1.to, by rw [hX.2]; exact m2.to, ?_, fun k hk => ?_, by rw [hX.1]; exact s1, by rw [hX.2]; exact s2, fun hso => by rw [hX.1]; exact (lrn_caught hso hq60).1, fun hso => by rw [hX.2]; exact (lrn_caught hso hq60).2, fun a b => by rw [hX.1, hX.2]; exact lrn_first hg a b hq60⟩
  · rw [hX.1, l1, (lrnP_sum hgm.lo hgm.mlo q).1]; omega
  · rw [hX.1] at hk ⊢
    have h1 := sumW_bd (lrnP g q).1 k (fun i hi => ⟨(hb i (by omega)).1, Int.le_trans (hb i (by omega)).2 (show ((q : Int) + 1) ≤ 100000 by omega)⟩)
    have := hgm.hi
    exact ⟨h1.1, by omega⟩

set_option maxHeartbeats 4000000 in
set_option maxRecDepth 100000 in
theorem wFnLearnedOf (I : Impl11) (a : Option Addr) (len cap : Nat) (zs : List Int) (w : World) (h : IsRow .u8 w a len cap zs) :
    Calls Try.prog 3 #[.slice a len cap] w fun e w' => e = .returned (.bool true) ∧ Below w.heap.size w w' := by
  have hle := byte_len h
  by_cases hbig : (1048576 : Int) < (len : Int)
  · go_enter Try.func3, Try.ntmps3
    go_wp2_with fail
    go_ret
    exact ⟨rfl, Below.refl _ _⟩
  go_enter Try.func3, Try.ntmps3
  go_wp2_with fail
  refine (dDrawLearnedOf a len cap zs w h).mono ?_
  rintro e w1 ⟨g, T, c, s, rfl, hc1, hc2, hg17, hgr, hs1, hs2, hb1, ho1⟩
  clear hbig hle
  have BEL0 := Lib.hid hb1
  have R0 := Lib.hid ho1.lt
  have hl := small_max hg17
  have fs := wf_steps hs1 hs2
  clear hb1 ho1 hgr hc1 hc2
  obtain ⟨hlx, hly⟩ := lrn_len g s
  have HL1 : Hid ((lrnX g s).length ≤ maxLen) := by show _ ≤ _; unfold maxLen; omega
  have HL2 : Hid ((lrnY g s).length ≤ maxLen) := by show _ ≤ _; unfold maxLen; omega
  go_wp2_with fail
  refine (I.learn _ _ g s fs hl _ R0.out).mono ?_
  rintro e w2 ⟨TC1, cC1, TC2, cC2, rfl, hb2, ho2, hp2, hd2⟩
  have C1 : Hid (Ints w2 (fun b => b < w2.heap.size) TC1 (lrnX g s)) := ho2.ints.mono fun b h => h.2
  have C2 : Hid (Ints w2 (fun b => b < w2.heap.size) TC2 (lrnY g s)) := hp2.ints.mono fun b h => h.2
  clear hd2
  replace R0 := Lib.hid (stillRows R0.out hb2)
  replace BEL0 := Lib.hid (belT BEL0.out hb2)
  clear hb2 ho2 hp2
  go_wp2_with fail
  obtain ⟨WBC, hWBC⟩ : ∃ WBC : World, WBC = w2.alloc (.cells #[.slice TC1 (lrnX g s).length cC1, .slice TC2 (lrnY g s).length cC2] 28) := ⟨_, rfl⟩
  have hbWBC : Below w2.heap.size w2 WBC := by rw [hWBC]; exact (Below.refl _ _).alloc (Nat.le_refl _) _
  have hzWBC : WBC.heap.size = w2.heap.size + 1 := by rw [hWBC]; simp
  have BC : Hid (BoxC WBC w2.heap.size (.slice TC1 (lrnX g s).length cC1) (.slice TC2 (lrnY g s).length cC2)) := by show BoxC _ _ _ _; rw [hWBC]; exact BoxC.new _ _ _
  rw [← hWBC]
  clear hWBC
  replace R0 := Lib.hid (stillRows R0.out hbWBC)
  replace C1 := Lib.hid (stillInts C1.out hbWBC)
  replace C2 := Lib.hid (stillInts C2.out hbWBC)
  replace BEL0 := Lib.hid (belT BEL0.out hbWBC)
  clear hbWBC
  refine (learned_spec _ _ g s hl _ R0.out).mono ?_
  rintro e w3 ⟨TV1, cV1, TV2, cV2, rfl, hb3, ho3, hp3, hd3⟩
  have V1 : Hid (Ints w3 (fun b => b < w3.heap.size) TV1 (lrnX g s)) := ho3.ints.mono fun b h => h.2
  have V2 : Hid (Ints w3 (fun b => b < w3.heap.size) TV2 (lrnY g s)) := hp3.ints.mono fun b h => h.2
  clear hd3
  replace R0 := Lib.hid (stillRows R0.out hb3)
  replace C1 := Lib.hid (stillInts C1.out hb3)
  replace C2 := Lib.hid (stillInts C2.out hb3)
  replace BC := Lib.hid (BC.out.still hb3)
  replace BEL0 := Lib.hid (belT BEL0.out hb3)
  clear hb3 ho3 hp3
  have cBC0 := BC.out.c0
  have cBC1 := BC.out.c1
  have ltBC := BC.out.lt
  go_wp2_with fail
  obtain ⟨WBV, hWBV⟩ : ∃ WBV : World, WBV = w3.alloc (.cells #[.slice TV1 (lrnX g s).length cV1, .slice TV2 (lrnY g s).length cV2] 28) := ⟨_, rfl⟩
  have hbWBV : Below w3.heap.size w3 WBV := by rw [hWBV]; exact (Below.refl _ _).alloc (Nat.le_refl _) _
  have hzWBV : WBV.heap.size = w3.heap.size + 1 := by rw [hWBV]; simp
  have BV : Hid (BoxC WBV w3.heap.size (.slice TV1 (lrnX g s).length cV1) (.slice TV2 (lrnY g s).length cV2)) := by show BoxC _ _ _ _; rw [hWBV]; exact BoxC.new _ _ _
  rw [← hWBV]
  clear hWBV
  replace R0 := Lib.hid (stillRows R0.out hbWBV)
  replace C1 := Lib.hid (stillInts C1.out hbWBV)
  replace C2 := Lib.hid (stillInts C2.out hbWBV)
  replace BC := Lib.hid (BC.out.still hbWBV)
  replace V1 := Lib.hid (stillInts V1.out hbWBV)
  replace V2 := Lib.hid (stillInts V2.out hbWBV)
  replace BEL0 := Lib.hid (belT BEL0.out hbWBV)
  clear hbWBV
  clear cBC0 cBC1 ltBC
  clear hzWBC hzWBV
  have cBC0 := BC.out.c0
  have cBC1 := BC.out.c1
  have ltBC := BC.out.lt
  have cBV0 := BV.out.c0
  have cBV1 := BV.out.c1
  have ltBV := BV.out.lt
  go_wp2_with fail
  refine (sameCounts_c _ _ _ _ _ _ _ _ (lrnX g s) (lrnY g s) HL1.out HL2.out _ C1.out C2.out V1.out V2.out).mono ?_
  rintro e w4 ⟨rfl, hb4⟩
  replace R0 := Lib.hid (stillRows R0.out hb4)
  replace C1 := Lib.hid (stillInts C1.out hb4)
  replace C2 := Lib.hid (stillInts C2.out hb4)
  replace BC := Lib.hid (BC.out.still hb4)
  replace V1 := Lib.hid (stillInts V1.out hb4)
  replace V2 := Lib.hid (stillInts V2.out hb4)
  replace BV := Lib.hid (BV.out.still hb4)
  replace BEL0 := Lib.hid (belT BEL0.out hb4)
  clear hb4
  clear cBC0 cBC1 ltBC
  clear cBV0 cBV1 ltBV
  clear V1
  clear V2
  clear BV
  have zB : (lrnB g s != lrnB g s) = false := by simp
  rcases hb : lrnB g s with _ | _
  · skip
    obtain ⟨e1, e2⟩ := lrn_no hb
    rw [e1] at C1
    rw [e2] at C2
    rw [e1, e2] at BC
    rw [e1, e2]
    clear e1 e2 hb zB hlx hly HL1 HL2
    have cBC0 := BC.out.c0
    have cBC1 := BC.out.c1
    have ltBC := BC.out.lt
    go_wp2_with fail
    clear cBC0 cBC1 ltBC
    refine (sameCounts_c _ _ _ _ _ _ _ _ [] [] (by simp) (by simp) _ (Ints.nil _ _ _) (Ints.nil _ _ _) (Ints.nil _ _ _) (Ints.nil _ _ _)).mono ?_
    rintro e w8 ⟨rfl, hb8⟩
    go_wp2_with fail
    refine (alive _).mono ?_
    rintro e w9 ⟨rfl, hb9⟩
    have hb7 := Lib.hid (belT hb8 hb9)
    clear hb8 hb9
    go_wp2_with fail
    go_ret
    exact ⟨by first | rfl | (simp; done), belT BEL0.out hb7.out⟩
  have HF := Lib.hid (lrn_law hb)
  clear hb zB HL1 HL2
  obtain ⟨X, hX⟩ : ∃ X, lrnX g s = X := ⟨_, rfl⟩
  obtain ⟨Y, hY⟩ : ∃ Y, lrnY g s = Y := ⟨_, rfl⟩
  obtain ⟨F1, F2, F3, F4, F5, F6, F7, F8, F9⟩ := HF.out
  rw [hX] at F1 F3 F4 F5 F7 F9 C1 BC hlx
  rw [hY] at F2 F6 F8 F9 C2 BC hly
  have G3 := Lib.hid F3
  have G4 := Lib.hid F4
  have G1 := Lib.hid F1
  have G2 := Lib.hid F2
  have G5 := Lib.hid F5
  have G6 := Lib.hid F6
  have G7 := Lib.hid F7
  have G8 := Lib.hid F8
  have G9 := Lib.hid F9
  rw [hX, hY]
  clear F1 F2 F3 F4 F5 F6 F7 F8 F9 HF hX hY
  go_wp2_with fail
  go_loopw [9, 10] (fun v i wr => ∃ k : Nat, k ≤ X.length ∧ i = .int .i64 k ∧ v = .int .i64 (sumW X k) ∧ Hid (Below w4.heap.size w4 wr)) (fun _ i _ => X.length - (intOf i).toNat)
  case atStart => exact ⟨0, Nat.zero_le _, rfl, rfl, Below.refl _ _⟩
  case round =>
    obtain ⟨k, hk, rfl, rfl, HV⟩ := hrel
    have BW := BC.out.still HV.out
    have d0 := BW.c0
    have d1 := BW.c1
    have dl := BW.lt
    by_cases hlt : k < X.length
    · obtain ⟨bl, ol, rfl, hSl, hc⟩ := (stillInts C1.out HV.out).at_ hlt
      have hck := hc k hlt
      have hsw : IntKind.i64.wrap (sumW X k + nth X k) = sumW X k + nth X k := IntWalk.i64_in _ (by have := G4.out (k + 1) (by omega); simp only [sumW] at this; omega)
      clear hc BW
      go_wp2_with fail
      go_roundw
      case rel => exact ⟨k + 1, by omega, by go_num, rfl, HV.out⟩
      case measure => simp [intOf]; omega
    · obtain rfl : k = X.length := by omega
      have hbV := HV.out
      clear BW HV hk hlt
      rw [G3.out]
      clear G3 G4
      replace R0 := Lib.hid (stillRows R0.out hbV)
      replace C1 := Lib.hid (stillInts C1.out hbV)
      replace C2 := Lib.hid (stillInts C2.out hbV)
      replace BC := Lib.hid (BC.out.still hbV)
      replace BEL0 := Lib.hid (belT BEL0.out hbV)
      clear hbV
      go_wp2_with fail
      clear d0 d1 dl
      refine (safe_impl _ _ _ _ g X hl (by omega) _ R0.out C1.out).mono ?_
      rintro e w5 ⟨rfl, hb5⟩
      replace R0 := Lib.hid (stillRows R0.out hb5)
      replace C1 := Lib.hid (stillInts C1.out hb5)
      replace C2 := Lib.hid (stillInts C2.out hb5)
      replace BC := Lib.hid (BC.out.still hb5)
      replace BEL0 := Lib.hid (belT BEL0.out hb5)
      clear hb5
      try unfold FracRes
      rw [G5.out]
      have cBC0 := BC.out.c0
      have cBC1 := BC.out.c1
      have ltBC := BC.out.lt
      go_wp2_with fail
      obtain ⟨WFS, hWFS⟩ : ∃ WFS : World, WFS = w5.alloc (.cells #[.int .i64 (safU g X), .int .i64 (safD g X)] 34) := ⟨_, rfl⟩
      have hbWFS : Below w5.heap.size w5 WFS := by rw [hWFS]; exact (Below.refl _ _).alloc (Nat.le_refl _) _
      have FS : Hid (Box2 WFS w5.heap.size (safU g X) (safD g X)) := by show Box2 _ _ _ _; rw [hWFS]; exact Box2.new _ _ _
      rw [← hWFS]
      clear hWFS
      replace R0 := Lib.hid (stillRows R0.out hbWFS)
      replace C1 := Lib.hid (stillInts C1.out hbWFS)
      replace C2 := Lib.hid (stillInts C2.out hbWFS)
      replace BC := Lib.hid (BC.out.still hbWFS)
      replace BEL0 := Lib.hid (belT BEL0.out hbWFS)
      clear hbWFS
      clear cBC0 cBC1 ltBC
      refine (risk_impl _ _ _ _ g Y hl (by omega) _ R0.out C2.out).mono ?_
      rintro e w6 ⟨rfl, hb6⟩
      replace R0 := Lib.hid (stillRows R0.out hb6)
      replace C1 := Lib.hid (stillInts C1.out hb6)
      replace C2 := Lib.hid (stillInts C2.out hb6)
      replace BC := Lib.hid (BC.out.still hb6)
      replace FS := Lib.hid (FS.out.still hb6)
      replace BEL0 := Lib.hid (belT BEL0.out hb6)
      clear hb6
      try unfold FracRes
      rw [G6.out]
      go_wp2_with fail
      obtain ⟨WFR, hWFR⟩ : ∃ WFR : World, WFR = w6.alloc (.cells #[.int .i64 (risU g Y), .int .i64 (risD g Y)] 34) := ⟨_, rfl⟩
      have hbWFR : Below w6.heap.size w6 WFR := by rw [hWFR]; exact (Below.refl _ _).alloc (Nat.le_refl _) _
      have FR : Hid (Box2 WFR w6.heap.size (risU g Y) (risD g Y)) := by show Box2 _ _ _ _; rw [hWFR]; exact Box2.new _ _ _
      rw [← hWFR]
      clear hWFR
      replace R0 := Lib.hid (stillRows R0.out hbWFR)
      replace C1 := Lib.hid (stillInts C1.out hbWFR)
      replace C2 := Lib.hid (stillInts C2.out hbWFR)
      replace BC := Lib.hid (BC.out.still hbWFR)
      replace FS := Lib.hid (FS.out.still hbWFR)
      replace BEL0 := Lib.hid (belT BEL0.out hbWFR)
      clear hbWFR
      refine (worth_impl _ _ g hl _ R0.out).mono ?_
      rintro e w7 ⟨rfl, hb7⟩
      replace R0 := Lib.hid (stillRows R0.out hb7)
      replace C1 := Lib.hid (stillInts C1.out hb7)
      replace C2 := Lib.hid (stillInts C2.out hb7)
      replace BC := Lib.hid (BC.out.still hb7)
      replace FS := Lib.hid (FS.out.still hb7)
      replace FR := Lib.hid (FR.out.still hb7)
      replace BEL0 := Lib.hid (belT BEL0.out hb7)
      clear hb7
      try unfold FracRes
      go_wp2_with fail
      obtain ⟨WFW, hWFW⟩ : ∃ WFW : World, WFW = w7.alloc (.cells #[.int .i64 (solU g), .int .i64 (solD g)] 34) := ⟨_, rfl⟩
      have hbWFW : Below w7.heap.size w7 WFW := by rw [hWFW]; exact (Below.refl _ _).alloc (Nat.le_refl _) _
      have FW : Hid (Box2 WFW w7.heap.size (solU g) (solD g)) := by show Box2 _ _ _ _; rw [hWFW]; exact Box2.new _ _ _
      rw [← hWFW]
      clear hWFW
      replace R0 := Lib.hid (stillRows R0.out hbWFW)
      replace C1 := Lib.hid (stillInts C1.out hbWFW)
      replace C2 := Lib.hid (stillInts C2.out hbWFW)
      replace BC := Lib.hid (BC.out.still hbWFW)
      replace FS := Lib.hid (FS.out.still hbWFW)
      replace FR := Lib.hid (FR.out.still hbWFW)
      replace BEL0 := Lib.hid (belT BEL0.out hbWFW)
      clear hbWFW
      refine (saddles_spec _ _ g hl _ R0.out).mono ?_
      rintro e w8 ⟨TL, cL, rfl, hb8, ho8⟩
      have SL : Hid (Ints w8 (fun b => b < w8.heap.size) TL (saddles g)) := ho8.ints.mono fun b h => h.2
      replace R0 := Lib.hid (stillRows R0.out hb8)
      replace C1 := Lib.hid (stillInts C1.out hb8)
      replace C2 := Lib.hid (stillInts C2.out hb8)
      replace BC := Lib.hid (BC.out.still hb8)
      replace FS := Lib.hid (FS.out.still hb8)
      replace FR := Lib.hid (FR.out.still hb8)
      replace FW := Lib.hid (FW.out.still hb8)
      replace BEL0 := Lib.hid (belT BEL0.out hb8)
      clear hb8 ho8
      have HLE1 : Hid (solB g = true → ∀ w', Calls Try.prog 20 #[.agg #[.int .i64 (solU g), .int .i64 (solD g)], .agg #[.int .i64 (safU g X), .int .i64 (safD g X)]] w' fun e w'' => e = .returned (.bool false) ∧ Below w'.heap.size w' w'') := fun hs w' => by have := less_impl (solU g) (solD g) (safU g X) (safD g X) w'; rwa [G7.out hs] at this
      have HLE2 : Hid (solB g = true → ∀ w', Calls Try.prog 20 #[.agg #[.int .i64 (risU g Y), .int .i64 (risD g Y)], .agg #[.int .i64 (solU g), .int .i64 (solD g)]] w' fun e w'' => e = .returned (.bool false) ∧ Below w'.heap.size w' w'') := fun hs w' => by have := less_impl (risU g Y) (risD g Y) (solU g) (solD g) w'; rwa [G8.out hs] at this
      obtain ⟨bt, ot, rfl⟩ := R0.out.some (by have := (Game.of (safB_iff.1 G5.out).1).lo; omega)
      have hgl := (Game.of (safB_iff.1 G5.out).1).lo
      have hg0 : 0 < g.length := by omega
      clear G7 G8
      go_upto_region 19 with fail
      go_cut [107] (fun sb wx => sb = .bool false ∧ Below w8.heap.size w8 wx)
      case first =>
        by_cases h0 : 0 < (saddles g).length
        · skip
          obtain ⟨bs, os, rfl, hSs, hcs⟩ := SL.out.at_ h0
          have hc0 := hcs 0 h0
          rw [Nat.add_zero] at hc0
          by_cases h1 : nth (saddles g) 0 = 0
          · skip
            have hset := G9.out h0 h1
            rw [h1] at hc0
            clear hcs h1
            have cBC0 := BC.out.c0
            have cBC1 := BC.out.c1
            have ltBC := BC.out.lt
            go_wp2_with fail
            clear cBC0 cBC1 ltBC
            refine (set_impl _ _ _ _ _ _ g X Y hl (by omega) (by omega) _ R0.out C1.out C2.out).mono ?_
            rintro e w9 ⟨rfl, hb9⟩
            rw [hset]
            go_wp2_with fail
            go_meet
            exact ⟨rfl, hb9⟩
          · skip
            have z1 : (nth (saddles g) 0 == 0) = false := by rw [beq_eq_false_iff_ne]; exact h1
            clear hcs h1
            go_wp2_with fail
            go_meet
            exact ⟨rfl, Below.refl _ _⟩
        · skip
          go_wp2_with fail
          go_meet
          exact ⟨rfl, Below.refl _ _⟩
      case rest =>
        obtain ⟨rfl, hbc⟩ := hcut
        clear SL
        clear G9
        replace R0 := Lib.hid (stillRows R0.out hbc)
        replace C1 := Lib.hid (stillInts C1.out hbc)
        replace C2 := Lib.hid (stillInts C2.out hbc)
        replace BC := Lib.hid (BC.out.still hbc)
        replace FS := Lib.hid (FS.out.still hbc)
        replace FR := Lib.hid (FR.out.still hbc)
        replace FW := Lib.hid (FW.out.still hbc)
        replace BEL0 := Lib.hid (belT BEL0.out hbc)
        clear hbc
        go_wp2_with fail
        obtain ⟨hSb, A9, c9, hc9, -, hm9, -⟩ := R0.out.row (i := 0) hg0
        rw [Nat.add_zero] at hc9
        have sG := stays (W := wc) (p := bt) (o := ot) hSb hc9
        unfold maxLen at hm9
        have HM1 : Hid (∀ w', Below wc.heap.size wc w' → Calls Try.prog 19 #[.slice TC1 X.length cC1, .int .i64 (g.length : Int)] w' (Same (.bool true) w')) := fun w' hb => by have := mixOk_impl TC1 cC1 X (g.length : Int) _ (by omega) w' (stillInts C1.out hb); rwa [G1.out] at this
        have HM2 : Hid (∀ w', Below wc.heap.size wc w' → Calls Try.prog 19 #[.slice TC2 Y.length cC2, .int .i64 ((rowAt g 0).length : Int)] w' (Same (.bool true) w')) := fun w' hb => by have := mixOk_impl TC2 cC2 Y ((rowAt g 0).length : Int) _ (by omega) w' (stillInts C2.out hb); rwa [G2.out] at this
        have zs : (s == s) = true := by simp
        clear hc9 hSb
        have sFS0 := stays FS.out.lt FS.out.c0
        have sFS1 := stays FS.out.lt FS.out.c1
        have sFR0 := stays FR.out.lt FR.out.c0
        have sFR1 := stays FR.out.lt FR.out.c1
        have sFW0 := stays FW.out.lt FW.out.c0
        have sFW1 := stays FW.out.lt FW.out.c1
        have sBC0 := stays BC.out.lt BC.out.c0
        have sBC1 := stays BC.out.lt BC.out.c1
        rcases hs : solB g with _ | _
        · skip
          refine wp_region_held_drew (S := fun w' => Below wc.heap.size wc w') (by kernel_rfl) (by first | exact Below.drew (Below.refl _ _) | exact Below.drew (by assumption)) (fun hHeld => ?_)
          refine wpAnyH_take (i := 0) (v := ?v0) rfl (by kernel_rfl) (by kernel_rfl) (by kernel_rfl) (fun _ _ _ h => h) (Or.inl ⟨by rfl, ?y0⟩) (by assumption) ?z0
          case y0 => (intro w hSw; go_simp; first | done | with_reducible rfl)
          try simp only [List.getElem_toArray, List.getElem_cons_succ, List.getElem_cons_zero, Act.put, List.setIfInBounds_toArray, List.set_cons_zero, List.set_cons_succ]
          refine wpAnyH_take (i := 1) (v := ?v1) rfl (by kernel_rfl) (by kernel_rfl) (by kernel_rfl) (fun _ _ _ h => h) (Or.inl ⟨by rfl, ?y1⟩) (by assumption) ?z1
          case y1 => (intro w hSw; go_simp; first | done | with_reducible rfl)
          try simp only [List.getElem_toArray, List.getElem_cons_succ, List.getElem_cons_zero, Act.put, List.setIfInBounds_toArray, List.set_cons_zero, List.set_cons_succ]
          refine wpAnyH_take (i := 2) (v := ?v2) rfl (by kernel_rfl) (by kernel_rfl) (by kernel_rfl) (fun _ _ _ h => h) (Or.inl ⟨by rfl, ?y2⟩) (by assumption) ?z2
          case y2 => (intro w hSw; go_simp; first | done | with_reducible rfl)
          try simp only [List.getElem_toArray, List.getElem_cons_succ, List.getElem_cons_zero, Act.put, List.setIfInBounds_toArray, List.set_cons_zero, List.set_cons_succ]
          refine wpAnyH_take (i := 3) (v := ?v3) rfl (by kernel_rfl) (by kernel_rfl) (by kernel_rfl) (fun _ _ _ h => h) (Or.inl ⟨by rfl, ?y3⟩) (by assumption) ?z3
          case y3 => (intro w hSw; go_simp; first | done | with_reducible rfl)
          try simp only [List.getElem_toArray, List.getElem_cons_succ, List.getElem_cons_zero, Act.put, List.setIfInBounds_toArray, List.set_cons_zero, List.set_cons_succ]
          refine wpAnyH_ready (rs := [4]) (by kernel_rfl) (by simp) ?_
          refine AllReadyH.cons rfl (fun K hK => ?_) AllReadyH.nil
          go_simp
          (go_at_call 19; refine (HM1.out _ (by first | exact Below.refl _ _ | exact Below.drew (Below.refl _ _) | (refine Below.drew ?_; assumption) | exact belT (by assumption) (by assumption) | assumption)).mono ?_; rintro e wz ⟨rfl, rfl⟩)
          refine hK.out _ _ (by first | exact Below.refl _ _ | exact Below.drew (Below.refl _ _) | (refine Below.drew ?_; assumption) | exact belT (by assumption) (by assumption) | assumption) (fun hHeld => ?_)
          clear hK K
          try simp only [List.getElem_toArray, List.getElem_cons_succ, List.getElem_cons_zero, Act.put, List.setIfInBounds_toArray, List.set_cons_zero, List.set_cons_succ]
          refine wpAnyH_take (i := 5) (v := ?v5) rfl (by kernel_rfl) (by kernel_rfl) (by kernel_rfl) (fun _ _ _ h => h) (Or.inl ⟨by rfl, ?y5⟩) (by assumption) ?z5
          case y5 => (intro w hSw; go_simp; first | done | with_reducible rfl)
          try simp only [List.getElem_toArray, List.getElem_cons_succ, List.getElem_cons_zero, Act.put, List.setIfInBounds_toArray, List.set_cons_zero, List.set_cons_succ]
          refine wpAnyH_take (i := 6) (v := ?v6) rfl (by kernel_rfl) (by kernel_rfl) (by kernel_rfl) (fun _ _ _ h => h) (Or.inl ⟨by rfl, ?y6⟩) (by assumption) ?z6
          case y6 => (intro w hSw; go_simp; first | done | with_reducible rfl)
          try simp only [List.getElem_toArray, List.getElem_cons_succ, List.getElem_cons_zero, Act.put, List.setIfInBounds_toArray, List.set_cons_zero, List.set_cons_succ]
          refine wpAnyH_take (i := 7) (v := ?v7) rfl (by kernel_rfl) (by kernel_rfl) (by kernel_rfl) (fun _ _ _ h => h) (Or.inl ⟨by rfl, ?y7⟩) (by assumption) ?z7
          case y7 => (intro w hSw; go_simp; first | done | with_reducible rfl)
          try simp only [List.getElem_toArray, List.getElem_cons_succ, List.getElem_cons_zero, Act.put, List.setIfInBounds_toArray, List.set_cons_zero, List.set_cons_succ]
          refine wpAnyH_take (i := 8) (v := ?v8) rfl (by kernel_rfl) (by kernel_rfl) (by kernel_rfl) (fun _ _ _ h => h) (Or.inl ⟨by rfl, ?y8⟩) (by assumption) ?z8
          case y8 => (intro w hSw; go_simp; first | done | with_reducible rfl)
          try simp only [List.getElem_toArray, List.getElem_cons_succ, List.getElem_cons_zero, Act.put, List.setIfInBounds_toArray, List.set_cons_zero, List.set_cons_succ]
          refine wpAnyH_take (i := 9) (v := ?v9) rfl (by kernel_rfl) (by kernel_rfl) (by kernel_rfl) (fun _ _ _ h => h) (Or.inl ⟨by rfl, ?y9⟩) (by assumption) ?z9
          case y9 => (intro w hSw; go_simp; first | done | with_reducible rfl)
          try simp only [List.getElem_toArray, List.getElem_cons_succ, List.getElem_cons_zero, Act.put, List.setIfInBounds_toArray, List.set_cons_zero, List.set_cons_succ]
          refine wpAnyH_take (i := 10) (v := ?v10) rfl (by kernel_rfl) (by kernel_rfl) (by kernel_rfl) (fun _ _ _ h => h) (Or.inl ⟨by rfl, ?y10⟩) (by assumption) ?z10
          case y10 => (intro w hSw; go_simp; first | done | with_reducible rfl)
          try simp only [List.getElem_toArray, List.getElem_cons_succ, List.getElem_cons_zero, Act.put, List.setIfInBounds_toArray, List.set_cons_zero, List.set_cons_succ]
          refine wpAnyH_take (i := 11) (v := ?v11) rfl (by kernel_rfl) (by kernel_rfl) (by kernel_rfl) (fun _ _ _ h => h) (Or.inl ⟨by rfl, ?y11⟩) (by assumption) ?z11
          case y11 => (intro w hSw; go_simp; first | done | with_reducible rfl)
          try simp only [List.getElem_toArray, List.getElem_cons_succ, List.getElem_cons_zero, Act.put, List.setIfInBounds_toArray, List.set_cons_zero, List.set_cons_succ]
          refine wpAnyH_ready (rs := [12]) (by kernel_rfl) (by simp) ?_
          refine AllReadyH.cons rfl (fun K hK => ?_) AllReadyH.nil
          go_simp
          (go_at_call 19; refine (HM2.out _ (by first | exact Below.refl _ _ | exact Below.drew (Below.refl _ _) | (refine Below.drew ?_; assumption) | exact belT (by assumption) (by assumption) | assumption)).mono ?_; rintro e wz ⟨rfl, rfl⟩)
          refine hK.out _ _ (by first | exact Below.refl _ _ | exact Below.drew (Below.refl _ _) | (refine Below.drew ?_; assumption) | exact belT (by assumption) (by assumption) | assumption) (fun hHeld => ?_)
          clear hK K
          try simp only [List.getElem_toArray, List.getElem_cons_succ, List.getElem_cons_zero, Act.put, List.setIfInBounds_toArray, List.set_cons_zero, List.set_cons_succ]
          refine wpAnyH_take (i := 13) (v := ?v13) rfl (by kernel_rfl) (by kernel_rfl) (by kernel_rfl) (fun _ _ _ h => h) (Or.inl ⟨by rfl, ?y13⟩) (by assumption) ?z13
          case y13 => (intro w hSw; go_simp; first | done | with_reducible rfl)
          try simp only [List.getElem_toArray, List.getElem_cons_succ, List.getElem_cons_zero, Act.put, List.setIfInBounds_toArray, List.set_cons_zero, List.set_cons_succ]
          refine wpAnyH_take (i := 14) (v := ?v14) rfl (by kernel_rfl) (by kernel_rfl) (by kernel_rfl) (fun _ _ _ h => h) (Or.inl ⟨by rfl, ?y14⟩) (by assumption) ?z14
          case y14 => (intro w hSw; go_simp; first | done | with_reducible rfl)
          try simp only [List.getElem_toArray, List.getElem_cons_succ, List.getElem_cons_zero, Act.put, List.setIfInBounds_toArray, List.set_cons_zero, List.set_cons_succ]
          refine wpAnyH_take (i := 15) (v := ?v15) rfl (by kernel_rfl) (by kernel_rfl) (by kernel_rfl) (fun _ _ _ h => h) (Or.inl ⟨by rfl, ?y15⟩) (by assumption) ?z15
          case y15 => (intro w hSw; go_simp; first | done | with_reducible rfl)
          try simp only [List.getElem_toArray, List.getElem_cons_succ, List.getElem_cons_zero, Act.put, List.setIfInBounds_toArray, List.set_cons_zero, List.set_cons_succ]
          refine wpAnyH_take (i := 16) (v := ?v16) rfl (by kernel_rfl) (by kernel_rfl) (by kernel_rfl) (fun _ _ _ h => h) (Or.inl ⟨by rfl, ?y16⟩) (by assumption) ?z16
          case y16 => (intro w hSw; go_simp; first | done | with_reducible rfl)
          try simp only [List.getElem_toArray, List.getElem_cons_succ, List.getElem_cons_zero, Act.put, List.setIfInBounds_toArray, List.set_cons_zero, List.set_cons_succ]
          refine wpAnyH_take (i := 17) (v := ?v17) rfl (by kernel_rfl) (by kernel_rfl) (by kernel_rfl) (fun _ _ _ h => h) (Or.inl ⟨by rfl, ?y17⟩) (by assumption) ?z17
          case y17 => (intro w hSw; go_simp; first | done | with_reducible rfl)
          try simp only [List.getElem_toArray, List.getElem_cons_succ, List.getElem_cons_zero, Act.put, List.setIfInBounds_toArray, List.set_cons_zero, List.set_cons_succ]
          refine wpAnyH_take (i := 18) (v := ?v18) rfl (by kernel_rfl) (by kernel_rfl) (by kernel_rfl) (fun _ _ _ h => h) (Or.inl ⟨by rfl, ?y18⟩) (by assumption) ?z18
          case y18 => (intro w hSw; go_simp; first | done | with_reducible rfl)
          try simp only [List.getElem_toArray, List.getElem_cons_succ, List.getElem_cons_zero, Act.put, List.setIfInBounds_toArray, List.set_cons_zero, List.set_cons_succ]
          refine wpAnyH_take (i := 19) (v := ?v19) rfl (by kernel_rfl) (by kernel_rfl) (by kernel_rfl) (fun _ _ _ h => h) (Or.inl ⟨by rfl, ?y19⟩) (by assumption) ?z19
          case y19 => (intro w hSw; go_simp; first | done | with_reducible rfl)
          try simp only [List.getElem_toArray, List.getElem_cons_succ, List.getElem_cons_zero, Act.put, List.setIfInBounds_toArray, List.set_cons_zero, List.set_cons_succ]
          refine wpAnyH_take (i := 20) (v := ?v20) rfl (by kernel_rfl) (by kernel_rfl) (by kernel_rfl) (fun _ _ _ h => h) (Or.inl ⟨by rfl, ?y20⟩) (by assumption) ?z20
          case y20 => (intro w hSw; go_simp; first | done | with_reducible rfl)
          try simp only [List.getElem_toArray, List.getElem_cons_succ, List.getElem_cons_zero, Act.put, List.setIfInBounds_toArray, List.set_cons_zero, List.set_cons_succ]
          refine wpAnyH_take (i := 21) (v := ?v21) rfl (by kernel_rfl) (by kernel_rfl) (by kernel_rfl) (fun _ _ _ h => h) (Or.inl ⟨by rfl, ?y21⟩) (by assumption) ?z21
          case y21 => (intro w hSw; go_simp; first | done | with_reducible rfl)
          try simp only [List.getElem_toArray, List.getElem_cons_succ, List.getElem_cons_zero, Act.put, List.setIfInBounds_toArray, List.set_cons_zero, List.set_cons_succ]
          refine wpAnyH_take (i := 22) (v := ?v22) rfl (by kernel_rfl) (by kernel_rfl) (by kernel_rfl) (fun _ _ _ h => h) (Or.inl ⟨by rfl, ?y22⟩) (by assumption) ?z22
          case y22 => (intro w hSw; go_simp; first | done | with_reducible rfl)
          try simp only [List.getElem_toArray, List.getElem_cons_succ, List.getElem_cons_zero, Act.put, List.setIfInBounds_toArray, List.set_cons_zero, List.set_cons_succ]
          refine wpAnyH_take (i := 23) (v := ?v23) rfl (by kernel_rfl) (by kernel_rfl) (by kernel_rfl) (fun _ _ _ h => h) (Or.inl ⟨by rfl, ?y23⟩) (by assumption) ?z23
          case y23 => (intro w hSw; go_simp; first | done | with_reducible rfl)
          try simp only [List.getElem_toArray, List.getElem_cons_succ, List.getElem_cons_zero, Act.put, List.setIfInBounds_toArray, List.set_cons_zero, List.set_cons_succ]
          refine wpAnyH_take (i := 24) (v := ?v24) rfl (by kernel_rfl) (by kernel_rfl) (by kernel_rfl) (fun _ _ _ h => h) (Or.inl ⟨by rfl, ?y24⟩) (by assumption) ?z24
          case y24 => (intro w hSw; go_simp; first | done | with_reducible rfl)
          try simp only [List.getElem_toArray, List.getElem_cons_succ, List.getElem_cons_zero, Act.put, List.setIfInBounds_toArray, List.set_cons_zero, List.set_cons_succ]
          refine wpAnyH_take (i := 25) (v := ?v25) rfl (by kernel_rfl) (by kernel_rfl) (by kernel_rfl) (fun _ _ _ h => h) (Or.inl ⟨by rfl, ?y25⟩) (by assumption) ?z25
          case y25 => (intro w hSw; go_simp; first | done | with_reducible rfl)
          try simp only [List.getElem_toArray, List.getElem_cons_succ, List.getElem_cons_zero, Act.put, List.setIfInBounds_toArray, List.set_cons_zero, List.set_cons_succ]
          refine wpAnyH_take (i := 26) (v := ?v26) rfl (by kernel_rfl) (by kernel_rfl) (by kernel_rfl) (fun _ _ _ h => h) (Or.inl ⟨by rfl, ?y26⟩) (by assumption) ?z26
          case y26 => (intro w hSw; go_simp; first | done | with_reducible rfl)
          try simp only [List.getElem_toArray, List.getElem_cons_succ, List.getElem_cons_zero, Act.put, List.setIfInBounds_toArray, List.set_cons_zero, List.set_cons_succ]
          refine wpAnyH_take (i := 27) (v := ?v27) rfl (by kernel_rfl) (by kernel_rfl) (by kernel_rfl) (fun _ _ _ h => h) (Or.inl ⟨by rfl, ?y27⟩) (by assumption) ?z27
          case y27 => (intro w hSw; go_simp; first | done | with_reducible rfl)
          try simp only [List.getElem_toArray, List.getElem_cons_succ, List.getElem_cons_zero, Act.put, List.setIfInBounds_toArray, List.set_cons_zero, List.set_cons_succ]
          refine wpAnyH_take (i := 28) (v := ?v28) rfl (by kernel_rfl) (by kernel_rfl) (by kernel_rfl) (fun _ _ _ h => h) (Or.inl ⟨by rfl, ?y28⟩) (by assumption) ?z28
          case y28 => (intro w hSw; go_simp; first | done | with_reducible rfl)
          try simp only [List.getElem_toArray, List.getElem_cons_succ, List.getElem_cons_zero, Act.put, List.setIfInBounds_toArray, List.set_cons_zero, List.set_cons_succ]
          refine wpAnyH_take (i := 29) rfl (by kernel_rfl) (by kernel_rfl) (by kernel_rfl) (fun _ _ _ h => h) (Or.inr ⟨by rfl, rfl⟩) (by assumption) ?_
          try simp only [List.getElem_toArray, List.getElem_cons_succ, List.getElem_cons_zero, Act.put, List.setIfInBounds_toArray, List.set_cons_zero, List.set_cons_succ]
          refine wpAnyH_take (i := 30) rfl (by kernel_rfl) (by kernel_rfl) (by kernel_rfl) (fun _ _ _ h => h) (Or.inr ⟨by rfl, rfl⟩) (by assumption) ?_
          try simp only [List.getElem_toArray, List.getElem_cons_succ, List.getElem_cons_zero, Act.put, List.setIfInBounds_toArray, List.set_cons_zero, List.set_cons_succ]
          refine wpAnyH_take (i := 31) rfl (by kernel_rfl) (by kernel_rfl) (by kernel_rfl) (fun _ _ _ h => h) (Or.inr ⟨by rfl, rfl⟩) (by assumption) ?_
          try simp only [List.getElem_toArray, List.getElem_cons_succ, List.getElem_cons_zero, Act.put, List.setIfInBounds_toArray, List.set_cons_zero, List.set_cons_succ]
          refine wpAnyH_take (i := 32) rfl (by kernel_rfl) (by kernel_rfl) (by kernel_rfl) (fun _ _ _ h => h) (Or.inr ⟨by rfl, rfl⟩) (by assumption) ?_
          try simp only [List.getElem_toArray, List.getElem_cons_succ, List.getElem_cons_zero, Act.put, List.setIfInBounds_toArray, List.set_cons_zero, List.set_cons_succ]
          refine wpAnyH_take (i := 33) rfl (by kernel_rfl) (by kernel_rfl) (by kernel_rfl) (fun _ _ _ h => h) (Or.inr ⟨by rfl, rfl⟩) (by assumption) ?_
          try simp only [List.getElem_toArray, List.getElem_cons_succ, List.getElem_cons_zero, Act.put, List.setIfInBounds_toArray, List.set_cons_zero, List.set_cons_succ]
          refine wpAnyH_take (i := 34) rfl (by kernel_rfl) (by kernel_rfl) (by kernel_rfl) (fun _ _ _ h => h) (Or.inr ⟨by rfl, rfl⟩) (by assumption) ?_
          try simp only [List.getElem_toArray, List.getElem_cons_succ, List.getElem_cons_zero, Act.put, List.setIfInBounds_toArray, List.set_cons_zero, List.set_cons_succ]
          refine wpAnyH_take (i := 35) rfl (by kernel_rfl) (by kernel_rfl) (by kernel_rfl) (fun _ _ _ h => h) (Or.inr ⟨by rfl, rfl⟩) (by assumption) ?_
          try simp only [List.getElem_toArray, List.getElem_cons_succ, List.getElem_cons_zero, Act.put, List.setIfInBounds_toArray, List.set_cons_zero, List.set_cons_succ]
          refine wpAnyH_take (i := 36) rfl (by kernel_rfl) (by kernel_rfl) (by kernel_rfl) (fun _ _ _ h => h) (Or.inr ⟨by rfl, rfl⟩) (by assumption) ?_
          try simp only [List.getElem_toArray, List.getElem_cons_succ, List.getElem_cons_zero, Act.put, List.setIfInBounds_toArray, List.set_cons_zero, List.set_cons_succ]
          refine wpAnyH_take (i := 37) rfl (by kernel_rfl) (by kernel_rfl) (by kernel_rfl) (fun _ _ _ h => h) (Or.inr ⟨by rfl, rfl⟩) (by assumption) ?_
          try simp only [List.getElem_toArray, List.getElem_cons_succ, List.getElem_cons_zero, Act.put, List.setIfInBounds_toArray, List.set_cons_zero, List.set_cons_succ]
          refine wpAnyH_take (i := 38) rfl (by kernel_rfl) (by kernel_rfl) (by kernel_rfl) (fun _ _ _ h => h) (Or.inr ⟨by rfl, rfl⟩) (by assumption) ?_
          try simp only [List.getElem_toArray, List.getElem_cons_succ, List.getElem_cons_zero, Act.put, List.setIfInBounds_toArray, List.set_cons_zero, List.set_cons_succ]
          refine wpAnyH_take (i := 39) (v := ?v39) rfl (by kernel_rfl) (by kernel_rfl) (by kernel_rfl) (fun _ _ _ h => h) (Or.inl ⟨by rfl, ?y39⟩) (by assumption) ?z39
          case y39 => (intro w hSw; go_simp; first | done | with_reducible rfl)
          try simp only [List.getElem_toArray, List.getElem_cons_succ, List.getElem_cons_zero, Act.put, List.setIfInBounds_toArray, List.set_cons_zero, List.set_cons_succ]
          refine wpAnyH_take (i := 40) (v := ?v40) rfl (by kernel_rfl) (by kernel_rfl) (by kernel_rfl) (fun _ _ _ h => h) (Or.inl ⟨by rfl, ?y40⟩) (by assumption) ?z40
          case y40 => (intro w hSw; go_simp; first | done | with_reducible rfl)
          try simp only [List.getElem_toArray, List.getElem_cons_succ, List.getElem_cons_zero, Act.put, List.setIfInBounds_toArray, List.set_cons_zero, List.set_cons_succ]
          refine wpAnyH_take (i := 41) (v := ?v41) rfl (by kernel_rfl) (by kernel_rfl) (by kernel_rfl) (fun _ _ _ h => h) (Or.inl ⟨by rfl, ?y41⟩) (by assumption) ?z41
          case y41 => (intro w hSw; go_simp; first | done | with_reducible rfl)
          try simp only [List.getElem_toArray, List.getElem_cons_succ, List.getElem_cons_zero, Act.put, List.setIfInBounds_toArray, List.set_cons_zero, List.set_cons_succ]
          refine wpAnyH_done (by kernel_rfl) ?_ _
          go_wp2_with fail
          go_ret
          exact ⟨by simp, belT BEL0.out (by assumption)⟩
        · skip
          have K1 := Lib.hid (HLE1.out hs)
          have K2 := Lib.hid (HLE2.out hs)
          clear hs
          refine wp_region_held_drew (S := fun w' => Below wc.heap.size wc w') (by kernel_rfl) (by first | exact Below.drew (Below.refl _ _) | exact Below.drew (by assumption)) (fun hHeld => ?_)
          refine wpAnyH_take (i := 0) (v := ?vv0) rfl (by kernel_rfl) (by kernel_rfl) (by kernel_rfl) (fun _ _ _ h => h) (Or.inl ⟨by rfl, ?yy0⟩) (by assumption) ?zz0
          case yy0 => (intro w hSw; go_simp; first | done | with_reducible rfl)
          try simp only [List.getElem_toArray, List.getElem_cons_succ, List.getElem_cons_zero, Act.put, List.setIfInBounds_toArray, List.set_cons_zero, List.set_cons_succ]
          refine wpAnyH_take (i := 1) (v := ?vv1) rfl (by kernel_rfl) (by kernel_rfl) (by kernel_rfl) (fun _ _ _ h => h) (Or.inl ⟨by rfl, ?yy1⟩) (by assumption) ?zz1
          case yy1 => (intro w hSw; go_simp; first | done | with_reducible rfl)
          try simp only [List.getElem_toArray, List.getElem_cons_succ, List.getElem_cons_zero, Act.put, List.setIfInBounds_toArray, List.set_cons_zero, List.set_cons_succ]
          refine wpAnyH_take (i := 2) (v := ?vv2) rfl (by kernel_rfl) (by kernel_rfl) (by kernel_rfl) (fun _ _ _ h => h) (Or.inl ⟨by rfl, ?yy2⟩) (by assumption) ?zz2
          case yy2 => (intro w hSw; go_simp; first | done | with_reducible rfl)
          try simp only [List.getElem_toArray, List.getElem_cons_succ, List.getElem_cons_zero, Act.put, List.setIfInBounds_toArray, List.set_cons_zero, List.set_cons_succ]
          refine wpAnyH_take (i := 3) (v := ?vv3) rfl (by kernel_rfl) (by kernel_rfl) (by kernel_rfl) (fun _ _ _ h => h) (Or.inl ⟨by rfl, ?yy3⟩) (by assumption) ?zz3
          case yy3 => (intro w hSw; go_simp; first | done | with_reducible rfl)
          try simp only [List.getElem_toArray, List.getElem_cons_succ, List.getElem_cons_zero, Act.put, List.setIfInBounds_toArray, List.set_cons_zero, List.set_cons_succ]
          refine wpAnyH_ready (rs := [4]) (by kernel_rfl) (by simp) ?_
          refine AllReadyH.cons rfl (fun K hK => ?_) AllReadyH.nil
          go_simp
          (go_at_call 19; refine (HM1.out _ (by first | exact Below.refl _ _ | exact Below.drew (Below.refl _ _) | (refine Below.drew ?_; assumption) | exact belT (by assumption) (by assumption) | assumption)).mono ?_; rintro e wz ⟨rfl, rfl⟩)
          refine hK.out _ _ (by first | exact Below.refl _ _ | exact Below.drew (Below.refl _ _) | (refine Below.drew ?_; assumption) | exact belT (by assumption) (by assumption) | assumption) (fun hHeld => ?_)
          clear hK K
          try simp only [List.getElem_toArray, List.getElem_cons_succ, List.getElem_cons_zero, Act.put, List.setIfInBounds_toArray, List.set_cons_zero, List.set_cons_succ]
          refine wpAnyH_take (i := 5) (v := ?vv5) rfl (by kernel_rfl) (by kernel_rfl) (by kernel_rfl) (fun _ _ _ h => h) (Or.inl ⟨by rfl, ?yy5⟩) (by assumption) ?zz5
          case yy5 => (intro w hSw; go_simp; first | done | with_reducible rfl)
          try simp only [List.getElem_toArray, List.getElem_cons_succ, List.getElem_cons_zero, Act.put, List.setIfInBounds_toArray, List.set_cons_zero, List.set_cons_succ]
          refine wpAnyH_take (i := 6) (v := ?vv6) rfl (by kernel_rfl) (by kernel_rfl) (by kernel_rfl) (fun _ _ _ h => h) (Or.inl ⟨by rfl, ?yy6⟩) (by assumption) ?zz6
          case yy6 => (intro w hSw; go_simp; first | done | with_reducible rfl)
          try simp only [List.getElem_toArray, List.getElem_cons_succ, List.getElem_cons_zero, Act.put, List.setIfInBounds_toArray, List.set_cons_zero, List.set_cons_succ]
          refine wpAnyH_take (i := 7) (v := ?vv7) rfl (by kernel_rfl) (by kernel_rfl) (by kernel_rfl) (fun _ _ _ h => h) (Or.inl ⟨by rfl, ?yy7⟩) (by assumption) ?zz7
          case yy7 => (intro w hSw; go_simp; first | done | with_reducible rfl)
          try simp only [List.getElem_toArray, List.getElem_cons_succ, List.getElem_cons_zero, Act.put, List.setIfInBounds_toArray, List.set_cons_zero, List.set_cons_succ]
          refine wpAnyH_take (i := 8) (v := ?vv8) rfl (by kernel_rfl) (by kernel_rfl) (by kernel_rfl) (fun _ _ _ h => h) (Or.inl ⟨by rfl, ?yy8⟩) (by assumption) ?zz8
          case yy8 => (intro w hSw; go_simp; first | done | with_reducible rfl)
          try simp only [List.getElem_toArray, List.getElem_cons_succ, List.getElem_cons_zero, Act.put, List.setIfInBounds_toArray, List.set_cons_zero, List.set_cons_succ]
          refine wpAnyH_take (i := 9) (v := ?vv9) rfl (by kernel_rfl) (by kernel_rfl) (by kernel_rfl) (fun _ _ _ h => h) (Or.inl ⟨by rfl, ?yy9⟩) (by assumption) ?zz9
          case yy9 => (intro w hSw; go_simp; first | done | with_reducible rfl)
          try simp only [List.getElem_toArray, List.getElem_cons_succ, List.getElem_cons_zero, Act.put, List.setIfInBounds_toArray, List.set_cons_zero, List.set_cons_succ]
          refine wpAnyH_take (i := 10) (v := ?vv10) rfl (by kernel_rfl) (by kernel_rfl) (by kernel_rfl) (fun _ _ _ h => h) (Or.inl ⟨by rfl, ?yy10⟩) (by assumption) ?zz10
          case yy10 => (intro w hSw; go_simp; first | done | with_reducible rfl)
          try simp only [List.getElem_toArray, List.getElem_cons_succ, List.getElem_cons_zero, Act.put, List.setIfInBounds_toArray, List.set_cons_zero, List.set_cons_succ]
          refine wpAnyH_take (i := 11) (v := ?vv11) rfl (by kernel_rfl) (by kernel_rfl) (by kernel_rfl) (fun _ _ _ h => h) (Or.inl ⟨by rfl, ?yy11⟩) (by assumption) ?zz11
          case yy11 => (intro w hSw; go_simp; first | done | with_reducible rfl)
          try simp only [List.getElem_toArray, List.getElem_cons_succ, List.getElem_cons_zero, Act.put, List.setIfInBounds_toArray, List.set_cons_zero, List.set_cons_succ]
          refine wpAnyH_ready (rs := [12]) (by kernel_rfl) (by simp) ?_
          refine AllReadyH.cons rfl (fun K hK => ?_) AllReadyH.nil
          go_simp
          (go_at_call 19; refine (HM2.out _ (by first | exact Below.refl _ _ | exact Below.drew (Below.refl _ _) | (refine Below.drew ?_; assumption) | exact belT (by assumption) (by assumption) | assumption)).mono ?_; rintro e wz ⟨rfl, rfl⟩)
          refine hK.out _ _ (by first | exact Below.refl _ _ | exact Below.drew (Below.refl _ _) | (refine Below.drew ?_; assumption) | exact belT (by assumption) (by assumption) | assumption) (fun hHeld => ?_)
          clear hK K
          try simp only [List.getElem_toArray, List.getElem_cons_succ, List.getElem_cons_zero, Act.put, List.setIfInBounds_toArray, List.set_cons_zero, List.set_cons_succ]
          refine wpAnyH_take (i := 13) (v := ?vv13) rfl (by kernel_rfl) (by kernel_rfl) (by kernel_rfl) (fun _ _ _ h => h) (Or.inl ⟨by rfl, ?yy13⟩) (by assumption) ?zz13
          case yy13 => (intro w hSw; go_simp; first | done | with_reducible rfl)
          try simp only [List.getElem_toArray, List.getElem_cons_succ, List.getElem_cons_zero, Act.put, List.setIfInBounds_toArray, List.set_cons_zero, List.set_cons_succ]
          refine wpAnyH_take (i := 14) (v := ?vv14) rfl (by kernel_rfl) (by kernel_rfl) (by kernel_rfl) (fun _ _ _ h => h) (Or.inl ⟨by rfl, ?yy14⟩) (by assumption) ?zz14
          case yy14 => (intro w hSw; go_simp; first | done | with_reducible rfl)
          try simp only [List.getElem_toArray, List.getElem_cons_succ, List.getElem_cons_zero, Act.put, List.setIfInBounds_toArray, List.set_cons_zero, List.set_cons_succ]
          refine wpAnyH_take (i := 15) (v := ?vv15) rfl (by kernel_rfl) (by kernel_rfl) (by kernel_rfl) (fun _ _ _ h => h) (Or.inl ⟨by rfl, ?yy15⟩) (by assumption) ?zz15
          case yy15 => (intro w hSw; go_simp; first | done | with_reducible rfl)
          try simp only [List.getElem_toArray, List.getElem_cons_succ, List.getElem_cons_zero, Act.put, List.setIfInBounds_toArray, List.set_cons_zero, List.set_cons_succ]
          refine wpAnyH_take (i := 16) (v := ?vv16) rfl (by kernel_rfl) (by kernel_rfl) (by kernel_rfl) (fun _ _ _ h => h) (Or.inl ⟨by rfl, ?yy16⟩) (by assumption) ?zz16
          case yy16 => (intro w hSw; go_simp; first | done | with_reducible rfl)
          try simp only [List.getElem_toArray, List.getElem_cons_succ, List.getElem_cons_zero, Act.put, List.setIfInBounds_toArray, List.set_cons_zero, List.set_cons_succ]
          refine wpAnyH_take (i := 17) (v := ?vv17) rfl (by kernel_rfl) (by kernel_rfl) (by kernel_rfl) (fun _ _ _ h => h) (Or.inl ⟨by rfl, ?yy17⟩) (by assumption) ?zz17
          case yy17 => (intro w hSw; go_simp; first | done | with_reducible rfl)
          try simp only [List.getElem_toArray, List.getElem_cons_succ, List.getElem_cons_zero, Act.put, List.setIfInBounds_toArray, List.set_cons_zero, List.set_cons_succ]
          refine wpAnyH_take (i := 18) (v := ?vv18) rfl (by kernel_rfl) (by kernel_rfl) (by kernel_rfl) (fun _ _ _ h => h) (Or.inl ⟨by rfl, ?yy18⟩) (by assumption) ?zz18
          case yy18 => (intro w hSw; go_simp; first | done | with_reducible rfl)
          try simp only [List.getElem_toArray, List.getElem_cons_succ, List.getElem_cons_zero, Act.put, List.setIfInBounds_toArray, List.set_cons_zero, List.set_cons_succ]
          refine wpAnyH_take (i := 19) (v := ?vv19) rfl (by kernel_rfl) (by kernel_rfl) (by kernel_rfl) (fun _ _ _ h => h) (Or.inl ⟨by rfl, ?yy19⟩) (by assumption) ?zz19
          case yy19 => (intro w hSw; go_simp; first | done | with_reducible rfl)
          try simp only [List.getElem_toArray, List.getElem_cons_succ, List.getElem_cons_zero, Act.put, List.setIfInBounds_toArray, List.set_cons_zero, List.set_cons_succ]
          refine wpAnyH_take (i := 20) (v := ?vv20) rfl (by kernel_rfl) (by kernel_rfl) (by kernel_rfl) (fun _ _ _ h => h) (Or.inl ⟨by rfl, ?yy20⟩) (by assumption) ?zz20
          case yy20 => (intro w hSw; go_simp; first | done | with_reducible rfl)
          try simp only [List.getElem_toArray, List.getElem_cons_succ, List.getElem_cons_zero, Act.put, List.setIfInBounds_toArray, List.set_cons_zero, List.set_cons_succ]
          refine wpAnyH_take (i := 21) (v := ?vv21) rfl (by kernel_rfl) (by kernel_rfl) (by kernel_rfl) (fun _ _ _ h => h) (Or.inl ⟨by rfl, ?yy21⟩) (by assumption) ?zz21
          case yy21 => (intro w hSw; go_simp; first | done | with_reducible rfl)
          try simp only [List.getElem_toArray, List.getElem_cons_succ, List.getElem_cons_zero, Act.put, List.setIfInBounds_toArray, List.set_cons_zero, List.set_cons_succ]
          refine wpAnyH_take (i := 22) (v := ?vv22) rfl (by kernel_rfl) (by kernel_rfl) (by kernel_rfl) (fun _ _ _ h => h) (Or.inl ⟨by rfl, ?yy22⟩) (by assumption) ?zz22
          case yy22 => (intro w hSw; go_simp; first | done | with_reducible rfl)
          try simp only [List.getElem_toArray, List.getElem_cons_succ, List.getElem_cons_zero, Act.put, List.setIfInBounds_toArray, List.set_cons_zero, List.set_cons_succ]
          refine wpAnyH_take (i := 23) (v := ?vv23) rfl (by kernel_rfl) (by kernel_rfl) (by kernel_rfl) (fun _ _ _ h => h) (Or.inl ⟨by rfl, ?yy23⟩) (by assumption) ?zz23
          case yy23 => (intro w hSw; go_simp; first | done | with_reducible rfl)
          try simp only [List.getElem_toArray, List.getElem_cons_succ, List.getElem_cons_zero, Act.put, List.setIfInBounds_toArray, List.set_cons_zero, List.set_cons_succ]
          refine wpAnyH_take (i := 24) (v := ?vv24) rfl (by kernel_rfl) (by kernel_rfl) (by kernel_rfl) (fun _ _ _ h => h) (Or.inl ⟨by rfl, ?yy24⟩) (by assumption) ?zz24
          case yy24 => (intro w hSw; go_simp; first | done | with_reducible rfl)
          try simp only [List.getElem_toArray, List.getElem_cons_succ, List.getElem_cons_zero, Act.put, List.setIfInBounds_toArray, List.set_cons_zero, List.set_cons_succ]
          refine wpAnyH_take (i := 25) (v := ?vv25) rfl (by kernel_rfl) (by kernel_rfl) (by kernel_rfl) (fun _ _ _ h => h) (Or.inl ⟨by rfl, ?yy25⟩) (by assumption) ?zz25
          case yy25 => (intro w hSw; go_simp; first | done | with_reducible rfl)
          try simp only [List.getElem_toArray, List.getElem_cons_succ, List.getElem_cons_zero, Act.put, List.setIfInBounds_toArray, List.set_cons_zero, List.set_cons_succ]
          refine wpAnyH_take (i := 26) (v := ?vv26) rfl (by kernel_rfl) (by kernel_rfl) (by kernel_rfl) (fun _ _ _ h => h) (Or.inl ⟨by rfl, ?yy26⟩) (by assumption) ?zz26
          case yy26 => (intro w hSw; go_simp; first | done | with_reducible rfl)
          try simp only [List.getElem_toArray, List.getElem_cons_succ, List.getElem_cons_zero, Act.put, List.setIfInBounds_toArray, List.set_cons_zero, List.set_cons_succ]
          refine wpAnyH_take (i := 27) (v := ?vv27) rfl (by kernel_rfl) (by kernel_rfl) (by kernel_rfl) (fun _ _ _ h => h) (Or.inl ⟨by rfl, ?yy27⟩) (by assumption) ?zz27
          case yy27 => (intro w hSw; go_simp; first | done | with_reducible rfl)
          try simp only [List.getElem_toArray, List.getElem_cons_succ, List.getElem_cons_zero, Act.put, List.setIfInBounds_toArray, List.set_cons_zero, List.set_cons_succ]
          refine wpAnyH_take (i := 28) (v := ?vv28) rfl (by kernel_rfl) (by kernel_rfl) (by kernel_rfl) (fun _ _ _ h => h) (Or.inl ⟨by rfl, ?yy28⟩) (by assumption) ?zz28
          case yy28 => (intro w hSw; go_simp; first | done | with_reducible rfl)
          try simp only [List.getElem_toArray, List.getElem_cons_succ, List.getElem_cons_zero, Act.put, List.setIfInBounds_toArray, List.set_cons_zero, List.set_cons_succ]
          refine wpAnyH_take (i := 29) (v := ?vv29) rfl (by kernel_rfl) (by kernel_rfl) (by kernel_rfl) (fun _ _ _ h => h) (Or.inl ⟨by rfl, ?yy29⟩) (by assumption) ?zz29
          case yy29 => (intro w hSw; go_simp; first | done | with_reducible rfl)
          try simp only [List.getElem_toArray, List.getElem_cons_succ, List.getElem_cons_zero, Act.put, List.setIfInBounds_toArray, List.set_cons_zero, List.set_cons_succ]
          refine wpAnyH_take (i := 30) (v := ?vv30) rfl (by kernel_rfl) (by kernel_rfl) (by kernel_rfl) (fun _ _ _ h => h) (Or.inl ⟨by rfl, ?yy30⟩) (by assumption) ?zz30
          case yy30 => (intro w hSw; go_simp; first | done | with_reducible rfl)
          try simp only [List.getElem_toArray, List.getElem_cons_succ, List.getElem_cons_zero, Act.put, List.setIfInBounds_toArray, List.set_cons_zero, List.set_cons_succ]
          refine wpAnyH_ready (rs := [31]) (by kernel_rfl) (by simp) ?_
          refine AllReadyH.cons rfl (fun K hK => ?_) AllReadyH.nil
          go_simp
          (go_at_call 20; refine (K1.out _).mono ?_; rintro e w8 ⟨rfl, hb8⟩)
          refine hK.out _ _ (by first | exact Below.refl _ _ | exact Below.drew (Below.refl _ _) | (refine Below.drew ?_; assumption) | exact belT (by assumption) (by assumption) | assumption) (fun hHeld => ?_)
          clear hK K
          try simp only [List.getElem_toArray, List.getElem_cons_succ, List.getElem_cons_zero, Act.put, List.setIfInBounds_toArray, List.set_cons_zero, List.set_cons_succ]
          refine wpAnyH_take (i := 32) (v := ?vv32) rfl (by kernel_rfl) (by kernel_rfl) (by kernel_rfl) (fun _ _ _ h => h) (Or.inl ⟨by rfl, ?yy32⟩) (by assumption) ?zz32
          case yy32 => (intro w hSw; go_simp; first | done | with_reducible rfl)
          try simp only [List.getElem_toArray, List.getElem_cons_succ, List.getElem_cons_zero, Act.put, List.setIfInBounds_toArray, List.set_cons_zero, List.set_cons_succ]
          refine wpAnyH_take (i := 33) (v := ?vv33) rfl (by kernel_rfl) (by kernel_rfl) (by kernel_rfl) (fun _ _ _ h => h) (Or.inl ⟨by rfl, ?yy33⟩) (by assumption) ?zz33
          case yy33 => (intro w hSw; go_simp; first | done | with_reducible rfl)
          try simp only [List.getElem_toArray, List.getElem_cons_succ, List.getElem_cons_zero, Act.put, List.setIfInBounds_toArray, List.set_cons_zero, List.set_cons_succ]
          refine wpAnyH_take (i := 34) (v := ?vv34) rfl (by kernel_rfl) (by kernel_rfl) (by kernel_rfl) (fun _ _ _ h => h) (Or.inl ⟨by rfl, ?yy34⟩) (by assumption) ?zz34
          case yy34 => (intro w hSw; go_simp; first | done | with_reducible rfl)
          try simp only [List.getElem_toArray, List.getElem_cons_succ, List.getElem_cons_zero, Act.put, List.setIfInBounds_toArray, List.set_cons_zero, List.set_cons_succ]
          refine wpAnyH_take (i := 35) (v := ?vv35) rfl (by kernel_rfl) (by kernel_rfl) (by kernel_rfl) (fun _ _ _ h => h) (Or.inl ⟨by rfl, ?yy35⟩) (by assumption) ?zz35
          case yy35 => (intro w hSw; go_simp; first | done | with_reducible rfl)
          try simp only [List.getElem_toArray, List.getElem_cons_succ, List.getElem_cons_zero, Act.put, List.setIfInBounds_toArray, List.set_cons_zero, List.set_cons_succ]
          refine wpAnyH_ready (rs := [36]) (by kernel_rfl) (by simp) ?_
          refine AllReadyH.cons rfl (fun K hK => ?_) AllReadyH.nil
          go_simp
          (go_at_call 20; refine (K2.out _).mono ?_; rintro e w9 ⟨rfl, hb9⟩)
          refine hK.out _ _ (by first | exact Below.refl _ _ | exact Below.drew (Below.refl _ _) | (refine Below.drew ?_; assumption) | exact belT (by assumption) (by assumption) | assumption) (fun hHeld => ?_)
          clear hK K
          try simp only [List.getElem_toArray, List.getElem_cons_succ, List.getElem_cons_zero, Act.put, List.setIfInBounds_toArray, List.set_cons_zero, List.set_cons_succ]
          refine wpAnyH_take (i := 37) (v := ?vv37) rfl (by kernel_rfl) (by kernel_rfl) (by kernel_rfl) (fun _ _ _ h => h) (Or.inl ⟨by rfl, ?yy37⟩) (by assumption) ?zz37
          case yy37 => (intro w hSw; go_simp; first | done | with_reducible rfl)
          try simp only [List.getElem_toArray, List.getElem_cons_succ, List.getElem_cons_zero, Act.put, List.setIfInBounds_toArray, List.set_cons_zero, List.set_cons_succ]
          refine wpAnyH_take (i := 38) (v := ?vv38) rfl (by kernel_rfl) (by kernel_rfl) (by kernel_rfl) (fun _ _ _ h => h) (Or.inl ⟨by rfl, ?yy38⟩) (by assumption) ?zz38
          case yy38 => (intro w hSw; go_simp; first | done | with_reducible rfl)
          try simp only [List.getElem_toArray, List.getElem_cons_succ, List.getElem_cons_zero, Act.put, List.setIfInBounds_toArray, List.set_cons_zero, List.set_cons_succ]
          refine wpAnyH_take (i := 39) (v := ?vv39) rfl (by kernel_rfl) (by kernel_rfl) (by kernel_rfl) (fun _ _ _ h => h) (Or.inl ⟨by rfl, ?yy39⟩) (by assumption) ?zz39
          case yy39 => (intro w hSw; go_simp; first | done | with_reducible rfl)
          try simp only [List.getElem_toArray, List.getElem_cons_succ, List.getElem_cons_zero, Act.put, List.setIfInBounds_toArray, List.set_cons_zero, List.set_cons_succ]
          refine wpAnyH_take (i := 40) (v := ?vv40) rfl (by kernel_rfl) (by kernel_rfl) (by kernel_rfl) (fun _ _ _ h => h) (Or.inl ⟨by rfl, ?yy40⟩) (by assumption) ?zz40
          case yy40 => (intro w hSw; go_simp; first | done | with_reducible rfl)
          try simp only [List.getElem_toArray, List.getElem_cons_succ, List.getElem_cons_zero, Act.put, List.setIfInBounds_toArray, List.set_cons_zero, List.set_cons_succ]
          refine wpAnyH_take (i := 41) (v := ?vv41) rfl (by kernel_rfl) (by kernel_rfl) (by kernel_rfl) (fun _ _ _ h => h) (Or.inl ⟨by rfl, ?yy41⟩) (by assumption) ?zz41
          case yy41 => (intro w hSw; go_simp; first | done | with_reducible rfl)
          try simp only [List.getElem_toArray, List.getElem_cons_succ, List.getElem_cons_zero, Act.put, List.setIfInBounds_toArray, List.set_cons_zero, List.set_cons_succ]
          refine wpAnyH_done (by kernel_rfl) ?_ _
          go_wp2_with fail
          go_ret
          exact ⟨by simp, belT BEL0.out (by assumption)⟩

end Go.Proofs.Ytakkdpjgdmngkaa
