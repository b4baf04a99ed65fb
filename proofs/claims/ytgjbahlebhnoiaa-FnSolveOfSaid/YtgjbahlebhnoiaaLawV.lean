/- The walk of the law of SolveOf. (Written by wip/gen/law4.py.) -/
import Derived.Test.YtgjbahlebhnoiaaExactV
import Derived.Test.YtgjbahlebhnoiaaMF
import Derived.Test.YtgjbahlebhnoiaaMH
import Derived.Test.YtgjbahlebhnoiaaLawT
import Derived.Test.YtgjbahlebhnoiaaMI
namespace Go.Proofs.Ytgjbahlebhnoiaa
set_option linter.unusedSimpArgs false
set_option linter.unusedVariables false
open Go.RowKit

theorem sameSolution (u d : Int) (A B A' B' : Option Addr) (c k c' k' : Nat) (x y : List Int) (hx : x.length ≤ maxLen) (hy : y.length ≤ maxLen) (w : World) (h1 : Ints w (· < w.heap.size) A x) (h2 : Ints w (· < w.heap.size) B y) (h3 : Ints w (· < w.heap.size) A' x) (h4 : Ints w (· < w.heap.size) B' y) :
    Calls Try.prog 21 #[.agg #[.int .i64 u, .int .i64 d, .slice A x.length c, .slice B y.length k], .agg #[.int .i64 u, .int .i64 d, .slice A' x.length c', .slice B' y.length k']] w (Adds (.bool true) w) := by
  have H1 := Lib.hid h1
  have H2 := Lib.hid h2
  have H3 := Lib.hid h3
  have H4 := Lib.hid h4
  clear h1 h2 h3 h4
  have zU : (u == u) = true := by simp
  have zD : (d == d) = true := by simp
  go_enter Try.func21, Try.ntmps21
  go_wp2_with fail
  obtain ⟨W, hW⟩ : ∃ W : World, W = ((w.alloc (.cells #[(Value.int .i64 u), (Value.int .i64 d), (Value.slice A x.length c), (Value.slice B y.length k)] 39)).alloc (.cells #[(Value.int .i64 u), (Value.int .i64 d), (Value.slice A' x.length c'), (Value.slice B' y.length k')] 39)) := ⟨_, rfl⟩
  have hzW : W.heap.size = w.heap.size + 2 := by rw [hW]; simp
  have hbW : Below w.heap.size w W := by rw [hW]; exact (by repeat (first | exact Below.refl _ _ | assumption | exact bel1 (by assumption) | exact bel2 (by assumption) | exact bel3 (by assumption) | exact bel4 (by assumption) | refine Below.drew ?_ | refine below_drewN ?_ _ | refine Below.setCell ?_ (by first | (simp; done) | (simp; omega)) _ | refine Below.alloc ?_ (by first | (simp; done) | (simp; omega)) _))
  have r00 := stays (p := w.heap.size) (o := 0) (by omega) (show W.cell? ⟨w.heap.size, 0, none⟩ = some ((Value.int .i64 u)) from by rw [hW]; simp [go_sem])
  have r01 := stays (p := w.heap.size) (o := 1) (by omega) (show W.cell? ⟨w.heap.size, 1, none⟩ = some ((Value.int .i64 d)) from by rw [hW]; simp [go_sem])
  have r02 := stays (p := w.heap.size) (o := 2) (by omega) (show W.cell? ⟨w.heap.size, 2, none⟩ = some ((Value.slice A x.length c)) from by rw [hW]; simp [go_sem])
  have r03 := stays (p := w.heap.size) (o := 3) (by omega) (show W.cell? ⟨w.heap.size, 3, none⟩ = some ((Value.slice B y.length k)) from by rw [hW]; simp [go_sem])
  have r10 := stays (p := w.heap.size + 1) (o := 0) (by omega) (show W.cell? ⟨w.heap.size + 1, 0, none⟩ = some ((Value.int .i64 u)) from by rw [hW]; simp [go_sem])
  have r11 := stays (p := w.heap.size + 1) (o := 1) (by omega) (show W.cell? ⟨w.heap.size + 1, 1, none⟩ = some ((Value.int .i64 d)) from by rw [hW]; simp [go_sem])
  have r12 := stays (p := w.heap.size + 1) (o := 2) (by omega) (show W.cell? ⟨w.heap.size + 1, 2, none⟩ = some ((Value.slice A' x.length c')) from by rw [hW]; simp [go_sem])
  have r13 := stays (p := w.heap.size + 1) (o := 3) (by omega) (show W.cell? ⟨w.heap.size + 1, 3, none⟩ = some ((Value.slice B' y.length k')) from by rw [hW]; simp [go_sem])
  rw [← hW]
  clear hW
  have HzW := Lib.hid hzW
  clear hzW
  have HBW := Lib.hid hbW
  refine (sameInts _ _ _ _ x _ _ hx _ (keepInts HBW.out H1.out) (keepInts HBW.out H3.out)).mono ?_
  rintro e w2 ⟨rfl, n, rfl⟩
  have HB2 : Hid (Below w.heap.size w (W.drewN n)) := below_drewN HBW.out n
  have hk2 : Below W.heap.size W (W.drewN n) := below_drewN (Below.refl _ _) n
  go_wp2_with fail
  refine (sameInts _ _ _ _ y _ _ hy _ (keepInts HB2.out H2.out) (keepInts HB2.out H4.out)).mono ?_
  rintro e w3 ⟨rfl, n2, rfl⟩
  go_wp2_with fail
  go_ret
  exact Adds.of rfl (below_drewN HBW.out _)

set_option maxHeartbeats 4000000 in
set_option maxRecDepth 100000 in
theorem wFnSolveOf (I : Impl4) (a : Option Addr) (len cap : Nat) (zs : List Int) (w : World) (h : IsRow .u8 w a len cap zs) :
    Calls Try.prog 4 #[.slice a len cap] w fun e w' => e = .returned (.bool true) ∧ Below w.heap.size w w' := by
  have hle := byte_len h
  by_cases hbig : (1048576 : Int) < (len : Int)
  · go_enter Try.func4, Try.ntmps4
    go_wp2_with fail
    go_ret
    exact ⟨rfl, Below.refl _ _⟩
  go_enter Try.func4, Try.ntmps4
  go_wp2_with fail
  refine (dDrawSolveOf a len cap zs w h).mono ?_
  rintro e w1 ⟨g, T, c, rfl, hc1, hc2, hg17, hgr, hb1, ho1⟩
  clear hbig hle
  have BEL0 := Lib.hid hb1
  have R0 := Lib.hid ho1.lt
  have hl := small_max hg17
  clear hb1 ho1 hgr hc1 hc2
  have zB : (solB g != solB g) = false := by simp
  obtain ⟨hlx, hly⟩ := sol_len g
  have HL1 : Hid ((solX g).length ≤ maxLen) := by show _ ≤ _; unfold maxLen; omega
  have HL2 : Hid ((solY g).length ≤ maxLen) := by show _ ≤ _; unfold maxLen; omega
  have HM1 : Hid ((solX g).length ≤ 4294967296) := by show _ ≤ _; omega
  have HM2 : Hid ((solY g).length ≤ 4294967296) := by show _ ≤ _; omega
  clear hlx hly
  go_wp2_with fail
  refine (I.solve _ _ g hl _ R0.out).mono ?_
  rintro e w2 ⟨TG1, cG1, TG2, cG2, rfl, hb2, ho2, hp2, _⟩
  have G1 := Lib.hid ho2.lt
  have G2 := Lib.hid hp2.lt
  replace R0 := Lib.hid (stillRows R0.out hb2)
  replace BEL0 := Lib.hid (belT BEL0.out hb2)
  clear hb2 ho2 hp2
  go_wp2_with fail
  obtain ⟨WBG, hWBG⟩ : ∃ WBG : World, WBG = w2.alloc (.cells #[.int .i64 (solU g), .int .i64 (solD g), .slice TG1 (solX g).length cG1, .slice TG2 (solY g).length cG2] 39) := ⟨_, rfl⟩
  have hbWBG : Below w2.heap.size w2 WBG := by rw [hWBG]; exact (Below.refl _ _).alloc (Nat.le_refl _) _
  have BG : Hid (Box4 WBG w2.heap.size (.int .i64 (solU g)) (.int .i64 (solD g)) (.slice TG1 (solX g).length cG1) (.slice TG2 (solY g).length cG2)) := by show Box4 _ _ _ _ _ _; rw [hWBG]; exact Box4.new _ _ _ _ _
  rw [← hWBG]
  clear hWBG
  replace R0 := Lib.hid (stillRows R0.out hbWBG)
  replace G1 := Lib.hid (stillInts G1.out hbWBG)
  replace G2 := Lib.hid (stillInts G2.out hbWBG)
  replace BEL0 := Lib.hid (belT BEL0.out hbWBG)
  clear hbWBG
  go_wp2_with fail
  refine (sol_spec _ _ g hl _ R0.out).mono ?_
  rintro e w3 ⟨TV1, cV1, TV2, cV2, rfl, hb3, ho3, hp3⟩
  have V1 := Lib.hid ho3.lt
  have V2 := Lib.hid hp3.lt
  replace R0 := Lib.hid (stillRows R0.out hb3)
  replace G1 := Lib.hid (stillInts G1.out hb3)
  replace G2 := Lib.hid (stillInts G2.out hb3)
  replace BG := Lib.hid (BG.out.still hb3)
  replace BEL0 := Lib.hid (belT BEL0.out hb3)
  clear hb3 ho3 hp3
  have cBG0 := BG.out.c0
  have cBG1 := BG.out.c1
  have cBG2 := BG.out.c2
  have cBG3 := BG.out.c3
  have ltBG := BG.out.lt
  go_wp2_with fail
  obtain ⟨WBV, hWBV⟩ : ∃ WBV : World, WBV = w3.alloc (.cells #[.int .i64 (solU g), .int .i64 (solD g), .slice TV1 (solX g).length cV1, .slice TV2 (solY g).length cV2] 39) := ⟨_, rfl⟩
  have hbWBV : Below w3.heap.size w3 WBV := by rw [hWBV]; exact (Below.refl _ _).alloc (Nat.le_refl _) _
  have BV : Hid (Box4 WBV w3.heap.size (.int .i64 (solU g)) (.int .i64 (solD g)) (.slice TV1 (solX g).length cV1) (.slice TV2 (solY g).length cV2)) := by show Box4 _ _ _ _ _ _; rw [hWBV]; exact Box4.new _ _ _ _ _
  rw [← hWBV]
  clear hWBV
  replace R0 := Lib.hid (stillRows R0.out hbWBV)
  replace G1 := Lib.hid (stillInts G1.out hbWBV)
  replace G2 := Lib.hid (stillInts G2.out hbWBV)
  replace BG := Lib.hid (BG.out.still hbWBV)
  replace V1 := Lib.hid (stillInts V1.out hbWBV)
  replace V2 := Lib.hid (stillInts V2.out hbWBV)
  replace BEL0 := Lib.hid (belT BEL0.out hbWBV)
  clear hbWBV
  clear cBG0 cBG1 cBG2 cBG3 ltBG
  have cBG0 := BG.out.c0
  have cBG1 := BG.out.c1
  have cBG2 := BG.out.c2
  have cBG3 := BG.out.c3
  have ltBG := BG.out.lt
  have cBV0 := BV.out.c0
  have cBV1 := BV.out.c1
  have cBV2 := BV.out.c2
  have cBV3 := BV.out.c3
  have ltBV := BV.out.lt
  go_wp2_with fail
  refine (sameSolution _ _ _ _ _ _ _ _ _ _ (solX g) (solY g) HL1.out HL2.out _ G1.out G2.out V1.out V2.out).mono ?_
  rintro e w4 ⟨rfl, hb4⟩
  replace R0 := Lib.hid (stillRows R0.out hb4)
  replace G1 := Lib.hid (stillInts G1.out hb4)
  replace G2 := Lib.hid (stillInts G2.out hb4)
  replace BG := Lib.hid (BG.out.still hb4)
  replace V1 := Lib.hid (stillInts V1.out hb4)
  replace V2 := Lib.hid (stillInts V2.out hb4)
  replace BV := Lib.hid (BV.out.still hb4)
  replace BEL0 := Lib.hid (belT BEL0.out hb4)
  clear hb4
  clear cBG0 cBG1 cBG2 cBG3 ltBG
  clear cBV0 cBV1 cBV2 cBV3 ltBV
  clear V1
  clear V2
  clear BV
  rcases hb : solB g with _ | _
  · skip
    have hns : ¬ (gameB g = true ∧ g.length ≤ 4 ∧ (rowAt g 0).length ≤ 4) := fun h => by rw [sol_iff.2 h] at hb; cases hb
    clear zB hb HL1 HL2 HM1 HM2
    clear G1
    clear G2
    clear BG
    go_wp2_with fail
    refine (game_impl _ _ g _ hl _ R0.out).mono ?_
    rintro e wz ⟨rfl, rfl⟩
    rcases hgb : gameB g with _ | _
    · skip
      clear hgb hns
      go_wp2_with fail
      refine (alive _).mono ?_
      rintro e w9 ⟨rfl, hb9⟩
      have hb8 := Lib.hid (belT (w := w4) (by exact (by repeat (first | exact Below.refl _ _ | assumption | exact bel1 (by assumption) | exact bel2 (by assumption) | exact bel3 (by assumption) | exact bel4 (by assumption) | refine Below.drew ?_ | refine below_drewN ?_ _ | refine Below.setCell ?_ (by first | (simp; done) | (simp; omega)) _ | refine Below.alloc ?_ (by first | (simp; done) | (simp; omega)) _))) hb9)
      clear hb9
      go_wp2_with fail
      go_ret
      exact ⟨by first | rfl | (simp; done) | (simp; omega), belT BEL0.out hb8.out⟩
    · skip
      have hg := Game.of hgb
      have hg1 := hg.lo
      have hg2 := hg.hi
      have hg3 := hg.mlo
      have hg4 := hg.mhi
      clear hg
      by_cases h4 : g.length ≤ 4
      · skip
        have hn4 : ¬ (rowAt g 0).length ≤ 4 := fun h => hns ⟨hgb, h4, h⟩
        obtain ⟨bt, ot, rfl⟩ := R0.out.some (by omega)
        obtain ⟨_, A0, c0, hc0, hl0', hm0, _⟩ := R0.out.row (i := 0) (by omega)
        rw [Nat.add_zero] at hc0
        unfold maxLen at hm0
        clear hns hgb
        go_wp2_with fail
        refine (alive _).mono ?_
        rintro e w9 ⟨rfl, hb9⟩
        have hb8 := Lib.hid (belT (w := w4) (by exact (by repeat (first | exact Below.refl _ _ | assumption | exact bel1 (by assumption) | exact bel2 (by assumption) | exact bel3 (by assumption) | exact bel4 (by assumption) | refine Below.drew ?_ | refine below_drewN ?_ _ | refine Below.setCell ?_ (by first | (simp; done) | (simp; omega)) _ | refine Below.alloc ?_ (by first | (simp; done) | (simp; omega)) _))) hb9)
        clear hb9
        go_wp2_with fail
        go_ret
        exact ⟨by first | rfl | (simp; done) | (simp; omega), belT BEL0.out hb8.out⟩
      · skip
        clear hns hgb
        go_wp2_with fail
        refine (alive _).mono ?_
        rintro e w9 ⟨rfl, hb9⟩
        have hb8 := Lib.hid (belT (w := w4) (by exact (by repeat (first | exact Below.refl _ _ | assumption | exact bel1 (by assumption) | exact bel2 (by assumption) | exact bel3 (by assumption) | exact bel4 (by assumption) | refine Below.drew ?_ | refine below_drewN ?_ _ | refine Below.setCell ?_ (by first | (simp; done) | (simp; omega)) _ | refine Below.alloc ?_ (by first | (simp; done) | (simp; omega)) _))) hb9)
        clear hb9
        go_wp2_with fail
        go_ret
        exact ⟨by first | rfl | (simp; done) | (simp; omega), belT BEL0.out hb8.out⟩
  have HV : Hid (safU g (solX g) = solU g ∧ safD g (solX g) = solD g ∧ risU g (solY g) = solU g ∧ risD g (solY g) = solD g ∧ safB g (solX g) = true ∧ risB g (solY g) = true ∧ setB g (solX g) (solY g) = true) := by
    obtain ⟨_, _, _, k, e1, e2⟩ := sol_parts hb
    obtain ⟨s1, s2, s3, s4⟩ := set_of k
    exact ⟨e1.symm, e2.symm, by rw [e1, s3], by rw [e2, s4], s1, s2, k⟩
  have HE := Lib.hid (sol_less hb)
  clear hb zB HL1 HL2
  have cBG0 := BG.out.c0
  have cBG1 := BG.out.c1
  have cBG2 := BG.out.c2
  have cBG3 := BG.out.c3
  have ltBG := BG.out.lt
  go_wp2_with fail
  refine (safe_impl _ _ _ _ g (solX g) hl HM1.out _ R0.out G1.out).mono ?_
  rintro e w5 ⟨rfl, hb5⟩
  replace R0 := Lib.hid (stillRows R0.out hb5)
  replace G1 := Lib.hid (stillInts G1.out hb5)
  replace G2 := Lib.hid (stillInts G2.out hb5)
  replace BG := Lib.hid (BG.out.still hb5)
  replace BEL0 := Lib.hid (belT BEL0.out hb5)
  clear hb5
  try unfold FracRes
  rw [HV.out.1, HV.out.2.1, HV.out.2.2.2.2.1]
  clear cBG0 cBG1 cBG2 cBG3 ltBG
  have cBG0 := BG.out.c0
  have cBG1 := BG.out.c1
  have cBG2 := BG.out.c2
  have cBG3 := BG.out.c3
  have ltBG := BG.out.lt
  go_wp2_with fail
  obtain ⟨WFS, hWFS⟩ : ∃ WFS : World, WFS = w5.alloc (.cells #[.int .i64 (solU g), .int .i64 (solD g)] 32) := ⟨_, rfl⟩
  have hbWFS : Below w5.heap.size w5 WFS := by rw [hWFS]; exact (Below.refl _ _).alloc (Nat.le_refl _) _
  have FS : Hid (Box2 WFS w5.heap.size (solU g) (solD g)) := by show Box2 _ _ _ _; rw [hWFS]; exact Box2.new _ _ _
  rw [← hWFS]
  clear hWFS
  replace R0 := Lib.hid (stillRows R0.out hbWFS)
  replace G1 := Lib.hid (stillInts G1.out hbWFS)
  replace G2 := Lib.hid (stillInts G2.out hbWFS)
  replace BG := Lib.hid (BG.out.still hbWFS)
  replace BEL0 := Lib.hid (belT BEL0.out hbWFS)
  clear hbWFS
  clear cBG0 cBG1 cBG2 cBG3 ltBG
  refine (risk_impl _ _ _ _ g (solY g) hl HM2.out _ R0.out G2.out).mono ?_
  rintro e w6 ⟨rfl, hb6⟩
  replace R0 := Lib.hid (stillRows R0.out hb6)
  replace G1 := Lib.hid (stillInts G1.out hb6)
  replace G2 := Lib.hid (stillInts G2.out hb6)
  replace BG := Lib.hid (BG.out.still hb6)
  replace FS := Lib.hid (FS.out.still hb6)
  replace BEL0 := Lib.hid (belT BEL0.out hb6)
  clear hb6
  try unfold FracRes
  rw [HV.out.2.2.1, HV.out.2.2.2.1, HV.out.2.2.2.2.2.1]
  go_wp2_with fail
  obtain ⟨WFR, hWFR⟩ : ∃ WFR : World, WFR = w6.alloc (.cells #[.int .i64 (solU g), .int .i64 (solD g)] 32) := ⟨_, rfl⟩
  have hbWFR : Below w6.heap.size w6 WFR := by rw [hWFR]; exact (Below.refl _ _).alloc (Nat.le_refl _) _
  have FR : Hid (Box2 WFR w6.heap.size (solU g) (solD g)) := by show Box2 _ _ _ _; rw [hWFR]; exact Box2.new _ _ _
  rw [← hWFR]
  clear hWFR
  replace R0 := Lib.hid (stillRows R0.out hbWFR)
  replace G1 := Lib.hid (stillInts G1.out hbWFR)
  replace G2 := Lib.hid (stillInts G2.out hbWFR)
  replace BG := Lib.hid (BG.out.still hbWFR)
  replace FS := Lib.hid (FS.out.still hbWFR)
  replace BEL0 := Lib.hid (belT BEL0.out hbWFR)
  clear hbWFR
  refine (floor_impl _ _ g hl _ R0.out).mono ?_
  rintro e w7 ⟨rfl, hb7⟩
  replace R0 := Lib.hid (stillRows R0.out hb7)
  replace G1 := Lib.hid (stillInts G1.out hb7)
  replace G2 := Lib.hid (stillInts G2.out hb7)
  replace BG := Lib.hid (BG.out.still hb7)
  replace FS := Lib.hid (FS.out.still hb7)
  replace FR := Lib.hid (FR.out.still hb7)
  replace BEL0 := Lib.hid (belT BEL0.out hb7)
  clear hb7
  go_wp2_with fail
  refine (roof_impl _ _ g hl _ R0.out).mono ?_
  rintro e w8 ⟨rfl, hb8⟩
  replace R0 := Lib.hid (stillRows R0.out hb8)
  replace G1 := Lib.hid (stillInts G1.out hb8)
  replace G2 := Lib.hid (stillInts G2.out hb8)
  replace BG := Lib.hid (BG.out.still hb8)
  replace FS := Lib.hid (FS.out.still hb8)
  replace FR := Lib.hid (FR.out.still hb8)
  replace BEL0 := Lib.hid (belT BEL0.out hb8)
  clear hb8
  have cBG0 := BG.out.c0
  have cBG1 := BG.out.c1
  have cBG2 := BG.out.c2
  have cBG3 := BG.out.c3
  have ltBG := BG.out.lt
  go_wp2_with fail
  clear cBG0 cBG1 cBG2 cBG3 ltBG
  refine (set_impl _ _ _ _ _ _ g (solX g) (solY g) hl HM1.out HM2.out _ R0.out G1.out G2.out).mono ?_
  rintro e w9 ⟨rfl, hb9⟩
  replace R0 := Lib.hid (stillRows R0.out hb9)
  replace G1 := Lib.hid (stillInts G1.out hb9)
  replace G2 := Lib.hid (stillInts G2.out hb9)
  replace BG := Lib.hid (BG.out.still hb9)
  replace FS := Lib.hid (FS.out.still hb9)
  replace FR := Lib.hid (FR.out.still hb9)
  replace BEL0 := Lib.hid (belT BEL0.out hb9)
  clear hb9
  rw [HV.out.2.2.2.2.2.2]
  clear R0
  clear G1
  clear G2
  clear HV HM1 HM2 hl
  have C1 := less_impl (solU g) (solD g) (floV g) 1
  rw [HE.out.1] at C1
  have C2 := less_impl (rooV g) 1 (solU g) (solD g)
  rw [HE.out.2] at C2
  clear HE
  have cBG0 := BG.out.c0
  have cBG1 := BG.out.c1
  have cBG2 := BG.out.c2
  have cBG3 := BG.out.c3
  have ltBG := BG.out.lt
  have cFS0 := FS.out.c0
  have cFS1 := FS.out.c1
  have cFR0 := FR.out.c0
  have cFR1 := FR.out.c1
  go_wp2_with fail
  clear cBG0 cBG1 cBG2 cBG3 ltBG
  clear cFS0 cFS1
  clear cFR0 cFR1
  refine (C1 _).mono ?_
  rintro e w10 ⟨rfl, hb10⟩
  replace BG := Lib.hid (BG.out.still hb10)
  replace FS := Lib.hid (FS.out.still hb10)
  replace FR := Lib.hid (FR.out.still hb10)
  replace BEL0 := Lib.hid (belT BEL0.out hb10)
  clear hb10
  have cBG0 := BG.out.c0
  have cBG1 := BG.out.c1
  have cBG2 := BG.out.c2
  have cBG3 := BG.out.c3
  have ltBG := BG.out.lt
  go_wp2_with fail
  clear cBG0 cBG1 cBG2 cBG3 ltBG
  refine (C2 _).mono ?_
  rintro e w11 ⟨rfl, hb11⟩
  replace BG := Lib.hid (BG.out.still hb11)
  replace FS := Lib.hid (FS.out.still hb11)
  replace FR := Lib.hid (FR.out.still hb11)
  replace BEL0 := Lib.hid (belT BEL0.out hb11)
  clear hb11
  go_wp2_with fail
  go_ret
  exact ⟨by simp, BEL0.out⟩

end Go.Proofs.Ytgjbahlebhnoiaa
