/- The walk of the law of BestRows. (Written by wip/gen/law3.py.) -/
import Derived.Test.YtjojilimdhekfaaExactM
import Derived.Test.YtjojilimdhekfaaMind
import Derived.Test.YtjojilimdhekfaaDrawY
import Derived.Test.YtjojilimdhekfaaLawT
namespace Go.Proofs.Ytjojilimdhekfaa
set_option linter.unusedSimpArgs false
set_option linter.unusedVariables false
open Go.RowKit

set_option maxHeartbeats 4000000 in
set_option maxRecDepth 100000 in
theorem wFnBestRows (I : Impl3) (a : Option Addr) (len cap : Nat) (zs : List Int) (w : World) (h : IsRow .u8 w a len cap zs) :
    Calls Try.prog 7 #[.slice a len cap] w fun e w' => e = .returned (.bool true) ∧ Below w.heap.size w w' := by
  have hle := byte_len h
  by_cases hbig : (1048576 : Int) < (len : Int)
  · go_enter Try.func7, Try.ntmps7
    go_wp2_with fail
    go_ret
    exact ⟨rfl, Below.refl _ _⟩
  go_enter Try.func7, Try.ntmps7
  go_wp2_with fail
  refine (dDrawBestRows a len cap zs w h).mono ?_
  rintro e w1 ⟨g, y, T, A, c, d, rfl, hg17, hgr, hx18, hb1, r0, r1⟩
  clear hbig hle
  have BEL0 := Lib.hid hb1
  have R0 := Lib.hid r0
  have R1 := Lib.hid r1
  have hl := small_max hg17
  have hbl := bestL_len g y
  have hbm := small_max (Nat.le_trans hbl (by omega))
  clear hb1 r0 r1 hgr
  go_wp2_with fail
  refine (I.best _ _ _ _ g y hl (by omega) _ R0.out R1.out).mono ?_
  rintro e w2 ⟨AL, cL, rfl, hb2, ho2⟩
  have LI := Lib.hid ho2.lt
  replace R0 := Lib.hid (stillRows R0.out hb2)
  replace R1 := Lib.hid (stillInts R1.out hb2)
  replace BEL0 := Lib.hid (belT BEL0.out hb2)
  clear hb2 ho2
  go_wp2_with fail
  refine (best_spec _ _ _ _ g y hl (by omega) _ R0.out R1.out).mono ?_
  rintro e w3 ⟨AS, cS, rfl, hb3, ho3⟩
  have LS := Lib.hid ho3.lt
  replace R0 := Lib.hid (stillRows R0.out hb3)
  replace R1 := Lib.hid (stillInts R1.out hb3)
  replace LI := Lib.hid (stillInts LI.out hb3)
  replace BEL0 := Lib.hid (belT BEL0.out hb3)
  clear hb3 ho3
  go_wp2_with fail
  refine (sameInts _ _ _ _ (bestL g y) _ _ hbm _ LI.out LS.out).mono ?_
  rintro e w4 ⟨rfl, hq4⟩
  have hb4 : Below w3.heap.size w3 w4 := by obtain ⟨n, rfl⟩ := hq4; exact below_drewN (Below.refl _ _) n
  replace R0 := Lib.hid (stillRows R0.out hb4)
  replace R1 := Lib.hid (stillInts R1.out hb4)
  replace LI := Lib.hid (stillInts LI.out hb4)
  replace LS := Lib.hid (stillInts LS.out hb4)
  replace BEL0 := Lib.hid (belT BEL0.out hb4)
  clear hq4 hb4
  clear LS
  go_wp2_with fail
  refine (I.risk _ _ _ _ g y hl (by omega) _ R0.out R1.out).mono ?_
  rintro e w5 ⟨rfl, hb5⟩
  replace R0 := Lib.hid (stillRows R0.out hb5)
  replace R1 := Lib.hid (stillInts R1.out hb5)
  replace LI := Lib.hid (stillInts LI.out hb5)
  replace BEL0 := Lib.hid (belT BEL0.out hb5)
  clear hb5
  try unfold FracRes
  rcases hb : risB g y with _ | _
  · skip
    have HZ : Hid ((bestL g y).length = 0) := by simp [Hid, bestL, hb]
    have zz : (((bestL g y).length : Int) == 0) = true := by rw [HZ.out]; rfl
    clear hb
    go_wp2_with fail
    refine (alive _).mono ?_
    rintro e w9 ⟨rfl, hb9⟩
    have hb8 := Lib.hid (belT (w := w5) (by exact (by repeat (first | exact Below.refl _ _ | assumption | exact bel1 (by assumption) | exact bel2 (by assumption) | exact bel3 (by assumption) | exact bel4 (by assumption) | refine Below.drew ?_ | refine below_drewN ?_ _ | refine Below.setCell ?_ (by first | (simp; done) | (simp; omega)) _ | refine Below.alloc ?_ (by first | (simp; done) | (simp; omega)) _))) hb9)
    clear hb9
    go_wp2_with fail
    go_ret
    exact ⟨by simp, belT BEL0.out hb8.out⟩
  have HB := Lib.hid hb
  have HG := Lib.hid (bestsOf hb)
  have HA := Lib.hid (best_avg hb)
  clear hb
  have hmk := run_make_row' (P := Try.prog) 24 3 _ 8 Try.underlying24 infoI rfl .i64 .i64 g.length (by omega) (by omega)
  go_wp2_with fail
  obtain ⟨WFR, hWFR⟩ : ∃ WFR : World, WFR = w5.alloc (.cells #[.int .i64 (risU g y), .int .i64 (risD g y)] 28) := ⟨_, rfl⟩
  have hbWFR : Below w5.heap.size w5 WFR := by rw [hWFR]; exact (Below.refl _ _).alloc (Nat.le_refl _) _
  have FR : Hid (Box2 WFR w5.heap.size (risU g y) (risD g y)) := by show Box2 _ _ _ _; rw [hWFR]; exact Box2.new _ _ _
  have hzWFR : Hid (WFR.heap.size = w5.heap.size + 1) := by show WFR.heap.size = _; rw [hWFR]; simp
  rw [← hWFR]
  clear hWFR
  replace R0 := Lib.hid (stillRows R0.out hbWFR)
  replace R1 := Lib.hid (stillInts R1.out hbWFR)
  replace LI := Lib.hid (stillInts LI.out hbWFR)
  replace BEL0 := Lib.hid (belT BEL0.out hbWFR)
  clear hbWFR
  clear hmk
  have F0 : Hid ((WFR.alloc (.cells (madeCells #[.int .i64 0] g.length) 3)).rowIs (w5.heap.size + 1) 3 g.length (fun i => .int .i64 (nth (setAll g.length (bestL g y) 0) i))) := by
    rw [← hzWFR.out]; exact (World.rowIs_made WFR (.int .i64 0) g.length 3).congr (fun i hi => by simp only [setAll]; rw [nth_eq _ _ (by simpa using hi)]; simp)
  have L0 : Hid (Below WFR.heap.size WFR (WFR.alloc (.cells (madeCells #[.int .i64 0] g.length) 3))) := (Below.refl _ _).alloc (Nat.le_refl _) _
  have hwr0 : WFR.heap.size < (WFR.alloc (.cells (madeCells #[.int .i64 0] g.length) 3)).heap.size := by simp
  have HW0 := Lib.hid hwr0
  clear hwr0
  go_loopw [9] (fun j wr => ∃ k : Nat, k ≤ (bestL g y).length ∧ j = .int .i64 k ∧ Hid (wr.rowIs (w5.heap.size + 1) 3 g.length (fun i => .int .i64 (nth (setAll g.length (bestL g y) k) i))) ∧ Hid (Below WFR.heap.size WFR wr) ∧ Hid (WFR.heap.size < wr.heap.size)) (fun j _ => (bestL g y).length - (intOf j).toNat)
  case atStart => exact ⟨0, Nat.zero_le _, rfl, F0, L0, HW0⟩
  case round =>
    clear F0 L0 HW0
    obtain ⟨k, hk, rfl, HF, HV, HW⟩ := hrel
    have hbV := HV.out
    replace R0 := Lib.hid (stillRows R0.out hbV)
    replace R1 := Lib.hid (stillInts R1.out hbV)
    replace LI := Lib.hid (stillInts LI.out hbV)
    replace FR := Lib.hid (FR.out.still hbV)
    replace BEL0 := Lib.hid (belT BEL0.out hbV)
    clear hbV
    by_cases hlt : k < (bestL g y).length
    · skip
      obtain ⟨i1, hi1, hi2, _⟩ := HG.out.place k hlt
      have HI1 := Lib.hid hi1
      obtain ⟨bl, ol, hA, _, hcx⟩ := LI.out (by omega)
      subst hA
      have hcc := hcx k hlt
      rw [HI1.out] at hcc
      have hcell := HF.out.cell (i := i1) hi2
      have hfr := HF.out.frozen i1
      have HN : Hid ((wr.setCell ⟨w5.heap.size + 1, i1, none⟩ (.int .i64 1)).rowIs (w5.heap.size + 1) 3 g.length (fun i => .int .i64 (nth (setAll g.length (bestL g y) (k + 1)) i))) := (HF.out.set i1 _).congr (fun i hi => by
        simp only [setAll]; rw [nth_setAt _ _ _ _ (by rw [setAll_length]; exact hi), HI1.out]
        simp only [Int.toNat_natCast]
        by_cases e : i = i1
        · rw [if_pos e, if_pos e]
        · rw [if_neg e, if_neg e])
      have HV2 : Hid (Below WFR.heap.size WFR (wr.setCell ⟨w5.heap.size + 1, i1, none⟩ (.int .i64 1))) := HV.out.setCell (Nat.le_of_eq hzWFR.out) _
      have HW2 : Hid (WFR.heap.size < (wr.setCell ⟨w5.heap.size + 1, i1, none⟩ (.int .i64 1)).heap.size) := by have := HW.out; simpa [Hid, World.setCell] using this
      clear hcx hi1
      go_wp2_with fail
      go_roundw
      case rel => exact ⟨k + 1, by omega, by go_num, HN, HV2, HW2⟩
      case measure => simp [intOf]; omega
    · obtain rfl : k = (bestL g y).length := by omega
      have XI : Hid (Ints wr (· < wr.heap.size) (some ⟨w5.heap.size + 1, 0, none⟩) (setAll g.length (bestL g y) (bestL g y).length)) := (rowIs_ints HF.out (by rw [setAll_length]; exact Nat.le_refl _)).mono (fun b e => by subst e; have := HW.out; have := hzWFR.out; omega)
      clear HF HV
      have CR := fun c d e => I.avg _ _ _ c d e g (setAll g.length (bestL g y) (bestL g y).length) y hl (by rw [setAll_length]; omega) (by omega) _ R0.out XI.out R1.out
      rw [setAll_length] at CR
      go_wp2_with fail
      refine (CR _ _ _).mono ?_
      rintro e w9 ⟨rfl, hb9⟩
      replace R0 := Lib.hid (stillRows R0.out hb9)
      replace R1 := Lib.hid (stillInts R1.out hb9)
      replace LI := Lib.hid (stillInts LI.out hb9)
      replace FR := Lib.hid (FR.out.still hb9)
      replace XI := Lib.hid (stillInts XI.out hb9)
      replace BEL0 := Lib.hid (belT BEL0.out hb9)
      clear hb9
      clear CR
      try unfold FracRes
      rw [HA.out.1, HA.out.2.1, HA.out.2.2]
      clear R0
      clear R1
      clear XI
      have hpos := HG.out.some
      have zz : ((0 : Int) < ((bestL g y).length : Int)) := by omega
      have cFR0 := FR.out.c0
      have cFR1 := FR.out.c1
      have lFR := FR.out.lt
      go_wp2_with fail
      obtain ⟨WFB, hWFB⟩ : ∃ WFB : World, WFB = w9.alloc (.cells #[.int .i64 (risU g y), .int .i64 (risD g y)] 28) := ⟨_, rfl⟩
      have hbWFB : Below w9.heap.size w9 WFB := by rw [hWFB]; exact (Below.refl _ _).alloc (Nat.le_refl _) _
      have FB : Hid (Box2 WFB w9.heap.size (risU g y) (risD g y)) := by show Box2 _ _ _ _; rw [hWFB]; exact Box2.new _ _ _
      rw [← hWFB]
      clear hWFB
      replace LI := Lib.hid (stillInts LI.out hbWFB)
      replace FR := Lib.hid (FR.out.still hbWFB)
      replace BEL0 := Lib.hid (belT BEL0.out hbWFB)
      clear hbWFB
      clear cFR0 cFR1
      clear lFR
      refine (ascend _ _ (bestL g y) _ (by omega) HG.out.asc _ LI.out).mono ?_
      rintro e w10 ⟨rfl, n10, rfl⟩
      have hb10 : Below WFB.heap.size WFB (WFB.drewN n10) := below_drewN (Below.refl _ _) _
      replace LI := Lib.hid (stillInts LI.out hb10)
      replace FR := Lib.hid (FR.out.still hb10)
      replace FB := Lib.hid (FB.out.still hb10)
      replace BEL0 := Lib.hid (belT BEL0.out hb10)
      have cFR0 := FR.out.c0
      have cFR1 := FR.out.c1
      have cFB0 := FB.out.c0
      have cFB1 := FB.out.c1
      go_wp2_with fail
      go_ret
      exact ⟨by simp, BEL0.out⟩

end Go.Proofs.Ytjojilimdhekfaa
