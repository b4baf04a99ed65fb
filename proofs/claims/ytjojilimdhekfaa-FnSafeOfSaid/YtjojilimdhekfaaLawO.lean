/- The walk of the law of SafeOf. (Written by wip/gen/law3.py.) -/
import Derived.Test.YtjojilimdhekfaaExactM
import Derived.Test.YtjojilimdhekfaaMone
import Derived.Test.YtjojilimdhekfaaDrawY
import Derived.Test.YtjojilimdhekfaaLawT
namespace Go.Proofs.Ytjojilimdhekfaa
set_option linter.unusedSimpArgs false
set_option linter.unusedVariables false
open Go.RowKit

theorem unit_set (w : World) (m k : Nat) : (w.alloc (.cells (madeCells #[.int .i64 0] m) 3)).setCell ⟨w.heap.size, k, none⟩ (.int .i64 1) = w.alloc (.cells ((madeCells #[.int .i64 0] m).setIfInBounds k (.int .i64 1)) 3) := by
  simp [go_sem]

theorem unit_new (w : World) (m k : Nat) : Ints (w.alloc (.cells ((madeCells #[.int .i64 0] m).setIfInBounds k (.int .i64 1)) 3)) (· < (w.alloc (.cells ((madeCells #[.int .i64 0] m).setIfInBounds k (.int .i64 1)) 3)).heap.size) (some ⟨w.heap.size, 0, none⟩) (oneAt m k 1) := by
  rw [← unit_set]
  exact (rowIs_ints (oneAt_row (World.rowIs_made _ _ _ _)) (by rw [oneAt_length]; exact Nat.le_refl _)).mono (fun b e => by subst e; simp [World.setCell])

set_option maxHeartbeats 4000000 in
set_option maxRecDepth 100000 in
theorem wFnSafeOf (I : Impl3) (a : Option Addr) (len cap : Nat) (zs : List Int) (w : World) (h : IsRow .u8 w a len cap zs) :
    Calls Try.prog 4 #[.slice a len cap] w fun e w' => e = .returned (.bool true) ∧ Below w.heap.size w w' := by
  have hle := byte_len h
  by_cases hbig : (1048576 : Int) < (len : Int)
  · go_enter Try.func4, Try.ntmps4
    go_wp2_with fail
    go_ret
    exact ⟨rfl, Below.refl _ _⟩
  go_enter Try.func4, Try.ntmps4
  go_wp2_with fail
  refine (dDrawSafeOf a len cap zs w h).mono ?_
  rintro e w1 ⟨g, x, T, A, c, d, rfl, hg17, hgr, hx18, hb1, r0, r1⟩
  clear hbig hle
  have BEL0 := Lib.hid hb1
  have R0 := Lib.hid r0
  have R1 := Lib.hid r1
  have hl := small_max hg17
  clear hb1 r0 r1 hgr
  go_wp2_with fail
  refine (I.safe _ _ _ _ g x hl (by omega) _ R0.out R1.out).mono ?_
  rintro e w2 ⟨rfl, hb2⟩
  replace R0 := Lib.hid (stillRows R0.out hb2)
  replace R1 := Lib.hid (stillInts R1.out hb2)
  replace BEL0 := Lib.hid (belT BEL0.out hb2)
  clear hb2
  try unfold FracRes
  go_wp2_with fail
  obtain ⟨WFA, hWFA⟩ : ∃ WFA : World, WFA = w2.alloc (.cells #[.int .i64 (safU g x), .int .i64 (safD g x)] 28) := ⟨_, rfl⟩
  have hbWFA : Below w2.heap.size w2 WFA := by rw [hWFA]; exact (Below.refl _ _).alloc (Nat.le_refl _) _
  have FA : Hid (Box2 WFA w2.heap.size (safU g x) (safD g x)) := by show Box2 _ _ _ _; rw [hWFA]; exact Box2.new _ _ _
  rw [← hWFA]
  clear hWFA
  replace R0 := Lib.hid (stillRows R0.out hbWFA)
  replace R1 := Lib.hid (stillInts R1.out hbWFA)
  replace BEL0 := Lib.hid (belT BEL0.out hbWFA)
  clear hbWFA
  go_wp2_with fail
  refine (safe_spec _ _ _ _ g x hl (by omega) _ R0.out R1.out).mono ?_
  rintro e w3 ⟨rfl, hb3⟩
  replace R0 := Lib.hid (stillRows R0.out hb3)
  replace R1 := Lib.hid (stillInts R1.out hb3)
  replace FA := Lib.hid (FA.out.still hb3)
  replace BEL0 := Lib.hid (belT BEL0.out hb3)
  clear hb3
  try unfold FracRes
  have cFA0 := FA.out.c0
  have cFA1 := FA.out.c1
  have ltA := FA.out.lt
  rcases hb : safB g x with _ | _
  · skip
    have HU : Hid (safU g x = 0) := by simp [Hid, safU, hb]
    have HD : Hid (safD g x = 0) := by simp [Hid, safD, hb]
    rw [HU.out] at cFA0
    rw [HD.out] at cFA1
    rw [HU.out, HD.out]
    clear hb
    go_wp2_with fail
    refine (alive _).mono ?_
    rintro e w9 ⟨rfl, hb9⟩
    have hb8 := Lib.hid (belT (w := w3) (by exact (by repeat (first | exact Below.refl _ _ | assumption | exact bel1 (by assumption) | exact bel2 (by assumption) | exact bel3 (by assumption) | exact bel4 (by assumption) | refine Below.drew ?_ | refine below_drewN ?_ _ | refine Below.setCell ?_ (by first | (simp; done) | (simp; omega)) _ | refine Below.alloc ?_ (by first | (simp; done) | (simp; omega)) _))) hb9)
    clear hb9
    go_wp2_with fail
    go_ret
    exact ⟨rfl, belT BEL0.out hb8.out⟩
  have zU : (safU g x != safU g x) = false := by simp
  have zD : (safD g x != safD g x) = false := by simp
  have HB := Lib.hid hb
  clear hb
  go_wp2_with fail
  clear cFA0 cFA1
  clear ltA zU zD
  obtain ⟨WFB, hWFB⟩ : ∃ WFB : World, WFB = w3.alloc (.cells #[.int .i64 (safU g x), .int .i64 (safD g x)] 28) := ⟨_, rfl⟩
  have hbWFB : Below w3.heap.size w3 WFB := by rw [hWFB]; exact (by repeat (first | exact Below.refl _ _ | assumption | exact bel1 (by assumption) | exact bel2 (by assumption) | exact bel3 (by assumption) | exact bel4 (by assumption) | refine Below.drew ?_ | refine below_drewN ?_ _ | refine Below.setCell ?_ (by first | (simp; done) | (simp; omega)) _ | refine Below.alloc ?_ (by first | (simp; done) | (simp; omega)) _))
  rw [← hWFB]
  clear hWFB
  replace R0 := Lib.hid (stillRows R0.out hbWFB)
  replace R1 := Lib.hid (stillInts R1.out hbWFB)
  replace FA := Lib.hid (FA.out.still hbWFB)
  replace BEL0 := Lib.hid (belT BEL0.out hbWFB)
  clear hbWFB
  have HGB := Lib.hid (safB_iff.1 HB.out).1
  have hg := Game.of HGB.out
  have hg1 := hg.lo
  have hg2 := hg.hi
  have hg3 := hg.mlo
  have hg4 := hg.mhi
  clear hg
  obtain ⟨bt, ot, rfl⟩ := R0.out.some (by omega)
  have L0 := Lib.hid (Below.refl WFB.heap.size WFB)
  go_loopw [9] (fun j wr => ∃ k : Nat, k ≤ (rowAt g 0).length ∧ j = .int .i64 k ∧ Hid (Below WFB.heap.size WFB wr)) (fun j _ => (rowAt g 0).length - (intOf j).toNat)
  case atStart => exact ⟨0, Nat.zero_le _, rfl, L0⟩
  case round =>
    clear L0
    obtain ⟨k, hk, rfl, HV⟩ := hrel
    have hbV := HV.out
    replace R0 := Lib.hid (stillRows R0.out hbV)
    replace R1 := Lib.hid (stillInts R1.out hbV)
    replace FA := Lib.hid (FA.out.still hbV)
    replace BEL0 := Lib.hid (belT BEL0.out hbV)
    clear hbV
    obtain ⟨_, A0, c0, hc0, hl0', hm0, _⟩ := R0.out.row (i := 0) (by omega)
    rw [Nat.add_zero] at hc0
    unfold maxLen at hm0
    by_cases hlt : k < (rowAt g 0).length
    · skip
      have hmk := run_make_row' (P := Try.prog) 24 3 _ 8 Try.underlying24 infoI rfl .i64 .i64 (rowAt g 0).length (by omega) (by omega)
      have hrow := World.rowIs_made wr (.int .i64 0) (rowAt g 0).length 3
      have hcell := hrow.cell (i := k) hlt
      have hfr := hrow.frozen k
      clear hrow
      go_wp2_with fail
      clear hmk hcell hfr hc0
      obtain ⟨VY, hVY⟩ : ∃ VY : World, VY = wr.alloc (.cells ((madeCells #[.int .i64 0] (rowAt g 0).length).setIfInBounds k (.int .i64 1)) 3) := ⟨_, rfl⟩
      have hbVY : Below wr.heap.size wr VY := by rw [hVY]; exact (Below.refl _ _).alloc (Nat.le_refl _) _
      have Y : Hid (Ints VY (· < VY.heap.size) (some ⟨wr.heap.size, 0, none⟩) (oneAt (rowAt g 0).length k 1)) := by show Ints _ _ _ _; rw [hVY]; exact unit_new _ _ _
      have hzVY : Hid ((rowAt g 0).length = (oneAt (rowAt g 0).length k 1).length) := (oneAt_length _ _ _).symm
      rw [← hVY]
      clear hVY
      replace R0 := Lib.hid (stillRows R0.out hbVY)
      replace R1 := Lib.hid (stillInts R1.out hbVY)
      replace FA := Lib.hid (FA.out.still hbVY)
      replace HV := Lib.hid (belT HV.out hbVY)
      replace BEL0 := Lib.hid (belT BEL0.out hbVY)
      clear hbVY
      have HRK := Lib.hid (ris_one HGB.out hlt)
      have CR := fun c d => I.risk _ _ c d g (oneAt (rowAt g 0).length k 1) hl (by rw [oneAt_length]; omega) _ R0.out Y.out
      rw [oneAt_length] at CR
      refine (CR _ _).mono ?_
      rintro e w7 ⟨rfl, hb7⟩
      replace R0 := Lib.hid (stillRows R0.out hb7)
      replace R1 := Lib.hid (stillInts R1.out hb7)
      replace FA := Lib.hid (FA.out.still hb7)
      replace HV := Lib.hid (belT HV.out hb7)
      replace Y := Lib.hid (stillInts Y.out hb7)
      replace BEL0 := Lib.hid (belT BEL0.out hb7)
      clear hb7
      clear CR
      try unfold FracRes
      rw [HRK.out]
      clear Y
      clear R0
      clear R1
      have cFA0 := FA.out.c0
      have cFA1 := FA.out.c1
      have lFA := FA.out.lt
      go_wp2_with fail
      obtain ⟨WFR, hWFR⟩ : ∃ WFR : World, WFR = w7.alloc (.cells #[.int .i64 (risU g (oneAt (rowAt g 0).length k 1)), .int .i64 (risD g (oneAt (rowAt g 0).length k 1))] 28) := ⟨_, rfl⟩
      have hbWFR : Below w7.heap.size w7 WFR := by rw [hWFR]; exact (Below.refl _ _).alloc (Nat.le_refl _) _
      have FR : Hid (Box2 WFR w7.heap.size (risU g (oneAt (rowAt g 0).length k 1)) (risD g (oneAt (rowAt g 0).length k 1))) := by show Box2 _ _ _ _; rw [hWFR]; exact Box2.new _ _ _
      rw [← hWFR]
      clear hWFR
      replace FA := Lib.hid (FA.out.still hbWFR)
      replace HV := Lib.hid (belT HV.out hbWFR)
      replace BEL0 := Lib.hid (belT BEL0.out hbWFR)
      clear hbWFR
      clear cFA0 cFA1
      clear lFA
      have k1 : lessB (risU g (oneAt (rowAt g 0).length k 1)) (risD g (oneAt (rowAt g 0).length k 1)) (safU g x) (safD g x) = false := by rw [lessB_ok (ris_okB HRK.out) (saf_okB HB.out)]; exact decide_eq_false (Int.not_lt.2 (saf_ris HB.out HRK.out))
      have CL := less_impl (risU g (oneAt (rowAt g 0).length k 1)) (risD g (oneAt (rowAt g 0).length k 1)) (safU g x) (safD g x)
      rw [k1] at CL
      clear k1
      refine (CL _).mono ?_
      rintro e w8 ⟨rfl, hb8⟩
      replace FA := Lib.hid (FA.out.still hb8)
      replace HV := Lib.hid (belT HV.out hb8)
      replace FR := Lib.hid (FR.out.still hb8)
      replace BEL0 := Lib.hid (belT BEL0.out hb8)
      clear hb8
      clear CL
      go_wp2_with fail
      go_roundw
      case rel => exact ⟨k + 1, by omega, by go_num, HV⟩
      case measure => simp [intOf]; omega
    · obtain rfl : k = (rowAt g 0).length := by omega
      obtain ⟨i1, hi1, hat, hfl⟩ := floor_at HGB.out
      have HONE := Lib.hid (saf_one HGB.out hi1 hfl)
      have HAT := Lib.hid hat
      clear hat hfl
      go_wp2_with fail
      refine (floor_spec _ _ g _ hl _ R0.out).mono ?_
      rintro e w9 ⟨rfl, hq9⟩
      have hb9 : Below wr.heap.size wr w9 := by obtain ⟨n, rfl⟩ := hq9; exact below_drewN (Below.refl _ _) n
      replace R0 := Lib.hid (stillRows R0.out hb9)
      replace R1 := Lib.hid (stillInts R1.out hb9)
      replace FA := Lib.hid (FA.out.still hb9)
      replace HV := Lib.hid (belT HV.out hb9)
      replace BEL0 := Lib.hid (belT BEL0.out hb9)
      clear hq9 hb9
      rw [HAT.out]
      have hmk := run_make_row' (P := Try.prog) 24 3 _ 8 Try.underlying24 infoI rfl .i64 .i64 g.length (by omega) (by omega)
      have hrow := World.rowIs_made w9 (.int .i64 0) g.length 3
      have hcell := hrow.cell (i := i1) hi1
      have hfr := hrow.frozen i1
      clear hrow hc0
      go_wp2_with fail
      clear hmk hcell hfr
      obtain ⟨VZ, hVZ⟩ : ∃ VZ : World, VZ = w9.alloc (.cells ((madeCells #[.int .i64 0] g.length).setIfInBounds i1 (.int .i64 1)) 3) := ⟨_, rfl⟩
      have hbVZ : Below w9.heap.size w9 VZ := by rw [hVZ]; exact (Below.refl _ _).alloc (Nat.le_refl _) _
      have Z : Hid (Ints VZ (· < VZ.heap.size) (some ⟨w9.heap.size, 0, none⟩) (oneAt g.length i1 1)) := by show Ints _ _ _ _; rw [hVZ]; exact unit_new _ _ _
      have hzVZ : Hid (g.length = (oneAt g.length i1 1).length) := (oneAt_length _ _ _).symm
      rw [← hVZ]
      clear hVZ
      replace R0 := Lib.hid (stillRows R0.out hbVZ)
      replace R1 := Lib.hid (stillInts R1.out hbVZ)
      replace FA := Lib.hid (FA.out.still hbVZ)
      replace HV := Lib.hid (belT HV.out hbVZ)
      replace BEL0 := Lib.hid (belT BEL0.out hbVZ)
      clear hbVZ
      have CR := fun c d => I.safe _ _ c d g (oneAt g.length i1 1) hl (by rw [oneAt_length]; omega) _ R0.out Z.out
      rw [oneAt_length] at CR
      refine (CR _ _).mono ?_
      rintro e w10 ⟨rfl, hb10⟩
      replace R0 := Lib.hid (stillRows R0.out hb10)
      replace R1 := Lib.hid (stillInts R1.out hb10)
      replace FA := Lib.hid (FA.out.still hb10)
      replace HV := Lib.hid (belT HV.out hb10)
      replace Z := Lib.hid (stillInts Z.out hb10)
      replace BEL0 := Lib.hid (belT BEL0.out hb10)
      clear hb10
      clear CR
      try unfold FracRes
      rw [HONE.out.1, HONE.out.2.1, HONE.out.2.2]
      go_wp2_with fail
      go_ret
      exact ⟨by simp, belT BEL0.out (by exact (by repeat (first | exact Below.refl _ _ | assumption | exact bel1 (by assumption) | exact bel2 (by assumption) | exact bel3 (by assumption) | exact bel4 (by assumption) | refine Below.drew ?_ | refine below_drewN ?_ _ | refine Below.setCell ?_ (by first | (simp; done) | (simp; omega)) _ | refine Below.alloc ?_ (by first | (simp; done) | (simp; omega)) _)))⟩

end Go.Proofs.Ytjojilimdhekfaa
