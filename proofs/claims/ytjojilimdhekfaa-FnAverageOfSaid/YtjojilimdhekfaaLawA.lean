/- The walk of the law of AverageOf. (Written by wip/gen/law3.py.) -/
import Derived.Test.YtjojilimdhekfaaExactM
import Derived.Test.YtjojilimdhekfaaMmath3
import Derived.Test.YtjojilimdhekfaaDrawY
import Derived.Test.YtjojilimdhekfaaLawR
namespace Go.Proofs.Ytjojilimdhekfaa
set_option linter.unusedSimpArgs false
set_option linter.unusedVariables false
open Go.RowKit

set_option maxHeartbeats 4000000 in
set_option maxRecDepth 100000 in
theorem wFnAverageOf (I : Impl3) (a : Option Addr) (len cap : Nat) (zs : List Int) (w : World) (h : IsRow .u8 w a len cap zs) :
    Calls Try.prog 3 #[.slice a len cap] w fun e w' => e = .returned (.bool true) ∧ Below w.heap.size w w' := by
  have hle := byte_len h
  by_cases hbig : (1048576 : Int) < (len : Int)
  · go_enter Try.func3, Try.ntmps3
    go_wp2_with fail
    go_ret
    exact ⟨rfl, Below.refl _ _⟩
  go_enter Try.func3, Try.ntmps3
  go_wp2_with fail
  refine (dDrawAverageOf a len cap zs w h).mono ?_
  rintro e w1 ⟨g, x, y, T, A, B, c, d, f, rfl, hg17, hgr, hx18, hy18, hb1, r0, r1, r2⟩
  clear hbig hle
  have BEL0 := Lib.hid hb1
  have R0 := Lib.hid r0
  have R1 := Lib.hid r1
  have R2 := Lib.hid r2
  have hl := small_max hg17
  clear hb1 r0 r1 r2 hgr
  go_wp2_with fail
  refine (I.avg _ _ _ _ _ _ g x y hl (by omega) (by omega) _ R0.out R1.out R2.out).mono ?_
  rintro e w2 ⟨rfl, hb2⟩
  replace R0 := Lib.hid (stillRows R0.out hb2)
  replace R1 := Lib.hid (stillInts R1.out hb2)
  replace R2 := Lib.hid (stillInts R2.out hb2)
  replace BEL0 := Lib.hid (belT BEL0.out hb2)
  clear hb2
  try unfold FracRes
  go_wp2_with fail
  obtain ⟨WFA, hWFA⟩ : ∃ WFA : World, WFA = w2.alloc (.cells #[.int .i64 (avgU g x y), .int .i64 (avgD g x y)] 28) := ⟨_, rfl⟩
  have hbWFA : Below w2.heap.size w2 WFA := by rw [hWFA]; exact (Below.refl _ _).alloc (Nat.le_refl _) _
  have FA : Hid (Box2 WFA w2.heap.size (avgU g x y) (avgD g x y)) := by show Box2 _ _ _ _; rw [hWFA]; exact Box2.new _ _ _
  rw [← hWFA]
  clear hWFA
  replace R0 := Lib.hid (stillRows R0.out hbWFA)
  replace R1 := Lib.hid (stillInts R1.out hbWFA)
  replace R2 := Lib.hid (stillInts R2.out hbWFA)
  replace BEL0 := Lib.hid (belT BEL0.out hbWFA)
  clear hbWFA
  go_wp2_with fail
  refine (avg_spec _ _ _ _ _ _ g x y hl (by omega) (by omega) _ R0.out R1.out R2.out).mono ?_
  rintro e w3 ⟨rfl, hb3⟩
  replace R0 := Lib.hid (stillRows R0.out hb3)
  replace R1 := Lib.hid (stillInts R1.out hb3)
  replace R2 := Lib.hid (stillInts R2.out hb3)
  replace FA := Lib.hid (FA.out.still hb3)
  replace BEL0 := Lib.hid (belT BEL0.out hb3)
  clear hb3
  try unfold FracRes
  have cFA0 := FA.out.c0
  have cFA1 := FA.out.c1
  have ltA := FA.out.lt
  rcases hb : avgB g x y with _ | _
  · skip
    have HU : Hid (avgU g x y = 0) := by simp [Hid, avgU, hb]
    have HD : Hid (avgD g x y = 0) := by simp [Hid, avgD, hb]
    rw [HU.out] at cFA0
    rw [HD.out] at cFA1
    rw [HU.out, HD.out]
    clear hb
    go_wp2_with fail
    refine (alive _).mono ?_
    rintro e w9 ⟨rfl, hb9⟩
    have hb8 := Lib.hid (belT (w := w3) (by exact (by repeat (first | exact Below.refl _ _ | assumption | exact bel1 (by assumption) | exact bel2 (by assumption) | exact bel3 (by assumption) | exact bel4 (by assumption) | refine Below.drew ?_ | refine below_drewN ?_ _ | refine Below.setCell ?_ (by first | (simp; done) | (simp; omega)) _ | refine Below.alloc ?_ (by first | (simp; done) | (simp; omega)) _))) hb9)
    clear hb9
    go_wp2_with fail
    go_ret
    exact ⟨rfl, belT BEL0.out hb8.out⟩
  have zU : (avgU g x y != avgU g x y) = false := by simp
  have zD : (avgD g x y != avgD g x y) = false := by simp
  have HB := Lib.hid hb
  clear hb
  go_wp2_with fail
  clear cFA0 cFA1
  clear ltA zU zD
  obtain ⟨WFB, hWFB⟩ : ∃ WFB : World, WFB = w3.alloc (.cells #[.int .i64 (avgU g x y), .int .i64 (avgD g x y)] 28) := ⟨_, rfl⟩
  have hbWFB : Below w3.heap.size w3 WFB := by rw [hWFB]; exact (by repeat (first | exact Below.refl _ _ | assumption | exact bel1 (by assumption) | exact bel2 (by assumption) | exact bel3 (by assumption) | exact bel4 (by assumption) | refine Below.drew ?_ | refine below_drewN ?_ _ | refine Below.setCell ?_ (by first | (simp; done) | (simp; omega)) _ | refine Below.alloc ?_ (by first | (simp; done) | (simp; omega)) _))
  rw [← hWFB]
  clear hWFB
  replace R0 := Lib.hid (stillRows R0.out hbWFB)
  replace R1 := Lib.hid (stillInts R1.out hbWFB)
  replace R2 := Lib.hid (stillInts R2.out hbWFB)
  replace FA := Lib.hid (FA.out.still hbWFB)
  replace BEL0 := Lib.hid (belT BEL0.out hbWFB)
  clear hbWFB
  have HS := Lib.hid (avgB_iff.1 HB.out).1
  have HR := Lib.hid (avgB_iff.1 HB.out).2.1
  refine (I.safe _ _ _ _ g x hl (by omega) _ R0.out R1.out).mono ?_
  rintro e w4 ⟨rfl, hb4⟩
  replace R0 := Lib.hid (stillRows R0.out hb4)
  replace R1 := Lib.hid (stillInts R1.out hb4)
  replace R2 := Lib.hid (stillInts R2.out hb4)
  replace FA := Lib.hid (FA.out.still hb4)
  replace BEL0 := Lib.hid (belT BEL0.out hb4)
  clear hb4
  try unfold FracRes
  rw [HS.out]
  go_wp2_with fail
  obtain ⟨WFS, hWFS⟩ : ∃ WFS : World, WFS = w4.alloc (.cells #[.int .i64 (safU g x), .int .i64 (safD g x)] 28) := ⟨_, rfl⟩
  have hbWFS : Below w4.heap.size w4 WFS := by rw [hWFS]; exact (Below.refl _ _).alloc (Nat.le_refl _) _
  have FS : Hid (Box2 WFS w4.heap.size (safU g x) (safD g x)) := by show Box2 _ _ _ _; rw [hWFS]; exact Box2.new _ _ _
  rw [← hWFS]
  clear hWFS
  replace R0 := Lib.hid (stillRows R0.out hbWFS)
  replace R1 := Lib.hid (stillInts R1.out hbWFS)
  replace R2 := Lib.hid (stillInts R2.out hbWFS)
  replace FA := Lib.hid (FA.out.still hbWFS)
  replace BEL0 := Lib.hid (belT BEL0.out hbWFS)
  clear hbWFS
  refine (I.risk _ _ _ _ g y hl (by omega) _ R0.out R2.out).mono ?_
  rintro e w5 ⟨rfl, hb5⟩
  replace R0 := Lib.hid (stillRows R0.out hb5)
  replace R1 := Lib.hid (stillInts R1.out hb5)
  replace R2 := Lib.hid (stillInts R2.out hb5)
  replace FA := Lib.hid (FA.out.still hb5)
  replace FS := Lib.hid (FS.out.still hb5)
  replace BEL0 := Lib.hid (belT BEL0.out hb5)
  clear hb5
  try unfold FracRes
  rw [HR.out]
  go_wp2_with fail
  obtain ⟨WFR, hWFR⟩ : ∃ WFR : World, WFR = w5.alloc (.cells #[.int .i64 (risU g y), .int .i64 (risD g y)] 28) := ⟨_, rfl⟩
  have hbWFR : Below w5.heap.size w5 WFR := by rw [hWFR]; exact (Below.refl _ _).alloc (Nat.le_refl _) _
  have FR : Hid (Box2 WFR w5.heap.size (risU g y) (risD g y)) := by show Box2 _ _ _ _; rw [hWFR]; exact Box2.new _ _ _
  have hzWFR : Hid (WFR.heap.size = w5.heap.size + 1) := by show WFR.heap.size = _; rw [hWFR]; simp
  rw [← hWFR]
  clear hWFR
  replace R0 := Lib.hid (stillRows R0.out hbWFR)
  replace R1 := Lib.hid (stillInts R1.out hbWFR)
  replace R2 := Lib.hid (stillInts R2.out hbWFR)
  replace FA := Lib.hid (FA.out.still hbWFR)
  replace FS := Lib.hid (FS.out.still hbWFR)
  replace BEL0 := Lib.hid (belT BEL0.out hbWFR)
  clear hbWFR
  have L0 : Hid (Grows (WFR.alloc (.cells #[] 3)) WFR.heap.size (.slice (some ⟨w5.heap.size + 1, 0, none⟩) 0 0) (dblTo x 0)) := by rw [← hzWFR.out]; exact Grows.lit WFR (Nat.le_refl _)
  have L1 : Hid (Below WFR.heap.size WFR (WFR.alloc (.cells #[] 3))) := (Below.refl _ _).alloc (Nat.le_refl _) _
  obtain ⟨i0, hi0, hz0, hz1, hz2⟩ := info_parts infoI
  have HI0 := Lib.hid hi0
  have HZ0 := Lib.hid hz0
  have HZ1 := Lib.hid hz1
  have HZ2 := Lib.hid hz2
  have HSL := Lib.hid (safB_iff.1 HS.out).2
  clear hi0 hz0 hz1 hz2
  go_loopw [14, 15] (fun v i wr => ∃ k : Nat, k ≤ x.length ∧ i = .int .i64 k ∧ Hid (Grows wr WFR.heap.size v (dblTo x k)) ∧ Hid (Below WFR.heap.size WFR wr)) (fun _ i _ => x.length - (intOf i).toNat)
  case atStart => exact ⟨0, Nat.zero_le _, rfl, L0, L1⟩
  case round =>
    clear L0 L1
    obtain ⟨k, hk, rfl, HO, HV⟩ := hrel
    by_cases hlt : k < x.length
    · have hx1 := HSL.out.wlo k (by have := HSL.out.len; omega)
      have hx2 := HSL.out.whi k (by have := HSL.out.len; omega)
      obtain ⟨bx, ox, hA, _, hcx⟩ := (keepInts HV.out R1.out) (by omega)
      subst hA
      have hcc := hcx k hlt
      clear hcx
      have hlen := dblTo_length x k
      have hs3 := HV.out.size
      go_wp2_with (at_builtin; refine wpList_append_own_at _ rfl (.tmp 76) (.tmp 82) _ rfl WFR.heap.size 3 i0 (.int .i64 0) 1 8 Try.underlying24 HI0.out HZ0.out HZ1.out HZ2.out rfl (by decide) _ _ _ rfl (HO.out.alloc _) ⟨wr.heap.size, 0, none⟩ 1 1 [.int .i64 (2 * nth x k)] rfl rfl (cell_one_new _ _ _) ?c2 ?c3 ?c4 ?c5 ?_)
      case c2 => first | rfl | (intro u hu; simp at hu; subst hu; rfl)
      case c3 => rw [hlen]; unfold maxLen; omega
      case c4 => rw [hlen]; omega
      case c5 => first | omega | (simp; omega)
      intro v' w6 hown hgrow _ _
      have HN : Hid (Grows w6 WFR.heap.size v' (dblTo x (k + 1))) := Grows.snoc (by rw [hlen]; exact hown)
      have HV2 : Hid (Below WFR.heap.size WFR w6) := HO.out.below hgrow HV.out (Nat.le_refl _) hs3
      clear hown hgrow
      go_wp2_with fail
      go_roundw
      case rel => exact ⟨k + 1, by omega, by go_num, HN, HV2⟩
      case measure => simp [intOf]; omega
    · obtain rfl : k = x.length := by omega
      have HD := Lib.hid (dblTo_all x)
      obtain ⟨A9, c9, hv, _, ho9⟩ := (HD.out ▸ HO.out : Grows wr WFR.heap.size _ (dbl x)).own
      subst hv
      have TW := Lib.hid (own_lt ho9)
      skip
      clear HD ho9
      have HBEL := Lib.hid HV.out
      have hbV := HV.out
      clear HV HO
      replace R0 := Lib.hid (stillRows R0.out hbV)
      replace R1 := Lib.hid (stillInts R1.out hbV)
      replace R2 := Lib.hid (stillInts R2.out hbV)
      replace FA := Lib.hid (FA.out.still hbV)
      replace FS := Lib.hid (FS.out.still hbV)
      replace FR := Lib.hid (FR.out.still hbV)
      replace BEL0 := Lib.hid (belT BEL0.out hbV)
      go_wp2_with fail
      refine (I.avg _ _ _ _ _ _ g (dbl x) y hl (by rw [dbl_length]; omega) (by omega) _ R0.out TW.out R2.out).mono ?_
      rintro e w6 ⟨rfl, hb6⟩
      replace R0 := Lib.hid (stillRows R0.out hb6)
      replace R1 := Lib.hid (stillInts R1.out hb6)
      replace R2 := Lib.hid (stillInts R2.out hb6)
      replace FA := Lib.hid (FA.out.still hb6)
      replace FS := Lib.hid (FS.out.still hb6)
      replace FR := Lib.hid (FR.out.still hb6)
      replace TW := Lib.hid (stillInts TW.out hb6)
      replace BEL0 := Lib.hid (belT BEL0.out hb6)
      clear hb6
      try unfold FracRes
      clear R0
      clear R1
      clear R2
      clear TW
      have cFA0 := FA.out.c0
      have cFA1 := FA.out.c1
      have cFS0 := FS.out.c0
      have cFS1 := FS.out.c1
      have cFR0 := FR.out.c0
      have cFR1 := FR.out.c1
      have lFA := FA.out.lt
      have lFS := FS.out.lt
      have lFR := FR.out.lt
      go_wp2_with fail
      obtain ⟨WFG, hWFG⟩ : ∃ WFG : World, WFG = w6.alloc (.cells #[.int .i64 (avgU g (dbl x) y), .int .i64 (avgD g (dbl x) y)] 28) := ⟨_, rfl⟩
      have hbWFG : Below w6.heap.size w6 WFG := by rw [hWFG]; exact (Below.refl _ _).alloc (Nat.le_refl _) _
      have FG : Hid (Box2 WFG w6.heap.size (avgU g (dbl x) y) (avgD g (dbl x) y)) := by show Box2 _ _ _ _; rw [hWFG]; exact Box2.new _ _ _
      rw [← hWFG]
      clear hWFG
      replace FA := Lib.hid (FA.out.still hbWFG)
      replace FS := Lib.hid (FS.out.still hbWFG)
      replace FR := Lib.hid (FR.out.still hbWFG)
      replace BEL0 := Lib.hid (belT BEL0.out hbWFG)
      clear hbWFG
      clear cFA0 cFA1
      clear cFS0 cFS1
      clear cFR0 cFR1
      clear lFA lFS lFR
      have hok := Lib.hid (And.intro (avg_okB HB.out) (And.intro (saf_okB HS.out) (ris_okB HR.out)))
      have k1 : lessB (avgU g x y) (avgD g x y) (safU g x) (safD g x) = false := by rw [lessB_ok hok.out.1 hok.out.2.1]; exact decide_eq_false (Int.not_lt.2 (saf_avg HB.out))
      have k2 : lessB (risU g y) (risD g y) (avgU g x y) (avgD g x y) = false := by rw [lessB_ok hok.out.2.2 hok.out.1]; exact decide_eq_false (Int.not_lt.2 (avg_ris HB.out))
      have C1 : Hid (∀ w, Calls Try.prog 19 #[.agg #[.int .i64 (avgU g x y), .int .i64 (avgD g x y)], .agg #[.int .i64 (safU g x), .int .i64 (safD g x)]] w fun e w' => e = .returned (.bool false) ∧ Below w.heap.size w w') := fun w => by have := less_impl (avgU g x y) (avgD g x y) (safU g x) (safD g x) w; rwa [k1] at this
      have C2 : Hid (∀ w, Calls Try.prog 19 #[.agg #[.int .i64 (risU g y), .int .i64 (risD g y)], .agg #[.int .i64 (avgU g x y), .int .i64 (avgD g x y)]] w fun e w' => e = .returned (.bool false) ∧ Below w.heap.size w w') := fun w => by have := less_impl (risU g y) (risD g y) (avgU g x y) (avgD g x y) w; rwa [k2] at this
      clear k1 k2 hok
      clear HS HR HSL I hl
      have HE : Hid (avgB g (dbl x) y = true → avgU g (dbl x) y = avgU g x y ∧ avgD g (dbl x) y = avgD g x y) := fun h => avg_dbl HB.out h
      clear HB
      generalize avgB g (dbl x) y = bb at HE ⊢
      generalize avgU g (dbl x) y = bu at HE FG ⊢
      generalize avgD g (dbl x) y = bd at HE FG ⊢
      generalize avgU g x y = au at C1 C2 HE FA ⊢
      generalize avgD g x y = ad at C1 C2 HE FA ⊢
      generalize safU g x = su at C1 FS ⊢
      generalize safD g x = sd at C1 FS ⊢
      generalize risU g y = ru at C2 FR ⊢
      generalize risD g y = rd at C2 FR ⊢
      refine (C1.out _).mono ?_
      rintro e w7 ⟨rfl, hb7⟩
      replace FA := Lib.hid (FA.out.still hb7)
      replace FS := Lib.hid (FS.out.still hb7)
      replace FR := Lib.hid (FR.out.still hb7)
      replace FG := Lib.hid (FG.out.still hb7)
      replace BEL0 := Lib.hid (belT BEL0.out hb7)
      clear hb7
      have cFA0 := FA.out.c0
      have cFA1 := FA.out.c1
      have cFR0 := FR.out.c0
      have cFR1 := FR.out.c1
      go_wp2_with fail
      clear cFA0 cFA1
      clear cFR0 cFR1
      refine (C2.out _).mono ?_
      rintro e w8 ⟨rfl, hb8⟩
      replace FA := Lib.hid (FA.out.still hb8)
      replace FS := Lib.hid (FS.out.still hb8)
      replace FR := Lib.hid (FR.out.still hb8)
      replace FG := Lib.hid (FG.out.still hb8)
      replace BEL0 := Lib.hid (belT BEL0.out hb8)
      clear hb8
      have cFA0 := FA.out.c0
      have cFA1 := FA.out.c1
      have cFG0 := FG.out.c0
      have cFG1 := FG.out.c1
      rcases bb with _ | _
      · skip
        go_wp2_with fail
        refine (alive _).mono ?_
        rintro e w9 ⟨rfl, hb9⟩
        go_wp2_with fail
        go_ret
        exact ⟨by simp, belT BEL0.out hb9⟩
      skip
      · skip
        obtain ⟨rfl, rfl⟩ := HE.out rfl
        go_wp2_with fail
        refine (alive _).mono ?_
        rintro e w9 ⟨rfl, hb9⟩
        go_wp2_with fail
        go_ret
        exact ⟨by simp, belT BEL0.out hb9⟩

end Go.Proofs.Ytjojilimdhekfaa
