/- The walk of the law of SettledOk. (Written by wip/gen/law3.py.) -/
import Derived.Test.YtjojilimdhekfaaExactM
import Derived.Test.YtjojilimdhekfaaMmath3
import Derived.Test.YtjojilimdhekfaaDrawZ
import Derived.Test.YtjojilimdhekfaaLawT
import Derived.Test.YtjojilimdhekfaaLawP
import Derived.Test.YtjojilimdhekfaaLawR
namespace Go.Proofs.Ytjojilimdhekfaa
set_option linter.unusedSimpArgs false
set_option linter.unusedVariables false
open Go.RowKit

set_option maxHeartbeats 4000000 in
set_option maxRecDepth 100000 in
theorem wFnSettledOk (I : Impl3) (a : Option Addr) (len cap : Nat) (zs : List Int) (a' : Option Addr) (len' cap' : Nat) (zs' : List Int) (w : World) (h : IsRow .u8 w a len cap zs) (h' : IsRow .u8 w a' len' cap' zs') :
    Calls Try.prog 6 #[.slice a len cap, .slice a' len' cap'] w fun e w' => e = .returned (.bool true) ∧ Below w.heap.size w w' := by
  have hle := byte_len h
  by_cases hbig : (1048576 : Int) < (len : Int)
  · go_enter Try.func6, Try.ntmps6
    go_wp2_with fail
    go_ret
    exact ⟨rfl, Below.refl _ _⟩
  have hle' := byte_len h'
  by_cases hbig' : (1048576 : Int) < (len' : Int)
  · go_enter Try.func6, Try.ntmps6
    go_wp2_with fail
    go_ret
    exact ⟨rfl, Below.refl _ _⟩
  go_enter Try.func6, Try.ntmps6
  go_wp2_with fail
  refine (dDrawSettledOk a len cap zs w h).mono ?_
  rintro e w1 ⟨g, x, y, T, A, B, c, d, f, rfl, hg17, hgr, hx18, hy18, hb1, r0, r1, r2⟩
  clear hbig hle
  have BEL0 := Lib.hid hb1
  have R0 := Lib.hid r0
  have R1 := Lib.hid r1
  have R2 := Lib.hid r2
  have hl := small_max hg17
  have HM := Lib.hid h'
  clear hb1 r0 r1 r2 hgr h h'
  go_wp2_with fail
  refine (I.set _ _ _ _ _ _ g x y hl (by omega) (by omega) _ R0.out R1.out R2.out).mono ?_
  rintro e w2 ⟨rfl, hb2⟩
  replace R0 := Lib.hid (stillRows R0.out hb2)
  replace R1 := Lib.hid (stillInts R1.out hb2)
  replace R2 := Lib.hid (stillInts R2.out hb2)
  replace BEL0 := Lib.hid (belT BEL0.out hb2)
  clear hb2
  go_wp2_with fail
  refine (set_spec _ _ _ _ _ _ g x y hl (by omega) (by omega) _ R0.out R1.out R2.out).mono ?_
  rintro e w3 ⟨rfl, hb3⟩
  replace R0 := Lib.hid (stillRows R0.out hb3)
  replace R1 := Lib.hid (stillInts R1.out hb3)
  replace R2 := Lib.hid (stillInts R2.out hb3)
  replace BEL0 := Lib.hid (belT BEL0.out hb3)
  clear hb3
  rcases hb : setB g x y with _ | _
  · skip
    go_wp2_with fail
    refine (alive _).mono ?_
    rintro e w9 ⟨rfl, hb9⟩
    go_wp2_with fail
    go_ret
    exact ⟨by simp, belT BEL0.out hb9⟩
  have HB := Lib.hid hb
  have HA := Lib.hid (set_avg hb)
  clear hb
  have sx := (set_of HB.out).1
  have sy := (set_of HB.out).2.1
  have HX := Lib.hid (safB_iff.1 sx)
  have HY := Lib.hid (risB_iff.1 sy)
  have HS := Lib.hid sx
  clear sx sy
  go_wp2_with fail
  refine (I.avg _ _ _ _ _ _ g x y hl (by omega) (by omega) _ R0.out R1.out R2.out).mono ?_
  rintro e w4 ⟨rfl, hb4⟩
  replace R0 := Lib.hid (stillRows R0.out hb4)
  replace R1 := Lib.hid (stillInts R1.out hb4)
  replace R2 := Lib.hid (stillInts R2.out hb4)
  replace BEL0 := Lib.hid (belT BEL0.out hb4)
  clear hb4
  try unfold FracRes
  rw [HA.out.1, HA.out.2.1, HA.out.2.2]
  go_wp2_with fail
  obtain ⟨WFA, hWFA⟩ : ∃ WFA : World, WFA = w4.alloc (.cells #[.int .i64 (safU g x), .int .i64 (safD g x)] 28) := ⟨_, rfl⟩
  have hbWFA : Below w4.heap.size w4 WFA := by rw [hWFA]; exact (Below.refl _ _).alloc (Nat.le_refl _) _
  have FA : Hid (Box2 WFA w4.heap.size (safU g x) (safD g x)) := by show Box2 _ _ _ _; rw [hWFA]; exact Box2.new _ _ _
  rw [← hWFA]
  clear hWFA
  replace R0 := Lib.hid (stillRows R0.out hbWFA)
  replace R1 := Lib.hid (stillInts R1.out hbWFA)
  replace R2 := Lib.hid (stillInts R2.out hbWFA)
  replace BEL0 := Lib.hid (belT BEL0.out hbWFA)
  clear hbWFA
  refine (I.safe _ _ _ _ g x hl (by omega) _ R0.out R1.out).mono ?_
  rintro e w5 ⟨rfl, hb5⟩
  replace R0 := Lib.hid (stillRows R0.out hb5)
  replace R1 := Lib.hid (stillInts R1.out hb5)
  replace R2 := Lib.hid (stillInts R2.out hb5)
  replace FA := Lib.hid (FA.out.still hb5)
  replace BEL0 := Lib.hid (belT BEL0.out hb5)
  clear hb5
  try unfold FracRes
  rw [HS.out]
  go_wp2_with fail
  obtain ⟨WFS, hWFS⟩ : ∃ WFS : World, WFS = w5.alloc (.cells #[.int .i64 (safU g x), .int .i64 (safD g x)] 28) := ⟨_, rfl⟩
  have hbWFS : Below w5.heap.size w5 WFS := by rw [hWFS]; exact (Below.refl _ _).alloc (Nat.le_refl _) _
  have FS : Hid (Box2 WFS w5.heap.size (safU g x) (safD g x)) := by show Box2 _ _ _ _; rw [hWFS]; exact Box2.new _ _ _
  have hzWFS : Hid (WFS.heap.size = w5.heap.size + 1) := by show WFS.heap.size = _; rw [hWFS]; simp
  rw [← hWFS]
  clear hWFS
  replace R0 := Lib.hid (stillRows R0.out hbWFS)
  replace R1 := Lib.hid (stillInts R1.out hbWFS)
  replace R2 := Lib.hid (stillInts R2.out hbWFS)
  replace FA := Lib.hid (FA.out.still hbWFS)
  replace BEL0 := Lib.hid (belT BEL0.out hbWFS)
  clear hbWFS
  obtain ⟨i0, hi0, hz0, hz1, hz2⟩ := info_parts infoI
  have HI0 := Lib.hid hi0
  have HZ0 := Lib.hid hz0
  have HZ1 := Lib.hid hz1
  have HZ2 := Lib.hid hz2
  clear hi0 hz0 hz1 hz2
  have L0 : Hid (TwoL WFS ((WFS.alloc (.cells #[] 3)).alloc (.cells #[] 3)) (.slice (some ⟨w5.heap.size + 1, 0, none⟩) 0 0) (.slice (some ⟨w5.heap.size + 1 + 1, 0, none⟩) 0 0) [] []) := by rw [← hzWFS.out]; exact TwoL.start WFS
  go_loopw [13, 15] (fun v j wr => ∃ (k : Nat) (l : List Int), k ≤ x.length ∧ Hid (l.length = k) ∧ Hid (Small l) ∧ j = .int .i64 k ∧ Hid (TwoL WFS wr v (.slice (some ⟨w5.heap.size + 1 + 1, 0, none⟩) 0 0) l [])) (fun _ j _ => x.length - (intOf j).toNat)
  case atStart => exact ⟨0, [], Nat.zero_le _, rfl, Small.nil, rfl, L0⟩
  case round =>
    clear L0
    obtain ⟨k, l, hk, HLN, HSM, rfl, HT⟩ := hrel
    have hln := HLN.out
    have hs0 := HT.out.bel.size
    by_cases hlt : k < x.length
    · have hln := HLN.out
      go_wp2_with (at_builtin; refine wpList_append_own_at _ rfl (.tmp 69) (.tmp 70) _ rfl WFS.heap.size 3 i0 (.int .i64 0) 1 8 Try.underlying24 HI0.out HZ0.out HZ1.out HZ2.out rfl (by decide) _ _ _ rfl (HT.out.one.alloc _) ⟨wr.heap.size, 0, none⟩ 1 1 [.int .i64 1] rfl rfl (cell_one_new _ _ _) ?c2 ?c3 ?c4 ?c5 ?_)
      case c2 => first | rfl | (intro u hu; simp at hu; subst hu; rfl)
      case c3 => rw [hln]; unfold maxLen; omega
      case c4 => rw [hln]; omega
      case c5 => first | omega | (simp; omega)
      intro v' w6 hown hgrow _ hblk
      have S1 : Hid (TwoL WFS w6 v' (.slice (some ⟨w5.heap.size + 1 + 1, 0, none⟩) 0 0) (l ++ [1]) []) := HT.out.push HLN.out hown hgrow hblk
      have HL1 : Hid ((l ++ [1]).length = k + 1) := by show (l ++ [1]).length = k + 1; simp [hln]
      have HS1 : Hid (Small (l ++ [1])) := HSM.out.snoc (by omega) (by omega)
      obtain ⟨b, cp, rfl, _, hbl⟩ := S1.out.one.form2 HL1.out (by omega)
      clear hown hgrow hblk HT HSM hln HLN
      by_cases hm : k < len'
      · obtain ⟨xa, z, rfl, hcz, hz1, hz2⟩ := byte_at (HM.out.below (belT BEL0.out S1.out.bel)) hm
        obtain ⟨hm1, hm2⟩ := mod5 hz1
        have hcell := S1.out.cell HL1.out k (by omega)
        have hfr := S1.out.frozen HL1.out k
        have HN : Hid (TwoL WFS (w6.setCell ⟨b, k, none⟩ (.int .i64 (1 + z % 5))) (.slice (some ⟨b, 0, none⟩) (k + 1) cp) (.slice (some ⟨w5.heap.size + 1 + 1, 0, none⟩) 0 0) ((l ++ [1]).set k (1 + z % 5)) []) := S1.out.store HL1.out k _
        have HL2 : Hid (((l ++ [1]).set k (1 + z % 5)).length = k + 1) := by show (List.set _ _ _).length = k + 1; rw [List.length_set]; exact HL1.out
        have HS2 : Hid (Small ((l ++ [1]).set k (1 + z % 5))) := HS1.out.set k (by omega) (by omega)
        clear S1 HL1 HS1
        go_wp2_with fail
        go_roundw
        case rel => exact ⟨k + 1, _, by omega, HL2, HS2, by go_num, HN⟩
        case measure => simp [intOf]; omega
      · go_wp2_with fail
        go_roundw
        case rel => exact ⟨k + 1, _, by omega, HL1, HS1, by go_num, S1⟩
        case measure => simp [intOf]; omega
    · obtain rfl : k = x.length := by omega
      have hxl := HX.out.2.len
      have hgl := HX.out.2.lo
      have hgh := HX.out.2.hi
      have HXL := Lib.hid hxl
      obtain ⟨bp, cp, rfl, _, _⟩ := HT.out.one.form2 HLN.out (by omega)
      have HP : Hid (safB g l = true) := safB_iff.2 ⟨HX.out.1, by have := HSM.out.mix (by rw [HLN.out]; omega) (by rw [HLN.out]; omega); rwa [HLN.out, HXL.out] at this⟩
      have HT0 := Lib.hid HT.out.swap
      have HLP := Lib.hid HLN.out
      clear HT HLN HSM hxl hgl hgh hln
      go_wp2_with fail
      go_loopw [14, 16] (fun v j wr => ∃ (k : Nat) (m : List Int), k ≤ y.length ∧ Hid (m.length = k) ∧ Hid (Small m) ∧ j = .int .i64 k ∧ Hid (TwoL WFS wr v (.slice (some ⟨bp, 0, none⟩) x.length cp) m l)) (fun _ j _ => y.length - (intOf j).toNat)
      case atStart => exact ⟨0, [], Nat.zero_le _, rfl, Small.nil, rfl, HT0⟩
      case round =>
        clear HT0
        obtain ⟨k, m, hk, HLN, HSM, rfl, HT⟩ := hrel
        have hs0 := HT.out.bel.size
        by_cases hlt : k < y.length
        · have hln := HLN.out
          go_wp2_with (at_builtin; refine wpList_append_own_at _ rfl (.tmp 92) (.tmp 93) _ rfl WFS.heap.size 3 i0 (.int .i64 0) 1 8 Try.underlying24 HI0.out HZ0.out HZ1.out HZ2.out rfl (by decide) _ _ _ rfl (HT.out.one.alloc _) ⟨wr.heap.size, 0, none⟩ 1 1 [.int .i64 1] rfl rfl (cell_one_new _ _ _) ?d2 ?d3 ?d4 ?d5 ?_)
          case d2 => first | rfl | (intro u hu; simp at hu; subst hu; rfl)
          case d3 => rw [hln]; unfold maxLen; omega
          case d4 => rw [hln]; omega
          case d5 => first | omega | (simp; omega)
          intro v' w6 hown hgrow _ hblk
          have S1 : Hid (TwoL WFS w6 v' (.slice (some ⟨bp, 0, none⟩) x.length cp) (m ++ [1]) l) := HT.out.push HLN.out hown hgrow hblk
          have HL1 : Hid ((m ++ [1]).length = k + 1) := by show (m ++ [1]).length = k + 1; simp [hln]
          have HS1 : Hid (Small (m ++ [1])) := HSM.out.snoc (by omega) (by omega)
          obtain ⟨b, cb, rfl, _, hbl⟩ := S1.out.one.form2 HL1.out (by omega)
          clear hown hgrow hblk HT HSM hln HLN
          by_cases hm : k + 4 < len'
          · obtain ⟨xa, z, rfl, hcz, hz1, hz2⟩ := byte_at (HM.out.below (belT BEL0.out S1.out.bel)) hm
            obtain ⟨hm1, hm2⟩ := mod5 hz1
            have hcz' : w6.cell? ⟨xa.block, xa.off + (k + 3 + 1), none⟩ = some (.int .u8 z) := hcz
            clear hcz
            have hcell := S1.out.cell HL1.out k (by omega)
            have hfr := S1.out.frozen HL1.out k
            have HN : Hid (TwoL WFS (w6.setCell ⟨b, k, none⟩ (.int .i64 (1 + z % 5))) (.slice (some ⟨b, 0, none⟩) (k + 1) cb) (.slice (some ⟨bp, 0, none⟩) x.length cp) ((m ++ [1]).set k (1 + z % 5)) l) := S1.out.store HL1.out k _
            have HL2 : Hid (((m ++ [1]).set k (1 + z % 5)).length = k + 1) := by show (List.set _ _ _).length = k + 1; rw [List.length_set]; exact HL1.out
            have HS2 : Hid (Small ((m ++ [1]).set k (1 + z % 5))) := HS1.out.set k (by omega) (by omega)
            clear S1 HL1 HS1
            go_wp2_with fail
            go_roundw
            case rel => exact ⟨k + 1, _, by omega, HL2, HS2, by go_num, HN⟩
            case measure => simp [intOf]; omega
          · go_wp2_with fail
            go_roundw
            case rel => exact ⟨k + 1, _, by omega, HL1, HS1, by go_num, S1⟩
            case measure => simp [intOf]; omega
        · obtain rfl : k = y.length := by omega
          have hyl := HY.out.2.len
          have hgl := HY.out.2.lo
          have hgh := HY.out.2.hi
          have HYL := Lib.hid hyl
          obtain ⟨bq, cq, rfl, _, _⟩ := HT.out.one.form2 HLN.out (by omega)
          have HQ : Hid (risB g m = true) := risB_iff.2 ⟨HY.out.1, by have := HSM.out.mix (by rw [HLN.out]; omega) (by rw [HLN.out]; omega); rwa [HLN.out, HYL.out] at this⟩
          have PI := Lib.hid (HT.out.swap.ints HLP.out)
          have QI := Lib.hid (HT.out.ints HLN.out)
          have HLQ := Lib.hid HLN.out
          have hbV := HT.out.bel
          clear HT HLN HSM hyl hgl hgh
          clear R1
          clear R2
          replace R0 := Lib.hid (stillRows R0.out hbV)
          replace FA := Lib.hid (FA.out.still hbV)
          replace FS := Lib.hid (FS.out.still hbV)
          replace BEL0 := Lib.hid (belT BEL0.out hbV)
          clear hbV
          have CP := fun c d => I.safe _ _ c d g l hl (by rw [HLP.out]; omega) _ R0.out PI.out
          rw [HLP.out] at CP
          go_wp2_with fail
          refine (CP _ _).mono ?_
          rintro e w10 ⟨rfl, hb10⟩
          replace R0 := Lib.hid (stillRows R0.out hb10)
          replace FA := Lib.hid (FA.out.still hb10)
          replace FS := Lib.hid (FS.out.still hb10)
          replace PI := Lib.hid (stillInts PI.out hb10)
          replace QI := Lib.hid (stillInts QI.out hb10)
          replace BEL0 := Lib.hid (belT BEL0.out hb10)
          clear hb10
          clear CP
          try unfold FracRes
          rw [HP.out]
          go_wp2_with fail
          obtain ⟨WFB, hWFB⟩ : ∃ WFB : World, WFB = w10.alloc (.cells #[.int .i64 (safU g l), .int .i64 (safD g l)] 28) := ⟨_, rfl⟩
          have hbWFB : Below w10.heap.size w10 WFB := by rw [hWFB]; exact (Below.refl _ _).alloc (Nat.le_refl _) _
          have FB : Hid (Box2 WFB w10.heap.size (safU g l) (safD g l)) := by show Box2 _ _ _ _; rw [hWFB]; exact Box2.new _ _ _
          rw [← hWFB]
          clear hWFB
          replace R0 := Lib.hid (stillRows R0.out hbWFB)
          replace FA := Lib.hid (FA.out.still hbWFB)
          replace FS := Lib.hid (FS.out.still hbWFB)
          replace PI := Lib.hid (stillInts PI.out hbWFB)
          replace QI := Lib.hid (stillInts QI.out hbWFB)
          replace BEL0 := Lib.hid (belT BEL0.out hbWFB)
          clear hbWFB
          have CQ := fun c d => I.risk _ _ c d g m hl (by rw [HLQ.out]; omega) _ R0.out QI.out
          rw [HLQ.out] at CQ
          refine (CQ _ _).mono ?_
          rintro e w11 ⟨rfl, hb11⟩
          replace R0 := Lib.hid (stillRows R0.out hb11)
          replace FA := Lib.hid (FA.out.still hb11)
          replace FS := Lib.hid (FS.out.still hb11)
          replace PI := Lib.hid (stillInts PI.out hb11)
          replace QI := Lib.hid (stillInts QI.out hb11)
          replace FB := Lib.hid (FB.out.still hb11)
          replace BEL0 := Lib.hid (belT BEL0.out hb11)
          clear hb11
          clear CQ
          try unfold FracRes
          rw [HQ.out]
          clear R0
          clear PI
          clear QI
          have k1 : lessB (safU g x) (safD g x) (safU g l) (safD g l) = false := by rw [lessB_ok (saf_okB HS.out) (saf_okB HP.out)]; exact decide_eq_false (Int.not_lt.2 (set_rows HB.out HP.out))
          have k2 : lessB (risU g m) (risD g m) (safU g x) (safD g x) = false := by rw [lessB_ok (ris_okB HQ.out) (saf_okB HS.out)]; exact decide_eq_false (Int.not_lt.2 (set_cols HB.out HQ.out))
          have C1 := less_impl (safU g x) (safD g x) (safU g l) (safD g l)
          rw [k1] at C1
          have C2 := less_impl (risU g m) (risD g m) (safU g x) (safD g x)
          rw [k2] at C2
          clear k1 k2
          have cFA0 := FA.out.c0
          have cFA1 := FA.out.c1
          have cFS0 := FS.out.c0
          have cFS1 := FS.out.c1
          have cFB0 := FB.out.c0
          have cFB1 := FB.out.c1
          have lFA := FA.out.lt
          have lFS := FS.out.lt
          have lFB := FB.out.lt
          go_wp2_with fail
          obtain ⟨WFC, hWFC⟩ : ∃ WFC : World, WFC = w11.alloc (.cells #[.int .i64 (risU g m), .int .i64 (risD g m)] 28) := ⟨_, rfl⟩
          have hbWFC : Below w11.heap.size w11 WFC := by rw [hWFC]; exact (Below.refl _ _).alloc (Nat.le_refl _) _
          have FC : Hid (Box2 WFC w11.heap.size (risU g m) (risD g m)) := by show Box2 _ _ _ _; rw [hWFC]; exact Box2.new _ _ _
          rw [← hWFC]
          clear hWFC
          replace FA := Lib.hid (FA.out.still hbWFC)
          replace FS := Lib.hid (FS.out.still hbWFC)
          replace FB := Lib.hid (FB.out.still hbWFC)
          replace BEL0 := Lib.hid (belT BEL0.out hbWFC)
          clear hbWFC
          clear cFA0 cFA1
          clear cFS0 cFS1
          clear cFB0 cFB1
          clear lFA lFS lFB
          refine (C1 _).mono ?_
          rintro e w12 ⟨rfl, hb12⟩
          replace FA := Lib.hid (FA.out.still hb12)
          replace FS := Lib.hid (FS.out.still hb12)
          replace FB := Lib.hid (FB.out.still hb12)
          replace FC := Lib.hid (FC.out.still hb12)
          replace BEL0 := Lib.hid (belT BEL0.out hb12)
          clear hb12
          have cFC0 := FC.out.c0
          have cFC1 := FC.out.c1
          have cFS0 := FS.out.c0
          have cFS1 := FS.out.c1
          go_wp2_with fail
          clear cFC0 cFC1
          clear cFS0 cFS1
          refine (C2 _).mono ?_
          rintro e w13 ⟨rfl, hb13⟩
          replace FA := Lib.hid (FA.out.still hb13)
          replace FS := Lib.hid (FS.out.still hb13)
          replace FB := Lib.hid (FB.out.still hb13)
          replace FC := Lib.hid (FC.out.still hb13)
          replace BEL0 := Lib.hid (belT BEL0.out hb13)
          clear hb13
          go_wp2_with fail
          go_ret
          exact ⟨by simp, BEL0.out⟩

end Go.Proofs.Ytjojilimdhekfaa
