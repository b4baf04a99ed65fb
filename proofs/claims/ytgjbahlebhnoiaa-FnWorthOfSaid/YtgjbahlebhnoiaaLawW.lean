/- The walk of the law of WorthOf. (Written by wip/gen/law4.py.) -/
import Derived.Test.YtgjbahlebhnoiaaMG
import Derived.Test.YtgjbahlebhnoiaaMF
import Derived.Test.YtgjbahlebhnoiaaMH
import Derived.Test.YtgjbahlebhnoiaaLawT
namespace Go.Proofs.Ytgjbahlebhnoiaa
set_option linter.unusedSimpArgs false
set_option linter.unusedVariables false
open Go.RowKit

def backF (g : List (List Int)) (i j : Nat) : Int := nth (rowAt g (g.length - 1 - i)) ((rowAt g 0).length - 1 - j)

def backT (g : List (List Int)) (k : Nat) : List (List Int) := selTab (fun _ => true) (fun i => selRow (fun _ => true) (backF g i) (rowAt g 0).length) k

theorem backT_all (g : List (List Int)) : backT g g.length = backL g := by
  unfold backT; rw [selTab_map, sel_all]
  unfold backL
  refine List.map_congr_left (fun i _ => ?_)
  rw [selRow_map, sel_all]; rfl

theorem backT_length (g : List (List Int)) (k : Nat) : (backT g k).length = k := by unfold backT; rw [selTab_length, cnt_all]

theorem backT_next (g : List (List Int)) (k : Nat) : backT g (k + 1) = backT g k ++ [selRow (fun _ => true) (backF g k) (rowAt g 0).length] := selTab_yes rfl

set_option maxHeartbeats 4000000 in
set_option maxRecDepth 100000 in
theorem wFnWorthOf (I : Impl4) (a : Option Addr) (len cap : Nat) (zs : List Int) (w : World) (h : IsRow .u8 w a len cap zs) :
    Calls Try.prog 5 #[.slice a len cap] w fun e w' => e = .returned (.bool true) ∧ Below w.heap.size w w' := by
  have hle := byte_len h
  by_cases hbig : (1048576 : Int) < (len : Int)
  · go_enter Try.func5, Try.ntmps5
    go_wp2_with fail
    go_ret
    exact ⟨rfl, Below.refl _ _⟩
  go_enter Try.func5, Try.ntmps5
  go_wp2_with fail
  refine (dDrawWorthOf a len cap zs w h).mono ?_
  rintro e w1 ⟨g, T, c, rfl, hc1, hc2, hg17, hgr, hb1, ho1⟩
  clear hbig hle
  have BEL0 := Lib.hid hb1
  have R0 := Lib.hid ho1.lt
  have hl := small_max hg17
  clear hb1 ho1 hgr hc1 hc2
  go_wp2_with fail
  refine (I.worth _ _ g hl _ R0.out).mono ?_
  rintro e w2 ⟨rfl, hb2⟩
  replace R0 := Lib.hid (stillRows R0.out hb2)
  replace BEL0 := Lib.hid (belT BEL0.out hb2)
  clear hb2
  try unfold FracRes
  go_wp2_with fail
  obtain ⟨WFA, hWFA⟩ : ∃ WFA : World, WFA = w2.alloc (.cells #[.int .i64 (solU g), .int .i64 (solD g)] 32) := ⟨_, rfl⟩
  have hbWFA : Below w2.heap.size w2 WFA := by rw [hWFA]; exact (Below.refl _ _).alloc (Nat.le_refl _) _
  have FA : Hid (Box2 WFA w2.heap.size (solU g) (solD g)) := by show Box2 _ _ _ _; rw [hWFA]; exact Box2.new _ _ _
  rw [← hWFA]
  clear hWFA
  replace R0 := Lib.hid (stillRows R0.out hbWFA)
  replace BEL0 := Lib.hid (belT BEL0.out hbWFA)
  clear hbWFA
  go_wp2_with fail
  refine (worth_spec _ _ g hl _ R0.out).mono ?_
  rintro e w3 ⟨rfl, hb3⟩
  replace R0 := Lib.hid (stillRows R0.out hb3)
  replace FA := Lib.hid (FA.out.still hb3)
  replace BEL0 := Lib.hid (belT BEL0.out hb3)
  clear hb3
  try unfold FracRes
  have cFA0 := FA.out.c0
  have cFA1 := FA.out.c1
  have ltA := FA.out.lt
  have zU : (solU g != solU g) = false := by simp
  have zD : (solD g != solD g) = false := by simp
  rcases hb : solB g with _ | _
  · skip
    have HU : Hid (solU g = 0) := (sol_zero hb).1
    have HD : Hid (solD g = 0) := (sol_zero hb).2.1
    rw [HU.out] at cFA0 zU
    rw [HD.out] at cFA1 zD
    rw [HU.out, HD.out]
    clear hb
    go_wp2_with fail
    refine (alive _).mono ?_
    rintro e w9 ⟨rfl, hb9⟩
    have hb8 := Lib.hid (belT (w := w3) (by exact (by repeat (first | exact Below.refl _ _ | assumption | exact bel1 (by assumption) | exact bel2 (by assumption) | exact bel3 (by assumption) | exact bel4 (by assumption) | refine Below.drew ?_ | refine below_drewN ?_ _ | refine Below.setCell ?_ (by first | (simp; done) | (simp; omega)) _ | refine Below.alloc ?_ (by first | (simp; done) | (simp; omega)) _))) hb9)
    clear hb9
    go_wp2_with fail
    go_ret
    exact ⟨by first | rfl | (simp; done) | (simp; omega), belT BEL0.out hb8.out⟩
  have HB := Lib.hid hb
  have hgb := (sol_parts hb).1
  have HGB := Lib.hid hgb
  have hg := Game.of hgb
  have hg1 := hg.lo
  have hg2 := hg.hi
  have hg3 := hg.mlo
  have hg4 := hg.mhi
  have HLEN : Hid (∀ i, i < g.length → (rowAt g i).length = (rowAt g 0).length) := hg.len
  clear hb hgb hg
  obtain ⟨bt, ot, rfl⟩ := R0.out.some (by omega)
  go_wp2_with fail
  clear cFA0 cFA1
  clear ltA zU zD
  obtain ⟨WFB, hWFB⟩ : ∃ WFB : World, WFB = w3.alloc (.cells #[.int .i64 (solU g), .int .i64 (solD g)] 32) := ⟨_, rfl⟩
  have hbWFB : Below w3.heap.size w3 WFB := by rw [hWFB]; exact (by repeat (first | exact Below.refl _ _ | assumption | exact bel1 (by assumption) | exact bel2 (by assumption) | exact bel3 (by assumption) | exact bel4 (by assumption) | refine Below.drew ?_ | refine below_drewN ?_ _ | refine Below.setCell ?_ (by first | (simp; done) | (simp; omega)) _ | refine Below.alloc ?_ (by first | (simp; done) | (simp; omega)) _))
  have hzWFB : Hid (WFB.heap.size = w3.heap.size + 1) := by show WFB.heap.size = _; rw [hWFB]; simp
  rw [← hWFB]
  clear hWFB
  replace R0 := Lib.hid (stillRows R0.out hbWFB)
  replace FA := Lib.hid (FA.out.still hbWFB)
  replace BEL0 := Lib.hid (belT BEL0.out hbWFB)
  clear hbWFB
  obtain ⟨i0, hi0, hz0, hz1, hz2⟩ := info_parts infoI
  obtain ⟨i1, hi1, hy0, hy1, hy2⟩ := info_parts infoR
  have HI0 := Lib.hid hi0
  have HZ0 := Lib.hid hz0
  have HZ1 := Lib.hid hz1
  have HZ2 := Lib.hid hz2
  have HI1 := Lib.hid hi1
  have HY0 := Lib.hid hy0
  have HY1 := Lib.hid hy1
  have HY2 := Lib.hid hy2
  clear hi0 hz0 hz1 hz2 hi1 hy0 hy1 hy2
  obtain ⟨hS, A0, c0, hc0, hl0, hm0, _⟩ := R0.out.row (i := 0) (by omega)
  rw [Nat.add_zero] at hc0
  unfold maxLen at hm0
  have HC0 := Lib.hid hc0
  clear hc0
  have L0 : Hid ((∃ (A : Nat → Option Addr) (C : Nat → Nat), GrowsR (WFB.alloc (.cells #[] 26)) WFB.heap.size (WFB.alloc (.cells #[] 26)).heap.size (.slice (some ⟨w3.heap.size + 1, 0, none⟩) 0 0) A C (backT g 0)) ∧ Below WFB.heap.size WFB (WFB.alloc (.cells #[] 26))) := by
    show _ ∧ _
    rw [← hzWFB.out]
    exact ⟨⟨_, _, (GrowsR.lit WFB (base := WFB.heap.size) (Nat.le_refl _) (fun _ => none) (fun _ => 0)).up (by simp) (Nat.le_refl _)⟩, (Below.refl _ _).alloc (Nat.le_refl _) _⟩
  go_loopw [8, 9] (fun v i wr => ∃ (k : Nat) (x : Int), k ≤ g.length ∧ Hid (x = (g.length : Int) - 1 - (k : Int)) ∧ i = .int .i64 x ∧ Hid (∃ (A : Nat → Option Addr) (C : Nat → Nat), GrowsR wr WFB.heap.size wr.heap.size v A C (backT g k)) ∧ Hid (Below WFB.heap.size WFB wr)) (fun _ i _ => (intOf i + 1).toNat)
  case atStart => exact ⟨0, (g.length : Int) - 1, Nat.zero_le _, (by show _ = _; simp), by go_num, L0.out.1, L0.out.2⟩
  case round =>
    clear L0
    obtain ⟨k, x, hk, hx, rfl, HT, HW⟩ := hrel
    have hxx : x = (g.length : Int) - 1 - (k : Int) := hx
    clear hx
    obtain ⟨wo, rfl⟩ : ∃ wo, wo = wr := ⟨_, rfl⟩
    have hws := HW.out.size
    by_cases hlt : k < g.length
    · obtain ⟨i', hi'⟩ : ∃ i' : Nat, i' = g.length - 1 - k := ⟨_, rfl⟩
      obtain rfl : x = (i' : Int) := by omega
      have hil : i' < g.length := by omega
      have HII := Lib.hid hi'
      have hyes := Lib.hid (backT_next g k)
      have hlenT := Lib.hid (backT_length g k)
      have hge : (0 : Int) ≤ (i' : Int) := by omega
      have hcw : wo.cell? ⟨bt, ot, none⟩ = some (.slice A0 (rowAt g 0).length c0) := (HW.out.cell (p := ⟨bt, ot, none⟩) hS).trans HC0.out
      obtain ⟨AA, CC, hgr⟩ := HT.out
      have HGR := Lib.hid hgr
      have hlt0 : bt < wo.heap.size := by omega
      clear hgr HT hxx hi'
      go_wp2_with fail
      clear hcw
      go_loopw [10, 11] (fun v j wr => ∃ (m : Nat) (y : Int), m ≤ (rowAt g 0).length ∧ Hid (y = ((rowAt g 0).length : Int) - 1 - (m : Int)) ∧ j = .int .i64 y ∧ Hid (Grows wr wo.heap.size v (selRow (fun _ => true) (backF g k) m)) ∧ Hid (Below wo.heap.size wo wr)) (fun _ j _ => (intOf j + 1).toNat)
      case atStart => exact ⟨0, ((rowAt g 0).length : Int) - 1, Nat.zero_le _, (by show _ = _; simp), by go_num, Grows.lit wo (Nat.le_refl _), (Below.refl _ _).alloc (Nat.le_refl _) _⟩
      case round =>
        obtain ⟨m, y, hm, hy0, rfl, HO, HV⟩ := hrel
        have hyy : y = ((rowAt g 0).length : Int) - 1 - (m : Int) := hy0
        clear hy0
        have hvs := HV.out.size
        have HLR : Hid ((selRow (fun _ => true) (backF g k) m).length = m) := by show _ = _; rw [selRow_length, cnt_all]
        have HWV := Lib.hid (belT HW.out HV.out)
        by_cases hlm : m < (rowAt g 0).length
        · obtain ⟨j', hj'⟩ : ∃ j' : Nat, j' = (rowAt g 0).length - 1 - m := ⟨_, rfl⟩
          obtain rfl : y = (j' : Int) := by omega
          have hjl : j' < (rowAt g 0).length := by omega
          have hye : Hid (selRow (fun _ => true) (backF g k) (m + 1) = selRow (fun _ => true) (backF g k) m ++ [nth (rowAt g i') j']) := by
            show _ = _
            rw [selRow_yes rfl, HII.out, hj']; rfl
          have HJJ := Lib.hid hj'
          clear hj' hyy
          have hgj : (0 : Int) ≤ (j' : Int) := by omega
          have R2 := Lib.hid (keepRows HWV.out R0.out)
          have hjl' : j' < (rowAt g i').length := by rw [HLEN.out i' hil]; exact hjl
          obtain ⟨bm, om, cm, hd1, hd2, hd3, hd4, hd5⟩ := R2.out.cell hil hjl'
          unfold maxLen at hd3
          go_wp2_with (at_builtin; refine wpList_append_own_at _ rfl (.tmp 72) (.tmp 80) _ rfl wo.heap.size 3 i0 (.int .i64 0) 1 8 Try.underlying26 HI0.out HZ0.out HZ1.out HZ2.out rfl (by decide) _ _ _ rfl (HO.out.alloc _) ⟨wr.heap.size, 0, none⟩ 1 1 [.int .i64 (nth (rowAt g i') j')] rfl rfl (cell_one_new _ _ _) ?c2 ?c3 ?c4 ?c5 ?_)
          case c2 => first | rfl | (intro u hu; simp at hu; subst hu; rfl)
          case c3 => rw [HLR.out]; unfold maxLen; omega
          case c4 => rw [HLR.out]; omega
          case c5 => first | omega | (simp; omega)
          intro v' w4 hown hgrow _ _
          have HN : Hid (Grows w4 wo.heap.size v' (selRow (fun _ => true) (backF g k) (m + 1))) := by rw [hye.out]; exact Grows.snoc hown
          have HV2 : Hid (Below wo.heap.size wo w4) := HO.out.below hgrow HV.out (Nat.le_refl _) hvs
          clear hown hgrow
          go_wp2_with fail
          go_roundw
          case rel => exact ⟨m + 1, (j' : Int) - 1, by omega, (by show _ = _; have := HJJ.out; omega), by go_num, HN, HV2⟩
          case measure => first | (simp [intOf]; done) | (simp [intOf]; omega)
        · obtain rfl : m = (rowAt g 0).length := by omega
          obtain rfl : y = -1 := by omega
          clear hyy
          obtain ⟨An, cn, hv, hcn1, hcn2, hon⟩ := HO.out.own'
          have HGV := Lib.hid (HGR.out.keep HV.out)
          have HON := Lib.hid hon
          subst hv
          clear hon
          go_wp2_with (at_builtin; refine wpList_append_own_at _ rfl (.tmp 82) (.tmp 84) _ rfl WFB.heap.size 26 i1 (.slice none 0 0) 1 24 Try.underlying23 HI1.out HY0.out HY1.out HY2.out rfl (by decide) _ _ _ rfl (HGV.out.alloc _) ⟨wr.heap.size, 0, none⟩ 1 1 [.slice An (selRow (fun _ => true) (backF g k) (rowAt g 0).length).length cn] rfl rfl (cell_one_new _ _ _) ?c2 ?c3 ?c4 ?c5 ?_)
          case c2 => first | rfl | (intro u hu; simp at hu; subst hu; rfl)
          case c3 => rw [hlenT.out]; unfold maxLen; omega
          case c4 => rw [hlenT.out]; omega
          case c5 => first | omega | (simp; omega)
          intro v' w4 hown hgrow _ hat
          have HN : Hid (∃ (A : Nat → Option Addr) (C : Nat → Nat), GrowsR w4 WFB.heap.size w4.heap.size v' A C (backT g (k + 1))) := by
            rw [hyes.out]
            exact HGV.out.snoc HON.out hcn1 hcn2 hws hown hgrow (by rcases hat with e | e; exact .inl e; exact .inr (by rw [e]; try simp))
          have HW2 : Hid (Below WFB.heap.size WFB w4) := HGV.out.below hgrow (belT HW.out HV.out) (Nat.le_refl _) (by omega)
          clear hown hgrow hat
          go_wp2_with fail
          go_roundw
          case rel => exact ⟨k + 1, (i' : Int) - 1, by omega, (by show _ = _; have := HII.out; omega), by go_num, HN, HW2⟩
          case measure => first | (simp [intOf]; done) | (simp [intOf]; omega)
    · obtain rfl : k = g.length := by omega
      obtain rfl : x = -1 := by omega
      obtain ⟨AA, CC, hgr⟩ := HT.out
      rw [backT_all] at hgr
      obtain ⟨T1, c1, hv1, hcl1, hcl2, hot⟩ := hgr.table
      subst hv1
      have TB : Hid (Rows2 wo (· < wo.heap.size) T1 (backL g)) := hot.rows2.mono fun b hb => hb.2
      have hbV := HW.out
      clear hgr hot HT HW hxx hws hlt hk
      replace R0 := Lib.hid (stillRows R0.out hbV)
      replace FA := Lib.hid (FA.out.still hbV)
      replace BEL0 := Lib.hid (belT BEL0.out hbV)
      clear hbV
      have hbl : (backL g).length ≤ maxLen := by rw [backL_length]; exact hl
      have htl : (turned g).length ≤ maxLen := small_max (by have := (turned_len g).1; omega)
      have HT := Lib.hid (sol_turned HB.out)
      have HK := Lib.hid (sol_back HB.out)
      have HM := Lib.hid (sol_minus HB.out)
      go_wp2_with fail
      refine (turned_impl _ _ g hl _ R0.out).mono ?_
      rintro e w9 ⟨X, cx, rfl, b9, o9⟩
      have X0 := Lib.hid o9.lt
      replace R0 := Lib.hid (stillRows R0.out b9)
      replace FA := Lib.hid (FA.out.still b9)
      replace TB := Lib.hid (stillRows TB.out b9)
      replace BEL0 := Lib.hid (belT BEL0.out b9)
      clear b9 o9
      go_wp2_with fail
      refine (I.worth _ _ (turned g) htl _ X0.out).mono ?_
      rintro e w10 ⟨rfl, hb10⟩
      replace R0 := Lib.hid (stillRows R0.out hb10)
      replace FA := Lib.hid (FA.out.still hb10)
      replace TB := Lib.hid (stillRows TB.out hb10)
      replace X0 := Lib.hid (stillRows X0.out hb10)
      replace BEL0 := Lib.hid (belT BEL0.out hb10)
      clear hb10
      try unfold FracRes
      rw [HT.out.1]
      clear X0
      go_wp2_with fail
      obtain ⟨WFT, hWFT⟩ : ∃ WFT : World, WFT = w10.alloc (.cells #[.int .i64 (solU (turned g)), .int .i64 (solD (turned g))] 32) := ⟨_, rfl⟩
      have hbWFT : Below w10.heap.size w10 WFT := by rw [hWFT]; exact (Below.refl _ _).alloc (Nat.le_refl _) _
      have FT : Hid (Box2 WFT w10.heap.size (solU (turned g)) (solD (turned g))) := by show Box2 _ _ _ _; rw [hWFT]; exact Box2.new _ _ _
      rw [← hWFT]
      clear hWFT
      replace R0 := Lib.hid (stillRows R0.out hbWFT)
      replace FA := Lib.hid (FA.out.still hbWFT)
      replace TB := Lib.hid (stillRows TB.out hbWFT)
      replace BEL0 := Lib.hid (belT BEL0.out hbWFT)
      clear hbWFT
      refine (I.worth _ _ (backL g) hbl _ TB.out).mono ?_
      rintro e w11 ⟨rfl, hb11⟩
      replace R0 := Lib.hid (stillRows R0.out hb11)
      replace FA := Lib.hid (FA.out.still hb11)
      replace TB := Lib.hid (stillRows TB.out hb11)
      replace FT := Lib.hid (FT.out.still hb11)
      replace BEL0 := Lib.hid (belT BEL0.out hb11)
      clear hb11
      try unfold FracRes
      rw [HK.out.1, HK.out.2.1, HK.out.2.2]
      clear TB
      go_wp2_with fail
      obtain ⟨WFK, hWFK⟩ : ∃ WFK : World, WFK = w11.alloc (.cells #[.int .i64 (solU g), .int .i64 (solD g)] 32) := ⟨_, rfl⟩
      have hbWFK : Below w11.heap.size w11 WFK := by rw [hWFK]; exact (Below.refl _ _).alloc (Nat.le_refl _) _
      have FK : Hid (Box2 WFK w11.heap.size (solU g) (solD g)) := by show Box2 _ _ _ _; rw [hWFK]; exact Box2.new _ _ _
      rw [← hWFK]
      clear hWFK
      replace R0 := Lib.hid (stillRows R0.out hbWFK)
      replace FA := Lib.hid (FA.out.still hbWFK)
      replace FT := Lib.hid (FT.out.still hbWFK)
      replace BEL0 := Lib.hid (belT BEL0.out hbWFK)
      clear hbWFK
      refine (floor_impl _ _ g hl _ R0.out).mono ?_
      rintro e w12 ⟨rfl, hb12⟩
      replace R0 := Lib.hid (stillRows R0.out hb12)
      replace FA := Lib.hid (FA.out.still hb12)
      replace FT := Lib.hid (FT.out.still hb12)
      replace FK := Lib.hid (FK.out.still hb12)
      replace BEL0 := Lib.hid (belT BEL0.out hb12)
      clear hb12
      go_wp2_with fail
      refine (roof_impl _ _ g hl _ R0.out).mono ?_
      rintro e w13 ⟨rfl, hb13⟩
      replace R0 := Lib.hid (stillRows R0.out hb13)
      replace FA := Lib.hid (FA.out.still hb13)
      replace FT := Lib.hid (FT.out.still hb13)
      replace FK := Lib.hid (FK.out.still hb13)
      replace BEL0 := Lib.hid (belT BEL0.out hb13)
      clear hb13
      go_wp2_with fail
      refine (saddles_impl _ _ g hl _ R0.out).mono ?_
      rintro e w20 ⟨AL, cL, rfl, b20, o20⟩
      clear o20
      clear R0
      replace FA := Lib.hid (FA.out.still b20)
      replace FT := Lib.hid (FT.out.still b20)
      replace FK := Lib.hid (FK.out.still b20)
      replace BEL0 := Lib.hid (belT BEL0.out b20)
      clear b20
      have HC : Hid (∀ w, Calls Try.prog 34 #[.agg #[.int .i64 (solU (turned g)), .int .i64 (solD (turned g))]] w fun e w' => e = .returned (.agg #[.int .i64 (solU g), .int .i64 (solD g)]) ∧ Below w.heap.size w w') := fun w => by have := minus_impl (solU (turned g)) (solD (turned g)) w; rwa [HM.out.1, HM.out.2] at this
      have HI := Lib.hid (saddles_iff HGB.out)
      have sFA0 := stays FA.out.lt FA.out.c0
      have sFA1 := stays FA.out.lt FA.out.c1
      have sFT0 := stays FT.out.lt FT.out.c0
      have sFT1 := stays FT.out.lt FT.out.c1
      have sFK0 := stays FK.out.lt FK.out.c0
      have sFK1 := stays FK.out.lt FK.out.c1
      by_cases hfr : floV g = rooV g
      · skip
        have hpos := HI.out.2 hfr
        have zz : decide (0 < (saddles g).length) = true := decide_eq_true (by omega)
        obtain ⟨e1, e2⟩ := sol_saddle HB.out hfr
        have zU : (solU g == solU g) = true := by simp
        have zD : (solD g == solD g) = true := by simp
        have z1 : (solU g == floV g) = true := by simp [e1]
        have z2 : (solD g == 1) = true := by simp [e2]
        have ze : (floV g == rooV g) = true := by simp [hfr]
        clear hpos hfr e1 e2
        go_wp2_with fail
        go_region_held3 (fun w' => Below w20.heap.size w20 w')
          (first | exact Below.refl _ _ | exact Below.drew (Below.refl _ _) | (refine Below.drew ?_; assumption) | exact belT (by assumption) (by assumption) | assumption)
          (first | (go_at_call 34; refine (HC.out _).mono ?_; rintro e w8 ⟨rfl, hb8⟩))
        go_wp2_with fail
        go_ret
        exact ⟨by simp, belT BEL0.out (by assumption)⟩
      · skip
        have hpos : ¬ 0 < (saddles g).length := fun h => hfr (HI.out.1 h)
        have zz : decide (0 < (saddles g).length) = false := decide_eq_false (by omega)
        have ze : (floV g == rooV g) = false := by simp [hfr]
        have zn : (floV g != rooV g) = true := by simp [hfr]
        have zd : decide (floV g = rooV g) = false := by simp [hfr]
        have zU : (solU g == solU g) = true := by simp
        have zD : (solD g == solD g) = true := by simp
        clear hpos hfr
        go_wp2_with fail
        refine wp_region_held_drew (S := fun w' => Below w20.heap.size w20 w') (by kernel_rfl) (by first | exact Below.drew (Below.refl _ _) | exact Below.drew (by assumption)) (fun hHeld => ?_)
        refine wpAnyH_take (i := 0) (v := ?v0) rfl (by kernel_rfl) (by kernel_rfl) (by kernel_rfl) (fun _ _ _ h => h) (Or.inl ⟨by rfl, ?y0⟩) (by assumption) ?z0
        case y0 => (intro w hSw; go_simp; first | done | with_reducible rfl)
        try simp only [List.getElem_toArray, List.getElem_cons_succ, List.getElem_cons_zero, Act.put, List.setIfInBounds_toArray, List.set_cons_zero, List.set_cons_succ]
        refine wpAnyH_take (i := 1) (v := ?v1) rfl (by kernel_rfl) (by kernel_rfl) (by kernel_rfl) (fun _ _ _ h => h) (Or.inl ⟨by rfl, ?y1⟩) (by assumption) ?z1
        case y1 => (intro w hSw; go_simp; first | done | with_reducible rfl)
        try simp only [List.getElem_toArray, List.getElem_cons_succ, List.getElem_cons_zero, Act.put, List.setIfInBounds_toArray, List.set_cons_zero, List.set_cons_succ]
        refine wpAnyH_take (i := 2) (v := ?v2) rfl (by kernel_rfl) (by kernel_rfl) (by kernel_rfl) (fun _ _ _ h => h) (Or.inl ⟨by rfl, ?y2⟩) (by assumption) ?z2
        case y2 => (intro w hSw; go_simp; first | done | with_reducible rfl)
        try simp only [List.getElem_toArray, List.getElem_cons_succ, List.getElem_cons_zero, Act.put, List.setIfInBounds_toArray, List.set_cons_zero, List.set_cons_succ]
        refine wpAnyH_take (i := 4) (v := ?v3) rfl (by kernel_rfl) (by kernel_rfl) (by kernel_rfl) (fun _ _ _ h => h) (Or.inl ⟨by rfl, ?y3⟩) (by assumption) ?z3
        case y3 => (intro w hSw; go_simp; first | done | with_reducible rfl)
        try simp only [List.getElem_toArray, List.getElem_cons_succ, List.getElem_cons_zero, Act.put, List.setIfInBounds_toArray, List.set_cons_zero, List.set_cons_succ]
        refine wpAnyH_ready (rs := [3]) (by kernel_rfl) (by simp) ?_
        refine AllReadyH.cons rfl (fun K hK => ?_) AllReadyH.nil
        go_simp
        (first | (go_at_call 34; refine (HC.out _).mono ?_; rintro e w8 ⟨rfl, hb8⟩))
        refine hK.out _ _ (by first | exact Below.refl _ _ | exact Below.drew (Below.refl _ _) | (refine Below.drew ?_; assumption) | exact belT (by assumption) (by assumption) | assumption) (fun hHeld => ?_)
        clear hK K
        try simp only [List.getElem_toArray, List.getElem_cons_succ, List.getElem_cons_zero, Act.put, List.setIfInBounds_toArray, List.set_cons_zero, List.set_cons_succ]
        refine wpAnyH_take (i := 5) (v := ?v5) rfl (by kernel_rfl) (by kernel_rfl) (by kernel_rfl) (fun _ _ _ h => h) (Or.inl ⟨by rfl, ?y5⟩) (by assumption) ?z5
        case y5 => (intro w hSw; go_simp; first | done | with_reducible rfl)
        try simp only [List.getElem_toArray, List.getElem_cons_succ, List.getElem_cons_zero, Act.put, List.setIfInBounds_toArray, List.set_cons_zero, List.set_cons_succ]
        refine wpAnyH_take (i := 6) (v := ?v6) rfl (by kernel_rfl) (by kernel_rfl) (by kernel_rfl) (fun _ _ _ h => h) (Or.inl ⟨by rfl, ?y6⟩) (by assumption) ?z6
        case y6 => (intro w hSw; go_simp; first | done | with_reducible rfl)
        try simp only [List.getElem_toArray, List.getElem_cons_succ, List.getElem_cons_zero, Act.put, List.setIfInBounds_toArray, List.set_cons_zero, List.set_cons_succ]
        refine wpAnyH_take (i := 7) (v := ?v7) rfl (by kernel_rfl) (by kernel_rfl) (by kernel_rfl) (fun _ _ _ h => h) (Or.inl ⟨by rfl, ?y7⟩) (by assumption) ?z7
        case y7 => (intro w hSw; go_simp; first | done | with_reducible rfl)
        try simp only [List.getElem_toArray, List.getElem_cons_succ, List.getElem_cons_zero, Act.put, List.setIfInBounds_toArray, List.set_cons_zero, List.set_cons_succ]
        refine wpAnyH_take (i := 8) (v := ?v8) rfl (by kernel_rfl) (by kernel_rfl) (by kernel_rfl) (fun _ _ _ h => h) (Or.inl ⟨by rfl, ?y8⟩) (by assumption) ?z8
        case y8 => (intro w hSw; go_simp; first | done | with_reducible rfl)
        try simp only [List.getElem_toArray, List.getElem_cons_succ, List.getElem_cons_zero, Act.put, List.setIfInBounds_toArray, List.set_cons_zero, List.set_cons_succ]
        refine wpAnyH_take (i := 9) (v := ?v9) rfl (by kernel_rfl) (by kernel_rfl) (by kernel_rfl) (fun _ _ _ h => h) (Or.inl ⟨by rfl, ?y9⟩) (by assumption) ?z9
        case y9 => (intro w hSw; go_simp; first | done | with_reducible rfl)
        try simp only [List.getElem_toArray, List.getElem_cons_succ, List.getElem_cons_zero, Act.put, List.setIfInBounds_toArray, List.set_cons_zero, List.set_cons_succ]
        refine wpAnyH_take (i := 10) (v := ?v10) rfl (by kernel_rfl) (by kernel_rfl) (by kernel_rfl) (fun _ _ _ h => h) (Or.inl ⟨by rfl, ?y10⟩) (by assumption) ?z10
        case y10 => (intro w hSw; go_simp; first | done | with_reducible rfl)
        try simp only [List.getElem_toArray, List.getElem_cons_succ, List.getElem_cons_zero, Act.put, List.setIfInBounds_toArray, List.set_cons_zero, List.set_cons_succ]
        refine wpAnyH_take (i := 11) (v := ?v11) rfl (by kernel_rfl) (by kernel_rfl) (by kernel_rfl) (fun _ _ _ h => h) (Or.inl ⟨by rfl, ?y11⟩) (by assumption) ?z11
        case y11 => (intro w hSw; go_simp; first | done | with_reducible rfl)
        try simp only [List.getElem_toArray, List.getElem_cons_succ, List.getElem_cons_zero, Act.put, List.setIfInBounds_toArray, List.set_cons_zero, List.set_cons_succ]
        refine wpAnyH_take (i := 12) (v := ?v12) rfl (by kernel_rfl) (by kernel_rfl) (by kernel_rfl) (fun _ _ _ h => h) (Or.inl ⟨by rfl, ?y12⟩) (by assumption) ?z12
        case y12 => (intro w hSw; go_simp; first | done | with_reducible rfl)
        try simp only [List.getElem_toArray, List.getElem_cons_succ, List.getElem_cons_zero, Act.put, List.setIfInBounds_toArray, List.set_cons_zero, List.set_cons_succ]
        refine wpAnyH_take (i := 13) (v := ?v13) rfl (by kernel_rfl) (by kernel_rfl) (by kernel_rfl) (fun _ _ _ h => h) (Or.inl ⟨by rfl, ?y13⟩) (by assumption) ?z13
        case y13 => (intro w hSw; go_simp; first | done | with_reducible rfl)
        try simp only [List.getElem_toArray, List.getElem_cons_succ, List.getElem_cons_zero, Act.put, List.setIfInBounds_toArray, List.set_cons_zero, List.set_cons_succ]
        refine wpAnyH_take (i := 14) (v := ?v14) rfl (by kernel_rfl) (by kernel_rfl) (by kernel_rfl) (fun _ _ _ h => h) (Or.inl ⟨by rfl, ?y14⟩) (by assumption) ?z14
        case y14 => (intro w hSw; go_simp; first | done | with_reducible rfl)
        try simp only [List.getElem_toArray, List.getElem_cons_succ, List.getElem_cons_zero, Act.put, List.setIfInBounds_toArray, List.set_cons_zero, List.set_cons_succ]
        refine wpAnyH_take (i := 15) (v := ?v15) rfl (by kernel_rfl) (by kernel_rfl) (by kernel_rfl) (fun _ _ _ h => h) (Or.inl ⟨by rfl, ?y15⟩) (by assumption) ?z15
        case y15 => (intro w hSw; go_simp; first | done | with_reducible rfl)
        try simp only [List.getElem_toArray, List.getElem_cons_succ, List.getElem_cons_zero, Act.put, List.setIfInBounds_toArray, List.set_cons_zero, List.set_cons_succ]
        refine wpAnyH_take (i := 16) (v := ?v16) rfl (by kernel_rfl) (by kernel_rfl) (by kernel_rfl) (fun _ _ _ h => h) (Or.inl ⟨by rfl, ?y16⟩) (by assumption) ?z16
        case y16 => (intro w hSw; go_simp; first | done | with_reducible rfl)
        try simp only [List.getElem_toArray, List.getElem_cons_succ, List.getElem_cons_zero, Act.put, List.setIfInBounds_toArray, List.set_cons_zero, List.set_cons_succ]
        refine wpAnyH_take (i := 17) (v := ?v17) rfl (by kernel_rfl) (by kernel_rfl) (by kernel_rfl) (fun _ _ _ h => h) (Or.inl ⟨by rfl, ?y17⟩) (by assumption) ?z17
        case y17 => (intro w hSw; go_simp; first | done | with_reducible rfl)
        try simp only [List.getElem_toArray, List.getElem_cons_succ, List.getElem_cons_zero, Act.put, List.setIfInBounds_toArray, List.set_cons_zero, List.set_cons_succ]
        refine wpAnyH_take (i := 18) (v := ?v18) rfl (by kernel_rfl) (by kernel_rfl) (by kernel_rfl) (fun _ _ _ h => h) (Or.inl ⟨by rfl, ?y18⟩) (by assumption) ?z18
        case y18 => (intro w hSw; go_simp; first | done | with_reducible rfl)
        try simp only [List.getElem_toArray, List.getElem_cons_succ, List.getElem_cons_zero, Act.put, List.setIfInBounds_toArray, List.set_cons_zero, List.set_cons_succ]
        refine wpAnyH_take (i := 19) (v := ?v19) rfl (by kernel_rfl) (by kernel_rfl) (by kernel_rfl) (fun _ _ _ h => h) (Or.inl ⟨by rfl, ?y19⟩) (by assumption) ?z19
        case y19 => (intro w hSw; go_simp; first | done | with_reducible rfl)
        try simp only [List.getElem_toArray, List.getElem_cons_succ, List.getElem_cons_zero, Act.put, List.setIfInBounds_toArray, List.set_cons_zero, List.set_cons_succ]
        refine wpAnyH_take (i := 20) (v := ?v20) rfl (by kernel_rfl) (by kernel_rfl) (by kernel_rfl) (fun _ _ _ h => h) (Or.inl ⟨by rfl, ?y20⟩) (by assumption) ?z20
        case y20 => (intro w hSw; go_simp; first | done | with_reducible rfl)
        try simp only [List.getElem_toArray, List.getElem_cons_succ, List.getElem_cons_zero, Act.put, List.setIfInBounds_toArray, List.set_cons_zero, List.set_cons_succ]
        refine wpAnyH_take (i := 21) (v := ?v21) rfl (by kernel_rfl) (by kernel_rfl) (by kernel_rfl) (fun _ _ _ h => h) (Or.inl ⟨by rfl, ?y21⟩) (by assumption) ?z21
        case y21 => (intro w hSw; go_simp; first | done | with_reducible rfl)
        try simp only [List.getElem_toArray, List.getElem_cons_succ, List.getElem_cons_zero, Act.put, List.setIfInBounds_toArray, List.set_cons_zero, List.set_cons_succ]
        refine wpAnyH_take (i := 22) (v := ?v22) rfl (by kernel_rfl) (by kernel_rfl) (by kernel_rfl) (fun _ _ _ h => h) (Or.inl ⟨by rfl, ?y22⟩) (by assumption) ?z22
        case y22 => (intro w hSw; go_simp; first | done | with_reducible rfl)
        try simp only [List.getElem_toArray, List.getElem_cons_succ, List.getElem_cons_zero, Act.put, List.setIfInBounds_toArray, List.set_cons_zero, List.set_cons_succ]
        refine wpAnyH_take (i := 23) (v := ?v23) rfl (by kernel_rfl) (by kernel_rfl) (by kernel_rfl) (fun _ _ _ h => h) (Or.inl ⟨by rfl, ?y23⟩) (by assumption) ?z23
        case y23 => (intro w hSw; go_simp; first | done | with_reducible rfl)
        try simp only [List.getElem_toArray, List.getElem_cons_succ, List.getElem_cons_zero, Act.put, List.setIfInBounds_toArray, List.set_cons_zero, List.set_cons_succ]
        refine wpAnyH_take (i := 24) (v := ?v24) rfl (by kernel_rfl) (by kernel_rfl) (by kernel_rfl) (fun _ _ _ h => h) (Or.inl ⟨by rfl, ?y24⟩) (by assumption) ?z24
        case y24 => (intro w hSw; go_simp; first | done | with_reducible rfl)
        try simp only [List.getElem_toArray, List.getElem_cons_succ, List.getElem_cons_zero, Act.put, List.setIfInBounds_toArray, List.set_cons_zero, List.set_cons_succ]
        refine wpAnyH_take (i := 25) (v := ?v25) rfl (by kernel_rfl) (by kernel_rfl) (by kernel_rfl) (fun _ _ _ h => h) (Or.inl ⟨by rfl, ?y25⟩) (by assumption) ?z25
        case y25 => (intro w hSw; go_simp; first | done | with_reducible rfl)
        try simp only [List.getElem_toArray, List.getElem_cons_succ, List.getElem_cons_zero, Act.put, List.setIfInBounds_toArray, List.set_cons_zero, List.set_cons_succ]
        refine wpAnyH_take (i := 26) rfl (by kernel_rfl) (by kernel_rfl) (by kernel_rfl) (fun _ _ _ h => h) (Or.inr ⟨by rfl, rfl⟩) (by assumption) ?_
        try simp only [List.getElem_toArray, List.getElem_cons_succ, List.getElem_cons_zero, Act.put, List.setIfInBounds_toArray, List.set_cons_zero, List.set_cons_succ]
        refine wpAnyH_take (i := 27) rfl (by kernel_rfl) (by kernel_rfl) (by kernel_rfl) (fun _ _ _ h => h) (Or.inr ⟨by rfl, rfl⟩) (by assumption) ?_
        try simp only [List.getElem_toArray, List.getElem_cons_succ, List.getElem_cons_zero, Act.put, List.setIfInBounds_toArray, List.set_cons_zero, List.set_cons_succ]
        refine wpAnyH_take (i := 28) rfl (by kernel_rfl) (by kernel_rfl) (by kernel_rfl) (fun _ _ _ h => h) (Or.inr ⟨by rfl, rfl⟩) (by assumption) ?_
        try simp only [List.getElem_toArray, List.getElem_cons_succ, List.getElem_cons_zero, Act.put, List.setIfInBounds_toArray, List.set_cons_zero, List.set_cons_succ]
        refine wpAnyH_take (i := 29) rfl (by kernel_rfl) (by kernel_rfl) (by kernel_rfl) (fun _ _ _ h => h) (Or.inr ⟨by rfl, rfl⟩) (by assumption) ?_
        try simp only [List.getElem_toArray, List.getElem_cons_succ, List.getElem_cons_zero, Act.put, List.setIfInBounds_toArray, List.set_cons_zero, List.set_cons_succ]
        refine wpAnyH_take (i := 30) (v := ?v30) rfl (by kernel_rfl) (by kernel_rfl) (by kernel_rfl) (fun _ _ _ h => h) (Or.inl ⟨by rfl, ?y30⟩) (by assumption) ?z30
        case y30 => (intro w hSw; go_simp; first | done | with_reducible rfl)
        try simp only [List.getElem_toArray, List.getElem_cons_succ, List.getElem_cons_zero, Act.put, List.setIfInBounds_toArray, List.set_cons_zero, List.set_cons_succ]
        refine wpAnyH_take (i := 31) (v := ?v31) rfl (by kernel_rfl) (by kernel_rfl) (by kernel_rfl) (fun _ _ _ h => h) (Or.inl ⟨by rfl, ?y31⟩) (by assumption) ?z31
        case y31 => (intro w hSw; go_simp; first | done | with_reducible rfl)
        try simp only [List.getElem_toArray, List.getElem_cons_succ, List.getElem_cons_zero, Act.put, List.setIfInBounds_toArray, List.set_cons_zero, List.set_cons_succ]
        refine wpAnyH_take (i := 32) (v := ?v32) rfl (by kernel_rfl) (by kernel_rfl) (by kernel_rfl) (fun _ _ _ h => h) (Or.inl ⟨by rfl, ?y32⟩) (by assumption) ?z32
        case y32 => (intro w hSw; go_simp; first | done | with_reducible rfl)
        try simp only [List.getElem_toArray, List.getElem_cons_succ, List.getElem_cons_zero, Act.put, List.setIfInBounds_toArray, List.set_cons_zero, List.set_cons_succ]
        refine wpAnyH_done (by kernel_rfl) ?_ _
        go_wp2_with fail
        go_ret
        exact ⟨by simp, belT BEL0.out (by assumption)⟩

end Go.Proofs.Ytgjbahlebhnoiaa
