/- Texts in one: ExactJa, ExactJb, ExactJc. -/
import Derived.Test.YtlkjpmdnhccdpabQD
import Derived.Test.YtlkjpmdnhccdpabMG
namespace Go.Proofs.Ytlkjpmdnhccdpab
set_option linter.unusedSimpArgs false
set_option linter.unusedVariables false
open Go.RowKit

/-- what is asked of the program's functions on desks -/
structure Impl12 : Prop where
  laid : ∀ (A : Option Addr) (c : Nat) (g : List (List Int)) (_ : g.length ≤ maxLen) (w : World) (_ : Rows2 w (fun b => b < w.heap.size) A g), Calls Try.prog 21 #[.slice A g.length c] w (Adds (.bool (laidB g)) w)
  ok : ∀ (A B : Option Addr) (c k : Nat) (d : Dk) (_ : d.now.length ≤ maxLen) (_ : d.past.length ≤ maxLen) (w : World) (_ : Rows2 w (fun b => b < w.heap.size) A d.now) (_ : Rows3 w (fun b => b < w.heap.size) B d.past), Calls Try.prog 24 #[dskV A d.now.length c B d.past.length k] w (Adds (.bool (dkB d)) w)
  new : ∀ (A : Option Addr) (c : Nat) (g : List (List Int)) (_ : g.length ≤ maxLen) (w : World) (_ : Rows2 w (fun b => b < w.heap.size) A g), Calls Try.prog 26 #[.slice A g.length c] w (DeskRes w (newD g) (.bool (laidB g)))

/-- a desk's rows are short -/
structure ShortD (d : Dk) : Prop where
  now : ∀ i, i < d.now.length → (rowAt d.now i).length ≤ 4294967296
  past : ∀ i j, i < d.past.length → j < (tabAt d.past i).length → (rowAt (tabAt d.past i) j).length ≤ 4294967296

theorem SmallD.short {d : Dk} (h : SmallD d) : ShortD d := by
  have hz := h.size
  unfold sizeD at hz
  refine ⟨fun i hi => ?_, fun i j hi hj => ?_⟩
  · have := row_le_sumN d.now hi; omega
  · have := row_le_sumN (tabAt d.past i) hj
    have := tab_le_sumP d.past hi
    omega

theorem OwnDk.two {w : World} {lo : Nat} {TN TP : Option Addr} {d : Dk} {A : Nat → Nat → Option Addr} {C : Nat → Nat → Nat} {TT : Nat → Option Addr} {CC : Nat → Nat} (h : OwnDk w lo w.heap.size TN TP d A C TT CC) : Rows2 w (· < w.heap.size) TN d.now ∧ Rows3 w (· < w.heap.size) TP d.past :=
  ⟨h.rows2.mono fun b hb => hb.2, h.rows3.mono fun b hb => hb.2⟩

theorem stillDk {w w' : World} {A B : Option Addr} {d : Dk} (h : Rows2 w (· < w.heap.size) A d.now ∧ Rows3 w (· < w.heap.size) B d.past) (hb : Below w.heap.size w w') : Rows2 w' (· < w'.heap.size) A d.now ∧ Rows3 w' (· < w'.heap.size) B d.past :=
  ⟨(keepRows hb h.1).lt hb.size, stillTabs h.2 hb⟩

set_option maxHeartbeats 4000000 in
set_option maxRecDepth 100000 in
theorem wFnExactDeskOk (I : Impl12) (A B : Option Addr) (c k : Nat) (d : Dk) (hx : d.now.length ≤ maxLen) (hy : d.past.length ≤ maxLen) (w : World) (h : Rows2 w (· < w.heap.size) A d.now) (h' : Rows3 w (· < w.heap.size) B d.past) :
    Calls Try.prog 5 #[dskV A d.now.length c B d.past.length k] w (Adds (.bool true) w) := by
  have R := Lib.hid (And.intro h h')
  have zB : (dkB d != dkB d) = false := by simp
  have HSZ := Lib.hid (szDesk_c A B c k d 1048576 hx hy (by omega) (by omega))
  unfold dskV
  clear h h'
  obtain ⟨W, hW⟩ : ∃ W, W = w.alloc (.cells #[.slice A d.now.length c, .slice B d.past.length k] 25) := ⟨_, rfl⟩
  have hbW : Below w.heap.size w W := by rw [hW]; exact (Below.refl _ _).alloc (Nat.le_refl _) _
  have HS0 := Lib.hid (stays (W := W) (p := w.heap.size) (o := 0) (by rw [hW]; simp) (show W.cell? ⟨w.heap.size, 0, none⟩ = some (.slice A d.now.length c) from by rw [hW]; simp [go_sem]))
  have HS1 := Lib.hid (stays (W := W) (p := w.heap.size) (o := 1) (by rw [hW]; simp) (show W.cell? ⟨w.heap.size, 1, none⟩ = some (.slice B d.past.length k) from by rw [hW]; simp [go_sem]))
  have HBW := Lib.hid hbW
  have HzW : Hid (w.heap.size < W.heap.size) := by show _ < _; rw [hW]; simp
  have RW := Lib.hid (stillDk R.out hbW)
  have c0 := HS0.out W (Below.refl _ _)
  have c1 := HS1.out W (Below.refl _ _)
  clear hbW
  go_enter Try.func5, Try.ntmps5
  go_wp2_with fail
  rw [← hW]
  clear hW
  refine (HSZ.out W RW.out.1 RW.out.2).mono ?_
  rintro e w1 ⟨r, rfl, hb1, hr⟩
  by_cases hz : r < 0
  · clear hr
    go_wp2_with fail
    go_ret
    exact Adds.of rfl (HBW.out.trans (hb1.mono HBW.out.size))
  have HD := Lib.hid (SizedD.small (d := d) (left := 1048576) (r := r) (by omega) (by omega) (by omega))
  clear hr HSZ
  have HW1 := Lib.hid hb1
  replace R := Lib.hid (stillDk RW.out hb1)
  have c0 := HS0.out w1 hb1
  have c1 := HS1.out w1 hb1
  clear hb1 RW
  go_wp2_with fail
  refine (toDesk_c A B c k d HD.out HD.out.short.now HD.out.short.past w1 R.out.1 R.out.2).mono ?_
  rintro e w2 ⟨v2, rfl, TN1, cN1, TP1, cP1, AA1, CC1, TT1, UU1, rfl, hb2, ho2⟩
  clear c0 c1
  have X1 := Lib.hid (ho2.more (lo' := 0) (Nat.zero_le _) (Nat.le_refl _)).two
  clear ho2
  have HW2 := Lib.hid (HW1.out.trans (hb2.mono HW1.out.size))
  replace R := Lib.hid (stillDk R.out hb2)
  have c0 := HS0.out w2 HW2.out
  have c1 := HS1.out w2 HW2.out
  clear hb2
  go_wp2_with fail
  refine (deskOk_spec TN1 TP1 cN1 cP1 d hx hy w2 X1.out.1 X1.out.2).mono ?_
  rintro e w3 ⟨rfl, hb3⟩
  clear X1 c0 c1
  have HW3 := Lib.hid (HW2.out.trans (hb3.mono HW2.out.size))
  replace R := Lib.hid (stillDk R.out hb3)
  have c0 := HS0.out w3 HW3.out
  have c1 := HS1.out w3 HW3.out
  clear hb3
  go_wp2_with fail
  refine (toDesk_c A B c k d HD.out HD.out.short.now HD.out.short.past w3 R.out.1 R.out.2).mono ?_
  rintro e w4 ⟨v4, rfl, TN2, cN2, TP2, cP2, AA2, CC2, TT2, UU2, rfl, hb4, ho4⟩
  clear c0 c1
  have X2 := Lib.hid (ho4.more (lo' := 0) (Nat.zero_le _) (Nat.le_refl _)).two
  clear ho4
  have HW4 := Lib.hid (HW3.out.trans (hb4.mono HW3.out.size))
  replace R := Lib.hid (stillDk R.out hb4)
  have c0 := HS0.out w4 HW4.out
  have c1 := HS1.out w4 HW4.out
  clear hb4
  obtain ⟨w5, hw5, hB5, hb5, _⟩ := dsk_world w4 (.slice TN2 d.now.length cN2) (.slice TP2 d.past.length cP2)
  have BX := Lib.hid hB5
  clear hB5
  go_wp2_with fail
  rw [← hw5]
  clear hw5 c0 c1
  have HW5 := Lib.hid (HW4.out.trans (hb5.mono HW4.out.size))
  replace R := Lib.hid (stillDk R.out hb5)
  replace X2 := Lib.hid (stillDk X2.out hb5)
  have c0 := HS0.out w5 HW5.out
  have c1 := HS1.out w5 HW5.out
  clear hb5
  refine (I.ok TN2 TP2 cN2 cP2 d hx hy w5 X2.out.1 X2.out.2).mono ?_
  rintro e w6 ⟨rfl, hb6⟩
  replace BX := Lib.hid (BX.out.still hb6)
  clear c0 c1
  have HW6 := Lib.hid (HW5.out.trans (hb6.mono HW5.out.size))
  replace R := Lib.hid (stillDk R.out hb6)
  replace X2 := Lib.hid (stillDk X2.out hb6)
  have c0 := HS0.out w6 HW6.out
  have c1 := HS1.out w6 HW6.out
  clear hb6
  have sX0 := stays BX.out.lt BX.out.c0
  have sX1 := stays BX.out.lt BX.out.c1
  have lw6 : w.heap.size < w6.heap.size := Nat.lt_of_lt_of_le HzW.out HW6.out.size
  have sY0 := stays (W := w6) (p := w.heap.size) (o := 0) lw6 c0
  have sY1 := stays (W := w6) (p := w.heap.size) (o := 1) lw6 c1
  clear c0 c1
  go_wp2_with fail
  go_region_held3 (fun w' => Below w6.heap.size w6 w')
    (first | exact Below.refl _ _ | exact Below.drew (Below.refl _ _) | (refine Below.drew ?_; assumption) | exact belT (by assumption) (by assumption) | assumption)
    (first
      | (go_at_call 10; refine (toDesk_c A B c k d HD.out HD.out.short.now HD.out.short.past _ (stillDk R.out (by first | exact Below.refl _ _ | exact Below.drew (Below.refl _ _) | assumption)).1 (stillDk R.out (by first | exact Below.refl _ _ | exact Below.drew (Below.refl _ _) | assumption)).2).mono ?_; rintro e w7 ⟨v7, rfl, TN7, cN7, TP7, cP7, AA7, CC7, TT7, UU7, rfl, hb7, ho7⟩
         have hk7 : Below w6.heap.size w6 w7 := belT (by first | exact Below.refl _ _ | exact Below.drew (Below.refl _ _) | assumption) hb7)
      | (go_at_call 13; refine (eqDesk_same TN2 TP2 TN7 TP7 cN2 cP2 cN7 cP7 d hx hy w7 (stillDk X2.out hk7).1 (stillDk X2.out hk7).2 (ho7.more (lo' := 0) (Nat.zero_le _) (Nat.le_refl _)).two.1 (ho7.more (lo' := 0) (Nat.zero_le _) (Nat.le_refl _)).two.2).mono ?_; rintro e w8 ⟨rfl, hb8⟩))
  go_wp2_with fail
  go_ret
  exact Adds.of rfl (belT (HBW.out.trans (HW6.out.mono HBW.out.size)) (by assumption))

end Go.Proofs.Ytlkjpmdnhccdpab

namespace Go.Proofs.Ytlkjpmdnhccdpab
set_option linter.unusedSimpArgs false
set_option linter.unusedVariables false
open Go.RowKit

/-- a desk as it is read below a block -/
structure RdD (w : World) (B : Nat) (TN TP : Option Addr) (d : Dk) : Prop where
  n : Rows2 w (· < B) TN d.now
  p : Rows3 w (· < B) TP d.past

theorem RdD.lt {w : World} {B B' : Nat} {TN TP : Option Addr} {d : Dk} (h : RdD w B TN TP d) (hB : B ≤ B') : RdD w B' TN TP d := ⟨h.n.lt hB, h.p.lt hB⟩

theorem keepDk {w w' : World} {B : Nat} {TN TP : Option Addr} {d : Dk} (hb : Below B w w') (h : RdD w B TN TP d) : RdD w' B TN TP d := ⟨keepRows hb h.n, keepTabs hb h.p⟩

theorem OwnDk.below {w w' : World} {lo hi : Nat} {TN TP : Option Addr} {d : Dk} {A : Nat → Nat → Option Addr} {C : Nat → Nat → Nat} {TT : Nat → Option Addr} {CC : Nat → Nat} (h : OwnDk w lo hi TN TP d A C TT CC) (hb : Below hi w w') : OwnDk w' lo hi TN TP d A C TT CC := h.keep fun b _ h2 => hb.block b h2

theorem OwnDk.off {w w' : World} {lo hi lo' hi' : Nat} {TN TP : Option Addr} {d : Dk} {A : Nat → Nat → Option Addr} {C : Nat → Nat → Nat} {TT : Nat → Option Addr} {CC : Nat → Nat} (h : OwnDk w lo hi TN TP d A C TT CC) (ho : Off lo' hi' w w') (hd : hi ≤ lo' ∨ hi' ≤ lo) : OwnDk w' lo hi TN TP d A C TT CC := h.keep fun b h1 h2 => ho.block b (by omega)

theorem OwnDk.lt {w : World} {lo hi : Nat} {TN TP : Option Addr} {d : Dk} {A : Nat → Nat → Option Addr} {C : Nat → Nat → Nat} {TT : Nat → Option Addr} {CC : Nat → Nat} (h : OwnDk w lo hi TN TP d A C TT CC) : RdD w hi TN TP d := ⟨h.rows2.mono fun _ h => h.2, h.rows3.mono fun _ h => h.2⟩

theorem laid_small {g : List (List Int)} (h : laidB g = true) : g.length ≤ 4 ∧ sumN g g.length ≤ 16 := by
  obtain ⟨h1, h2, h3⟩ := laid_iff.1 h
  have := sumN_le g 4 g.length (fun i hi => by rw [(Game.of h1).len i hi]; exact h3)
  omega

theorem small_ok {d : Dk} (h : dkB d = true) : SmallD d := by
  obtain ⟨h1, h2, h3⟩ := dkB_iff.1 h
  have hn := laid_small h2
  have hp : ∀ m, m ≤ d.past.length → sumP d.past m ≤ 16 * m := fun m => by
    induction m with
    | zero => intro _; simp [sumP]
    | succ m ih =>
      intro hm
      have := ih (by omega)
      have := (laid_small (pastB_at.1 h1 m (by omega))).2
      simp only [sumP]; omega
  have := hp _ (Nat.le_refl _)
  exact ⟨by omega, by omega, fun i hi => by have := (laid_small (pastB_at.1 h1 i hi)).1; omega, by unfold sizeD; omega⟩

theorem small_zero : SmallD dkZero := ⟨by simp [dkZero], by simp [dkZero], fun i hi => absurd hi (by simp [dkZero]), by simp [sizeD, dkZero, sumN, sumP]⟩

theorem newD_small (g : List (List Int)) : SmallD (newD g) := by
  rcases h : laidB g with _ | _
  · rw [newD_no h]; exact small_zero
  · exact small_ok (newD_ok h)

set_option maxHeartbeats 4000000 in
set_option maxRecDepth 100000 in
theorem wFnExactDeskNew (I : Impl12) (A0 : Option Addr) (c0 : Nat) (x0 : List (List Int)) (l0 : x0.length ≤ maxLen) (w : World) (r0 : Rows2 w (· < w.heap.size) A0 x0) :
    Calls Try.prog 6 #[.slice A0 x0.length c0] w (Adds (.bool true) w) := by
  have R0 := Lib.hid r0
  clear r0
  have le_w : w.heap.size ≤ w.heap.size := Nat.le_refl _
  have HSD := Lib.hid (newD_small x0)
  have HL1 : Hid ((newD x0).now.length ≤ maxLen) := by have := HSD.out.now; show _ ≤ _; unfold maxLen; omega
  have HL2 : Hid ((newD x0).past.length ≤ maxLen) := by have := HSD.out.past; show _ ≤ _; unfold maxLen; omega
  have zB : (laidB x0 != laidB x0) = false := by simp
  go_enter Try.func6, Try.ntmps6
  go_wp2_with fail
  refine (szIntSS A0 c0 x0 _ 1048576 l0 (by omega) (by omega) _ R0.out).mono ?_
  rintro e wz ⟨q0, rfl, rfl, hq0⟩
  by_cases hz0 : q0 < 0
  · clear hq0
    go_wp2_with fail
    go_ret
    exact Adds.of rfl (Below.refl _ _)
  have hsum0 : (x0.length : Int) + (sumN x0 x0.length : Nat) ≤ 1048576 := by omega
  have hm0 : ∀ i, i < x0.length → (rowAt x0 i).length ≤ 4294967296 := fun i hi => by have := row_le_sumN x0 hi; omega
  have hmm0 : ∀ i, i < x0.length → (rowAt x0 i).length ≤ maxLen := fun i hi => by have := hm0 i hi; unfold maxLen; omega
  have HM0 := Lib.hid hm0
  have HN0 := Lib.hid hmm0
  have t0 : x0.length ≤ 4294967296 := by omega
  have st0 : sumN x0 x0.length ≤ 1048576 := by omega
  clear hq0 hsum0 hm0 hmm0
  go_wp2_with fail
  refine (toIntSS A0 c0 x0 t0 HM0.out _ (Lib.hid (R0.out.lt le_w)).out).mono ?_
  rintro e w1 ⟨rfl, hL1⟩
  have S0 := Lib.hid (Laid.own hL1 HN0.out)
  have hb1 := NewRows.bel hL1
  replace R0 := Lib.hid (keepRows (hb1.mono le_w) R0.out)
  replace le_w := Nat.le_trans le_w hb1.size
  have BEL0 := Lib.hid hb1
  have o_w_w1 : w.heap.size ≤ w1.heap.size := le_w
  have le_w1 : w1.heap.size ≤ w1.heap.size := Nat.le_refl _
  clear hb1 hL1
  go_wp2_with fail
  refine (deskNew_spec _ _ x0 l0 _ (S0.out.lt.lt le_w1)).mono ?_
  rintro e w2 ⟨TV1, cV1, TV2, cV2, AV, CV, UV, KV, rfl, hb2, ho2⟩
  unfold dskV
  have V := Lib.hid ho2.lt
  replace S0 := Lib.hid (S0.out.below (hb2.mono le_w1))
  replace R0 := Lib.hid (keepRows (hb2.mono le_w) R0.out)
  replace le_w := Nat.le_trans le_w hb2.size
  replace le_w1 := Nat.le_trans le_w1 hb2.size
  replace BEL0 := Lib.hid (belT BEL0.out hb2)
  have o_w1_w2 : w1.heap.size ≤ w2.heap.size := le_w1
  have le_w2 : w2.heap.size ≤ w2.heap.size := Nat.le_refl _
  clear hb2 ho2
  clear S0
  go_wp2_with fail
  obtain ⟨WBV, hWBV⟩ : ∃ WBV : World, WBV = w2.alloc (.cells #[.slice TV1 (newD x0).now.length cV1, .slice TV2 (newD x0).past.length cV2] 29) := ⟨_, rfl⟩
  have hbWBV : Below w2.heap.size w2 WBV := by rw [hWBV]; exact (Below.refl _ _).alloc (Nat.le_refl _) _
  have BV : Hid (BoxD WBV w2.heap.size (.slice TV1 (newD x0).now.length cV1) (.slice TV2 (newD x0).past.length cV2)) := by show BoxD _ _ _ _; rw [hWBV]; exact BoxD.new _ _ _
  have bzBV : w2.heap.size < WBV.heap.size := by rw [hWBV]; simp
  rw [← hWBV]
  clear hWBV
  replace R0 := Lib.hid (keepRows (hbWBV.mono le_w) R0.out)
  replace V := Lib.hid (keepDk (hbWBV.mono le_w2) V.out)
  replace le_w := Nat.le_trans le_w hbWBV.size
  replace le_w1 := Nat.le_trans le_w1 hbWBV.size
  replace le_w2 := Nat.le_trans le_w2 hbWBV.size
  replace BEL0 := Lib.hid (belT BEL0.out hbWBV)
  have o_w2_WBV : w2.heap.size ≤ WBV.heap.size := le_w2
  have le_WBV : WBV.heap.size ≤ WBV.heap.size := Nat.le_refl _
  clear hbWBV
  go_wp2_with fail
  refine (toIntSS A0 c0 x0 t0 HM0.out _ (Lib.hid (R0.out.lt le_w)).out).mono ?_
  rintro e w3 ⟨rfl, hL3⟩
  have X0 := Lib.hid (Laid.own hL3 HN0.out)
  have hb3 := NewRows.bel hL3
  replace BV := Lib.hid (BV.out.still hb3)
  replace R0 := Lib.hid (keepRows (hb3.mono le_w) R0.out)
  replace V := Lib.hid (keepDk (hb3.mono le_w2) V.out)
  replace le_w := Nat.le_trans le_w hb3.size
  replace le_w1 := Nat.le_trans le_w1 hb3.size
  replace le_w2 := Nat.le_trans le_w2 hb3.size
  replace le_WBV := Nat.le_trans le_WBV hb3.size
  replace BEL0 := Lib.hid (belT BEL0.out hb3)
  have o_WBV_w3 : WBV.heap.size ≤ w3.heap.size := le_WBV
  have le_w3 : w3.heap.size ≤ w3.heap.size := Nat.le_refl _
  clear hb3 hL3
  go_wp2_with fail
  refine (I.new _ _ x0 l0 _ (X0.out.lt.lt le_w3)).mono ?_
  rintro e w4 ⟨TG1, cG1, TG2, cG2, AG, CG, UG, KG, rfl, hb4, ho4⟩
  unfold dskV
  have G := Lib.hid ho4
  replace BV := Lib.hid (BV.out.still hb4)
  replace X0 := Lib.hid (X0.out.below (hb4.mono le_w3))
  replace R0 := Lib.hid (keepRows (hb4.mono le_w) R0.out)
  replace V := Lib.hid (keepDk (hb4.mono le_w2) V.out)
  replace le_w := Nat.le_trans le_w hb4.size
  replace le_w1 := Nat.le_trans le_w1 hb4.size
  replace le_w2 := Nat.le_trans le_w2 hb4.size
  replace le_WBV := Nat.le_trans le_WBV hb4.size
  replace le_w3 := Nat.le_trans le_w3 hb4.size
  replace BEL0 := Lib.hid (belT BEL0.out hb4)
  have o_w3_w4 : w3.heap.size ≤ w4.heap.size := le_w3
  have le_w4 : w4.heap.size ≤ w4.heap.size := Nat.le_refl _
  clear hb4 ho4
  have cBV0 := BV.out.c0
  have cBV1 := BV.out.c1
  have ltBV := BV.out.lt
  go_wp2_with fail
  obtain ⟨WBG, hWBG⟩ : ∃ WBG : World, WBG = w4.alloc (.cells #[.slice TG1 (newD x0).now.length cG1, .slice TG2 (newD x0).past.length cG2] 29) := ⟨_, rfl⟩
  have hbWBG : Below w4.heap.size w4 WBG := by rw [hWBG]; exact (Below.refl _ _).alloc (Nat.le_refl _) _
  have BG : Hid (BoxD WBG w4.heap.size (.slice TG1 (newD x0).now.length cG1) (.slice TG2 (newD x0).past.length cG2)) := by show BoxD _ _ _ _; rw [hWBG]; exact BoxD.new _ _ _
  have bzBG : w4.heap.size < WBG.heap.size := by rw [hWBG]; simp
  rw [← hWBG]
  clear hWBG
  replace BV := Lib.hid (BV.out.still hbWBG)
  replace X0 := Lib.hid (X0.out.below (hbWBG.mono le_w3))
  replace G := Lib.hid (G.out.below (hbWBG.mono le_w4))
  replace R0 := Lib.hid (keepRows (hbWBG.mono le_w) R0.out)
  replace V := Lib.hid (keepDk (hbWBG.mono le_w2) V.out)
  replace le_w := Nat.le_trans le_w hbWBG.size
  replace le_w1 := Nat.le_trans le_w1 hbWBG.size
  replace le_w2 := Nat.le_trans le_w2 hbWBG.size
  replace le_WBV := Nat.le_trans le_WBV hbWBG.size
  replace le_w3 := Nat.le_trans le_w3 hbWBG.size
  replace le_w4 := Nat.le_trans le_w4 hbWBG.size
  replace BEL0 := Lib.hid (belT BEL0.out hbWBG)
  have o_w4_WBG : w4.heap.size ≤ WBG.heap.size := le_w4
  have le_WBG : WBG.heap.size ≤ WBG.heap.size := Nat.le_refl _
  clear hbWBG
  clear cBV0 cBV1 ltBV
  have cBG0 := BG.out.c0
  have cBG1 := BG.out.c1
  have ltBG := BG.out.lt
  have cBV0 := BV.out.c0
  have cBV1 := BV.out.c1
  have ltBV := BV.out.lt
  go_wp2_with fail
  refine (eqDesk_same _ _ _ _ _ _ _ _ (newD x0) HL1.out HL2.out _ (G.out.lt.lt le_w4).n (G.out.lt.lt le_w4).p (V.out.lt le_w2).n (V.out.lt le_w2).p).mono ?_
  rintro e w5 ⟨rfl, hb5⟩
  replace BV := Lib.hid (BV.out.still hb5)
  replace BG := Lib.hid (BG.out.still hb5)
  replace X0 := Lib.hid (X0.out.below (hb5.mono le_w3))
  replace G := Lib.hid (G.out.below (hb5.mono le_w4))
  replace R0 := Lib.hid (keepRows (hb5.mono le_w) R0.out)
  replace V := Lib.hid (keepDk (hb5.mono le_w2) V.out)
  replace le_w := Nat.le_trans le_w hb5.size
  replace le_w1 := Nat.le_trans le_w1 hb5.size
  replace le_w2 := Nat.le_trans le_w2 hb5.size
  replace le_WBV := Nat.le_trans le_WBV hb5.size
  replace le_w3 := Nat.le_trans le_w3 hb5.size
  replace le_w4 := Nat.le_trans le_w4 hb5.size
  replace le_WBG := Nat.le_trans le_WBG hb5.size
  replace BEL0 := Lib.hid (belT BEL0.out hb5)
  clear hb5
  clear cBG0 cBG1 ltBG
  clear cBV0 cBV1 ltBV
  have o_WBG_w5 : WBG.heap.size ≤ w5.heap.size := le_WBG
  have le_w5 : w5.heap.size ≤ w5.heap.size := Nat.le_refl _
  go_wp2_with fail
  refine (toIntSS A0 c0 x0 t0 HM0.out _ (Lib.hid (R0.out.lt le_w)).out).mono ?_
  rintro e w6 ⟨rfl, hL6⟩
  have E0 := Lib.hid (Laid.own hL6 HN0.out)
  have hb6 := NewRows.bel hL6
  replace BV := Lib.hid (BV.out.still hb6)
  replace BG := Lib.hid (BG.out.still hb6)
  replace X0 := Lib.hid (X0.out.below (hb6.mono le_w3))
  replace G := Lib.hid (G.out.below (hb6.mono le_w4))
  replace R0 := Lib.hid (keepRows (hb6.mono le_w) R0.out)
  replace V := Lib.hid (keepDk (hb6.mono le_w2) V.out)
  replace le_w := Nat.le_trans le_w hb6.size
  replace le_w1 := Nat.le_trans le_w1 hb6.size
  replace le_w2 := Nat.le_trans le_w2 hb6.size
  replace le_WBV := Nat.le_trans le_WBV hb6.size
  replace le_w3 := Nat.le_trans le_w3 hb6.size
  replace le_w4 := Nat.le_trans le_w4 hb6.size
  replace le_WBG := Nat.le_trans le_WBG hb6.size
  replace le_w5 := Nat.le_trans le_w5 hb6.size
  replace BEL0 := Lib.hid (belT BEL0.out hb6)
  have o_w5_w6 : w5.heap.size ≤ w6.heap.size := le_w5
  have le_w6 : w6.heap.size ≤ w6.heap.size := Nat.le_refl _
  clear hb6 hL6
  go_wp2_with fail
  refine (eqIntSS _ _ _ _ x0 _ _ l0 _ (X0.out.lt.lt le_w3) (E0.out.lt.lt le_w6)).mono ?_
  rintro e w7 ⟨rfl, hq7⟩
  have hb7 : Below w6.heap.size w6 w7 := by obtain ⟨n, rfl⟩ := hq7; exact below_drewN (Below.refl _ _) n
  replace BV := Lib.hid (BV.out.still hb7)
  replace BG := Lib.hid (BG.out.still hb7)
  replace X0 := Lib.hid (X0.out.below (hb7.mono le_w3))
  replace G := Lib.hid (G.out.below (hb7.mono le_w4))
  replace E0 := Lib.hid (E0.out.below (hb7.mono le_w6))
  replace R0 := Lib.hid (keepRows (hb7.mono le_w) R0.out)
  replace V := Lib.hid (keepDk (hb7.mono le_w2) V.out)
  replace le_w := Nat.le_trans le_w hb7.size
  replace le_w1 := Nat.le_trans le_w1 hb7.size
  replace le_w2 := Nat.le_trans le_w2 hb7.size
  replace le_WBV := Nat.le_trans le_WBV hb7.size
  replace le_w3 := Nat.le_trans le_w3 hb7.size
  replace le_w4 := Nat.le_trans le_w4 hb7.size
  replace le_WBG := Nat.le_trans le_WBG hb7.size
  replace le_w5 := Nat.le_trans le_w5 hb7.size
  replace le_w6 := Nat.le_trans le_w6 hb7.size
  replace BEL0 := Lib.hid (belT BEL0.out hb7)
  clear hq7 hb7
  clear E0
  go_wp2_with fail
  refine (markIntSS _ _ x0 _ _ 1 t0 (by omega) (by omega) (by omega) _ X0.out).mono ?_
  rintro e w8 ⟨rfl, hf8, ho8⟩
  replace BV := Lib.hid (BV.out.off hf8 (by omega))
  replace BG := Lib.hid (BG.out.off hf8 (by omega))
  replace X0 := Lib.hid ho8
  replace G := Lib.hid (G.out.off hf8 (by omega))
  replace R0 := Lib.hid (keepRows (hf8.below (by omega)) R0.out)
  replace V := Lib.hid (keepDk (hf8.below (by omega)) V.out)
  have hz8 := hf8.size
  replace le_w : w.heap.size ≤ w8.heap.size := by omega
  replace le_w1 : w1.heap.size ≤ w8.heap.size := by omega
  replace le_w2 : w2.heap.size ≤ w8.heap.size := by omega
  replace le_WBV : WBV.heap.size ≤ w8.heap.size := by omega
  replace le_w3 : w3.heap.size ≤ w8.heap.size := by omega
  replace le_w4 : w4.heap.size ≤ w8.heap.size := by omega
  replace le_WBG : WBG.heap.size ≤ w8.heap.size := by omega
  replace le_w5 : w5.heap.size ≤ w8.heap.size := by omega
  replace le_w6 : w6.heap.size ≤ w8.heap.size := by omega
  replace BEL0 := Lib.hid (BEL0.out.trans (hf8.below (by omega)))
  clear hf8 hz8 ho8
  clear X0
  have kpos : 0 ≤ (1 + (sumN x0 x0.length : Int)) := by omega
  have cBG0 := BG.out.c0
  have cBG1 := BG.out.c1
  have ltBG := BG.out.lt
  have cBV0 := BV.out.c0
  have cBV1 := BV.out.c1
  have ltBV := BV.out.lt
  go_wp2_with fail
  refine (eqDesk_same _ _ _ _ _ _ _ _ (newD x0) HL1.out HL2.out _ (G.out.lt.lt le_w4).n (G.out.lt.lt le_w4).p (V.out.lt le_w2).n (V.out.lt le_w2).p).mono ?_
  rintro e w9 ⟨rfl, hb9⟩
  replace BV := Lib.hid (BV.out.still hb9)
  replace BG := Lib.hid (BG.out.still hb9)
  replace G := Lib.hid (G.out.below (hb9.mono le_w4))
  replace R0 := Lib.hid (keepRows (hb9.mono le_w) R0.out)
  replace V := Lib.hid (keepDk (hb9.mono le_w2) V.out)
  replace le_w := Nat.le_trans le_w hb9.size
  replace le_w1 := Nat.le_trans le_w1 hb9.size
  replace le_w2 := Nat.le_trans le_w2 hb9.size
  replace le_WBV := Nat.le_trans le_WBV hb9.size
  replace le_w3 := Nat.le_trans le_w3 hb9.size
  replace le_w4 := Nat.le_trans le_w4 hb9.size
  replace le_WBG := Nat.le_trans le_WBG hb9.size
  replace le_w5 := Nat.le_trans le_w5 hb9.size
  replace le_w6 := Nat.le_trans le_w6 hb9.size
  replace BEL0 := Lib.hid (belT BEL0.out hb9)
  clear hb9
  clear cBG0 cBG1 ltBG
  clear cBV0 cBV1 ltBV
  have cBG0 := BG.out.c0
  have cBG1 := BG.out.c1
  have ltBG := BG.out.lt
  go_wp2_with fail
  refine (markDesk_c TG1 TG2 AG CG UG KG _ _ (newD x0) _ _ 1 HSD.out (by omega) (by omega) _ le_w4 G.out).mono ?_
  rintro e w10 ⟨rfl, hf10, ho10⟩
  clear cBG0 cBG1 ltBG
  have hfb10 := hf10.below (Nat.le_refl _) (show w3.heap.size ≤ w9.heap.size by omega)
  replace BV := Lib.hid (BV.out.offB hf10 (by omega))
  replace BG := Lib.hid (BG.out.offB hf10 (by omega))
  replace G := Lib.hid ho10
  replace R0 := Lib.hid (keepRows (hfb10.mono (by omega)) R0.out)
  replace V := Lib.hid (keepDk (hfb10.mono (by omega)) V.out)
  replace le_w := Nat.le_trans le_w hf10.size
  replace le_w1 := Nat.le_trans le_w1 hf10.size
  replace le_w2 := Nat.le_trans le_w2 hf10.size
  replace le_WBV := Nat.le_trans le_WBV hf10.size
  replace le_w3 := Nat.le_trans le_w3 hf10.size
  replace le_w4 := Nat.le_trans le_w4 hf10.size
  replace le_WBG := Nat.le_trans le_WBG hf10.size
  replace le_w5 := Nat.le_trans le_w5 hf10.size
  replace le_w6 := Nat.le_trans le_w6 hf10.size
  replace BEL0 := Lib.hid (BEL0.out.trans (hfb10.mono (by omega)))
  clear hf10 hfb10 ho10
  have zz : ((1 + (sizeD (newD x0) : Int)) != (1 + (sizeD (newD x0) : Int))) = false := by simp
  have kpos2 : 0 ≤ (1 + (sizeD (newD x0) : Int)) := by omega
  have cBG0 := BG.out.c0
  have cBG1 := BG.out.c1
  have ltBG := BG.out.lt
  go_wp2_with fail
  refine (heldDesk_c _ _ _ _ (newD x0) _ _ 1 HSD.out (by omega) (by omega) _ (fun b hb => Nat.lt_of_lt_of_le hb.2 le_w4) (fun b hb => Nat.lt_of_lt_of_le hb.2 le_w4) G.out.rows2 G.out.rows3).mono ?_
  rintro e w11 ⟨rfl, hb11⟩
  replace BV := Lib.hid (BV.out.still hb11)
  replace BG := Lib.hid (BG.out.still hb11)
  replace G := Lib.hid (G.out.below (hb11.mono le_w4))
  replace R0 := Lib.hid (keepRows (hb11.mono le_w) R0.out)
  replace V := Lib.hid (keepDk (hb11.mono le_w2) V.out)
  replace le_w := Nat.le_trans le_w hb11.size
  replace le_w1 := Nat.le_trans le_w1 hb11.size
  replace le_w2 := Nat.le_trans le_w2 hb11.size
  replace le_WBV := Nat.le_trans le_WBV hb11.size
  replace le_w3 := Nat.le_trans le_w3 hb11.size
  replace le_w4 := Nat.le_trans le_w4 hb11.size
  replace le_WBG := Nat.le_trans le_WBG hb11.size
  replace le_w5 := Nat.le_trans le_w5 hb11.size
  replace le_w6 := Nat.le_trans le_w6 hb11.size
  replace BEL0 := Lib.hid (belT BEL0.out hb11)
  clear hb11
  clear cBG0 cBG1 ltBG
  have o_w6_w11 : w6.heap.size ≤ w11.heap.size := le_w6
  have le_w11 : w11.heap.size ≤ w11.heap.size := Nat.le_refl _
  go_wp2_with fail
  refine (toIntSS A0 c0 x0 t0 HM0.out _ (Lib.hid (R0.out.lt le_w)).out).mono ?_
  rintro e w12 ⟨rfl, hL12⟩
  have Q0 := Lib.hid (Laid.own hL12 HN0.out)
  have hb12 := NewRows.bel hL12
  replace BV := Lib.hid (BV.out.still hb12)
  replace BG := Lib.hid (BG.out.still hb12)
  replace G := Lib.hid (G.out.below (hb12.mono le_w4))
  replace R0 := Lib.hid (keepRows (hb12.mono le_w) R0.out)
  replace V := Lib.hid (keepDk (hb12.mono le_w2) V.out)
  replace le_w := Nat.le_trans le_w hb12.size
  replace le_w1 := Nat.le_trans le_w1 hb12.size
  replace le_w2 := Nat.le_trans le_w2 hb12.size
  replace le_WBV := Nat.le_trans le_WBV hb12.size
  replace le_w3 := Nat.le_trans le_w3 hb12.size
  replace le_w4 := Nat.le_trans le_w4 hb12.size
  replace le_WBG := Nat.le_trans le_WBG hb12.size
  replace le_w5 := Nat.le_trans le_w5 hb12.size
  replace le_w6 := Nat.le_trans le_w6 hb12.size
  replace le_w11 := Nat.le_trans le_w11 hb12.size
  replace BEL0 := Lib.hid (belT BEL0.out hb12)
  have o_w11_w12 : w11.heap.size ≤ w12.heap.size := le_w11
  have le_w12 : w12.heap.size ≤ w12.heap.size := Nat.le_refl _
  clear hb12 hL12
  go_wp2_with fail
  refine (I.new _ _ x0 l0 _ (Q0.out.lt.lt le_w12)).mono ?_
  rintro e w13 ⟨TH1, cH1, TH2, cH2, AH, CH, UH, KH, rfl, hb13, ho13⟩
  unfold dskV
  have H := Lib.hid ho13
  replace BV := Lib.hid (BV.out.still hb13)
  replace BG := Lib.hid (BG.out.still hb13)
  replace G := Lib.hid (G.out.below (hb13.mono le_w4))
  replace Q0 := Lib.hid (Q0.out.below (hb13.mono le_w12))
  replace R0 := Lib.hid (keepRows (hb13.mono le_w) R0.out)
  replace V := Lib.hid (keepDk (hb13.mono le_w2) V.out)
  replace le_w := Nat.le_trans le_w hb13.size
  replace le_w1 := Nat.le_trans le_w1 hb13.size
  replace le_w2 := Nat.le_trans le_w2 hb13.size
  replace le_WBV := Nat.le_trans le_WBV hb13.size
  replace le_w3 := Nat.le_trans le_w3 hb13.size
  replace le_w4 := Nat.le_trans le_w4 hb13.size
  replace le_WBG := Nat.le_trans le_WBG hb13.size
  replace le_w5 := Nat.le_trans le_w5 hb13.size
  replace le_w6 := Nat.le_trans le_w6 hb13.size
  replace le_w11 := Nat.le_trans le_w11 hb13.size
  replace le_w12 := Nat.le_trans le_w12 hb13.size
  replace BEL0 := Lib.hid (belT BEL0.out hb13)
  have o_w12_w13 : w12.heap.size ≤ w13.heap.size := le_w12
  have le_w13 : w13.heap.size ≤ w13.heap.size := Nat.le_refl _
  clear hb13 ho13
  clear Q0
  have cBV0 := BV.out.c0
  have cBV1 := BV.out.c1
  have ltBV := BV.out.lt
  go_wp2_with fail
  obtain ⟨WBH, hWBH⟩ : ∃ WBH : World, WBH = w13.alloc (.cells #[.slice TH1 (newD x0).now.length cH1, .slice TH2 (newD x0).past.length cH2] 29) := ⟨_, rfl⟩
  have hbWBH : Below w13.heap.size w13 WBH := by rw [hWBH]; exact (Below.refl _ _).alloc (Nat.le_refl _) _
  have BH : Hid (BoxD WBH w13.heap.size (.slice TH1 (newD x0).now.length cH1) (.slice TH2 (newD x0).past.length cH2)) := by show BoxD _ _ _ _; rw [hWBH]; exact BoxD.new _ _ _
  have bzBH : w13.heap.size < WBH.heap.size := by rw [hWBH]; simp
  rw [← hWBH]
  clear hWBH
  replace BV := Lib.hid (BV.out.still hbWBH)
  replace BG := Lib.hid (BG.out.still hbWBH)
  replace G := Lib.hid (G.out.below (hbWBH.mono le_w4))
  replace H := Lib.hid (H.out.below (hbWBH.mono le_w13))
  replace R0 := Lib.hid (keepRows (hbWBH.mono le_w) R0.out)
  replace V := Lib.hid (keepDk (hbWBH.mono le_w2) V.out)
  replace le_w := Nat.le_trans le_w hbWBH.size
  replace le_w1 := Nat.le_trans le_w1 hbWBH.size
  replace le_w2 := Nat.le_trans le_w2 hbWBH.size
  replace le_WBV := Nat.le_trans le_WBV hbWBH.size
  replace le_w3 := Nat.le_trans le_w3 hbWBH.size
  replace le_w4 := Nat.le_trans le_w4 hbWBH.size
  replace le_WBG := Nat.le_trans le_WBG hbWBH.size
  replace le_w5 := Nat.le_trans le_w5 hbWBH.size
  replace le_w6 := Nat.le_trans le_w6 hbWBH.size
  replace le_w11 := Nat.le_trans le_w11 hbWBH.size
  replace le_w12 := Nat.le_trans le_w12 hbWBH.size
  replace le_w13 := Nat.le_trans le_w13 hbWBH.size
  replace BEL0 := Lib.hid (belT BEL0.out hbWBH)
  have o_w13_WBH : w13.heap.size ≤ WBH.heap.size := le_w13
  have le_WBH : WBH.heap.size ≤ WBH.heap.size := Nat.le_refl _
  clear hbWBH
  clear cBV0 cBV1 ltBV
  have cBH0 := BH.out.c0
  have cBH1 := BH.out.c1
  have ltBH := BH.out.lt
  have cBV0 := BV.out.c0
  have cBV1 := BV.out.c1
  have ltBV := BV.out.lt
  go_wp2_with fail
  refine (eqDesk_same _ _ _ _ _ _ _ _ (newD x0) HL1.out HL2.out _ (H.out.lt.lt le_w13).n (H.out.lt.lt le_w13).p (V.out.lt le_w2).n (V.out.lt le_w2).p).mono ?_
  rintro e w14 ⟨rfl, hb14⟩
  replace BV := Lib.hid (BV.out.still hb14)
  replace BG := Lib.hid (BG.out.still hb14)
  replace BH := Lib.hid (BH.out.still hb14)
  replace G := Lib.hid (G.out.below (hb14.mono le_w4))
  replace H := Lib.hid (H.out.below (hb14.mono le_w13))
  replace R0 := Lib.hid (keepRows (hb14.mono le_w) R0.out)
  replace V := Lib.hid (keepDk (hb14.mono le_w2) V.out)
  replace le_w := Nat.le_trans le_w hb14.size
  replace le_w1 := Nat.le_trans le_w1 hb14.size
  replace le_w2 := Nat.le_trans le_w2 hb14.size
  replace le_WBV := Nat.le_trans le_WBV hb14.size
  replace le_w3 := Nat.le_trans le_w3 hb14.size
  replace le_w4 := Nat.le_trans le_w4 hb14.size
  replace le_WBG := Nat.le_trans le_WBG hb14.size
  replace le_w5 := Nat.le_trans le_w5 hb14.size
  replace le_w6 := Nat.le_trans le_w6 hb14.size
  replace le_w11 := Nat.le_trans le_w11 hb14.size
  replace le_w12 := Nat.le_trans le_w12 hb14.size
  replace le_w13 := Nat.le_trans le_w13 hb14.size
  replace le_WBH := Nat.le_trans le_WBH hb14.size
  replace BEL0 := Lib.hid (belT BEL0.out hb14)
  clear hb14
  clear cBH0 cBH1 ltBH
  clear cBV0 cBV1 ltBV
  clear H
  clear V
  clear BH
  clear BV
  have cBG0 := BG.out.c0
  have cBG1 := BG.out.c1
  have ltBG := BG.out.lt
  go_wp2_with fail
  refine (heldDesk_c _ _ _ _ (newD x0) _ _ 1 HSD.out (by omega) (by omega) _ (fun b hb => Nat.lt_of_lt_of_le hb.2 le_w4) (fun b hb => Nat.lt_of_lt_of_le hb.2 le_w4) G.out.rows2 G.out.rows3).mono ?_
  rintro e w15 ⟨rfl, hb15⟩
  replace BG := Lib.hid (BG.out.still hb15)
  replace G := Lib.hid (G.out.below (hb15.mono le_w4))
  replace R0 := Lib.hid (keepRows (hb15.mono le_w) R0.out)
  replace le_w := Nat.le_trans le_w hb15.size
  replace le_w1 := Nat.le_trans le_w1 hb15.size
  replace le_w2 := Nat.le_trans le_w2 hb15.size
  replace le_WBV := Nat.le_trans le_WBV hb15.size
  replace le_w3 := Nat.le_trans le_w3 hb15.size
  replace le_w4 := Nat.le_trans le_w4 hb15.size
  replace le_WBG := Nat.le_trans le_WBG hb15.size
  replace le_w5 := Nat.le_trans le_w5 hb15.size
  replace le_w6 := Nat.le_trans le_w6 hb15.size
  replace le_w11 := Nat.le_trans le_w11 hb15.size
  replace le_w12 := Nat.le_trans le_w12 hb15.size
  replace le_w13 := Nat.le_trans le_w13 hb15.size
  replace le_WBH := Nat.le_trans le_WBH hb15.size
  replace BEL0 := Lib.hid (belT BEL0.out hb15)
  clear hb15
  clear cBG0 cBG1 ltBG
  go_wp2_with fail
  go_ret
  exact Adds.of rfl BEL0.out

end Go.Proofs.Ytlkjpmdnhccdpab

namespace Go.Proofs.Ytlkjpmdnhccdpab
set_option linter.unusedSimpArgs false
set_option linter.unusedVariables false
open Go.RowKit

set_option maxHeartbeats 2000000 in
set_option maxRecDepth 100000 in
theorem wFnExactLaidOk (I : Impl12) (A0 : Option Addr) (c0 : Nat) (x0 : List (List Int)) (l0 : x0.length ≤ maxLen) (w : World) (r0 : Rows2 w (· < w.heap.size) A0 x0) :
    Calls Try.prog 4 #[.slice A0 x0.length c0] w (Adds (.bool true) w) := by
  have R0 := Lib.hid r0
  clear r0
  go_enter Try.func4, Try.ntmps4
  go_wp2_with fail
  refine (szIntSS A0 c0 x0 _ 1048576 l0 (by omega) (by omega) _ R0.out).mono ?_
  rintro e wz ⟨q0, rfl, rfl, hq0⟩
  by_cases hz0 : q0 < 0
  · clear hq0
    go_wp2_with fail
    go_ret
    exact Adds.of rfl (Below.refl _ _)
  have hsum0 : (x0.length : Int) + (sumN x0 x0.length : Nat) ≤ 1048576 := by omega
  have hm0 : ∀ i, i < x0.length → (rowAt x0 i).length ≤ 4294967296 := fun i hi => by have := row_le_sumN x0 hi; omega
  have HM0 := Lib.hid hm0
  have t0 : x0.length ≤ 4294967296 := by omega
  have st0 : sumN x0 x0.length ≤ 1048576 := by omega
  clear hq0 hsum0 hm0
  go_wp2_with fail
  refine (toIntSS A0 c0 x0 t0 HM0.out _ R0.out).mono ?_
  rintro e w1 ⟨rfl, hL1⟩
  have S0 := Lib.hid (NewRows.reads hL1 HM0.out)
  have hb1 := NewRows.bel hL1
  replace R0 := Lib.hid (stillRows R0.out hb1)
  have BEL0 := Lib.hid hb1
  clear hb1 hL1
  go_wp2_with fail
  refine ((laid_spec _ _ x0 _ l0 _ S0.out)).mono ?_
  rintro e w2 ⟨rfl, hq2⟩
  have hb2 : Below w1.heap.size w1 w2 := by obtain ⟨n, rfl⟩ := hq2; exact below_drewN (Below.refl _ _) n
  replace R0 := Lib.hid (stillRows R0.out hb2)
  replace S0 := Lib.hid (stillRows S0.out hb2)
  replace BEL0 := Lib.hid (belT BEL0.out hb2)
  clear hq2 hb2
  clear S0
  go_wp2_with fail
  refine (toIntSS A0 c0 x0 t0 HM0.out _ R0.out).mono ?_
  rintro e w3 ⟨rfl, hL3⟩
  have X0 := Lib.hid (NewRows.reads hL3 HM0.out)
  have hb3 := NewRows.bel hL3
  replace R0 := Lib.hid (stillRows R0.out hb3)
  replace BEL0 := Lib.hid (belT BEL0.out hb3)
  clear hb3 hL3
  go_wp2_with fail
  refine (I.laid _ _ x0 l0 _ X0.out).mono ?_
  rintro e w4 ⟨rfl, hb4⟩
  replace R0 := Lib.hid (stillRows R0.out hb4)
  replace X0 := Lib.hid (stillRows X0.out hb4)
  replace BEL0 := Lib.hid (belT BEL0.out hb4)
  clear hb4
  have zB : (laidB x0 != laidB x0) = false := by simp
  go_wp2_with fail
  refine (toIntSS A0 c0 x0 t0 HM0.out _ R0.out).mono ?_
  rintro e w5 ⟨rfl, hL5⟩
  have E0 := Lib.hid (NewRows.reads hL5 HM0.out)
  have hb5 := NewRows.bel hL5
  replace R0 := Lib.hid (stillRows R0.out hb5)
  replace X0 := Lib.hid (stillRows X0.out hb5)
  replace BEL0 := Lib.hid (belT BEL0.out hb5)
  clear hb5 hL5
  go_wp2_with fail
  refine (eqIntSS _ _ _ _ x0 _ _ l0 _ X0.out E0.out).mono ?_
  rintro e w6 ⟨rfl, hq6⟩
  have hb6 : Below w5.heap.size w5 w6 := by obtain ⟨n, rfl⟩ := hq6; exact below_drewN (Below.refl _ _) n
  replace R0 := Lib.hid (stillRows R0.out hb6)
  replace X0 := Lib.hid (stillRows X0.out hb6)
  replace E0 := Lib.hid (stillRows E0.out hb6)
  replace BEL0 := Lib.hid (belT BEL0.out hb6)
  clear hq6 hb6
  clear E0
  clear X0
  go_wp2_with fail
  go_ret
  exact Adds.of rfl BEL0.out

end Go.Proofs.Ytlkjpmdnhccdpab
