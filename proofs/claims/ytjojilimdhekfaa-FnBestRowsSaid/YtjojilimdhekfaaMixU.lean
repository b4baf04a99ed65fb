/- The walks of the specification's SettledOk and BestRows. (Written by wip/gen/mixu.py.) -/
import Derived.Test.YtjojilimdhekfaaMixT
namespace Go.Proofs.Ytjojilimdhekfaa
set_option linter.unusedSimpArgs false
set_option linter.unusedVariables false
open Go.RowKit

set_option maxHeartbeats 2000000 in
theorem set_spec (T A B : Option Addr) (c d e : Nat) (g : List (List Int)) (x y : List Int) (hl : g.length ≤ maxLen) (hx : x.length ≤ 4294967296) (hy : y.length ≤ 4294967296) (w : World) (h : Rows2 w (· < w.heap.size) T g) (h1 : Ints w (· < w.heap.size) A x) (h2 : Ints w (· < w.heap.size) B y) :
    Calls Try.prog 29 #[.slice T g.length c, .slice A x.length d, .slice B y.length e] w (Adds (.bool (setB g x y)) w) := by
  have HR := Lib.hid h
  have HX := Lib.hid h1
  have HY := Lib.hid h2
  have HS : Hid (setB g x y = (safB g x && risB g y && ((safU g x == risU g y) && (safD g x == risD g y)))) := rfl
  clear h h1 h2
  go_enter Try.func29, Try.ntmps29
  go_wp2_with fail
  refine (safe_spec _ _ _ _ g x hl hx _ HR.out HX.out).mono ?_
  rintro e w1 ⟨rfl, hb1⟩
  unfold FracRes
  generalize safU g x = a at HS ⊢
  generalize safD g x = b at HS ⊢
  generalize safB g x = o at HS ⊢
  go_wp2_with fail
  obtain ⟨W, hW⟩ : ∃ W : World, W = (w1.alloc (.cells #[(Value.int .i64 a), (Value.int .i64 b)] 28)) := ⟨_, rfl⟩
  have hzW : W.heap.size = w1.heap.size + 1 := by rw [hW]; simp
  have hbW : Below w1.heap.size w1 W := by rw [hW]; exact (by repeat (first | exact Below.refl _ _ | assumption | exact bel1 (by assumption) | exact bel2 (by assumption) | exact bel3 (by assumption) | exact bel4 (by assumption) | refine Below.drew ?_ | refine below_drewN ?_ _ | refine Below.setCell ?_ (by first | (simp; done) | (simp; omega)) _ | refine Below.alloc ?_ (by first | (simp; done) | (simp; omega)) _))
  have r00 := stays (p := w1.heap.size) (o := 0) (by omega) (show W.cell? ⟨w1.heap.size, 0, none⟩ = some ((Value.int .i64 a)) from by rw [hW]; simp [go_sem])
  have r01 := stays (p := w1.heap.size) (o := 1) (by omega) (show W.cell? ⟨w1.heap.size, 1, none⟩ = some ((Value.int .i64 b)) from by rw [hW]; simp [go_sem])
  rw [← hW]
  clear hW
  have HzW := Lib.hid hzW
  clear hzW
  have hk1 := belT hb1 hbW
  have RW := Lib.hid (keepRows hk1 HR.out)
  have YW := Lib.hid (keepInts hk1 HY.out)
  have hsw := hk1.size
  refine (risk_spec _ _ _ _ g y hl hy _ (RW.out.lt hsw) (YW.out.lt hsw)).mono ?_
  rintro e w2 ⟨rfl, hb2⟩
  unfold FracRes
  generalize risU g y = a' at HS ⊢
  generalize risD g y = b' at HS ⊢
  generalize risB g y = o' at HS ⊢
  have hk2 := belT hk1 hb2
  have hsz : w1.heap.size < w2.heap.size := by have := hb2.size; have := HzW.out; omega
  cases o with
  | false =>
    go_wp2_with fail
    go_ret
    exact Adds.of (by rw [HS.out]; rfl) (hk2.alloc hk2.size _)
  | true =>
    cases o' with
    | false =>
      go_wp2_with fail
      go_ret
      exact Adds.of (by rw [HS.out]; rfl) (hk2.alloc hk2.size _)
    | true =>
      go_wp2_with fail
      all_goals
        go_ret
        exact Adds.of (by rw [HS.out]; first | (simp; done) | (simp; omega)) (hk2.alloc hk2.size _)

/-- a list that grows lies in no block of fractions -/
theorem Grows.ne {w : World} {base B N : Nat} {v : Value} {l : List Int} {f : Nat → Value} (h : Grows w base v l) (h' : w.rowIs B 28 N f) : v.ownBlock ≠ some B := by
  obtain ⟨_, ⟨rfl, _⟩ | ⟨b, cap, cur, rfl, _, h4, _⟩⟩ := h
  · simp [Value.ownBlock]
  · intro e
    simp [Value.ownBlock] at e
    subst e
    obtain ⟨c', h2, _, _⟩ := h'
    rw [h4] at h2
    injection h2 with h2
    injection h2 with _ e
    exact absurd e (by decide)

/-- an equation between fractions over one number -/
theorem best_iff {g : List (List Int)} {y : List Int} (h : risB g y = true) (k : Nat) : (lowU (rowD g y k) (sumW y y.length) = risU g y ∧ lowD (rowD g y k) (sumW y y.length) = risD g y) ↔ rowD g y k = riskN g y := by
  have e1 : risU g y = lowU (riskN g y) (sumW y y.length) := by simp [risU, h]
  have e2 : risD g y = lowD (riskN g y) (sumW y y.length) := by simp [risD, h]
  simp only [risB, Bool.and_eq_true] at h
  have hm := Mix.of h.2
  have hp := hm.sum_bd
  rw [← hm.len] at hp
  rw [e1, e2]
  exact ⟨fun ⟨a, b⟩ => low_inj (by omega) a b, fun e => by rw [e]; exact ⟨rfl, rfl⟩⟩

set_option maxHeartbeats 2000000 in
set_option maxRecDepth 100000 in
theorem best_spec (T A : Option Addr) (c d : Nat) (g : List (List Int)) (y : List Int) (hl : g.length ≤ maxLen) (hy : y.length ≤ 4294967296) (w : World) (h : Rows2 w (· < w.heap.size) T g) (h1 : Ints w (· < w.heap.size) A y) :
    Calls Try.prog 33 #[.slice T g.length c, .slice A y.length d] w (NewList w (bestL g y)) := by
  have HR := Lib.hid h
  have HY := Lib.hid h1
  have hb0 : Below w.heap.size w (w.alloc (.cells #[] 3)) := (Below.refl _ _).alloc (Nat.le_refl _) _
  have G0 := Lib.hid (Grows.lit w (base := w.heap.size) (Nat.le_refl _))
  have HB0 := Lib.hid hb0
  have RA := Lib.hid (keepRows hb0 h)
  have YA := Lib.hid (keepInts hb0 h1)
  clear h h1 hb0
  go_enter Try.func33, Try.ntmps33
  go_wp2_with fail
  refine (risk_spec _ _ _ _ g y hl hy _ (RA.out.lt HB0.out.size) (YA.out.lt HB0.out.size)).mono ?_
  rintro e w1 ⟨rfl, hb1⟩
  unfold FracRes
  have hk1 := belT HB0.out hb1
  have G1 := Lib.hid (G0.out.keep hb1)
  clear hb1
  rcases hB : risB g y with _ | _
  · have H1 : Hid (bestL g y = []) := by simp [Hid, bestL, hB]
    have hl' := hl
    unfold maxLen at hl'
    clear hB
    go_wp2_with fail
    go_loop [5, 8] (fun v i => i = .int .i64 (0 : Nat) ∧ v = .slice (some ⟨w.heap.size, 0, none⟩) 0 0) (fun _ _ => 0)
    case atStart => exact ⟨rfl, rfl⟩
    case round =>
      obtain ⟨rfl, rfl⟩ := hrel
      by_cases h0 : 0 < g.length
      · go_wp2_with fail
        go_ret
        rw [H1.out]
        exact NewList.of rfl (G1.out.alloc _) (hk1.alloc hk1.size _)
      · go_wp2_with fail
        go_ret
        rw [H1.out]
        exact NewList.of rfl (G1.out.alloc _) (hk1.alloc hk1.size _)
  have HB := Lib.hid hB
  have hB2 := hB
  simp only [risB, Bool.and_eq_true] at hB2
  have hg := Game.of hB2.1
  have hm := Mix.of hB2.2
  obtain ⟨sb1, sb2⟩ := hm.sum_bd
  rw [← hm.len] at sb1 sb2
  have hg1 := hg.lo
  have hg2 := hg.hi
  have HG := Lib.hid hg
  have HM := Lib.hid hm
  have H1 : Hid (bestL g y = bestUpTo g y g.length) := by simp [Hid, bestL, hB]
  obtain ⟨i0, hi0, hz0, hz1, hz2⟩ := info_parts infoI
  have HI0 := Lib.hid hi0
  have HZ0 := Lib.hid hz0
  have HZ1 := Lib.hid hz1
  have HZ2 := Lib.hid hz2
  obtain ⟨bt, ot, rfl⟩ := HR.out.some (by omega)
  clear hB hB2 hg hm hi0 hz0 hz1 hz2
  go_wp2_with fail
  have BI : Hid (∀ k, (lowU (rowD g y k) (sumW y y.length) = risU g y ∧ lowD (rowD g y k) (sumW y y.length) = risD g y) ↔ rowD g y k = riskN g y) := best_iff HB.out
  generalize risU g y = a at BI ⊢
  generalize risD g y = b at BI ⊢
  obtain ⟨W, hW⟩ : ∃ W : World, W = (w1.alloc (.cells #[(Value.int .i64 a), (Value.int .i64 b)] 28)) := ⟨_, rfl⟩
  have hzW : W.heap.size = w1.heap.size + 1 := by rw [hW]; simp
  have hbW : Below w1.heap.size w1 W := by rw [hW]; exact (by repeat (first | exact Below.refl _ _ | assumption | exact bel1 (by assumption) | exact bel2 (by assumption) | exact bel3 (by assumption) | exact bel4 (by assumption) | refine Below.drew ?_ | refine below_drewN ?_ _ | refine Below.setCell ?_ (by first | (simp; done) | (simp; omega)) _ | refine Below.alloc ?_ (by first | (simp; done) | (simp; omega)) _))
  have r00 := stays (p := w1.heap.size) (o := 0) (by omega) (show W.cell? ⟨w1.heap.size, 0, none⟩ = some ((Value.int .i64 a)) from by rw [hW]; simp [go_sem])
  have r01 := stays (p := w1.heap.size) (o := 1) (by omega) (show W.cell? ⟨w1.heap.size, 1, none⟩ = some ((Value.int .i64 b)) from by rw [hW]; simp [go_sem])
  have RB : Hid (W.rowIs w1.heap.size 28 2 (fun i => if i = 0 then .int .i64 a else .int .i64 b)) := by show W.rowIs _ _ _ _; rw [hW]; exact World.rowIs_alloc w1 #[.int .i64 a, .int .i64 b] _ _ (fun i hi => by have : i = 0 ∨ i = 1 := (by simp at hi; omega); rcases this with rfl | rfl <;> rfl)
  rw [← hW]
  clear hW
  have HzW := Lib.hid hzW
  clear hzW
  have hkW := belT hk1 hbW
  have GW := Lib.hid (G1.out.keep hbW)
  have RW := Lib.hid (keepRows hkW HR.out)
  have YW := Lib.hid (keepInts hkW HY.out)
  go_loopw [5, 8] (fun v i wr => ∃ k : Nat, k ≤ g.length ∧ i = .int .i64 k ∧ Hid (Grows wr w.heap.size v (bestUpTo g y k)) ∧ Hid (Below w.heap.size w wr) ∧ Hid (wr.rowIs w1.heap.size 28 2 (fun i => if i = 0 then .int .i64 a else .int .i64 b)) ∧ W.heap.size ≤ wr.heap.size) (fun _ i _ => g.length - (intOf i).toNat)
  case atStart => exact ⟨0, Nat.zero_le _, rfl, GW, hkW, RB, Nat.le_refl _⟩
  case round =>
    clear GW r00 r01
    obtain ⟨k, hk, rfl, HO, HV, HC, hws⟩ := hrel
    have hlen := bestUpTo_len g y k
    have hw1 : w1.heap.size < wr.heap.size := by have := HzW.out; omega
    have q00 := stays (W := wr) (p := w1.heap.size) (o := 0) hw1 (by have := HC.out.cell (i := 0) (by omega); simpa using this)
    have q01 := stays (W := wr) (p := w1.heap.size) (o := 1) hw1 (by have := HC.out.cell (i := 1) (by omega); simpa using this)
    by_cases hlt : k < g.length
    · obtain ⟨rb1, rb2⟩ := rowD_bd HG.out HM.out k hlt
      have BK := Lib.hid (BI.out k)
      rcases e1 : lowU (rowD g y k) (sumW y y.length) == a with _ | _
      · have hno : Hid (bestUpTo g y (k + 1) = bestUpTo g y k) := by
          show bestUpTo g y (k + 1) = _
          have : ¬ rowD g y k = riskN g y := fun e => by have := (BK.out.2 e).1; rw [this] at e1; simp at e1
          simp [bestUpTo, this]
        go_wp2_with fail
        go_region_held3 (fun w' => Below wr.heap.size wr w')
          (first | exact Below.refl _ _ | exact Below.drew (Below.refl _ _) | (refine Below.drew ?_; assumption) | exact belT (by assumption) (by assumption) | assumption)
          (first | (go_at_call 54; refine ((l3Row _ _ _ _ g y _ _ _ k HG.out HM.out hlt _ (keepRows (belT HV.out (by assumption)) HR.out) (keepInts (belT HV.out (by assumption)) HY.out)).mono fun _ _ => Quiet.adds).mono ?_; rintro e w5 ⟨rfl, hb5⟩) | (go_at_call 56; refine ((l3Sum _ _ y _ _ HM.out _ (keepInts (belT HV.out (by assumption)) HY.out)).mono fun _ _ => Same.adds).mono ?_; rintro e w5 ⟨rfl, hb5⟩) | (go_at_call 55; refine (l1frac _ _ (by omega) (by omega) (by omega) (by omega) (by omega) _).mono ?_; rintro e w5 ⟨rfl, hb5⟩))
        go_wp2_with fail
        have hk3 : Below wr.heap.size wr w5 := by assumption
        go_roundw
        case rel => exact ⟨k + 1, by omega, by go_num, by rw [hno.out]; exact HO.out.keep hk3, belT HV.out hk3, HC.out.of_block (hk3.block _ hw1), Nat.le_trans hws hk3.size⟩
        case measure => simp [intOf]; omega
      · rcases e2 : lowD (rowD g y k) (sumW y y.length) == b with _ | _
        · have hno : Hid (bestUpTo g y (k + 1) = bestUpTo g y k) := by
            show bestUpTo g y (k + 1) = _
            have : ¬ rowD g y k = riskN g y := fun e => by have := (BK.out.2 e).2; rw [this] at e2; simp at e2
            simp [bestUpTo, this]
          go_wp2_with fail
          go_region_held3 (fun w' => Below wr.heap.size wr w')
            (first | exact Below.refl _ _ | exact Below.drew (Below.refl _ _) | (refine Below.drew ?_; assumption) | exact belT (by assumption) (by assumption) | assumption)
            (first | (go_at_call 54; refine ((l3Row _ _ _ _ g y _ _ _ k HG.out HM.out hlt _ (keepRows (belT HV.out (by assumption)) HR.out) (keepInts (belT HV.out (by assumption)) HY.out)).mono fun _ _ => Quiet.adds).mono ?_; rintro e w5 ⟨rfl, hb5⟩) | (go_at_call 56; refine ((l3Sum _ _ y _ _ HM.out _ (keepInts (belT HV.out (by assumption)) HY.out)).mono fun _ _ => Same.adds).mono ?_; rintro e w5 ⟨rfl, hb5⟩) | (go_at_call 55; refine (l1frac _ _ (by omega) (by omega) (by omega) (by omega) (by omega) _).mono ?_; rintro e w5 ⟨rfl, hb5⟩))
          go_wp2_with fail
          have hk3 : Below wr.heap.size wr w5 := by assumption
          go_roundw
          case rel => exact ⟨k + 1, by omega, by go_num, by rw [hno.out]; exact HO.out.keep hk3, belT HV.out hk3, HC.out.of_block (hk3.block _ hw1), Nat.le_trans hws hk3.size⟩
          case measure => simp [intOf]; omega
        · have hy : Hid (bestUpTo g y (k + 1) = bestUpTo g y k ++ [(k : Int)]) := by
            show bestUpTo g y (k + 1) = _
            have : rowD g y k = riskN g y := BK.out.1 ⟨by simpa using e1, by simpa using e2⟩
            simp [bestUpTo, this]
          go_wp2_with fail
          go_region_held3 (fun w' => Below wr.heap.size wr w')
            (first | exact Below.refl _ _ | exact Below.drew (Below.refl _ _) | (refine Below.drew ?_; assumption) | exact belT (by assumption) (by assumption) | assumption)
            (first | (go_at_call 54; refine ((l3Row _ _ _ _ g y _ _ _ k HG.out HM.out hlt _ (keepRows (belT HV.out (by assumption)) HR.out) (keepInts (belT HV.out (by assumption)) HY.out)).mono fun _ _ => Quiet.adds).mono ?_; rintro e w5 ⟨rfl, hb5⟩) | (go_at_call 56; refine ((l3Sum _ _ y _ _ HM.out _ (keepInts (belT HV.out (by assumption)) HY.out)).mono fun _ _ => Same.adds).mono ?_; rintro e w5 ⟨rfl, hb5⟩) | (go_at_call 55; refine (l1frac _ _ (by omega) (by omega) (by omega) (by omega) (by omega) _).mono ?_; rintro e w5 ⟨rfl, hb5⟩))
          have hk3 : Below wr.heap.size wr w5 := by assumption
          have O3 := Lib.hid (HO.out.keep hk3)
          have V3 := belT HV.out hk3
          have hs3 := V3.size
          have hs4 := hk3.size
          have C3 := Lib.hid (HC.out.of_block (hk3.block _ hw1))
          have hw5 : w1.heap.size < w5.heap.size := by omega
          clear q00 q01
          go_wp2_with (at_builtin; refine wpList_append_own_at _ rfl (.tmp 34) (.tmp 36) _ rfl w.heap.size 3 i0 (.int .i64 0) 1 8 Try.underlying24 HI0.out HZ0.out HZ1.out HZ2.out rfl (by decide) _ _ _ rfl (O3.out.alloc _) ⟨w5.heap.size, 0, none⟩ 1 1 [.int .i64 (k : Int)] rfl rfl (cell_one_new _ _ _) ?c2 ?c3 ?c4 ?c5 ?_)
          case c2 => first | rfl | (intro u hu; simp at hu; subst hu; rfl)
          case c3 => unfold maxLen; omega
          case c4 => omega
          case c5 => first | omega | (simp; omega)
          intro v' w6 hown hgrow _ _
          have HN : Hid (Grows w6 w.heap.size v' (bestUpTo g y (k + 1))) := by rw [hy.out]; exact Grows.snoc hown
          have HV2 : Hid (Below w.heap.size w w6) := O3.out.below hgrow V3 (Nat.le_refl _) hs3
          have hC : Hid (w6.rowIs w1.heap.size 28 2 (fun i => if i = 0 then .int .i64 a else .int .i64 b)) :=
            C3.out.of_block (by rw [hgrow.block _ (by simp; omega) (fun e => Grows.ne O3.out C3.out e.symm), Below.heap_alloc _ _ _ hw5])
          have hS : W.heap.size ≤ w6.heap.size := Nat.le_trans (Nat.le_trans hws hs4) (Nat.le_trans (by simp) hgrow.size)
          clear hown hgrow
          go_wp2_with fail
          go_roundw
          case rel => exact ⟨k + 1, by omega, by go_num, HN, HV2, hC, hS⟩
          case measure => simp [intOf]; omega
    · obtain rfl : k = g.length := by omega
      have HN := HO.out
      rw [← H1.out] at HN
      have HO2 := Lib.hid HN
      clear HN
      go_wp2_with fail
      go_ret
      exact NewList.of rfl HO2.out HV.out

end Go.Proofs.Ytjojilimdhekfaa
