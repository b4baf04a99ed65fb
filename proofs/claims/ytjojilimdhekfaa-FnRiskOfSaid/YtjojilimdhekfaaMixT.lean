/- The walks of the specification's averages, of what is safe and what is risked. (Written by wip/gen/mixt.py.) -/
import Derived.Test.YtjojilimdhekfaaMixS
import Derived.Test.YtjojilimdhekfaaSaddle
import Derived.Deep.RegionHeld3
namespace Go.Proofs.Ytjojilimdhekfaa
set_option linter.unusedSimpArgs false
set_option linter.unusedVariables false
open Go.RowKit

/-- a fraction and a truth -/
abbrev FracRes (u d : Int) (b : Bool) : Value := .tuple #[.agg #[.int .i64 u, .int .i64 d], .bool b]

set_option maxHeartbeats 2000000 in
theorem safe_spec (T A : Option Addr) (c d : Nat) (g : List (List Int)) (x : List Int) (hl : g.length ≤ maxLen) (hx : x.length ≤ 4294967296) (w : World) (h : Rows2 w (· < w.heap.size) T g) (h' : Ints w (· < w.heap.size) A x) :
    Calls Try.prog 21 #[.slice T g.length c, .slice A x.length d] w (Adds (FracRes (safU g x) (safD g x) (safB g x)) w) := by
  rcases hB : safB g x with _ | _
  · have HU : Hid (safU g x = 0) := by simp [Hid, safU, hB]
    have HD : Hid (safD g x = 0) := by simp [Hid, safD, hB]
    have HB := Lib.hid hB
    rcases hb : gameB g with _ | _
    · have HG := Lib.hid hb
      have HR := Lib.hid h
      clear hb hB h
      go_enter Try.func21, Try.ntmps21
      go_wp2_with fail
      obtain ⟨W, hW⟩ : ∃ W : World, W = (w.alloc (.cells #[(Value.int .i64 0), (Value.int .i64 0)] 28)) := ⟨_, rfl⟩
      have hzW : W.heap.size = w.heap.size + 1 := by rw [hW]; simp
      have hbW : Below w.heap.size w W := by rw [hW]; exact (by repeat (first | exact Below.refl _ _ | assumption | exact bel1 (by assumption) | exact bel2 (by assumption) | exact bel3 (by assumption) | exact bel4 (by assumption) | refine Below.drew ?_ | refine below_drewN ?_ _ | refine Below.setCell ?_ (by first | (simp; done) | (simp; omega)) _ | refine Below.alloc ?_ (by first | (simp; done) | (simp; omega)) _))
      have r00 := stays (p := w.heap.size) (o := 0) (by omega) (show W.cell? ⟨w.heap.size, 0, none⟩ = some ((Value.int .i64 0)) from by rw [hW]; simp [go_sem])
      have g00 := staysF (p := w.heap.size) (o := 0) (by omega) (show W.frozen? ⟨w.heap.size, 0, none⟩ = false from by rw [hW]; simp [go_sem])
      have r01 := stays (p := w.heap.size) (o := 1) (by omega) (show W.cell? ⟨w.heap.size, 1, none⟩ = some ((Value.int .i64 0)) from by rw [hW]; simp [go_sem])
      have g01 := staysF (p := w.heap.size) (o := 1) (by omega) (show W.frozen? ⟨w.heap.size, 1, none⟩ = false from by rw [hW]; simp [go_sem])
      rw [← hW]
      clear hW
      have HzW := Lib.hid hzW
      clear hzW
      refine (game_spec _ _ _ _ hl _ (keepRows hbW HR.out)).mono ?_
      rintro e w1 ⟨rfl, n1, rfl⟩
      rw [HG.out]
      have hk : Below W.heap.size W (W.drewN n1) := below_drewN (Below.refl _ _) n1
      go_wp2_with fail
      refine bodyPost_ret (v := .tuple #[.agg #[.int .i64 0, .int .i64 0], .bool false]) (by simp [results, Try.results21, go_sem, r00 _ hk, r01 _ hk]) rfl ⟨by rw [HU.out, HD.out]; try rfl, ?_⟩
      exact ((below_drewN hbW n1).setCell (Nat.le_refl _) _).setCell (Nat.le_refl _) _
    · have hm : mixB x (g.length : Int) = false := by simpa [safB, hb] using hB
      have hg := Game.of hb
      have hg1 := hg.lo
      obtain ⟨bt, ot, rfl⟩ := h.some (by omega)
      have HG := Lib.hid hb
      have HMX := Lib.hid hm
      have HR := Lib.hid h
      have HX := Lib.hid h'
      clear hb hB h hm h' hg
      go_enter Try.func21, Try.ntmps21
      go_wp2_with fail
      obtain ⟨W, hW⟩ : ∃ W : World, W = (w.alloc (.cells #[(Value.int .i64 0), (Value.int .i64 0)] 28)) := ⟨_, rfl⟩
      have hzW : W.heap.size = w.heap.size + 1 := by rw [hW]; simp
      have hbW : Below w.heap.size w W := by rw [hW]; exact (by repeat (first | exact Below.refl _ _ | assumption | exact bel1 (by assumption) | exact bel2 (by assumption) | exact bel3 (by assumption) | exact bel4 (by assumption) | refine Below.drew ?_ | refine below_drewN ?_ _ | refine Below.setCell ?_ (by first | (simp; done) | (simp; omega)) _ | refine Below.alloc ?_ (by first | (simp; done) | (simp; omega)) _))
      have r00 := stays (p := w.heap.size) (o := 0) (by omega) (show W.cell? ⟨w.heap.size, 0, none⟩ = some ((Value.int .i64 0)) from by rw [hW]; simp [go_sem])
      have g00 := staysF (p := w.heap.size) (o := 0) (by omega) (show W.frozen? ⟨w.heap.size, 0, none⟩ = false from by rw [hW]; simp [go_sem])
      have r01 := stays (p := w.heap.size) (o := 1) (by omega) (show W.cell? ⟨w.heap.size, 1, none⟩ = some ((Value.int .i64 0)) from by rw [hW]; simp [go_sem])
      have g01 := staysF (p := w.heap.size) (o := 1) (by omega) (show W.frozen? ⟨w.heap.size, 1, none⟩ = false from by rw [hW]; simp [go_sem])
      rw [← hW]
      clear hW
      have HzW := Lib.hid hzW
      clear hzW
      have RW := Lib.hid (keepRows hbW HR.out)
      obtain ⟨hS, A0, c0, hc0, hl0, hm0, _⟩ := RW.out.row (i := 0) (by omega)
      rw [Nat.add_zero] at hc0
      unfold maxLen at hm0
      refine (game_spec _ _ _ _ hl _ RW.out).mono ?_
      rintro e w1 ⟨rfl, n1, rfl⟩
      rw [HG.out]
      have hk : Below W.heap.size W (W.drewN n1) := below_drewN (Below.refl _ _) n1
      go_wp2_with fail
      refine (mixOk_spec _ _ x _ _ hx _ ((keepInts hbW HX.out).drewN n1)).mono ?_
      rintro e w1 ⟨rfl, rfl⟩
      rw [HMX.out]
      go_wp2_with fail
      refine bodyPost_ret (v := .tuple #[.agg #[.int .i64 0, .int .i64 0], .bool false]) (by simp [results, Try.results21, go_sem, r00 _ hk, r01 _ hk]) rfl ⟨by rw [HU.out, HD.out]; try rfl, ?_⟩
      exact ((below_drewN hbW n1).setCell (Nat.le_refl _) _).setCell (Nat.le_refl _) _
  obtain ⟨hb, hB2⟩ : gameB g = true ∧ mixB x (g.length : Int) = true := by simpa [safB] using hB
  have hg := Game.of hb
  have hmx : mixB x (g.length : Int) = true := hB2
  have hx0 := Mix.of hmx
  have hg1 := hg.lo
  have hg2 := hg.hi
  have hg3 := hg.mlo
  have hg4 := hg.mhi
  obtain ⟨bd1, bd2⟩ := safeN_bd hg hx0
  obtain ⟨sb1, sb2⟩ := hx0.sum_bd
  rw [← hx0.len] at sb1 sb2
  have HU : Hid (safU g x = lowU (safeN g x) (sumW x x.length)) := by simp [Hid, safU, hB]
  have HD : Hid (safD g x = lowD (safeN g x) (sumW x x.length)) := by simp [Hid, safD, hB]
  have HB := Lib.hid hB
  have HGB := Lib.hid hb
  have HMB := Lib.hid hmx
  have HM := Lib.hid hx0
  obtain ⟨bt, ot, rfl⟩ := h.some (by omega)
  have HR := Lib.hid h
  have HX := Lib.hid h'
  have HG := Lib.hid hg
  have HN : Hid (safeN g x = lowN (colsD g x) ((rowAt g 0).length)) := rfl
  clear hb hB hB2 h h' hg hmx hx0
  go_enter Try.func21, Try.ntmps21
  go_wp2_with fail
  obtain ⟨W, hW⟩ : ∃ W : World, W = (w.alloc (.cells #[(Value.int .i64 0), (Value.int .i64 0)] 28)) := ⟨_, rfl⟩
  have hzW : W.heap.size = w.heap.size + 1 := by rw [hW]; simp
  have hbW : Below w.heap.size w W := by rw [hW]; exact (by repeat (first | exact Below.refl _ _ | assumption | exact bel1 (by assumption) | exact bel2 (by assumption) | exact bel3 (by assumption) | exact bel4 (by assumption) | refine Below.drew ?_ | refine below_drewN ?_ _ | refine Below.setCell ?_ (by first | (simp; done) | (simp; omega)) _ | refine Below.alloc ?_ (by first | (simp; done) | (simp; omega)) _))
  have r00 := stays (p := w.heap.size) (o := 0) (by omega) (show W.cell? ⟨w.heap.size, 0, none⟩ = some ((Value.int .i64 0)) from by rw [hW]; simp [go_sem])
  have g00 := staysF (p := w.heap.size) (o := 0) (by omega) (show W.frozen? ⟨w.heap.size, 0, none⟩ = false from by rw [hW]; simp [go_sem])
  have r01 := stays (p := w.heap.size) (o := 1) (by omega) (show W.cell? ⟨w.heap.size, 1, none⟩ = some ((Value.int .i64 0)) from by rw [hW]; simp [go_sem])
  have g01 := staysF (p := w.heap.size) (o := 1) (by omega) (show W.frozen? ⟨w.heap.size, 1, none⟩ = false from by rw [hW]; simp [go_sem])
  rw [← hW]
  clear hW
  have HzW := Lib.hid hzW
  clear hzW
  have RW := Lib.hid (keepRows hbW HR.out)
  have XW := Lib.hid (keepInts hbW HX.out)
  obtain ⟨hS, A0, c0, hc0, hl0, hm0, _⟩ := RW.out.row (i := 0) (by omega)
  rw [Nat.add_zero] at hc0
  unfold maxLen at hm0
  refine (game_spec _ _ _ _ hl _ RW.out).mono ?_
  rintro e w1 ⟨rfl, n1, rfl⟩
  rw [HGB.out]
  go_wp2_with fail
  refine (mixOk_spec _ _ x _ _ hx _ (XW.out.drewN n1)).mono ?_
  rintro e w1 ⟨rfl, rfl⟩
  rw [HMB.out]
  go_wp2_with fail
  refine (l3Column _ _ _ _ g x _ _ _ 0 HG.out HM.out (by omega) _ (RW.out.drewN n1) (XW.out.drewN n1)).mono ?_
  rintro e w1 ⟨rfl, n2, rfl⟩
  go_wp2_with fail
  go_loopw [6, 7] (fun v j wr => ∃ k : Nat, 1 ≤ k ∧ k ≤ (rowAt g 0).length ∧ j = .int .i64 k ∧ v = .int .i64 (lowN (colsD g x) k) ∧ ∃ n, wr = W.drewN n) (fun _ j _ => (rowAt g 0).length - (intOf j).toNat)
  case atStart => exact ⟨1, Nat.le_refl _, by omega, rfl, by rw [lowN_one, nth_colsD g x _ (by omega)], (by first | exact ⟨0, rfl⟩ | exact ⟨_, rfl⟩ | exact ⟨_, World.drewN_drewN _ _ _⟩ | (simp only [World.drewN_drewN]; exact ⟨_, rfl⟩))⟩
  case round =>
    obtain ⟨k, hk1, hk, rfl, rfl, n, rfl⟩ := hrel
    by_cases hlt : k < (rowAt g 0).length
    · have HS : Hid (lowN (colsD g x) (k + 1) = min (lowN (colsD g x) k) (colD g x k)) := by show _ = _; simp only [lowN]; rw [nth_colsD g x k hlt]
      go_wp2_with fail
      refine (l3Column _ _ _ _ g x _ _ _ k HG.out HM.out hlt _ (RW.out.drewN n) (XW.out.drewN n)).mono ?_
      rintro e w1 ⟨rfl, n3, rfl⟩
      go_wp2_with fail
      all_goals
        go_roundw
        case rel => exact ⟨k + 1, by omega, by omega, by go_num, by rw [HS.out]; congr 1; omega, (by first | exact ⟨0, rfl⟩ | exact ⟨_, rfl⟩ | exact ⟨_, World.drewN_drewN _ _ _⟩ | (simp only [World.drewN_drewN]; exact ⟨_, rfl⟩))⟩
        case measure => simp [intOf]; omega
    · obtain rfl : k = (rowAt g 0).length := by omega
      rw [← HN.out]
      go_wp2_with fail
      refine (l3Sum _ _ x _ _ HM.out _ (XW.out.drewN n)).mono ?_
      rintro e w1 ⟨rfl, rfl⟩
      go_wp2_with fail
      refine (l1frac _ _ (by omega) (by omega) (by omega) (by omega) (by omega) _).mono ?_
      rintro e w5 ⟨rfl, hb5⟩
      have hk5 : Below W.heap.size W w5 := belT (below_drewN (Below.refl _ _) n) hb5
      clear hb5
      go_wp2_with fail
      refine bodyPost_ret (v := .tuple #[.agg #[.int .i64 (lowU (safeN g x) (sumW x x.length)), .int .i64 (lowD (safeN g x) (sumW x x.length))], .bool true]) (by simp [results, Try.results21, go_sem, r00 _ hk5, r01 _ hk5]) rfl ⟨by rw [HU.out, HD.out]; try rfl, ?_⟩
      exact ((belT hbW hk5).setCell (Nat.le_refl _) _).setCell (Nat.le_refl _) _

set_option maxHeartbeats 2000000 in
theorem risk_spec (T A : Option Addr) (c d : Nat) (g : List (List Int)) (y : List Int) (hl : g.length ≤ maxLen) (hx : y.length ≤ 4294967296) (w : World) (h : Rows2 w (· < w.heap.size) T g) (h' : Ints w (· < w.heap.size) A y) :
    Calls Try.prog 24 #[.slice T g.length c, .slice A y.length d] w (Adds (FracRes (risU g y) (risD g y) (risB g y)) w) := by
  rcases hB : risB g y with _ | _
  · have HU : Hid (risU g y = 0) := by simp [Hid, risU, hB]
    have HD : Hid (risD g y = 0) := by simp [Hid, risD, hB]
    have HB := Lib.hid hB
    rcases hb : gameB g with _ | _
    · have HG := Lib.hid hb
      have HR := Lib.hid h
      clear hb hB h
      go_enter Try.func24, Try.ntmps24
      go_wp2_with fail
      obtain ⟨W, hW⟩ : ∃ W : World, W = (w.alloc (.cells #[(Value.int .i64 0), (Value.int .i64 0)] 28)) := ⟨_, rfl⟩
      have hzW : W.heap.size = w.heap.size + 1 := by rw [hW]; simp
      have hbW : Below w.heap.size w W := by rw [hW]; exact (by repeat (first | exact Below.refl _ _ | assumption | exact bel1 (by assumption) | exact bel2 (by assumption) | exact bel3 (by assumption) | exact bel4 (by assumption) | refine Below.drew ?_ | refine below_drewN ?_ _ | refine Below.setCell ?_ (by first | (simp; done) | (simp; omega)) _ | refine Below.alloc ?_ (by first | (simp; done) | (simp; omega)) _))
      have r00 := stays (p := w.heap.size) (o := 0) (by omega) (show W.cell? ⟨w.heap.size, 0, none⟩ = some ((Value.int .i64 0)) from by rw [hW]; simp [go_sem])
      have g00 := staysF (p := w.heap.size) (o := 0) (by omega) (show W.frozen? ⟨w.heap.size, 0, none⟩ = false from by rw [hW]; simp [go_sem])
      have r01 := stays (p := w.heap.size) (o := 1) (by omega) (show W.cell? ⟨w.heap.size, 1, none⟩ = some ((Value.int .i64 0)) from by rw [hW]; simp [go_sem])
      have g01 := staysF (p := w.heap.size) (o := 1) (by omega) (show W.frozen? ⟨w.heap.size, 1, none⟩ = false from by rw [hW]; simp [go_sem])
      rw [← hW]
      clear hW
      have HzW := Lib.hid hzW
      clear hzW
      refine (game_spec _ _ _ _ hl _ (keepRows hbW HR.out)).mono ?_
      rintro e w1 ⟨rfl, n1, rfl⟩
      rw [HG.out]
      have hk : Below W.heap.size W (W.drewN n1) := below_drewN (Below.refl _ _) n1
      go_wp2_with fail
      refine bodyPost_ret (v := .tuple #[.agg #[.int .i64 0, .int .i64 0], .bool false]) (by simp [results, Try.results24, go_sem, r00 _ hk, r01 _ hk]) rfl ⟨by rw [HU.out, HD.out]; try rfl, ?_⟩
      exact ((below_drewN hbW n1).setCell (Nat.le_refl _) _).setCell (Nat.le_refl _) _
    · have hm : mixB y ((rowAt g 0).length : Int) = false := by simpa [risB, hb] using hB
      have hg := Game.of hb
      have hg1 := hg.lo
      obtain ⟨bt, ot, rfl⟩ := h.some (by omega)
      have HG := Lib.hid hb
      have HMX := Lib.hid hm
      have HR := Lib.hid h
      have HX := Lib.hid h'
      clear hb hB h hm h' hg
      go_enter Try.func24, Try.ntmps24
      go_wp2_with fail
      obtain ⟨W, hW⟩ : ∃ W : World, W = (w.alloc (.cells #[(Value.int .i64 0), (Value.int .i64 0)] 28)) := ⟨_, rfl⟩
      have hzW : W.heap.size = w.heap.size + 1 := by rw [hW]; simp
      have hbW : Below w.heap.size w W := by rw [hW]; exact (by repeat (first | exact Below.refl _ _ | assumption | exact bel1 (by assumption) | exact bel2 (by assumption) | exact bel3 (by assumption) | exact bel4 (by assumption) | refine Below.drew ?_ | refine below_drewN ?_ _ | refine Below.setCell ?_ (by first | (simp; done) | (simp; omega)) _ | refine Below.alloc ?_ (by first | (simp; done) | (simp; omega)) _))
      have r00 := stays (p := w.heap.size) (o := 0) (by omega) (show W.cell? ⟨w.heap.size, 0, none⟩ = some ((Value.int .i64 0)) from by rw [hW]; simp [go_sem])
      have g00 := staysF (p := w.heap.size) (o := 0) (by omega) (show W.frozen? ⟨w.heap.size, 0, none⟩ = false from by rw [hW]; simp [go_sem])
      have r01 := stays (p := w.heap.size) (o := 1) (by omega) (show W.cell? ⟨w.heap.size, 1, none⟩ = some ((Value.int .i64 0)) from by rw [hW]; simp [go_sem])
      have g01 := staysF (p := w.heap.size) (o := 1) (by omega) (show W.frozen? ⟨w.heap.size, 1, none⟩ = false from by rw [hW]; simp [go_sem])
      rw [← hW]
      clear hW
      have HzW := Lib.hid hzW
      clear hzW
      have RW := Lib.hid (keepRows hbW HR.out)
      obtain ⟨hS, A0, c0, hc0, hl0, hm0, _⟩ := RW.out.row (i := 0) (by omega)
      rw [Nat.add_zero] at hc0
      unfold maxLen at hm0
      refine (game_spec _ _ _ _ hl _ RW.out).mono ?_
      rintro e w1 ⟨rfl, n1, rfl⟩
      rw [HG.out]
      have hk : Below W.heap.size W (W.drewN n1) := below_drewN (Below.refl _ _) n1
      go_wp2_with fail
      refine (mixOk_spec _ _ y _ _ hx _ ((keepInts hbW HX.out).drewN n1)).mono ?_
      rintro e w1 ⟨rfl, rfl⟩
      rw [HMX.out]
      go_wp2_with fail
      refine bodyPost_ret (v := .tuple #[.agg #[.int .i64 0, .int .i64 0], .bool false]) (by simp [results, Try.results24, go_sem, r00 _ hk, r01 _ hk]) rfl ⟨by rw [HU.out, HD.out]; try rfl, ?_⟩
      exact ((below_drewN hbW n1).setCell (Nat.le_refl _) _).setCell (Nat.le_refl _) _
  obtain ⟨hb, hB2⟩ : gameB g = true ∧ mixB y ((rowAt g 0).length : Int) = true := by simpa [risB] using hB
  have hg := Game.of hb
  have hmx : mixB y ((rowAt g 0).length : Int) = true := hB2
  have hx0 := Mix.of hmx
  have hg1 := hg.lo
  have hg2 := hg.hi
  have hg3 := hg.mlo
  have hg4 := hg.mhi
  obtain ⟨bd1, bd2⟩ := riskN_bd hg hx0
  obtain ⟨sb1, sb2⟩ := hx0.sum_bd
  rw [← hx0.len] at sb1 sb2
  have HU : Hid (risU g y = lowU (riskN g y) (sumW y y.length)) := by simp [Hid, risU, hB]
  have HD : Hid (risD g y = lowD (riskN g y) (sumW y y.length)) := by simp [Hid, risD, hB]
  have HB := Lib.hid hB
  have HGB := Lib.hid hb
  have HMB := Lib.hid hmx
  have HM := Lib.hid hx0
  obtain ⟨bt, ot, rfl⟩ := h.some (by omega)
  have HR := Lib.hid h
  have HX := Lib.hid h'
  have HG := Lib.hid hg
  have HN : Hid (riskN g y = highN (rowsD g y) (g.length)) := rfl
  clear hb hB hB2 h h' hg hmx hx0
  go_enter Try.func24, Try.ntmps24
  go_wp2_with fail
  obtain ⟨W, hW⟩ : ∃ W : World, W = (w.alloc (.cells #[(Value.int .i64 0), (Value.int .i64 0)] 28)) := ⟨_, rfl⟩
  have hzW : W.heap.size = w.heap.size + 1 := by rw [hW]; simp
  have hbW : Below w.heap.size w W := by rw [hW]; exact (by repeat (first | exact Below.refl _ _ | assumption | exact bel1 (by assumption) | exact bel2 (by assumption) | exact bel3 (by assumption) | exact bel4 (by assumption) | refine Below.drew ?_ | refine below_drewN ?_ _ | refine Below.setCell ?_ (by first | (simp; done) | (simp; omega)) _ | refine Below.alloc ?_ (by first | (simp; done) | (simp; omega)) _))
  have r00 := stays (p := w.heap.size) (o := 0) (by omega) (show W.cell? ⟨w.heap.size, 0, none⟩ = some ((Value.int .i64 0)) from by rw [hW]; simp [go_sem])
  have g00 := staysF (p := w.heap.size) (o := 0) (by omega) (show W.frozen? ⟨w.heap.size, 0, none⟩ = false from by rw [hW]; simp [go_sem])
  have r01 := stays (p := w.heap.size) (o := 1) (by omega) (show W.cell? ⟨w.heap.size, 1, none⟩ = some ((Value.int .i64 0)) from by rw [hW]; simp [go_sem])
  have g01 := staysF (p := w.heap.size) (o := 1) (by omega) (show W.frozen? ⟨w.heap.size, 1, none⟩ = false from by rw [hW]; simp [go_sem])
  rw [← hW]
  clear hW
  have HzW := Lib.hid hzW
  clear hzW
  have RW := Lib.hid (keepRows hbW HR.out)
  have XW := Lib.hid (keepInts hbW HX.out)
  obtain ⟨hS, A0, c0, hc0, hl0, hm0, _⟩ := RW.out.row (i := 0) (by omega)
  rw [Nat.add_zero] at hc0
  unfold maxLen at hm0
  refine (game_spec _ _ _ _ hl _ RW.out).mono ?_
  rintro e w1 ⟨rfl, n1, rfl⟩
  rw [HGB.out]
  go_wp2_with fail
  refine (mixOk_spec _ _ y _ _ hx _ (XW.out.drewN n1)).mono ?_
  rintro e w1 ⟨rfl, rfl⟩
  rw [HMB.out]
  go_wp2_with fail
  refine (l3Row _ _ _ _ g y _ _ _ 0 HG.out HM.out (by omega) _ (RW.out.drewN n1) (XW.out.drewN n1)).mono ?_
  rintro e w1 ⟨rfl, n2, rfl⟩
  go_wp2_with fail
  go_loopw [6, 7] (fun v j wr => ∃ k : Nat, 1 ≤ k ∧ k ≤ g.length ∧ j = .int .i64 k ∧ v = .int .i64 (highN (rowsD g y) k) ∧ ∃ n, wr = W.drewN n) (fun _ j _ => g.length - (intOf j).toNat)
  case atStart => exact ⟨1, Nat.le_refl _, by omega, rfl, by rw [highN_one, nth_rowsD g y _ (by omega)], (by first | exact ⟨0, rfl⟩ | exact ⟨_, rfl⟩ | exact ⟨_, World.drewN_drewN _ _ _⟩ | (simp only [World.drewN_drewN]; exact ⟨_, rfl⟩))⟩
  case round =>
    obtain ⟨k, hk1, hk, rfl, rfl, n, rfl⟩ := hrel
    by_cases hlt : k < g.length
    · have HS : Hid (highN (rowsD g y) (k + 1) = max (highN (rowsD g y) k) (rowD g y k)) := by show _ = _; simp only [highN]; rw [nth_rowsD g y k hlt]
      go_wp2_with fail
      refine (l3Row _ _ _ _ g y _ _ _ k HG.out HM.out hlt _ (RW.out.drewN n) (XW.out.drewN n)).mono ?_
      rintro e w1 ⟨rfl, n3, rfl⟩
      go_wp2_with fail
      all_goals
        go_roundw
        case rel => exact ⟨k + 1, by omega, by omega, by go_num, by rw [HS.out]; congr 1; omega, (by first | exact ⟨0, rfl⟩ | exact ⟨_, rfl⟩ | exact ⟨_, World.drewN_drewN _ _ _⟩ | (simp only [World.drewN_drewN]; exact ⟨_, rfl⟩))⟩
        case measure => simp [intOf]; omega
    · obtain rfl : k = g.length := by omega
      rw [← HN.out]
      go_wp2_with fail
      refine (l3Sum _ _ y _ _ HM.out _ (XW.out.drewN n)).mono ?_
      rintro e w1 ⟨rfl, rfl⟩
      go_wp2_with fail
      refine (l1frac _ _ (by omega) (by omega) (by omega) (by omega) (by omega) _).mono ?_
      rintro e w5 ⟨rfl, hb5⟩
      have hk5 : Below W.heap.size W w5 := belT (below_drewN (Below.refl _ _) n) hb5
      clear hb5
      go_wp2_with fail
      refine bodyPost_ret (v := .tuple #[.agg #[.int .i64 (lowU (riskN g y) (sumW y y.length)), .int .i64 (lowD (riskN g y) (sumW y y.length))], .bool true]) (by simp [results, Try.results24, go_sem, r00 _ hk5, r01 _ hk5]) rfl ⟨by rw [HU.out, HD.out]; try rfl, ?_⟩
      exact ((belT hbW hk5).setCell (Nat.le_refl _) _).setCell (Nat.le_refl _) _

set_option maxHeartbeats 1000000 in
theorem fits_spec (T A B : Option Addr) (c d e : Nat) (g : List (List Int)) (x y : List Int) (S S1 S2 : Nat → Prop) (hl : g.length ≤ maxLen) (hx : x.length ≤ 4294967296) (hy : y.length ≤ 4294967296) (w : World) (h : Rows2 w S T g) (h1 : Ints w S1 A x) (h2 : Ints w S2 B y) :
    Calls Try.prog 53 #[.slice T g.length c, .slice A x.length d, .slice B y.length e] w (Quiet (.bool (fitB g x y)) w) := by
  rcases hb : gameB g with _ | _
  · have HF : Hid (fitB g x y = false) := by simp [Hid, fitB, hb]
    have HG := Lib.hid hb
    clear hb
    go_enter Try.func53, Try.ntmps53
    go_wp2_with fail
    refine (game_spec _ _ _ _ hl _ h).mono ?_
    rintro e w1 ⟨rfl, n1, rfl⟩
    rw [HG.out]
    go_wp2_with fail
    go_ret
    exact Quiet.ofD (by rw [HF.out]; rfl) (by first | exact ⟨0, rfl⟩ | exact ⟨_, rfl⟩ | exact ⟨_, World.drewN_drewN _ _ _⟩ | (simp only [World.drewN_drewN]; exact ⟨_, rfl⟩))
  have hg := Game.of hb
  have hg1 := hg.lo
  obtain ⟨bt, ot, rfl⟩ := h.some (by omega)
  rcases hm : mixB x (g.length : Int) with _ | _
  · have HF : Hid (fitB g x y = false) := by simp [Hid, fitB, hm]
    have HG := Lib.hid hb
    have HM := Lib.hid hm
    clear hb hm hg
    go_enter Try.func53, Try.ntmps53
    go_wp2_with fail
    refine (game_spec _ _ _ _ hl _ h).mono ?_
    rintro e w1 ⟨rfl, n1, rfl⟩
    rw [HG.out]
    go_wp2_with fail
    refine (mixOk_spec _ _ x _ _ hx _ (h1.drewN n1)).mono ?_
    rintro e w1 ⟨rfl, rfl⟩
    rw [HM.out]
    go_wp2_with fail
    go_ret
    exact Quiet.ofD (by rw [HF.out]; rfl) (by first | exact ⟨0, rfl⟩ | exact ⟨_, rfl⟩ | exact ⟨_, World.drewN_drewN _ _ _⟩ | (simp only [World.drewN_drewN]; exact ⟨_, rfl⟩))
  have HF : Hid (fitB g x y = mixB y ((rowAt g 0).length : Int)) := by simp [Hid, fitB, hb, hm]
  have HG := Lib.hid hb
  have HM := Lib.hid hm
  obtain ⟨hS, A0, c0, hc0, hl0, hm0, _⟩ := h.row (i := 0) (by omega)
  rw [Nat.add_zero] at hc0
  unfold maxLen at hm0
  clear hb hm hg
  go_enter Try.func53, Try.ntmps53
  go_wp2_with fail
  refine (game_spec _ _ _ _ hl _ h).mono ?_
  rintro e w1 ⟨rfl, n1, rfl⟩
  rw [HG.out]
  go_wp2_with fail
  refine (mixOk_spec _ _ x _ _ hx _ (h1.drewN n1)).mono ?_
  rintro e w1 ⟨rfl, rfl⟩
  rw [HM.out]
  go_wp2_with fail
  refine (mixOk_spec _ _ y _ _ hy _ (h2.drewN n1)).mono ?_
  rintro e w1 ⟨rfl, rfl⟩
  go_wp2_with fail
  go_ret
  exact Quiet.ofD (by rw [HF.out]; rfl) (by first | exact ⟨0, rfl⟩ | exact ⟨_, rfl⟩ | exact ⟨_, World.drewN_drewN _ _ _⟩ | (simp only [World.drewN_drewN]; exact ⟨_, rfl⟩))

/-- what a table and two mixtures are, if they fit -/
theorem fit_of {g : List (List Int)} {x y : List Int} (h : fitB g x y = true) : Game g (rowAt g 0).length ∧ Mix x g.length ∧ Mix y (rowAt g 0).length := by
  simp only [fitB, Bool.and_eq_true] at h
  exact ⟨Game.of h.1.1, Mix.of h.1.2, Mix.of h.2⟩

set_option maxHeartbeats 2000000 in
theorem avg_spec (T A B : Option Addr) (c d e : Nat) (g : List (List Int)) (x y : List Int) (hl : g.length ≤ maxLen) (hx : x.length ≤ 4294967296) (hy : y.length ≤ 4294967296) (w : World) (h : Rows2 w (· < w.heap.size) T g) (h1 : Ints w (· < w.heap.size) A x) (h2 : Ints w (· < w.heap.size) B y) :
    Calls Try.prog 15 #[.slice T g.length c, .slice A x.length d, .slice B y.length e] w (Adds (FracRes (avgU g x y) (avgD g x y) (avgB g x y)) w) := by
  have HR := Lib.hid h
  have HX := Lib.hid h1
  have HY := Lib.hid h2
  clear h h1 h2
  rcases hf : fitB g x y with _ | _
  · have hB : avgB g x y = false := by simp [avgB, hf]
    have HU : Hid (avgU g x y = 0) := by simp [Hid, avgU, hB]
    have HD : Hid (avgD g x y = 0) := by simp [Hid, avgD, hB]
    have HB := Lib.hid hB
    have HF := Lib.hid hf
    clear hf hB
    go_enter Try.func15, Try.ntmps15
    go_wp2_with fail
    obtain ⟨W, hW⟩ : ∃ W : World, W = (w.alloc (.cells #[(Value.int .i64 0), (Value.int .i64 0)] 28)) := ⟨_, rfl⟩
    have hzW : W.heap.size = w.heap.size + 1 := by rw [hW]; simp
    have hbW : Below w.heap.size w W := by rw [hW]; exact (by repeat (first | exact Below.refl _ _ | assumption | exact bel1 (by assumption) | exact bel2 (by assumption) | exact bel3 (by assumption) | exact bel4 (by assumption) | refine Below.drew ?_ | refine below_drewN ?_ _ | refine Below.setCell ?_ (by first | (simp; done) | (simp; omega)) _ | refine Below.alloc ?_ (by first | (simp; done) | (simp; omega)) _))
    have r00 := stays (p := w.heap.size) (o := 0) (by omega) (show W.cell? ⟨w.heap.size, 0, none⟩ = some ((Value.int .i64 0)) from by rw [hW]; simp [go_sem])
    have g00 := staysF (p := w.heap.size) (o := 0) (by omega) (show W.frozen? ⟨w.heap.size, 0, none⟩ = false from by rw [hW]; simp [go_sem])
    have r01 := stays (p := w.heap.size) (o := 1) (by omega) (show W.cell? ⟨w.heap.size, 1, none⟩ = some ((Value.int .i64 0)) from by rw [hW]; simp [go_sem])
    have g01 := staysF (p := w.heap.size) (o := 1) (by omega) (show W.frozen? ⟨w.heap.size, 1, none⟩ = false from by rw [hW]; simp [go_sem])
    rw [← hW]
    clear hW
    have HzW := Lib.hid hzW
    clear hzW
    refine (fits_spec _ _ _ _ _ _ g x y _ _ _ hl hx hy _ (keepRows hbW HR.out) (keepInts hbW HX.out) (keepInts hbW HY.out)).mono ?_
    rintro e w1 ⟨rfl, n1, rfl⟩
    rw [HF.out]
    have hk : Below W.heap.size W (W.drewN n1) := below_drewN (Below.refl _ _) n1
    go_wp2_with fail
    refine bodyPost_ret (v := .tuple #[.agg #[.int .i64 0, .int .i64 0], .bool false]) (by simp [results, Try.results15, go_sem, r00 _ hk, r01 _ hk]) rfl ⟨by rw [HU.out, HD.out, HB.out], ?_⟩
    exact ((below_drewN hbW n1).setCell (Nat.le_refl _) _).setCell (Nat.le_refl _) _
  obtain ⟨hg, hmx, hmy⟩ := fit_of hf
  have hg1 := hg.lo
  have hg2 := hg.hi
  obtain ⟨sx1, sx2⟩ := hmx.sum_bd
  obtain ⟨sy1, sy2⟩ := hmy.sum_bd
  have hlx := hmx.len
  have hly := hmy.len
  rw [← hlx] at sx1 sx2
  rw [← hly] at sy1 sy2
  have hp1 : 1 ≤ sumW x x.length * sumW y y.length := by have := Int.mul_pos (show 0 < sumW x x.length by omega) (show 0 < sumW y y.length by omega); omega
  have hp2 : sumW x x.length * sumW y y.length ≤ 2560000000000 := Int.le_trans (Int.mul_le_mul sx2 sy2 (by omega) (by omega)) (by omega)
  obtain ⟨bt1, bt2⟩ := totN_bd hg hmx hmy x.length (by omega)
  have HF := Lib.hid hf
  have HG := Lib.hid hg
  have HMX := Lib.hid hmx
  have HMY := Lib.hid hmy
  have HLX := Lib.hid hlx
  have HN : Hid (lowU (totN g x y x.length) (sumW x x.length * sumW y y.length) = avN g x y) := rfl
  have HM : Hid (lowD (totN g x y x.length) (sumW x x.length * sumW y y.length) = avM g x y) := rfl
  have HU : Hid (avgU g x y = if okB (avN g x y) (avM g x y) = true then avN g x y else 0) := by simp [Hid, avgU, avgB, hf]
  have HD : Hid (avgD g x y = if okB (avN g x y) (avM g x y) = true then avM g x y else 0) := by simp [Hid, avgD, avgB, hf]
  have HB : Hid (avgB g x y = okB (avN g x y) (avM g x y)) := by simp [Hid, avgB, hf]
  clear hf hg hmx hmy hlx hly
  go_enter Try.func15, Try.ntmps15
  go_wp2_with fail
  obtain ⟨W, hW⟩ : ∃ W : World, W = (w.alloc (.cells #[(Value.int .i64 0), (Value.int .i64 0)] 28)) := ⟨_, rfl⟩
  have hzW : W.heap.size = w.heap.size + 1 := by rw [hW]; simp
  have hbW : Below w.heap.size w W := by rw [hW]; exact (by repeat (first | exact Below.refl _ _ | assumption | exact bel1 (by assumption) | exact bel2 (by assumption) | exact bel3 (by assumption) | exact bel4 (by assumption) | refine Below.drew ?_ | refine below_drewN ?_ _ | refine Below.setCell ?_ (by first | (simp; done) | (simp; omega)) _ | refine Below.alloc ?_ (by first | (simp; done) | (simp; omega)) _))
  have r00 := stays (p := w.heap.size) (o := 0) (by omega) (show W.cell? ⟨w.heap.size, 0, none⟩ = some ((Value.int .i64 0)) from by rw [hW]; simp [go_sem])
  have g00 := staysF (p := w.heap.size) (o := 0) (by omega) (show W.frozen? ⟨w.heap.size, 0, none⟩ = false from by rw [hW]; simp [go_sem])
  have r01 := stays (p := w.heap.size) (o := 1) (by omega) (show W.cell? ⟨w.heap.size, 1, none⟩ = some ((Value.int .i64 0)) from by rw [hW]; simp [go_sem])
  have g01 := staysF (p := w.heap.size) (o := 1) (by omega) (show W.frozen? ⟨w.heap.size, 1, none⟩ = false from by rw [hW]; simp [go_sem])
  rw [← hW]
  clear hW
  have HzW := Lib.hid hzW
  clear hzW
  have RW := Lib.hid (keepRows hbW HR.out)
  have XW := Lib.hid (keepInts hbW HX.out)
  have YW := Lib.hid (keepInts hbW HY.out)
  refine (fits_spec _ _ _ _ _ _ g x y _ _ _ hl hx hy _ RW.out XW.out YW.out).mono ?_
  rintro e w1 ⟨rfl, n1, rfl⟩
  rw [HF.out]
  go_wp2_with fail
  go_loopw [8, 9] (fun v i wr => ∃ k : Nat, k ≤ x.length ∧ i = .int .i64 k ∧ v = .int .i64 (totN g x y k) ∧ ∃ n, wr = W.drewN n) (fun _ i _ => x.length - (intOf i).toNat)
  case atStart => exact ⟨0, Nat.zero_le _, rfl, rfl, (by first | exact ⟨0, rfl⟩ | exact ⟨_, rfl⟩ | exact ⟨_, World.drewN_drewN _ _ _⟩ | (simp only [World.drewN_drewN]; exact ⟨_, rfl⟩))⟩
  case round =>
    obtain ⟨k, hk, rfl, rfl, n, rfl⟩ := hrel
    by_cases hlt : k < x.length
    · have hlg : k < g.length := by rw [← HLX.out]; exact hlt
      obtain ⟨bx, ox, rfl, hSx, hcx⟩ := XW.out.at_ hlt
      have hcx := hcx k hlt
      obtain ⟨b1, b2⟩ := totN_bd HG.out HMX.out HMY.out k (by omega)
      obtain ⟨r1, r2⟩ := rowD_bd HG.out HMY.out k hlg
      obtain ⟨p1, p2⟩ := prod_bd (HMX.out.wlo k hlg) (HMX.out.whi k hlg) r1 r2 (by omega)
      have HT : Hid (totN g x y (k + 1) = totN g x y k + nth x k * rowD g y k) := by show dotW _ _ k + _ = _; rw [nth_rowsD g y k hlg]; rfl
      have x1 : IntKind.i64.wrap (nth x k * rowD g y k) = nth x k * rowD g y k := IntWalk.i64_in _ (by omega)
      have x2 : IntKind.i64.wrap (totN g x y k + nth x k * rowD g y k) = totN g x y k + nth x k * rowD g y k := IntWalk.i64_in _ (by omega)
      have q2 : (k : Int) < (x.length : Int) := by omega
      have q4 : (0 : Int) ≤ (k : Int) := by omega
      clear r1 r2 sx1 sx2 sy1 sy2 hp1 hp2 bt1 bt2
      go_wp2_with fail
      go_quiet ((go_at_call 54; first | exact quietAdd (l3Row _ _ _ _ g y _ _ _ k HG.out HMY.out hlg _ (RW.out.drewN _) (YW.out.drewN _)) | exact quietOne (l3Row _ _ _ _ g y _ _ _ k HG.out HMY.out hlg _ (RW.out.drewN _) (YW.out.drewN _))))
      clear x1 x2
      go_wp2_with fail
      go_roundw
      case rel => exact ⟨k + 1, by omega, by go_num, by rw [HT.out], (by first | exact ⟨0, rfl⟩ | exact ⟨_, rfl⟩ | exact ⟨_, World.drewN_drewN _ _ _⟩ | (simp only [World.drewN_drewN]; exact ⟨_, rfl⟩))⟩
      case measure => simp [intOf]; omega
    · obtain rfl : k = x.length := by omega
      go_wp2_with fail
      refine (l3Sum _ _ x _ _ HMX.out _ (XW.out.drewN n)).mono ?_
      rintro e w1 ⟨rfl, rfl⟩
      go_wp2_with fail
      refine (l3Sum _ _ y _ _ HMY.out _ (YW.out.drewN n)).mono ?_
      rintro e w1 ⟨rfl, rfl⟩
      go_wp2_with fail
      refine (l1frac _ _ (by omega) (by omega) (by omega) (by omega) (by omega) _).mono ?_
      rintro e w5 ⟨rfl, hb5⟩
      rw [HN.out, HM.out]
      have hk5 : Below W.heap.size W w5 := belT (below_drewN (Below.refl _ _) n) hb5
      clear hb5
      go_wp2_with fail
      obtain ⟨V, hV⟩ : ∃ V : World, V = (w5.alloc (.cells #[(Value.int .i64 (avN g x y)), (Value.int .i64 (avM g x y))] 28)) := ⟨_, rfl⟩
      have hzV : V.heap.size = w5.heap.size + 1 := by rw [hV]; simp
      have hbV : Below w5.heap.size w5 V := by rw [hV]; exact (by repeat (first | exact Below.refl _ _ | assumption | exact bel1 (by assumption) | exact bel2 (by assumption) | exact bel3 (by assumption) | exact bel4 (by assumption) | refine Below.drew ?_ | refine below_drewN ?_ _ | refine Below.setCell ?_ (by first | (simp; done) | (simp; omega)) _ | refine Below.alloc ?_ (by first | (simp; done) | (simp; omega)) _))
      have s00 := stays (p := w5.heap.size) (o := 0) (by omega) (show V.cell? ⟨w5.heap.size, 0, none⟩ = some ((Value.int .i64 (avN g x y))) from by rw [hV]; simp [go_sem])
      have s01 := stays (p := w5.heap.size) (o := 1) (by omega) (show V.cell? ⟨w5.heap.size, 1, none⟩ = some ((Value.int .i64 (avM g x y))) from by rw [hV]; simp [go_sem])
      rw [← hV]
      clear hV
      have HzV := Lib.hid hzV
      clear hzV
      refine (fracOk_spec _ _ _).mono ?_
      rintro e w6 ⟨rfl, hb6⟩
      have hk6 : Below W.heap.size W w6 := belT hk5 (belT hbV hb6)
      rcases ho : okB (avN g x y) (avM g x y) with _ | _
      · rw [ho] at HU HD HB
        clear ho
        go_wp2_with fail
        refine bodyPost_ret (v := .tuple #[.agg #[.int .i64 0, .int .i64 0], .bool false]) (by simp [results, Try.results15, go_sem, r00 _ hk6, r01 _ hk6]) rfl ⟨by rw [HU.out, HD.out, HB.out]; rfl, ?_⟩
        exact ((belT hbW hk6).setCell (Nat.le_refl _) _).setCell (Nat.le_refl _) _
      · rw [ho] at HU HD HB
        clear ho
        go_wp2_with fail
        refine bodyPost_ret (v := .tuple #[.agg #[.int .i64 (avN g x y), .int .i64 (avM g x y)], .bool true]) (by simp [results, Try.results15, go_sem, r00 _ hk6, r01 _ hk6]) rfl ⟨by rw [HU.out, HD.out, HB.out]; rfl, ?_⟩
        exact ((belT hbW hk6).setCell (Nat.le_refl _) _).setCell (Nat.le_refl _) _

end Go.Proofs.Ytjojilimdhekfaa
