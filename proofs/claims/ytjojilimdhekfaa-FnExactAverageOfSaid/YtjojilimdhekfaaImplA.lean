/- The walks of the program's mixtures: MixOk, SafeOf, RiskOf, SettledOk. (Written by wip/gen/impl3.py.) -/
import Derived.Test.YtjojilimdhekfaaWeighB
namespace Go.Proofs.Ytjojilimdhekfaa
set_option linter.unusedSimpArgs false
set_option linter.unusedVariables false
open Go.RowKit

set_option maxHeartbeats 400000 in
theorem sideOkI (n : Int) (w : World) :
    Calls Try.prog 84 #[.int .i64 n] w (Same (.bool (inR n 1 16)) w) := by
  by_cases h1 : 1 ≤ n
  · by_cases h2 : n ≤ 16
    · have hf : inR n 1 16 = true := by simp [inR, h1, h2]
      rw [hf]
      go_enter Try.func84, Try.ntmps84
      go_wp2
      go_ret
      exact Same.of (by simp; try omega)
    · have hf : inR n 1 16 = false := by simp [inR, h2]
      rw [hf]
      go_enter Try.func84, Try.ntmps84
      go_wp2
      go_ret
      exact Same.of (by simp; try omega)
  · have hf : inR n 1 16 = false := by simp [inR, h1]
    rw [hf]
    have hd : decide ((1 : Int) ≤ n) = false := by simp; omega
    go_enter Try.func84, Try.ntmps84
    go_wp2
    go_ret
    exact Same.of (by simp; try omega)

set_option maxHeartbeats 1000000 in
theorem mixOk_impl (A : Option Addr) (c : Nat) (l : List Int) (many : Int) (S : Nat → Prop) (hl : l.length ≤ 4294967296) (w : World) (h : Ints w S A l) :
    Calls Try.prog 74 #[.slice A l.length c, .int .i64 many] w (Same (.bool (mixB l many)) w) := by
  have HH := Lib.hid h
  clear h
  rcases h4 : inR many 1 16 with _ | _
  · have hno : Hid (mixB l many = false) := by simp [Hid, mixB, h4]
    have H4 := Lib.hid h4
    clear h4
    go_enter Try.func74, Try.ntmps74
    go_wp2_with (go_at_call 84; refine (sideOkI _ _).mono ?_; rintro e w1 ⟨rfl, rfl⟩; rw [H4.out])
    go_ret
    exact Same.of (by rw [hno.out]; rfl)
  have H4 := Lib.hid h4
  clear h4
  rcases h5 : ((l.length : Int) == many) with _ | _
  · have hno : Hid (mixB l many = false) := by simp only [Hid, mixB, h5]; simp
    have h6 : ((l.length : Int) != many) = true := by simp [bne, h5]
    clear h5
    go_enter Try.func74, Try.ntmps74
    go_wp2_with (go_at_call 84; refine (sideOkI _ _).mono ?_; rintro e w1 ⟨rfl, rfl⟩; rw [H4.out])
    all_goals
      go_ret
      exact Same.of (by rw [hno.out]; rfl)
  have H5 := Lib.hid h5
  have h6 : ((l.length : Int) != many) = false := by simp [bne, h5]
  clear h5
  go_enter Try.func74, Try.ntmps74
  go_wp2_with (go_at_call 84; refine (sideOkI _ _).mono ?_; rintro e w1 ⟨rfl, rfl⟩; rw [H4.out])
  go_loop [5, 19] (fun v i => ∃ k : Nat, k ≤ l.length ∧ i = .int .i64 k ∧ v = .bool (decide (0 < sumW l k)) ∧ Hid (wsB l k = true)) (fun _ i => l.length - (intOf i).toNat)
  case atStart => exact ⟨0, Nat.zero_le _, rfl, by simp [sumW], rfl⟩
  case round =>
    obtain ⟨k, hk, rfl, rfl, H⟩ := hrel
    obtain ⟨b1, b2⟩ := sumW_bd l k (wsB_iff.1 H.out)
    by_cases hlt : k < l.length
    · obtain ⟨b, off, rfl, hS, hc⟩ := HH.out.at_ hlt
      have hck := hc k hlt
      clear hc
      rcases h3 : wB (nth l k) with _ | _
      · have hno : Hid (mixB l many = false) := by simp [Hid, mixB, wsB_no h3 hlt]
        rcases wB_false.1 h3 with h7 | h7
        · have d1 : decide (nth l k < 0) = true := by simp [h7]
          clear h3 h7
          go_wp2_with fail
          go_ret
          exact Same.of (by rw [hno.out]; rfl)
        · have d1 : decide (nth l k < 0) = false := by simp; omega
          have d2 : decide (100000 < nth l k) = true := by simp [h7]
          clear h3 h7
          go_wp2_with fail
          go_ret
          exact Same.of (by rw [hno.out]; rfl)
      · have hy : Hid (wsB l (k + 1) = true) := by show (wsB _ k && _) = true; rw [H.out, h3]; rfl
        obtain ⟨hw1, hw2⟩ := wB_iff.1 h3
        have d1 : decide (nth l k < 0) = false := by simp; omega
        have d2 : decide (100000 < nth l k) = false := by simp; omega
        have HS : Hid (decide (0 < sumW l (k + 1)) = (decide (0 < sumW l k) || decide (0 < nth l k))) := by
          show _ = _
          rw [← Bool.decide_or, decide_eq_decide]
          simp only [sumW]; omega
        generalize decide (0 < sumW l k) = p at HS ⊢
        rcases h8 : decide (0 < nth l k) with _ | _
        · rw [h8] at HS
          clear h3 hw1 hw2 b1 b2
          cases p <;>
            (go_wp2_with fail
             go_round
             case rel => exact ⟨k + 1, by omega, by go_num, by rw [HS.out]; rfl, hy⟩
             case measure => simp [intOf]; omega)
        · rw [h8] at HS
          clear h3 hw1 hw2 b1 b2
          cases p <;>
            (go_wp2_with fail
             go_round
             case rel => exact ⟨k + 1, by omega, by go_num, by rw [HS.out]; rfl, hy⟩
             case measure => simp [intOf]; omega)
    · obtain rfl : k = l.length := by omega
      have hy : Hid (mixB l many = decide (0 < sumW l l.length)) := by show mixB l many = _; simp only [mixB, H.out, H4.out, H5.out]; simp
      generalize decide (0 < sumW l l.length) = p at hy ⊢
      go_wp2_with fail
      go_ret
      exact Same.of (by rw [hy.out]; rfl)

set_option maxHeartbeats 1000000 in
theorem rowsMixed (T A : Option Addr) (c d : Nat) (g : List (List Int)) (x : List Int) (S R : Nat → Prop) (hl : g.length ≤ maxLen) (hx : x.length ≤ 4294967296) (w : World) (h : Rows2 w S T g) (h' : Ints w R A x) :
    Calls Try.prog 46 #[.slice T g.length c, .slice A x.length d] w (Same (.bool (safB g x)) w) := by
  have HR := Lib.hid h
  have HX := Lib.hid h'
  clear h h'
  rcases hb : gameB g with _ | _
  · have HG := Lib.hid hb
    have HS : Hid (safB g x = false) := by simp [Hid, safB, hb]
    clear hb
    go_enter Try.func46, Try.ntmps46
    go_wp2_with fail
    refine (game_impl _ _ _ _ hl _ HR.out).mono ?_
    rintro e w1 ⟨rfl, rfl⟩
    rw [HG.out]
    go_wp2_with fail
    go_ret
    exact Same.of (by rw [HS.out]; rfl)
  · have HG := Lib.hid hb
    have HS : Hid (safB g x = mixB x (g.length : Int)) := by simp [Hid, safB, hb]
    clear hb
    go_enter Try.func46, Try.ntmps46
    go_wp2_with fail
    refine (game_impl _ _ _ _ hl _ HR.out).mono ?_
    rintro e w1 ⟨rfl, rfl⟩
    rw [HG.out]
    go_wp2_with fail
    refine (mixOk_impl _ _ x _ _ hx _ HX.out).mono ?_
    rintro e w1 ⟨rfl, rfl⟩
    go_wp2_with fail
    go_ret
    exact Same.of (by rw [HS.out]; rfl)

set_option maxHeartbeats 1000000 in
theorem columnsMixed (T A : Option Addr) (c d : Nat) (g : List (List Int)) (y : List Int) (S R : Nat → Prop) (hl : g.length ≤ maxLen) (hx : y.length ≤ 4294967296) (w : World) (h : Rows2 w S T g) (h' : Ints w R A y) :
    Calls Try.prog 47 #[.slice T g.length c, .slice A y.length d] w (Same (.bool (risB g y)) w) := by
  rcases hb : gameB g with _ | _
  · have HR := Lib.hid h
    have HG := Lib.hid hb
    have HS : Hid (risB g y = false) := by simp [Hid, risB, hb]
    clear hb h h'
    go_enter Try.func47, Try.ntmps47
    go_wp2_with fail
    refine (game_impl _ _ _ _ hl _ HR.out).mono ?_
    rintro e w1 ⟨rfl, rfl⟩
    rw [HG.out]
    go_wp2_with fail
    go_ret
    exact Same.of (by rw [HS.out]; rfl)
  · have HG := Lib.hid hb
    have HS : Hid (risB g y = mixB y ((rowAt g 0).length : Int)) := by simp [Hid, risB, hb]
    have hg1 := (Game.of hb).lo
    obtain ⟨bt, ot, rfl⟩ := h.some (by omega)
    obtain ⟨hS, A0, c0, hc0, hl0, hm0, _⟩ := h.row (i := 0) (by omega)
    rw [Nat.add_zero] at hc0
    unfold maxLen at hm0
    have HR := Lib.hid h
    have HX := Lib.hid h'
    clear hb h h'
    go_enter Try.func47, Try.ntmps47
    go_wp2_with fail
    refine (game_impl _ _ _ _ hl _ HR.out).mono ?_
    rintro e w1 ⟨rfl, rfl⟩
    rw [HG.out]
    go_wp2_with fail
    refine (mixOk_impl _ _ y _ _ hx _ HX.out).mono ?_
    rintro e w1 ⟨rfl, rfl⟩
    go_wp2_with fail
    go_ret
    exact Same.of (by rw [HS.out]; rfl)

theorem cols_game {g : List (List Int)} {m : Nat} (hg : Game g m) : Game (cols g) g.length := by
  have hm := hg.to.2
  subst hm
  refine ⟨by rw [cols_length]; exact hg.mlo, by rw [cols_length]; exact hg.mhi, hg.lo, hg.hi, fun i hi => rowAt_cols_length g i (by rwa [cols_length] at hi), fun i hi j hj => ?_, fun i hi j hj => ?_⟩ <;>
    rw [cols_length] at hi <;> rw [nth_cols g i j hi hj]
  · exact hg.nlo j hj i hi
  · exact hg.nhi j hj i hi

theorem rowsD_cols {g : List (List Int)} {x : List Int} (hx : x.length = g.length) : rowsD (cols g) x = colsD g x := by
  refine ext_nth (by rw [rowsD_length, cols_length, colsD_length]) (fun i hi => ?_)
  rw [rowsD_length] at hi
  have hi' : i < (rowAt g 0).length := by rwa [cols_length] at hi
  rw [nth_rowsD _ _ i hi, nth_colsD _ _ i hi']
  unfold rowD colD
  rw [rowAt_cols g i hi', hx]

theorem safe_at {g : List (List Int)} {x : List Int} (hx : x.length = g.length) : nth (rowsD (cols g) x) (bestN ltB (rowsD (cols g) x) (rowsD (cols g) x).length) = safeN g x := by
  rw [rowsD_cols hx, bestN_low, colsD_length]; rfl

theorem risk_at (g : List (List Int)) (y : List Int) : nth (rowsD g y) (bestN gtB (rowsD g y) (rowsD g y).length) = riskN g y := by
  rw [bestN_high, rowsD_length]; rfl

theorem Mix.self {x : List Int} {m : Nat} (h : Mix x m) : Mix x x.length := by rw [h.len]; exact h

set_option maxHeartbeats 2000000 in
theorem safe_impl (T A : Option Addr) (c d : Nat) (g : List (List Int)) (x : List Int) (hl : g.length ≤ maxLen) (hx : x.length ≤ 4294967296) (w : World) (h : Rows2 w (· < w.heap.size) T g) (h' : Ints w (· < w.heap.size) A x) :
    Calls Try.prog 17 #[.slice T g.length c, .slice A x.length d] w (Adds (FracRes (safU g x) (safD g x) (safB g x)) w) := by
  rcases hB : safB g x with _ | _
  · have HU : Hid (safU g x = 0) := by simp [Hid, safU, hB]
    have HD : Hid (safD g x = 0) := by simp [Hid, safD, hB]
    have HB := Lib.hid hB
    have HR := Lib.hid h
    have HX := Lib.hid h'
    clear hB h h'
    go_enter Try.func17, Try.ntmps17
    go_wp2_with fail
    obtain ⟨W, hW⟩ : ∃ W : World, W = (w.alloc (.cells #[(Value.int .i64 0), (Value.int .i64 0)] 28)) := ⟨_, rfl⟩
    have hzW : W.heap.size = w.heap.size + 1 := by rw [hW]; simp
    have hbW : Below w.heap.size w W := by rw [hW]; exact (by repeat (first | exact Below.refl _ _ | assumption | exact bel1 (by assumption) | exact bel2 (by assumption) | exact bel3 (by assumption) | exact bel4 (by assumption) | refine Below.drew ?_ | refine below_drewN ?_ _ | refine Below.setCell ?_ (by first | (simp; done) | (simp; omega)) _ | refine Below.alloc ?_ (by first | (simp; done) | (simp; omega)) _))
    have r00 := stays (p := w.heap.size) (o := 0) (by omega) (show W.cell? ⟨w.heap.size, 0, none⟩ = some ((Value.int .i64 0)) from by rw [hW]; simp [go_sem])
    have g00 := staysF (p := w.heap.size) (o := 0) (by omega) (show W.frozen? ⟨w.heap.size, 0, none⟩ = false from by rw [hW]; simp [go_sem])
    have r01 := stays (p := w.heap.size) (o := 1) (by omega) (show W.cell? ⟨w.heap.size, 1, none⟩ = some ((Value.int .i64 0)) from by rw [hW]; simp [go_sem])
    have g01 := staysF (p := w.heap.size) (o := 1) (by omega) (show W.frozen? ⟨w.heap.size, 1, none⟩ = false from by rw [hW]; simp [go_sem])
    rw [← hW]
    clear hW
    have HzW := Lib.hid hzW
    clear hzW
    refine (rowsMixed _ _ _ _ g x _ _ hl hx _ (keepRows hbW HR.out) (keepInts hbW HX.out)).mono ?_
    rintro e w1 ⟨rfl, rfl⟩
    rw [HB.out]
    have hk : Below W.heap.size W W := Below.refl _ _
    go_wp2_with fail
    refine bodyPost_ret (v := .tuple #[.agg #[.int .i64 0, .int .i64 0], .bool false]) (by simp [results, Try.results17, go_sem, r00 _ hk, r01 _ hk]) rfl ⟨by rw [HU.out, HD.out]; try rfl, ?_⟩
    exact (hbW.setCell (Nat.le_refl _) _).setCell (Nat.le_refl _) _
  obtain ⟨hb, hB2⟩ : gameB g = true ∧ mixB x (g.length : Int) = true := by simpa [safB] using hB
  have hg := Game.of hb
  have hx0 := Mix.of hB2
  have hg1 := hg.lo
  have hg2 := hg.hi
  have hg3 := hg.mlo
  have hg4 := hg.mhi
  obtain ⟨sb1, sb2⟩ := hx0.sum_bd
  rw [← hx0.len] at sb1 sb2
  have HU : Hid (safU g x = lowU (safeN g x) (sumW x x.length)) := by simp [Hid, safU, hB]
  have HD : Hid (safD g x = lowD (safeN g x) (sumW x x.length)) := by simp [Hid, safD, hB]
  have HB := Lib.hid hB
  have HM := Lib.hid hx0.self
  have HG := Lib.hid hg
  have HGL : Hid (Game (cols g) x.length) := by show Game _ _; rw [hx0.len]; exact cols_game hg
  have HV := Lib.hid (safe_at (g := g) (x := x) hx0.len)
  have HCL := Lib.hid (cols_length g)
  have HML : Hid (∀ i, i < (cols g).length → (rowAt (cols g) i).length ≤ maxLen) := fun i hi => by rw [rowAt_cols_length g i (by rwa [cols_length] at hi)]; exact hl
  have HLL := Lib.hid (rowsD_length (cols g) x)
  have HBD : Hid (∀ i, i < (rowsD (cols g) x).length → -14400000 ≤ nth (rowsD (cols g) x) i ∧ nth (rowsD (cols g) x) i ≤ 14400000) := fun i hi => by
    rw [rowsD_length] at hi
    rw [nth_rowsD _ _ i hi]; exact rowD_bd HGL.out HM.out i hi
  have HR := Lib.hid h
  have HX := Lib.hid h'
  clear hb hB hB2 h h' hg hx0
  go_enter Try.func17, Try.ntmps17
  go_wp2_with fail
  obtain ⟨W, hW⟩ : ∃ W : World, W = (w.alloc (.cells #[(Value.int .i64 0), (Value.int .i64 0)] 28)) := ⟨_, rfl⟩
  have hzW : W.heap.size = w.heap.size + 1 := by rw [hW]; simp
  have hbW : Below w.heap.size w W := by rw [hW]; exact (by repeat (first | exact Below.refl _ _ | assumption | exact bel1 (by assumption) | exact bel2 (by assumption) | exact bel3 (by assumption) | exact bel4 (by assumption) | refine Below.drew ?_ | refine below_drewN ?_ _ | refine Below.setCell ?_ (by first | (simp; done) | (simp; omega)) _ | refine Below.alloc ?_ (by first | (simp; done) | (simp; omega)) _))
  have r00 := stays (p := w.heap.size) (o := 0) (by omega) (show W.cell? ⟨w.heap.size, 0, none⟩ = some ((Value.int .i64 0)) from by rw [hW]; simp [go_sem])
  have g00 := staysF (p := w.heap.size) (o := 0) (by omega) (show W.frozen? ⟨w.heap.size, 0, none⟩ = false from by rw [hW]; simp [go_sem])
  have r01 := stays (p := w.heap.size) (o := 1) (by omega) (show W.cell? ⟨w.heap.size, 1, none⟩ = some ((Value.int .i64 0)) from by rw [hW]; simp [go_sem])
  have g01 := staysF (p := w.heap.size) (o := 1) (by omega) (show W.frozen? ⟨w.heap.size, 1, none⟩ = false from by rw [hW]; simp [go_sem])
  rw [← hW]
  clear hW
  have HzW := Lib.hid hzW
  clear hzW
  have RW := Lib.hid (keepRows hbW HR.out)
  have XW := Lib.hid (keepInts hbW HX.out)
  refine (rowsMixed _ _ _ _ g x _ _ hl hx _ RW.out XW.out).mono ?_
  rintro e w1 ⟨rfl, rfl⟩
  rw [HB.out]
  have hsw := hbW.size
  go_wp2_with fail
  refine (columnsOf _ _ g _ HG.out _ (RW.out.lt hsw)).mono ?_
  rintro e w1 ⟨rfl, hL⟩
  have hk1 : Below W.heap.size W w1 := hL.bel
  have R1 := Lib.hid (hL.rows2 (S := (· < w1.heap.size)) (fun _ _ h => h) HML.out)
  have X1 := Lib.hid ((keepInts (belT hbW hk1) HX.out).lt (belT hbW hk1).size)
  clear hL
  go_wp2_with fail
  refine (averagesOf _ _ _ _ (cols g) x HGL.out HM.out _ R1.out X1.out).mono ?_
  rintro e w2 ⟨bq, rfl, hb2, _, hr⟩
  have hk2 := belT hk1 hb2
  have FR2 := Lib.hid hr
  clear hr hb2
  go_wp2_with fail
  refine (bestOfF _ _ ltB (lessF sb1 sb2) bq _ (rowsD (cols g) x) (by rw [HLL.out]; rw [HCL.out]; omega) (by rw [HLL.out]; rw [HCL.out]; omega) HBD.out _ FR2.out).mono ?_
  rintro e w3 ⟨rfl, hb3⟩
  rw [HV.out]
  have hk3 := belT hk2 hb3
  have HWz := hk3.size
  have e00 := r00 _ hk3
  have e01 := r01 _ hk3
  have f00 := g00 _ hk3
  have f01 := g01 _ hk3
  have hlt3 : w.heap.size < w3.heap.size := by have := HzW.out; omega
  clear hb3 r00 r01 g00 g01 HWz
  go_wp2_with fail
  refine bodyPost_ret (v := .tuple #[.agg #[.int .i64 (lowU (safeN g x) (sumW x x.length)), .int .i64 (lowD (safeN g x) (sumW x x.length))], .bool true]) (by simp [results, Try.results17, go_sem, e00, e01, hlt3, Nat.ne_of_lt hlt3, Nat.ne_of_gt hlt3]) rfl ⟨by rw [HU.out, HD.out]; try rfl, ?_⟩
  exact (((belT hbW hk3).setCell (Nat.le_refl _) _).setCell (Nat.le_refl _) _).alloc (by simpa [World.setCell] using (belT hbW hk3).size) _

set_option maxHeartbeats 2000000 in
theorem risk_impl (T A : Option Addr) (c d : Nat) (g : List (List Int)) (y : List Int) (hl : g.length ≤ maxLen) (hx : y.length ≤ 4294967296) (w : World) (h : Rows2 w (· < w.heap.size) T g) (h' : Ints w (· < w.heap.size) A y) :
    Calls Try.prog 18 #[.slice T g.length c, .slice A y.length d] w (Adds (FracRes (risU g y) (risD g y) (risB g y)) w) := by
  rcases hB : risB g y with _ | _
  · have HU : Hid (risU g y = 0) := by simp [Hid, risU, hB]
    have HD : Hid (risD g y = 0) := by simp [Hid, risD, hB]
    have HB := Lib.hid hB
    have HR := Lib.hid h
    have HX := Lib.hid h'
    clear hB h h'
    go_enter Try.func18, Try.ntmps18
    go_wp2_with fail
    obtain ⟨W, hW⟩ : ∃ W : World, W = (w.alloc (.cells #[(Value.int .i64 0), (Value.int .i64 0)] 28)) := ⟨_, rfl⟩
    have hzW : W.heap.size = w.heap.size + 1 := by rw [hW]; simp
    have hbW : Below w.heap.size w W := by rw [hW]; exact (by repeat (first | exact Below.refl _ _ | assumption | exact bel1 (by assumption) | exact bel2 (by assumption) | exact bel3 (by assumption) | exact bel4 (by assumption) | refine Below.drew ?_ | refine below_drewN ?_ _ | refine Below.setCell ?_ (by first | (simp; done) | (simp; omega)) _ | refine Below.alloc ?_ (by first | (simp; done) | (simp; omega)) _))
    have r00 := stays (p := w.heap.size) (o := 0) (by omega) (show W.cell? ⟨w.heap.size, 0, none⟩ = some ((Value.int .i64 0)) from by rw [hW]; simp [go_sem])
    have g00 := staysF (p := w.heap.size) (o := 0) (by omega) (show W.frozen? ⟨w.heap.size, 0, none⟩ = false from by rw [hW]; simp [go_sem])
    have r01 := stays (p := w.heap.size) (o := 1) (by omega) (show W.cell? ⟨w.heap.size, 1, none⟩ = some ((Value.int .i64 0)) from by rw [hW]; simp [go_sem])
    have g01 := staysF (p := w.heap.size) (o := 1) (by omega) (show W.frozen? ⟨w.heap.size, 1, none⟩ = false from by rw [hW]; simp [go_sem])
    rw [← hW]
    clear hW
    have HzW := Lib.hid hzW
    clear hzW
    refine (columnsMixed _ _ _ _ g y _ _ hl hx _ (keepRows hbW HR.out) (keepInts hbW HX.out)).mono ?_
    rintro e w1 ⟨rfl, rfl⟩
    rw [HB.out]
    have hk : Below W.heap.size W W := Below.refl _ _
    go_wp2_with fail
    refine bodyPost_ret (v := .tuple #[.agg #[.int .i64 0, .int .i64 0], .bool false]) (by simp [results, Try.results18, go_sem, r00 _ hk, r01 _ hk]) rfl ⟨by rw [HU.out, HD.out]; try rfl, ?_⟩
    exact (hbW.setCell (Nat.le_refl _) _).setCell (Nat.le_refl _) _
  obtain ⟨hb, hB2⟩ : gameB g = true ∧ mixB y ((rowAt g 0).length : Int) = true := by simpa [risB] using hB
  have hg := Game.of hb
  have hx0 := Mix.of hB2
  have hg1 := hg.lo
  have hg2 := hg.hi
  have hg3 := hg.mlo
  have hg4 := hg.mhi
  obtain ⟨sb1, sb2⟩ := hx0.sum_bd
  rw [← hx0.len] at sb1 sb2
  have HU : Hid (risU g y = lowU (riskN g y) (sumW y y.length)) := by simp [Hid, risU, hB]
  have HD : Hid (risD g y = lowD (riskN g y) (sumW y y.length)) := by simp [Hid, risD, hB]
  have HB := Lib.hid hB
  have HM := Lib.hid hx0.self
  have HG := Lib.hid hg
  have HGL : Hid (Game g y.length) := by show Game _ _; rw [hx0.len]; exact hg
  have HV := Lib.hid (risk_at g y)
  have HLL := Lib.hid (rowsD_length g y)
  have HBD : Hid (∀ i, i < (rowsD g y).length → -14400000 ≤ nth (rowsD g y) i ∧ nth (rowsD g y) i ≤ 14400000) := fun i hi => by
    rw [rowsD_length] at hi
    rw [nth_rowsD _ _ i hi]; exact rowD_bd HGL.out HM.out i hi
  have HR := Lib.hid h
  have HX := Lib.hid h'
  clear hb hB hB2 h h' hg hx0
  go_enter Try.func18, Try.ntmps18
  go_wp2_with fail
  obtain ⟨W, hW⟩ : ∃ W : World, W = (w.alloc (.cells #[(Value.int .i64 0), (Value.int .i64 0)] 28)) := ⟨_, rfl⟩
  have hzW : W.heap.size = w.heap.size + 1 := by rw [hW]; simp
  have hbW : Below w.heap.size w W := by rw [hW]; exact (by repeat (first | exact Below.refl _ _ | assumption | exact bel1 (by assumption) | exact bel2 (by assumption) | exact bel3 (by assumption) | exact bel4 (by assumption) | refine Below.drew ?_ | refine below_drewN ?_ _ | refine Below.setCell ?_ (by first | (simp; done) | (simp; omega)) _ | refine Below.alloc ?_ (by first | (simp; done) | (simp; omega)) _))
  have r00 := stays (p := w.heap.size) (o := 0) (by omega) (show W.cell? ⟨w.heap.size, 0, none⟩ = some ((Value.int .i64 0)) from by rw [hW]; simp [go_sem])
  have g00 := staysF (p := w.heap.size) (o := 0) (by omega) (show W.frozen? ⟨w.heap.size, 0, none⟩ = false from by rw [hW]; simp [go_sem])
  have r01 := stays (p := w.heap.size) (o := 1) (by omega) (show W.cell? ⟨w.heap.size, 1, none⟩ = some ((Value.int .i64 0)) from by rw [hW]; simp [go_sem])
  have g01 := staysF (p := w.heap.size) (o := 1) (by omega) (show W.frozen? ⟨w.heap.size, 1, none⟩ = false from by rw [hW]; simp [go_sem])
  rw [← hW]
  clear hW
  have HzW := Lib.hid hzW
  clear hzW
  have RW := Lib.hid (keepRows hbW HR.out)
  have XW := Lib.hid (keepInts hbW HX.out)
  refine (columnsMixed _ _ _ _ g y _ _ hl hx _ RW.out XW.out).mono ?_
  rintro e w1 ⟨rfl, rfl⟩
  rw [HB.out]
  have hsw := hbW.size
  go_wp2_with fail
  have hk1 : Below W.heap.size W W := Below.refl _ _
  refine (averagesOf _ _ _ _ g y HGL.out HM.out _ (RW.out.lt hsw) (XW.out.lt hsw)).mono ?_
  rintro e w2 ⟨bq, rfl, hb2, _, hr⟩
  have hk2 := belT hk1 hb2
  have FR2 := Lib.hid hr
  clear hr hb2
  go_wp2_with fail
  refine (bestOfF _ _ gtB (moreF sb1 sb2) bq _ (rowsD g y) (by rw [HLL.out]; omega) (by rw [HLL.out]; omega) HBD.out _ FR2.out).mono ?_
  rintro e w3 ⟨rfl, hb3⟩
  rw [HV.out]
  have hk3 := belT hk2 hb3
  have HWz := hk3.size
  have e00 := r00 _ hk3
  have e01 := r01 _ hk3
  have f00 := g00 _ hk3
  have f01 := g01 _ hk3
  have hlt3 : w.heap.size < w3.heap.size := by have := HzW.out; omega
  clear hb3 r00 r01 g00 g01 HWz
  go_wp2_with fail
  refine bodyPost_ret (v := .tuple #[.agg #[.int .i64 (lowU (riskN g y) (sumW y y.length)), .int .i64 (lowD (riskN g y) (sumW y y.length))], .bool true]) (by simp [results, Try.results18, go_sem, e00, e01, hlt3, Nat.ne_of_lt hlt3, Nat.ne_of_gt hlt3]) rfl ⟨by rw [HU.out, HD.out]; try rfl, ?_⟩
  exact (((belT hbW hk3).setCell (Nat.le_refl _) _).setCell (Nat.le_refl _) _).alloc (by simpa [World.setCell] using (belT hbW hk3).size) _

end Go.Proofs.Ytjojilimdhekfaa
