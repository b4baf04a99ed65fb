/- The walks of the laws on fractions, third part. (Written by wip/gen/lawsf.py.) -/
import Derived.Test.YtpkdmilbppipmaaLawsB
import Derived.Deep.DeepCutAuto
namespace Go.Proofs.Ytpkdmilbppipmaa
set_option linter.unusedSimpArgs false
set_option linter.unusedVariables false
open Go.RowKit

theorem plusOf_no_impl (fu fd gu gd : Int) (h : psB fu fd gu gd = false) (w : World) :
    Calls Try.prog 9 #[.agg #[.int .i64 fu, .int .i64 fd], .agg #[.int .i64 gu, .int .i64 gd]] w fun e w' => e = .returned (.tuple #[.agg #[.int .i64 0, .int .i64 0], .bool false]) ∧ Below w.heap.size w w' := by
  have := plus_impl fu fd gu gd w
  rwa [h, (psU_no h).1, (psU_no h).2] at this

theorem plusOf_no_spec (fu fd gu gd : Int) (h : psB fu fd gu gd = false) (w : World) :
    Calls Try.prog 10 #[.agg #[.int .i64 fu, .int .i64 fd], .agg #[.int .i64 gu, .int .i64 gd]] w fun e w' => e = .returned (.tuple #[.agg #[.int .i64 0, .int .i64 0], .bool false]) ∧ Below w.heap.size w w' := by
  have := plus_spec fu fd gu gd w
  rwa [h, (psU_no h).1, (psU_no h).2] at this

theorem plusOf_val {fu fd gu gd su sd : Int} (h : psB fu fd gu gd = true) (h1 : psU fu fd gu gd = su) (h2 : psD fu fd gu gd = sd) (w : World) :
    Calls Try.prog 9 #[.agg #[.int .i64 fu, .int .i64 fd], .agg #[.int .i64 gu, .int .i64 gd]] w fun e w' => e = .returned (.tuple #[.agg #[.int .i64 su, .int .i64 sd], .bool true]) ∧ Below w.heap.size w w' := by
  have := plus_impl fu fd gu gd w
  rwa [h, h1, h2] at this

theorem plusOf_vals {fu fd gu gd su sd : Int} (h : psB fu fd gu gd = true) (h1 : psU fu fd gu gd = su) (h2 : psD fu fd gu gd = sd) (w : World) :
    Calls Try.prog 10 #[.agg #[.int .i64 fu, .int .i64 fd], .agg #[.int .i64 gu, .int .i64 gd]] w fun e w' => e = .returned (.tuple #[.agg #[.int .i64 su, .int .i64 sd], .bool true]) ∧ Below w.heap.size w w' := by
  have := plus_spec fu fd gu gd w
  rwa [h, h1, h2] at this

set_option maxHeartbeats 2000000 in
theorem wFnPlusOf (a : Option Addr) (len cap : Nat) (zs : List Int) (w : World) (h : IsRow .u8 w a len cap zs) :
    Calls Try.prog 3 #[.slice a len cap] w fun e w' => e = .returned (.bool true) ∧ Below w.heap.size w w' := by
  go_enter Try.func3, Try.ntmps3
  go_wp2_with fail
  · go_ret
    exact ⟨rfl, Below.refl _ _⟩
  rename (len : Int) ≤ 1048576 => hbig
  clear hbig
  refine (dDrawPlusOf a len cap zs _ h).mono ?_
  intro e w1 hP
  obtain ⟨fu, fd, gu, gd, rfl, hu1, hu2, hd1, hd2, hv1, hv2, he1, he2, hb1⟩ := hP
  go_wp2_with fail
  obtain ⟨W, hW⟩ : ∃ W : World, W = ((w1.alloc (.cells #[(Value.int .i64 fu), (Value.int .i64 fd)] 24)).alloc (.cells #[(Value.int .i64 gu), (Value.int .i64 gd)] 24)) := ⟨_, rfl⟩
  have hzW : W.heap.size = w1.heap.size + 2 := by rw [hW]; simp
  have hbW : Below w1.heap.size w1 W := by rw [hW]; exact (by repeat (first | exact Below.refl _ _ | assumption | exact bel1 (by assumption) | exact bel2 (by assumption) | exact bel3 (by assumption) | exact bel4 (by assumption) | refine Below.drew ?_ | refine below_drewN ?_ _ | refine Below.setCell ?_ (by first | (simp; done) | (simp; omega)) _ | refine Below.alloc ?_ (by first | (simp; done) | (simp; omega)) _))
  have r00 := stays (p := w1.heap.size) (o := 0) (by omega) (show W.cell? ⟨w1.heap.size, 0, none⟩ = some ((Value.int .i64 fu)) from by rw [hW]; simp [go_sem])
  have r01 := stays (p := w1.heap.size) (o := 1) (by omega) (show W.cell? ⟨w1.heap.size, 1, none⟩ = some ((Value.int .i64 fd)) from by rw [hW]; simp [go_sem])
  have r10 := stays (p := w1.heap.size + 1) (o := 0) (by omega) (show W.cell? ⟨w1.heap.size + 1, 0, none⟩ = some ((Value.int .i64 gu)) from by rw [hW]; simp [go_sem])
  have r11 := stays (p := w1.heap.size + 1) (o := 1) (by omega) (show W.cell? ⟨w1.heap.size + 1, 1, none⟩ = some ((Value.int .i64 gd)) from by rw [hW]; simp [go_sem])
  rw [← hW]
  clear hW
  have HzW := Lib.hid hzW
  clear hzW
  have hkW : Below w.heap.size w W := belT hb1 hbW
  rcases hB : psB fu fd gu gd with _ | _
  · refine (plusOf_no_impl fu fd gu gd hB _).mono ?_
    rintro e w2 ⟨rfl, hb2⟩
    have hl1 : w1.heap.size < w2.heap.size := by have := hb2.size; have := HzW.out; omega
    have hl2 : w1.heap.size + 1 < w2.heap.size := by have := hb2.size; have := HzW.out; omega
    have hk2 := belT hkW hb2
    go_wp2_with fail
    obtain ⟨V, hV⟩ : ∃ V : World, V = (w2.alloc (.cells #[(Value.int .i64 0), (Value.int .i64 0)] 24)) := ⟨_, rfl⟩
    have hzV : V.heap.size = w2.heap.size + 1 := by rw [hV]; simp
    have hbV : Below w2.heap.size w2 V := by rw [hV]; exact (by repeat (first | exact Below.refl _ _ | assumption | exact bel1 (by assumption) | exact bel2 (by assumption) | exact bel3 (by assumption) | exact bel4 (by assumption) | refine Below.drew ?_ | refine below_drewN ?_ _ | refine Below.setCell ?_ (by first | (simp; done) | (simp; omega)) _ | refine Below.alloc ?_ (by first | (simp; done) | (simp; omega)) _))
    have s00 := stays (p := w2.heap.size) (o := 0) (by omega) (show V.cell? ⟨w2.heap.size, 0, none⟩ = some ((Value.int .i64 0)) from by rw [hV]; simp [go_sem])
    have s01 := stays (p := w2.heap.size) (o := 1) (by omega) (show V.cell? ⟨w2.heap.size, 1, none⟩ = some ((Value.int .i64 0)) from by rw [hV]; simp [go_sem])
    rw [← hV]
    clear hV
    have HzV := Lib.hid hzV
    clear hzV
    have hq : Below W.heap.size W V := belT hb2 hbV
    refine (plusOf_no_spec fu fd gu gd hB _).mono ?_
    rintro e w3 ⟨rfl, hb3⟩
    have hl3 : w2.heap.size < w3.heap.size := by have := hb3.size; have := HzV.out; omega
    have hk3 := belT (belT hk2 hbV) hb3
    go_wp2_with fail
    refine (alive _).mono ?_
    rintro e w4 ⟨rfl, hb4⟩
    have hk4 := belT hk3 (bel1 hb4)
    go_wp2_with fail
    go_ret
    exact ⟨rfl, by repeat (first | exact Below.refl _ _ | assumption | exact bel1 (by assumption) | exact bel2 (by assumption) | exact bel3 (by assumption) | exact bel4 (by assumption) | refine Below.drew ?_ | refine below_drewN ?_ _ | refine Below.setCell ?_ (by first | (simp; done) | (simp; omega)) _ | refine Below.alloc ?_ (by first | (simp; done) | (simp; omega)) _)⟩
  · have hco := ps_comm fu fd gu gd
    have hba := ps_back hB
    obtain ⟨su, hsu⟩ : ∃ su, psU fu fd gu gd = su := ⟨_, rfl⟩
    obtain ⟨sd, hsd⟩ : ∃ sd, psD fu fd gu gd = sd := ⟨_, rfl⟩
    rw [hsu, hsd] at hco hba
    rw [hB] at hco
    obtain ⟨c1, c2, c3⟩ := hco
    obtain ⟨e1, e2, e3, e4⟩ := hba
    have P1 := fun w => plusOf_val hB hsu hsd w
    have P2 := fun w => plusOf_vals hB hsu hsd w
    have P3 := fun w => plusOf_val c1 c2 c3 w
    have P4 := fun w => plusOf_val e1 e2 e3 w
    have HP1 := Lib.hid P1
    have HP2 := Lib.hid P2
    have HP3 := Lib.hid P3
    have HP4 := Lib.hid P4
    clear P1 P2 P3 P4 c1 c2 c3 e1 e2 e3 hsu hsd hB
    refine (HP1.out _).mono ?_
    rintro e w2 ⟨rfl, hb2⟩
    have hl1 : w1.heap.size < w2.heap.size := by have := hb2.size; have := HzW.out; omega
    have hl2 : w1.heap.size + 1 < w2.heap.size := by have := hb2.size; have := HzW.out; omega
    have hk2 := belT hkW hb2
    go_wp2_with fail
    obtain ⟨V, hV⟩ : ∃ V : World, V = (w2.alloc (.cells #[(Value.int .i64 su), (Value.int .i64 sd)] 24)) := ⟨_, rfl⟩
    have hzV : V.heap.size = w2.heap.size + 1 := by rw [hV]; simp
    have hbV : Below w2.heap.size w2 V := by rw [hV]; exact (by repeat (first | exact Below.refl _ _ | assumption | exact bel1 (by assumption) | exact bel2 (by assumption) | exact bel3 (by assumption) | exact bel4 (by assumption) | refine Below.drew ?_ | refine below_drewN ?_ _ | refine Below.setCell ?_ (by first | (simp; done) | (simp; omega)) _ | refine Below.alloc ?_ (by first | (simp; done) | (simp; omega)) _))
    have s00 := stays (p := w2.heap.size) (o := 0) (by omega) (show V.cell? ⟨w2.heap.size, 0, none⟩ = some ((Value.int .i64 su)) from by rw [hV]; simp [go_sem])
    have s01 := stays (p := w2.heap.size) (o := 1) (by omega) (show V.cell? ⟨w2.heap.size, 1, none⟩ = some ((Value.int .i64 sd)) from by rw [hV]; simp [go_sem])
    rw [← hV]
    clear hV
    have HzV := Lib.hid hzV
    clear hzV
    have hq : Below W.heap.size W V := belT hb2 hbV
    refine (HP2.out _).mono ?_
    rintro e w3 ⟨rfl, hb3⟩
    have hl3 : w2.heap.size < w3.heap.size := by have := hb3.size; have := HzV.out; omega
    have hl4 : w1.heap.size < w3.heap.size := by omega
    have hl5 : w1.heap.size + 1 < w3.heap.size := by omega
    have hk3 := belT (belT hk2 hbV) hb3
    have hq3 := belT hq hb3
    go_wp2_with fail
    refine (HP3.out _).mono ?_
    rintro e w4 ⟨rfl, hb4⟩
    have hb4' := bel1 hb4
    have hs4 := hb4'.size
    have hW4 := belT hq3 hb4'
    have hV4 := belT hb3 hb4'
    have hk4 := belT hk3 hb4'
    have hl6 : w3.heap.size < w4.heap.size := by have := hb4.size; simp at this; omega
    clear HP1 HP2 HP3
    go_wp2_with fail
    obtain ⟨X, hX⟩ : ∃ X : World, X = (w4.alloc (.cells #[(Value.int .i64 su), (Value.int .i64 sd)] 24)) := ⟨_, rfl⟩
    have hzX : X.heap.size = w4.heap.size + 1 := by rw [hX]; simp
    have hbX : Below w4.heap.size w4 X := by rw [hX]; exact (by repeat (first | exact Below.refl _ _ | assumption | exact bel1 (by assumption) | exact bel2 (by assumption) | exact bel3 (by assumption) | exact bel4 (by assumption) | refine Below.drew ?_ | refine below_drewN ?_ _ | refine Below.setCell ?_ (by first | (simp; done) | (simp; omega)) _ | refine Below.alloc ?_ (by first | (simp; done) | (simp; omega)) _))
    have z00 := stays (p := w4.heap.size) (o := 0) (by omega) (show X.cell? ⟨w4.heap.size, 0, none⟩ = some ((Value.int .i64 su)) from by rw [hX]; simp [go_sem])
    have z01 := stays (p := w4.heap.size) (o := 1) (by omega) (show X.cell? ⟨w4.heap.size, 1, none⟩ = some ((Value.int .i64 sd)) from by rw [hX]; simp [go_sem])
    rw [← hX]
    clear hX
    have HzX := Lib.hid hzX
    clear hzX
    have hXW := belT hW4 hbX
    have hXV := belT hV4 hbX
    have hkX := belT hk4 hbX
    have hsX := hbX.size
    have f0 := stays (W := X) (by omega) (r00 _ hXW)
    have f1 := stays (W := X) (by omega) (r01 _ hXW)
    have g0 := stays (W := X) (by omega) (r10 _ hXW)
    have g1 := stays (W := X) (by omega) (r11 _ hXW)
    have y0 := stays (W := X) (by omega) (s00 _ hXV)
    have y1 := stays (W := X) (by omega) (s01 _ hXV)
    clear r00 r01 r10 r11 s00 s01
    go_upto_region 11 with fail
    go_cut [11, 12] (fun sa sb wx => ∃ k : Nat, sa = .pointer (some ⟨k, 0, none⟩) ∧ sb = .bool true ∧ X.heap.size ≤ k ∧ k < wx.heap.size ∧ wx.cell? ⟨k, 0, none⟩ = some (.int .i64 fu) ∧ wx.cell? ⟨k, 1, none⟩ = some (.int .i64 fd) ∧ Below X.heap.size X wx)
    case first =>
      go_region_held3 (fun w' => Below X.heap.size X w')
        (first | exact Below.refl _ _ | exact Below.drew (Below.refl _ _) | (refine Below.drew ?_; assumption) | exact belT (by assumption) (by assumption) | assumption | exact belA (by assumption) | exact belSwap (by assumption) (by omega) | (refine Below.setCell ?_ (by first | (simp; done) | (simp; omega)) _; refine Below.setCell ?_ (by first | (simp; done) | (simp; omega)) _; assumption))
        (first | (go_at_call 12; refine (minus_impl _ _ _).mono ?_; rintro e w1 ⟨rfl, hb1⟩; have hlt := below_lt hb1; obtain ⟨hc1, hf1⟩ := bcell hb1; have hsz := hb1.size; (try simp at hsz); (first | (have hsy := Nat.lt_of_succ_le hsz) | skip)) | (go_at_call 9; refine (HP4.out _).mono ?_; rintro e w1 ⟨rfl, hb1⟩; have hlt := below_lt hb1; obtain ⟨hc1, hf1⟩ := bcell hb1; have hsz := hb1.size; (try simp at hsz); (first | (have hsy := Nat.lt_of_succ_le hsz) | skip)))
      all_goals
        go_wp2_with fail
        go_meet
        exact ⟨_, rfl, rfl, by first | (simp; done) | (simp; omega) | omega, by first | (simp; done) | (simp; omega) | omega, by first | (go_simp; done) | (refine (two_same ?_ ?_).1 <;> go_simp), by first | (go_simp; done) | (refine (two_same ?_ ?_).2 <;> go_simp), by assumption⟩
    case rest =>
      obtain ⟨k, rfl, rfl, hk1, hk2', hc0, hc1, hX5⟩ := hcut
      have hs5 := hX5.size
      have j0 := stays (W := wc) hk2' hc0
      have j1 := stays (W := wc) hk2' hc1
      have m0 := stays (W := wc) (by omega) (f0 _ hX5)
      have m1 := stays (W := wc) (by omega) (f1 _ hX5)
      have n0 := stays (W := wc) (by omega) (y0 _ hX5)
      have n1 := stays (W := wc) (by omega) (y1 _ hX5)
      have o0 := stays (W := wc) (by have := HzX.out; omega) (z00 _ hX5)
      have o1 := stays (W := wc) (by have := HzX.out; omega) (z01 _ hX5)
      have hkc := belT hkX hX5
      clear f0 f1 g0 g1 y0 y1 z00 z01
      have i0 := n0 _ (Below.refl _ _)
      have i1 := n1 _ (Below.refl _ _)
      go_wp2_with fail
      refine (fracOk_impl_v _ _ _ e4 _).mono ?_
      rintro e w9 ⟨rfl, hb9⟩
      have hk9 := belT hkc hb9
      go_wp2_with fail
      go_ret
      exact ⟨rfl, by repeat (first | exact Below.refl _ _ | assumption | exact bel1 (by assumption) | exact bel2 (by assumption) | exact bel3 (by assumption) | exact bel4 (by assumption) | refine Below.drew ?_ | refine below_drewN ?_ _ | refine Below.setCell ?_ (by first | (simp; done) | (simp; omega)) _ | refine Below.alloc ?_ (by first | (simp; done) | (simp; omega)) _)⟩

end Go.Proofs.Ytpkdmilbppipmaa
