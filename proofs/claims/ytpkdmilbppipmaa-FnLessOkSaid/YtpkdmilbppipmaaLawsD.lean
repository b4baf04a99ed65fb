/- The walks of the laws on fractions, fourth part: signs. (Written by wip/gen/lawsg.py.) -/
import Derived.Test.YtpkdmilbppipmaaLawsB
namespace Go.Proofs.Ytpkdmilbppipmaa
set_option linter.unusedSimpArgs false
set_option linter.unusedVariables false
open Go.RowKit

/-- both added are 0 -/
theorem ps_minus {u d : Int} (h : okB u d = true) : psB u d (-u) d = true ∧ psU u d (-u) d = 0 ∧ psD u d (-u) d = 1 := by
  obtain ⟨a1, a2, a3, a4, a5⟩ := okB_iff.1 h
  have hm : okB (-u) d = true := by rw [okB_neg]; exact h
  have hd := mul_pos a3 a3
  have e0 : u * d + -u * d = 0 := by rw [Int.neg_mul]; omega
  have e1 : plU u d (-u) d = 0 := by unfold plU; rw [e0]; unfold lowU; exact Int.zero_tdiv _
  have e2 : plD u d (-u) d = 1 := by
    unfold plD; rw [e0]; unfold lowD
    have g : gcdI 0 (d * d) = d * d := by
      unfold gcdI; rw [Int.gcd_zero_left]; omega
    rw [if_neg (by omega), g]; exact Int.tdiv_self (by omega)
  have hb : psB u d (-u) d = true := psB_iff.2 ⟨h, hm, plB_iff.2 (by rw [e1, e2]; omega)⟩
  exact ⟨hb, by rw [(psU_yes hb).1, e1], by rw [(psU_yes hb).2, e2]⟩

theorem minus_back {u d : Int} (h : okB u d = true) (w : World) :
    Calls Try.prog 12 #[.agg #[.int .i64 (-u), .int .i64 d]] w fun e w' => e = .returned (.agg #[.int .i64 u, .int .i64 d]) ∧ Below w.heap.size w w' := by
  have := minus_yes_impl (-u) d (by rw [okB_neg]; exact h) w
  rwa [Int.neg_neg] at this

theorem plusOf_val2 {fu fd gu gd su sd : Int} (h : psB fu fd gu gd = true) (h1 : psU fu fd gu gd = su) (h2 : psD fu fd gu gd = sd) (w : World) :
    Calls Try.prog 9 #[.agg #[.int .i64 fu, .int .i64 fd], .agg #[.int .i64 gu, .int .i64 gd]] w fun e w' => e = .returned (.tuple #[.agg #[.int .i64 su, .int .i64 sd], .bool true]) ∧ Below w.heap.size w w' := by
  have := plus_impl fu fd gu gd w
  rwa [h, h1, h2] at this

theorem fracOk_spec_v (u d : Int) (b : Bool) (h : okB u d = b) (w : World) :
    Calls Try.prog 16 #[.agg #[.int .i64 u, .int .i64 d]] w fun e w' => e = .returned (.bool b) ∧ Below w.heap.size w w' := by
  subst h; exact fracOk_spec u d w

set_option maxHeartbeats 2000000 in
theorem wFnMinusOf (a : Option Addr) (len cap : Nat) (zs : List Int) (w : World) (h : IsRow .u8 w a len cap zs) :
    Calls Try.prog 4 #[.slice a len cap] w fun e w' => e = .returned (.bool true) ∧ Below w.heap.size w w' := by
  go_enter Try.func4, Try.ntmps4
  go_wp2_with fail
  · go_ret
    exact ⟨rfl, Below.refl _ _⟩
  rename (len : Int) ≤ 1048576 => hbig
  clear hbig
  refine (dDrawMinusOf a len cap zs _ h).mono ?_
  intro e w1 hP
  obtain ⟨u, d, rfl, hu1, hu2, hd1, hd2, hb1⟩ := hP
  go_wp2_with fail
  obtain ⟨W, hW⟩ : ∃ W : World, W = (w1.alloc (.cells #[(Value.int .i64 u), (Value.int .i64 d)] 24)) := ⟨_, rfl⟩
  have hzW : W.heap.size = w1.heap.size + 1 := by rw [hW]; simp
  have hbW : Below w1.heap.size w1 W := by rw [hW]; exact (by repeat (first | exact Below.refl _ _ | assumption | exact bel1 (by assumption) | exact bel2 (by assumption) | exact bel3 (by assumption) | exact bel4 (by assumption) | refine Below.drew ?_ | refine below_drewN ?_ _ | refine Below.setCell ?_ (by first | (simp; done) | (simp; omega)) _ | refine Below.alloc ?_ (by first | (simp; done) | (simp; omega)) _))
  have r00 := stays (p := w1.heap.size) (o := 0) (by omega) (show W.cell? ⟨w1.heap.size, 0, none⟩ = some ((Value.int .i64 u)) from by rw [hW]; simp [go_sem])
  have r01 := stays (p := w1.heap.size) (o := 1) (by omega) (show W.cell? ⟨w1.heap.size, 1, none⟩ = some ((Value.int .i64 d)) from by rw [hW]; simp [go_sem])
  rw [← hW]
  clear hW
  have HzW := Lib.hid hzW
  clear hzW
  have hkW : Below w.heap.size w W := belT hb1 hbW
  rcases hB : okB u d with _ | _
  · refine (minus_no_impl _ _ hB _).mono ?_
    rintro e w2 ⟨rfl, hb2⟩
    have hl1 : w1.heap.size < w2.heap.size := by have := hb2.size; have := HzW.out; omega
    have hk2 := belT hkW hb2
    go_wp2_with fail
    obtain ⟨V, hV⟩ : ∃ V : World, V = (w2.alloc (.cells #[(Value.int .i64 0), (Value.int .i64 0)] 24)) := ⟨_, rfl⟩
    have hzV : V.heap.size = w2.heap.size + 1 := by rw [hV]; simp
    have hbV : Below w2.heap.size w2 V := by rw [hV]; exact (by repeat (first | exact Below.refl _ _ | assumption | exact bel1 (by assumption) | exact bel2 (by assumption) | exact bel3 (by assumption) | exact bel4 (by assumption) | refine Below.drew ?_ | refine below_drewN ?_ _ | refine Below.setCell ?_ (by first | (simp; done) | (simp; omega)) _ | refine Below.alloc ?_ (by first | (simp; done) | (simp; omega)) _))
    have s00 := stays (p := w2.heap.size) (o := 0) (by omega) (show V.cell? ⟨w2.heap.size, 0, none⟩ = some ((Value.int .i64 0)) from by rw [hV]; simp [go_sem])
    have s01 := stays (p := w2.heap.size) (o := 1) (by omega) (show V.cell? ⟨w2.heap.size, 1, none⟩ = some ((Value.int .i64 0)) from by rw [hV]; simp [go_sem])
    rw [← hV]
    clear hV
    have HzV := Lib.hid hzV
    clear hzV
    have hq : Below W.heap.size W V := belT hb2 hbV
    have hsV := hbV.size
    have x00 := stays (W := V) (by omega) (r00 _ hq)
    have x01 := stays (W := V) (by omega) (r01 _ hq)
    have hkV := belT hk2 hbV
    clear r00 r01
    go_region_held3 (fun w' => Below V.heap.size V w')
      (first | exact Below.refl _ _ | exact Below.drew (Below.refl _ _) | (refine Below.drew ?_; assumption) | exact belT (by assumption) (by assumption) | assumption)
      (first | (go_at_call 15; refine (minus_no_spec _ _ hB _).mono ?_; rintro e w3 ⟨rfl, hb3⟩))
    go_wp2_with fail
    have h3 : Below V.heap.size V w3 := by assumption
    refine (fracOk_spec_v _ _ _ hB _).mono ?_
    rintro e w4 ⟨rfl, hb4⟩
    have h4 := belT h3 hb4
    have hk4 := belT hkV h4
    go_wp2_with fail
    refine (alive _).mono ?_
    rintro e w5 ⟨rfl, hb5⟩
    have hk5 := belT hk4 hb5
    go_wp2_with fail
    go_ret
    exact ⟨rfl, by repeat (first | exact Below.refl _ _ | assumption | exact bel1 (by assumption) | exact bel2 (by assumption) | exact bel3 (by assumption) | exact bel4 (by assumption) | refine Below.drew ?_ | refine below_drewN ?_ _ | refine Below.setCell ?_ (by first | (simp; done) | (simp; omega)) _ | refine Below.alloc ?_ (by first | (simp; done) | (simp; omega)) _)⟩
  · refine (minus_yes_impl _ _ hB _).mono ?_
    rintro e w2 ⟨rfl, hb2⟩
    have hl1 : w1.heap.size < w2.heap.size := by have := hb2.size; have := HzW.out; omega
    have hk2 := belT hkW hb2
    go_wp2_with fail
    obtain ⟨V, hV⟩ : ∃ V : World, V = (w2.alloc (.cells #[(Value.int .i64 (-u)), (Value.int .i64 d)] 24)) := ⟨_, rfl⟩
    have hzV : V.heap.size = w2.heap.size + 1 := by rw [hV]; simp
    have hbV : Below w2.heap.size w2 V := by rw [hV]; exact (by repeat (first | exact Below.refl _ _ | assumption | exact bel1 (by assumption) | exact bel2 (by assumption) | exact bel3 (by assumption) | exact bel4 (by assumption) | refine Below.drew ?_ | refine below_drewN ?_ _ | refine Below.setCell ?_ (by first | (simp; done) | (simp; omega)) _ | refine Below.alloc ?_ (by first | (simp; done) | (simp; omega)) _))
    have s00 := stays (p := w2.heap.size) (o := 0) (by omega) (show V.cell? ⟨w2.heap.size, 0, none⟩ = some ((Value.int .i64 (-u))) from by rw [hV]; simp [go_sem])
    have s01 := stays (p := w2.heap.size) (o := 1) (by omega) (show V.cell? ⟨w2.heap.size, 1, none⟩ = some ((Value.int .i64 d)) from by rw [hV]; simp [go_sem])
    rw [← hV]
    clear hV
    have HzV := Lib.hid hzV
    clear hzV
    have hq : Below W.heap.size W V := belT hb2 hbV
    have hsV := hbV.size
    have x00 := stays (W := V) (by omega) (r00 _ hq)
    have x01 := stays (W := V) (by omega) (r01 _ hq)
    have hkV := belT hk2 hbV
    clear r00 r01
    go_region_held3 (fun w' => Below V.heap.size V w')
      (first | exact Below.refl _ _ | exact Below.drew (Below.refl _ _) | (refine Below.drew ?_; assumption) | exact belT (by assumption) (by assumption) | assumption)
      (first | (go_at_call 15; refine (minus_yes_spec _ _ hB _).mono ?_; rintro e w3 ⟨rfl, hb3⟩))
    go_wp2_with fail
    have h3 : Below V.heap.size V w3 := by assumption
    refine (fracOk_spec_v _ _ _ hB _).mono ?_
    rintro e w4 ⟨rfl, hb4⟩
    have h4 := belT h3 hb4
    have hk4 := belT hkV h4
    obtain ⟨q1, q2, q3⟩ := ps_minus hB
    have Q := Lib.hid (fun w => plusOf_val2 q1 q2 q3 w)
    clear q1 q2 q3
    go_wp2_with fail
    refine (Q.out _).mono ?_
    rintro e w5 ⟨rfl, hb5⟩
    have h5 := belT h4 hb5
    have hk5 := belT hkV h5
    have hs5 := h5.size
    go_wp2_with fail
    obtain ⟨X, hX⟩ : ∃ X : World, X = (w5.alloc (.cells #[(Value.int .i64 0), (Value.int .i64 1)] 24)) := ⟨_, rfl⟩
    have hzX : X.heap.size = w5.heap.size + 1 := by rw [hX]; simp
    have hbX : Below w5.heap.size w5 X := by rw [hX]; exact (by repeat (first | exact Below.refl _ _ | assumption | exact bel1 (by assumption) | exact bel2 (by assumption) | exact bel3 (by assumption) | exact bel4 (by assumption) | refine Below.drew ?_ | refine below_drewN ?_ _ | refine Below.setCell ?_ (by first | (simp; done) | (simp; omega)) _ | refine Below.alloc ?_ (by first | (simp; done) | (simp; omega)) _))
    have z00 := stays (p := w5.heap.size) (o := 0) (by omega) (show X.cell? ⟨w5.heap.size, 0, none⟩ = some ((Value.int .i64 0)) from by rw [hX]; simp [go_sem])
    have z01 := stays (p := w5.heap.size) (o := 1) (by omega) (show X.cell? ⟨w5.heap.size, 1, none⟩ = some ((Value.int .i64 1)) from by rw [hX]; simp [go_sem])
    rw [← hX]
    clear hX
    have HzX := Lib.hid hzX
    clear hzX
    have hX : Below V.heap.size V X := belT h5 hbX
    have hsX := hbX.size
    have y00 := stays (W := X) (by have := HzV.out; omega) (x00 _ hX)
    have y01 := stays (W := X) (by have := HzV.out; omega) (x01 _ hX)
    have y10 := stays (W := X) (by have := HzV.out; omega) (s00 _ hX)
    have y11 := stays (W := X) (by have := HzV.out; omega) (s01 _ hX)
    have hkX := belT hk5 hbX
    clear x00 x01 s00 s01
    go_region_held3 (fun w' => Below X.heap.size X w')
      (first | exact Below.refl _ _ | exact Below.drew (Below.refl _ _) | (refine Below.drew ?_; assumption) | exact belT (by assumption) (by assumption) | assumption)
      (first | (go_at_call 12; refine (minus_back hB _).mono ?_; rintro e w6 ⟨rfl, hb6⟩))
    go_wp2_with fail
    have h6 : Below X.heap.size X w6 := by assumption
    have hk6 := belT hkX h6
    go_ret
    exact ⟨rfl, by repeat (first | exact Below.refl _ _ | assumption | exact bel1 (by assumption) | exact bel2 (by assumption) | exact bel3 (by assumption) | exact bel4 (by assumption) | refine Below.drew ?_ | refine below_drewN ?_ _ | refine Below.setCell ?_ (by first | (simp; done) | (simp; omega)) _ | refine Below.alloc ?_ (by first | (simp; done) | (simp; omega)) _)⟩

end Go.Proofs.Ytpkdmilbppipmaa
