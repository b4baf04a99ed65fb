/- The walks of the functions on fractions, fifth part: the model's sum, order. (Written by wip/gen/fracc.py.) -/
import Derived.Test.YtjojilimdhekfaaFracD
namespace Go.Proofs.Ytjojilimdhekfaa
set_option linter.unusedSimpArgs false
set_option linter.unusedVariables false
open Go.RowKit

theorem fracOk_impl_v (u d : Int) (b : Bool) (h : okB u d = b) (w : World) :
    Calls Try.prog 58 #[.agg #[.int .i64 u, .int .i64 d]] w fun e w' => e = .returned (.bool b) ∧ Below w.heap.size w w' := by
  subst h; exact fracOk_impl u d w

/-- is it less? -/
def lessB (fu fd gu gd : Int) : Bool := okB fu fd && okB gu gd && decide (fu * gd < gu * fd)

theorem lessB_ok {fu fd gu gd : Int} (hf : okB fu fd = true) (hg : okB gu gd = true) : lessB fu fd gu gd = decide (fu * gd < gu * fd) := by simp [lessB, hf, hg]

set_option maxHeartbeats 1000000 in
theorem less_no1_impl (fu fd gu gd : Int) (hf : okB fu fd = false) (w : World) :
    Calls Try.prog 19 #[.agg #[.int .i64 fu, .int .i64 fd], .agg #[.int .i64 gu, .int .i64 gd]] w fun e w' => e = .returned (.bool (lessB fu fd gu gd)) ∧ Below w.heap.size w w' := by
  have hfin : lessB fu fd gu gd = false := by simp [lessB, hf]
  have Hf := Lib.hid hfin
  clear hfin
  go_enter Try.func19, Try.ntmps19
  go_wp2_with fail
  obtain ⟨W, hW⟩ : ∃ W : World, W = ((w.alloc (.cells #[(Value.int .i64 fu), (Value.int .i64 fd)] 28)).alloc (.cells #[(Value.int .i64 gu), (Value.int .i64 gd)] 28)) := ⟨_, rfl⟩
  have hzW : W.heap.size = w.heap.size + 2 := by rw [hW]; simp
  have hbW : Below w.heap.size w W := by rw [hW]; exact (by repeat (first | exact Below.refl _ _ | assumption | exact bel1 (by assumption) | exact bel2 (by assumption) | exact bel3 (by assumption) | exact bel4 (by assumption) | refine Below.drew ?_ | refine below_drewN ?_ _ | refine Below.setCell ?_ (by first | (simp; done) | (simp; omega)) _ | refine Below.alloc ?_ (by first | (simp; done) | (simp; omega)) _))
  have r00 := stays (p := w.heap.size) (o := 0) (by omega) (show W.cell? ⟨w.heap.size, 0, none⟩ = some ((Value.int .i64 fu)) from by rw [hW]; simp [go_sem])
  have r01 := stays (p := w.heap.size) (o := 1) (by omega) (show W.cell? ⟨w.heap.size, 1, none⟩ = some ((Value.int .i64 fd)) from by rw [hW]; simp [go_sem])
  have r10 := stays (p := w.heap.size + 1) (o := 0) (by omega) (show W.cell? ⟨w.heap.size + 1, 0, none⟩ = some ((Value.int .i64 gu)) from by rw [hW]; simp [go_sem])
  have r11 := stays (p := w.heap.size + 1) (o := 1) (by omega) (show W.cell? ⟨w.heap.size + 1, 1, none⟩ = some ((Value.int .i64 gd)) from by rw [hW]; simp [go_sem])
  rw [← hW]
  clear hW
  have HzW := Lib.hid hzW
  clear hzW
  go_wp2_with (go_at_call 58; refine (fracOk_impl _ _ _).mono ?_; rintro e w1 ⟨rfl, hb1⟩; have hk := belT (by first | exact Below.refl W.heap.size _ | exact Below.drew (Below.refl W.heap.size _) | assumption) hb1)
  have hk2 := belT hbW hk
  go_ret
  exact ⟨by simp [Hf.out], by repeat (first | exact Below.refl _ _ | assumption | exact bel1 (by assumption) | exact bel2 (by assumption) | exact bel3 (by assumption) | exact bel4 (by assumption) | refine Below.drew ?_ | refine below_drewN ?_ _ | refine Below.setCell ?_ (by first | (simp; done) | (simp; omega)) _ | refine Below.alloc ?_ (by first | (simp; done) | (simp; omega)) _)⟩

set_option maxHeartbeats 1000000 in
theorem less_no2_impl (fu fd gu gd : Int) (hf : okB fu fd = true) (hg : okB gu gd = false) (w : World) :
    Calls Try.prog 19 #[.agg #[.int .i64 fu, .int .i64 fd], .agg #[.int .i64 gu, .int .i64 gd]] w fun e w' => e = .returned (.bool (lessB fu fd gu gd)) ∧ Below w.heap.size w w' := by
  have hfin : lessB fu fd gu gd = false := by simp [lessB, hg]
  have Hf := Lib.hid hfin
  clear hfin
  go_enter Try.func19, Try.ntmps19
  go_wp2_with fail
  obtain ⟨W, hW⟩ : ∃ W : World, W = ((w.alloc (.cells #[(Value.int .i64 fu), (Value.int .i64 fd)] 28)).alloc (.cells #[(Value.int .i64 gu), (Value.int .i64 gd)] 28)) := ⟨_, rfl⟩
  have hzW : W.heap.size = w.heap.size + 2 := by rw [hW]; simp
  have hbW : Below w.heap.size w W := by rw [hW]; exact (by repeat (first | exact Below.refl _ _ | assumption | exact bel1 (by assumption) | exact bel2 (by assumption) | exact bel3 (by assumption) | exact bel4 (by assumption) | refine Below.drew ?_ | refine below_drewN ?_ _ | refine Below.setCell ?_ (by first | (simp; done) | (simp; omega)) _ | refine Below.alloc ?_ (by first | (simp; done) | (simp; omega)) _))
  have r00 := stays (p := w.heap.size) (o := 0) (by omega) (show W.cell? ⟨w.heap.size, 0, none⟩ = some ((Value.int .i64 fu)) from by rw [hW]; simp [go_sem])
  have r01 := stays (p := w.heap.size) (o := 1) (by omega) (show W.cell? ⟨w.heap.size, 1, none⟩ = some ((Value.int .i64 fd)) from by rw [hW]; simp [go_sem])
  have r10 := stays (p := w.heap.size + 1) (o := 0) (by omega) (show W.cell? ⟨w.heap.size + 1, 0, none⟩ = some ((Value.int .i64 gu)) from by rw [hW]; simp [go_sem])
  have r11 := stays (p := w.heap.size + 1) (o := 1) (by omega) (show W.cell? ⟨w.heap.size + 1, 1, none⟩ = some ((Value.int .i64 gd)) from by rw [hW]; simp [go_sem])
  rw [← hW]
  clear hW
  have HzW := Lib.hid hzW
  clear hzW
  go_wp2_with (go_at_call 58; refine (fracOk_impl _ _ _).mono ?_; rintro e w1 ⟨rfl, hb1⟩; have hk := belT (by first | exact Below.refl W.heap.size _ | exact Below.drew (Below.refl W.heap.size _) | assumption) hb1)
  have hk2 := belT hbW hk
  go_ret
  exact ⟨by simp [Hf.out], by repeat (first | exact Below.refl _ _ | assumption | exact bel1 (by assumption) | exact bel2 (by assumption) | exact bel3 (by assumption) | exact bel4 (by assumption) | refine Below.drew ?_ | refine below_drewN ?_ _ | refine Below.setCell ?_ (by first | (simp; done) | (simp; omega)) _ | refine Below.alloc ?_ (by first | (simp; done) | (simp; omega)) _)⟩

set_option maxHeartbeats 1000000 in
theorem less_yes_impl (fu fd gu gd : Int) (hf : okB fu fd = true) (hg : okB gu gd = true) (w : World) :
    Calls Try.prog 19 #[.agg #[.int .i64 fu, .int .i64 fd], .agg #[.int .i64 gu, .int .i64 gd]] w fun e w' => e = .returned (.bool (lessB fu fd gu gd)) ∧ Below w.heap.size w w' := by
  have hfin := lessB_ok hf hg
  have Hf := Lib.hid hfin
  clear hfin
  obtain ⟨a1, a2, a3, a4, _⟩ := okB_iff.1 hf
  obtain ⟨b1, b2, b3, b4, _⟩ := okB_iff.1 hg
  have m1 := mul_in a1 a2 (show 0 ≤ gd by omega) b4
  have m2 := mul_in b1 b2 (show 0 ≤ fd by omega) a4
  have m3 := mul_in (show -1000000000 ≤ fd by omega) a4 (show 0 ≤ gd by omega) b4
  have m4 := mul_pos a3 b3
  have q1 : -4611686018427387904 ≤ fu * gd + gu * fd := by omega
  have q2 : fu * gd + gu * fd ≤ 4611686018427387904 := by omega
  have q3 : -4611686018427387904 ≤ fd * gd := by omega
  have q4 : fd * gd ≤ 4611686018427387904 := by omega
  have q5 : fd * gd ≠ 0 := by omega
  have q6 : -4611686018427387904 ≤ fu * gd := by omega
  have q7 : fu * gd ≤ 4611686018427387904 := by omega
  have q8 : -4611686018427387904 ≤ gu * fd := by omega
  have q9 : gu * fd ≤ 4611686018427387904 := by omega
  go_enter Try.func19, Try.ntmps19
  go_wp2_with fail
  obtain ⟨W, hW⟩ : ∃ W : World, W = ((w.alloc (.cells #[(Value.int .i64 fu), (Value.int .i64 fd)] 28)).alloc (.cells #[(Value.int .i64 gu), (Value.int .i64 gd)] 28)) := ⟨_, rfl⟩
  have hzW : W.heap.size = w.heap.size + 2 := by rw [hW]; simp
  have hbW : Below w.heap.size w W := by rw [hW]; exact (by repeat (first | exact Below.refl _ _ | assumption | exact bel1 (by assumption) | exact bel2 (by assumption) | exact bel3 (by assumption) | exact bel4 (by assumption) | refine Below.drew ?_ | refine below_drewN ?_ _ | refine Below.setCell ?_ (by first | (simp; done) | (simp; omega)) _ | refine Below.alloc ?_ (by first | (simp; done) | (simp; omega)) _))
  have r00 := stays (p := w.heap.size) (o := 0) (by omega) (show W.cell? ⟨w.heap.size, 0, none⟩ = some ((Value.int .i64 fu)) from by rw [hW]; simp [go_sem])
  have r01 := stays (p := w.heap.size) (o := 1) (by omega) (show W.cell? ⟨w.heap.size, 1, none⟩ = some ((Value.int .i64 fd)) from by rw [hW]; simp [go_sem])
  have r10 := stays (p := w.heap.size + 1) (o := 0) (by omega) (show W.cell? ⟨w.heap.size + 1, 0, none⟩ = some ((Value.int .i64 gu)) from by rw [hW]; simp [go_sem])
  have r11 := stays (p := w.heap.size + 1) (o := 1) (by omega) (show W.cell? ⟨w.heap.size + 1, 1, none⟩ = some ((Value.int .i64 gd)) from by rw [hW]; simp [go_sem])
  rw [← hW]
  clear hW
  have HzW := Lib.hid hzW
  clear hzW
  go_wp2_with (first | (go_at_call 58; refine (fracOk_impl _ _ _).mono ?_; rintro e w1 ⟨rfl, hb1⟩; have hk := belT (by first | exact Below.refl W.heap.size _ | exact Below.drew (Below.refl W.heap.size _) | assumption) hb1) | (go_at_call 62; refine (less _ _ _ _ q6 q7 q8 q9 _).mono ?_; rintro e w1 ⟨rfl, hb1⟩; have hk := belT (by first | exact Below.refl W.heap.size _ | exact Below.drew (Below.refl W.heap.size _) | assumption) hb1))
  have hk2 := belT hbW hk
  go_ret
  exact ⟨by simp [Hf.out], by repeat (first | exact Below.refl _ _ | assumption | exact bel1 (by assumption) | exact bel2 (by assumption) | exact bel3 (by assumption) | exact bel4 (by assumption) | refine Below.drew ?_ | refine below_drewN ?_ _ | refine Below.setCell ?_ (by first | (simp; done) | (simp; omega)) _ | refine Below.alloc ?_ (by first | (simp; done) | (simp; omega)) _)⟩

end Go.Proofs.Ytjojilimdhekfaa
