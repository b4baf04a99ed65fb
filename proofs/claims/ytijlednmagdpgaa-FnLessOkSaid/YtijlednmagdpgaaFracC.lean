/- The walks of the functions on fractions, third part: sums and order. (Written by wip/gen/fracc.py.) -/
import Derived.Test.YtijlednmagdpgaaFracB
namespace Go.Proofs.Ytijlednmagdpgaa
set_option linter.unusedSimpArgs false
set_option linter.unusedVariables false
open Go.RowKit

/-- a cell that stays through whatever only adds blocks: a rule for the walk -/
theorem stays {W : World} {p o : Nat} {a : Value} (hp : p < W.heap.size) (h : W.cell? ⟨p, o, none⟩ = some a) : ∀ w1, Below W.heap.size W w1 → w1.cell? ⟨p, o, none⟩ = some a :=
  fun _ hb => (hb.cell (p := ⟨p, o, none⟩) hp).trans h
theorem staysF {W : World} {p o : Nat} {b : Bool} (hp : p < W.heap.size) (h : W.frozen? ⟨p, o, none⟩ = b) : ∀ w1, Below W.heap.size W w1 → w1.frozen? ⟨p, o, none⟩ = b :=
  fun _ hb => (hb.frozen (p := ⟨p, o, none⟩) hp).trans h

set_option maxHeartbeats 1000000 in
theorem plus_yes (fu fd gu gd : Int) (hf : okB fu fd = true) (hg : okB gu gd = true) (hp : plB fu fd gu gd = true) (w : World) :
    Calls Try.prog 40 #[.agg #[.int .i64 fu, .int .i64 fd], .agg #[.int .i64 gu, .int .i64 gd]] w fun e w' => e = .returned (.tuple #[.agg #[.int .i64 (plU fu fd gu gd), .int .i64 (plD fu fd gu gd)], .bool true]) ∧ Below w.heap.size w w' := by
  obtain ⟨a1, a2, a3, a4, _⟩ := okB_iff.1 hf
  obtain ⟨b1, b2, b3, b4, _⟩ := okB_iff.1 hg
  have m1 := mul_in a1 a2 (show 0 ≤ gd by omega) b4
  have m2 := mul_in b1 b2 (show 0 ≤ fd by omega) a4
  have m3 := mul_in (show -1000000000 ≤ fd by omega) a4 (show 0 ≤ gd by omega) b4
  have m4 := mul_pos a3 b3
  have i1 : inR (lowU (fu * gd + gu * fd) (fd * gd)) (-1000000000) 1000000000 = true := by
    obtain ⟨p1, p2, p3, p4⟩ := plB_iff.1 hp
    show inR (plU fu fd gu gd) _ _ = true
    simp [inR, p1, p2]
  have i2 : inR (lowD (fu * gd + gu * fd) (fd * gd)) (-1000000000) 1000000000 = true := by
    obtain ⟨p1, p2, p3, p4⟩ := plB_iff.1 hp
    show inR (plD fu fd gu gd) _ _ = true
    simp [inR, p3, p4]
  clear hf hg hp
  go_enter Try.func40, Try.ntmps40
  go_wp2_with fail
  obtain ⟨W, hW⟩ : ∃ W : World, W = (((w.alloc (.cells #[(Value.int .i64 fu), (Value.int .i64 fd)] 24)).alloc (.cells #[(Value.int .i64 gu), (Value.int .i64 gd)] 24)).alloc (.cells #[(Value.int .i64 0), (Value.int .i64 0)] 24)) := ⟨_, rfl⟩
  have hzW : W.heap.size = w.heap.size + 3 := by rw [hW]; simp
  have hbW : Below w.heap.size w W := by rw [hW]; exact (by repeat (first | exact Below.refl _ _ | assumption | exact bel1 (by assumption) | exact bel2 (by assumption) | exact bel3 (by assumption) | exact bel4 (by assumption) | refine Below.drew ?_ | refine below_drewN ?_ _ | refine Below.setCell ?_ (by first | (simp; done) | (simp; omega)) _ | refine Below.alloc ?_ (by first | (simp; done) | (simp; omega)) _))
  have r00 := stays (p := w.heap.size) (o := 0) (by omega) (show W.cell? ⟨w.heap.size, 0, none⟩ = some ((Value.int .i64 fu)) from by rw [hW]; simp [go_sem])
  have r01 := stays (p := w.heap.size) (o := 1) (by omega) (show W.cell? ⟨w.heap.size, 1, none⟩ = some ((Value.int .i64 fd)) from by rw [hW]; simp [go_sem])
  have r10 := stays (p := w.heap.size + 1) (o := 0) (by omega) (show W.cell? ⟨w.heap.size + 1, 0, none⟩ = some ((Value.int .i64 gu)) from by rw [hW]; simp [go_sem])
  have r11 := stays (p := w.heap.size + 1) (o := 1) (by omega) (show W.cell? ⟨w.heap.size + 1, 1, none⟩ = some ((Value.int .i64 gd)) from by rw [hW]; simp [go_sem])
  have r20 := stays (p := w.heap.size + 2) (o := 0) (by omega) (show W.cell? ⟨w.heap.size + 2, 0, none⟩ = some ((Value.int .i64 0)) from by rw [hW]; simp [go_sem])
  have g20 := staysF (p := w.heap.size + 2) (o := 0) (by omega) (show W.frozen? ⟨w.heap.size + 2, 0, none⟩ = false from by rw [hW]; simp [go_sem])
  have r21 := stays (p := w.heap.size + 2) (o := 1) (by omega) (show W.cell? ⟨w.heap.size + 2, 1, none⟩ = some ((Value.int .i64 0)) from by rw [hW]; simp [go_sem])
  have g21 := staysF (p := w.heap.size + 2) (o := 1) (by omega) (show W.frozen? ⟨w.heap.size + 2, 1, none⟩ = false from by rw [hW]; simp [go_sem])
  rw [← hW]
  clear hW
  have HzW := Lib.hid hzW
  clear hzW
  have q1 : -4611686018427387904 ≤ fu * gd + gu * fd := by omega
  have q2 : fu * gd + gu * fd ≤ 4611686018427387904 := by omega
  have q3 : -4611686018427387904 ≤ fd * gd := by omega
  have q4 : fd * gd ≤ 4611686018427387904 := by omega
  have q5 : fd * gd ≠ 0 := by omega
  have q6 : -4611686018427387904 ≤ fu * gd := by omega
  have q7 : fu * gd ≤ 4611686018427387904 := by omega
  have q8 : -4611686018427387904 ≤ gu * fd := by omega
  have q9 : gu * fd ≤ 4611686018427387904 := by omega
  have x1 : IntKind.i64.wrap (fu * gd + gu * fd) = fu * gd + gu * fd := IntWalk.i64_in _ (by omega)
  have x2 : IntKind.i64.wrap (fd * gd) = fd * gd := IntWalk.i64_in _ (by omega)
  go_region_held3 (fun w' => Below W.heap.size W w')
    (first | exact Below.refl _ _ | exact Below.drew (Below.refl _ _) | exact belT (by assumption) (by assumption) | assumption)
    (first | (go_at_call 41; refine (crosswise _ _ _ _ (by assumption) (by assumption) _).mono ?_; rintro e w1 ⟨rfl, hb1⟩) | (go_at_call 44; refine (low_i64 _ _ q1 q2 q3 q4 q5 _).mono ?_; rintro e w1 ⟨rfl, hb1⟩))
  clear x1 x2
  go_wp2_with (go_at_call 45; refine (part_i64 _ _).mono ?_; rintro e w1 ⟨rfl, rfl⟩)
  have hk : Below W.heap.size W w1 := by assumption
  have hk2 := belT hbW hk
  refine bodyPost_ret (v := .tuple #[.agg #[.int .i64 (lowU (fu * gd + gu * fd) (fd * gd)), .int .i64 (lowD (fu * gd + gu * fd) (fd * gd))], .bool true]) (by simp [results, Try.results40, go_sem, r20 _ hk, r21 _ hk]) rfl ⟨rfl, by repeat (first | exact Below.refl _ _ | assumption | exact bel1 (by assumption) | exact bel2 (by assumption) | exact bel3 (by assumption) | exact bel4 (by assumption) | refine Below.drew ?_ | refine below_drewN ?_ _ | refine Below.setCell ?_ (by first | (simp; done) | (simp; omega)) _ | refine Below.alloc ?_ (by first | (simp; done) | (simp; omega)) _)⟩

set_option maxHeartbeats 1000000 in
theorem plus_no1 (fu fd gu gd : Int) (hf : okB fu fd = true) (hg : okB gu gd = true) (hp : inR (plU fu fd gu gd) (-1000000000) 1000000000 = false) (w : World) :
    Calls Try.prog 40 #[.agg #[.int .i64 fu, .int .i64 fd], .agg #[.int .i64 gu, .int .i64 gd]] w fun e w' => e = .returned (.tuple #[.agg #[.int .i64 0, .int .i64 0], .bool false]) ∧ Below w.heap.size w w' := by
  obtain ⟨a1, a2, a3, a4, _⟩ := okB_iff.1 hf
  obtain ⟨b1, b2, b3, b4, _⟩ := okB_iff.1 hg
  have m1 := mul_in a1 a2 (show 0 ≤ gd by omega) b4
  have m2 := mul_in b1 b2 (show 0 ≤ fd by omega) a4
  have m3 := mul_in (show -1000000000 ≤ fd by omega) a4 (show 0 ≤ gd by omega) b4
  have m4 := mul_pos a3 b3
  have i1 : inR (lowU (fu * gd + gu * fd) (fd * gd)) (-1000000000) 1000000000 = false := hp
  clear hf hg hp
  go_enter Try.func40, Try.ntmps40
  go_wp2_with fail
  obtain ⟨W, hW⟩ : ∃ W : World, W = (((w.alloc (.cells #[(Value.int .i64 fu), (Value.int .i64 fd)] 24)).alloc (.cells #[(Value.int .i64 gu), (Value.int .i64 gd)] 24)).alloc (.cells #[(Value.int .i64 0), (Value.int .i64 0)] 24)) := ⟨_, rfl⟩
  have hzW : W.heap.size = w.heap.size + 3 := by rw [hW]; simp
  have hbW : Below w.heap.size w W := by rw [hW]; exact (by repeat (first | exact Below.refl _ _ | assumption | exact bel1 (by assumption) | exact bel2 (by assumption) | exact bel3 (by assumption) | exact bel4 (by assumption) | refine Below.drew ?_ | refine below_drewN ?_ _ | refine Below.setCell ?_ (by first | (simp; done) | (simp; omega)) _ | refine Below.alloc ?_ (by first | (simp; done) | (simp; omega)) _))
  have r00 := stays (p := w.heap.size) (o := 0) (by omega) (show W.cell? ⟨w.heap.size, 0, none⟩ = some ((Value.int .i64 fu)) from by rw [hW]; simp [go_sem])
  have r01 := stays (p := w.heap.size) (o := 1) (by omega) (show W.cell? ⟨w.heap.size, 1, none⟩ = some ((Value.int .i64 fd)) from by rw [hW]; simp [go_sem])
  have r10 := stays (p := w.heap.size + 1) (o := 0) (by omega) (show W.cell? ⟨w.heap.size + 1, 0, none⟩ = some ((Value.int .i64 gu)) from by rw [hW]; simp [go_sem])
  have r11 := stays (p := w.heap.size + 1) (o := 1) (by omega) (show W.cell? ⟨w.heap.size + 1, 1, none⟩ = some ((Value.int .i64 gd)) from by rw [hW]; simp [go_sem])
  have r20 := stays (p := w.heap.size + 2) (o := 0) (by omega) (show W.cell? ⟨w.heap.size + 2, 0, none⟩ = some ((Value.int .i64 0)) from by rw [hW]; simp [go_sem])
  have g20 := staysF (p := w.heap.size + 2) (o := 0) (by omega) (show W.frozen? ⟨w.heap.size + 2, 0, none⟩ = false from by rw [hW]; simp [go_sem])
  have r21 := stays (p := w.heap.size + 2) (o := 1) (by omega) (show W.cell? ⟨w.heap.size + 2, 1, none⟩ = some ((Value.int .i64 0)) from by rw [hW]; simp [go_sem])
  have g21 := staysF (p := w.heap.size + 2) (o := 1) (by omega) (show W.frozen? ⟨w.heap.size + 2, 1, none⟩ = false from by rw [hW]; simp [go_sem])
  rw [← hW]
  clear hW
  have HzW := Lib.hid hzW
  clear hzW
  have q1 : -4611686018427387904 ≤ fu * gd + gu * fd := by omega
  have q2 : fu * gd + gu * fd ≤ 4611686018427387904 := by omega
  have q3 : -4611686018427387904 ≤ fd * gd := by omega
  have q4 : fd * gd ≤ 4611686018427387904 := by omega
  have q5 : fd * gd ≠ 0 := by omega
  have q6 : -4611686018427387904 ≤ fu * gd := by omega
  have q7 : fu * gd ≤ 4611686018427387904 := by omega
  have q8 : -4611686018427387904 ≤ gu * fd := by omega
  have q9 : gu * fd ≤ 4611686018427387904 := by omega
  have x1 : IntKind.i64.wrap (fu * gd + gu * fd) = fu * gd + gu * fd := IntWalk.i64_in _ (by omega)
  have x2 : IntKind.i64.wrap (fd * gd) = fd * gd := IntWalk.i64_in _ (by omega)
  go_region_held3 (fun w' => Below W.heap.size W w')
    (first | exact Below.refl _ _ | exact Below.drew (Below.refl _ _) | exact belT (by assumption) (by assumption) | assumption)
    (first | (go_at_call 41; refine (crosswise _ _ _ _ (by assumption) (by assumption) _).mono ?_; rintro e w1 ⟨rfl, hb1⟩) | (go_at_call 44; refine (low_i64 _ _ q1 q2 q3 q4 q5 _).mono ?_; rintro e w1 ⟨rfl, hb1⟩))
  clear x1 x2
  go_wp2_with (go_at_call 45; refine (part_i64 _ _).mono ?_; rintro e w1 ⟨rfl, rfl⟩)
  have hk : Below W.heap.size W w1 := by assumption
  have hk2 := belT hbW hk
  refine bodyPost_ret (v := .tuple #[.agg #[.int .i64 0, .int .i64 0], .bool false]) (by simp [results, Try.results40, go_sem, r20 _ hk, r21 _ hk]) rfl ⟨rfl, by repeat (first | exact Below.refl _ _ | assumption | exact bel1 (by assumption) | exact bel2 (by assumption) | exact bel3 (by assumption) | exact bel4 (by assumption) | refine Below.drew ?_ | refine below_drewN ?_ _ | refine Below.setCell ?_ (by first | (simp; done) | (simp; omega)) _ | refine Below.alloc ?_ (by first | (simp; done) | (simp; omega)) _)⟩

set_option maxHeartbeats 1000000 in
theorem plus_no2 (fu fd gu gd : Int) (hf : okB fu fd = true) (hg : okB gu gd = true) (hp : inR (plU fu fd gu gd) (-1000000000) 1000000000 = true ∧ inR (plD fu fd gu gd) (-1000000000) 1000000000 = false) (w : World) :
    Calls Try.prog 40 #[.agg #[.int .i64 fu, .int .i64 fd], .agg #[.int .i64 gu, .int .i64 gd]] w fun e w' => e = .returned (.tuple #[.agg #[.int .i64 0, .int .i64 0], .bool false]) ∧ Below w.heap.size w w' := by
  obtain ⟨a1, a2, a3, a4, _⟩ := okB_iff.1 hf
  obtain ⟨b1, b2, b3, b4, _⟩ := okB_iff.1 hg
  have m1 := mul_in a1 a2 (show 0 ≤ gd by omega) b4
  have m2 := mul_in b1 b2 (show 0 ≤ fd by omega) a4
  have m3 := mul_in (show -1000000000 ≤ fd by omega) a4 (show 0 ≤ gd by omega) b4
  have m4 := mul_pos a3 b3
  have i1 : inR (lowU (fu * gd + gu * fd) (fd * gd)) (-1000000000) 1000000000 = true := hp.1
  have i2 : inR (lowD (fu * gd + gu * fd) (fd * gd)) (-1000000000) 1000000000 = false := hp.2
  clear hf hg hp
  go_enter Try.func40, Try.ntmps40
  go_wp2_with fail
  obtain ⟨W, hW⟩ : ∃ W : World, W = (((w.alloc (.cells #[(Value.int .i64 fu), (Value.int .i64 fd)] 24)).alloc (.cells #[(Value.int .i64 gu), (Value.int .i64 gd)] 24)).alloc (.cells #[(Value.int .i64 0), (Value.int .i64 0)] 24)) := ⟨_, rfl⟩
  have hzW : W.heap.size = w.heap.size + 3 := by rw [hW]; simp
  have hbW : Below w.heap.size w W := by rw [hW]; exact (by repeat (first | exact Below.refl _ _ | assumption | exact bel1 (by assumption) | exact bel2 (by assumption) | exact bel3 (by assumption) | exact bel4 (by assumption) | refine Below.drew ?_ | refine below_drewN ?_ _ | refine Below.setCell ?_ (by first | (simp; done) | (simp; omega)) _ | refine Below.alloc ?_ (by first | (simp; done) | (simp; omega)) _))
  have r00 := stays (p := w.heap.size) (o := 0) (by omega) (show W.cell? ⟨w.heap.size, 0, none⟩ = some ((Value.int .i64 fu)) from by rw [hW]; simp [go_sem])
  have r01 := stays (p := w.heap.size) (o := 1) (by omega) (show W.cell? ⟨w.heap.size, 1, none⟩ = some ((Value.int .i64 fd)) from by rw [hW]; simp [go_sem])
  have r10 := stays (p := w.heap.size + 1) (o := 0) (by omega) (show W.cell? ⟨w.heap.size + 1, 0, none⟩ = some ((Value.int .i64 gu)) from by rw [hW]; simp [go_sem])
  have r11 := stays (p := w.heap.size + 1) (o := 1) (by omega) (show W.cell? ⟨w.heap.size + 1, 1, none⟩ = some ((Value.int .i64 gd)) from by rw [hW]; simp [go_sem])
  have r20 := stays (p := w.heap.size + 2) (o := 0) (by omega) (show W.cell? ⟨w.heap.size + 2, 0, none⟩ = some ((Value.int .i64 0)) from by rw [hW]; simp [go_sem])
  have g20 := staysF (p := w.heap.size + 2) (o := 0) (by omega) (show W.frozen? ⟨w.heap.size + 2, 0, none⟩ = false from by rw [hW]; simp [go_sem])
  have r21 := stays (p := w.heap.size + 2) (o := 1) (by omega) (show W.cell? ⟨w.heap.size + 2, 1, none⟩ = some ((Value.int .i64 0)) from by rw [hW]; simp [go_sem])
  have g21 := staysF (p := w.heap.size + 2) (o := 1) (by omega) (show W.frozen? ⟨w.heap.size + 2, 1, none⟩ = false from by rw [hW]; simp [go_sem])
  rw [← hW]
  clear hW
  have HzW := Lib.hid hzW
  clear hzW
  have q1 : -4611686018427387904 ≤ fu * gd + gu * fd := by omega
  have q2 : fu * gd + gu * fd ≤ 4611686018427387904 := by omega
  have q3 : -4611686018427387904 ≤ fd * gd := by omega
  have q4 : fd * gd ≤ 4611686018427387904 := by omega
  have q5 : fd * gd ≠ 0 := by omega
  have q6 : -4611686018427387904 ≤ fu * gd := by omega
  have q7 : fu * gd ≤ 4611686018427387904 := by omega
  have q8 : -4611686018427387904 ≤ gu * fd := by omega
  have q9 : gu * fd ≤ 4611686018427387904 := by omega
  have x1 : IntKind.i64.wrap (fu * gd + gu * fd) = fu * gd + gu * fd := IntWalk.i64_in _ (by omega)
  have x2 : IntKind.i64.wrap (fd * gd) = fd * gd := IntWalk.i64_in _ (by omega)
  go_region_held3 (fun w' => Below W.heap.size W w')
    (first | exact Below.refl _ _ | exact Below.drew (Below.refl _ _) | exact belT (by assumption) (by assumption) | assumption)
    (first | (go_at_call 41; refine (crosswise _ _ _ _ (by assumption) (by assumption) _).mono ?_; rintro e w1 ⟨rfl, hb1⟩) | (go_at_call 44; refine (low_i64 _ _ q1 q2 q3 q4 q5 _).mono ?_; rintro e w1 ⟨rfl, hb1⟩))
  clear x1 x2
  go_wp2_with (go_at_call 45; refine (part_i64 _ _).mono ?_; rintro e w1 ⟨rfl, rfl⟩)
  have hk : Below W.heap.size W w1 := by assumption
  have hk2 := belT hbW hk
  refine bodyPost_ret (v := .tuple #[.agg #[.int .i64 0, .int .i64 0], .bool false]) (by simp [results, Try.results40, go_sem, r20 _ hk, r21 _ hk]) rfl ⟨rfl, by repeat (first | exact Below.refl _ _ | assumption | exact bel1 (by assumption) | exact bel2 (by assumption) | exact bel3 (by assumption) | exact bel4 (by assumption) | refine Below.drew ?_ | refine below_drewN ?_ _ | refine Below.setCell ?_ (by first | (simp; done) | (simp; omega)) _ | refine Below.alloc ?_ (by first | (simp; done) | (simp; omega)) _)⟩

theorem plus_no (fu fd gu gd : Int) (hf : okB fu fd = true) (hg : okB gu gd = true) (hp : plB fu fd gu gd = false) (w : World) :
    Calls Try.prog 40 #[.agg #[.int .i64 fu, .int .i64 fd], .agg #[.int .i64 gu, .int .i64 gd]] w fun e w' => e = .returned (.tuple #[.agg #[.int .i64 0, .int .i64 0], .bool false]) ∧ Below w.heap.size w w' := by
  rcases h1 : inR (plU fu fd gu gd) (-1000000000) 1000000000 with _ | _
  · exact plus_no1 fu fd gu gd hf hg h1 w
  · exact plus_no2 fu fd gu gd hf hg ⟨h1, by simpa [plB, h1] using hp⟩ w

end Go.Proofs.Ytijlednmagdpgaa
