/- The walks of the functions on fractions, fourth part: PlusOf, LessOk. (Written by wip/gen/fracc.py.) -/
import Derived.Test.YtpkdmilbppipmaaFracC
namespace Go.Proofs.Ytpkdmilbppipmaa
set_option linter.unusedSimpArgs false
set_option linter.unusedVariables false
open Go.RowKit

set_option maxHeartbeats 1000000 in
theorem plusOf_yes_impl (fu fd gu gd : Int) (hf : okB fu fd = true) (hg : okB gu gd = true) (hp : plB fu fd gu gd = true) (w : World) :
    Calls Try.prog 9 #[.agg #[.int .i64 fu, .int .i64 fd], .agg #[.int .i64 gu, .int .i64 gd]] w fun e w' => e = .returned (.tuple #[.agg #[.int .i64 (plU fu fd gu gd), .int .i64 (plD fu fd gu gd)], .bool true]) ∧ Below w.heap.size w w' := by
  go_enter Try.func9, Try.ntmps9
  go_wp2_with fail
  obtain ⟨W, hW⟩ : ∃ W : World, W = (((w.alloc (.cells #[(Value.int .i64 fu), (Value.int .i64 fd)] 24)).alloc (.cells #[(Value.int .i64 gu), (Value.int .i64 gd)] 24)).alloc (.cells #[(Value.int .i64 0), (Value.int .i64 0)] 24)) := ⟨_, rfl⟩
  have hzW : W.heap.size = w.heap.size + 3 := by rw [hW]; simp
  have hbW : Below w.heap.size w W := by rw [hW]; exact (by repeat (first | exact Below.refl _ _ | assumption | exact bel1 (by assumption) | exact bel2 (by assumption) | exact bel3 (by assumption) | exact bel4 (by assumption) | refine Below.drew ?_ | refine below_drewN ?_ _ | refine Below.setCell ?_ (by first | (simp; done) | (simp; omega)) _ | refine Below.alloc ?_ (by first | (simp; done) | (simp; omega)) _))
  have r00 := stays (p := w.heap.size) (o := 0) (by omega) (show W.cell? ⟨w.heap.size, 0, none⟩ = some ((Value.int .i64 fu)) from by rw [hW]; simp [go_sem])
  have r01 := stays (p := w.heap.size) (o := 1) (by omega) (show W.cell? ⟨w.heap.size, 1, none⟩ = some ((Value.int .i64 fd)) from by rw [hW]; simp [go_sem])
  have r10 := stays (p := w.heap.size + 1) (o := 0) (by omega) (show W.cell? ⟨w.heap.size + 1, 0, none⟩ = some ((Value.int .i64 gu)) from by rw [hW]; simp [go_sem])
  have r11 := stays (p := w.heap.size + 1) (o := 1) (by omega) (show W.cell? ⟨w.heap.size + 1, 1, none⟩ = some ((Value.int .i64 gd)) from by rw [hW]; simp [go_sem])
  have r20 := stays (p := w.heap.size + 2) (o := 0) (by omega) (show W.cell? ⟨w.heap.size + 2, 0, none⟩ = some ((Value.int .i64 0)) from by rw [hW]; simp [go_sem])
  have g20 := staysF (p := w.heap.size + 2) (o := 0) (by omega) (show W.frozen? ⟨w.heap.size + 2, 0, none⟩ = false from by rw [hW]; simp [go_sem])
  have r21 := stays (p := w.heap.size + 2) (o := 1) (by omega) (show W.cell? ⟨w.heap.size + 2, 1, none⟩ = some ((Value.int .i64 0)) from by rw [hW]; simp [go_sem])
  have g21 := staysF (p := w.heap.size + 2) (o := 1) (by omega) (show W.frozen? ⟨w.heap.size + 2, 1, none⟩ = false from by rw [hW]; simp [go_sem])
  rw [← hW]
  clear hW
  have HzW := Lib.hid hzW
  clear hzW
  go_wp2_with (first | (go_at_call 13; refine (fracOk_impl _ _ _).mono ?_; rintro e w1 ⟨rfl, hb1⟩; have hk := belT (by first | exact Below.refl W.heap.size _ | exact Below.drew (Below.refl W.heap.size _) | assumption) hb1) | (go_at_call 24; refine (plus_yes _ _ _ _ hf hg hp _).mono ?_; rintro e w1 ⟨rfl, hb1⟩; have hk := belT (by first | exact Below.refl W.heap.size _ | exact Below.drew (Below.refl W.heap.size _) | assumption) hb1))
  have hk2 := belT hbW hk
  refine bodyPost_ret (v := .tuple #[.agg #[.int .i64 (plU fu fd gu gd), .int .i64 (plD fu fd gu gd)], .bool true]) (by simp [results, Try.results9, go_sem, r20 _ hk, r21 _ hk]) rfl ⟨rfl, by repeat (first | exact Below.refl _ _ | assumption | exact bel1 (by assumption) | exact bel2 (by assumption) | exact bel3 (by assumption) | exact bel4 (by assumption) | refine Below.drew ?_ | refine below_drewN ?_ _ | refine Below.setCell ?_ (by first | (simp; done) | (simp; omega)) _ | refine Below.alloc ?_ (by first | (simp; done) | (simp; omega)) _)⟩

set_option maxHeartbeats 1000000 in
theorem plusOf_no3_impl (fu fd gu gd : Int) (hf : okB fu fd = true) (hg : okB gu gd = true) (hp : plB fu fd gu gd = false) (w : World) :
    Calls Try.prog 9 #[.agg #[.int .i64 fu, .int .i64 fd], .agg #[.int .i64 gu, .int .i64 gd]] w fun e w' => e = .returned (.tuple #[.agg #[.int .i64 0, .int .i64 0], .bool false]) ∧ Below w.heap.size w w' := by
  go_enter Try.func9, Try.ntmps9
  go_wp2_with fail
  obtain ⟨W, hW⟩ : ∃ W : World, W = (((w.alloc (.cells #[(Value.int .i64 fu), (Value.int .i64 fd)] 24)).alloc (.cells #[(Value.int .i64 gu), (Value.int .i64 gd)] 24)).alloc (.cells #[(Value.int .i64 0), (Value.int .i64 0)] 24)) := ⟨_, rfl⟩
  have hzW : W.heap.size = w.heap.size + 3 := by rw [hW]; simp
  have hbW : Below w.heap.size w W := by rw [hW]; exact (by repeat (first | exact Below.refl _ _ | assumption | exact bel1 (by assumption) | exact bel2 (by assumption) | exact bel3 (by assumption) | exact bel4 (by assumption) | refine Below.drew ?_ | refine below_drewN ?_ _ | refine Below.setCell ?_ (by first | (simp; done) | (simp; omega)) _ | refine Below.alloc ?_ (by first | (simp; done) | (simp; omega)) _))
  have r00 := stays (p := w.heap.size) (o := 0) (by omega) (show W.cell? ⟨w.heap.size, 0, none⟩ = some ((Value.int .i64 fu)) from by rw [hW]; simp [go_sem])
  have r01 := stays (p := w.heap.size) (o := 1) (by omega) (show W.cell? ⟨w.heap.size, 1, none⟩ = some ((Value.int .i64 fd)) from by rw [hW]; simp [go_sem])
  have r10 := stays (p := w.heap.size + 1) (o := 0) (by omega) (show W.cell? ⟨w.heap.size + 1, 0, none⟩ = some ((Value.int .i64 gu)) from by rw [hW]; simp [go_sem])
  have r11 := stays (p := w.heap.size + 1) (o := 1) (by omega) (show W.cell? ⟨w.heap.size + 1, 1, none⟩ = some ((Value.int .i64 gd)) from by rw [hW]; simp [go_sem])
  have r20 := stays (p := w.heap.size + 2) (o := 0) (by omega) (show W.cell? ⟨w.heap.size + 2, 0, none⟩ = some ((Value.int .i64 0)) from by rw [hW]; simp [go_sem])
  have g20 := staysF (p := w.heap.size + 2) (o := 0) (by omega) (show W.frozen? ⟨w.heap.size + 2, 0, none⟩ = false from by rw [hW]; simp [go_sem])
  have r21 := stays (p := w.heap.size + 2) (o := 1) (by omega) (show W.cell? ⟨w.heap.size + 2, 1, none⟩ = some ((Value.int .i64 0)) from by rw [hW]; simp [go_sem])
  have g21 := staysF (p := w.heap.size + 2) (o := 1) (by omega) (show W.frozen? ⟨w.heap.size + 2, 1, none⟩ = false from by rw [hW]; simp [go_sem])
  rw [← hW]
  clear hW
  have HzW := Lib.hid hzW
  clear hzW
  go_wp2_with (first | (go_at_call 13; refine (fracOk_impl _ _ _).mono ?_; rintro e w1 ⟨rfl, hb1⟩; have hk := belT (by first | exact Below.refl W.heap.size _ | exact Below.drew (Below.refl W.heap.size _) | assumption) hb1) | (go_at_call 24; refine (plus_no _ _ _ _ hf hg hp _).mono ?_; rintro e w1 ⟨rfl, hb1⟩; have hk := belT (by first | exact Below.refl W.heap.size _ | exact Below.drew (Below.refl W.heap.size _) | assumption) hb1))
  have hk2 := belT hbW hk
  refine bodyPost_ret (v := .tuple #[.agg #[.int .i64 0, .int .i64 0], .bool false]) (by simp [results, Try.results9, go_sem, r20 _ hk, r21 _ hk]) rfl ⟨rfl, by repeat (first | exact Below.refl _ _ | assumption | exact bel1 (by assumption) | exact bel2 (by assumption) | exact bel3 (by assumption) | exact bel4 (by assumption) | refine Below.drew ?_ | refine below_drewN ?_ _ | refine Below.setCell ?_ (by first | (simp; done) | (simp; omega)) _ | refine Below.alloc ?_ (by first | (simp; done) | (simp; omega)) _)⟩

set_option maxHeartbeats 1000000 in
theorem plusOf_no1_impl (fu fd gu gd : Int) (hf : okB fu fd = false) (w : World) :
    Calls Try.prog 9 #[.agg #[.int .i64 fu, .int .i64 fd], .agg #[.int .i64 gu, .int .i64 gd]] w fun e w' => e = .returned (.tuple #[.agg #[.int .i64 0, .int .i64 0], .bool false]) ∧ Below w.heap.size w w' := by
  go_enter Try.func9, Try.ntmps9
  go_wp2_with fail
  obtain ⟨W, hW⟩ : ∃ W : World, W = (((w.alloc (.cells #[(Value.int .i64 fu), (Value.int .i64 fd)] 24)).alloc (.cells #[(Value.int .i64 gu), (Value.int .i64 gd)] 24)).alloc (.cells #[(Value.int .i64 0), (Value.int .i64 0)] 24)) := ⟨_, rfl⟩
  have hzW : W.heap.size = w.heap.size + 3 := by rw [hW]; simp
  have hbW : Below w.heap.size w W := by rw [hW]; exact (by repeat (first | exact Below.refl _ _ | assumption | exact bel1 (by assumption) | exact bel2 (by assumption) | exact bel3 (by assumption) | exact bel4 (by assumption) | refine Below.drew ?_ | refine below_drewN ?_ _ | refine Below.setCell ?_ (by first | (simp; done) | (simp; omega)) _ | refine Below.alloc ?_ (by first | (simp; done) | (simp; omega)) _))
  have r00 := stays (p := w.heap.size) (o := 0) (by omega) (show W.cell? ⟨w.heap.size, 0, none⟩ = some ((Value.int .i64 fu)) from by rw [hW]; simp [go_sem])
  have r01 := stays (p := w.heap.size) (o := 1) (by omega) (show W.cell? ⟨w.heap.size, 1, none⟩ = some ((Value.int .i64 fd)) from by rw [hW]; simp [go_sem])
  have r10 := stays (p := w.heap.size + 1) (o := 0) (by omega) (show W.cell? ⟨w.heap.size + 1, 0, none⟩ = some ((Value.int .i64 gu)) from by rw [hW]; simp [go_sem])
  have r11 := stays (p := w.heap.size + 1) (o := 1) (by omega) (show W.cell? ⟨w.heap.size + 1, 1, none⟩ = some ((Value.int .i64 gd)) from by rw [hW]; simp [go_sem])
  have r20 := stays (p := w.heap.size + 2) (o := 0) (by omega) (show W.cell? ⟨w.heap.size + 2, 0, none⟩ = some ((Value.int .i64 0)) from by rw [hW]; simp [go_sem])
  have g20 := staysF (p := w.heap.size + 2) (o := 0) (by omega) (show W.frozen? ⟨w.heap.size + 2, 0, none⟩ = false from by rw [hW]; simp [go_sem])
  have r21 := stays (p := w.heap.size + 2) (o := 1) (by omega) (show W.cell? ⟨w.heap.size + 2, 1, none⟩ = some ((Value.int .i64 0)) from by rw [hW]; simp [go_sem])
  have g21 := staysF (p := w.heap.size + 2) (o := 1) (by omega) (show W.frozen? ⟨w.heap.size + 2, 1, none⟩ = false from by rw [hW]; simp [go_sem])
  rw [← hW]
  clear hW
  have HzW := Lib.hid hzW
  clear hzW
  go_wp2_with (go_at_call 13; refine (fracOk_impl _ _ _).mono ?_; rintro e w1 ⟨rfl, hb1⟩; have hk := belT (by first | exact Below.refl W.heap.size _ | exact Below.drew (Below.refl W.heap.size _) | assumption) hb1)
  have hk2 := belT hbW hk
  refine bodyPost_ret (v := .tuple #[.agg #[.int .i64 0, .int .i64 0], .bool false]) (by simp [results, Try.results9, go_sem, r20 _ hk, r21 _ hk]) rfl ⟨rfl, by repeat (first | exact Below.refl _ _ | assumption | exact bel1 (by assumption) | exact bel2 (by assumption) | exact bel3 (by assumption) | exact bel4 (by assumption) | refine Below.drew ?_ | refine below_drewN ?_ _ | refine Below.setCell ?_ (by first | (simp; done) | (simp; omega)) _ | refine Below.alloc ?_ (by first | (simp; done) | (simp; omega)) _)⟩

set_option maxHeartbeats 1000000 in
theorem plusOf_no2_impl (fu fd gu gd : Int) (hf : okB fu fd = true) (hg : okB gu gd = false) (w : World) :
    Calls Try.prog 9 #[.agg #[.int .i64 fu, .int .i64 fd], .agg #[.int .i64 gu, .int .i64 gd]] w fun e w' => e = .returned (.tuple #[.agg #[.int .i64 0, .int .i64 0], .bool false]) ∧ Below w.heap.size w w' := by
  go_enter Try.func9, Try.ntmps9
  go_wp2_with fail
  obtain ⟨W, hW⟩ : ∃ W : World, W = (((w.alloc (.cells #[(Value.int .i64 fu), (Value.int .i64 fd)] 24)).alloc (.cells #[(Value.int .i64 gu), (Value.int .i64 gd)] 24)).alloc (.cells #[(Value.int .i64 0), (Value.int .i64 0)] 24)) := ⟨_, rfl⟩
  have hzW : W.heap.size = w.heap.size + 3 := by rw [hW]; simp
  have hbW : Below w.heap.size w W := by rw [hW]; exact (by repeat (first | exact Below.refl _ _ | assumption | exact bel1 (by assumption) | exact bel2 (by assumption) | exact bel3 (by assumption) | exact bel4 (by assumption) | refine Below.drew ?_ | refine below_drewN ?_ _ | refine Below.setCell ?_ (by first | (simp; done) | (simp; omega)) _ | refine Below.alloc ?_ (by first | (simp; done) | (simp; omega)) _))
  have r00 := stays (p := w.heap.size) (o := 0) (by omega) (show W.cell? ⟨w.heap.size, 0, none⟩ = some ((Value.int .i64 fu)) from by rw [hW]; simp [go_sem])
  have r01 := stays (p := w.heap.size) (o := 1) (by omega) (show W.cell? ⟨w.heap.size, 1, none⟩ = some ((Value.int .i64 fd)) from by rw [hW]; simp [go_sem])
  have r10 := stays (p := w.heap.size + 1) (o := 0) (by omega) (show W.cell? ⟨w.heap.size + 1, 0, none⟩ = some ((Value.int .i64 gu)) from by rw [hW]; simp [go_sem])
  have r11 := stays (p := w.heap.size + 1) (o := 1) (by omega) (show W.cell? ⟨w.heap.size + 1, 1, none⟩ = some ((Value.int .i64 gd)) from by rw [hW]; simp [go_sem])
  have r20 := stays (p := w.heap.size + 2) (o := 0) (by omega) (show W.cell? ⟨w.heap.size + 2, 0, none⟩ = some ((Value.int .i64 0)) from by rw [hW]; simp [go_sem])
  have g20 := staysF (p := w.heap.size + 2) (o := 0) (by omega) (show W.frozen? ⟨w.heap.size + 2, 0, none⟩ = false from by rw [hW]; simp [go_sem])
  have r21 := stays (p := w.heap.size + 2) (o := 1) (by omega) (show W.cell? ⟨w.heap.size + 2, 1, none⟩ = some ((Value.int .i64 0)) from by rw [hW]; simp [go_sem])
  have g21 := staysF (p := w.heap.size + 2) (o := 1) (by omega) (show W.frozen? ⟨w.heap.size + 2, 1, none⟩ = false from by rw [hW]; simp [go_sem])
  rw [← hW]
  clear hW
  have HzW := Lib.hid hzW
  clear hzW
  go_wp2_with (go_at_call 13; refine (fracOk_impl _ _ _).mono ?_; rintro e w1 ⟨rfl, hb1⟩; have hk := belT (by first | exact Below.refl W.heap.size _ | exact Below.drew (Below.refl W.heap.size _) | assumption) hb1)
  have hk2 := belT hbW hk
  refine bodyPost_ret (v := .tuple #[.agg #[.int .i64 0, .int .i64 0], .bool false]) (by simp [results, Try.results9, go_sem, r20 _ hk, r21 _ hk]) rfl ⟨rfl, by repeat (first | exact Below.refl _ _ | assumption | exact bel1 (by assumption) | exact bel2 (by assumption) | exact bel3 (by assumption) | exact bel4 (by assumption) | refine Below.drew ?_ | refine below_drewN ?_ _ | refine Below.setCell ?_ (by first | (simp; done) | (simp; omega)) _ | refine Below.alloc ?_ (by first | (simp; done) | (simp; omega)) _)⟩

set_option maxHeartbeats 1000000 in
theorem plusOf_no1_spec (fu fd gu gd : Int) (hf : okB fu fd = false) (w : World) :
    Calls Try.prog 10 #[.agg #[.int .i64 fu, .int .i64 fd], .agg #[.int .i64 gu, .int .i64 gd]] w fun e w' => e = .returned (.tuple #[.agg #[.int .i64 0, .int .i64 0], .bool false]) ∧ Below w.heap.size w w' := by
  go_enter Try.func10, Try.ntmps10
  go_wp2_with fail
  obtain ⟨W, hW⟩ : ∃ W : World, W = (((w.alloc (.cells #[(Value.int .i64 fu), (Value.int .i64 fd)] 24)).alloc (.cells #[(Value.int .i64 gu), (Value.int .i64 gd)] 24)).alloc (.cells #[(Value.int .i64 0), (Value.int .i64 0)] 24)) := ⟨_, rfl⟩
  have hzW : W.heap.size = w.heap.size + 3 := by rw [hW]; simp
  have hbW : Below w.heap.size w W := by rw [hW]; exact (by repeat (first | exact Below.refl _ _ | assumption | exact bel1 (by assumption) | exact bel2 (by assumption) | exact bel3 (by assumption) | exact bel4 (by assumption) | refine Below.drew ?_ | refine below_drewN ?_ _ | refine Below.setCell ?_ (by first | (simp; done) | (simp; omega)) _ | refine Below.alloc ?_ (by first | (simp; done) | (simp; omega)) _))
  have r00 := stays (p := w.heap.size) (o := 0) (by omega) (show W.cell? ⟨w.heap.size, 0, none⟩ = some ((Value.int .i64 fu)) from by rw [hW]; simp [go_sem])
  have r01 := stays (p := w.heap.size) (o := 1) (by omega) (show W.cell? ⟨w.heap.size, 1, none⟩ = some ((Value.int .i64 fd)) from by rw [hW]; simp [go_sem])
  have r10 := stays (p := w.heap.size + 1) (o := 0) (by omega) (show W.cell? ⟨w.heap.size + 1, 0, none⟩ = some ((Value.int .i64 gu)) from by rw [hW]; simp [go_sem])
  have r11 := stays (p := w.heap.size + 1) (o := 1) (by omega) (show W.cell? ⟨w.heap.size + 1, 1, none⟩ = some ((Value.int .i64 gd)) from by rw [hW]; simp [go_sem])
  have r20 := stays (p := w.heap.size + 2) (o := 0) (by omega) (show W.cell? ⟨w.heap.size + 2, 0, none⟩ = some ((Value.int .i64 0)) from by rw [hW]; simp [go_sem])
  have g20 := staysF (p := w.heap.size + 2) (o := 0) (by omega) (show W.frozen? ⟨w.heap.size + 2, 0, none⟩ = false from by rw [hW]; simp [go_sem])
  have r21 := stays (p := w.heap.size + 2) (o := 1) (by omega) (show W.cell? ⟨w.heap.size + 2, 1, none⟩ = some ((Value.int .i64 0)) from by rw [hW]; simp [go_sem])
  have g21 := staysF (p := w.heap.size + 2) (o := 1) (by omega) (show W.frozen? ⟨w.heap.size + 2, 1, none⟩ = false from by rw [hW]; simp [go_sem])
  rw [← hW]
  clear hW
  have HzW := Lib.hid hzW
  clear hzW
  go_wp2_with (go_at_call 16; refine (fracOk_spec _ _ _).mono ?_; rintro e w1 ⟨rfl, hb1⟩; have hk := belT (by first | exact Below.refl W.heap.size _ | exact Below.drew (Below.refl W.heap.size _) | assumption) hb1)
  have hk2 := belT hbW hk
  refine bodyPost_ret (v := .tuple #[.agg #[.int .i64 0, .int .i64 0], .bool false]) (by simp [results, Try.results10, go_sem, r20 _ hk, r21 _ hk]) rfl ⟨rfl, by repeat (first | exact Below.refl _ _ | assumption | exact bel1 (by assumption) | exact bel2 (by assumption) | exact bel3 (by assumption) | exact bel4 (by assumption) | refine Below.drew ?_ | refine below_drewN ?_ _ | refine Below.setCell ?_ (by first | (simp; done) | (simp; omega)) _ | refine Below.alloc ?_ (by first | (simp; done) | (simp; omega)) _)⟩

set_option maxHeartbeats 1000000 in
theorem plusOf_no2_spec (fu fd gu gd : Int) (hf : okB fu fd = true) (hg : okB gu gd = false) (w : World) :
    Calls Try.prog 10 #[.agg #[.int .i64 fu, .int .i64 fd], .agg #[.int .i64 gu, .int .i64 gd]] w fun e w' => e = .returned (.tuple #[.agg #[.int .i64 0, .int .i64 0], .bool false]) ∧ Below w.heap.size w w' := by
  go_enter Try.func10, Try.ntmps10
  go_wp2_with fail
  obtain ⟨W, hW⟩ : ∃ W : World, W = (((w.alloc (.cells #[(Value.int .i64 fu), (Value.int .i64 fd)] 24)).alloc (.cells #[(Value.int .i64 gu), (Value.int .i64 gd)] 24)).alloc (.cells #[(Value.int .i64 0), (Value.int .i64 0)] 24)) := ⟨_, rfl⟩
  have hzW : W.heap.size = w.heap.size + 3 := by rw [hW]; simp
  have hbW : Below w.heap.size w W := by rw [hW]; exact (by repeat (first | exact Below.refl _ _ | assumption | exact bel1 (by assumption) | exact bel2 (by assumption) | exact bel3 (by assumption) | exact bel4 (by assumption) | refine Below.drew ?_ | refine below_drewN ?_ _ | refine Below.setCell ?_ (by first | (simp; done) | (simp; omega)) _ | refine Below.alloc ?_ (by first | (simp; done) | (simp; omega)) _))
  have r00 := stays (p := w.heap.size) (o := 0) (by omega) (show W.cell? ⟨w.heap.size, 0, none⟩ = some ((Value.int .i64 fu)) from by rw [hW]; simp [go_sem])
  have r01 := stays (p := w.heap.size) (o := 1) (by omega) (show W.cell? ⟨w.heap.size, 1, none⟩ = some ((Value.int .i64 fd)) from by rw [hW]; simp [go_sem])
  have r10 := stays (p := w.heap.size + 1) (o := 0) (by omega) (show W.cell? ⟨w.heap.size + 1, 0, none⟩ = some ((Value.int .i64 gu)) from by rw [hW]; simp [go_sem])
  have r11 := stays (p := w.heap.size + 1) (o := 1) (by omega) (show W.cell? ⟨w.heap.size + 1, 1, none⟩ = some ((Value.int .i64 gd)) from by rw [hW]; simp [go_sem])
  have r20 := stays (p := w.heap.size + 2) (o := 0) (by omega) (show W.cell? ⟨w.heap.size + 2, 0, none⟩ = some ((Value.int .i64 0)) from by rw [hW]; simp [go_sem])
  have g20 := staysF (p := w.heap.size + 2) (o := 0) (by omega) (show W.frozen? ⟨w.heap.size + 2, 0, none⟩ = false from by rw [hW]; simp [go_sem])
  have r21 := stays (p := w.heap.size + 2) (o := 1) (by omega) (show W.cell? ⟨w.heap.size + 2, 1, none⟩ = some ((Value.int .i64 0)) from by rw [hW]; simp [go_sem])
  have g21 := staysF (p := w.heap.size + 2) (o := 1) (by omega) (show W.frozen? ⟨w.heap.size + 2, 1, none⟩ = false from by rw [hW]; simp [go_sem])
  rw [← hW]
  clear hW
  have HzW := Lib.hid hzW
  clear hzW
  go_wp2_with (go_at_call 16; refine (fracOk_spec _ _ _).mono ?_; rintro e w1 ⟨rfl, hb1⟩; have hk := belT (by first | exact Below.refl W.heap.size _ | exact Below.drew (Below.refl W.heap.size _) | assumption) hb1)
  have hk2 := belT hbW hk
  refine bodyPost_ret (v := .tuple #[.agg #[.int .i64 0, .int .i64 0], .bool false]) (by simp [results, Try.results10, go_sem, r20 _ hk, r21 _ hk]) rfl ⟨rfl, by repeat (first | exact Below.refl _ _ | assumption | exact bel1 (by assumption) | exact bel2 (by assumption) | exact bel3 (by assumption) | exact bel4 (by assumption) | refine Below.drew ?_ | refine below_drewN ?_ _ | refine Below.setCell ?_ (by first | (simp; done) | (simp; omega)) _ | refine Below.alloc ?_ (by first | (simp; done) | (simp; omega)) _)⟩

end Go.Proofs.Ytpkdmilbppipmaa
