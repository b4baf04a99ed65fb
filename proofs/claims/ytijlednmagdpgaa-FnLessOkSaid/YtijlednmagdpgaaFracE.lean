/- The walks of the functions on fractions, fifth part: the model's sum, order. (Written by wip/gen/fracc.py.) -/
import Derived.Test.YtijlednmagdpgaaFracD
namespace Go.Proofs.Ytijlednmagdpgaa
set_option linter.unusedSimpArgs false
set_option linter.unusedVariables false
open Go.RowKit

set_option maxHeartbeats 1000000 in
theorem plusOf_yes_spec (fu fd gu gd : Int) (hf : okB fu fd = true) (hg : okB gu gd = true) (hp : plB fu fd gu gd = true) (w : World) :
    Calls Try.prog 22 #[.agg #[.int .i64 fu, .int .i64 fd], .agg #[.int .i64 gu, .int .i64 gd]] w fun e w' => e = .returned (.tuple #[.agg #[.int .i64 (plU fu fd gu gd), .int .i64 (plD fu fd gu gd)], .bool true]) ∧ Below w.heap.size w w' := by
  obtain ⟨a1, a2, a3, a4, _⟩ := okB_iff.1 hf
  obtain ⟨b1, b2, b3, b4, _⟩ := okB_iff.1 hg
  have m1 := mul_in a1 a2 (show 0 ≤ gd by omega) b4
  have m2 := mul_in b1 b2 (show 0 ≤ fd by omega) a4
  have m3 := mul_in (show -1000000000 ≤ fd by omega) a4 (show 0 ≤ gd by omega) b4
  have m4 := mul_pos a3 b3
  have hB := plB_ok hf hg
  rw [hp] at hB
  have i1 : okB (lowU (fu * gd + gu * fd) (fd * gd)) (lowD (fu * gd + gu * fd) (fd * gd)) = true := hB
  clear hB
  have q1 : -4611686018427387904 ≤ fu * gd + gu * fd := by omega
  have q2 : fu * gd + gu * fd ≤ 4611686018427387904 := by omega
  have q3 : -4611686018427387904 ≤ fd * gd := by omega
  have q4 : fd * gd ≤ 4611686018427387904 := by omega
  have q5 : fd * gd ≠ 0 := by omega
  have q6 : -4611686018427387904 ≤ fu * gd := by omega
  have q7 : fu * gd ≤ 4611686018427387904 := by omega
  have q8 : -4611686018427387904 ≤ gu * fd := by omega
  have q9 : gu * fd ≤ 4611686018427387904 := by omega
  go_enter Try.func22, Try.ntmps22
  go_wp2_with fail
  obtain ⟨W, hW⟩ : ∃ W : World, W = (((w.alloc (.cells #[(Value.int .i64 fu), (Value.int .i64 fd)] 24)).alloc (.cells #[(Value.int .i64 gu), (Value.int .i64 gd)] 24)).alloc (.cells #[(Value.int .i64 0), (Value.int .i64 0)] 24)) := ⟨_, rfl⟩
  have hzW : W.heap.size = w.heap.size + 3 := by rw [hW]; simp
  have hbW : Below w.heap.size w W := by rw [hW]; exact (by repeat (first | exact Below.refl _ _ | assumption | exact bel1 (by assumption) | exact bel2 (by assumption) | exact bel3 (by assumption) | exact bel4 (by assumption) | refine Below.drew ?_ | refine below_drewN ?_ _ | refine Below.setCell ?_ (by first | (simp; done) | (simp; omega)) _ | refine Below.alloc ?_ (by first | (simp; done) | (simp; omega)) _))
  have r00 := stays (p := w.heap.size) (o := 0) (by omega) (show W.cell? ⟨w.heap.size, 0, none⟩ = some ((Value.int .i64 fu)) from by rw [hW]; simp [go_sem])
  have r01 := stays (p := w.heap.size) (o := 1) (by omega) (show W.cell? ⟨w.heap.size, 1, none⟩ = some ((Value.int .i64 fd)) from by rw [hW]; simp [go_sem])
  have r10 := stays (p := w.heap.size + 1) (o := 0) (by omega) (show W.cell? ⟨w.heap.size + 1, 0, none⟩ = some ((Value.int .i64 gu)) from by rw [hW]; simp [go_sem])
  have r11 := stays (p := w.heap.size + 1) (o := 1) (by omega) (show W.cell? ⟨w.heap.size + 1, 1, none⟩ = some ((Value.int .i64 gd)) from by rw [hW]; simp [go_sem])
  have r20 := stays (p := w.heap.size + 2) (o := 0) (by omega) (show W.cell? ⟨w.heap.size + 2, 0, none⟩ = some ((Value.int .i64 0)) from by rw [hW]; simp [go_sem])
  have g20 := staysF (p := w.heap.size + 2) (o := 0) (by omega) (show W.frozen? ⟨w.heap.size + 2, 0, none⟩ = false from by rw [hW]; simp [go_sem])
  have r21 := stays (p := w.heap.size + 2) (o := 1) (by omega) (show W.cell? ⟨w.heap.size + 2, 1, none⟩ = some ((Value.int .i64 0)) from by rw [hW]; simp [go_sem])
  have g21 := staysF (p := w.heap.size + 2) (o := 1) (by omega) (show W.frozen? ⟨w.heap.size + 2, 1, none⟩ = false from by rw [hW]; simp [go_sem])
  rw [← hW]
  clear hW
  have HzW := Lib.hid hzW
  clear hzW
  go_wp2_with (go_at_call 15; refine (fracOk_spec _ _ _).mono ?_; rintro e w1 ⟨rfl, hb1⟩; have hk := belT (by first | exact Below.refl W.heap.size _ | exact Below.drew (Below.refl W.heap.size _) | assumption) hb1)
  refine (l1frac _ _ q1 q2 q3 q4 q5 _).mono ?_
  rintro e w2 ⟨rfl, hb2⟩
  have hk2 := belT hk hb2
  go_wp2_with fail
  obtain ⟨W2, hW2⟩ : ∃ W2 : World, W2 = (w2.alloc (.cells #[(Value.int .i64 (lowU (fu * gd + gu * fd) (fd * gd))), (Value.int .i64 (lowD (fu * gd + gu * fd) (fd * gd)))] 24)) := ⟨_, rfl⟩
  have hzW2 : W2.heap.size = w2.heap.size + 1 := by rw [hW2]; simp
  have hbW2 : Below w2.heap.size w2 W2 := by rw [hW2]; exact (by repeat (first | exact Below.refl _ _ | assumption | exact bel1 (by assumption) | exact bel2 (by assumption) | exact bel3 (by assumption) | exact bel4 (by assumption) | refine Below.drew ?_ | refine below_drewN ?_ _ | refine Below.setCell ?_ (by first | (simp; done) | (simp; omega)) _ | refine Below.alloc ?_ (by first | (simp; done) | (simp; omega)) _))
  have s00 := stays (p := w2.heap.size) (o := 0) (by omega) (show W2.cell? ⟨w2.heap.size, 0, none⟩ = some ((Value.int .i64 (lowU (fu * gd + gu * fd) (fd * gd)))) from by rw [hW2]; simp [go_sem])
  have s01 := stays (p := w2.heap.size) (o := 1) (by omega) (show W2.cell? ⟨w2.heap.size, 1, none⟩ = some ((Value.int .i64 (lowD (fu * gd + gu * fd) (fd * gd)))) from by rw [hW2]; simp [go_sem])
  rw [← hW2]
  clear hW2
  have HzW2 := Lib.hid hzW2
  clear hzW2
  refine (fracOk_spec _ _ _).mono ?_
  rintro e w3 ⟨rfl, hb3⟩
  have hk3 := belT (belT hk2 hbW2) hb3
  have hk4 := belT hbW hk3
  go_wp2_with fail
  refine bodyPost_ret (v := .tuple #[.agg #[.int .i64 (lowU (fu * gd + gu * fd) (fd * gd)), .int .i64 (lowD (fu * gd + gu * fd) (fd * gd))], .bool true]) (by simp [results, Try.results22, go_sem, r20 _ hk3, r21 _ hk3]) rfl ⟨rfl, by repeat (first | exact Below.refl _ _ | assumption | exact bel1 (by assumption) | exact bel2 (by assumption) | exact bel3 (by assumption) | exact bel4 (by assumption) | refine Below.drew ?_ | refine below_drewN ?_ _ | refine Below.setCell ?_ (by first | (simp; done) | (simp; omega)) _ | refine Below.alloc ?_ (by first | (simp; done) | (simp; omega)) _)⟩

set_option maxHeartbeats 1000000 in
theorem plusOf_no3_spec (fu fd gu gd : Int) (hf : okB fu fd = true) (hg : okB gu gd = true) (hp : plB fu fd gu gd = false) (w : World) :
    Calls Try.prog 22 #[.agg #[.int .i64 fu, .int .i64 fd], .agg #[.int .i64 gu, .int .i64 gd]] w fun e w' => e = .returned (.tuple #[.agg #[.int .i64 0, .int .i64 0], .bool false]) ∧ Below w.heap.size w w' := by
  obtain ⟨a1, a2, a3, a4, _⟩ := okB_iff.1 hf
  obtain ⟨b1, b2, b3, b4, _⟩ := okB_iff.1 hg
  have m1 := mul_in a1 a2 (show 0 ≤ gd by omega) b4
  have m2 := mul_in b1 b2 (show 0 ≤ fd by omega) a4
  have m3 := mul_in (show -1000000000 ≤ fd by omega) a4 (show 0 ≤ gd by omega) b4
  have m4 := mul_pos a3 b3
  have hB := plB_ok hf hg
  rw [hp] at hB
  have i1 : okB (lowU (fu * gd + gu * fd) (fd * gd)) (lowD (fu * gd + gu * fd) (fd * gd)) = false := hB
  clear hB
  have q1 : -4611686018427387904 ≤ fu * gd + gu * fd := by omega
  have q2 : fu * gd + gu * fd ≤ 4611686018427387904 := by omega
  have q3 : -4611686018427387904 ≤ fd * gd := by omega
  have q4 : fd * gd ≤ 4611686018427387904 := by omega
  have q5 : fd * gd ≠ 0 := by omega
  have q6 : -4611686018427387904 ≤ fu * gd := by omega
  have q7 : fu * gd ≤ 4611686018427387904 := by omega
  have q8 : -4611686018427387904 ≤ gu * fd := by omega
  have q9 : gu * fd ≤ 4611686018427387904 := by omega
  go_enter Try.func22, Try.ntmps22
  go_wp2_with fail
  obtain ⟨W, hW⟩ : ∃ W : World, W = (((w.alloc (.cells #[(Value.int .i64 fu), (Value.int .i64 fd)] 24)).alloc (.cells #[(Value.int .i64 gu), (Value.int .i64 gd)] 24)).alloc (.cells #[(Value.int .i64 0), (Value.int .i64 0)] 24)) := ⟨_, rfl⟩
  have hzW : W.heap.size = w.heap.size + 3 := by rw [hW]; simp
  have hbW : Below w.heap.size w W := by rw [hW]; exact (by repeat (first | exact Below.refl _ _ | assumption | exact bel1 (by assumption) | exact bel2 (by assumption) | exact bel3 (by assumption) | exact bel4 (by assumption) | refine Below.drew ?_ | refine below_drewN ?_ _ | refine Below.setCell ?_ (by first | (simp; done) | (simp; omega)) _ | refine Below.alloc ?_ (by first | (simp; done) | (simp; omega)) _))
  have r00 := stays (p := w.heap.size) (o := 0) (by omega) (show W.cell? ⟨w.heap.size, 0, none⟩ = some ((Value.int .i64 fu)) from by rw [hW]; simp [go_sem])
  have r01 := stays (p := w.heap.size) (o := 1) (by omega) (show W.cell? ⟨w.heap.size, 1, none⟩ = some ((Value.int .i64 fd)) from by rw [hW]; simp [go_sem])
  have r10 := stays (p := w.heap.size + 1) (o := 0) (by omega) (show W.cell? ⟨w.heap.size + 1, 0, none⟩ = some ((Value.int .i64 gu)) from by rw [hW]; simp [go_sem])
  have r11 := stays (p := w.heap.size + 1) (o := 1) (by omega) (show W.cell? ⟨w.heap.size + 1, 1, none⟩ = some ((Value.int .i64 gd)) from by rw [hW]; simp [go_sem])
  have r20 := stays (p := w.heap.size + 2) (o := 0) (by omega) (show W.cell? ⟨w.heap.size + 2, 0, none⟩ = some ((Value.int .i64 0)) from by rw [hW]; simp [go_sem])
  have g20 := staysF (p := w.heap.size + 2) (o := 0) (by omega) (show W.frozen? ⟨w.heap.size + 2, 0, none⟩ = false from by rw [hW]; simp [go_sem])
  have r21 := stays (p := w.heap.size + 2) (o := 1) (by omega) (show W.cell? ⟨w.heap.size + 2, 1, none⟩ = some ((Value.int .i64 0)) from by rw [hW]; simp [go_sem])
  have g21 := staysF (p := w.heap.size + 2) (o := 1) (by omega) (show W.frozen? ⟨w.heap.size + 2, 1, none⟩ = false from by rw [hW]; simp [go_sem])
  rw [← hW]
  clear hW
  have HzW := Lib.hid hzW
  clear hzW
  go_wp2_with (go_at_call 15; refine (fracOk_spec _ _ _).mono ?_; rintro e w1 ⟨rfl, hb1⟩; have hk := belT (by first | exact Below.refl W.heap.size _ | exact Below.drew (Below.refl W.heap.size _) | assumption) hb1)
  refine (l1frac _ _ q1 q2 q3 q4 q5 _).mono ?_
  rintro e w2 ⟨rfl, hb2⟩
  have hk2 := belT hk hb2
  go_wp2_with fail
  obtain ⟨W2, hW2⟩ : ∃ W2 : World, W2 = (w2.alloc (.cells #[(Value.int .i64 (lowU (fu * gd + gu * fd) (fd * gd))), (Value.int .i64 (lowD (fu * gd + gu * fd) (fd * gd)))] 24)) := ⟨_, rfl⟩
  have hzW2 : W2.heap.size = w2.heap.size + 1 := by rw [hW2]; simp
  have hbW2 : Below w2.heap.size w2 W2 := by rw [hW2]; exact (by repeat (first | exact Below.refl _ _ | assumption | exact bel1 (by assumption) | exact bel2 (by assumption) | exact bel3 (by assumption) | exact bel4 (by assumption) | refine Below.drew ?_ | refine below_drewN ?_ _ | refine Below.setCell ?_ (by first | (simp; done) | (simp; omega)) _ | refine Below.alloc ?_ (by first | (simp; done) | (simp; omega)) _))
  have s00 := stays (p := w2.heap.size) (o := 0) (by omega) (show W2.cell? ⟨w2.heap.size, 0, none⟩ = some ((Value.int .i64 (lowU (fu * gd + gu * fd) (fd * gd)))) from by rw [hW2]; simp [go_sem])
  have s01 := stays (p := w2.heap.size) (o := 1) (by omega) (show W2.cell? ⟨w2.heap.size, 1, none⟩ = some ((Value.int .i64 (lowD (fu * gd + gu * fd) (fd * gd)))) from by rw [hW2]; simp [go_sem])
  rw [← hW2]
  clear hW2
  have HzW2 := Lib.hid hzW2
  clear hzW2
  refine (fracOk_spec _ _ _).mono ?_
  rintro e w3 ⟨rfl, hb3⟩
  have hk3 := belT (belT hk2 hbW2) hb3
  have hk4 := belT hbW hk3
  go_wp2_with fail
  refine bodyPost_ret (v := .tuple #[.agg #[.int .i64 0, .int .i64 0], .bool false]) (by simp [results, Try.results22, go_sem, r20 _ hk3, r21 _ hk3]) rfl ⟨rfl, by repeat (first | exact Below.refl _ _ | assumption | exact bel1 (by assumption) | exact bel2 (by assumption) | exact bel3 (by assumption) | exact bel4 (by assumption) | refine Below.drew ?_ | refine below_drewN ?_ _ | refine Below.setCell ?_ (by first | (simp; done) | (simp; omega)) _ | refine Below.alloc ?_ (by first | (simp; done) | (simp; omega)) _)⟩

theorem fracOk_impl_v (u d : Int) (b : Bool) (h : okB u d = b) (w : World) :
    Calls Try.prog 14 #[.agg #[.int .i64 u, .int .i64 d]] w fun e w' => e = .returned (.bool b) ∧ Below w.heap.size w w' := by
  subst h; exact fracOk_impl u d w

/-- is it less? -/
def lessB (fu fd gu gd : Int) : Bool := okB fu fd && okB gu gd && decide (fu * gd < gu * fd)
theorem lessB_ok {fu fd gu gd : Int} (hf : okB fu fd = true) (hg : okB gu gd = true) : lessB fu fd gu gd = decide (fu * gd < gu * fd) := by simp [lessB, hf, hg]

set_option maxHeartbeats 1000000 in
theorem less_no1_impl (fu fd gu gd : Int) (hf : okB fu fd = false) (w : World) :
    Calls Try.prog 27 #[.agg #[.int .i64 fu, .int .i64 fd], .agg #[.int .i64 gu, .int .i64 gd]] w fun e w' => e = .returned (.bool (lessB fu fd gu gd)) ∧ Below w.heap.size w w' := by
  have hfin : lessB fu fd gu gd = false := by simp [lessB, hf]
  have Hf := Lib.hid hfin
  clear hfin
  go_enter Try.func27, Try.ntmps27
  go_wp2_with fail
  obtain ⟨W, hW⟩ : ∃ W : World, W = ((w.alloc (.cells #[(Value.int .i64 fu), (Value.int .i64 fd)] 24)).alloc (.cells #[(Value.int .i64 gu), (Value.int .i64 gd)] 24)) := ⟨_, rfl⟩
  have hzW : W.heap.size = w.heap.size + 2 := by rw [hW]; simp
  have hbW : Below w.heap.size w W := by rw [hW]; exact (by repeat (first | exact Below.refl _ _ | assumption | exact bel1 (by assumption) | exact bel2 (by assumption) | exact bel3 (by assumption) | exact bel4 (by assumption) | refine Below.drew ?_ | refine below_drewN ?_ _ | refine Below.setCell ?_ (by first | (simp; done) | (simp; omega)) _ | refine Below.alloc ?_ (by first | (simp; done) | (simp; omega)) _))
  have r00 := stays (p := w.heap.size) (o := 0) (by omega) (show W.cell? ⟨w.heap.size, 0, none⟩ = some ((Value.int .i64 fu)) from by rw [hW]; simp [go_sem])
  have r01 := stays (p := w.heap.size) (o := 1) (by omega) (show W.cell? ⟨w.heap.size, 1, none⟩ = some ((Value.int .i64 fd)) from by rw [hW]; simp [go_sem])
  have r10 := stays (p := w.heap.size + 1) (o := 0) (by omega) (show W.cell? ⟨w.heap.size + 1, 0, none⟩ = some ((Value.int .i64 gu)) from by rw [hW]; simp [go_sem])
  have r11 := stays (p := w.heap.size + 1) (o := 1) (by omega) (show W.cell? ⟨w.heap.size + 1, 1, none⟩ = some ((Value.int .i64 gd)) from by rw [hW]; simp [go_sem])
  rw [← hW]
  clear hW
  have HzW := Lib.hid hzW
  clear hzW
  refine wp_region_held_drew (S := fun w' => Below W.heap.size W w') (by kernel_rfl) (Below.drew (Below.refl _ _)) (fun hHeld => ?_)
  refine wpAnyH_take (i := 0) (v := ?v0) rfl (by kernel_rfl) (by kernel_rfl) (by kernel_rfl) (fun _ _ _ h => h) (Or.inl ⟨by rfl, ?y0⟩) (by assumption) ?z0
  case y0 => (intro w hSw; go_simp; first | done | with_reducible rfl)
  try simp only [List.getElem_toArray, List.getElem_cons_succ, List.getElem_cons_zero, Act.put, List.setIfInBounds_toArray, List.set_cons_zero, List.set_cons_succ]
  refine wpAnyH_ready (rs := [1]) (by kernel_rfl) (by simp) ?_
  refine AllReadyH.cons rfl (fun K hK => ?_) AllReadyH.nil
  go_simp
  (go_at_call 14; refine (fracOk_impl_v _ _ _ (by assumption) _).mono ?_; rintro e w1 ⟨rfl, hb1⟩)
  refine hK.out _ _ (by first | exact Below.refl _ _ | exact Below.drew (Below.refl _ _) | exact belT (by assumption) (by assumption) | assumption) (fun hHeld => ?_)
  clear hK K
  try simp only [List.getElem_toArray, List.getElem_cons_succ, List.getElem_cons_zero, Act.put, List.setIfInBounds_toArray, List.set_cons_zero, List.set_cons_succ]
  refine wpAnyH_take (i := 2) (v := ?v2) rfl (by kernel_rfl) (by kernel_rfl) (by kernel_rfl) (fun _ _ _ h => h) (Or.inl ⟨by rfl, ?y2⟩) (by assumption) ?z2
  case y2 => (intro w hSw; go_simp; first | done | with_reducible rfl)
  try simp only [List.getElem_toArray, List.getElem_cons_succ, List.getElem_cons_zero, Act.put, List.setIfInBounds_toArray, List.set_cons_zero, List.set_cons_succ]
  refine wpAnyH_take (i := 3) rfl (by kernel_rfl) (by kernel_rfl) (by kernel_rfl) (fun _ _ _ h => h) (Or.inr ⟨by rfl, rfl⟩) (by assumption) ?_
  try simp only [List.getElem_toArray, List.getElem_cons_succ, List.getElem_cons_zero, Act.put, List.setIfInBounds_toArray, List.set_cons_zero, List.set_cons_succ]
  refine wpAnyH_take (i := 4) rfl (by kernel_rfl) (by kernel_rfl) (by kernel_rfl) (fun _ _ _ h => h) (Or.inr ⟨by rfl, rfl⟩) (by assumption) ?_
  try simp only [List.getElem_toArray, List.getElem_cons_succ, List.getElem_cons_zero, Act.put, List.setIfInBounds_toArray, List.set_cons_zero, List.set_cons_succ]
  refine wpAnyH_take (i := 5) (v := ?v5) rfl (by kernel_rfl) (by kernel_rfl) (by kernel_rfl) (fun _ _ _ h => h) (Or.inl ⟨by rfl, ?y5⟩) (by assumption) ?z5
  case y5 => (intro w hSw; go_simp; first | done | with_reducible rfl)
  try simp only [List.getElem_toArray, List.getElem_cons_succ, List.getElem_cons_zero, Act.put, List.setIfInBounds_toArray, List.set_cons_zero, List.set_cons_succ]
  refine wpAnyH_take (i := 6) (v := ?v6) rfl (by kernel_rfl) (by kernel_rfl) (by kernel_rfl) (fun _ _ _ h => h) (Or.inl ⟨by rfl, ?y6⟩) (by assumption) ?z6
  case y6 => (intro w hSw; go_simp; first | done | with_reducible rfl)
  try simp only [List.getElem_toArray, List.getElem_cons_succ, List.getElem_cons_zero, Act.put, List.setIfInBounds_toArray, List.set_cons_zero, List.set_cons_succ]
  refine wpAnyH_take (i := 7) rfl (by kernel_rfl) (by kernel_rfl) (by kernel_rfl) (fun _ _ _ h => h) (Or.inr ⟨by rfl, rfl⟩) (by assumption) ?_
  try simp only [List.getElem_toArray, List.getElem_cons_succ, List.getElem_cons_zero, Act.put, List.setIfInBounds_toArray, List.set_cons_zero, List.set_cons_succ]
  refine wpAnyH_take (i := 8) rfl (by kernel_rfl) (by kernel_rfl) (by kernel_rfl) (fun _ _ _ h => h) (Or.inr ⟨by rfl, rfl⟩) (by assumption) ?_
  try simp only [List.getElem_toArray, List.getElem_cons_succ, List.getElem_cons_zero, Act.put, List.setIfInBounds_toArray, List.set_cons_zero, List.set_cons_succ]
  refine wpAnyH_take (i := 9) rfl (by kernel_rfl) (by kernel_rfl) (by kernel_rfl) (fun _ _ _ h => h) (Or.inr ⟨by rfl, rfl⟩) (by assumption) ?_
  try simp only [List.getElem_toArray, List.getElem_cons_succ, List.getElem_cons_zero, Act.put, List.setIfInBounds_toArray, List.set_cons_zero, List.set_cons_succ]
  refine wpAnyH_take (i := 10) rfl (by kernel_rfl) (by kernel_rfl) (by kernel_rfl) (fun _ _ _ h => h) (Or.inr ⟨by rfl, rfl⟩) (by assumption) ?_
  try simp only [List.getElem_toArray, List.getElem_cons_succ, List.getElem_cons_zero, Act.put, List.setIfInBounds_toArray, List.set_cons_zero, List.set_cons_succ]
  refine wpAnyH_take (i := 11) rfl (by kernel_rfl) (by kernel_rfl) (by kernel_rfl) (fun _ _ _ h => h) (Or.inr ⟨by rfl, rfl⟩) (by assumption) ?_
  try simp only [List.getElem_toArray, List.getElem_cons_succ, List.getElem_cons_zero, Act.put, List.setIfInBounds_toArray, List.set_cons_zero, List.set_cons_succ]
  refine wpAnyH_take (i := 12) rfl (by kernel_rfl) (by kernel_rfl) (by kernel_rfl) (fun _ _ _ h => h) (Or.inr ⟨by rfl, rfl⟩) (by assumption) ?_
  try simp only [List.getElem_toArray, List.getElem_cons_succ, List.getElem_cons_zero, Act.put, List.setIfInBounds_toArray, List.set_cons_zero, List.set_cons_succ]
  refine wpAnyH_take (i := 13) rfl (by kernel_rfl) (by kernel_rfl) (by kernel_rfl) (fun _ _ _ h => h) (Or.inr ⟨by rfl, rfl⟩) (by assumption) ?_
  try simp only [List.getElem_toArray, List.getElem_cons_succ, List.getElem_cons_zero, Act.put, List.setIfInBounds_toArray, List.set_cons_zero, List.set_cons_succ]
  refine wpAnyH_take (i := 14) (v := ?v14) rfl (by kernel_rfl) (by kernel_rfl) (by kernel_rfl) (fun _ _ _ h => h) (Or.inl ⟨by rfl, ?y14⟩) (by assumption) ?z14
  case y14 => (intro w hSw; go_simp; first | done | with_reducible rfl)
  try simp only [List.getElem_toArray, List.getElem_cons_succ, List.getElem_cons_zero, Act.put, List.setIfInBounds_toArray, List.set_cons_zero, List.set_cons_succ]
  refine wpAnyH_take (i := 15) (v := ?v15) rfl (by kernel_rfl) (by kernel_rfl) (by kernel_rfl) (fun _ _ _ h => h) (Or.inl ⟨by rfl, ?y15⟩) (by assumption) ?z15
  case y15 => (intro w hSw; go_simp; first | done | with_reducible rfl)
  try simp only [List.getElem_toArray, List.getElem_cons_succ, List.getElem_cons_zero, Act.put, List.setIfInBounds_toArray, List.set_cons_zero, List.set_cons_succ]
  refine wpAnyH_done (by kernel_rfl) ?_ _
  go_wp2
  have hk : Below W.heap.size W w1 := by assumption
  have hk2 := belT hbW hk
  go_ret
  exact ⟨by simp [Hf.out], by repeat (first | exact Below.refl _ _ | assumption | exact bel1 (by assumption) | exact bel2 (by assumption) | exact bel3 (by assumption) | exact bel4 (by assumption) | refine Below.drew ?_ | refine below_drewN ?_ _ | refine Below.setCell ?_ (by first | (simp; done) | (simp; omega)) _ | refine Below.alloc ?_ (by first | (simp; done) | (simp; omega)) _)⟩

set_option maxHeartbeats 1000000 in
theorem less_no2_impl (fu fd gu gd : Int) (hf : okB fu fd = true) (hg : okB gu gd = false) (w : World) :
    Calls Try.prog 27 #[.agg #[.int .i64 fu, .int .i64 fd], .agg #[.int .i64 gu, .int .i64 gd]] w fun e w' => e = .returned (.bool (lessB fu fd gu gd)) ∧ Below w.heap.size w w' := by
  have hfin : lessB fu fd gu gd = false := by simp [lessB, hg]
  have Hf := Lib.hid hfin
  clear hfin
  go_enter Try.func27, Try.ntmps27
  go_wp2_with fail
  obtain ⟨W, hW⟩ : ∃ W : World, W = ((w.alloc (.cells #[(Value.int .i64 fu), (Value.int .i64 fd)] 24)).alloc (.cells #[(Value.int .i64 gu), (Value.int .i64 gd)] 24)) := ⟨_, rfl⟩
  have hzW : W.heap.size = w.heap.size + 2 := by rw [hW]; simp
  have hbW : Below w.heap.size w W := by rw [hW]; exact (by repeat (first | exact Below.refl _ _ | assumption | exact bel1 (by assumption) | exact bel2 (by assumption) | exact bel3 (by assumption) | exact bel4 (by assumption) | refine Below.drew ?_ | refine below_drewN ?_ _ | refine Below.setCell ?_ (by first | (simp; done) | (simp; omega)) _ | refine Below.alloc ?_ (by first | (simp; done) | (simp; omega)) _))
  have r00 := stays (p := w.heap.size) (o := 0) (by omega) (show W.cell? ⟨w.heap.size, 0, none⟩ = some ((Value.int .i64 fu)) from by rw [hW]; simp [go_sem])
  have r01 := stays (p := w.heap.size) (o := 1) (by omega) (show W.cell? ⟨w.heap.size, 1, none⟩ = some ((Value.int .i64 fd)) from by rw [hW]; simp [go_sem])
  have r10 := stays (p := w.heap.size + 1) (o := 0) (by omega) (show W.cell? ⟨w.heap.size + 1, 0, none⟩ = some ((Value.int .i64 gu)) from by rw [hW]; simp [go_sem])
  have r11 := stays (p := w.heap.size + 1) (o := 1) (by omega) (show W.cell? ⟨w.heap.size + 1, 1, none⟩ = some ((Value.int .i64 gd)) from by rw [hW]; simp [go_sem])
  rw [← hW]
  clear hW
  have HzW := Lib.hid hzW
  clear hzW
  refine wp_region_held_drew (S := fun w' => Below W.heap.size W w') (by kernel_rfl) (Below.drew (Below.refl _ _)) (fun hHeld => ?_)
  refine wpAnyH_take (i := 0) (v := ?v0) rfl (by kernel_rfl) (by kernel_rfl) (by kernel_rfl) (fun _ _ _ h => h) (Or.inl ⟨by rfl, ?y0⟩) (by assumption) ?z0
  case y0 => (intro w hSw; go_simp; first | done | with_reducible rfl)
  try simp only [List.getElem_toArray, List.getElem_cons_succ, List.getElem_cons_zero, Act.put, List.setIfInBounds_toArray, List.set_cons_zero, List.set_cons_succ]
  refine wpAnyH_ready (rs := [1]) (by kernel_rfl) (by simp) ?_
  refine AllReadyH.cons rfl (fun K hK => ?_) AllReadyH.nil
  go_simp
  (go_at_call 14; refine (fracOk_impl_v _ _ _ (by assumption) _).mono ?_; rintro e w1 ⟨rfl, hb1⟩)
  refine hK.out _ _ (by first | exact Below.refl _ _ | exact Below.drew (Below.refl _ _) | exact belT (by assumption) (by assumption) | assumption) (fun hHeld => ?_)
  clear hK K
  try simp only [List.getElem_toArray, List.getElem_cons_succ, List.getElem_cons_zero, Act.put, List.setIfInBounds_toArray, List.set_cons_zero, List.set_cons_succ]
  refine wpAnyH_take (i := 2) (v := ?v2) rfl (by kernel_rfl) (by kernel_rfl) (by kernel_rfl) (fun _ _ _ h => h) (Or.inl ⟨by rfl, ?y2⟩) (by assumption) ?z2
  case y2 => (intro w hSw; go_simp; first | done | with_reducible rfl)
  try simp only [List.getElem_toArray, List.getElem_cons_succ, List.getElem_cons_zero, Act.put, List.setIfInBounds_toArray, List.set_cons_zero, List.set_cons_succ]
  refine wpAnyH_take (i := 3) (v := ?v3) rfl (by kernel_rfl) (by kernel_rfl) (by kernel_rfl) (fun _ _ _ h => h) (Or.inl ⟨by rfl, ?y3⟩) (by assumption) ?z3
  case y3 => (intro w hSw; go_simp; first | done | with_reducible rfl)
  try simp only [List.getElem_toArray, List.getElem_cons_succ, List.getElem_cons_zero, Act.put, List.setIfInBounds_toArray, List.set_cons_zero, List.set_cons_succ]
  refine wpAnyH_ready (rs := [4]) (by kernel_rfl) (by simp) ?_
  refine AllReadyH.cons rfl (fun K hK => ?_) AllReadyH.nil
  go_simp
  (go_at_call 14; refine (fracOk_impl_v _ _ _ (by assumption) _).mono ?_; rintro e w1 ⟨rfl, hb1⟩)
  refine hK.out _ _ (by first | exact Below.refl _ _ | exact Below.drew (Below.refl _ _) | exact belT (by assumption) (by assumption) | assumption) (fun hHeld => ?_)
  clear hK K
  try simp only [List.getElem_toArray, List.getElem_cons_succ, List.getElem_cons_zero, Act.put, List.setIfInBounds_toArray, List.set_cons_zero, List.set_cons_succ]
  refine wpAnyH_take (i := 5) (v := ?v5) rfl (by kernel_rfl) (by kernel_rfl) (by kernel_rfl) (fun _ _ _ h => h) (Or.inl ⟨by rfl, ?y5⟩) (by assumption) ?z5
  case y5 => (intro w hSw; go_simp; first | done | with_reducible rfl)
  try simp only [List.getElem_toArray, List.getElem_cons_succ, List.getElem_cons_zero, Act.put, List.setIfInBounds_toArray, List.set_cons_zero, List.set_cons_succ]
  refine wpAnyH_take (i := 6) (v := ?v6) rfl (by kernel_rfl) (by kernel_rfl) (by kernel_rfl) (fun _ _ _ h => h) (Or.inl ⟨by rfl, ?y6⟩) (by assumption) ?z6
  case y6 => (intro w hSw; go_simp; first | done | with_reducible rfl)
  try simp only [List.getElem_toArray, List.getElem_cons_succ, List.getElem_cons_zero, Act.put, List.setIfInBounds_toArray, List.set_cons_zero, List.set_cons_succ]
  refine wpAnyH_take (i := 7) rfl (by kernel_rfl) (by kernel_rfl) (by kernel_rfl) (fun _ _ _ h => h) (Or.inr ⟨by rfl, rfl⟩) (by assumption) ?_
  try simp only [List.getElem_toArray, List.getElem_cons_succ, List.getElem_cons_zero, Act.put, List.setIfInBounds_toArray, List.set_cons_zero, List.set_cons_succ]
  refine wpAnyH_take (i := 8) rfl (by kernel_rfl) (by kernel_rfl) (by kernel_rfl) (fun _ _ _ h => h) (Or.inr ⟨by rfl, rfl⟩) (by assumption) ?_
  try simp only [List.getElem_toArray, List.getElem_cons_succ, List.getElem_cons_zero, Act.put, List.setIfInBounds_toArray, List.set_cons_zero, List.set_cons_succ]
  refine wpAnyH_take (i := 9) rfl (by kernel_rfl) (by kernel_rfl) (by kernel_rfl) (fun _ _ _ h => h) (Or.inr ⟨by rfl, rfl⟩) (by assumption) ?_
  try simp only [List.getElem_toArray, List.getElem_cons_succ, List.getElem_cons_zero, Act.put, List.setIfInBounds_toArray, List.set_cons_zero, List.set_cons_succ]
  refine wpAnyH_take (i := 10) rfl (by kernel_rfl) (by kernel_rfl) (by kernel_rfl) (fun _ _ _ h => h) (Or.inr ⟨by rfl, rfl⟩) (by assumption) ?_
  try simp only [List.getElem_toArray, List.getElem_cons_succ, List.getElem_cons_zero, Act.put, List.setIfInBounds_toArray, List.set_cons_zero, List.set_cons_succ]
  refine wpAnyH_take (i := 11) rfl (by kernel_rfl) (by kernel_rfl) (by kernel_rfl) (fun _ _ _ h => h) (Or.inr ⟨by rfl, rfl⟩) (by assumption) ?_
  try simp only [List.getElem_toArray, List.getElem_cons_succ, List.getElem_cons_zero, Act.put, List.setIfInBounds_toArray, List.set_cons_zero, List.set_cons_succ]
  refine wpAnyH_take (i := 12) rfl (by kernel_rfl) (by kernel_rfl) (by kernel_rfl) (fun _ _ _ h => h) (Or.inr ⟨by rfl, rfl⟩) (by assumption) ?_
  try simp only [List.getElem_toArray, List.getElem_cons_succ, List.getElem_cons_zero, Act.put, List.setIfInBounds_toArray, List.set_cons_zero, List.set_cons_succ]
  refine wpAnyH_take (i := 13) rfl (by kernel_rfl) (by kernel_rfl) (by kernel_rfl) (fun _ _ _ h => h) (Or.inr ⟨by rfl, rfl⟩) (by assumption) ?_
  try simp only [List.getElem_toArray, List.getElem_cons_succ, List.getElem_cons_zero, Act.put, List.setIfInBounds_toArray, List.set_cons_zero, List.set_cons_succ]
  refine wpAnyH_take (i := 14) (v := ?v14) rfl (by kernel_rfl) (by kernel_rfl) (by kernel_rfl) (fun _ _ _ h => h) (Or.inl ⟨by rfl, ?y14⟩) (by assumption) ?z14
  case y14 => (intro w hSw; go_simp; first | done | with_reducible rfl)
  try simp only [List.getElem_toArray, List.getElem_cons_succ, List.getElem_cons_zero, Act.put, List.setIfInBounds_toArray, List.set_cons_zero, List.set_cons_succ]
  refine wpAnyH_take (i := 15) (v := ?v15) rfl (by kernel_rfl) (by kernel_rfl) (by kernel_rfl) (fun _ _ _ h => h) (Or.inl ⟨by rfl, ?y15⟩) (by assumption) ?z15
  case y15 => (intro w hSw; go_simp; first | done | with_reducible rfl)
  try simp only [List.getElem_toArray, List.getElem_cons_succ, List.getElem_cons_zero, Act.put, List.setIfInBounds_toArray, List.set_cons_zero, List.set_cons_succ]
  refine wpAnyH_done (by kernel_rfl) ?_ _
  go_wp2
  have hk : Below W.heap.size W w1 := by assumption
  have hk2 := belT hbW hk
  go_ret
  exact ⟨by simp [Hf.out], by repeat (first | exact Below.refl _ _ | assumption | exact bel1 (by assumption) | exact bel2 (by assumption) | exact bel3 (by assumption) | exact bel4 (by assumption) | refine Below.drew ?_ | refine below_drewN ?_ _ | refine Below.setCell ?_ (by first | (simp; done) | (simp; omega)) _ | refine Below.alloc ?_ (by first | (simp; done) | (simp; omega)) _)⟩

set_option maxHeartbeats 1000000 in
theorem less_yes_impl (fu fd gu gd : Int) (hf : okB fu fd = true) (hg : okB gu gd = true) (w : World) :
    Calls Try.prog 27 #[.agg #[.int .i64 fu, .int .i64 fd], .agg #[.int .i64 gu, .int .i64 gd]] w fun e w' => e = .returned (.bool (lessB fu fd gu gd)) ∧ Below w.heap.size w w' := by
  have hfin := lessB_ok hf hg
  have Hf := Lib.hid hfin
  clear hfin
  obtain ⟨a1, a2, a3, a4, _⟩ := okB_iff.1 hf
  obtain ⟨b1, b2, b3, b4, _⟩ := okB_iff.1 hg
  have m1 := mul_in a1 a2 (show 0 ≤ gd by omega) b4
  have m2 := mul_in b1 b2 (show 0 ≤ fd by omega) a4
  have m3 := mul_in (show -1000000000 ≤ fd by omega) a4 (show 0 ≤ gd by omega) b4
  have m4 := mul_pos a3 b3
  have q1 : -4611686018427387904 ≤ fu * gd + gu * fd := by omega
  have q2 : fu * gd + gu * fd ≤ 4611686018427387904 := by omega
  have q3 : -4611686018427387904 ≤ fd * gd := by omega
  have q4 : fd * gd ≤ 4611686018427387904 := by omega
  have q5 : fd * gd ≠ 0 := by omega
  have q6 : -4611686018427387904 ≤ fu * gd := by omega
  have q7 : fu * gd ≤ 4611686018427387904 := by omega
  have q8 : -4611686018427387904 ≤ gu * fd := by omega
  have q9 : gu * fd ≤ 4611686018427387904 := by omega
  go_enter Try.func27, Try.ntmps27
  go_wp2_with fail
  obtain ⟨W, hW⟩ : ∃ W : World, W = ((w.alloc (.cells #[(Value.int .i64 fu), (Value.int .i64 fd)] 24)).alloc (.cells #[(Value.int .i64 gu), (Value.int .i64 gd)] 24)) := ⟨_, rfl⟩
  have hzW : W.heap.size = w.heap.size + 2 := by rw [hW]; simp
  have hbW : Below w.heap.size w W := by rw [hW]; exact (by repeat (first | exact Below.refl _ _ | assumption | exact bel1 (by assumption) | exact bel2 (by assumption) | exact bel3 (by assumption) | exact bel4 (by assumption) | refine Below.drew ?_ | refine below_drewN ?_ _ | refine Below.setCell ?_ (by first | (simp; done) | (simp; omega)) _ | refine Below.alloc ?_ (by first | (simp; done) | (simp; omega)) _))
  have r00 := stays (p := w.heap.size) (o := 0) (by omega) (show W.cell? ⟨w.heap.size, 0, none⟩ = some ((Value.int .i64 fu)) from by rw [hW]; simp [go_sem])
  have r01 := stays (p := w.heap.size) (o := 1) (by omega) (show W.cell? ⟨w.heap.size, 1, none⟩ = some ((Value.int .i64 fd)) from by rw [hW]; simp [go_sem])
  have r10 := stays (p := w.heap.size + 1) (o := 0) (by omega) (show W.cell? ⟨w.heap.size + 1, 0, none⟩ = some ((Value.int .i64 gu)) from by rw [hW]; simp [go_sem])
  have r11 := stays (p := w.heap.size + 1) (o := 1) (by omega) (show W.cell? ⟨w.heap.size + 1, 1, none⟩ = some ((Value.int .i64 gd)) from by rw [hW]; simp [go_sem])
  rw [← hW]
  clear hW
  have HzW := Lib.hid hzW
  clear hzW
  go_region_held3 (fun w' => Below W.heap.size W w')
    (first | exact Below.refl _ _ | exact Below.drew (Below.refl _ _) | exact belT (by assumption) (by assumption) | assumption)
    (first | (go_at_call 14; refine (fracOk_impl _ _ _).mono ?_; rintro e w1 ⟨rfl, hb1⟩) | (go_at_call 41; refine (crosswise _ _ _ _ (by assumption) (by assumption) _).mono ?_; rintro e w1 ⟨rfl, hb1⟩))
  go_wp2
  have hk : Below W.heap.size W w1 := by assumption
  have hk2 := belT hbW hk
  go_ret
  exact ⟨by simp [Hf.out], by repeat (first | exact Below.refl _ _ | assumption | exact bel1 (by assumption) | exact bel2 (by assumption) | exact bel3 (by assumption) | exact bel4 (by assumption) | refine Below.drew ?_ | refine below_drewN ?_ _ | refine Below.setCell ?_ (by first | (simp; done) | (simp; omega)) _ | refine Below.alloc ?_ (by first | (simp; done) | (simp; omega)) _)⟩

set_option maxHeartbeats 1000000 in
theorem less_no1_spec (fu fd gu gd : Int) (hf : okB fu fd = false) (w : World) :
    Calls Try.prog 28 #[.agg #[.int .i64 fu, .int .i64 fd], .agg #[.int .i64 gu, .int .i64 gd]] w fun e w' => e = .returned (.bool (lessB fu fd gu gd)) ∧ Below w.heap.size w w' := by
  have hfin : lessB fu fd gu gd = false := by simp [lessB, hf]
  have Hf := Lib.hid hfin
  clear hfin
  go_enter Try.func28, Try.ntmps28
  go_wp2_with fail
  obtain ⟨W, hW⟩ : ∃ W : World, W = ((w.alloc (.cells #[(Value.int .i64 fu), (Value.int .i64 fd)] 24)).alloc (.cells #[(Value.int .i64 gu), (Value.int .i64 gd)] 24)) := ⟨_, rfl⟩
  have hzW : W.heap.size = w.heap.size + 2 := by rw [hW]; simp
  have hbW : Below w.heap.size w W := by rw [hW]; exact (by repeat (first | exact Below.refl _ _ | assumption | exact bel1 (by assumption) | exact bel2 (by assumption) | exact bel3 (by assumption) | exact bel4 (by assumption) | refine Below.drew ?_ | refine below_drewN ?_ _ | refine Below.setCell ?_ (by first | (simp; done) | (simp; omega)) _ | refine Below.alloc ?_ (by first | (simp; done) | (simp; omega)) _))
  have r00 := stays (p := w.heap.size) (o := 0) (by omega) (show W.cell? ⟨w.heap.size, 0, none⟩ = some ((Value.int .i64 fu)) from by rw [hW]; simp [go_sem])
  have r01 := stays (p := w.heap.size) (o := 1) (by omega) (show W.cell? ⟨w.heap.size, 1, none⟩ = some ((Value.int .i64 fd)) from by rw [hW]; simp [go_sem])
  have r10 := stays (p := w.heap.size + 1) (o := 0) (by omega) (show W.cell? ⟨w.heap.size + 1, 0, none⟩ = some ((Value.int .i64 gu)) from by rw [hW]; simp [go_sem])
  have r11 := stays (p := w.heap.size + 1) (o := 1) (by omega) (show W.cell? ⟨w.heap.size + 1, 1, none⟩ = some ((Value.int .i64 gd)) from by rw [hW]; simp [go_sem])
  rw [← hW]
  clear hW
  have HzW := Lib.hid hzW
  clear hzW
  go_wp2_with (go_at_call 15; refine (fracOk_spec _ _ _).mono ?_; rintro e w1 ⟨rfl, hb1⟩; have hk := belT (by first | exact Below.refl W.heap.size _ | exact Below.drew (Below.refl W.heap.size _) | assumption) hb1)
  have hk2 := belT hbW hk
  go_ret
  exact ⟨by simp [Hf.out], by repeat (first | exact Below.refl _ _ | assumption | exact bel1 (by assumption) | exact bel2 (by assumption) | exact bel3 (by assumption) | exact bel4 (by assumption) | refine Below.drew ?_ | refine below_drewN ?_ _ | refine Below.setCell ?_ (by first | (simp; done) | (simp; omega)) _ | refine Below.alloc ?_ (by first | (simp; done) | (simp; omega)) _)⟩

set_option maxHeartbeats 1000000 in
theorem less_no2_spec (fu fd gu gd : Int) (hf : okB fu fd = true) (hg : okB gu gd = false) (w : World) :
    Calls Try.prog 28 #[.agg #[.int .i64 fu, .int .i64 fd], .agg #[.int .i64 gu, .int .i64 gd]] w fun e w' => e = .returned (.bool (lessB fu fd gu gd)) ∧ Below w.heap.size w w' := by
  have hfin : lessB fu fd gu gd = false := by simp [lessB, hg]
  have Hf := Lib.hid hfin
  clear hfin
  go_enter Try.func28, Try.ntmps28
  go_wp2_with fail
  obtain ⟨W, hW⟩ : ∃ W : World, W = ((w.alloc (.cells #[(Value.int .i64 fu), (Value.int .i64 fd)] 24)).alloc (.cells #[(Value.int .i64 gu), (Value.int .i64 gd)] 24)) := ⟨_, rfl⟩
  have hzW : W.heap.size = w.heap.size + 2 := by rw [hW]; simp
  have hbW : Below w.heap.size w W := by rw [hW]; exact (by repeat (first | exact Below.refl _ _ | assumption | exact bel1 (by assumption) | exact bel2 (by assumption) | exact bel3 (by assumption) | exact bel4 (by assumption) | refine Below.drew ?_ | refine below_drewN ?_ _ | refine Below.setCell ?_ (by first | (simp; done) | (simp; omega)) _ | refine Below.alloc ?_ (by first | (simp; done) | (simp; omega)) _))
  have r00 := stays (p := w.heap.size) (o := 0) (by omega) (show W.cell? ⟨w.heap.size, 0, none⟩ = some ((Value.int .i64 fu)) from by rw [hW]; simp [go_sem])
  have r01 := stays (p := w.heap.size) (o := 1) (by omega) (show W.cell? ⟨w.heap.size, 1, none⟩ = some ((Value.int .i64 fd)) from by rw [hW]; simp [go_sem])
  have r10 := stays (p := w.heap.size + 1) (o := 0) (by omega) (show W.cell? ⟨w.heap.size + 1, 0, none⟩ = some ((Value.int .i64 gu)) from by rw [hW]; simp [go_sem])
  have r11 := stays (p := w.heap.size + 1) (o := 1) (by omega) (show W.cell? ⟨w.heap.size + 1, 1, none⟩ = some ((Value.int .i64 gd)) from by rw [hW]; simp [go_sem])
  rw [← hW]
  clear hW
  have HzW := Lib.hid hzW
  clear hzW
  go_wp2_with (go_at_call 15; refine (fracOk_spec _ _ _).mono ?_; rintro e w1 ⟨rfl, hb1⟩; have hk := belT (by first | exact Below.refl W.heap.size _ | exact Below.drew (Below.refl W.heap.size _) | assumption) hb1)
  have hk2 := belT hbW hk
  go_ret
  exact ⟨by simp [Hf.out], by repeat (first | exact Below.refl _ _ | assumption | exact bel1 (by assumption) | exact bel2 (by assumption) | exact bel3 (by assumption) | exact bel4 (by assumption) | refine Below.drew ?_ | refine below_drewN ?_ _ | refine Below.setCell ?_ (by first | (simp; done) | (simp; omega)) _ | refine Below.alloc ?_ (by first | (simp; done) | (simp; omega)) _)⟩

set_option maxHeartbeats 1000000 in
theorem less_yes_spec (fu fd gu gd : Int) (hf : okB fu fd = true) (hg : okB gu gd = true) (w : World) :
    Calls Try.prog 28 #[.agg #[.int .i64 fu, .int .i64 fd], .agg #[.int .i64 gu, .int .i64 gd]] w fun e w' => e = .returned (.bool (lessB fu fd gu gd)) ∧ Below w.heap.size w w' := by
  have hfin := lessB_ok hf hg
  have Hf := Lib.hid hfin
  clear hfin
  obtain ⟨a1, a2, a3, a4, _⟩ := okB_iff.1 hf
  obtain ⟨b1, b2, b3, b4, _⟩ := okB_iff.1 hg
  have m1 := mul_in a1 a2 (show 0 ≤ gd by omega) b4
  have m2 := mul_in b1 b2 (show 0 ≤ fd by omega) a4
  have m3 := mul_in (show -1000000000 ≤ fd by omega) a4 (show 0 ≤ gd by omega) b4
  have m4 := mul_pos a3 b3
  have q1 : -4611686018427387904 ≤ fu * gd + gu * fd := by omega
  have q2 : fu * gd + gu * fd ≤ 4611686018427387904 := by omega
  have q3 : -4611686018427387904 ≤ fd * gd := by omega
  have q4 : fd * gd ≤ 4611686018427387904 := by omega
  have q5 : fd * gd ≠ 0 := by omega
  have q6 : -4611686018427387904 ≤ fu * gd := by omega
  have q7 : fu * gd ≤ 4611686018427387904 := by omega
  have q8 : -4611686018427387904 ≤ gu * fd := by omega
  have q9 : gu * fd ≤ 4611686018427387904 := by omega
  go_enter Try.func28, Try.ntmps28
  go_wp2_with fail
  obtain ⟨W, hW⟩ : ∃ W : World, W = ((w.alloc (.cells #[(Value.int .i64 fu), (Value.int .i64 fd)] 24)).alloc (.cells #[(Value.int .i64 gu), (Value.int .i64 gd)] 24)) := ⟨_, rfl⟩
  have hzW : W.heap.size = w.heap.size + 2 := by rw [hW]; simp
  have hbW : Below w.heap.size w W := by rw [hW]; exact (by repeat (first | exact Below.refl _ _ | assumption | exact bel1 (by assumption) | exact bel2 (by assumption) | exact bel3 (by assumption) | exact bel4 (by assumption) | refine Below.drew ?_ | refine below_drewN ?_ _ | refine Below.setCell ?_ (by first | (simp; done) | (simp; omega)) _ | refine Below.alloc ?_ (by first | (simp; done) | (simp; omega)) _))
  have r00 := stays (p := w.heap.size) (o := 0) (by omega) (show W.cell? ⟨w.heap.size, 0, none⟩ = some ((Value.int .i64 fu)) from by rw [hW]; simp [go_sem])
  have r01 := stays (p := w.heap.size) (o := 1) (by omega) (show W.cell? ⟨w.heap.size, 1, none⟩ = some ((Value.int .i64 fd)) from by rw [hW]; simp [go_sem])
  have r10 := stays (p := w.heap.size + 1) (o := 0) (by omega) (show W.cell? ⟨w.heap.size + 1, 0, none⟩ = some ((Value.int .i64 gu)) from by rw [hW]; simp [go_sem])
  have r11 := stays (p := w.heap.size + 1) (o := 1) (by omega) (show W.cell? ⟨w.heap.size + 1, 1, none⟩ = some ((Value.int .i64 gd)) from by rw [hW]; simp [go_sem])
  rw [← hW]
  clear hW
  have HzW := Lib.hid hzW
  clear hzW
  go_wp2_with (go_at_call 15; refine (fracOk_spec _ _ _).mono ?_; rintro e w1 ⟨rfl, hb1⟩; have hk := belT (by first | exact Below.refl W.heap.size _ | exact Below.drew (Below.refl W.heap.size _) | assumption) hb1)
  have hk2 := belT hbW hk
  go_ret
  exact ⟨by simp [Hf.out], by repeat (first | exact Below.refl _ _ | assumption | exact bel1 (by assumption) | exact bel2 (by assumption) | exact bel3 (by assumption) | exact bel4 (by assumption) | refine Below.drew ?_ | refine below_drewN ?_ _ | refine Below.setCell ?_ (by first | (simp; done) | (simp; omega)) _ | refine Below.alloc ?_ (by first | (simp; done) | (simp; omega)) _)⟩

end Go.Proofs.Ytijlednmagdpgaa
