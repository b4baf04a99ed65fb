/- The walks of the exact laws on fractions: each returns true, and writes nothing that was there. (Written by wip/gen/exact2.py.) -/
import Derived.Test.YtpkdmilbppipmaaAll
import Derived.Deep.DeepCutAuto
namespace Go.Proofs.Ytpkdmilbppipmaa
set_option linter.unusedSimpArgs false
set_option linter.unusedVariables false
open Go.RowKit

theorem belA {W w1 : World} {o : Obj} (h : Below W.heap.size W w1) : Below W.heap.size W (w1.alloc o) := h.alloc h.size _

theorem below_lt {W w1 : World} (h : Below W.heap.size W w1) : ∀ n, n < W.heap.size → n < w1.heap.size := fun _ hn => Nat.lt_of_lt_of_le hn h.size

theorem two_same {w : World} {p : Nat} {x y : Value} (h0 : (w.cell? ⟨p, 0, none⟩).isSome = true) (h1 : (w.cell? ⟨p, 1, none⟩).isSome = true) :
    ((w.setCell ⟨p, 0, none⟩ x).setCell ⟨p, 1, none⟩ y).cell? ⟨p, 0, none⟩ = some x ∧ ((w.setCell ⟨p, 0, none⟩ x).setCell ⟨p, 1, none⟩ y).cell? ⟨p, 1, none⟩ = some y := by
  refine ⟨?_, ?_⟩
  · rw [World.cell?_setCell_other _ _ _ _ (by simp)]; exact World.cell?_setCell_same' _ _ _ h0
  · refine World.cell?_setCell_same' _ _ _ ?_
    rw [World.cell?_setCell_other _ _ _ _ (by simp)]; exact h1

theorem belSwap {W w1 : World} {o o' : Obj} (h : Below W.heap.size W (w1.alloc o')) (hs : W.heap.size ≤ w1.heap.size) : Below W.heap.size W (w1.alloc o) :=
  ⟨h.os, h.tape, h.output, by simp; omega, fun k hk => by rw [Below.heap_alloc _ _ _ (by omega), ← h.block k hk, Below.heap_alloc _ _ _ (by omega)]⟩

set_option maxHeartbeats 1000000 in
theorem wFnExactLessOk (fu fd gu gd : Int) (w : World) :
    Calls Try.prog 7 #[.agg #[.int .i64 fu, .int .i64 fd], .agg #[.int .i64 gu, .int .i64 gd]] w fun e w' => e = .returned (.bool true) ∧ Below w.heap.size w w' := by
  go_enter Try.func7, Try.ntmps7
  go_wp2_with fail
  obtain ⟨W, hW⟩ : ∃ W : World, W = ((w.alloc (.cells #[(Value.int .i64 fu), (Value.int .i64 fd)] 35)).alloc (.cells #[(Value.int .i64 gu), (Value.int .i64 gd)] 35)) := ⟨_, rfl⟩
  have hzW : W.heap.size = w.heap.size + 2 := by rw [hW]; simp
  have hbW : Below w.heap.size w W := by rw [hW]; exact (by repeat (first | exact Below.refl _ _ | assumption | exact bel1 (by assumption) | exact bel2 (by assumption) | exact bel3 (by assumption) | exact bel4 (by assumption) | refine Below.drew ?_ | refine below_drewN ?_ _ | refine Below.setCell ?_ (by first | (simp; done) | (simp; omega)) _ | refine Below.alloc ?_ (by first | (simp; done) | (simp; omega)) _))
  have r00 := stays (p := w.heap.size) (o := 0) (by omega) (show W.cell? ⟨w.heap.size, 0, none⟩ = some ((Value.int .i64 fu)) from by rw [hW]; simp [go_sem])
  have r01 := stays (p := w.heap.size) (o := 1) (by omega) (show W.cell? ⟨w.heap.size, 1, none⟩ = some ((Value.int .i64 fd)) from by rw [hW]; simp [go_sem])
  have r10 := stays (p := w.heap.size + 1) (o := 0) (by omega) (show W.cell? ⟨w.heap.size + 1, 0, none⟩ = some ((Value.int .i64 gu)) from by rw [hW]; simp [go_sem])
  have r11 := stays (p := w.heap.size + 1) (o := 1) (by omega) (show W.cell? ⟨w.heap.size + 1, 1, none⟩ = some ((Value.int .i64 gd)) from by rw [hW]; simp [go_sem])
  rw [← hW]
  clear hW
  have HzW := Lib.hid hzW
  clear hzW
  go_region_held3 (fun w' => Below W.heap.size W w')
    (first | exact Below.refl _ _ | exact Below.drew (Below.refl _ _) | (refine Below.drew ?_; assumption) | exact belT (by assumption) (by assumption) | assumption)
    (first | (go_at_call 20; refine (toFrac _ _ _).mono ?_; rintro e w1 ⟨rfl, hb1⟩; have hlt := below_lt hb1; obtain ⟨hc1, hf1⟩ := bcell hb1; have hsz := hb1.size; (try simp at hsz); (first | (have hsy := Nat.lt_of_succ_le hsz) | skip)) | (go_at_call 19; refine (less_spec _ _ _ _ _).mono ?_; rintro e w1 ⟨rfl, hb1⟩; have hlt := below_lt hb1; obtain ⟨hc1, hf1⟩ := bcell hb1; have hsz := hb1.size; (try simp at hsz); (first | (have hsy := Nat.lt_of_succ_le hsz) | skip)))
  go_wp2_with fail
  go_region_held3 (fun w' => Below W.heap.size W w')
    (first | exact Below.refl _ _ | exact Below.drew (Below.refl _ _) | (refine Below.drew ?_; assumption) | exact belT (by assumption) (by assumption) | assumption)
    (first | (go_at_call 20; refine (toFrac _ _ _).mono ?_; rintro e w1 ⟨rfl, hb1⟩; have hlt := below_lt hb1; obtain ⟨hc1, hf1⟩ := bcell hb1; have hsz := hb1.size; (try simp at hsz); (first | (have hsy := Nat.lt_of_succ_le hsz) | skip)) | (go_at_call 18; refine (less_impl _ _ _ _ _).mono ?_; rintro e w1 ⟨rfl, hb1⟩; have hlt := below_lt hb1; obtain ⟨hc1, hf1⟩ := bcell hb1; have hsz := hb1.size; (try simp at hsz); (first | (have hsy := Nat.lt_of_succ_le hsz) | skip)))
  go_wp2_with fail
  have hk : Below W.heap.size W w1 := by assumption
  have hk2 := belT hbW hk
  go_ret
  exact ⟨rfl, by repeat (first | exact Below.refl _ _ | assumption | exact bel1 (by assumption) | exact bel2 (by assumption) | exact bel3 (by assumption) | exact bel4 (by assumption) | refine Below.drew ?_ | refine below_drewN ?_ _ | refine Below.setCell ?_ (by first | (simp; done) | (simp; omega)) _ | refine Below.alloc ?_ (by first | (simp; done) | (simp; omega)) _)⟩

set_option maxHeartbeats 1000000 in
theorem wFnExactPlusOf (fu fd gu gd : Int) (w : World) :
    Calls Try.prog 6 #[.agg #[.int .i64 fu, .int .i64 fd], .agg #[.int .i64 gu, .int .i64 gd]] w fun e w' => e = .returned (.bool true) ∧ Below w.heap.size w w' := by
  go_enter Try.func6, Try.ntmps6
  go_wp2_with fail
  obtain ⟨W, hW⟩ : ∃ W : World, W = ((w.alloc (.cells #[(Value.int .i64 fu), (Value.int .i64 fd)] 35)).alloc (.cells #[(Value.int .i64 gu), (Value.int .i64 gd)] 35)) := ⟨_, rfl⟩
  have hzW : W.heap.size = w.heap.size + 2 := by rw [hW]; simp
  have hbW : Below w.heap.size w W := by rw [hW]; exact (by repeat (first | exact Below.refl _ _ | assumption | exact bel1 (by assumption) | exact bel2 (by assumption) | exact bel3 (by assumption) | exact bel4 (by assumption) | refine Below.drew ?_ | refine below_drewN ?_ _ | refine Below.setCell ?_ (by first | (simp; done) | (simp; omega)) _ | refine Below.alloc ?_ (by first | (simp; done) | (simp; omega)) _))
  have r00 := stays (p := w.heap.size) (o := 0) (by omega) (show W.cell? ⟨w.heap.size, 0, none⟩ = some ((Value.int .i64 fu)) from by rw [hW]; simp [go_sem])
  have r01 := stays (p := w.heap.size) (o := 1) (by omega) (show W.cell? ⟨w.heap.size, 1, none⟩ = some ((Value.int .i64 fd)) from by rw [hW]; simp [go_sem])
  have r10 := stays (p := w.heap.size + 1) (o := 0) (by omega) (show W.cell? ⟨w.heap.size + 1, 0, none⟩ = some ((Value.int .i64 gu)) from by rw [hW]; simp [go_sem])
  have r11 := stays (p := w.heap.size + 1) (o := 1) (by omega) (show W.cell? ⟨w.heap.size + 1, 1, none⟩ = some ((Value.int .i64 gd)) from by rw [hW]; simp [go_sem])
  rw [← hW]
  clear hW
  have HzW := Lib.hid hzW
  clear hzW
  go_upto_region 1 with fail
  go_cut [5, 6] (fun sa sb wx => ∃ g : Nat, sa = .pointer (some ⟨g, 0, none⟩) ∧ sb = .bool (psB fu fd gu gd) ∧ W.heap.size ≤ g ∧ g < wx.heap.size ∧ wx.cell? ⟨g, 0, none⟩ = some (.int .i64 (psU fu fd gu gd)) ∧ wx.cell? ⟨g, 1, none⟩ = some (.int .i64 (psD fu fd gu gd)) ∧ Below W.heap.size W wx)
  case first =>
    go_region_held3 (fun w' => Below W.heap.size W w')
      (first | exact Below.refl _ _ | exact Below.drew (Below.refl _ _) | (refine Below.drew ?_; assumption) | exact belT (by assumption) (by assumption) | assumption | exact belA (by assumption) | exact belSwap (by assumption) (by omega) | (refine Below.setCell ?_ (by first | (simp; done) | (simp; omega)) _; refine Below.setCell ?_ (by first | (simp; done) | (simp; omega)) _; assumption))
      (first | (go_at_call 20; refine (toFrac _ _ _).mono ?_; rintro e w1 ⟨rfl, hb1⟩; have hlt := below_lt hb1; obtain ⟨hc1, hf1⟩ := bcell hb1; have hsz := hb1.size; (try simp at hsz); (first | (have hsy := Nat.lt_of_succ_le hsz) | skip)) | (go_at_call 10; refine (plus_spec _ _ _ _ _).mono ?_; rintro e w1 ⟨rfl, hb1⟩; have hlt := below_lt hb1; obtain ⟨hc1, hf1⟩ := bcell hb1; have hsz := hb1.size; (try simp at hsz); (first | (have hsy := Nat.lt_of_succ_le hsz) | skip)))
    all_goals
      go_wp2_with fail
      go_meet
      exact ⟨_, rfl, rfl, by first | (simp; done) | (simp; omega) | omega, by first | (simp; done) | (simp; omega) | omega, by first | (go_simp; done) | (refine (two_same ?_ ?_).1 <;> go_simp), by first | (go_simp; done) | (refine (two_same ?_ ?_).2 <;> go_simp), by assumption⟩
  case rest =>
    obtain ⟨g, rfl, rfl, hg1, hg2, hg3, hg4, hg5⟩ := hcut
    have hsg := hg5.size
    have hzz := HzW.out
    have q00 := stays (W := wc) (by omega) (r00 _ hg5)
    have q01 := stays (W := wc) (by omega) (r01 _ hg5)
    have q10 := stays (W := wc) (by omega) (r10 _ hg5)
    have q11 := stays (W := wc) (by omega) (r11 _ hg5)
    have y0 := stays (W := wc) hg2 hg3
    have y1 := stays (W := wc) hg2 hg4
    clear r00 r01 r10 r11 hzz hg3 hg4
    go_upto_region 2 with fail
    go_cut [7, 8] (fun sa sb wx => ∃ g : Nat, sa = .pointer (some ⟨g, 0, none⟩) ∧ sb = .bool (psB fu fd gu gd) ∧ wc.heap.size ≤ g ∧ g < wx.heap.size ∧ wx.cell? ⟨g, 0, none⟩ = some (.int .i64 (psU fu fd gu gd)) ∧ wx.cell? ⟨g, 1, none⟩ = some (.int .i64 (psD fu fd gu gd)) ∧ Below wc.heap.size wc wx)
    case first =>
      go_region_held3 (fun w' => Below wc.heap.size wc w')
        (first | exact Below.refl _ _ | exact Below.drew (Below.refl _ _) | (refine Below.drew ?_; assumption) | exact belT (by assumption) (by assumption) | assumption | exact belA (by assumption) | exact belSwap (by assumption) (by omega) | (refine Below.setCell ?_ (by first | (simp; done) | (simp; omega)) _; refine Below.setCell ?_ (by first | (simp; done) | (simp; omega)) _; assumption))
        (first | (go_at_call 20; refine (toFrac _ _ _).mono ?_; rintro e w1 ⟨rfl, hb1⟩; have hlt := below_lt hb1; obtain ⟨hc1, hf1⟩ := bcell hb1; have hsz := hb1.size; (try simp at hsz); (first | (have hsy := Nat.lt_of_succ_le hsz) | skip)) | (go_at_call 9; refine (plus_impl _ _ _ _ _).mono ?_; rintro e w1 ⟨rfl, hb1⟩; have hlt := below_lt hb1; obtain ⟨hc1, hf1⟩ := bcell hb1; have hsz := hb1.size; (try simp at hsz); (first | (have hsy := Nat.lt_of_succ_le hsz) | skip)))
      all_goals
        go_wp2_with fail
        go_meet
        exact ⟨_, rfl, rfl, by first | (simp; done) | (simp; omega) | omega, by first | (simp; done) | (simp; omega) | omega, by first | (go_simp; done) | (refine (two_same ?_ ?_).1 <;> go_simp), by first | (go_simp; done) | (refine (two_same ?_ ?_).2 <;> go_simp), by assumption⟩
    case rest =>
      obtain ⟨k, rfl, rfl, hk1, hk2, hk3, hk4, hk5⟩ := hcut
      have hsk := hk5.size
      go_wp2_with fail
      refine (eqFrac_same _ _ _).mono ?_
      rintro e w9 ⟨rfl, hb9⟩
      have hk9 := belT hbW (belT hg5 (belT hk5 hb9))
      go_wp2_with fail
      go_ret
      exact ⟨rfl, by repeat (first | exact Below.refl _ _ | assumption | exact bel1 (by assumption) | exact bel2 (by assumption) | exact bel3 (by assumption) | exact bel4 (by assumption) | refine Below.drew ?_ | refine below_drewN ?_ _ | refine Below.setCell ?_ (by first | (simp; done) | (simp; omega)) _ | refine Below.alloc ?_ (by first | (simp; done) | (simp; omega)) _)⟩

end Go.Proofs.Ytpkdmilbppipmaa
