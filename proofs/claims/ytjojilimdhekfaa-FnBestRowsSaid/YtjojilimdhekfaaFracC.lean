/- The walks of the functions on fractions, third part: a fraction of two numbers, sums, order. (Written by wip/gen/fracn.py.) -/
import Derived.Test.YtjojilimdhekfaaFracB
import Derived.Deep.OwnRows
namespace Go.Proofs.Ytjojilimdhekfaa
set_option linter.unusedSimpArgs false
set_option linter.unusedVariables false
open Go.RowKit

/-- a cell that stays through whatever only adds blocks: a rule for the walk -/
theorem stays {W : World} {p o : Nat} {a : Value} (hp : p < W.heap.size) (h : W.cell? ⟨p, o, none⟩ = some a) : ∀ w1, Below W.heap.size W w1 → w1.cell? ⟨p, o, none⟩ = some a :=
  fun _ hb => (hb.cell (p := ⟨p, o, none⟩) hp).trans h

theorem staysF {W : World} {p o : Nat} {b : Bool} (hp : p < W.heap.size) (h : W.frozen? ⟨p, o, none⟩ = b) : ∀ w1, Below W.heap.size W w1 → w1.frozen? ⟨p, o, none⟩ = b :=
  fun _ hb => (hb.frozen (p := ⟨p, o, none⟩) hp).trans h

/-- what a cell holds -/
def held (w : World) (p o : Nat) : Value := (w.cell? ⟨p, o, none⟩).getD .nilFunc

/-- all blocks of W but p, a fraction, are as they were; none below w is touched -/
structure Boxed (w W : World) (p : Nat) (w' : World) : Prop where
  bel : Below w.heap.size w w'
  size : W.heap.size ≤ w'.heap.size
  block : ∀ b, b < W.heap.size → b ≠ p → w'.heap[b]? = W.heap[b]?
  row : ∃ f, w'.rowIs p 28 2 f

theorem Boxed.cell {w W w' : World} {p : Nat} (h : Boxed w W p w') {o : Nat} (ho : o < 2) : w'.cell? ⟨p, o, none⟩ = some (held w' p o) := by
  obtain ⟨f, hf⟩ := h.row
  unfold held; rw [hf.cell ho]; rfl

theorem Boxed.frozen {w W w' : World} {p : Nat} (h : Boxed w W p w') (o : Nat) : w'.frozen? ⟨p, o, none⟩ = false := by
  obtain ⟨f, hf⟩ := h.row
  exact hf.frozen o

theorem Boxed.drew {w W w' : World} {p : Nat} (h : Boxed w W p w') : Boxed w W p w'.drew := ⟨h.bel.drew, h.size, h.block, h.row⟩

theorem Boxed.call {w W w1 w2 : World} {p : Nat} (hb : Below w1.heap.size w1 w2) (hp : p < W.heap.size) (h : Boxed w W p w1) : Boxed w W p w2 := by
  obtain ⟨f, hf⟩ := h.row
  have hs := h.size
  exact ⟨belT h.bel hb, Nat.le_trans h.size hb.size, fun b hlt hne => (hb.block b (by omega)).trans (h.block b hlt hne), f, hf.of_block (hb.block p (by omega))⟩

theorem Boxed.store {w W w1 : World} {p : Nat} (a b : Value) (hp : w.heap.size ≤ p) (h : Boxed w W p w1) : Boxed w W p ((w1.setCell ⟨p, 0, none⟩ a).setCell ⟨p, 1, none⟩ b) := by
  obtain ⟨f, hf⟩ := h.row
  refine ⟨(h.bel.setCell hp _).setCell hp _, by simpa [World.setCell] using h.size, fun b hlt hne => ?_, _, (hf.set 0 a).set 1 b⟩
  rw [Deep.blk_setCell_other _ _ _ _ (by simpa using hne), Deep.blk_setCell_other _ _ _ _ (by simpa using hne)]
  exact h.block b hlt hne

theorem staysB {w W : World} {p b o : Nat} {a : Value} (hb : b < W.heap.size) (hne : b ≠ p) (h : W.cell? ⟨b, o, none⟩ = some a) : ∀ w1, Boxed w W p w1 → w1.cell? ⟨b, o, none⟩ = some a :=
  fun _ k => (World.cell?_of_block (w := W) (k.block b hb hne)).trans h

/-- are lowest terms small enough -/
def ovB (a b : Int) : Bool := inR (lowU a b) (-1000000000) 1000000000 && inR (lowD a b) (-1000000000) 1000000000

set_option maxHeartbeats 1000000 in
theorem over_yes (a b : Int) (q1 : -4611686018427387904 ≤ a) (q2 : a ≤ 4611686018427387904) (q3 : -4611686018427387904 ≤ b) (q4 : b ≤ 4611686018427387904) (q5 : b ≠ 0) (h : ovB a b = true) (w : World) :
    Calls Try.prog 51 #[.int .i64 a, .int .i64 b] w fun e w' => e = .returned (.tuple #[.agg #[.int .i64 (lowU a b), .int .i64 (lowD a b)], .bool true]) ∧ Below w.heap.size w w' := by
  obtain ⟨i1, i2⟩ : inR (lowU a b) (-1000000000) 1000000000 = true ∧ inR (lowD a b) (-1000000000) 1000000000 = true := by simpa [ovB] using h
  clear h
  go_enter Try.func51, Try.ntmps51
  go_wp2_with fail
  obtain ⟨W, hW⟩ : ∃ W : World, W = (w.alloc (.cells #[(Value.int .i64 0), (Value.int .i64 0)] 28)) := ⟨_, rfl⟩
  have hzW : W.heap.size = w.heap.size + 1 := by rw [hW]; simp
  have hbW : Below w.heap.size w W := by rw [hW]; exact (by repeat (first | exact Below.refl _ _ | assumption | exact bel1 (by assumption) | exact bel2 (by assumption) | exact bel3 (by assumption) | exact bel4 (by assumption) | refine Below.drew ?_ | refine below_drewN ?_ _ | refine Below.setCell ?_ (by first | (simp; done) | (simp; omega)) _ | refine Below.alloc ?_ (by first | (simp; done) | (simp; omega)) _))
  have r00 := stays (p := w.heap.size) (o := 0) (by omega) (show W.cell? ⟨w.heap.size, 0, none⟩ = some ((Value.int .i64 0)) from by rw [hW]; simp [go_sem])
  have g00 := staysF (p := w.heap.size) (o := 0) (by omega) (show W.frozen? ⟨w.heap.size, 0, none⟩ = false from by rw [hW]; simp [go_sem])
  have r01 := stays (p := w.heap.size) (o := 1) (by omega) (show W.cell? ⟨w.heap.size, 1, none⟩ = some ((Value.int .i64 0)) from by rw [hW]; simp [go_sem])
  have g01 := staysF (p := w.heap.size) (o := 1) (by omega) (show W.frozen? ⟨w.heap.size, 1, none⟩ = false from by rw [hW]; simp [go_sem])
  rw [← hW]
  clear hW
  have HzW := Lib.hid hzW
  clear hzW
  refine (low_i64 _ _ q1 q2 q3 q4 q5 _).mono ?_
  rintro e w1 ⟨rfl, hb1⟩
  have hk : Below W.heap.size W w1 := hb1
  go_wp2_with (go_at_call 76; refine (part_i64 _ _).mono ?_; rintro e w1 ⟨rfl, rfl⟩)
  have hk2 := belT hbW hk
  refine bodyPost_ret (v := .tuple #[.agg #[.int .i64 (lowU a b), .int .i64 (lowD a b)], .bool true]) (by simp [results, Try.results51, go_sem, r00 _ hk, r01 _ hk]) rfl ⟨rfl, by repeat (first | exact Below.refl _ _ | assumption | exact bel1 (by assumption) | exact bel2 (by assumption) | exact bel3 (by assumption) | exact bel4 (by assumption) | refine Below.drew ?_ | refine below_drewN ?_ _ | refine Below.setCell ?_ (by first | (simp; done) | (simp; omega)) _ | refine Below.alloc ?_ (by first | (simp; done) | (simp; omega)) _)⟩

set_option maxHeartbeats 1000000 in
theorem over_no1 (a b : Int) (q1 : -4611686018427387904 ≤ a) (q2 : a ≤ 4611686018427387904) (q3 : -4611686018427387904 ≤ b) (q4 : b ≤ 4611686018427387904) (q5 : b ≠ 0) (i1 : inR (lowU a b) (-1000000000) 1000000000 = false) (w : World) :
    Calls Try.prog 51 #[.int .i64 a, .int .i64 b] w fun e w' => e = .returned (.tuple #[.agg #[.int .i64 0, .int .i64 0], .bool false]) ∧ Below w.heap.size w w' := by
  go_enter Try.func51, Try.ntmps51
  go_wp2_with fail
  obtain ⟨W, hW⟩ : ∃ W : World, W = (w.alloc (.cells #[(Value.int .i64 0), (Value.int .i64 0)] 28)) := ⟨_, rfl⟩
  have hzW : W.heap.size = w.heap.size + 1 := by rw [hW]; simp
  have hbW : Below w.heap.size w W := by rw [hW]; exact (by repeat (first | exact Below.refl _ _ | assumption | exact bel1 (by assumption) | exact bel2 (by assumption) | exact bel3 (by assumption) | exact bel4 (by assumption) | refine Below.drew ?_ | refine below_drewN ?_ _ | refine Below.setCell ?_ (by first | (simp; done) | (simp; omega)) _ | refine Below.alloc ?_ (by first | (simp; done) | (simp; omega)) _))
  have r00 := stays (p := w.heap.size) (o := 0) (by omega) (show W.cell? ⟨w.heap.size, 0, none⟩ = some ((Value.int .i64 0)) from by rw [hW]; simp [go_sem])
  have g00 := staysF (p := w.heap.size) (o := 0) (by omega) (show W.frozen? ⟨w.heap.size, 0, none⟩ = false from by rw [hW]; simp [go_sem])
  have r01 := stays (p := w.heap.size) (o := 1) (by omega) (show W.cell? ⟨w.heap.size, 1, none⟩ = some ((Value.int .i64 0)) from by rw [hW]; simp [go_sem])
  have g01 := staysF (p := w.heap.size) (o := 1) (by omega) (show W.frozen? ⟨w.heap.size, 1, none⟩ = false from by rw [hW]; simp [go_sem])
  rw [← hW]
  clear hW
  have HzW := Lib.hid hzW
  clear hzW
  refine (low_i64 _ _ q1 q2 q3 q4 q5 _).mono ?_
  rintro e w1 ⟨rfl, hb1⟩
  have hk : Below W.heap.size W w1 := hb1
  go_wp2_with (go_at_call 76; refine (part_i64 _ _).mono ?_; rintro e w1 ⟨rfl, rfl⟩)
  have hk2 := belT hbW hk
  refine bodyPost_ret (v := .tuple #[.agg #[.int .i64 0, .int .i64 0], .bool false]) (by simp [results, Try.results51, go_sem, r00 _ hk, r01 _ hk]) rfl ⟨rfl, by repeat (first | exact Below.refl _ _ | assumption | exact bel1 (by assumption) | exact bel2 (by assumption) | exact bel3 (by assumption) | exact bel4 (by assumption) | refine Below.drew ?_ | refine below_drewN ?_ _ | refine Below.setCell ?_ (by first | (simp; done) | (simp; omega)) _ | refine Below.alloc ?_ (by first | (simp; done) | (simp; omega)) _)⟩

set_option maxHeartbeats 1000000 in
theorem over_no2 (a b : Int) (q1 : -4611686018427387904 ≤ a) (q2 : a ≤ 4611686018427387904) (q3 : -4611686018427387904 ≤ b) (q4 : b ≤ 4611686018427387904) (q5 : b ≠ 0) (i1 : inR (lowU a b) (-1000000000) 1000000000 = true) (i2 : inR (lowD a b) (-1000000000) 1000000000 = false) (w : World) :
    Calls Try.prog 51 #[.int .i64 a, .int .i64 b] w fun e w' => e = .returned (.tuple #[.agg #[.int .i64 0, .int .i64 0], .bool false]) ∧ Below w.heap.size w w' := by
  go_enter Try.func51, Try.ntmps51
  go_wp2_with fail
  obtain ⟨W, hW⟩ : ∃ W : World, W = (w.alloc (.cells #[(Value.int .i64 0), (Value.int .i64 0)] 28)) := ⟨_, rfl⟩
  have hzW : W.heap.size = w.heap.size + 1 := by rw [hW]; simp
  have hbW : Below w.heap.size w W := by rw [hW]; exact (by repeat (first | exact Below.refl _ _ | assumption | exact bel1 (by assumption) | exact bel2 (by assumption) | exact bel3 (by assumption) | exact bel4 (by assumption) | refine Below.drew ?_ | refine below_drewN ?_ _ | refine Below.setCell ?_ (by first | (simp; done) | (simp; omega)) _ | refine Below.alloc ?_ (by first | (simp; done) | (simp; omega)) _))
  have r00 := stays (p := w.heap.size) (o := 0) (by omega) (show W.cell? ⟨w.heap.size, 0, none⟩ = some ((Value.int .i64 0)) from by rw [hW]; simp [go_sem])
  have g00 := staysF (p := w.heap.size) (o := 0) (by omega) (show W.frozen? ⟨w.heap.size, 0, none⟩ = false from by rw [hW]; simp [go_sem])
  have r01 := stays (p := w.heap.size) (o := 1) (by omega) (show W.cell? ⟨w.heap.size, 1, none⟩ = some ((Value.int .i64 0)) from by rw [hW]; simp [go_sem])
  have g01 := staysF (p := w.heap.size) (o := 1) (by omega) (show W.frozen? ⟨w.heap.size, 1, none⟩ = false from by rw [hW]; simp [go_sem])
  rw [← hW]
  clear hW
  have HzW := Lib.hid hzW
  clear hzW
  refine (low_i64 _ _ q1 q2 q3 q4 q5 _).mono ?_
  rintro e w1 ⟨rfl, hb1⟩
  have hk : Below W.heap.size W w1 := hb1
  go_wp2_with (go_at_call 76; refine (part_i64 _ _).mono ?_; rintro e w1 ⟨rfl, rfl⟩)
  have hk2 := belT hbW hk
  refine bodyPost_ret (v := .tuple #[.agg #[.int .i64 0, .int .i64 0], .bool false]) (by simp [results, Try.results51, go_sem, r00 _ hk, r01 _ hk]) rfl ⟨rfl, by repeat (first | exact Below.refl _ _ | assumption | exact bel1 (by assumption) | exact bel2 (by assumption) | exact bel3 (by assumption) | exact bel4 (by assumption) | refine Below.drew ?_ | refine below_drewN ?_ _ | refine Below.setCell ?_ (by first | (simp; done) | (simp; omega)) _ | refine Below.alloc ?_ (by first | (simp; done) | (simp; omega)) _)⟩

theorem over_no (a b : Int) (q1 : -4611686018427387904 ≤ a) (q2 : a ≤ 4611686018427387904) (q3 : -4611686018427387904 ≤ b) (q4 : b ≤ 4611686018427387904) (q5 : b ≠ 0) (h : ovB a b = false) (w : World) :
    Calls Try.prog 51 #[.int .i64 a, .int .i64 b] w fun e w' => e = .returned (.tuple #[.agg #[.int .i64 0, .int .i64 0], .bool false]) ∧ Below w.heap.size w w' := by
  rcases i1 : inR (lowU a b) (-1000000000) 1000000000 with _ | _
  · exact over_no1 a b q1 q2 q3 q4 q5 i1 w
  · exact over_no2 a b q1 q2 q3 q4 q5 i1 (by simpa [ovB, i1] using h) w

set_option maxHeartbeats 1000000 in
theorem less (fu fd gu gd : Int) (q6 : -4611686018427387904 ≤ fu * gd) (q7 : fu * gd ≤ 4611686018427387904) (q8 : -4611686018427387904 ≤ gu * fd) (q9 : gu * fd ≤ 4611686018427387904) (w : World) :
    Calls Try.prog 62 #[.agg #[.int .i64 fu, .int .i64 fd], .agg #[.int .i64 gu, .int .i64 gd]] w fun e w' => e = .returned (.bool (decide (fu * gd < gu * fd))) ∧ Below w.heap.size w w' := by
  go_enter Try.func62, Try.ntmps62
  go_wp2_with fail
  obtain ⟨W, hW⟩ : ∃ W : World, W = ((w.alloc (.cells #[(Value.int .i64 fu), (Value.int .i64 fd)] 28)).alloc (.cells #[(Value.int .i64 gu), (Value.int .i64 gd)] 28)) := ⟨_, rfl⟩
  have hzW : W.heap.size = w.heap.size + 2 := by rw [hW]; simp
  have hbW : Below w.heap.size w W := by rw [hW]; exact (by repeat (first | exact Below.refl _ _ | assumption | exact bel1 (by assumption) | exact bel2 (by assumption) | exact bel3 (by assumption) | exact bel4 (by assumption) | refine Below.drew ?_ | refine below_drewN ?_ _ | refine Below.setCell ?_ (by first | (simp; done) | (simp; omega)) _ | refine Below.alloc ?_ (by first | (simp; done) | (simp; omega)) _))
  have r00 := stays (p := w.heap.size) (o := 0) (by omega) (show W.cell? ⟨w.heap.size, 0, none⟩ = some ((Value.int .i64 fu)) from by rw [hW]; simp [go_sem])
  have r01 := stays (p := w.heap.size) (o := 1) (by omega) (show W.cell? ⟨w.heap.size, 1, none⟩ = some ((Value.int .i64 fd)) from by rw [hW]; simp [go_sem])
  have r10 := stays (p := w.heap.size + 1) (o := 0) (by omega) (show W.cell? ⟨w.heap.size + 1, 0, none⟩ = some ((Value.int .i64 gu)) from by rw [hW]; simp [go_sem])
  have r11 := stays (p := w.heap.size + 1) (o := 1) (by omega) (show W.cell? ⟨w.heap.size + 1, 1, none⟩ = some ((Value.int .i64 gd)) from by rw [hW]; simp [go_sem])
  rw [← hW]
  clear hW
  have HzW := Lib.hid hzW
  clear hzW
  go_region_held3 (fun w' => Below W.heap.size W w')
    (first | exact Below.refl _ _ | exact Below.drew (Below.refl _ _) | (refine Below.drew ?_; assumption) | exact belT (by assumption) (by assumption) | assumption)
    (first | (go_at_call 83; refine (crosswise _ _ _ _ (by assumption) (by assumption) _).mono ?_; rintro e w1 ⟨rfl, hb1⟩))
  go_wp2
  have hk : Below W.heap.size W w1 := by assumption
  have hk2 := belT hbW hk
  go_ret
  exact ⟨by simp, by repeat (first | exact Below.refl _ _ | assumption | exact bel1 (by assumption) | exact bel2 (by assumption) | exact bel3 (by assumption) | exact bel4 (by assumption) | refine Below.drew ?_ | refine below_drewN ?_ _ | refine Below.setCell ?_ (by first | (simp; done) | (simp; omega)) _ | refine Below.alloc ?_ (by first | (simp; done) | (simp; omega)) _)⟩

set_option maxHeartbeats 1000000 in
theorem more (fu fd gu gd : Int) (q6 : -4611686018427387904 ≤ fu * gd) (q7 : fu * gd ≤ 4611686018427387904) (q8 : -4611686018427387904 ≤ gu * fd) (q9 : gu * fd ≤ 4611686018427387904) (w : World) :
    Calls Try.prog 63 #[.agg #[.int .i64 fu, .int .i64 fd], .agg #[.int .i64 gu, .int .i64 gd]] w fun e w' => e = .returned (.bool (decide (gu * fd < fu * gd))) ∧ Below w.heap.size w w' := by
  go_enter Try.func63, Try.ntmps63
  go_wp2_with fail
  obtain ⟨W, hW⟩ : ∃ W : World, W = ((w.alloc (.cells #[(Value.int .i64 fu), (Value.int .i64 fd)] 28)).alloc (.cells #[(Value.int .i64 gu), (Value.int .i64 gd)] 28)) := ⟨_, rfl⟩
  have hzW : W.heap.size = w.heap.size + 2 := by rw [hW]; simp
  have hbW : Below w.heap.size w W := by rw [hW]; exact (by repeat (first | exact Below.refl _ _ | assumption | exact bel1 (by assumption) | exact bel2 (by assumption) | exact bel3 (by assumption) | exact bel4 (by assumption) | refine Below.drew ?_ | refine below_drewN ?_ _ | refine Below.setCell ?_ (by first | (simp; done) | (simp; omega)) _ | refine Below.alloc ?_ (by first | (simp; done) | (simp; omega)) _))
  have r00 := stays (p := w.heap.size) (o := 0) (by omega) (show W.cell? ⟨w.heap.size, 0, none⟩ = some ((Value.int .i64 fu)) from by rw [hW]; simp [go_sem])
  have r01 := stays (p := w.heap.size) (o := 1) (by omega) (show W.cell? ⟨w.heap.size, 1, none⟩ = some ((Value.int .i64 fd)) from by rw [hW]; simp [go_sem])
  have r10 := stays (p := w.heap.size + 1) (o := 0) (by omega) (show W.cell? ⟨w.heap.size + 1, 0, none⟩ = some ((Value.int .i64 gu)) from by rw [hW]; simp [go_sem])
  have r11 := stays (p := w.heap.size + 1) (o := 1) (by omega) (show W.cell? ⟨w.heap.size + 1, 1, none⟩ = some ((Value.int .i64 gd)) from by rw [hW]; simp [go_sem])
  rw [← hW]
  clear hW
  have HzW := Lib.hid hzW
  clear hzW
  refine (less _ _ _ _ q8 q9 q6 q7 _).mono ?_
  rintro e w1 ⟨rfl, hb1⟩
  have hk2 := belT hbW hb1
  go_wp2_with fail
  go_ret
  exact ⟨by simp, by repeat (first | exact Below.refl _ _ | assumption | exact bel1 (by assumption) | exact bel2 (by assumption) | exact bel3 (by assumption) | exact bel4 (by assumption) | refine Below.drew ?_ | refine below_drewN ?_ _ | refine Below.setCell ?_ (by first | (simp; done) | (simp; omega)) _ | refine Below.alloc ?_ (by first | (simp; done) | (simp; omega)) _)⟩

end Go.Proofs.Ytjojilimdhekfaa
