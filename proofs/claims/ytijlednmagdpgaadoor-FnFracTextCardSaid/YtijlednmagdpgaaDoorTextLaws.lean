/- The walks of the laws on texts of fractions. -/
import Derived.Test.YtijlednmagdpgaaDoorText
namespace Go.Proofs.YtijlednmagdpgaaDoor
set_option linter.unusedSimpArgs false
set_option linter.unusedVariables false
open Go.RowKit

theorem tab_on {w w1 : World} (h : Lib.TabIs Tryd.prog w "internal/strconv.uint64pow10" .u64 Lib.pow10Tab) (hb : Below w.heap.size w w1) : Lib.TabIs Tryd.prog w1 "internal/strconv.uint64pow10" .u64 Lib.pow10Tab :=
  Joins.tab_stays (show Tryd.prog.globalNamed "internal/strconv.uint64pow10" = some 0 by kernel_rfl) h hb (Nat.le_refl _)

set_option maxHeartbeats 1000000 in
theorem wFnExactFracText (u d : Int) (w : World) (htab : Lib.TabIs Tryd.prog w "internal/strconv.uint64pow10" .u64 Lib.pow10Tab) :
    Calls Tryd.prog 4 #[.agg #[.int .i64 u, .int .i64 d]] w fun e w' => e = .returned (.bool true) ∧ Below w.heap.size w w' := by
  have T0 := Lib.hid htab
  clear htab
  go_enter Tryd.func4, Tryd.ntmps4
  go_wp2_with fail
  obtain ⟨W, hW⟩ : ∃ W : World, W = (w.alloc (.cells #[.int .i64 u, .int .i64 d] 30)) := ⟨_, rfl⟩
  have hz : W.heap.size = w.heap.size + 1 := by rw [hW]; simp
  have hbW : Below w.heap.size w W := by rw [hW]; exact (by repeat (first | exact Below.refl _ _ | assumption | exact bel1 (by assumption) | exact bel2 (by assumption) | exact bel3 (by assumption) | exact bel4 (by assumption) | refine Below.drew ?_ | refine below_drewN ?_ _ | refine Below.setCell ?_ (by first | (simp; done) | (simp; omega)) _ | refine Below.alloc ?_ (by first | (simp; done) | (simp; omega)) _))
  have r0 := stays (p := w.heap.size) (o := 0) (by omega) (show W.cell? ⟨w.heap.size, 0, none⟩ = some (.int .i64 u) from by rw [hW]; simp [go_sem])
  have r1 := stays (p := w.heap.size) (o := 1) (by omega) (show W.cell? ⟨w.heap.size, 1, none⟩ = some (.int .i64 d) from by rw [hW]; simp [go_sem])
  rw [← hW]
  clear hW
  have Hz := Lib.hid hz
  clear hz
  have TW := Lib.hid (tab_on T0.out hbW)
  refine (toFrac _ _ _).mono ?_
  rintro e w1 ⟨rfl, hb1⟩
  go_wp2_with fail
  refine (text_spec _ _ _).mono ?_
  rintro e w2 ⟨rfl, hb2⟩
  have k2 := belT hb1 hb2
  go_wp2_with fail
  refine (toFrac _ _ _).mono ?_
  rintro e w3 ⟨rfl, hb3⟩
  have k3 := belT k2 hb3
  have T3 := tab_on TW.out k3
  go_wp2_with fail
  refine (text_impl _ _ _ T3).mono ?_
  rintro e w4 ⟨rfl, hb4⟩
  have k4 := belT hbW (belT k3 hb4)
  clear T3
  go_wp2_with fail
  go_ret
  exact ⟨rfl, k4⟩
end Go.Proofs.YtijlednmagdpgaaDoor
