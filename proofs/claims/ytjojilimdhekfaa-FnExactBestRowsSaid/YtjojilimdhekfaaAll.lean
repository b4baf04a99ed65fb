/- One contract for each of the functions on fractions, whatever the arguments; what the laws call besides. (Written by wip/gen/exact1.py.) -/
import Derived.Test.YtjojilimdhekfaaFracE
namespace Go.Proofs.Ytjojilimdhekfaa
set_option linter.unusedSimpArgs false
set_option linter.unusedVariables false
open Go.RowKit

def ofU (u d : Int) : Int := if ofB u d = true then lowU u d else 0

def ofD (u d : Int) : Int := if ofB u d = true then lowD u d else 0

def mnU (u d : Int) : Int := if okB u d = true then -u else 0

def mnD (u d : Int) : Int := if okB u d = true then d else 0

def psB (fu fd gu gd : Int) : Bool := okB fu fd && okB gu gd && plB fu fd gu gd

def psU (fu fd gu gd : Int) : Int := if psB fu fd gu gd = true then plU fu fd gu gd else 0

def psD (fu fd gu gd : Int) : Int := if psB fu fd gu gd = true then plD fu fd gu gd else 0

theorem minus_impl (u d : Int) (w : World) :
    Calls Try.prog 26 #[.agg #[.int .i64 u, .int .i64 d]] w fun e w' => e = .returned (.agg #[.int .i64 (mnU u d), .int .i64 (mnD u d)]) ∧ Below w.heap.size w w' := by
  rcases h : okB u d with _ | _
  · have e1 : mnU u d = 0 := by simp [mnU, h]
    have e2 : mnD u d = 0 := by simp [mnD, h]
    rw [e1, e2]; exact minus_no_impl u d h w
  · have e1 : mnU u d = -u := by simp [mnU, h]
    have e2 : mnD u d = d := by simp [mnD, h]
    rw [e1, e2]; exact minus_yes_impl u d h w

theorem less_impl (fu fd gu gd : Int) (w : World) :
    Calls Try.prog 19 #[.agg #[.int .i64 fu, .int .i64 fd], .agg #[.int .i64 gu, .int .i64 gd]] w fun e w' => e = .returned (.bool (lessB fu fd gu gd)) ∧ Below w.heap.size w w' := by
  rcases h1 : okB fu fd with _ | _
  · exact less_no1_impl fu fd gu gd h1 w
  rcases h2 : okB gu gd with _ | _
  · exact less_no2_impl fu fd gu gd h1 h2 w
  · exact less_yes_impl fu fd gu gd h1 h2 w

set_option maxHeartbeats 400000 in
theorem eqFrac_same (u d : Int) (w : World) :
    Calls Try.prog 38 #[.agg #[.int .i64 u, .int .i64 d], .agg #[.int .i64 u, .int .i64 d]] w fun e w' => e = .returned (.bool true) ∧ Below w.heap.size w w' := by
  have z1 : (u != u) = false := by simp
  have z2 : (d != d) = false := by simp
  go_enter Try.func38, Try.ntmps38
  go_wp2
  go_ret
  exact ⟨rfl, by repeat (first | exact Below.refl _ _ | assumption | exact bel1 (by assumption) | exact bel2 (by assumption) | exact bel3 (by assumption) | exact bel4 (by assumption) | refine Below.drew ?_ | refine below_drewN ?_ _ | refine Below.setCell ?_ (by first | (simp; done) | (simp; omega)) _ | refine Below.alloc ?_ (by first | (simp; done) | (simp; omega)) _)⟩

set_option maxHeartbeats 400000 in
theorem alive (w : World) :
    Calls Try.prog 16 #[] w fun e w' => e = .returned (.bool true) ∧ Below w.heap.size w w' := by
  have k1 : okB 1 2 = true := by decide
  have k2 : okB 2 2 = false := by decide
  go_enter Try.func16, Try.ntmps16
  go_wp2_with fail
  refine (fracOk_impl_v _ _ _ k1 _).mono ?_
  rintro e w1 ⟨rfl, hb1⟩
  go_wp2_with fail
  refine (fracOk_impl_v _ _ _ k2 _).mono ?_
  rintro e w2 ⟨rfl, hb2⟩
  have hk := belT hb1 hb2
  go_wp2_with fail
  go_ret
  exact ⟨rfl, by repeat (first | exact Below.refl _ _ | assumption | exact bel1 (by assumption) | exact bel2 (by assumption) | exact bel3 (by assumption) | exact bel4 (by assumption) | refine Below.drew ?_ | refine below_drewN ?_ _ | refine Below.setCell ?_ (by first | (simp; done) | (simp; omega)) _ | refine Below.alloc ?_ (by first | (simp; done) | (simp; omega)) _)⟩

end Go.Proofs.Ytjojilimdhekfaa
