/- One contract for each of the functions on fractions, whatever the arguments; what the laws call besides. (Written by wip/gen/exact1.py.) -/
import Derived.Test.YtaphlhdkdokopaaFracE
namespace Go.Proofs.Ytaphlhdkdokopaa
set_option linter.unusedSimpArgs false
set_option linter.unusedVariables false
open Go.RowKit

def ofU (u d : Int) : Int := if ofB u d = true then lowU u d else 0

def ofD (u d : Int) : Int := if ofB u d = true then lowD u d else 0

def mnU (u d : Int) : Int := if okB u d = true then -u else 0

def mnD (u d : Int) : Int := if okB u d = true then d else 0

def psB (fu fd gu gd : Int) : Bool := okB fu fd && okB gu gd && plB fu fd gu gd

def psU (fu fd gu gd : Int) : Int := if psB fu fd gu gd = true then plU fu fd gu gd else 0

def psD (fu fd gu gd : Int) : Int := if psB fu fd gu gd = true then plD fu fd gu gd else 0

set_option maxHeartbeats 400000 in
theorem alive (w : World) :
    Calls Try.prog 16 #[] w fun e w' => e = .returned (.bool true) ∧ Below w.heap.size w w' := by
  have k1 : okB 1 2 = true := by decide
  have k2 : okB 2 2 = false := by decide
  go_enter Try.func16, Try.ntmps16
  go_wp2_with fail
  refine (fracOk_impl_v _ _ _ k1 _).mono ?_
  rintro e w1 ⟨rfl, hb1⟩
  go_wp2_with fail
  refine (fracOk_impl_v _ _ _ k2 _).mono ?_
  rintro e w2 ⟨rfl, hb2⟩
  have hk := belT hb1 hb2
  go_wp2_with fail
  go_ret
  exact ⟨rfl, by repeat (first | exact Below.refl _ _ | assumption | exact bel1 (by assumption) | exact bel2 (by assumption) | exact bel3 (by assumption) | exact bel4 (by assumption) | refine Below.drew ?_ | refine below_drewN ?_ _ | refine Below.setCell ?_ (by first | (simp; done) | (simp; omega)) _ | refine Below.alloc ?_ (by first | (simp; done) | (simp; omega)) _)⟩

end Go.Proofs.Ytaphlhdkdokopaa
