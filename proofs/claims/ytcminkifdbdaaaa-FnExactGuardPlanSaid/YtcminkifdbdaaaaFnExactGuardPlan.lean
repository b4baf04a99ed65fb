/- FnExactGuardPlan returns true for every input that can be read, and its arguments read afterwards as they read before. No condition beside the row's own. (Written by wip/gen/lift.py.) -/
import Derived.Test.YtcminkifdbdaaaaRows
import Derived.Test.YtcminkifdbdaaaaNF
import Derived.Test.YtcminkifdbdaaaaImpl9
import Derived.Test.YtcminkifdbdaaaaLiftW
import Derived.WalkKit
import Derived.ProofKit
import Derived.OpenShut
import Derived.ShutString
import Derived.ChangeOld
import Derived.Below
import Derived.Lib.SmallJoins
namespace Go.Proofs.Ytcminkifdbdaaaa
set_option linter.unusedSimpArgs false
set_option linter.unusedVariables false
open Go.ChangeShapes Go.WideShapes Go.ChangeAt Go.RowKit Go.Joins
open Go.ChangeMaps (open_string shut_string)

set_option maxRecDepth 100000 in
theorem fnExactGuardPlan_lifted (os : Os) (started : os.Started) (H : Type) (enc : TypeId × Value → H) :
    ReturnsInHanded {} Try.checked os 14 .any (Rows.fnExactGuardPlanSpec.pre6 enc Try.prog Try.f14 Rows.fnExactGuardPlanRow.domain false) (Rows.fnExactGuardPlanSpec.post enc Try.prog Try.f14 false true false false) := by
  refine returnsInHanded_of_change (C := Try.checked) own started (by kernel_rfl) Try.func14
    (ChangeSpec.witness6 (enc := enc) (C := Try.checked) false ⟨#[], #[.agg #[.int .i64 0, .slice none 0 0]], []⟩ 8 (by kernel_rfl) (by kernel_rfl) (by kernel_rfl) (by kernel_rfl)) ?_
  intro W base args ds gs before hval0 hW _hcnd _
  have hval : ∀ (j : Nat) t v, Try.f14.params[j]? = some t → args[j]? = some v → Value.okWide Try.prog W .any base t v := hval0
  have hW' := hW
  obtain ⟨p, q, hA0, hV, rfl, hfz, hnd⟩ := hW
  have hA : DataW.TrodAll enc Try.prog W 0 (fun _ => true) true Try.f14.params.toList args.toList ds p := hA0
  rw [Try.params14] at hA hval
  obtain ⟨v0, vs0, d0, ds0, p0, q0, hargs, rfl, rfl, h0, r0⟩ := trodAll_cons hA
  obtain ⟨rfl, rfl, rfl⟩ := trodAll_nil r0
  obtain rfl : args = #[v0] := by cases args; simp_all
  obtain ⟨rfl, rfl⟩ := trodVars_none hV
  have k0 := h0
  have lt0 : ∀ x ∈ p0, x.block < W.heap.size := by obtain ⟨m, hm⟩ := k0; exact DataW.trod_lt m _ _ _ hm
  obtain ⟨c0, e0, y0, z0, m0, rfl, _, _, hy0, hz0⟩ := open_agg2 Try.underlying44 (by kernel_rfl) (show Try.prog.cellsOf 44 = 2 by kernel_rfl) (hval 0 44 v0 rfl rfl) h0
  obtain ⟨a0, i0, _, wa0⟩ := DataW.trod_int Try.underlying3 hy0
  simp at i0
  subst i0
  obtain ⟨b0, cap0, g0, l0, u0, rfl, w0⟩ : ∃ (b : Option Addr) (cap : Nat) (g : List Int), g.length ≤ maxLen ∧ WfL g ∧ e0 = .slice b g.length cap ∧ Ints W (· < W.heap.size) b g := by
    rcases open_ints Try.underlying23 Try.underlying3 (by kernel_rfl) hz0 with ⟨hcs, _⟩ | ⟨x, l, c, zs, hcs, _, hl, hm, hz, _, hcell, hwz⟩
    · simp at hcs
      subst hcs
      exact ⟨none, 0, [], Nat.zero_le _, (fun z hz => by cases hz), rfl, fun h => absurd h (by simp)⟩
    · simp at hcs
      subst hcs
      obtain ⟨g, hg, hm2, hu, hI⟩ := wints_of hl hm (by simpa using hz) hcell hwz
      subst hg
      exact ⟨_, _, g, hm2, hu, rfl, hI⟩
  clear hA0 hval0
  refine (wFnExactGuardPlan impl9 a0 wa0 b0 cap0 g0 l0 u0 W w0).mono fun e W' ⟨he, bel⟩ => ?_
  subst he
  exact ⟨_, rfl, _, _, _, [], _, [], hW', trodAll_mk1 (shut_bool Try.underlying4 _), (trodAll_cons_mk (Below.trod laidOut (by kernel_rfl) (of_decide_eq_true (by kernel_rfl)) k0 bel lt0) trodAll_mk0), rfl, bel.frame _, fun h => by cases h⟩

/-- FnExactGuardPlan: the call returns true for every input, and each argument reads afterwards as it read before -/
theorem fnExactGuardPlan_holds : Rows.FnExactGuardPlanSaid :=
  OpenClaim.holds_of_wide 14 Try.f14 rfl rfl rfl rfl rfl rfl rfl ⟨rfl, rfl, rfl, rfl, rfl⟩ rfl rfl rfl rfl rfl (by kernel_rfl) Try.func14 (by kernel_rfl)
    (of_decide_eq_true (by kernel_rfl)) (by unfold Func.isWrapper; first | (rw [if_pos (by decide +kernel)]; kernel_rfl) | (rw [if_neg (by decide +kernel)]; exact ⟨rfl, rfl⟩))
    (fun os started H enc _ => fnExactGuardPlan_lifted os started H enc)

end Go.Proofs.Ytcminkifdbdaaaa
