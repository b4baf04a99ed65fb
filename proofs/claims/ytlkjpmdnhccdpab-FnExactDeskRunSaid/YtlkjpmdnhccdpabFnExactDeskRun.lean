/- FnExactDeskRun returns true for every input that can be read, and its arguments read afterwards as they read before. No condition beside the row's own. (Written by wip/gen/lift.py.) -/
import Derived.Test.YtlkjpmdnhccdpabRows
import Derived.Test.YtlkjpmdnhccdpabQK
import Derived.Test.YtlkjpmdnhccdpabQM
import Derived.Test.YtlkjpmdnhccdpabLiftP
import Derived.WalkKit
import Derived.ProofKit
import Derived.OpenShut
import Derived.ShutString
import Derived.ChangeOld
import Derived.Below
import Derived.Lib.SmallJoins
namespace Go.Proofs.Ytlkjpmdnhccdpab
set_option linter.unusedSimpArgs false
set_option linter.unusedVariables false
open Go.ChangeShapes Go.WideShapes Go.ChangeAt Go.RowKit Go.Joins
open Go.ChangeMaps (open_string shut_string)

set_option maxRecDepth 100000 in
theorem fnExactDeskRun_lifted (os : Os) (started : os.Started) (H : Type) (enc : TypeId × Value → H) :
    ReturnsInHanded {} Try.checked os 3 .any (Rows.fnExactDeskRunSpec.pre6 enc Try.prog Try.f3 Rows.fnExactDeskRunRow.domain false) (Rows.fnExactDeskRunSpec.post enc Try.prog Try.f3 false true false false) := by
  refine returnsInHanded_of_change (C := Try.checked) own started (by kernel_rfl) Try.func3
    (ChangeSpec.witness6 (enc := enc) (C := Try.checked) false ⟨#[], #[.agg #[.slice none 0 0, .slice none 0 0], .slice none 0 0], []⟩ 8 (by kernel_rfl) (by kernel_rfl) (by kernel_rfl) (by kernel_rfl)) ?_
  intro W base args ds gs before hval0 hW _hcnd _
  have hval : ∀ (j : Nat) t v, Try.f3.params[j]? = some t → args[j]? = some v → Value.okWide Try.prog W .any base t v := hval0
  have hW' := hW
  obtain ⟨p, q, hA0, hV, rfl, hfz, hnd⟩ := hW
  have hA : DataW.TrodAll enc Try.prog W 0 (fun _ => true) true Try.f3.params.toList args.toList ds p := hA0
  rw [Try.params3] at hA hval
  obtain ⟨v0, vs0, d0, ds0, p0, q0, hargs, rfl, rfl, h0, r0⟩ := trodAll_cons hA
  obtain ⟨v1, vs1, d1, ds1, p1, q1, rfl, rfl, rfl, h1, r1⟩ := trodAll_cons r0
  obtain ⟨rfl, rfl, rfl⟩ := trodAll_nil r1
  obtain rfl : args = #[v0, v1] := by cases args; simp_all
  obtain ⟨rfl, rfl⟩ := trodVars_none hV
  have k0 := h0
  have lt0 : ∀ x ∈ p0, x.block < W.heap.size := by obtain ⟨m, hm⟩ := k0; exact DataW.trod_lt m _ _ _ hm
  obtain ⟨c0, e0, y0, z0, m0, rfl, _, _, hy0, hz0⟩ := open_agg2 Try.underlying25 (by kernel_rfl) (show Try.prog.cellsOf 25 = 2 by kernel_rfl) (hval 0 25 v0 rfl rfl) h0
  obtain ⟨a0, n0, g0, rfl, l0, u0, w0⟩ := rows_open Try.underlying22 Try.underlying61 Try.underlying3 (by kernel_rfl) (by kernel_rfl) hy0
  obtain ⟨b0, o0, t0, rfl, s0, x0, j0⟩ := tabs_open Try.underlying23 Try.underlying22 Try.underlying61 Try.underlying3 (by kernel_rfl) (by kernel_rfl) (by kernel_rfl) hz0
  have k1 := h1
  have lt1 : ∀ x ∈ p1, x.block < W.heap.size := by obtain ⟨m, hm⟩ := k1; exact DataW.trod_lt m _ _ _ hm
  obtain ⟨a1, len1, cap1, rfl⟩ := okWide_slice Try.underlying26 (hval 1 26 v1 rfl rfl)
  obtain ⟨l1, rfl, m1, w1⟩ : ∃ l : List Dd, l.length = len1 ∧ l.length ≤ maxLen ∧ Deeds W (· < W.heap.size) a1 l := by
    obtain ⟨fuel, hf⟩ := h1
    obtain ⟨a', c', l, e, m, w⟩ := deeds_open (v := .slice a1 len1 cap1) Try.underlying26 Try.underlying55 (by kernel_rfl) (by kernel_rfl) Try.underlying3 rfl rfl rfl rfl (by simpa [Value.cells] using hf)
    injection e with e1 e2 e3
    subst e1
    exact ⟨l, e2.symm, m, w⟩
  clear hA0 hval0
  refine (wFnExactDeskRun impl12R a0 b0 a1 n0 o0 cap1 ⟨g0, t0⟩ l1 (by show g0.length ≤ _; omega) (by show t0.length ≤ _; omega) m1 W w0 j0 w1).mono fun e W' ⟨he, bel⟩ => ?_
  subst he
  exact ⟨_, rfl, _, _, _, [], _, [], hW', trodAll_mk1 (shut_bool Try.underlying4 _), (trodAll_cons_mk (Below.trod laidOut (by kernel_rfl) (of_decide_eq_true (by kernel_rfl)) k0 bel lt0) (trodAll_cons_mk (Below.trod laidOut (by kernel_rfl) (of_decide_eq_true (by kernel_rfl)) k1 bel lt1) trodAll_mk0)), rfl, bel.frame _, fun h => by cases h⟩

/-- FnExactDeskRun: the call returns true for every input, and each argument reads afterwards as it read before -/
theorem fnExactDeskRun_holds : Rows.FnExactDeskRunSaid :=
  OpenClaim.holds_of_wide 3 Try.f3 rfl rfl rfl rfl rfl rfl rfl ⟨rfl, rfl, rfl, rfl, rfl⟩ rfl rfl rfl rfl rfl (by kernel_rfl) Try.func3 (by kernel_rfl)
    (of_decide_eq_true (by kernel_rfl)) (by unfold Func.isWrapper; first | (rw [if_pos (by decide +kernel)]; kernel_rfl) | (rw [if_neg (by decide +kernel)]; exact ⟨rfl, rfl⟩))
    (fun os started H enc _ => fnExactDeskRun_lifted os started H enc)

end Go.Proofs.Ytlkjpmdnhccdpab
