/- FnExactDeskDo returns true for every input that can be read, and its arguments read afterwards as they read before. No condition beside the row's own. (Written by wip/gen/lift.py.) -/
import Derived.Test.YtlkjpmdnhccdpaaRows
import Derived.Test.YtlkjpmdnhccdpaaExactJf
import Derived.Test.YtlkjpmdnhccdpaaQL
import Derived.Test.YtlkjpmdnhccdpaaLiftP
import Derived.WalkKit
import Derived.ProofKit
import Derived.OpenShut
import Derived.ShutString
import Derived.ChangeOld
import Derived.Below
import Derived.Lib.SmallJoins
namespace Go.Proofs.Ytlkjpmdnhccdpaa
set_option linter.unusedSimpArgs false
set_option linter.unusedVariables false
open Go.ChangeShapes Go.WideShapes Go.ChangeAt Go.RowKit Go.Joins
open Go.ChangeMaps (open_string shut_string)

set_option maxRecDepth 100000 in
theorem fnExactDeskDo_lifted (os : Os) (started : os.Started) (H : Type) (enc : TypeId × Value → H) :
    ReturnsInHanded {} Try.checked os 7 .any (Rows.fnExactDeskDoSpec.pre6 enc Try.prog Try.f7 Rows.fnExactDeskDoRow.domain false) (Rows.fnExactDeskDoSpec.post enc Try.prog Try.f7 false true false false) := by
  refine returnsInHanded_of_change (C := Try.checked) own started (by kernel_rfl) Try.func7
    (ChangeSpec.witness6 (enc := enc) (C := Try.checked) false ⟨#[], #[.agg #[.slice none 0 0, .slice none 0 0], .agg #[.int .i64 0, .int .i64 0, .int .i64 0, .int .i64 0]], []⟩ 8 (by kernel_rfl) (by kernel_rfl) (by kernel_rfl) (by kernel_rfl)) ?_
  intro W base args ds gs before hval0 hW _hcnd _
  have hval : ∀ (j : Nat) t v, Try.f7.params[j]? = some t → args[j]? = some v → Value.okWide Try.prog W .any base t v := hval0
  have hW' := hW
  obtain ⟨p, q, hA0, hV, rfl, hfz, hnd⟩ := hW
  have hA : DataW.TrodAll enc Try.prog W 0 (fun _ => true) true Try.f7.params.toList args.toList ds p := hA0
  rw [Try.params7] at hA hval
  obtain ⟨v0, vs0, d0, ds0, p0, q0, hargs, rfl, rfl, h0, r0⟩ := trodAll_cons hA
  obtain ⟨v1, vs1, d1, ds1, p1, q1, rfl, rfl, rfl, h1, r1⟩ := trodAll_cons r0
  obtain ⟨rfl, rfl, rfl⟩ := trodAll_nil r1
  obtain rfl : args = #[v0, v1] := by cases args; simp_all
  obtain ⟨rfl, rfl⟩ := trodVars_none hV
  have k0 := h0
  have lt0 : ∀ x ∈ p0, x.block < W.heap.size := by obtain ⟨m, hm⟩ := k0; exact DataW.trod_lt m _ _ _ hm
  obtain ⟨c0, e0, y0, z0, m0, rfl, _, _, hy0, hz0⟩ := open_agg2 Try.underlying49 (by kernel_rfl) (show Try.prog.cellsOf 49 = 2 by kernel_rfl) (hval 0 49 v0 rfl rfl) h0
  obtain ⟨a0, n0, g0, rfl, l0, u0, w0⟩ := rows_open Try.underlying23 Try.underlying40 Try.underlying3 (by kernel_rfl) (by kernel_rfl) hy0
  obtain ⟨b0, o0, t0, rfl, s0, x0, j0⟩ := tabs_open Try.underlying24 Try.underlying23 Try.underlying40 Try.underlying3 (by kernel_rfl) (by kernel_rfl) (by kernel_rfl) hz0
  have k1 := h1
  have lt1 : ∀ x ∈ p1, x.block < W.heap.size := by obtain ⟨m, hm⟩ := k1; exact DataW.trod_lt m _ _ _ hm
  obtain ⟨c1, e1, f1, g1, y1, z1, x1, u1, m1, rfl, _, _, hy1, hz1, hx1, hu1⟩ := open_agg4 Try.underlying51 (by kernel_rfl) (show Try.prog.cellsOf 51 = 4 by kernel_rfl) (hval 1 51 v1 rfl rfl) h1
  obtain ⟨a1, i1, _, _⟩ := DataW.trod_int Try.underlying3 hy1
  obtain ⟨b1, j1, _, _⟩ := DataW.trod_int Try.underlying3 hz1
  obtain ⟨n1, o1, _, _⟩ := DataW.trod_int Try.underlying3 hx1
  obtain ⟨s1, t1, _, _⟩ := DataW.trod_int Try.underlying3 hu1
  simp at i1 j1 o1 t1
  subst i1 j1 o1 t1
  clear hA0 hval0
  refine (wFnExactDeskDo impl12D a0 b0 n0 o0 ⟨g0, t0⟩ ⟨a1, b1, n1, s1⟩ (by show g0.length ≤ _; omega) (by show t0.length ≤ _; omega) W w0 j0).mono fun e W' ⟨he, bel⟩ => ?_
  subst he
  exact ⟨_, rfl, _, _, _, [], _, [], hW', trodAll_mk1 (shut_bool Try.underlying4 _), (trodAll_cons_mk (Below.trod laidOut (by kernel_rfl) (of_decide_eq_true (by kernel_rfl)) k0 bel lt0) (trodAll_cons_mk (Below.trod laidOut (by kernel_rfl) (of_decide_eq_true (by kernel_rfl)) k1 bel lt1) trodAll_mk0)), rfl, bel.frame _, fun h => by cases h⟩

/-- FnExactDeskDo: the call returns true for every input, and each argument reads afterwards as it read before -/
theorem fnExactDeskDo_holds : Rows.FnExactDeskDoSaid :=
  OpenClaim.holds_of_wide 7 Try.f7 rfl rfl rfl rfl rfl rfl rfl ⟨rfl, rfl, rfl, rfl, rfl⟩ rfl rfl rfl rfl rfl (by kernel_rfl) Try.func7 (by kernel_rfl)
    (of_decide_eq_true (by kernel_rfl)) (by unfold Func.isWrapper; first | (rw [if_pos (by decide +kernel)]; kernel_rfl) | (rw [if_neg (by decide +kernel)]; exact ⟨rfl, rfl⟩))
    (fun os started H enc _ => fnExactDeskDo_lifted os started H enc)

end Go.Proofs.Ytlkjpmdnhccdpaa
