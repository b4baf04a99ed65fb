/- append of a list to a list of the call's own. -/
import Derived.Lib.AppendZeros
import Derived.Test.YtlkjpmdnhccdpabMC
import Derived.Test.YtlkjpmdnhccdpabMQ
namespace Go.Proofs.Ytlkjpmdnhccdpab
set_option linter.unusedSimpArgs false
set_option linter.unusedVariables false
open Go.RowKit

theorem grows_cap {w : World} {base b n cap : Nat} {l : List Int} (h : Grows w base (.slice (some ⟨b, 0, none⟩) n cap) l) : n ≤ cap ∧ l.length = n := by
  obtain ⟨A, c, e, hc, _⟩ := h.own
  injection e with e1 e2 e3
  omega

theorem grows_one (w : World) {base : Nat} (hb : base ≤ w.heap.size) (x : Int) : Grows (w.alloc (.cells #[.int .i64 x] 3)) base (.slice (some ⟨w.heap.size, 0, none⟩) 1 1) [x] :=
  ⟨rfl, .inr ⟨w.heap.size, 1, #[.int .i64 x], rfl, hb, by unfold World.alloc; simp, Nat.le_refl _, by unfold maxLen; omega, rfl, rfl⟩⟩

/-- append of a list to a list of the call's own, whatever the list -/
theorem run_append_list (ty : TypeId) (base b n cap : Nat) (l F : List Int) (w : World) (hg : Grows w base (.slice (some ⟨b, 0, none⟩) n cap) l) (S : Nat → Prop) (Ax : Option Addr) (m c2 : Nat) (hm : F.length = m) (hI : Ints w S Ax F) (hlen : n + m ≤ 1000000) (hbase : base ≤ w.heap.size) :
    ∃ b' cap' w', (Builtin.append_ #[61, 61] ty #[.slice (some ⟨b, 0, none⟩) n cap, .slice Ax m c2]).run Try.prog w = .ok (.slice (some ⟨b', 0, none⟩) (n + m) cap') w' ∧ Grows w' base (.slice (some ⟨b', 0, none⟩) (n + m) cap') (l ++ F) ∧ w.grownBy w' (some b) := by
  obtain ⟨i0, hi0, hz0, hz1, hz2⟩ := info_parts infoI
  obtain ⟨hcap, hln⟩ := grows_cap hg
  cases Ax with
  | none =>
    have h0 : F.length = 0 := by
      rcases Nat.eq_zero_or_pos F.length with e | e
      · exact e
      · obtain ⟨_, _, e', _⟩ := hI e; cases e'
    have hF : F = [] := List.eq_nil_of_length_eq_zero h0
    subst hF
    have hm0 : m = 0 := by rw [← hm]; rfl
    subst hm0
    refine ⟨b, cap, w, ?_, by simpa using hg, World.grownBy.refl w _⟩
    simp [Builtin.append_, run_underlying Try.underlying61, sizeOf, typeInfo, hi0, Builtin.lenOf, Builtin.firstCells, loadCells, loadCellsFrom, storeCells, hcap]
  | some ad =>
    have hnews : ∀ j u, (vals F)[j]? = some u → w.cell? (ad.add j) = some u := by
      rcases Nat.eq_zero_or_pos F.length with e | e
      · intro j u hj
        have : F = [] := List.eq_nil_of_length_eq_zero e
        subst this; simp [vals] at hj
      · obtain ⟨b', off, e', hS, hc⟩ := hI e
        injection e' with e'; subst e'
        exact news_of hc
    have hg' : w.ownsRow base 3 1 (.slice (some ⟨b, 0, none⟩) n cap) n (vals l) := by rw [← hln]; rw [← hln] at hg; exact hg
    obtain ⟨v', w', hr, h2, h3, h4, _⟩ := run_append_own_at (P := Try.prog) w base 61 ty 3 i0 (.int .i64 0) 1 8 Try.underlying61 hi0 hz0 hz1 hz2 rfl (by decide) _ n (vals l) hg' ad m c2 (vals F) (by rw [vals_length]; omega) hnews vals_one (by unfold maxLen; omega) (by omega) hbase
    have hg6 : Grows w' base v' (l ++ F) := by
      show World.ownsRow _ _ _ _ _ _ _
      rw [List.length_append, hln, hm, show vals (l ++ F) = vals l ++ vals F from by simp [vals]]
      exact h2
    obtain ⟨k1, ⟨k2, k3⟩ | ⟨g, cp, cur, k2, k3⟩⟩ := h2
    · have := h4.1 k2; cases this.1
    · subst k2
      exact ⟨g, cp, w', hr, hg6, h3⟩

end Go.Proofs.Ytlkjpmdnhccdpab
