/- What the walk is told of a slice of tables, of a desk and of deeds that came in. -/
import Derived.Test.YtlmaeadbomnhlabDoorLiftR
import Derived.Test.YtlmaeadbomnhlabDoorQA
import Derived.Test.YtlmaeadbomnhlabDoorStrM
import Derived.Deep.Matrix
import Derived.Lib.SmallJoins
namespace Go.Proofs.YtlmaeadbomnhlabDoor
set_option linter.unusedSimpArgs false
set_option linter.unusedVariables false
open Go.RowKit Go.Joins

/-- a slice of deeds that came in -/
theorem deeds_open {H : Type} {enc : TypeId × Value → H} {P : Program} {w : World} {base : Nat} {held : Bool} {t e i : TypeId} {f0 f1 f2 f3 : Field} {fuel : Nat} {v : Value} {x : DataW H × List MemPlace} (ht : P.underlying t = some (.slice e)) (he : P.underlying e = some (.struct #[f0, f1, f2, f3]))
    (hone : Go.Deep.oneCellFields P #[f0, f1, f2, f3] = true) (hc : P.cellsOf e = 4) (hi : P.underlying i = some (.int .i64)) (t0 : f0.type = i) (t1 : f1.type = i) (t2 : f2.type = i) (t3 : f3.type = i) (h : DataW.trod enc P w base (fun _ => true) held fuel t [v] = some x) :
    ∃ (a : Option Addr) (cap : Nat) (l : List Dd), v = .slice a l.length cap ∧ l.length ≤ maxLen ∧ Deeds w (· < w.heap.size) a l := by
  rcases Go.Deep.open_slice ht h with ⟨hcs, _⟩ | ⟨a, len, cap, m, n, D, Pl, hcs, hb, hl, hm, hmm, _, hx⟩
  · simp at hcs
    exact ⟨none, 0, [], hcs, Nat.zero_le _, fun h => absurd h (by simp)⟩
  · simp only [if_true] at hmm
    subst hmm
    simp at hcs
    rw [hc] at hx
    have each : ∀ r, r < m → ∃ y : Int × Int × Int × Int, w.cell? ((a.add (r * 4)).add 0) = some (.int .i64 y.1) ∧ w.cell? ((a.add (r * 4)).add 1) = some (.int .i64 y.2.1) ∧ w.cell? ((a.add (r * 4)).add 2) = some (.int .i64 y.2.2.1) ∧ w.cell? ((a.add (r * 4)).add 3) = some (.int .i64 y.2.2.2) := fun r hr => by
      obtain ⟨cs', h1, h2⟩ := hx r hr
      obtain ⟨_, hlen, hcell⟩ := World.cells?_some h1
      match cs', hlen with
      | [c0, c1, c2, c3], _ =>
        obtain ⟨y0, y1, y2, y3, n', _, _, k0, k1, k2, k3⟩ := trod_struct4 he h2
        obtain ⟨o0, z0⟩ := Go.Deep.hone_of hone 0 f0 rfl
        obtain ⟨o1, z1⟩ := Go.Deep.hone_of hone 1 f1 rfl
        obtain ⟨o2, z2⟩ := Go.Deep.hone_of hone 2 f2 rfl
        obtain ⟨o3, z3⟩ := Go.Deep.hone_of hone 3 f3 rfl
        rw [o0, z0, t0] at k0
        rw [o1, z1, t1] at k1
        rw [o2, z2, t2] at k2
        rw [o3, z3, t3] at k3
        obtain ⟨u0, e0, _, _⟩ := DataW.trod_int hi k0
        obtain ⟨u1, e1, _, _⟩ := DataW.trod_int hi k1
        obtain ⟨u2, e2, _, _⟩ := DataW.trod_int hi k2
        obtain ⟨u3, e3, _, _⟩ := DataW.trod_int hi k3
        simp at e0 e1 e2 e3
        refine ⟨(u0, u1, u2, u3), ?_, ?_, ?_, ?_⟩
        · rw [hcell 0 (by omega)]; simp [e0]
        · rw [hcell 1 (by omega)]; simp [e1]
        · rw [hcell 2 (by omega)]; simp [e2]
        · rw [hcell 3 (by omega)]; simp [e3]
    obtain ⟨y, hy⟩ := Go.Deep.choose_lt each
    have hlen : ((List.range len).map fun r => (⟨(y r).1, (y r).2.1, (y r).2.2.1, (y r).2.2.2⟩ : Dd)).length = len := by simp
    refine ⟨some a, m, (List.range len).map fun r => (⟨(y r).1, (y r).2.1, (y r).2.2.1, (y r).2.2.2⟩ : Dd), by rw [hlen]; exact hcs, by rw [hlen]; omega, fun h0 => ?_⟩
    rw [hlen] at h0
    have hz : w.cell? (a.add 0) = some (.int .i64 (y 0).1) := by
      have := (hy 0 (by omega)).1
      simpa [Addr.add] using this
    obtain ⟨e, hb'⟩ := spot_none hz
    refine ⟨a.block, a.off, by rw [← e], hb', fun j hj => ?_⟩
    rw [hlen] at hj
    obtain ⟨h1, h2, h3, h4⟩ := hy j (by omega)
    have ht' : ddAt ((List.range len).map fun r => (⟨(y r).1, (y r).2.1, (y r).2.2.1, (y r).2.2.2⟩ : Dd)) j = ⟨(y j).1, (y j).2.1, (y j).2.2.1, (y j).2.2.2⟩ := by
      rw [ddAt_eq _ _ (by rw [hlen]; exact hj)]; simp
    rw [e, add_plain, add_plain] at h1 h2 h3 h4
    rw [ht']
    exact ⟨h1, h2, h3, h4⟩

end Go.Proofs.YtlmaeadbomnhlabDoor
