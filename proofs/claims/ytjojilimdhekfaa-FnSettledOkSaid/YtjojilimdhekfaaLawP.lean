/- Lists that grow by append and are then written; weights from 1 to 5. -/
import Derived.Test.YtjojilimdhekfaaOwn
import Derived.Test.YtjojilimdhekfaaMone
import Derived.Laws.OwnMore
namespace Go.Proofs.Ytjojilimdhekfaa
set_option linter.unusedSimpArgs false
set_option linter.unusedVariables false
open Go.RowKit

theorem Grows.form {w : World} {base : Nat} {v : Value} {l : List Int} (h : Grows w base v l) (h0 : 0 < l.length) : ∃ g cap, v = .slice (some ⟨g, 0, none⟩) l.length cap ∧ base ≤ g ∧ g < w.heap.size := by
  obtain ⟨h1, ⟨rfl, h2⟩ | ⟨b, cap, cur, rfl, h3, h4, _⟩⟩ := h
  · omega
  · obtain ⟨hlt, _⟩ := Array.getElem?_eq_some_iff.1 h4
    exact ⟨b, cap, rfl, h3, hlt⟩

theorem vals_setAt (l : List Int) (k : Nat) (y : Int) : vals (l.set k y) = (vals l).set k (.int .i64 y) := by simp [vals, List.map_set]

theorem Grows.store {w : World} {base g cap : Nat} {l : List Int} (h : Grows w base (.slice (some ⟨g, 0, none⟩) l.length cap) l) (k : Nat) (y : Int) : Grows (w.setCell ⟨g, k, none⟩ (.int .i64 y)) base (.slice (some ⟨g, 0, none⟩) l.length cap) (l.set k y) := by
  have := (World.ownsRow.stored h k (.int .i64 y)).1
  unfold Grows
  rw [List.length_set, vals_setAt]; exact this

theorem Grows.cellAt {w : World} {base g cap : Nat} {l : List Int} (h : Grows w base (.slice (some ⟨g, 0, none⟩) l.length cap) l) (k : Nat) (hk : k < l.length) : w.cell? ⟨g, k, none⟩ = some (.int .i64 (nth l k)) := by
  rw [World.ownsRow.cellAt h k (by omega)]; exact vals_get l k hk

/-- weights from 1 to 5 -/
def Small (l : List Int) : Prop := ∀ i, i < l.length → 1 ≤ nth l i ∧ nth l i ≤ 5

theorem Small.nil : Small [] := fun i hi => by simp at hi

theorem Small.snoc {l : List Int} (h : Small l) {y : Int} (h1 : 1 ≤ y) (h2 : y ≤ 5) : Small (l ++ [y]) := fun i hi => by
  rw [nth_eq _ _ hi]
  by_cases e : i < l.length
  · rw [List.getElem_append_left e, ← nth_eq l i e]; exact h i e
  · rw [List.getElem_append_right (by omega)]; simp [h1, h2]

theorem Small.set {l : List Int} (h : Small l) {y : Int} (k : Nat) (h1 : 1 ≤ y) (h2 : y ≤ 5) : Small (l.set k y) := fun i hi => by
  have hi' : i < l.length := by simpa using hi
  rw [nth_eq _ _ hi, List.getElem_set]
  split
  · exact ⟨h1, h2⟩
  · rw [← nth_eq l i hi']; exact h i hi'

theorem Small.mix {l : List Int} (h : Small l) (h1 : 1 ≤ l.length) (h2 : l.length ≤ 16) : Mix l l.length := by
  have p : ∀ k, k ≤ l.length → (k : Int) ≤ sumW l k := fun k => by
    induction k with
    | zero => intro _; simp [sumW]
    | succ k ih => intro hk; have := ih (by omega); have := (h k (by omega)).1; simp only [sumW]; omega
  have := p l.length (Nat.le_refl _)
  exact ⟨rfl, h1, h2, fun i hi => by have := (h i hi).1; omega, fun i hi => by have := (h i hi).2; omega, by omega⟩

theorem byte_at {w : World} {a : Option Addr} {len cap : Nat} {zs : List Int} (h : IsRow .u8 w a len cap zs) {k : Nat} (hk : k < len) : ∃ x z, a = some x ∧ w.cell? (x.add k) = some (.int .u8 z) ∧ 0 ≤ z ∧ z ≤ 255 := by
  rcases h with ⟨_, rfl, _, _⟩ | ⟨x, h1, h2, _, h4, h5, h6⟩
  · omega
  · have hkz : k < zs.length := by omega
    refine ⟨x, zs.getD k 0, h1, h5 k hkz, ?_⟩
    have := h6 (zs.getD k 0) (by rw [List.getD_eq_getElem?_getD, List.getElem?_eq_getElem hkz]; exact List.getElem_mem hkz)
    simpa [Lit.wf, IntKind.min, IntKind.max, IntKind.signed, IntKind.bits] using this

theorem Grows.form2 {w : World} {base n : Nat} {v : Value} {l : List Int} (h : Grows w base v l) (hn : l.length = n) (h0 : 0 < n) : ∃ g cap, v = .slice (some ⟨g, 0, none⟩) n cap ∧ base ≤ g ∧ g < w.heap.size := by
  subst hn; exact h.form h0

/-- two lists that grow side by side, in blocks of their own -/
structure TwoL (W0 wr : World) (p q : Value) (l m : List Int) : Prop where
  bel : Below W0.heap.size W0 wr
  one : Grows wr W0.heap.size p l
  two : Grows wr W0.heap.size q m
  ne : p.ownBlock ≠ q.ownBlock

theorem TwoL.swap {W0 wr : World} {p q : Value} {l m : List Int} (s : TwoL W0 wr p q l m) : TwoL W0 wr q p m l := ⟨s.bel, s.two, s.one, fun e => s.ne e.symm⟩

theorem TwoL.push {W0 wr w6 : World} {p p' q : Value} {l m : List Int} {x : Int} {n : Nat} {o : Obj} (s : TwoL W0 wr p q l m) (hn : l.length = n) (hown : w6.ownsRow W0.heap.size 3 1 p' (n + 1) (vals l ++ [.int .i64 x])) (hg : (wr.alloc o).grownBy w6 p.ownBlock) (hb : p'.ownBlock = p.ownBlock ∨ p'.ownBlock = some (wr.heap.size + 1)) : TwoL W0 w6 p' q (l ++ [x]) m := by
  subst hn
  refine ⟨s.one.below hg s.bel (Nat.le_refl _) s.bel.size, Grows.snoc hown, World.ownsRow.kept (s.two.alloc o) hg (Or.inr fun e => s.ne e.symm), fun e => ?_⟩
  rcases hb with hb | hb
  · rw [hb] at e; exact s.ne e
  · rw [hb] at e
    have := (World.ownsRow.lt s.two) _ e.symm
    omega

theorem TwoL.store {W0 wr : World} {b cap n : Nat} {q : Value} {l m : List Int} (s : TwoL W0 wr (.slice (some ⟨b, 0, none⟩) n cap) q l m) (hn : l.length = n) (k : Nat) (y : Int) : TwoL W0 (wr.setCell ⟨b, k, none⟩ (.int .i64 y)) (.slice (some ⟨b, 0, none⟩) n cap) q (l.set k y) m := by
  subst hn
  refine ⟨s.bel.setCell ((World.ownsRow.lt s.one) b rfl).1 _, s.one.store k y, World.ownsRow.kept s.two (World.ownsRow.stored s.one k (.int .i64 y)).2 (Or.inr fun e => s.ne e.symm), s.ne⟩

theorem TwoL.cell {W0 wr : World} {b cap n : Nat} {q : Value} {l m : List Int} (s : TwoL W0 wr (.slice (some ⟨b, 0, none⟩) n cap) q l m) (hn : l.length = n) (k : Nat) (hk : k < n) : wr.cell? ⟨b, k, none⟩ = some (.int .i64 (nth l k)) := by
  subst hn; exact s.one.cellAt k hk

theorem TwoL.frozen {W0 wr : World} {b cap n : Nat} {q : Value} {l m : List Int} (s : TwoL W0 wr (.slice (some ⟨b, 0, none⟩) n cap) q l m) (hn : l.length = n) (k : Nat) : wr.frozen? ⟨b, k, none⟩ = false := by
  subst hn; exact World.ownsRow.frozenAt s.one k

theorem TwoL.start (W0 : World) : TwoL W0 ((W0.alloc (.cells #[] 3)).alloc (.cells #[] 3)) (.slice (some ⟨W0.heap.size, 0, none⟩) 0 0) (.slice (some ⟨W0.heap.size + 1, 0, none⟩) 0 0) [] [] := by
  refine ⟨((Below.refl _ _).alloc (Nat.le_refl _) _).alloc (by simp) _, (Grows.lit W0 (Nat.le_refl _)).alloc _, ?_, by simp [Value.ownBlock]⟩
  have := Grows.lit (W0.alloc (.cells #[] 3)) (base := W0.heap.size) (by simp)
  simpa using this

theorem TwoL.ints {W0 wr : World} {b cap n : Nat} {q : Value} {l m : List Int} (s : TwoL W0 wr (.slice (some ⟨b, 0, none⟩) n cap) q l m) (hn : l.length = n) : Ints wr (· < wr.heap.size) (some ⟨b, 0, none⟩) l :=
  fun _ => ⟨b, 0, rfl, ((World.ownsRow.lt s.one) b rfl).2, fun i hi => by rw [Nat.zero_add]; exact s.cell hn i (by omega)⟩

theorem mod5 {z : Int} (h0 : 0 ≤ z) : 0 ≤ z % 5 ∧ z % 5 ≤ 4 := by omega

end Go.Proofs.Ytjojilimdhekfaa
