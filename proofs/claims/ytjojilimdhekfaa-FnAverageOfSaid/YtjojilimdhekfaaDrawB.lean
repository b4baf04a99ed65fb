/- The walks of what draws, second part: a code is opened; fractions are drawn. (Written by wip/gen/draw2.py.) -/
import Derived.Test.YtjojilimdhekfaaDraw
namespace Go.Proofs.Ytjojilimdhekfaa
set_option linter.unusedSimpArgs false
set_option linter.unusedVariables false
open Go.RowKit

/-- what an opened code leaves: a reader at place 0, in a new block -/
def Opened (w : World) (e : Ending) (w' : World) : Prop :=
  e = .returned (.pointer (some ⟨w.heap.size, 0, none⟩)) ∧ Below w.heap.size w w' ∧ ∃ (a : Option Addr) (len cap : Nat) (zs : List Int), Reader w.heap.size w' a len cap zs 0

theorem opened_of {w : World} {a : Option Addr} {len cap : Nat} {zs : List Int} (hl : len ≤ 2000) (hb : Bytes w.heap.size w a len zs) :
    Opened w (.returned (.pointer (some ⟨w.heap.size, 0, none⟩))) (w.alloc (.cells #[.slice a len cap, .int .i64 0] 73)) := by
  have hB : Below w.heap.size w (w.alloc (.cells #[.slice a len cap, .int .i64 0] 73)) := (Below.refl _ _).alloc (Nat.le_refl _) _
  exact ⟨rfl, hB, a, len, cap, zs, by simp [go_sem], by simp [go_sem], by simp [go_sem], by simp, hl, by omega, by omega, hb.of_below (Nat.le_refl _) hB⟩

theorem u8_in {z : Int} (h : (Lit.int .u8 z).wf = true) : 0 ≤ z ∧ z ≤ 255 := by simpa [Lit.wf, IntKind.min, IntKind.max, IntKind.signed, IntKind.bits] using h

theorem bytes_of {w : World} {x : Addr} {len cap : Nat} {zs : List Int} (hl : len ≤ cap) (hz : zs.length = cap) (h0 : 0 < len)
    (hcell : ∀ i, i < zs.length → w.cell? (x.add i) = some (.int .u8 (zs.getD i 0))) (hwz : ∀ n ∈ zs, (Lit.int .u8 n).wf = true) : ∃ b off, x = ⟨b, off, none⟩ ∧ ∀ k, k ≤ len → Bytes w.heap.size w (some ⟨b, off, none⟩) k zs := by
  obtain ⟨b, off, spot⟩ := x
  have hc := hcell 0 (by omega)
  have hspot : spot = none := by simpa [Addr.add] using World.cell?_spot hc
  subst hspot
  refine ⟨b, off, rfl, fun k hk => ?_⟩
  refine .inr ⟨b, off, rfl, ?_, fun i hi => ?_⟩
  · have := World.block_lt_of_cell? w _ hc; simpa [Addr.add] using this
  · have h1 := hcell i (by omega)
    have h2 : zs.getD i 0 ∈ zs := by
      rw [List.getD_eq_getElem?_getD, List.getElem?_eq_getElem (by omega)]; exact List.getElem_mem _
    have e : (Addr.add ⟨b, off, none⟩ i) = ⟨b, off + i, none⟩ := by
      by_cases hi0 : i = 0
      · subst hi0; simp [Addr.add]
      · simp [Addr.add, hi0]
    rw [e] at h1
    exact ⟨h1, u8_in (hwz _ h2)⟩

set_option maxHeartbeats 400000 in
theorem l20Open (a : Option Addr) (len cap : Nat) (zs : List Int) (w : World) (h : IsRow .u8 w a len cap zs) :
    Calls Try.prog 45 #[.slice a len cap] w (Opened w) := by
  rcases h with ⟨rfl, rfl, rfl, rfl⟩ | ⟨x, rfl, hl, hm, hz, hcell, hwz⟩
  · go_enter Try.func45, Try.ntmps45
    go_wp2
    go_ret
    exact opened_of (zs := []) (by omega) (.inl rfl)
  · by_cases h0 : len = 0
    · subst h0
      go_enter Try.func45, Try.ntmps45
      go_wp2
      go_ret
      exact opened_of (zs := zs) (by omega) (.inl rfl)
    · obtain ⟨b, off, rfl, hB⟩ := bytes_of hl hz (by omega) hcell hwz
      clear hcell hwz hz
      unfold maxLen at hm
      by_cases hc : 2000 < len
      · have b1 := hB 2000 (by omega)
        have hc1 : (2000 : Int) < (len : Int) := by omega
        have hc2 : ¬ cap < 2000 := by omega
        clear hB
        go_enter Try.func45, Try.ntmps45
        go_wp2
        go_ret
        exact opened_of (by omega) b1
      · have b1 := hB len (by omega)
        have hc1 : ¬ (2000 : Int) < (len : Int) := by omega
        clear hB
        go_enter Try.func45, Try.ntmps45
        go_wp2
        go_ret
        exact opened_of (by omega) b1

/-- what a drawn fraction is -/
def Drawn1 (w : World) (e : Ending) (w' : World) : Prop :=
  ∃ u d : Int, e = .returned (.agg #[.int .i64 u, .int .i64 d]) ∧ -1000000001 ≤ u ∧ u ≤ 1000000001 ∧ -1000000001 ≤ d ∧ d ≤ 1000000001 ∧ Below w.heap.size w w'

/-- what two drawn fractions are -/
def Drawn2 (w : World) (e : Ending) (w' : World) : Prop :=
  ∃ u d u' d' : Int, e = .returned (.tuple #[.agg #[.int .i64 u, .int .i64 d], .agg #[.int .i64 u', .int .i64 d']]) ∧ -1000000001 ≤ u ∧ u ≤ 1000000001 ∧ -1000000001 ≤ d ∧ d ≤ 1000000001 ∧ -1000000001 ≤ u' ∧ u' ≤ 1000000001 ∧ -1000000001 ≤ d' ∧ d' ≤ 1000000001 ∧ Below w.heap.size w w'

/-- what two drawn numbers are -/
def DrawnN (w : World) (e : Ending) (w' : World) : Prop :=
  ∃ u d : Int, e = .returned (.tuple #[.int .i64 u, .int .i64 d]) ∧ -1000 ≤ u ∧ u ≤ 1000 ∧ -1000 ≤ d ∧ d ≤ 2000001000 ∧ Below w.heap.size w w'

theorem IsRow.below {k : IntKind} {w w' : World} {a : Option Addr} {len cap : Nat} {zs : List Int} (h : IsRow k w a len cap zs) (hb : Below w.heap.size w w') : IsRow k w' a len cap zs := by
  rcases h with h | ⟨x, h1, h2, h3, h4, h5, h6⟩
  · exact .inl h
  · exact .inr ⟨x, h1, h2, h3, h4, fun i hi => (hb.cell (World.block_lt_of_cell? w _ (h5 i hi))).trans (h5 i hi), h6⟩

theorem stays2 {W w1 w2 : World} {p o : Nat} {a : Value} (hp : p < W.heap.size) (h : W.cell? ⟨p, o, none⟩ = some a) (hb : Below W.heap.size W w1) (hk : Kept W.heap.size w1 w2) : w2.cell? ⟨p, o, none⟩ = some a :=
  (hk.cell (Nat.lt_of_lt_of_le hp hb.size) (Nat.ne_of_lt hp)).trans ((hb.cell (p := ⟨p, o, none⟩) hp).trans h)

theorem stays2F {W w1 w2 : World} {p o : Nat} {b : Bool} (hp : p < W.heap.size) (h : W.frozen? ⟨p, o, none⟩ = b) (hb : Below W.heap.size W w1) (hk : Kept W.heap.size w1 w2) : w2.frozen? ⟨p, o, none⟩ = b :=
  (hk.frozen (Nat.lt_of_lt_of_le hp hb.size) (Nat.ne_of_lt hp)).trans ((hb.frozen (p := ⟨p, o, none⟩) hp).trans h)

theorem times01 {x t : Int} (h : t = 0 ∨ t = 1) (h1 : -39 ≤ x) (h2 : x ≤ 39) : -39 ≤ x * t ∧ x * t ≤ 39 := by
  rcases h with rfl | rfl <;> omega

end Go.Proofs.Ytjojilimdhekfaa
