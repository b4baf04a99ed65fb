/- The walks that number tables through and look them up again. -/
import Derived.Test.YtjojilimdhekfaaMark
namespace Go.Proofs.Ytjojilimdhekfaa
set_option linter.unusedSimpArgs false
set_option linter.unusedVariables false
open Go.RowKit

/-- while a table is numbered through: its first m rows are -/
structure Marking (w wr : World) (lo hi b N : Nat) (f : Nat → Value) (A : Nat → Option Addr) (g : List (List Int)) (k : Int) (m : Nat) : Prop where
  off : Off lo hi w wr
  top : wr.rowIs b 24 N f
  rows : ∀ r, r < g.length → OwnI wr lo hi (A r) (if r < m then seqN (k + (sumN g r : Int)) (rowAt g r).length else rowAt g r)

theorem rowIs_ne {w : World} {b b' N N' : Nat} {f f' : Nat → Value} {t t' : TypeId} (h : w.rowIs b t N f) (h' : w.rowIs b' t' N' f') (hne : t ≠ t') : b ≠ b' := by
  rintro rfl
  obtain ⟨c, h1, _, _⟩ := h
  obtain ⟨c', h2, _, _⟩ := h'
  rw [h1] at h2
  injection h2 with h2
  injection h2 with _ e
  exact hne e

theorem Marking.step {w wr w2 : World} {lo hi b N : Nat} {f : Nat → Value} {A : Nat → Option Addr} {C : Nat → Nat} {g : List (List Int)} {k : Int} {m : Nat} (h : Marking w wr lo hi b N f A g k m) (hm : m < g.length)
    (hR : RowsOwn w lo hi A C g) (ht : Touch (rowAt g m).length (A m) wr w2) (ho : OwnI w2 lo hi (A m) (seqN (k + (sumN g m : Int)) (rowAt g m).length)) : Marking w w2 lo hi b N f A g k (m + 1) := by
  have own_m := h.rows m hm
  rw [if_neg (Nat.lt_irrefl m)] at own_m
  refine ⟨h.off.trans (ht.off own_m), h.top.of_block (ht.block _ fun h0 e => ?_), fun r hr => ?_⟩
  · obtain ⟨b', N', f', e', _, _, hr', _⟩ := own_m h0
    rw [e'] at e; injection e with e; injection e with e
    exact rowIs_ne h.top hr' (by decide) e.symm
  · by_cases e : r = m
    · subst e; rw [if_pos (by omega)]; exact ho
    · have hk : OwnI w2 lo hi (A r) (if r < m then seqN (k + (sumN g r : Int)) (rowAt g r).length else rowAt g r) := by
        intro h0
        have hlen : (if r < m then seqN (k + (sumN g r : Int)) (rowAt g r).length else rowAt g r).length = (rowAt g r).length := by split <;> simp [seqN_length]
        obtain ⟨b', N', f', e', h1, h2, h3, h4, h5⟩ := h.rows r hr h0
        refine ⟨b', N', f', e', h1, h2, h3.of_block (ht.block _ fun h0' e'' => ?_), h4, h5⟩
        rw [hlen] at h0
        exact hR.apart r m hr hm e h0 h0' (by rw [e', e''])
      by_cases hlt : r < m
      · rw [if_pos hlt] at hk; rw [if_pos (by omega)]; exact hk
      · rw [if_neg hlt] at hk; rw [if_neg (by omega)]; exact hk

theorem Marking.done {w wr : World} {lo hi b N : Nat} {f : Nat → Value} {A : Nat → Option Addr} {C : Nat → Nat} {g : List (List Int)} {k : Int} (h : Marking w wr lo hi b N f A g k g.length) (h1 : lo ≤ b) (h2 : b < hi) (hN : g.length ≤ N)
    (hf : ∀ i, i < g.length → f i = .slice (A i) (rowAt g i).length (C i)) (hR : RowsOwn w lo hi A C g) : OwnR wr lo hi (some ⟨b, 0, none⟩) (marks g k) := by
  intro _
  have hlen : ∀ i, i < g.length → (rowAt (marks g k) i).length = (rowAt g i).length := fun i hi => by rw [rowAt_marks g k i hi, seqN_length]
  refine ⟨b, N, f, A, C, rfl, h1, h2, by rw [marks_length]; exact hN, h.top, fun i hi => ?_, ⟨fun i hi => ?_, fun i hi => ?_, fun i j hi hj hne p q => ?_⟩⟩
  · rw [marks_length] at hi; rw [hf i hi, hlen i hi]
  · rw [marks_length] at hi; rw [hlen i hi]; exact hR.cap i hi
  · rw [marks_length] at hi
    have := h.rows i hi
    rw [if_pos hi] at this
    rw [rowAt_marks g k i hi]; exact this
  · rw [marks_length] at hi hj
    rw [hlen i hi] at p
    rw [hlen j hj] at q
    exact hR.apart i j hi hj hne p q

set_option maxHeartbeats 1000000 in
theorem markIntSS (T : Option Addr) (c : Nat) (g : List (List Int)) (lo hi : Nat) (k : Int) (hl : g.length ≤ 4294967296) (hs : sumN g g.length ≤ 2147483648) (h0 : 0 ≤ k) (h1 : k ≤ 2147483648) (w : World) (h : OwnR w lo hi T g) :
    Calls Try.prog 41 #[.slice T g.length c, .int .i64 k] w fun e w' => e = .returned (.int .i64 (k + (sumN g g.length : Int))) ∧ Off lo hi w w' ∧ OwnR w' lo hi T (marks g k) := by
  by_cases hz : g.length = 0
  · have H := Lib.hid hz
    have hd : decide ((0 : Int) < (g.length : Int)) = false := decide_eq_false (by omega)
    have HK : Hid (k = k + (sumN g g.length : Int)) := by show k = _; rw [hz]; simp [sumN]
    have HM : Hid (OwnR w lo hi T (marks g k)) := fun hh => by rw [marks_length] at hh; omega
    have hz2 : ¬ (0 : Int) < (g.length : Int) := by omega
    clear hz
    go_enter Try.func41, Try.ntmps41
    go_wp2_with fail
    go_loop [1, 5] (fun v i => i = .int .i64 0 ∧ v = .int .i64 k) (fun _ _ => 0)
    case atStart => exact ⟨rfl, rfl⟩
    case round =>
      obtain ⟨rfl, rfl⟩ := hrel
      go_wp2_with fail
      go_ret
      rw [← HK.out]
      exact ⟨rfl, Off.refl _ _ _, HM⟩
  obtain ⟨b, N, f, A, C, rfl, hb1, hb2, hN, hr, hf, hR⟩ := h (by omega)
  have M0 : Hid (Marking w w lo hi b N f A g k 0) := ⟨Off.refl _ _ _, hr, fun r hr => by rw [if_neg (by omega)]; exact hR.own r hr⟩
  have HF := Lib.hid hf
  have HR := Lib.hid hR
  clear h hr hz hf hR
  go_enter Try.func41, Try.ntmps41
  go_wp2_with fail
  go_loopw [1, 5] (fun v i wr => ∃ m : Nat, m ≤ g.length ∧ i = .int .i64 m ∧ v = .int .i64 (k + (sumN g m : Int)) ∧ Hid (Marking w wr lo hi b N f A g k m)) (fun _ i _ => g.length - (intOf i).toNat)
  case atStart => exact ⟨0, Nat.zero_le _, rfl, by simp [sumN], M0⟩
  case round =>
    obtain ⟨m, hm, rfl, rfl, HM⟩ := hrel
    by_cases hlt : m < g.length
    · have hcell := HM.out.top.cell (i := m) (by omega)
      rw [HF.out m hlt] at hcell
      obtain ⟨hc1, hc2⟩ := HR.out.cap m hlt
      unfold maxLen at hc2
      have hsm := sumN_mono g (Nat.le_of_lt hlt)
      have hsr := row_le_sumN g hlt
      have HO : Hid (OwnI wr lo hi (A m) (rowAt g m)) := by have := HM.out.rows m hlt; rwa [if_neg (Nat.lt_irrefl m)] at this
      go_wp2_with fail
      refine (markIntS _ _ (rowAt g m) lo hi _ (by omega) (by omega) (by omega) _ HO.out).mono ?_
      rintro e w2 ⟨rfl, ht, ho⟩
      have HN := Lib.hid (HM.out.step hlt HR.out ht ho)
      have HS : Hid (k + (sumN g m : Int) + ((rowAt g m).length : Int) = k + (sumN g (m + 1) : Int)) := by show _ = _; simp only [sumN]; omega
      rw [HS.out]
      clear ht ho
      go_wp2_with fail
      go_roundw
      case rel => exact ⟨m + 1, by omega, by go_num, rfl, HN⟩
      case measure => simp [intOf]; omega
    · obtain rfl : m = g.length := by omega
      go_wp2_with fail
      go_ret
      exact ⟨rfl, HM.out.off, HM.out.done hb1 hb2 hN HF.out HR.out⟩

end Go.Proofs.Ytjojilimdhekfaa
