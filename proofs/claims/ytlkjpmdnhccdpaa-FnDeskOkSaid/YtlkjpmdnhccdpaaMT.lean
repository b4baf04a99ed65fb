/- Texts in one: WinS, WinT, WinB. -/
import Derived.Test.YtlkjpmdnhccdpaaWin
import Derived.Test.YtlkjpmdnhccdpaaMC
namespace Go.Proofs.Ytlkjpmdnhccdpaa
set_option linter.unusedSimpArgs false
set_option linter.unusedVariables false
open Go.RowKit

/-- a row that was made and is written -/
structure RowNow (w wr : World) (l : List Int) : Prop where
  bel : Below w.heap.size w wr
  size : wr.heap.size = w.heap.size + 1
  row : IntRow wr w.heap.size l

theorem nth_zeros (n i : Nat) : nth (List.replicate n 0) i = 0 := by
  unfold nth; simp [List.getElem?_replicate]; split <;> rfl

theorem nth_setk (l : List Int) (k i : Nat) (x : Int) (h : i < l.length) : nth (l.set k x) i = if i = k then x else nth l i := by
  unfold nth
  rw [List.getD_eq_getElem?_getD, List.getD_eq_getElem?_getD, List.getElem?_set]
  by_cases e : i = k
  · subst e; simp [h]
  · rw [if_neg e, if_neg (fun h => e h.symm)]

theorem RowNow.start (w : World) (n : Nat) : RowNow w (w.alloc (.cells (madeCells #[.int .i64 0] n) 3)) (List.replicate n 0) :=
  ⟨(Below.refl _ _).alloc (Nat.le_refl _) _, by simp, by
    show World.rowIs _ _ _ _ _
    rw [List.length_replicate]
    exact (World.rowIs_made w _ n _).congr (fun i _ => by rw [nth_zeros])⟩

theorem RowNow.poke {w wr : World} {l : List Int} (h : RowNow w wr l) (k : Nat) (x : Int) : RowNow w (wr.setCell ⟨w.heap.size, k, none⟩ (.int .i64 x)) (l.set k x) := by
  refine ⟨h.bel.setCell (Nat.le_refl _) _, by simp [World.setCell, h.size], ?_⟩
  show World.rowIs _ _ _ _ _
  rw [List.length_set]
  refine (h.row.set k _).congr fun i hi => ?_
  rw [nth_setk _ _ _ _ hi]
  by_cases e : i = k
  · rw [if_pos e, if_pos e]
  · rw [if_neg e, if_neg e]

theorem RowNow.own {w wr : World} {l : List Int} (h : RowNow w wr l) : OwnI wr w.heap.size wr.heap.size (some ⟨w.heap.size, 0, none⟩) l :=
  fun _ => ⟨w.heap.size, l.length, _, rfl, Nat.le_refl _, by rw [h.size]; omega, h.row, Nat.le_refl _, fun _ _ => rfl⟩

theorem wins_lt {m n k : Nat} (h : 1 ≤ n) : k < wins m n ↔ k * n < m := by
  unfold wins
  rw [show k < (m + n - 1) / n ↔ k + 1 ≤ (m + n - 1) / n from Iff.rfl, Nat.le_div_iff_mul_le (by omega), Nat.add_mul, Nat.one_mul]
  omega

theorem wins_le {m n : Nat} (h : 1 ≤ n) : wins m n ≤ m := by
  refine Nat.le_of_not_lt fun hc => ?_
  have := (wins_lt h).1 hc
  have := Nat.le_mul_of_pos_right m (show 0 < n by omega)
  omega

end Go.Proofs.Ytlkjpmdnhccdpaa

namespace Go.Proofs.Ytlkjpmdnhccdpaa
set_option linter.unusedSimpArgs false
set_option linter.unusedVariables false
open Go.RowKit



end Go.Proofs.Ytlkjpmdnhccdpaa

namespace Go.Proofs.Ytlkjpmdnhccdpaa
set_option linter.unusedSimpArgs false
set_option linter.unusedVariables false
open Go.RowKit

theorem wf_small {x : Int} (h0 : -1000000 ≤ x) (h1 : x ≤ 1000000) : (Lit.int .i64 x).wf = true := by
  have a : IntKind.i64.min = -9223372036854775808 := by decide
  have b : IntKind.i64.max = 9223372036854775807 := by decide
  show (decide (IntKind.i64.min ≤ x) && decide (x ≤ IntKind.i64.max)) = true
  rw [a, b, Bool.and_eq_true]; exact ⟨decide_eq_true (by omega), decide_eq_true (by omega)⟩

/-- all that the laws ask of windows -/
structure WinF (c d : Int) : Prop where
  set : setB (winG c d) (lookL c d) (hideL c d) = true
  up : safU (winG c d) (lookL c d) = 1
  down : safD (winG c d) (lookL c d) = winV c d
  rup : risU (winG c d) (hideL c d) = 1
  rdown : risD (winG c d) (hideL c d) = winV c d
  saf : safB (winG c d) (lookL c d) = true
  ris : risB (winG c d) (hideL c d) = true
  game : gameB (winG c d) = true
  many : (((winG c d).length : Nat) : Int) = c - d + 1
  look : (((lookL c d).length : Nat) : Int) = c - d + 1
  hide : (((hideL c d).length : Nat) : Int) = c
  suml : sumW (lookL c d) (lookL c d).length = winV c d
  sumh : sumW (hideL c d) (hideL c d).length = winV c d
  lo : 1 ≤ winV c d
  hi : winV c d ≤ 16
  sol : solB (winG c d) = true → solU (winG c d) = 1 ∧ solD (winG c d) = winV c d
  seen : ∀ j : Nat, (j : Int) < c → ∃ i, i < (lookL c d).length ∧ 0 < nth (lookL c d) i ∧ nth (rowAt (winG c d) i) j = 1

theorem win_facts {c d : Int} (h : winB c d = true) : WinF c d := by
  obtain ⟨m, n, rfl, rfl, h1, h2, h3, h4⟩ := win_nat h
  obtain ⟨y1, _, y3, y4, y5⟩ := win_yes h
  have a1 := allWin_at win_all_set h
  have a2 := allWin_at win_all_sums h
  have a3 := allWin_at win_all_seen h
  have a4 := allWin_at win_all_game h
  simp only [Bool.and_eq_true, beq_iff_eq, decide_eq_true_eq] at a1 a2 a4
  obtain ⟨s1, s2, s3⟩ := a1
  obtain ⟨t1, t2, t3, t4⟩ := a2
  have hs := s1
  unfold setB at hs
  simp only [Bool.and_eq_true, beq_iff_eq] at hs
  obtain ⟨⟨k1, k2⟩, k3, k4⟩ := hs
  have e1 : (winT m n).length = m - n + 1 := winTo_length _ _ _
  have e2 : (lookT m n).length = m - n + 1 := lookTo_length _ _ _
  have e3 : (hideT m n).length = m := hideTo_length _ _ _
  rw [List.all_eq_true] at a3
  constructor
  all_goals simp only [y1, y3, y4, y5]
  · exact s1
  · exact s2
  · exact s3
  · rw [← k3]; exact s2
  · rw [← k4]; exact s3
  · exact k1
  · exact k2
  · exact a4.1
  · rw [e1]; omega
  · rw [e2]; omega
  · rw [e3]
  · exact t1
  · exact t2
  · omega
  · omega
  · intro hb
    obtain ⟨_, _, _, k, u1, u2⟩ := sol_parts hb
    obtain ⟨v1, v2⟩ := set_one s1 k
    exact ⟨by rw [u1, ← v1]; exact s2, by rw [u2, ← v2]; exact s3⟩
  · intro j hj
    have := a3 j (List.mem_range.2 (by omega))
    rw [List.any_eq_true] at this
    obtain ⟨i, hi, hp⟩ := this
    simp only [Bool.and_eq_true, beq_iff_eq, decide_eq_true_eq] at hp
    exact ⟨i, by rw [e2]; exact List.mem_range.1 hi, hp.1, hp.2⟩

/-- all that the law asks of rings -/
structure RinF (c d : Int) : Prop where
  set : setB (rinG c d) (List.replicate c.toNat 1) (List.replicate c.toNat 1) = true
  saf : safB (rinG c d) (List.replicate c.toNat 1) = true
  up : safU (rinG c d) (List.replicate c.toNat 1) = lowU d c
  down : safD (rinG c d) (List.replicate c.toNat 1) = lowD d c
  many : (((rinG c d).length : Nat) : Int) = c
  less : lowD d c ≤ lowU d c * winV c d

theorem rin_facts {c d : Int} (h : winB c d = true) : RinF c d := by
  obtain ⟨m, n, rfl, rfl, h1, h2, h3, h4⟩ := win_nat h
  obtain ⟨_, y2, y3, _, _⟩ := win_yes h
  have a1 := allWin_at rin_all_set h
  simp only [Bool.and_eq_true, beq_iff_eq, decide_eq_true_eq] at a1
  obtain ⟨s1, s2, s3, _, s4⟩ := a1
  have hs := s1
  unfold setB at hs
  simp only [Bool.and_eq_true, beq_iff_eq] at hs
  have e1 : (rinT m n).length = m := rinTo_length _ _ _
  constructor
  all_goals simp only [y2, y3, Int.toNat_natCast]
  · exact s1
  · exact hs.1.1
  · exact s2
  · exact s3
  · rw [e1]
  · exact s4

end Go.Proofs.Ytlkjpmdnhccdpaa
