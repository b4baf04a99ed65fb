/- The walk of what draws a game and two mixtures that are often settled. -/
import Derived.Test.YtjojilimdhekfaaDrawY
import Derived.Deep.DeepCutAuto
namespace Go.Proofs.Ytjojilimdhekfaa
set_option linter.unusedSimpArgs false
set_option linter.unusedVariables false
open Go.RowKit

/-- a row of numbers with one of them set -/
theorem rowIs_ints {w : World} {b N : Nat} {l : List Int} (h : w.rowIs b 3 N (fun i => .int .i64 (nth l i))) (hl : l.length ≤ N) : Ints w (fun k => k = b) (some ⟨b, 0, none⟩) l :=
  fun _ => ⟨b, 0, rfl, rfl, fun i hi => by rw [Nat.zero_add]; exact h.cell (by omega)⟩

/-- all 0 but one -/
def oneAt (m i : Nat) (x : Int) : List Int := (List.replicate m 0).set i x

theorem oneAt_length (m i : Nat) (x : Int) : (oneAt m i x).length = m := by simp [oneAt]

theorem nth_oneAt (m i k : Nat) (x : Int) (h : k < m) : nth (oneAt m i x) k = if k = i then x else 0 := by
  rw [nth_eq _ _ (by rw [oneAt_length]; exact h)]
  unfold oneAt
  rw [List.getElem_set]
  by_cases e : i = k
  · subst e; simp
  · rw [if_neg e, if_neg (fun e' => e e'.symm)]; simp

theorem oneAt_row {w : World} {b m i : Nat} {x : Int} (h : w.rowIs b 3 m (fun _ => .int .i64 0)) : (w.setCell ⟨b, i, none⟩ (.int .i64 x)).rowIs b 3 m (fun k => .int .i64 (nth (oneAt m i x) k)) :=
  (h.set i _).congr (fun k hk => by
    rw [nth_oneAt m i k x hk]
    by_cases e : k = i
    · rw [if_pos e, if_pos e]
    · rw [if_neg e, if_neg e])

/-- two rows of 0, of the call's own; the first one, then both with one number set -/
structure SetSt (W wx : World) (n m : Nat) (f h : Nat → Value) : Prop where
  bel : Below W.heap.size W wx
  size : wx.heap.size = W.heap.size + 2
  one : wx.rowIs W.heap.size 3 n f
  two : wx.rowIs (W.heap.size + 1) 3 m h

theorem SetSt.start (W : World) (n m : Nat) : SetSt W ((W.alloc (.cells (madeCells #[.int .i64 0] n) 3)).alloc (.cells (madeCells #[.int .i64 0] m) 3)) n m (fun _ => .int .i64 0) (fun _ => .int .i64 0) := by
  refine ⟨((Below.refl _ _).alloc (Nat.le_refl _) _).alloc (by simp) _, by simp, (World.rowIs_made W _ n _).alloc _, ?_⟩
  have := World.rowIs_made (W.alloc (.cells (madeCells #[.int .i64 0] n) 3)) (.int .i64 0) m 3
  simpa using this

theorem SetSt.set1 {W wx : World} {n m : Nat} {h : Nat → Value} (s : SetSt W wx n m (fun _ => .int .i64 0) h) (i : Nat) (x : Int) : SetSt W (wx.setCell ⟨W.heap.size, i, none⟩ (.int .i64 x)) n m (fun k => .int .i64 (nth (oneAt n i x) k)) h :=
  ⟨s.bel.setCell (Nat.le_refl _) _, by simp [World.setCell, s.size], oneAt_row s.one, s.two.setOther (by show W.heap.size + 1 ≠ W.heap.size; omega) _⟩

theorem SetSt.set2 {W wx : World} {n m : Nat} {f : Nat → Value} (s : SetSt W wx n m f (fun _ => .int .i64 0)) (i : Nat) (x : Int) : SetSt W (wx.setCell ⟨W.heap.size + 1, i, none⟩ (.int .i64 x)) n m f (fun k => .int .i64 (nth (oneAt m i x) k)) :=
  ⟨s.bel.setCell (by show W.heap.size ≤ W.heap.size + 1; omega) _, by simp [World.setCell, s.size], s.one.setOther (by show W.heap.size ≠ W.heap.size + 1; omega) _, oneAt_row s.two⟩

theorem SetSt.drew {W wx : World} {n m : Nat} {f h : Nat → Value} (s : SetSt W wx n m f h) : SetSt W wx.drew n m f h := ⟨s.bel.drew, s.size, s.one, s.two⟩

set_option maxHeartbeats 4000000 in
set_option maxRecDepth 100000 in
theorem dDrawSettledOk (a : Option Addr) (len cap : Nat) (zs : List Int) (w : World) (h : IsRow .u8 w a len cap zs) :
    Calls Try.prog 27 #[.slice a len cap] w (DrawnXT w) := by
  go_enter Try.func27, Try.ntmps27
  go_wp2_with fail
  refine (l20Open a len cap zs w h).mono ?_
  rintro e w1 ⟨rfl, hb1, a1, len1, cap1, zs1, R1⟩
  go_wp2_with fail
  refine (pick _ _ a1 len1 cap1 zs1 0 3 R1 (by omega) (by omega) (by omega)).mono ?_
  intro e w2 hP
  obtain ⟨v2, rfl, v20, v21, k2, R2⟩ := hP
  have B2 := Lib.hid (hb1.trans (k2.below (Nat.le_refl _) hb1.size))
  have hn2 := R2.lt
  clear k2 R1
  by_cases hv2 : v2 = 0
  · have z : (v2 == 0) = true := by simp [hv2]
    clear hv2
    go_wp2_with fail
    go_ret3
    have two : ∀ i, i < 2 → i = 0 ∨ i = 1 := fun i hi => by omega
    refine ⟨[[1, -1], [-1, 1]], [1, 1], [2, 2], some ⟨w2.heap.size + 1 + 1, 0, none⟩, some ⟨w2.heap.size + 1 + 1 + 1, 0, none⟩, some ⟨w2.heap.size + 1 + 1 + 1 + 1, 0, none⟩, 2, 2, 2, rfl, by decide, ?_, by decide, by decide, belT B2.out (by exact (by repeat (first | exact Below.refl _ _ | assumption | exact bel1 (by assumption) | exact bel2 (by assumption) | exact bel3 (by assumption) | exact bel4 (by assumption) | refine Below.drew ?_ | refine below_drewN ?_ _ | refine Below.setCell ?_ (by first | (simp; done) | (simp; omega)) _ | refine Below.alloc ?_ (by first | (simp; done) | (simp; omega)) _))), ?_, ?_, ?_⟩
    · intro i hi
      rcases two i hi with rfl | rfl <;> decide
    · intro _
      refine ⟨w2.heap.size + 1 + 1, 0, rfl, by simp, fun i hi => ?_⟩
      rcases two i hi with rfl | rfl
      · refine ⟨some ⟨w2.heap.size, 0, none⟩, 2, by simp [go_sem, rowAt], Nat.le_refl _, by unfold maxLen; omega, fun _ => ⟨w2.heap.size, 0, rfl, by first | (simp; done) | (simp; omega), fun k hk => ?_⟩⟩
        rcases two k hk with rfl | rfl <;> simp [go_sem, rowAt, nth]
      · refine ⟨some ⟨w2.heap.size + 1, 0, none⟩, 2, by simp [go_sem, rowAt], Nat.le_refl _, by unfold maxLen; omega, fun _ => ⟨w2.heap.size + 1, 0, rfl, by first | (simp; done) | (simp; omega), fun k hk => ?_⟩⟩
        rcases two k hk with rfl | rfl <;> simp [go_sem, rowAt, nth]
    · intro _
      refine ⟨w2.heap.size + 1 + 1 + 1, 0, rfl, by simp, fun k hk => ?_⟩
      rcases two k hk with rfl | rfl <;> simp [go_sem, nth]
    · intro _
      refine ⟨w2.heap.size + 1 + 1 + 1 + 1, 0, rfl, by simp, fun k hk => ?_⟩
      rcases two k hk with rfl | rfl <;> simp [go_sem, nth]
  have z : (v2 == 0) = false := by simp [hv2]
  clear hv2
  go_wp2_with fail
  refine (l20Mixed _ _ a1 len1 cap1 zs1 (0 + 1) R2 (by omega)).mono ?_
  rintro e w3 ⟨g, x, y, T, A, B, c, d, f, p', rfl, h1, h2, h3, h4, hK, R3, hp1, hp2, o1, o2, o3⟩
  have B3 := Lib.hid (B2.out.trans (hK.below (Nat.le_refl _) B2.out.size))
  have hs2 := hK.size
  have H2 := Lib.hid h2
  have hl : g.length ≤ maxLen := by unfold maxLen; omega
  have HL := Lib.hid hl
  have O1 := Lib.hid o1
  have O2 := Lib.hid o2
  have O3 := Lib.hid o3
  have hsl := saddles_len g
  clear o1 o2 o3 h2 hK R2 hl
  go_wp2_with fail
  refine (saddles_spec _ _ g HL.out _ (ownR_lt O1.out)).mono ?_
  rintro e w4 ⟨L, cl, rfl, hb4, oL⟩
  have B4 := Lib.hid (belT B3.out hb4)
  have P1 := Lib.hid (O1.out.keep (fun b _ hb => hb4.block b hb))
  have P2 := Lib.hid (O2.out.keep (fun b _ hb => hb4.block b hb))
  have P3 := Lib.hid (O3.out.keep (fun b _ hb => hb4.block b hb))
  have R4 := R3.of_below hb4
  have hs4 := hb4.size
  have HO := Lib.hid oL
  clear R3 O1 O2 O3 B3 hb4 oL
  by_cases hl0 : 0 < (saddles g).length
  · have hl1 : (0 : Int) < ((saddles g).length : Int) := by omega
    go_wp2_with fail
    refine (pick _ _ a1 len1 cap1 zs1 p' 4 R4 (by omega) (by omega) (by omega)).mono ?_
    intro e w5 hP
    obtain ⟨v5, rfl, v50, v51, k5, R5⟩ := hP
    have B5 := Lib.hid (B4.out.trans (k5.below (Nat.le_refl _) B4.out.size))
    have Q1 := Lib.hid (P1.out.kept k5 hn2 (by omega))
    have Q2 := Lib.hid (P2.out.kept k5 hn2 (by omega))
    have Q3 := Lib.hid (P3.out.kept k5 hn2 (by omega))
    have QL := Lib.hid (HO.out.kept k5 (by omega) (Nat.le_refl _))
    have hs5 := k5.size
    clear P1 P2 P3 HO k5 R4 R5
    by_cases hv5 : 0 < v5
    · have hb : gameB g = true := by
        rcases hb : gameB g with _ | _
        · exfalso; simp [saddles, hb] at hl0
        · rfl
      have hg := Game.of hb
      have hg1 := hg.lo
      have hg2 := hg.hi
      have hg3 := hg.mlo
      have hg4 := hg.mhi
      obtain ⟨i, j, hi, hj, hx, _⟩ := saddle_place hb hl0
      obtain ⟨d1, d2, d3, d4⟩ := place_div hj hx
      obtain ⟨bt, ot, rfl⟩ := Q1.out.rows2.some (by omega)
      obtain ⟨hS, A0, c0, hc0, hl0', hm0, _⟩ := Q1.out.rows2.row (i := 0) (by omega)
      rw [Nat.add_zero] at hc0
      unfold maxLen at hm0
      obtain ⟨bL, oL, rfl, hSL, hcL⟩ := QL.out.ints.at_ hl0
      have hcL0 := hcL 0 hl0
      rw [Nat.add_zero] at hcL0
      have hmk1 := run_make_row' (P := Try.prog) 24 3 _ 8 Try.underlying24 infoI rfl .i64 .i64 g.length (by omega) (by omega)
      have hmk2 := run_make_row' (P := Try.prog) 24 3 _ 8 Try.underlying24 infoI rfl .i64 .i64 (rowAt g 0).length (by omega) (by omega)
      have hbt : bt < w5.heap.size := World.block_lt_of_cell? _ _ hc0
      have hbL : bL < w5.heap.size := World.block_lt_of_cell? _ _ hcL0
      have S0 := Lib.hid (SetSt.start w5 g.length (rowAt g 0).length)
      have z2 : (((rowAt g 0).length : Int) == 0) = false := by simp; intro e; rw [e] at hg3; simp at hg3
      have hr0 : 0 ≤ nth (saddles g) 0 := by rw [hx]; exact Int.add_nonneg (Int.mul_nonneg (by omega) (by omega)) (by omega)
      have q1 : IntKind.i64.wrap (i : Int) = (i : Int) := IntWalk.i64_in _ (by omega)
      have q2 : IntKind.i64.wrap (j : Int) = (j : Int) := IntWalk.i64_in _ (by omega)
      have q3 : (i : Int) < (g.length : Int) := by omega
      have q4 : (j : Int) < ((rowAt g 0).length : Int) := by omega
      have q5 : (0 : Int) < (g.length : Int) := by omega
      have q6 : (0 : Int) ≤ (i : Int) := by omega
      have q7 : (0 : Int) ≤ (j : Int) := by omega
      have q8 : 0 < g.length := by omega
      clear hx hg hb hcL
      go_upto_region 9 with fail
      clear hmk1 hmk2
      obtain ⟨V, hV⟩ : ∃ V : World, V = ((w5.alloc (.cells (madeCells #[.int .i64 0] g.length) 3)).alloc (.cells (madeCells #[.int .i64 0] (rowAt g 0).length) 3)) := ⟨_, rfl⟩
      rw [← hV] at S0
      rw [← hV]
      clear hV
      have hb1 := (S0.out.bel.cell (p := ⟨bt, ot, none⟩) hbt).trans hc0
      have hb2 := (S0.out.bel.cell (p := ⟨bL, oL, none⟩) hbL).trans hcL0
      have hb3 := S0.out.one.cell (i := i) hi
      have hb4 := S0.out.one.frozen i
      go_cut [] (fun wx => Hid (SetSt w5 wx g.length (rowAt g 0).length (fun k => .int .i64 (nth (oneAt g.length i 3) k)) (fun _ => .int .i64 0)))
      case first =>
        go_region
        all_goals
          go_wp2_with fail
          go_meet
          exact (S0.out.set1 i 3).drew
      case rest =>
        clear hb1 hb2 hb3 hb4 S0
        have hb1 := (hcut.out.bel.cell (p := ⟨bt, ot, none⟩) hbt).trans hc0
        have hb2 := (hcut.out.bel.cell (p := ⟨bL, oL, none⟩) hbL).trans hcL0
        have hb3 := hcut.out.two.cell (i := j) hj
        have hb4 := hcut.out.two.frozen j
        clear hc0 hcL0
        go_wp2_with fail
        go_region
        all_goals
          go_wp2_with fail
          go_ret3
          have F := (hcut.out.set2 j 1).drew
          have hsF := F.size
          refine ⟨g, oneAt g.length i 3, oneAt (rowAt g 0).length j 1, _, _, _, c, g.length, (rowAt g 0).length, by rw [oneAt_length, oneAt_length]; rfl, h1, H2.out, by rw [oneAt_length]; omega, by rw [oneAt_length]; omega, B5.out.trans (F.bel.mono (by omega)), ?_, (rowIs_ints F.one (by rw [oneAt_length]; exact Nat.le_refl _)).mono (fun b e => by subst e; omega), (rowIs_ints F.two (by rw [oneAt_length]; exact Nat.le_refl _)).mono (fun b e => by subst e; omega)⟩
          exact ((Q1.out.keep (fun b _ hb => F.bel.block b (by omega))).rows2).mono (fun b hb => by omega)
    · go_wp2_with fail
      go_ret3
      exact ⟨g, x, y, T, A, B, c, d, f, rfl, h1, H2.out, h3, h4, B5.out, (Q1.out.rows2).mono (fun b hb => by omega), (Q2.out.ints).mono (fun b hb => by omega), (Q3.out.ints).mono (fun b hb => by omega)⟩
  · have hl1 : decide ((0 : Int) < ((saddles g).length : Int)) = false := decide_eq_false (by omega)
    have hl2 : ¬ (0 : Int) < ((saddles g).length : Int) := by omega
    go_wp2_with fail
    go_ret3
    exact ⟨g, x, y, T, A, B, c, d, f, rfl, h1, H2.out, h3, h4, B4.out, (P1.out.rows2).mono (fun b hb => by omega), (P2.out.ints).mono (fun b hb => by omega), (P3.out.ints).mono (fun b hb => by omega)⟩

end Go.Proofs.Ytjojilimdhekfaa
