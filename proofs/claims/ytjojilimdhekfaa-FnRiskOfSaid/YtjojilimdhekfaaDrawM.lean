/- The walks of what draws mixtures. -/
import Derived.Test.YtjojilimdhekfaaDrawG
import Derived.Test.YtjojilimdhekfaaMmath
import Derived.Test.YtjojilimdhekfaaSaddleS
namespace Go.Proofs.Ytjojilimdhekfaa
set_option linter.unusedSimpArgs false
set_option linter.unusedVariables false
open Go.RowKit

/-- what a drawn list is -/
def DrawnM (n : Nat) (w : World) (a : Option Addr) (len cap : Nat) (zs : List Int) (p : Int) (M : Nat) (e : Ending) (w' : World) : Prop :=
  ∃ (l : List Int) (A : Option Addr) (c : Nat) (p' : Int), e = .returned (.slice A l.length c) ∧ l.length ≤ M + 1 ∧ Kept n w w' ∧ Reader n w' a len cap zs p' ∧ p ≤ p' ∧ p' ≤ p + 2 * (M : Int) + 5 ∧ OwnI w' w.heap.size w'.heap.size A l

/-- while a list is drawn -/
def MixSt (n : Nat) (w : World) (a : Option Addr) (len cap : Nat) (zs : List Int) (p : Int) (v : Value) (k : Nat) (wr : World) : Prop :=
  ∃ (l : List Int) (p' : Int), l.length = k ∧ Grows wr w.heap.size v l ∧ Kept n w wr ∧ Reader n wr a len cap zs p' ∧ p ≤ p' ∧ p' ≤ p + 2 * (k : Int)

theorem vals_set (l : List Int) (i : Nat) (x : Int) : vals (l.set i x) = (vals l).set i (.int .i64 x) := by simp [vals, List.map_set]

theorem Grows.stored {w : World} {base b cap : Nat} {l : List Int} (h : Grows w base (.slice (some ⟨b, 0, none⟩) l.length cap) l) (i : Nat) (x : Int) :
    Grows (w.setCell ⟨b, i, none⟩ (.int .i64 x)) base (.slice (some ⟨b, 0, none⟩) (l.set i x).length cap) (l.set i x) := by
  have := (World.ownsRow.stored h i (.int .i64 x)).1
  unfold Grows
  rw [List.length_set, vals_set]
  exact this

set_option maxHeartbeats 4000000 in
set_option maxRecDepth 100000 in
theorem l20Mix (n : Nat) (w : World) (a : Option Addr) (len cap : Nat) (zs : List Int) (p m : Int) (M : Nat) (h : Reader n w a len cap zs p) (hp : p < 20000) (hM1 : 1 ≤ M) (hM2 : M ≤ 17) (hm : 1 ≤ m) (hm' : m ≤ 30000) :
    Calls Try.prog 73 #[.pointer (some ⟨n, 0, none⟩), .int .i64 (M : Int), .int .i64 m] w (DrawnM n w a len cap zs p M) := by
  have hn := h.lt
  have p0 := h.p_lo
  obtain ⟨i0, hi0, hz0, hz1, hz2⟩ := info_parts infoI
  have HI0 := Lib.hid hi0
  have HZ0 := Lib.hid hz0
  have HZ1 := Lib.hid hz1
  have HZ2 := Lib.hid hz2
  have hmk := run_make_row' (P := Try.prog) 24 3 _ 8 Try.underlying24 infoI rfl .i64 .i64 M (by omega) (by omega)
  have HMK := Lib.hid hmk
  have S0 : Hid (MixSt n w a len cap zs p (.slice (some ⟨w.heap.size, 0, none⟩) 0 0) 0 (w.alloc (.cells #[] 3))) :=
    ⟨[], p, rfl, Grows.lit w (Nat.le_refl _), (Kept.refl _ _).alloc _, h.of_below ((Below.refl _ _).alloc (Nat.le_refl _) _), Int.le_refl _, by omega⟩
  clear hi0 hz0 hz1 hz2 hmk
  go_enter Try.func73, Try.ntmps73
  go_wp2_with fail
  go_loopw [7, 8] (fun v i wr => ∃ k : Nat, k ≤ M ∧ i = .int .i64 k ∧ Hid (MixSt n w a len cap zs p v k wr)) (fun _ i _ => M - (intOf i).toNat)
  case atStart => exact ⟨0, Nat.zero_le _, rfl, S0⟩
  case round =>
    clear S0
    obtain ⟨k, hk, rfl, HS⟩ := hrel
    obtain ⟨l, q, hll, hO, hK, hR, hq1, hq2⟩ := HS.out
    have HLL := Lib.hid hll
    have HO := Lib.hid hO
    have HK := Lib.hid hK
    have hos := hK.size
    clear hll hO hK HS
    by_cases hlt : k < M
    · go_wp2_with fail
      refine (pick n _ a len cap zs q 5 hR (by omega) (by omega) (by omega)).mono ?_
      intro e w4 hP
      obtain ⟨v4, rfl, v40, v41, k4, R4⟩ := hP
      go_wp2_with fail
      refine (pick n _ a len cap zs (q + 1) 2 R4 (by omega) (by omega) (by omega)).mono ?_
      intro e w5 hP
      obtain ⟨v5, rfl, v50, v51, k5, R5⟩ := hP
      have K5 := Lib.hid (HK.out.trans (k4.trans k5))
      have O5 := Lib.hid (HO.out.kept (k4.trans k5) hn)
      have hos5 := K5.out.size
      have hv1 : 0 ≤ v4 * v5 := Int.mul_nonneg v40 v50
      have hv2 : v4 * v5 ≤ 8 := Int.le_trans (Int.mul_le_mul (show v4 ≤ 4 by omega) (show v5 ≤ 1 by omega) v50 (by omega)) (by omega)
      clear k4 k5 R4
      go_wp2_with (at_builtin; refine wpList_append_own_at _ rfl (.tmp 15) (.tmp 21) _ rfl w.heap.size 3 i0 (.int .i64 0) 1 8 Try.underlying24 HI0.out HZ0.out HZ1.out HZ2.out rfl (by decide) _ _ _ rfl (O5.out.alloc _) ⟨w5.heap.size, 0, none⟩ 1 1 [.int .i64 (v4 * v5)] rfl rfl (cell_one_new _ _ _) ?c2 ?c3 ?c4 ?c5 ?_)
      case c2 => first | rfl | (intro u hu; simp at hu; subst hu; rfl)
      case c3 => rw [HLL.out]; unfold maxLen; omega
      case c4 => rw [HLL.out]; omega
      case c5 => first | omega | (simp; omega)
      intro v' w6 hown hgrow _ _
      have HN : Hid (MixSt n w a len cap zs p v' (k + 1) w6) :=
        ⟨l ++ [v4 * v5], q + 1 + 1, by rw [List.length_append, HLL.out]; rfl, Grows.snoc hown, K5.out.appended hgrow O5.out.lo, R5.appended hgrow (fun k hk => by have := O5.out.lo k hk; omega), by omega, by omega⟩
      clear hown hgrow
      go_wp2_with fail
      go_roundw
      case rel => exact ⟨k + 1, by omega, by go_num, HN⟩
      case measure => simp [intOf]; omega
    · obtain rfl : k = M := by omega
      have hl0 : 0 < l.length := by rw [HLL.out]; omega
      obtain ⟨A, c, hv, hc1, hc2, ho⟩ := HO.out.own'
      obtain ⟨b, N, f, rfl, hb1, hb2, hrow, hN, hf⟩ := ho hl0
      subst hv
      have hlk : l.length = k := HLL.out
      have HRW := Lib.hid hrow
      have HF := Lib.hid hf
      have hkl : (k : Int) ≤ (l.length : Int) := by omega
      clear ho hrow hf hlk
      go_wp2_with fail
      refine (pick n _ a len cap zs q (k : Int) hR (by omega) (by omega) (by omega)).mono ?_
      intro e w4 hP
      obtain ⟨v4, rfl, v40, v41, k4, R4⟩ := hP
      go_wp2_with fail
      refine (pick n _ a len cap zs (q + 1) 4 R4 (by omega) (by omega) (by omega)).mono ?_
      intro e w5 hP
      obtain ⟨v5, rfl, v50, v51, k5, R5⟩ := hP
      obtain ⟨j, rfl⟩ := Int.eq_ofNat_of_zero_le v40
      have hjl : j < l.length := by omega
      have K5 := Lib.hid (HK.out.trans (k4.trans k5))
      have O5 := Lib.hid (HO.out.kept (k4.trans k5) hn)
      have hbr := hb2
      have hrow5 := HRW.out.of_block ((k4.trans k5).block b hb2 (by omega))
      have hcell := hrow5.cell (i := j) (by omega)
      rw [HF.out j hjl] at hcell
      have hfr := hrow5.frozen j
      have hos5 := K5.out.size
      have hos45 := (k4.trans k5).size
      have OS := Lib.hid (O5.out.stored j (1 + v5))
      have KS := Lib.hid (K5.out.setNew (q := ⟨b, j, none⟩) hb1 (.int .i64 (1 + v5)))
      have RS := Lib.hid (R5.setFar (q := ⟨b, j, none⟩) (show n < b by omega) (.int .i64 (1 + v5)))
      clear k4 k5 R4 hrow5
      go_wp2_with fail
      have hz : (w5.setCell ⟨b, j, none⟩ (.int .i64 (1 + v5))).heap.size = w5.heap.size := by simp [World.setCell]
      obtain ⟨ws, hws⟩ : ∃ ws : World, ws = w5.setCell ⟨b, j, none⟩ (.int .i64 (1 + v5)) := ⟨_, rfl⟩
      rw [← hws] at OS KS RS hz
      rw [← hws]
      have hsz : w.heap.size ≤ ws.heap.size := by omega
      clear hz hws O5 K5 R5 hcell hfr
      refine (odd n _ a len cap zs (q + 1 + 1) m RS.out (by omega) (by omega) (by omega)).mono ?_
      intro e w6 hP
      obtain ⟨o, rfl, k6, R6⟩ := hP
      have O6 := Lib.hid (OS.out.kept k6 hn)
      have K6 := Lib.hid (KS.out.trans k6)
      have hl' : (l.set j (1 + v5)).length = k := by rw [List.length_set]; exact HLL.out
      have HL' := Lib.hid hl'
      have hs6 := K6.out.size
      clear OS KS RS k6 hl'
      cases o with
      | false =>
        have HR6 := Lib.hid R6
        clear R6
        go_wp2_with fail
        go_ret
        obtain ⟨A, c, hv, _, ho⟩ := O6.out.own
        exact ⟨l.set j (1 + v5), A, c, q + 1 + 1 + 1, by rw [← hv, List.length_set]; rfl, by rw [HL'.out]; omega, K6.out, HR6.out, by omega, by omega, ho⟩
      | true =>
        go_wp2_with fail
        refine (pick n _ a len cap zs (q + 1 + 1 + 1) 3 R6 (by omega) (by omega) (by omega)).mono ?_
        intro e w7 hP
        obtain ⟨v7, rfl, v70, v71, k7, R7⟩ := hP
        have O7 := Lib.hid (O6.out.kept k7 hn)
        have K7 := Lib.hid (K6.out.trans k7)
        have hs7 := K7.out.size
        clear O6 K6 k7 R6
        have hv7 : v7 = 0 ∨ v7 = 1 ∨ v7 = 2 := by omega
        rcases hv7 with rfl | rfl | rfl
        · have hmk2 := HMK.out
          go_wp2_with fail
          go_ret
          refine ⟨List.replicate k 0, some ⟨w7.heap.size, 0, none⟩, k, q + 1 + 1 + 1 + 1, by rw [List.length_replicate]; rfl, by rw [List.length_replicate]; omega, K7.out.alloc _, R7.of_below ((Below.refl _ _).alloc (Nat.le_refl _) _), by omega, by omega, fun _ => ⟨w7.heap.size, k, _, rfl, hs7, by simp, World.rowIs_made w7 _ k _, by rw [List.length_replicate]; exact Nat.le_refl _, fun i hi => ?_⟩⟩
          rw [nth_eq _ _ hi]; simp
        · go_wp2_with (at_builtin; refine wpList_append_own_at _ rfl (.tmp 45) (.tmp 46) _ rfl w.heap.size 3 i0 (.int .i64 0) 1 8 Try.underlying24 HI0.out HZ0.out HZ1.out HZ2.out rfl (by decide) _ _ _ (by rw [List.length_set]; rfl) (O7.out.alloc _) ⟨w7.heap.size, 0, none⟩ 1 1 [.int .i64 1] rfl rfl (cell_one_new _ _ _) ?d2 ?d3 ?d4 ?d5 ?_)
          case d2 => first | rfl | (intro u hu; simp at hu; subst hu; rfl)
          case d3 => rw [HL'.out]; unfold maxLen; omega
          case d4 => rw [HL'.out]; omega
          case d5 => first | omega | (simp; omega)
          intro v' w8 hown hgrow _ _
          have HN : Hid (Grows w8 w.heap.size v' (l.set j (1 + v5) ++ [1])) := Grows.snoc (by rw [List.length_set]; exact hown)
          have HK8 := Lib.hid (K7.out.appended hgrow O7.out.lo)
          have HR8 := Lib.hid (R7.appended hgrow (fun k hk => by have := O7.out.lo k hk; omega))
          clear hown hgrow
          go_wp2_with fail
          go_ret
          obtain ⟨A, c, hv, _, ho⟩ := HN.out.own
          exact ⟨l.set j (1 + v5) ++ [1], A, c, q + 1 + 1 + 1 + 1, by rw [← hv]; rfl, by rw [List.length_append, HL'.out, List.length_singleton]; omega, HK8.out, HR8.out, by omega, by omega, ho⟩
        · go_wp2_with fail
          go_ret
          refine ⟨[-1], some ⟨w7.heap.size, 0, none⟩, 1, q + 1 + 1 + 1 + 1, rfl, by simp, K7.out.alloc _, R7.of_below ((Below.refl _ _).alloc (Nat.le_refl _) _), by omega, by omega, fun _ => ⟨w7.heap.size, 1, fun _ => .int .i64 (-1), rfl, hs7, by simp, World.rowIs_alloc w7 _ _ _ (fun i hi => by have : i = 0 := (by simp at hi; omega); subst this; rfl), Nat.le_refl _, fun i hi => by have : i = 0 := (by simp at hi; omega); subst this; rfl⟩⟩

end Go.Proofs.Ytjojilimdhekfaa
