/- The walks of what draws a game and a fair game without an oddity. (Written by wip/gen/draw0.py.) -/
import Derived.Test.YtlkjpmdnhccdpaaMH
namespace Go.Proofs.Ytlkjpmdnhccdpaa
set_option linter.unusedSimpArgs false
set_option linter.unusedVariables false
open Go.RowKit

set_option maxHeartbeats 400000 in
theorem odd0 (n : Nat) (w : World) : Calls Try.prog 35 #[.pointer (some ⟨n, 0, none⟩), .int .i64 0] w (fun e w' => e = .returned (.bool false) ∧ w' = w) := by
  go_enter Try.func35, Try.ntmps35
  go_wp2_with fail
  go_ret
  exact ⟨rfl, rfl⟩

set_option maxHeartbeats 4000000 in
set_option maxRecDepth 100000 in
theorem l20Game0 (n : Nat) (w : World) (a : Option Addr) (len cap : Nat) (zs : List Int) (p most : Int) (h : Reader n w a len cap zs p) (hp : p < 20000) (hq1 : 1 ≤ most) (hq2 : most ≤ 16) :
    Calls Try.prog 41 #[.pointer (some ⟨n, 0, none⟩), .int .i64 most, .int .i64 0] w (DrawnG n w a len cap zs p) := by
  have hn := h.lt
  have p0 := h.p_lo
  obtain ⟨i0, hi0, hz0, hz1, hz2⟩ := info_parts infoI
  obtain ⟨i1, hi1, hy0, hy1, hy2⟩ := info_parts infoR
  have HI0 := Lib.hid hi0
  have HZ0 := Lib.hid hz0
  have HZ1 := Lib.hid hz1
  have HZ2 := Lib.hid hz2
  have HI1 := Lib.hid hi1
  have HY0 := Lib.hid hy0
  have HY1 := Lib.hid hy1
  have HY2 := Lib.hid hy2
  clear hi0 hz0 hz1 hz2 hi1 hy0 hy1 hy2
  go_enter Try.func41, Try.ntmps41
  go_wp2_with fail
  refine (pick n _ a len cap zs p most h (by omega) (by omega) (by omega)).mono ?_
  intro e w1 hP
  obtain ⟨v1, rfl, v10, v11, k1, R1⟩ := hP
  go_wp2_with fail
  refine (pick n _ a len cap zs (p + 1) most R1 (by omega) (by omega) (by omega)).mono ?_
  intro e w2 hP
  obtain ⟨v2, rfl, v20, v21, k2, R2⟩ := hP
  have K2 := k1.trans k2
  clear k1 k2 R1 h
  go_wp2_with fail
  have R2' := R2.of_below ((Below.refl w2.heap.size w2).alloc (Nat.le_refl _) (.cells #[.int .i64 2, .int .i64 3, .int .i64 10] 3))
  refine (pick n _ a len cap zs (p + 1 + 1) 3 R2' (by omega) (by omega) (by omega)).mono ?_
  intro e w3 hP
  obtain ⟨v3, rfl, v30, v31, k3, R3⟩ := hP
  have hn2 := R2.lt
  have K3 := (K2.alloc (.cells #[.int .i64 2, .int .i64 3, .int .i64 10] 3)).trans k3
  obtain ⟨high, hh0, hh1, hhc⟩ := tab3' (w1 := w3) (k := w2.heap.size) ((k3.cell (p := w2.heap.size) (o := 0) (by simp) (by omega)).trans (by simp [go_sem])) ((k3.cell (p := w2.heap.size) (o := 1) (by simp) (by omega)).trans (by simp [go_sem])) ((k3.cell (p := w2.heap.size) (o := 2) (by simp) (by omega)).trans (by simp [go_sem])) v30 v31
  clear k3 R2 R2' K2
  have hs3 := K3.size
  have T0 : Hid (TabSt n w a len cap zs (p + 3) (1 + v2).toNat (.slice (some ⟨w3.heap.size, 0, none⟩) 0 0) 0 (w3.alloc (.cells #[] 40))) :=
    ⟨[], fun _ => none, fun _ => 0, p + 1 + 1 + 1, rfl, fun i hi => by omega, (GrowsR.lit w3 hs3 _ _).up (by simp) (Nat.le_refl _), K3.alloc _, R3.of_below ((Below.refl _ _).alloc (Nat.le_refl _) _), by omega, by omega⟩
  go_wp2_with fail
  clear hhc R3 K3
  go_loopw [10, 11] (fun v i wr => ∃ k : Nat, (k : Int) ≤ 1 + v1 ∧ i = .int .i64 k ∧ Hid (TabSt n w a len cap zs (p + 3) (1 + v2).toNat v k wr)) (fun _ i _ => (1 + v1).toNat - (intOf i).toNat)
  case atStart => exact ⟨0, by omega, rfl, T0⟩
  case round =>
    clear T0 hs3
    obtain ⟨k, hk, rfl, HT⟩ := hrel
    obtain ⟨g, AA, CC, p', hgl, hgr, hG, hK, hR, hp1, hp2⟩ := HT.out
    have HGL := Lib.hid hgl
    have HGR := Lib.hid hgr
    have HG := Lib.hid hG
    have HKp := Lib.hid hK
    have HRd := Lib.hid hR
    have hws := hK.size
    have hnw := hR.lt
    clear hgl hgr hG hK hR HT
    by_cases hlt : (k : Int) < 1 + v1
    · obtain ⟨wo, rfl⟩ : ∃ wo : World, wo = wr := ⟨_, rfl⟩
      have S0 : Hid (RowSt n wo a len cap zs p' (.slice (some ⟨wo.heap.size, 0, none⟩) 0 0) 0 (wo.alloc (.cells #[] 3))) :=
        ⟨[], p', rfl, Grows.lit wo (Nat.le_refl _), (Kept.refl _ _).alloc _, HRd.out.of_below ((Below.refl _ _).alloc (Nat.le_refl _) _), Int.le_refl _, by omega⟩
      go_wp2_with fail
      go_loopw [12, 13] (fun v i wr => ∃ x : Nat, (x : Int) ≤ 1 + v2 ∧ i = .int .i64 x ∧ Hid (RowSt n wo a len cap zs p' v x wr)) (fun _ i _ => (1 + v2).toNat - (intOf i).toNat)
      case atStart => exact ⟨0, by omega, rfl, S0⟩
      case round =>
        clear S0
        obtain ⟨x, hx, rfl, HS⟩ := hrel
        obtain ⟨l, q, hll, hO, hK, hR, hq3, hq4⟩ := HS.out
        have HLL := Lib.hid hll
        have HO := Lib.hid hO
        have HK := Lib.hid hK
        clear hll hO hK HS
        have hos := HK.out.size
        by_cases hlx : (x : Int) < 1 + v2
        · go_wp2_with fail
          refine (pick n _ a len cap zs q high hR (by omega) (by omega) (by omega)).mono ?_
          intro e w4 hP
          obtain ⟨v4, rfl, v40, v41, k4, R4⟩ := hP
          go_wp2_with fail
          refine (pick n _ a len cap zs (q + 1) high R4 (by omega) (by omega) (by omega)).mono ?_
          intro e w5 hP
          obtain ⟨v5, rfl, v50, v51, k5, R5⟩ := hP
          have K5 := Lib.hid (HK.out.trans (k4.trans k5))
          have O5 := Lib.hid (HO.out.kept (k4.trans k5) hnw)
          have hos5 := K5.out.size
          clear k4 k5 R4
          go_wp2_with (at_builtin; refine wpList_append_own_at _ rfl (.tmp 39) (.tmp 47) _ rfl wo.heap.size 3 i0 (.int .i64 0) 1 8 Try.underlying40 HI0.out HZ0.out HZ1.out HZ2.out rfl (by decide) _ _ _ rfl (O5.out.alloc _) ⟨w5.heap.size, 0, none⟩ 1 1 [.int .i64 (v4 - v5)] rfl rfl (cell_one_new _ _ _) ?c2 ?c3 ?c4 ?c5 ?_)
          case c2 => first | rfl | (intro u hu; simp at hu; subst hu; rfl)
          case c3 => rw [HLL.out]; unfold maxLen; omega
          case c4 => rw [HLL.out]; omega
          case c5 => first | omega | (simp; omega)
          intro v' w6 hown hgrow _ _
          have HN : Hid (RowSt n wo a len cap zs p' v' (x + 1) w6) :=
            ⟨l ++ [v4 - v5], q + 1 + 1, by rw [List.length_append, HLL.out]; rfl, Grows.snoc hown, K5.out.appended hgrow O5.out.lo, R5.appended hgrow (fun k hk => by have := O5.out.lo k hk; omega), by omega, by omega⟩
          clear hown hgrow
          go_wp2_with fail
          go_roundw
          case rel => exact ⟨x + 1, by omega, by go_num, HN⟩
          case measure => simp [intOf]; omega
        · have hx2 : x = (1 + v2).toNat := by omega
          obtain ⟨An, cn, hv, hcn1, hcn2, hon⟩ := HO.out.own'
          have HX := Lib.hid hx2
          have HGV := Lib.hid (HG.out.kept HK.out (by omega))
          have HON := Lib.hid hon
          have hnl := hR.lt
          subst hv
          clear hon hx2
          go_wp2_with (at_builtin; refine wpList_append_own_at _ rfl (.tmp 49) (.tmp 51) _ rfl w.heap.size 40 i1 (.slice none 0 0) 1 24 Try.underlying23 HI1.out HY0.out HY1.out HY2.out rfl (by decide) _ _ _ rfl (HGV.out.alloc _) ⟨wr.heap.size, 0, none⟩ 1 1 [.slice An l.length cn] rfl rfl (cell_one_new _ _ _) ?c2 ?c3 ?c4 ?c5 ?_)
          case c2 => first | rfl | (intro u hu; simp at hu; subst hu; rfl)
          case c3 => rw [HGL.out]; unfold maxLen; omega
          case c4 => rw [HGL.out]; omega
          case c5 => first | omega | (simp; omega)
          intro v' w4 hown hgrow _ hat
          have HN : Hid (TabSt n w a len cap zs (p + 3) (1 + v2).toNat v' (k + 1) w4) := by
            obtain ⟨A', C', hg'⟩ := HGV.out.snoc HON.out hcn1 hcn2 hws hown hgrow (by rcases hat with e | e; exact .inl e; exact .inr (by rw [e]; try simp))
            refine ⟨g ++ [l], A', C', q, by rw [List.length_append, HGL.out]; rfl, fun i hi => ?_, hg', (HKp.out.trans HK.out).appended hgrow HGV.out.lo, hR.appended hgrow (fun k hk => by have := HGV.out.lo k hk; omega), by omega, by omega⟩
            by_cases e : i < k
            · rw [rowAt_snoc_lt _ _ _ (by rw [HGL.out]; exact e)]; exact HGR.out i e
            · have e2 : i = g.length := by rw [HGL.out]; omega
              rw [e2, rowAt_snoc_eq, HLL.out, HX.out]
          clear hown hgrow hat
          go_wp2_with fail
          go_roundw
          case rel => exact ⟨k + 1, by omega, by go_num, HN⟩
          case measure => simp [intOf]; omega
    · -- all rows are there
      go_wp2_with fail
      refine (odd0 n _).mono ?_
      intro e w4 hP
      obtain ⟨rfl, rfl⟩ := hP
      have hG4 := HG.out
      have K4 := HKp.out
      have R4 := HRd.out
      have hk0 : k = g.length := HGL.out.symm
      have hrl : ∀ i, i < g.length → (rowAt g i).length ≤ 16 := fun i hi => by rw [HGR.out i (by omega)]; omega
      have hgl17 : g.length ≤ 17 := by omega
      have HG4 := Lib.hid hG4
      have HK4 := Lib.hid K4
      have HRL := Lib.hid hrl
      have HR4 := Lib.hid R4
      clear hG4 K4 hk0 hrl R4
      go_wp2_with fail
      go_ret
      obtain ⟨T, c, hv, hc1, hc2, hown⟩ := HG4.out.table
      exact ⟨g, T, c, _, by rw [← hv]; rfl, hc1, hc2, hgl17, HRL.out, HK4.out, HR4.out, by omega, by omega, hown.more (Nat.le_refl _) HG4.out.hile⟩

set_option maxHeartbeats 2000000 in
theorem l20Fair0 (n : Nat) (w : World) (a : Option Addr) (len cap : Nat) (zs : List Int) (p : Int) (h : Reader n w a len cap zs p) (hp : p < 19000) :
    Calls Try.prog 62 #[.pointer (some ⟨n, 0, none⟩), .int .i64 0] w (DrawnF n w a len cap zs p) := by
  have hnw := h.lt
  go_enter Try.func62, Try.ntmps62
  go_wp2_with fail
  refine (pick n w a len cap zs p 6 h (by omega) (by omega) (by omega)).mono ?_
  intro e w1 hP
  obtain ⟨v, rfl, v0, v1, k1, R1⟩ := hP
  have hs1 := k1.size
  have h3 : v = 0 ∨ v = 1 ∨ 2 ≤ v := by omega
  rcases h3 with rfl | rfl | hv
  · clear v0 v1
    have A0 := ((lit_row w1 0 1 (-1)).alloc (.cells #[.int .i64 (-1), .int .i64 0, .int .i64 1] 3)).alloc (.cells #[.int .i64 1, .int .i64 (-1), .int .i64 0] 3)
    have A1 := (lit_row (w1.alloc (.cells #[.int .i64 0, .int .i64 1, .int .i64 (-1)] 3)) (-1) 0 1).alloc (.cells #[.int .i64 1, .int .i64 (-1), .int .i64 0] 3)
    have A2 := lit_row ((w1.alloc (.cells #[.int .i64 0, .int .i64 1, .int .i64 (-1)] 3)).alloc (.cells #[.int .i64 (-1), .int .i64 0, .int .i64 1] 3)) 1 (-1) 0
    rw [szA] at A1 A2
    rw [szA] at A2
    have AT := top3 (((w1.alloc (.cells #[.int .i64 0, .int .i64 1, .int .i64 (-1)] 3)).alloc (.cells #[.int .i64 (-1), .int .i64 0, .int .i64 1] 3)).alloc (.cells #[.int .i64 1, .int .i64 (-1), .int .i64 0] 3))
      (.slice (some ⟨w1.heap.size, 0, none⟩) 3 3) (.slice (some ⟨w1.heap.size + 1, 0, none⟩) 3 3) (.slice (some ⟨w1.heap.size + 1 + 1, 0, none⟩) 3 3)
    rw [szA, szA, szA] at AT
    have HO := Lib.hid (own3 (lo := w.heap.size) (hi := w1.heap.size + 1 + 1 + 1 + 1) (A0.alloc _) (A1.alloc _) (A2.alloc _) rfl rfl rfl (by omega) (by omega) (by omega) (by omega) (by omega) (by omega) (by omega) AT)
    have HK := Lib.hid (((k1.alloc (.cells #[.int .i64 0, .int .i64 1, .int .i64 (-1)] 3)).alloc (.cells #[.int .i64 (-1), .int .i64 0, .int .i64 1] 3)).alloc (.cells #[.int .i64 1, .int .i64 (-1), .int .i64 0] 3))
    have HR := Lib.hid R1
    clear A0 A1 A2 AT R1 k1 h
    go_wp2_with fail
    go_ret
    exact ⟨[[0, 1, -1], [-1, 0, 1], [1, -1, 0]], _, 3, p + 1, rfl, Nat.le_refl _, by decide, by decide, len3 rfl rfl rfl, HK.out.alloc _, HR.out.of_below (by exact (by repeat (first | exact Below.refl _ _ | assumption | exact bel1 (by assumption) | exact bel2 (by assumption) | exact bel3 (by assumption) | exact bel4 (by assumption) | refine Below.drew ?_ | refine below_drewN ?_ _ | refine Below.setCell ?_ (by first | (simp; done) | (simp; omega)) _ | refine Below.alloc ?_ (by first | (simp; done) | (simp; omega)) _))), by omega, by omega, by
      have := HO.out
      rw [show ((((w1.alloc (.cells #[.int .i64 0, .int .i64 1, .int .i64 (-1)] 3)).alloc (.cells #[.int .i64 (-1), .int .i64 0, .int .i64 1] 3)).alloc (.cells #[.int .i64 1, .int .i64 (-1), .int .i64 0] 3)).alloc (.cells #[.slice (some ⟨w1.heap.size, 0, none⟩) 3 3, .slice (some ⟨w1.heap.size + 1, 0, none⟩) 3 3, .slice (some ⟨w1.heap.size + 1 + 1, 0, none⟩) 3 3] 40)).heap.size = w1.heap.size + 1 + 1 + 1 + 1 from by rw [szA, szA, szA, szA]]
      exact this⟩
  · clear v0 v1
    go_wp2_with fail
    refine (pick n w1 a len cap zs (p + 1) 9 R1 (by omega) (by omega) (by omega)).mono ?_
    intro e w2 hP2
    obtain ⟨x, rfl, x0, x1, k2, R2⟩ := hP2
    have hs2 := k2.size
    have hn2 := R2.lt
    have RA := R2.of_below ((Below.refl _ _).alloc (Nat.le_refl _) (.cells #[.int .i64 x, .int .i64 0, .int .i64 0] 3))
    have A0 := lit_row w2 x 0 0
    go_wp2_with fail
    refine (pick n _ a len cap zs (p + 1 + 1) 8 RA (by omega) (by omega) (by omega)).mono ?_
    intro e w3 hP3
    obtain ⟨y, rfl, y0, y1, k3, R3⟩ := hP3
    have hs3 := k3.size
    rw [szA] at hs3
    have hn3 := R3.lt
    have B0 : IntRow w3 w2.heap.size [x, 0, 0] := World.rowIs.of_block A0 (k3.block _ (by rw [szA]; omega) (by omega))
    have RB := R3.of_below ((Below.refl _ _).alloc (Nat.le_refl _) (.cells #[.int .i64 0, .int .i64 (1 + y), .int .i64 0] 3))
    have B1 := lit_row w3 0 (1 + y) 0
    have B0' := B0.alloc (.cells #[.int .i64 0, .int .i64 (1 + y), .int .i64 0] 3)
    clear A0 B0
    go_wp2_with fail
    refine (pick n _ a len cap zs (p + 1 + 1 + 1) 8 RB (by omega) (by omega) (by omega)).mono ?_
    intro e w4 hP4
    obtain ⟨z, rfl, z0, z1, k4, R4⟩ := hP4
    have hs4 := k4.size
    rw [szA] at hs4
    have C0 : IntRow w4 w2.heap.size [x, 0, 0] := World.rowIs.of_block B0' (k4.block _ (by rw [szA]; omega) (by omega))
    have C1 : IntRow w4 w3.heap.size [0, 1 + y, 0] := World.rowIs.of_block B1 (k4.block _ (by rw [szA]; omega) (by omega))
    have C2 := lit_row w4 0 0 (1 + z)
    have AT := top3 (w4.alloc (.cells #[.int .i64 0, .int .i64 0, .int .i64 (1 + z)] 3)) (.slice (some ⟨w2.heap.size, 0, none⟩) 3 3) (.slice (some ⟨w3.heap.size, 0, none⟩) 3 3) (.slice (some ⟨w4.heap.size, 0, none⟩) 3 3)
    rw [szA] at AT
    have HO := Lib.hid (own3 (lo := w.heap.size) (hi := w4.heap.size + 1 + 1) ((C0.alloc _).alloc _) ((C1.alloc _).alloc _) (C2.alloc _) rfl rfl rfl (by omega) (by omega) (by omega) (by omega) (by omega) (by omega) (by omega) AT)
    have HK := Lib.hid ((((k1.trans k2).alloc (.cells #[.int .i64 x, .int .i64 0, .int .i64 0] 3)).trans k3 |>.alloc (.cells #[.int .i64 0, .int .i64 (1 + y), .int .i64 0] 3)).trans k4)
    have HR := Lib.hid R4
    clear C0 C1 C2 AT B0' B1 RA RB R1 R2 R3 R4 k1 k2 k3 k4 h
    go_wp2_with fail
    go_ret
    exact ⟨[[x, 0, 0], [0, 1 + y, 0], [0, 0, 1 + z]], _, 3, p + 1 + 1 + 1 + 1, rfl, Nat.le_refl _, by decide, by show 3 ≤ 17; omega, len3 rfl rfl rfl, (HK.out.alloc _).alloc _, HR.out.of_below (by exact (by repeat (first | exact Below.refl _ _ | assumption | exact bel1 (by assumption) | exact bel2 (by assumption) | exact bel3 (by assumption) | exact bel4 (by assumption) | refine Below.drew ?_ | refine below_drewN ?_ _ | refine Below.setCell ?_ (by first | (simp; done) | (simp; omega)) _ | refine Below.alloc ?_ (by first | (simp; done) | (simp; omega)) _))), by omega, by omega, by
      have := HO.out
      rw [show ((w4.alloc (.cells #[.int .i64 0, .int .i64 0, .int .i64 (1 + z)] 3)).alloc (.cells #[.slice (some ⟨w2.heap.size, 0, none⟩) 3 3, .slice (some ⟨w3.heap.size, 0, none⟩) 3 3, .slice (some ⟨w4.heap.size, 0, none⟩) 3 3] 40)).heap.size = w4.heap.size + 1 + 1 from by rw [szA, szA]]
      exact this⟩
  · have e0 : (v == 0) = false := beq_eq_false_iff_ne.2 (by omega)
    have e1 : (v == 1) = false := beq_eq_false_iff_ne.2 (by omega)
    go_wp2_with fail
    refine (l20Game0 n w1 a len cap zs (p + 1) 4 R1 (by omega) (by omega) (by omega)).mono ?_
    rintro e w2 ⟨g, T, c, p', rfl, h1, h2, h3, h4, hK, hR, hp1, hp2, ho⟩
    have HK := Lib.hid (k1.trans hK)
    have HR := Lib.hid hR
    have HO := Lib.hid ho
    have H2 := Lib.hid h2
    have H4 := Lib.hid h4
    clear hK hR ho h2 h4
    go_wp2_with fail
    go_ret
    exact ⟨g, T, c, p', rfl, h1, H2.out, h3, H4.out, HK.out, HR.out, by omega, by omega, HO.out.more hs1 (Nat.le_refl _)⟩

end Go.Proofs.Ytlkjpmdnhccdpaa
