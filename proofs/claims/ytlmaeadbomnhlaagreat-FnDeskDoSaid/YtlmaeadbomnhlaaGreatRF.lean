/- Texts in one: DrawDb, PastA, DrawDc, DrawDe, DrawDf, DrawDg. -/
import Derived.Test.YtlmaeadbomnhlaaGreatMH
import Derived.Test.YtlmaeadbomnhlaaGreatQK
import Derived.ArgAppend
import Derived.Maps.AppendAt
import Derived.Test.YtlmaeadbomnhlaaGreatDrawDa
import Derived.Test.YtlmaeadbomnhlaaGreatQD
namespace Go.Proofs.YtlmaeadbomnhlaaGreat
set_option linter.unusedSimpArgs false
set_option linter.unusedVariables false
open Go.RowKit
set_option maxHeartbeats 400000 in
theorem odd0 (n : Nat) (w : World) : Calls Tryz.prog 28 #[.pointer (some ⟨n, 0, none⟩), .int .i64 0] w (fun e w' => e = .returned (.bool false) ∧ w' = w) := by
  go_enter Tryz.func28, Tryz.ntmps28
  go_wp2_with fail
  go_ret
  exact ⟨rfl, rfl⟩
set_option maxHeartbeats 4000000 in
set_option maxRecDepth 100000 in
theorem l20Game0 (n : Nat) (w : World) (a : Option Addr) (len cap : Nat) (zs : List Int) (p most : Int) (h : Reader n w a len cap zs p) (hp : p < 20000) (hq1 : 1 ≤ most) (hq2 : most ≤ 16) :
    Calls Tryz.prog 50 #[.pointer (some ⟨n, 0, none⟩), .int .i64 most, .int .i64 0] w (DrawnG n w a len cap zs p) := by
  have hn := h.lt
  have p0 := h.p_lo
  obtain ⟨i0, hi0, hz0, hz1, hz2⟩ := info_parts infoI
  obtain ⟨i1, hi1, hy0, hy1, hy2⟩ := info_parts infoR
  have HI0 := Lib.hid hi0
  have HZ0 := Lib.hid hz0
  have HZ1 := Lib.hid hz1
  have HZ2 := Lib.hid hz2
  have HI1 := Lib.hid hi1
  have HY0 := Lib.hid hy0
  have HY1 := Lib.hid hy1
  have HY2 := Lib.hid hy2
  clear hi0 hz0 hz1 hz2 hi1 hy0 hy1 hy2
  go_enter Tryz.func50, Tryz.ntmps50
  go_wp2_with fail
  refine (pick n _ a len cap zs p most h (by omega) (by omega) (by omega)).mono ?_
  intro e w1 hP
  obtain ⟨v1, rfl, v10, v11, k1, R1⟩ := hP
  go_wp2_with fail
  refine (pick n _ a len cap zs (p + 1) most R1 (by omega) (by omega) (by omega)).mono ?_
  intro e w2 hP
  obtain ⟨v2, rfl, v20, v21, k2, R2⟩ := hP
  have K2 := k1.trans k2
  clear k1 k2 R1 h
  go_wp2_with fail
  have R2' := R2.of_below ((Below.refl w2.heap.size w2).alloc (Nat.le_refl _) (.cells #[.int .i64 2, .int .i64 3, .int .i64 10] 3))
  refine (pick n _ a len cap zs (p + 1 + 1) 3 R2' (by omega) (by omega) (by omega)).mono ?_
  intro e w3 hP
  obtain ⟨v3, rfl, v30, v31, k3, R3⟩ := hP
  have hn2 := R2.lt
  have K3 := (K2.alloc (.cells #[.int .i64 2, .int .i64 3, .int .i64 10] 3)).trans k3
  obtain ⟨high, hh0, hh1, hhc⟩ := tab3' (w1 := w3) (k := w2.heap.size) ((k3.cell (p := w2.heap.size) (o := 0) (by simp) (by omega)).trans (by simp [go_sem])) ((k3.cell (p := w2.heap.size) (o := 1) (by simp) (by omega)).trans (by simp [go_sem])) ((k3.cell (p := w2.heap.size) (o := 2) (by simp) (by omega)).trans (by simp [go_sem])) v30 v31
  clear k3 R2 R2' K2
  have hs3 := K3.size
  have T0 : Hid (TabSt n w a len cap zs (p + 3) (1 + v2).toNat (.slice (some ⟨w3.heap.size, 0, none⟩) 0 0) 0 (w3.alloc (.cells #[] 52))) :=
    ⟨[], fun _ => none, fun _ => 0, p + 1 + 1 + 1, rfl, fun i hi => by omega, (GrowsR.lit w3 hs3 _ _).up (by simp) (Nat.le_refl _), K3.alloc _, R3.of_below ((Below.refl _ _).alloc (Nat.le_refl _) _), by omega, by omega⟩
  go_wp2_with fail
  clear hhc R3 K3
  go_loopw [10, 11] (fun v i wr => ∃ k : Nat, (k : Int) ≤ 1 + v1 ∧ i = .int .i64 k ∧ Hid (TabSt n w a len cap zs (p + 3) (1 + v2).toNat v k wr)) (fun _ i _ => (1 + v1).toNat - (intOf i).toNat)
  case atStart => exact ⟨0, by omega, rfl, T0⟩
  case round =>
    clear T0 hs3
    obtain ⟨k, hk, rfl, HT⟩ := hrel
    obtain ⟨g, AA, CC, p', hgl, hgr, hG, hK, hR, hp1, hp2⟩ := HT.out
    have HGL := Lib.hid hgl
    have HGR := Lib.hid hgr
    have HG := Lib.hid hG
    have HKp := Lib.hid hK
    have HRd := Lib.hid hR
    have hws := hK.size
    have hnw := hR.lt
    clear hgl hgr hG hK hR HT
    by_cases hlt : (k : Int) < 1 + v1
    · obtain ⟨wo, rfl⟩ : ∃ wo : World, wo = wr := ⟨_, rfl⟩
      have S0 : Hid (RowSt n wo a len cap zs p' (.slice (some ⟨wo.heap.size, 0, none⟩) 0 0) 0 (wo.alloc (.cells #[] 3))) :=
        ⟨[], p', rfl, Grows.lit wo (Nat.le_refl _), (Kept.refl _ _).alloc _, HRd.out.of_below ((Below.refl _ _).alloc (Nat.le_refl _) _), Int.le_refl _, by omega⟩
      go_wp2_with fail
      go_loopw [12, 13] (fun v i wr => ∃ x : Nat, (x : Int) ≤ 1 + v2 ∧ i = .int .i64 x ∧ Hid (RowSt n wo a len cap zs p' v x wr)) (fun _ i _ => (1 + v2).toNat - (intOf i).toNat)
      case atStart => exact ⟨0, by omega, rfl, S0⟩
      case round =>
        clear S0
        obtain ⟨x, hx, rfl, HS⟩ := hrel
        obtain ⟨l, q, hll, hO, hK, hR, hq3, hq4⟩ := HS.out
        have HLL := Lib.hid hll
        have HO := Lib.hid hO
        have HK := Lib.hid hK
        clear hll hO hK HS
        have hos := HK.out.size
        by_cases hlx : (x : Int) < 1 + v2
        · go_wp2_with fail
          refine (pick n _ a len cap zs q high hR (by omega) (by omega) (by omega)).mono ?_
          intro e w4 hP
          obtain ⟨v4, rfl, v40, v41, k4, R4⟩ := hP
          go_wp2_with fail
          refine (pick n _ a len cap zs (q + 1) high R4 (by omega) (by omega) (by omega)).mono ?_
          intro e w5 hP
          obtain ⟨v5, rfl, v50, v51, k5, R5⟩ := hP
          have K5 := Lib.hid (HK.out.trans (k4.trans k5))
          have O5 := Lib.hid (HO.out.kept (k4.trans k5) hnw)
          have hos5 := K5.out.size
          clear k4 k5 R4
          go_wp2_with (at_builtin; refine wpList_append_own_at _ rfl (.tmp 39) (.tmp 47) _ rfl wo.heap.size 3 i0 (.int .i64 0) 1 8 Tryz.underlying52 HI0.out HZ0.out HZ1.out HZ2.out rfl (by decide) _ _ _ rfl (O5.out.alloc _) ⟨w5.heap.size, 0, none⟩ 1 1 [.int .i64 (v4 - v5)] rfl rfl (cell_one_new _ _ _) ?c2 ?c3 ?c4 ?c5 ?_)
          case c2 => first | rfl | (intro u hu; simp at hu; subst hu; rfl)
          case c3 => rw [HLL.out]; unfold maxLen; omega
          case c4 => rw [HLL.out]; omega
          case c5 => first | omega | (simp; omega)
          intro v' w6 hown hgrow _ _
          have HN : Hid (RowSt n wo a len cap zs p' v' (x + 1) w6) :=
            ⟨l ++ [v4 - v5], q + 1 + 1, by rw [List.length_append, HLL.out]; rfl, Grows.snoc hown, K5.out.appended hgrow O5.out.lo, R5.appended hgrow (fun k hk => by have := O5.out.lo k hk; omega), by omega, by omega⟩
          clear hown hgrow
          go_wp2_with fail
          go_roundw
          case rel => exact ⟨x + 1, by omega, by go_num, HN⟩
          case measure => simp [intOf]; omega
        · have hx2 : x = (1 + v2).toNat := by omega
          obtain ⟨An, cn, hv, hcn1, hcn2, hon⟩ := HO.out.own'
          have HX := Lib.hid hx2
          have HGV := Lib.hid (HG.out.kept HK.out (by omega))
          have HON := Lib.hid hon
          have hnl := hR.lt
          subst hv
          clear hon hx2
          go_wp2_with (at_builtin; refine wpList_append_own_at _ rfl (.tmp 49) (.tmp 51) _ rfl w.heap.size 52 i1 (.slice none 0 0) 1 24 Tryz.underlying23 HI1.out HY0.out HY1.out HY2.out rfl (by decide) _ _ _ rfl (HGV.out.alloc _) ⟨wr.heap.size, 0, none⟩ 1 1 [.slice An l.length cn] rfl rfl (cell_one_new _ _ _) ?c2 ?c3 ?c4 ?c5 ?_)
          case c2 => first | rfl | (intro u hu; simp at hu; subst hu; rfl)
          case c3 => rw [HGL.out]; unfold maxLen; omega
          case c4 => rw [HGL.out]; omega
          case c5 => first | omega | (simp; omega)
          intro v' w4 hown hgrow _ hat
          have HN : Hid (TabSt n w a len cap zs (p + 3) (1 + v2).toNat v' (k + 1) w4) := by
            obtain ⟨A', C', hg'⟩ := HGV.out.snoc HON.out hcn1 hcn2 hws hown hgrow (by rcases hat with e | e; exact .inl e; exact .inr (by rw [e]; try simp))
            refine ⟨g ++ [l], A', C', q, by rw [List.length_append, HGL.out]; rfl, fun i hi => ?_, hg', (HKp.out.trans HK.out).appended hgrow HGV.out.lo, hR.appended hgrow (fun k hk => by have := HGV.out.lo k hk; omega), by omega, by omega⟩
            by_cases e : i < k
            · rw [rowAt_snoc_lt _ _ _ (by rw [HGL.out]; exact e)]; exact HGR.out i e
            · have e2 : i = g.length := by rw [HGL.out]; omega
              rw [e2, rowAt_snoc_eq, HLL.out, HX.out]
          clear hown hgrow hat
          go_wp2_with fail
          go_roundw
          case rel => exact ⟨k + 1, by omega, by go_num, HN⟩
          case measure => simp [intOf]; omega
    · -- all rows are there
      go_wp2_with fail
      refine (odd0 n _).mono ?_
      intro e w4 hP
      obtain ⟨rfl, rfl⟩ := hP
      have hG4 := HG.out
      have K4 := HKp.out
      have R4 := HRd.out
      have hk0 : k = g.length := HGL.out.symm
      have hrl : ∀ i, i < g.length → (rowAt g i).length ≤ 16 := fun i hi => by rw [HGR.out i (by omega)]; omega
      have hgl17 : g.length ≤ 17 := by omega
      have HG4 := Lib.hid hG4
      have HK4 := Lib.hid K4
      have HRL := Lib.hid hrl
      have HR4 := Lib.hid R4
      clear hG4 K4 hk0 hrl R4
      go_wp2_with fail
      go_ret
      obtain ⟨T, c, hv, hc1, hc2, hown⟩ := HG4.out.table
      exact ⟨g, T, c, _, by rw [← hv]; rfl, hc1, hc2, hgl17, HRL.out, HK4.out, HR4.out, by omega, by omega, hown.more (Nat.le_refl _) HG4.out.hile⟩
set_option maxHeartbeats 2000000 in
theorem l20Fair0 (n : Nat) (w : World) (a : Option Addr) (len cap : Nat) (zs : List Int) (p : Int) (h : Reader n w a len cap zs p) (hp : p < 19000) :
    Calls Tryz.prog 26 #[.pointer (some ⟨n, 0, none⟩), .int .i64 0] w (DrawnF n w a len cap zs p) := by
  have hnw := h.lt
  go_enter Tryz.func26, Tryz.ntmps26
  go_wp2_with fail
  refine (pick n w a len cap zs p 6 h (by omega) (by omega) (by omega)).mono ?_
  intro e w1 hP
  obtain ⟨v, rfl, v0, v1, k1, R1⟩ := hP
  have hs1 := k1.size
  have h3 : v = 0 ∨ v = 1 ∨ 2 ≤ v := by omega
  rcases h3 with rfl | rfl | hv
  · clear v0 v1
    have A0 := ((lit_row w1 0 1 (-1)).alloc (.cells #[.int .i64 (-1), .int .i64 0, .int .i64 1] 3)).alloc (.cells #[.int .i64 1, .int .i64 (-1), .int .i64 0] 3)
    have A1 := (lit_row (w1.alloc (.cells #[.int .i64 0, .int .i64 1, .int .i64 (-1)] 3)) (-1) 0 1).alloc (.cells #[.int .i64 1, .int .i64 (-1), .int .i64 0] 3)
    have A2 := lit_row ((w1.alloc (.cells #[.int .i64 0, .int .i64 1, .int .i64 (-1)] 3)).alloc (.cells #[.int .i64 (-1), .int .i64 0, .int .i64 1] 3)) 1 (-1) 0
    rw [szA] at A1 A2
    rw [szA] at A2
    have AT := top3 (((w1.alloc (.cells #[.int .i64 0, .int .i64 1, .int .i64 (-1)] 3)).alloc (.cells #[.int .i64 (-1), .int .i64 0, .int .i64 1] 3)).alloc (.cells #[.int .i64 1, .int .i64 (-1), .int .i64 0] 3))
      (.slice (some ⟨w1.heap.size, 0, none⟩) 3 3) (.slice (some ⟨w1.heap.size + 1, 0, none⟩) 3 3) (.slice (some ⟨w1.heap.size + 1 + 1, 0, none⟩) 3 3)
    rw [szA, szA, szA] at AT
    have HO := Lib.hid (own3 (lo := w.heap.size) (hi := w1.heap.size + 1 + 1 + 1 + 1) (A0.alloc _) (A1.alloc _) (A2.alloc _) rfl rfl rfl (by omega) (by omega) (by omega) (by omega) (by omega) (by omega) (by omega) AT)
    have HK := Lib.hid (((k1.alloc (.cells #[.int .i64 0, .int .i64 1, .int .i64 (-1)] 3)).alloc (.cells #[.int .i64 (-1), .int .i64 0, .int .i64 1] 3)).alloc (.cells #[.int .i64 1, .int .i64 (-1), .int .i64 0] 3))
    have HR := Lib.hid R1
    clear A0 A1 A2 AT R1 k1 h
    go_wp2_with fail
    go_ret
    exact ⟨[[0, 1, -1], [-1, 0, 1], [1, -1, 0]], _, 3, p + 1, rfl, Nat.le_refl _, by decide, by decide, len3 rfl rfl rfl, HK.out.alloc _, HR.out.of_below (by exact (by repeat (first | exact Below.refl _ _ | assumption | exact bel1 (by assumption) | exact bel2 (by assumption) | exact bel3 (by assumption) | exact bel4 (by assumption) | refine Below.drew ?_ | refine below_drewN ?_ _ | refine Below.setCell ?_ (by first | (simp; done) | (simp; omega)) _ | refine Below.alloc ?_ (by first | (simp; done) | (simp; omega)) _))), by omega, by omega, by
      have := HO.out
      rw [show ((((w1.alloc (.cells #[.int .i64 0, .int .i64 1, .int .i64 (-1)] 3)).alloc (.cells #[.int .i64 (-1), .int .i64 0, .int .i64 1] 3)).alloc (.cells #[.int .i64 1, .int .i64 (-1), .int .i64 0] 3)).alloc (.cells #[.slice (some ⟨w1.heap.size, 0, none⟩) 3 3, .slice (some ⟨w1.heap.size + 1, 0, none⟩) 3 3, .slice (some ⟨w1.heap.size + 1 + 1, 0, none⟩) 3 3] 52)).heap.size = w1.heap.size + 1 + 1 + 1 + 1 from by rw [szA, szA, szA, szA]]
      exact this⟩
  · clear v0 v1
    go_wp2_with fail
    refine (pick n w1 a len cap zs (p + 1) 9 R1 (by omega) (by omega) (by omega)).mono ?_
    intro e w2 hP2
    obtain ⟨x, rfl, x0, x1, k2, R2⟩ := hP2
    have hs2 := k2.size
    have hn2 := R2.lt
    have RA := R2.of_below ((Below.refl _ _).alloc (Nat.le_refl _) (.cells #[.int .i64 x, .int .i64 0, .int .i64 0] 3))
    have A0 := lit_row w2 x 0 0
    go_wp2_with fail
    refine (pick n _ a len cap zs (p + 1 + 1) 8 RA (by omega) (by omega) (by omega)).mono ?_
    intro e w3 hP3
    obtain ⟨y, rfl, y0, y1, k3, R3⟩ := hP3
    have hs3 := k3.size
    rw [szA] at hs3
    have hn3 := R3.lt
    have B0 : IntRow w3 w2.heap.size [x, 0, 0] := World.rowIs.of_block A0 (k3.block _ (by rw [szA]; omega) (by omega))
    have RB := R3.of_below ((Below.refl _ _).alloc (Nat.le_refl _) (.cells #[.int .i64 0, .int .i64 (1 + y), .int .i64 0] 3))
    have B1 := lit_row w3 0 (1 + y) 0
    have B0' := B0.alloc (.cells #[.int .i64 0, .int .i64 (1 + y), .int .i64 0] 3)
    clear A0 B0
    go_wp2_with fail
    refine (pick n _ a len cap zs (p + 1 + 1 + 1) 8 RB (by omega) (by omega) (by omega)).mono ?_
    intro e w4 hP4
    obtain ⟨z, rfl, z0, z1, k4, R4⟩ := hP4
    have hs4 := k4.size
    rw [szA] at hs4
    have C0 : IntRow w4 w2.heap.size [x, 0, 0] := World.rowIs.of_block B0' (k4.block _ (by rw [szA]; omega) (by omega))
    have C1 : IntRow w4 w3.heap.size [0, 1 + y, 0] := World.rowIs.of_block B1 (k4.block _ (by rw [szA]; omega) (by omega))
    have C2 := lit_row w4 0 0 (1 + z)
    have AT := top3 (w4.alloc (.cells #[.int .i64 0, .int .i64 0, .int .i64 (1 + z)] 3)) (.slice (some ⟨w2.heap.size, 0, none⟩) 3 3) (.slice (some ⟨w3.heap.size, 0, none⟩) 3 3) (.slice (some ⟨w4.heap.size, 0, none⟩) 3 3)
    rw [szA] at AT
    have HO := Lib.hid (own3 (lo := w.heap.size) (hi := w4.heap.size + 1 + 1) ((C0.alloc _).alloc _) ((C1.alloc _).alloc _) (C2.alloc _) rfl rfl rfl (by omega) (by omega) (by omega) (by omega) (by omega) (by omega) (by omega) AT)
    have HK := Lib.hid ((((k1.trans k2).alloc (.cells #[.int .i64 x, .int .i64 0, .int .i64 0] 3)).trans k3 |>.alloc (.cells #[.int .i64 0, .int .i64 (1 + y), .int .i64 0] 3)).trans k4)
    have HR := Lib.hid R4
    clear C0 C1 C2 AT B0' B1 RA RB R1 R2 R3 R4 k1 k2 k3 k4 h
    go_wp2_with fail
    go_ret
    exact ⟨[[x, 0, 0], [0, 1 + y, 0], [0, 0, 1 + z]], _, 3, p + 1 + 1 + 1 + 1, rfl, Nat.le_refl _, by decide, by show 3 ≤ 17; omega, len3 rfl rfl rfl, (HK.out.alloc _).alloc _, HR.out.of_below (by exact (by repeat (first | exact Below.refl _ _ | assumption | exact bel1 (by assumption) | exact bel2 (by assumption) | exact bel3 (by assumption) | exact bel4 (by assumption) | refine Below.drew ?_ | refine below_drewN ?_ _ | refine Below.setCell ?_ (by first | (simp; done) | (simp; omega)) _ | refine Below.alloc ?_ (by first | (simp; done) | (simp; omega)) _))), by omega, by omega, by
      have := HO.out
      rw [show ((w4.alloc (.cells #[.int .i64 0, .int .i64 0, .int .i64 (1 + z)] 3)).alloc (.cells #[.slice (some ⟨w2.heap.size, 0, none⟩) 3 3, .slice (some ⟨w3.heap.size, 0, none⟩) 3 3, .slice (some ⟨w4.heap.size, 0, none⟩) 3 3] 52)).heap.size = w4.heap.size + 1 + 1 from by rw [szA, szA]]
      exact this⟩
  · have e0 : (v == 0) = false := beq_eq_false_iff_ne.2 (by omega)
    have e1 : (v == 1) = false := beq_eq_false_iff_ne.2 (by omega)
    go_wp2_with fail
    refine (l20Game0 n w1 a len cap zs (p + 1) 4 R1 (by omega) (by omega) (by omega)).mono ?_
    rintro e w2 ⟨g, T, c, p', rfl, h1, h2, h3, h4, hK, hR, hp1, hp2, ho⟩
    have HK := Lib.hid (k1.trans hK)
    have HR := Lib.hid hR
    have HO := Lib.hid ho
    have H2 := Lib.hid h2
    have H4 := Lib.hid h4
    clear hK hR ho h2 h4
    go_wp2_with fail
    go_ret
    exact ⟨g, T, c, p', rfl, h1, H2.out, h3, H4.out, HK.out, HR.out, by omega, by omega, HO.out.more hs1 (Nat.le_refl _)⟩
end Go.Proofs.YtlmaeadbomnhlaaGreat

namespace Go.Proofs.YtlmaeadbomnhlaaGreat
set_option linter.unusedSimpArgs false
set_option linter.unusedVariables false
open Go.RowKit
theorem TabOwn.far {u u' : World} {lo hi : Nat} {T : Option Addr} {A : Nat → Option Addr} {C : Nat → Nat} {g : List (List Int)} (h : TabOwn u lo hi T A C g)
    (hk : ∀ k t N f, lo ≤ k → k < hi → u.rowIs k t N f → t ≠ 23 → u'.heap[k]? = u.heap[k]?) : TabOwn u' lo hi T A C g := by
  intro h0
  obtain ⟨b, N, f, e, k1, k2, k3, k4, k5, k6⟩ := h h0
  refine ⟨b, N, f, e, k1, k2, k3, k4.of_block (hk b _ N f k1 k2 k4 (by decide)), k5, ⟨k6.cap, fun i hi h0' => ?_, k6.apart⟩⟩
  obtain ⟨b', N', f', e', q1, q2, q3, q4, q5⟩ := k6.own i hi h0'
  exact ⟨b', N', f', e', q1, q2, q3.of_block (hk b' _ N' f' q1 q2 q3 (by decide)), q4, q5⟩
theorem past_snoc {u u' : World} {lo hi : Nat} {TN TP : Option Addr} {d : Dk} {A : Nat → Nat → Option Addr} {C : Nat → Nat → Nat} {TT : Nat → Option Addr} {CC : Nat → Nat} (h : OwnDk u lo hi TN TP d A C TT CC)
    (hk : ∀ k t N f, lo ≤ k → k < hi → u.rowIs k t N f → t ≠ 23 → u'.heap[k]? = u.heap[k]?) {S : Nat → Prop} (hS : ∀ b, lo ≤ b → b < hi → S b)
    {b off : Nat} {el : Option Addr} (hb : S b) (hc : ∀ i, i < d.past.length → u'.cell? ⟨b, off + i, none⟩ = some (.slice (TT i) (tabAt d.past i).length (CC i)))
    (he : u'.cell? ⟨b, off + d.past.length, none⟩ = some (.slice el 0 0)) :
    Rows2 u' S TN d.now ∧ Rows3 u' S (some ⟨b, off, none⟩) (d.past ++ [[]]) := by
  refine ⟨((h.now.far hk).own.rows2).mono fun b hb => hS b hb.1 hb.2, fun _ => ⟨b, off, rfl, hb, fun i hi => ?_⟩⟩
  rw [List.length_append, List.length_singleton] at hi
  by_cases e : i < d.past.length
  · rw [tabAt_snoc_lt _ _ _ e]
    obtain ⟨_, _, _, _, _, _, _, _, _, h5⟩ := h.past (by omega)
    exact ⟨TT i, CC i, hc i e, (h5 i e).2.1, (h5 i e).2.2, (((h.tabs i e).far hk).own.rows2).mono fun b hb => hS b hb.1 hb.2⟩
  · obtain rfl : i = d.past.length := by omega
    rw [tabAt_snoc_eq]
    exact ⟨el, 0, he, Nat.le_refl _, Nat.zero_le _, fun h0 => absurd h0 (by simp)⟩
set_option maxRecDepth 100000 in
theorem append_past {u : World} {lo hi cP : Nat} {TN TP : Option Addr} {d : Dk} (hown : DeskOwn u lo hi TN TP d) (hroom : Room u lo hi TP cP) (hhi : hi ≤ u.heap.size) (hc1 : d.past.length ≤ cP) (hc2 : cP ≤ maxLen) (h8 : d.past.length ≤ 8) 
    (i1 : TypeInfo) (hi1 : Tryz.prog.info? 23 = some i1) (hy0 : i1.zero = some (.slice none 0 0)) (hy1 : i1.size = 1) (hy2 : i1.bytes = 24)
    (ad : Addr) (el : Option Addr) (hnews : ∀ j x, [Value.slice el 0 0][j]? = some x → u.cell? (ad.add j) = some x) :
    ∃ (TP' : Option Addr) (cP' : Nat) (u' : World), (Builtin.append_ #[24, 24] 24 #[.slice TP d.past.length cP, .slice (some ad) 1 1]).run Tryz.prog u = .ok (.slice TP' (d.past.length + 1) cP') u' ∧ d.past.length + 1 ≤ cP' ∧ cP' ≤ maxLen ∧
      u'.os = u.os ∧ u'.tape = u.tape ∧ u'.output = u.output ∧ u.heap.size ≤ u'.heap.size ∧ (∀ k, k < u.heap.size → ¬ (lo ≤ k ∧ k < hi) → u'.heap[k]? = u.heap[k]?) ∧
      Rows2 u' (fun b => (lo ≤ b ∧ b < hi) ∨ (u.heap.size ≤ b ∧ b < u'.heap.size)) TN d.now ∧ Rows3 u' (fun b => (lo ≤ b ∧ b < hi) ∨ (u.heap.size ≤ b ∧ b < u'.heap.size)) TP' (d.past ++ [[]]) := by
  obtain ⟨A, C, TT, CC, h⟩ := hown
  have hm : d.past.length + 1 ≤ maxLen := by unfold maxLen; omega
  have grow : ∀ (v' : Value) (u' : World), (Builtin.append_ #[24, 24] 24 #[.slice TP d.past.length cP, .slice (some ad) 1 1]).run Tryz.prog u = .ok v' u' →
      u'.ownsRow u.heap.size 23 1 v' (d.past.length + 1) (tabVals TT CC d.past ++ [.slice el 0 0]) → u.grownBy u' none →
      ∃ (TP' : Option Addr) (cP' : Nat) (u' : World), (Builtin.append_ #[24, 24] 24 #[.slice TP d.past.length cP, .slice (some ad) 1 1]).run Tryz.prog u = .ok (.slice TP' (d.past.length + 1) cP') u' ∧ d.past.length + 1 ≤ cP' ∧ cP' ≤ maxLen ∧
      u'.os = u.os ∧ u'.tape = u.tape ∧ u'.output = u.output ∧ u.heap.size ≤ u'.heap.size ∧ (∀ k, k < u.heap.size → ¬ (lo ≤ k ∧ k < hi) → u'.heap[k]? = u.heap[k]?) ∧
      Rows2 u' (fun b => (lo ≤ b ∧ b < hi) ∨ (u.heap.size ≤ b ∧ b < u'.heap.size)) TN d.now ∧ Rows3 u' (fun b => (lo ≤ b ∧ b < hi) ∨ (u.heap.size ≤ b ∧ b < u'.heap.size)) TP' (d.past ++ [[]]) := fun v' u' hr ho hg => by
    obtain ⟨g, cap, cur, rfl, hbase, hgg, hnc, hcm, _, _⟩ := ho.2.resolve_left (fun hh => by have := hh.2; omega)
    have hlt : g < u'.heap.size := by
      rcases Nat.lt_or_ge g u'.heap.size with h | h
      · exact h
      · rw [Array.getElem?_eq_none h] at hgg; cases hgg
    have hcell : ∀ j, j < d.past.length + 1 → u'.cell? ⟨g, 0 + j, none⟩ = (tabVals TT CC d.past ++ [.slice el 0 0])[j]? := fun j hj => by rw [Nat.zero_add]; exact ho.cellAt j (by omega)
    obtain ⟨s1, s2⟩ := past_snoc (u' := u') h (fun k t N f _ h2 _ _ => hg.block k (by omega) (by simp)) (S := fun b => (lo ≤ b ∧ b < hi) ∨ (u.heap.size ≤ b ∧ b < u'.heap.size)) (fun b h1 h2 => .inl ⟨h1, h2⟩) (b := g) (off := 0) (el := el) (.inr ⟨hbase, hlt⟩) (fun i hi => by
        rw [hcell i (by omega), List.getElem?_append_left (by rw [tabVals_length]; exact hi), tabVals_get _ _ _ _ hi]) (by
        rw [hcell _ (by omega), List.getElem?_append_right (by rw [tabVals_length]; exact Nat.le_refl _)]; simp [tabVals_length])
    exact ⟨_, _, u', hr, hnc, hcm, hg.os, hg.tape, hg.output, hg.size, fun k hk _ => hg.block k hk (by simp), s1, s2⟩
  by_cases hr : d.past.length + 1 ≤ cP
  · obtain ⟨b, off, N, f, rfl, h1, h2, h3, h4⟩ := hroom (by omega)
    have hrun := run_append_room_cells (P := Tryz.prog) u 24 24 23 i1 Tryz.underlying24 hi1 b off d.past.length cP ad 1 1 [.slice el 0 0] (by rw [hy1]; rfl) hnews (by intro x hx; simp at hx; subst hx; rfl) hr
      (fun j hj => by simp at hj; subst hj; rw [hy1, Nat.mul_one, h4.cell (by omega)]; rfl) (fun j hj => by simp at hj; subst hj; exact h4.frozen _)
    rw [hy1, Nat.mul_one] at hrun
    have hset : u.setCells b (off + d.past.length) [.slice el 0 0] = u.setCell ⟨b, off + d.past.length, none⟩ (.slice el 0 0) := rfl
    rw [hset] at hrun
    have hk : ∀ k, k ≠ b → (u.setCell ⟨b, off + d.past.length, none⟩ (.slice el 0 0)).heap[k]? = u.heap[k]? := fun k hne => Below.heap_setCell _ _ _ _ hne
    have hz : (u.setCell ⟨b, off + d.past.length, none⟩ (.slice el 0 0)).heap.size = u.heap.size := by simp [World.setCell]
    obtain ⟨s1, s2⟩ := past_snoc (u' := u.setCell ⟨b, off + d.past.length, none⟩ (.slice el 0 0)) h (fun k t N' f' _ _ hr' hne => hk k (rowIs_ne hr' h4 hne)) (S := fun c => (lo ≤ c ∧ c < hi) ∨ (u.heap.size ≤ c ∧ c < (u.setCell ⟨b, off + d.past.length, none⟩ (.slice el 0 0)).heap.size)) (fun b h1 h2 => .inl ⟨h1, h2⟩) (b := b) (off := off) (el := el) (.inl ⟨h1, h2⟩) (fun i hi => by
        obtain ⟨b', off', N', f', e, _, _, q3, q4, q5⟩ := h.past (by omega)
        injection e with e; injection e with e1 e2
        subst e1 e2
        rw [World.cell?_setCell_other _ _ _ _ (by first | (simp; done) | (simp; omega)), q4.cell (by omega), (q5 i hi).1])
      (World.cell?_setCell_same' _ _ _ (by rw [h4.cell (by omega)]; rfl))
    exact ⟨_, _, _, hrun, hr, hc2, rfl, rfl, rfl, Nat.le_of_eq hz.symm, fun k _ hn => hk k (fun e => hn ⟨by omega, by omega⟩), s1, s2⟩
  · cases hTP : TP with
    | none =>
      have hl0 : d.past.length = 0 := by
        rcases Nat.eq_zero_or_pos d.past.length with h0 | h0
        · exact h0
        · obtain ⟨_, _, _, _, e, _⟩ := h.past h0; rw [hTP] at e; cases e
      have hc0 : cP = 0 := by omega
      have hpe : d.past = [] := List.eq_nil_of_length_eq_zero hl0
      obtain ⟨v', u', h1, h2, h3, _, _⟩ := run_append_own_at (P := Tryz.prog) u u.heap.size 24 24 23 i1 (.slice none 0 0) 1 24 Tryz.underlying24 hi1 hy0 hy1 hy2 rfl (by decide) (.slice none 0 0) 0 [] (World.ownsRow_nil u _ _ _) ad 1 1 [.slice el 0 0] rfl hnews (by intro x hx; simp at hx; subst hx; rfl) (by decide) (by decide) (Nat.le_refl _)
      rw [← hTP]
      refine grow v' u' (by rw [hTP, hl0, hc0]; exact h1) (by rw [hl0, show tabVals TT CC d.past = [] from by rw [hpe]; rfl]; exact h2) ?_
      exact ⟨h3.os, h3.tape, h3.output, h3.size, fun k hk _ => h3.block k hk (by simp [Value.ownBlock])⟩
    | some a =>
      obtain ⟨v', u', h1, h2, h3⟩ := run_append_arg_grows (P := Tryz.prog) u 24 24 23 i1 (.slice none 0 0) 1 24 Tryz.underlying24 hi1 hy0 hy1 hy2 rfl (by decide) a d.past.length cP (tabVals TT CC d.past) (by rw [tabVals_length, Nat.mul_one]) (fun j x hj => by
          have hlt : j < d.past.length := by
            have := (List.getElem?_eq_some_iff.1 hj).1; rwa [tabVals_length] at this
          rw [tabVals_get _ _ _ _ hlt] at hj
          injection hj with hj
          subst hj
          obtain ⟨b, off, N, f, e, _, _, q3, q4, q5⟩ := h.past (by omega)
          rw [hTP] at e
          injection e with e
          subst e
          rw [show ((⟨b, off, none⟩ : Addr).add j) = ⟨b, off + j, none⟩ by simp [Addr.add], q4.cell (by omega), (q5 j hlt).1]) ad 1 1 [.slice el 0 0] rfl hnews (by omega) hm (by omega)
      rw [← hTP]
      exact grow v' u' (by rw [hTP]; exact h1) h2 h3
theorem wpList_append_run {P : Program} (w : World) {ops : Array Oper} {rest : List Oper} {o : Oper} {a : Act} {Q : Exit → Act → World → Prop} (hgd : o.guard = none) (s x : Operand) (t : TypeId)
    (ho : o.op = .call { callee := .builtin .append, args := #[s, x], argTypes := #[t, t] }) {v y v' : Value} {w' : World} (hs : a.eval s = v) (hx : a.eval x = y) (hr : (Builtin.append_ #[t, t] o.type #[v, y]).run P w = .ok v' w')
    (h : wpList P ops Q rest (a.put o.dst v') w') : wpList P ops Q (o :: rest) a w := by
  refine wpList_plain hgd fun K hK => ?_
  unfold Oper.wp execOp
  simp only [ho, resolve, invoke, builtin, Sem.run_bind, Sem.run_pure, Result.andThen_ok, List.map_toArray, List.map_cons, List.map_nil, hs, hx, hr]
  exact hK _ _ h
end Go.Proofs.YtlmaeadbomnhlaaGreat

namespace Go.Proofs.YtlmaeadbomnhlaaGreat
set_option linter.unusedSimpArgs false
set_option linter.unusedVariables false
open Go.RowKit
def DkP (d : Dk) : Prop := dkB d = true ∨ d = dkZero
theorem DkP.len {d : Dk} (h : DkP d) : d.now.length ≤ 16 ∧ d.past.length ≤ 8 := by
  rcases h with h | rfl
  · have h1 := (dkB_iff.1 h).2.2
    have h2 := (laid_iff.1 (dkB_iff.1 h).2.1).2.1
    omega
  · simp [dkZero]
theorem DkP.new (g : List (List Int)) : DkP (newD g) := by
  rcases h : laidB g with _ | _
  · exact .inr (newD_no h)
  · exact .inl (newD_ok h)
theorem DkP.doD {d : Dk} (h : DkP d) (a : Dd) : DkP (doD d a) := by
  rcases hd : dkB d with _ | _
  · exact .inr (do_no hd a).1
  · exact .inl (do_ok hd a)
theorem DkP.stay {d : Dk} (h : DkP d) {a : Dd} (hc : canB d a = false) : Go.Proofs.YtlmaeadbomnhlaaGreat.doD d a = d := by
  rcases h with h | rfl
  · exact do_stay h hc
  · exact (do_no (by decide) a).1
structure DkAt (n : Nat) (W wr : World) (pO : Nat) (a : Option Addr) (len cap : Nat) (zs : List Int) (d : Dk) (q : Int) : Prop where
  kept : Kept n W wr
  rd : Reader n wr a len cap zs q
  ex : ∃ (TN : Option Addr) (cN : Nat) (TP : Option Addr) (cP lo hi : Nat), wr.rowIs pO 26 2 (fun i => if i = 0 then .slice TN d.now.length cN else .slice TP d.past.length cP) ∧ DeskOwn wr lo hi TN TP d ∧ Room wr lo hi TP cP ∧ W.heap.size ≤ lo ∧ hi ≤ wr.heap.size ∧ (hi ≤ pO ∨ pO < lo) ∧ d.past.length ≤ cP ∧ cP ≤ maxLen
def DrawnK (n : Nat) (w : World) (a : Option Addr) (len cap : Nat) (zs : List Int) (p : Int) (e : Ending) (w' : World) : Prop :=
  ∃ (d : Dk) (TN : Option Addr) (cN : Nat) (TP : Option Addr) (cP : CapN d.past.length) (p' : Int), e = .returned (dskV TN d.now.length cN TP d.past.length cP) ∧ Kept n w w' ∧ Reader n w' a len cap zs p' ∧ p' ≤ p + 800 ∧ d.now.length ≤ 16 ∧ d.past.length ≤ 9 ∧
    Rows2 w' (fun b => w.heap.size ≤ b ∧ b < w'.heap.size) TN d.now ∧ Rows3 w' (fun b => w.heap.size ≤ b ∧ b < w'.heap.size) TP d.past
theorem deedV (n : Nat) (w : World) (a : Option Addr) (len cap : Nat) (zs : List Int) (p : Int) (h : Reader n w a len cap zs p) (hp : p < 20000) (A : Option Addr) (m c : Nat) (hm : m ≤ 17) :
    Calls Tryz.prog 13 #[.pointer (some ⟨n, 0, none⟩), .slice A m c] w fun e w' => ∃ (k r c n' p' : Int), e = .returned (.agg #[.int .i64 k, .int .i64 r, .int .i64 c, .int .i64 n']) ∧ Kept n w w' ∧ Reader n w' a len cap zs p' ∧ p' ≤ p + 10 := by
  refine (l20Deed n w a len cap zs p h hp A m c hm).mono ?_
  rintro e w' ⟨⟨k, r, c, n'⟩, p', rfl, h1, h2, h3⟩
  exact ⟨k, r, c, n', p', rfl, h1, h2, h3⟩
theorem deskDo_ownR (A B : Option Addr) (c kk : Nat) (d : Dk) (a : Dd) (hd : DkP d) (w : World) (h : Rows2 w (· < w.heap.size) A d.now) (h' : Rows3 w (· < w.heap.size) B d.past) :
    Calls Tryz.prog 6 #[.agg #[.slice A d.now.length c, .slice B d.past.length kk], .agg #[.int .i64 a.kind, .int .i64 a.row, .int .i64 a.col, .int .i64 a.num]] w fun e w' => ∃ (TN : Option Addr) (cN : Nat) (TP : Option Addr) (cP : CapN (doD d a).past.length), e = .returned (.tuple #[.agg #[.slice TN (doD d a).now.length cN, .slice TP (doD d a).past.length cP], .bool (canB d a)]) ∧ Below w.heap.size w w' ∧ DeskOwn w' w.heap.size w'.heap.size TN TP (doD d a) ∧ Room w' w.heap.size w'.heap.size TP cP := by
  have hl := hd.len
  refine (deskDo_room A B c kk d a (by unfold maxLen; omega) (by unfold maxLen; omega) w h h').mono ?_
  rintro e w' ⟨TN, cN, TP, cP, AA, CC, TT, UU, rfl, hb, ho, hr⟩
  exact ⟨TN, cN, TP, cP, rfl, hb, ⟨_, _, _, _, ho⟩, hr⟩
theorem Kept.own {n : Nat} {w w' : World} (h : Kept n w w') {lo hi : Nat} (hn : n < lo) (hh : hi ≤ w.heap.size) : ∀ b, lo ≤ b → b < hi → w'.heap[b]? = w.heap[b]? := fun b h1 h2 => h.block b (by omega) (by omega)
theorem DeskOwn.rows {w : World} {lo hi B : Nat} {TN TP : Option Addr} {d : Dk} (h : DeskOwn w lo hi TN TP d) (hB : B ≤ lo) (hh : hi ≤ w.heap.size) : Rows2 w (fun b => B ≤ b ∧ b < w.heap.size) TN d.now ∧ Rows3 w (fun b => B ≤ b ∧ b < w.heap.size) TP d.past := by
  obtain ⟨A, C, TT, CC, h⟩ := h
  exact ⟨h.rows2.mono fun b hb => by show _ ≤ b ∧ b < _; omega, h.rows3.mono fun b hb => by show _ ≤ b ∧ b < _; omega⟩
theorem ten_rows (u : World) : Rows2 ((u.alloc (.cells #[.int .i64 10] 3)).alloc (.cells #[.slice (some ⟨u.heap.size, 0, none⟩) 1 1] 52)) (fun b => u.heap.size ≤ b ∧ b < u.heap.size + 2) (some ⟨u.heap.size + 1, 0, none⟩) [[10]] := fun _ => by
  refine ⟨u.heap.size + 1, 0, rfl, ⟨by omega, by omega⟩, fun i hi => ?_⟩
  obtain rfl : i = 0 := by simp at hi; omega
  refine ⟨some ⟨u.heap.size, 0, none⟩, 1, by simp [go_sem, rowAt], by simp [rowAt], by unfold maxLen; omega, fun _ => ⟨u.heap.size, 0, rfl, ⟨Nat.le_refl _, by omega⟩, fun j hj => ?_⟩⟩
  obtain rfl : j = 0 := by simp [rowAt] at hj; omega
  exact (World.cell?_alloc_lt _ _ _ (by simp)).trans (by simp [go_sem, rowAt, nth])
set_option maxHeartbeats 40000000 in
set_option maxRecDepth 100000 in
theorem l20Desk (n : Nat) (w : World) (a : Option Addr) (len cap : Nat) (zs : List Int) (p m : Int) (h : Reader n w a len cap zs p) (hp : p < 18000) (hm : 1 ≤ m) (hm' : m ≤ 30000) :
    Calls Tryz.prog 12 #[.pointer (some ⟨n, 0, none⟩), .int .i64 m] w (DrawnK n w a len cap zs p) := by
  obtain ⟨W, hW⟩ : ∃ W, W = w.alloc (.cells #[.slice none 0 0, .slice none 0 0] 26) := ⟨_, rfl⟩
  have hbW : Below w.heap.size w W := by rw [hW]; exact (Below.refl _ _).alloc (Nat.le_refl _) _
  have hzW : W.heap.size = w.heap.size + 1 := by rw [hW]; simp
  have K0w : Kept n w W := Kept.of_below hbW
  have RW := h.of_below hbW
  have hnw := h.lt
  have p0 := h.p_lo
  have q0 : W.cell? ⟨w.heap.size, 0, none⟩ = some (.slice none 0 0) := by rw [hW]; simp [go_sem]
  have q1 : W.cell? ⟨w.heap.size, 1, none⟩ = some (.slice none 0 0) := by rw [hW]; simp [go_sem]
  have g0 : W.frozen? ⟨w.heap.size, 0, none⟩ = false := by rw [hW]; simp [go_sem]
  have g1 : W.frozen? ⟨w.heap.size, 1, none⟩ = false := by rw [hW]; simp [go_sem]
  have HQ : Hid (∀ w', Kept n W w' → (w'.cell? ⟨w.heap.size, 0, none⟩ = some (.slice none 0 0) ∧ w'.cell? ⟨w.heap.size, 1, none⟩ = some (.slice none 0 0)) ∧ w'.frozen? ⟨w.heap.size, 0, none⟩ = false ∧ w'.frozen? ⟨w.heap.size, 1, none⟩ = false) := fun w' hk =>
    ⟨⟨staysK (by omega) (by omega) q0 w' hk, staysK (by omega) (by omega) q1 w' hk⟩, staysKF (by omega) (by omega) g0 w' hk, staysKF (by omega) (by omega) g1 w' hk⟩
  obtain ⟨i1, hi1, hy0, hy1, hy2⟩ := info_parts infoT
  have HI1 := Lib.hid hi1
  have HY0 := Lib.hid hy0
  have HY1 := Lib.hid hy1
  have HY2 := Lib.hid hy2
  clear hi1 hy0 hy1 hy2
  clear q0 q1 g0 g1 h hbW
  go_enter Tryz.func12, Tryz.ntmps12
  go_wp2_with fail
  rw [← hW]
  clear hW
  refine (l20Fair0 n W a len cap zs p RW (by omega)).mono ?_
  rintro e w1 ⟨g, T, c, p1, rfl, hg1, hg2, hg17, hg16, k1, R1, hp1, hp2, ho1⟩
  have hr1 : Rows2 w1 (· < w1.heap.size) T g := ho1.lt
  have HN := Lib.hid (deskNew_room T c g (by unfold maxLen; omega) w1 hr1)
  have K1 := Lib.hid k1
  have HR1 := Lib.hid R1
  clear ho1 hr1 k1 R1 hg1 hg2 hg16 hg17 RW
  obtain ⟨d0, hd0⟩ : ∃ d, newD g = d := ⟨_, rfl⟩
  have HDP : Hid (DkP d0) := by show DkP _; rw [← hd0]; exact DkP.new g
  rw [hd0] at HN
  clear hd0
  go_wp2_with fail
  refine HN.out.mono ?_
  rintro e w2 ⟨TN, cN, TP, cP, AA, CC, TT, UU, rfl, hb2, ho2, hrm2⟩
  obtain ⟨pO, hpO⟩ : ∃ pO, w2.heap.size = pO := ⟨_, rfl⟩
  have hW2 := K1.out.size
  have hs2 := hb2.size
  have HS2 : Hid (W.heap.size ≤ w1.heap.size ∧ w1.heap.size ≤ pO) := ⟨hW2, by omega⟩
  have HA0 : Hid (∀ o, o = Obj.cells #[.slice TN d0.now.length cN, .slice TP d0.past.length cP] 26 → DkAt n W (w2.alloc o) pO a len cap zs d0 p1) := fun o ho => by
    have hb3 : Below w2.heap.size w2 (w2.alloc o) := (Below.refl _ _).alloc (Nat.le_refl _) o
    refine ⟨(K1.out.trans (Kept.of_below hb2)).trans (Kept.of_below hb3), (HR1.out.of_below hb2).of_below hb3, TN, cN, TP, cP, w1.heap.size, w2.heap.size, ?_, ⟨_, _, _, _, ho2.keep fun b _ h2 => hb3.block b h2⟩, hrm2.keep fun b _ h2 => hb3.block b h2, hW2, hb3.size, .inl (by omega), cP.lo, cP.hi⟩
    rw [ho, ← hpO]
    exact World.rowIs_alloc w2 #[.slice TN d0.now.length cN, .slice TP d0.past.length cP] _ _ (fun i hi => by have : i = 0 ∨ i = 1 := (by simp at hi; omega); rcases this with rfl | rfl <;> rfl)
  unfold dskV
  clear hb2 ho2 hrm2 hW2 hs2
  go_wp2_with fail
  obtain ⟨w3, hw3⟩ : ∃ w3 : World, w2.alloc (.cells #[.slice TN d0.now.length cN, .slice TP d0.past.length cP] 26) = w3 := ⟨_, rfl⟩
  have HA3 := Lib.hid (HA0.out _ rfl)
  rw [hw3] at HA3
  try rw [hw3]
  try rw [hpO]
  clear hw3 HA0 HN
  refine (pick n w3 a len cap zs p1 6 HA3.out.rd (by omega) (by omega) (by omega)).mono ?_
  rintro e w4 ⟨v4, rfl, v40, v41, k4, R4⟩
  have hpn : pO ≠ n := by have := HS2.out; omega
  have HA4 : Hid (DkAt n W w4 pO a len cap zs d0 (p1 + 1)) := by
    obtain ⟨h1, _, TN, cN, TP, cP, lo, hi, h3, h4, h4', h5, h6, h7, h8, h9⟩ := HA3.out
    exact ⟨h1.trans k4, R4, TN, cN, TP, cP, lo, hi, h3.of_block (k4.block _ h3.lt hpn), h4.keep (k4.own (by omega) h6), h4'.keep (k4.own (by omega) h6), h5, Nat.le_trans h6 k4.size, h7, h8, h9⟩
  clear HA3 R4 k4
  go_wp2_with fail
  go_loopw [7] (fun v wr => ∃ (k : Nat) (d : Dk) (q : Int), k ≤ 5 ∧ v = .int .i64 (k : Nat) ∧ q ≤ p + 701 + 10 * (5 - (k : Int)) ∧ Hid (DkP d) ∧ Hid (DkAt n W wr pO a len cap zs d q)) (fun v _ => (intOf v).toNat)
  case atStart => exact ⟨v4.toNat, d0, p1 + 1, by omega, by rw [Int.toNat_of_nonneg v40], by omega, HDP, HA4⟩
  case round =>
    clear HDP HA4 v40 v41
    obtain ⟨k, d, q, hk, rfl, hq, HP, HA⟩ := hrel
    obtain ⟨hkk, hrd, TN, cN, TP, cP, lo, hi, hrow, hown, hroom, hlo, hhi, hap, hc1, hc2⟩ := HA.out
    have hdl := HP.out.len
    have hpl := hrow.lt
    have hq0 := hrd.p_lo
    by_cases hk0 : 0 < k
    · have HDD : Hid (∀ w1, Reader n w1 a len cap zs q → _) := fun w1 hr => deedV n w1 a len cap zs q hr (by omega) TN d.now.length cN (by omega)
      have HDO : Hid (∀ w1, Kept n wr w1 → ∀ b : Dd, _) := fun w1 hkp b => by
        have h2 := (hown.keep (hkp.own (by omega) hhi)).two (Nat.le_trans hhi hkp.size)
        exact deskDo_ownR TN TP cN cP d b HP.out w1 h2.1 h2.2
      have e0 : ∀ w1, DdS n wr a len cap zs w1 → w1.cell? ⟨pO, 0, none⟩ = some (.slice TN d.now.length cN) := fun w1 hs => by
        obtain ⟨_, hkp, _⟩ := hs.ex
        exact (hkp.cell hpl hpn).trans (show wr.cell? ⟨pO, 0, none⟩ = some (.slice TN d.now.length cN) from hrow.cell (i := 0) (by omega))
      have e1 : ∀ w1, DdS n wr a len cap zs w1 → w1.cell? ⟨pO, 1, none⟩ = some (.slice TP d.past.length cP) := fun w1 hs => by
        obtain ⟨_, hkp, _⟩ := hs.ex
        exact (hkp.cell hpl hpn).trans (show wr.cell? ⟨pO, 1, none⟩ = some (.slice TP d.past.length cP) from hrow.cell (i := 1) (by omega))
      have hkp0 : (0 : Int) < (k : Int) := by omega
      have hw1 : IntKind.i64.wrap ((k : Int) - 1) = (k : Int) - 1 := IntWalk.i64_in _ ⟨by omega, by omega⟩
      have HROW := Lib.hid hrow
      have HOWN := Lib.hid hown
      have HROOM := Lib.hid hroom
      have HLH := Lib.hid (And.intro (And.intro hlo hhi) (And.intro hap (And.intro hc1 hc2)))
      have HRD := Lib.hid hrd
      have HKW := Lib.hid hkk
      have HPL := Lib.hid hpl
      have hWO := HS2.out
      clear hrow hown hroom hlo hhi hap hc1 hc2 hrd hkk hpl HA
      go_wp2_with fail
      go_cut [8, 9] (fun sp sb wx => ∃ (b : Dd) (pb : Nat) (TN' : Option Addr) (cN' : Nat) (TP' : Option Addr) (cP' : CapN (doD d b).past.length) (lo' hi' : Nat) (q' : Int), sp = .pointer (some ⟨pb, 0, none⟩) ∧ sb = .bool (canB d b) ∧ Kept n wr wx ∧ Reader n wx a len cap zs q' ∧ q' ≤ q + 10 ∧ wr.heap.size ≤ pb ∧ wx.rowIs pb 26 2 (fun i => if i = 0 then .slice TN' (doD d b).now.length cN' else .slice TP' (doD d b).past.length cP') ∧ DeskOwn wx lo' hi' TN' TP' (doD d b) ∧ Room wx lo' hi' TP' cP' ∧ wr.heap.size ≤ lo' ∧ hi' ≤ wx.heap.size)
      case first =>
        have K0 : Kept n wr wr.drew := (Kept.refl _ _).drew
        have R0 : Reader n wr.drew a len cap zs q := HRD.out.of_below (Below.refl _ _).drew
        refine wp_region_held_drew (S := fun w' => DdS n wr a len cap zs w') (by kernel_rfl) ⟨_, K0, R0⟩ (fun hHeld => ?_)
        clear hHeld
        generalize wr.drew = D0 at K0 R0 ⊢
        have hHeld : DdS n wr a len cap zs D0 := ⟨_, K0, R0⟩
        refine wpAnyH_take (i := 0) (v := ?v1) rfl (by kernel_rfl) (by kernel_rfl) (by kernel_rfl) (fun _ _ _ h => h) (Or.inl ⟨by rfl, ?y1⟩) (by assumption) ?z1
        case y1 => (intro w hSw; go_simp; first | done | with_reducible rfl)
        try simp only [List.getElem_toArray, List.getElem_cons_succ, List.getElem_cons_zero, Act.put, List.setIfInBounds_toArray, List.set_cons_zero, List.set_cons_succ]
        refine wpAnyH_take (i := 1) (v := ?v2) rfl (by kernel_rfl) (by kernel_rfl) (by kernel_rfl) (fun _ _ _ h => h) (Or.inl ⟨by rfl, ?y2⟩) (by assumption) ?z2
        case y2 => (intro w hSw; go_simp; first | done | with_reducible rfl)
        try simp only [List.getElem_toArray, List.getElem_cons_succ, List.getElem_cons_zero, Act.put, List.setIfInBounds_toArray, List.set_cons_zero, List.set_cons_succ]
        refine wpAnyH_take (i := 2) (v := ?v3) rfl (by kernel_rfl) (by kernel_rfl) (by kernel_rfl) (fun _ _ _ h => h) (Or.inl ⟨by rfl, ?y3⟩) (by assumption) ?z3
        case y3 => (intro w hSw; go_simp; first | done | with_reducible rfl)
        try simp only [List.getElem_toArray, List.getElem_cons_succ, List.getElem_cons_zero, Act.put, List.setIfInBounds_toArray, List.set_cons_zero, List.set_cons_succ]
        refine wpAnyH_take (i := 3) (v := ?v4) rfl (by kernel_rfl) (by kernel_rfl) (by kernel_rfl) (fun _ _ _ h => h) (Or.inl ⟨by rfl, ?y4⟩) (by assumption) ?z4
        case y4 => (intro w hSw; go_simp; first | done | with_reducible rfl)
        try simp only [List.getElem_toArray, List.getElem_cons_succ, List.getElem_cons_zero, Act.put, List.setIfInBounds_toArray, List.set_cons_zero, List.set_cons_succ]
        refine wpAnyH_ready (rs := [4, 9]) (by kernel_rfl) (by simp) ?_
        refine AllReadyH.cons rfl (fun K hK => ?_) (AllReadyH.cons rfl (fun K hK => ?_) AllReadyH.nil)
        · go_simp
          refine (HDD.out _ R0).mono ?_
          rintro e D1 ⟨kd, rr, cc, nn, p4, rfl, k4, R1, hp4⟩
          have K1 := K0.trans k4
          have hs4 := k4.size
          refine hK.out _ _ ⟨_, K1, R1⟩ (fun hHeld => ?_)
          clear hK K
          try simp only [List.getElem_toArray, List.getElem_cons_succ, List.getElem_cons_zero, Act.put, List.setIfInBounds_toArray, List.set_cons_zero, List.set_cons_succ]
          refine wpAnyH_ready (rs := [5, 9]) (by kernel_rfl) (by simp) ?_
          refine AllReadyH.cons rfl (fun K hK => ?_) (AllReadyH.cons rfl (fun K hK => ?_) AllReadyH.nil)
          · go_simp
            refine (HDO.out _ K1 ⟨kd, rr, cc, nn⟩).mono ?_
            rintro e D2 ⟨TN5, cN5, TP5, cP5, rfl, hb5, DO2, RM2⟩
            have K2 := K1.trans (Kept.of_below hb5)
            have R2 := R1.of_below hb5
            have GS : wr.heap.size ≤ D1.heap.size := K1.size
            have hs5 := hb5.size
            refine hK.out _ _ ⟨_, K2, R2⟩ (fun hHeld => ?_)
            clear hK K
            try simp only [List.getElem_toArray, List.getElem_cons_succ, List.getElem_cons_zero, Act.put, List.setIfInBounds_toArray, List.set_cons_zero, List.set_cons_succ]
            refine wpAnyH_take (i := 6) (v := ?v5) rfl (by kernel_rfl) (by kernel_rfl) (by kernel_rfl) (fun _ _ _ h => h) (Or.inl ⟨by rfl, ?y5⟩) (by assumption) ?z5
            case y5 => (intro w hSw; go_simp; first | done | with_reducible rfl)
            try simp only [List.getElem_toArray, List.getElem_cons_succ, List.getElem_cons_zero, Act.put, List.setIfInBounds_toArray, List.set_cons_zero, List.set_cons_succ]
            refine wpAnyH_take (i := 7) (v := ?v6) rfl (by kernel_rfl) (by kernel_rfl) (by kernel_rfl) (fun _ _ _ h => h) (Or.inl ⟨by rfl, ?y6⟩) (by assumption) ?z6
            case y6 => (intro w hSw; go_simp; first | done | with_reducible rfl)
            try simp only [List.getElem_toArray, List.getElem_cons_succ, List.getElem_cons_zero, Act.put, List.setIfInBounds_toArray, List.set_cons_zero, List.set_cons_succ]
            refine wpAnyH_take (i := 8) (v := ?v7) rfl (by kernel_rfl) (by kernel_rfl) (by kernel_rfl) (fun _ _ _ h => h) (Or.inl ⟨by rfl, ?y7⟩) (by assumption) ?z7
            case y7 => (intro w hSw; go_simp; first | done | with_reducible rfl)
            try simp only [List.getElem_toArray, List.getElem_cons_succ, List.getElem_cons_zero, Act.put, List.setIfInBounds_toArray, List.set_cons_zero, List.set_cons_succ]
            refine wpAnyH_ready (rs := [9]) (by kernel_rfl) (by simp) ?_
            refine AllReadyH.cons rfl (fun K hK => ?_) AllReadyH.nil
            go_simp
            obtain ⟨D3, hD⟩ : ∃ V : World, V = D2.alloc (.cells #[.slice none 0 0, .slice none 0 0] 26) := ⟨_, rfl⟩
            rw [← hD]
            have hb : Below D2.heap.size D2 D3 := by rw [hD]; exact (Below.refl _ _).alloc (Nat.le_refl _) _
            have BX3 : D3.rowIs D2.heap.size 26 2 (fun _ => .slice none 0 0) := by rw [hD]; exact World.rowIs_alloc _ #[.slice none 0 0, .slice none 0 0] _ _ (fun i hi => by have : i = 0 ∨ i = 1 := (by simp at hi; omega); rcases this with rfl | rfl <;> rfl)
            have NBX : D2.heap.size ≠ n := by have := R2.lt; omega
            have K3 := K2.trans (Kept.of_below hb)
            have R3 := R2.of_below hb
            have GBX : wr.heap.size ≤ D2.heap.size := K2.size
            have hsb := hb.size
            have hlb : D2.heap.size < D3.heap.size := by rw [hD]; simp
            have DO3 := DO2.keep (fun b _ h2 => hb.block b h2)
            have RM3 := RM2.keep (fun b _ h2 => hb.block b h2)
            clear hD
            refine hK.out _ _ ⟨_, K3, R3⟩ (fun hHeld => ?_)
            clear hK K
            try simp only [List.getElem_toArray, List.getElem_cons_succ, List.getElem_cons_zero, Act.put, List.setIfInBounds_toArray, List.set_cons_zero, List.set_cons_succ]
            refine wpAnyH_ready (rs := [10]) (by kernel_rfl) (by simp) ?_
            refine AllReadyH.cons rfl (fun K hK => ?_) AllReadyH.nil
            have PC0 := BX3.cell (i := 0) (by omega)
            have PC1 := BX3.cell (i := 1) (by omega)
            have PF0 := BX3.frozen 0
            have PF1 := BX3.frozen 1
            have HKE : ∀ x0 x1 : Value, Kept n wr ((D3.setCell ⟨D2.heap.size, 0, none⟩ x0).setCell ⟨D2.heap.size, 1, none⟩ x1) := fun x0 x1 => (K3.setNew (q := ⟨D2.heap.size, 0, none⟩) GBX x0).setNew (q := ⟨D2.heap.size, 1, none⟩) GBX x1
            have HRE : ∀ x0 x1 : Value, Reader n ((D3.setCell ⟨D2.heap.size, 0, none⟩ x0).setCell ⟨D2.heap.size, 1, none⟩ x1) a len cap zs p4 := fun x0 x1 => (R3.setFar (q := ⟨D2.heap.size, 0, none⟩) (show n < D2.heap.size by have := HRD.out.lt; omega) x0).setFar (q := ⟨D2.heap.size, 1, none⟩) (show n < D2.heap.size by have := HRD.out.lt; omega) x1
            go_simp
            refine hK.out _ _ ⟨_, HKE _ _, HRE _ _⟩ (fun hHeld => ?_)
            clear hK K
            try simp only [List.getElem_toArray, List.getElem_cons_succ, List.getElem_cons_zero, Act.put, List.setIfInBounds_toArray, List.set_cons_zero, List.set_cons_succ]
            refine wpAnyH_take (i := 11) (v := ?v8) rfl (by kernel_rfl) (by kernel_rfl) (by kernel_rfl) (fun _ _ _ h => h) (Or.inl ⟨by rfl, ?y8⟩) (by assumption) ?z8
            case y8 => (intro w hSw; go_simp; first | done | with_reducible rfl)
            try simp only [List.getElem_toArray, List.getElem_cons_succ, List.getElem_cons_zero, Act.put, List.setIfInBounds_toArray, List.set_cons_zero, List.set_cons_succ]
            refine wpAnyH_done (by kernel_rfl) ?_ _
            go_wp2_with fail
            go_meet
            exact ⟨⟨kd, rr, cc, nn⟩, D2.heap.size, TN5, cN5, TP5, cP5, D1.heap.size, D2.heap.size, p4, rfl, rfl, HKE _ _, HRE _ _, by omega, GBX, desk_row BX3 _ _, DO3.keep (fun b h1 h2 => far2 (by omega) _ _), RM3.keep (fun b h1 h2 => far2 (by omega) _ _), GS, by simp [World.setCell]; try omega⟩
          · go_simp
            obtain ⟨D2, hD⟩ : ∃ V : World, V = D1.alloc (.cells #[.slice none 0 0, .slice none 0 0] 26) := ⟨_, rfl⟩
            rw [← hD]
            have hb : Below D1.heap.size D1 D2 := by rw [hD]; exact (Below.refl _ _).alloc (Nat.le_refl _) _
            have BX2 : D2.rowIs D1.heap.size 26 2 (fun _ => .slice none 0 0) := by rw [hD]; exact World.rowIs_alloc _ #[.slice none 0 0, .slice none 0 0] _ _ (fun i hi => by have : i = 0 ∨ i = 1 := (by simp at hi; omega); rcases this with rfl | rfl <;> rfl)
            have NBX : D1.heap.size ≠ n := by have := R1.lt; omega
            have K2 := K1.trans (Kept.of_below hb)
            have R2 := R1.of_below hb
            have GBX : wr.heap.size ≤ D1.heap.size := K1.size
            have hsb := hb.size
            have hlb : D1.heap.size < D2.heap.size := by rw [hD]; simp
            clear hD
            refine hK.out _ _ ⟨_, K2, R2⟩ (fun hHeld => ?_)
            clear hK K
            try simp only [List.getElem_toArray, List.getElem_cons_succ, List.getElem_cons_zero, Act.put, List.setIfInBounds_toArray, List.set_cons_zero, List.set_cons_succ]
            refine wpAnyH_ready (rs := [5]) (by kernel_rfl) (by simp) ?_
            refine AllReadyH.cons rfl (fun K hK => ?_) AllReadyH.nil
            go_simp
            refine (HDO.out _ K2 ⟨kd, rr, cc, nn⟩).mono ?_
            rintro e D3 ⟨TN5, cN5, TP5, cP5, rfl, hb5, DO3, RM3⟩
            have K3 := K2.trans (Kept.of_below hb5)
            have R3 := R2.of_below hb5
            have GS : wr.heap.size ≤ D2.heap.size := K2.size
            have hs5 := hb5.size
            have BX3 := BX2.of_block (hb5.block _ BX2.lt)
            refine hK.out _ _ ⟨_, K3, R3⟩ (fun hHeld => ?_)
            clear hK K
            try simp only [List.getElem_toArray, List.getElem_cons_succ, List.getElem_cons_zero, Act.put, List.setIfInBounds_toArray, List.set_cons_zero, List.set_cons_succ]
            refine wpAnyH_take (i := 6) (v := ?v9) rfl (by kernel_rfl) (by kernel_rfl) (by kernel_rfl) (fun _ _ _ h => h) (Or.inl ⟨by rfl, ?y9⟩) (by assumption) ?z9
            case y9 => (intro w hSw; go_simp; first | done | with_reducible rfl)
            try simp only [List.getElem_toArray, List.getElem_cons_succ, List.getElem_cons_zero, Act.put, List.setIfInBounds_toArray, List.set_cons_zero, List.set_cons_succ]
            refine wpAnyH_take (i := 7) (v := ?v10) rfl (by kernel_rfl) (by kernel_rfl) (by kernel_rfl) (fun _ _ _ h => h) (Or.inl ⟨by rfl, ?y10⟩) (by assumption) ?z10
            case y10 => (intro w hSw; go_simp; first | done | with_reducible rfl)
            try simp only [List.getElem_toArray, List.getElem_cons_succ, List.getElem_cons_zero, Act.put, List.setIfInBounds_toArray, List.set_cons_zero, List.set_cons_succ]
            refine wpAnyH_take (i := 8) (v := ?v11) rfl (by kernel_rfl) (by kernel_rfl) (by kernel_rfl) (fun _ _ _ h => h) (Or.inl ⟨by rfl, ?y11⟩) (by assumption) ?z11
            case y11 => (intro w hSw; go_simp; first | done | with_reducible rfl)
            try simp only [List.getElem_toArray, List.getElem_cons_succ, List.getElem_cons_zero, Act.put, List.setIfInBounds_toArray, List.set_cons_zero, List.set_cons_succ]
            refine wpAnyH_ready (rs := [10]) (by kernel_rfl) (by simp) ?_
            refine AllReadyH.cons rfl (fun K hK => ?_) AllReadyH.nil
            have PC0 := BX3.cell (i := 0) (by omega)
            have PC1 := BX3.cell (i := 1) (by omega)
            have PF0 := BX3.frozen 0
            have PF1 := BX3.frozen 1
            have HKE : ∀ x0 x1 : Value, Kept n wr ((D3.setCell ⟨D1.heap.size, 0, none⟩ x0).setCell ⟨D1.heap.size, 1, none⟩ x1) := fun x0 x1 => (K3.setNew (q := ⟨D1.heap.size, 0, none⟩) GBX x0).setNew (q := ⟨D1.heap.size, 1, none⟩) GBX x1
            have HRE : ∀ x0 x1 : Value, Reader n ((D3.setCell ⟨D1.heap.size, 0, none⟩ x0).setCell ⟨D1.heap.size, 1, none⟩ x1) a len cap zs p4 := fun x0 x1 => (R3.setFar (q := ⟨D1.heap.size, 0, none⟩) (show n < D1.heap.size by have := HRD.out.lt; omega) x0).setFar (q := ⟨D1.heap.size, 1, none⟩) (show n < D1.heap.size by have := HRD.out.lt; omega) x1
            go_simp
            refine hK.out _ _ ⟨_, HKE _ _, HRE _ _⟩ (fun hHeld => ?_)
            clear hK K
            try simp only [List.getElem_toArray, List.getElem_cons_succ, List.getElem_cons_zero, Act.put, List.setIfInBounds_toArray, List.set_cons_zero, List.set_cons_succ]
            refine wpAnyH_take (i := 11) (v := ?v12) rfl (by kernel_rfl) (by kernel_rfl) (by kernel_rfl) (fun _ _ _ h => h) (Or.inl ⟨by rfl, ?y12⟩) (by assumption) ?z12
            case y12 => (intro w hSw; go_simp; first | done | with_reducible rfl)
            try simp only [List.getElem_toArray, List.getElem_cons_succ, List.getElem_cons_zero, Act.put, List.setIfInBounds_toArray, List.set_cons_zero, List.set_cons_succ]
            refine wpAnyH_done (by kernel_rfl) ?_ _
            go_wp2_with fail
            go_meet
            exact ⟨⟨kd, rr, cc, nn⟩, D1.heap.size, TN5, cN5, TP5, cP5, D2.heap.size, D3.heap.size, p4, rfl, rfl, HKE _ _, HRE _ _, by omega, GBX, desk_row BX3 _ _, DO3.keep (fun b h1 h2 => far2 (by omega) _ _), RM3.keep (fun b h1 h2 => far2 (by omega) _ _), GS, by simp [World.setCell]; try omega⟩
        · go_simp
          obtain ⟨D1, hD⟩ : ∃ V : World, V = D0.alloc (.cells #[.slice none 0 0, .slice none 0 0] 26) := ⟨_, rfl⟩
          rw [← hD]
          have hb : Below D0.heap.size D0 D1 := by rw [hD]; exact (Below.refl _ _).alloc (Nat.le_refl _) _
          have BX1 : D1.rowIs D0.heap.size 26 2 (fun _ => .slice none 0 0) := by rw [hD]; exact World.rowIs_alloc _ #[.slice none 0 0, .slice none 0 0] _ _ (fun i hi => by have : i = 0 ∨ i = 1 := (by simp at hi; omega); rcases this with rfl | rfl <;> rfl)
          have NBX : D0.heap.size ≠ n := by have := R0.lt; omega
          have K1 := K0.trans (Kept.of_below hb)
          have R1 := R0.of_below hb
          have GBX : wr.heap.size ≤ D0.heap.size := K0.size
          have hsb := hb.size
          have hlb : D0.heap.size < D1.heap.size := by rw [hD]; simp
          clear hD
          refine hK.out _ _ ⟨_, K1, R1⟩ (fun hHeld => ?_)
          clear hK K
          try simp only [List.getElem_toArray, List.getElem_cons_succ, List.getElem_cons_zero, Act.put, List.setIfInBounds_toArray, List.set_cons_zero, List.set_cons_succ]
          refine wpAnyH_ready (rs := [4]) (by kernel_rfl) (by simp) ?_
          refine AllReadyH.cons rfl (fun K hK => ?_) AllReadyH.nil
          go_simp
          refine (HDD.out _ R1).mono ?_
          rintro e D2 ⟨kd, rr, cc, nn, p4, rfl, k4, R2, hp4⟩
          have K2 := K1.trans k4
          have hs4 := k4.size
          have BX2 := BX1.of_block (k4.block _ BX1.lt NBX)
          refine hK.out _ _ ⟨_, K2, R2⟩ (fun hHeld => ?_)
          clear hK K
          try simp only [List.getElem_toArray, List.getElem_cons_succ, List.getElem_cons_zero, Act.put, List.setIfInBounds_toArray, List.set_cons_zero, List.set_cons_succ]
          refine wpAnyH_ready (rs := [5]) (by kernel_rfl) (by simp) ?_
          refine AllReadyH.cons rfl (fun K hK => ?_) AllReadyH.nil
          go_simp
          refine (HDO.out _ K2 ⟨kd, rr, cc, nn⟩).mono ?_
          rintro e D3 ⟨TN5, cN5, TP5, cP5, rfl, hb5, DO3, RM3⟩
          have K3 := K2.trans (Kept.of_below hb5)
          have R3 := R2.of_below hb5
          have GS : wr.heap.size ≤ D2.heap.size := K2.size
          have hs5 := hb5.size
          have BX3 := BX2.of_block (hb5.block _ BX2.lt)
          refine hK.out _ _ ⟨_, K3, R3⟩ (fun hHeld => ?_)
          clear hK K
          try simp only [List.getElem_toArray, List.getElem_cons_succ, List.getElem_cons_zero, Act.put, List.setIfInBounds_toArray, List.set_cons_zero, List.set_cons_succ]
          refine wpAnyH_take (i := 6) (v := ?v13) rfl (by kernel_rfl) (by kernel_rfl) (by kernel_rfl) (fun _ _ _ h => h) (Or.inl ⟨by rfl, ?y13⟩) (by assumption) ?z13
          case y13 => (intro w hSw; go_simp; first | done | with_reducible rfl)
          try simp only [List.getElem_toArray, List.getElem_cons_succ, List.getElem_cons_zero, Act.put, List.setIfInBounds_toArray, List.set_cons_zero, List.set_cons_succ]
          refine wpAnyH_take (i := 7) (v := ?v14) rfl (by kernel_rfl) (by kernel_rfl) (by kernel_rfl) (fun _ _ _ h => h) (Or.inl ⟨by rfl, ?y14⟩) (by assumption) ?z14
          case y14 => (intro w hSw; go_simp; first | done | with_reducible rfl)
          try simp only [List.getElem_toArray, List.getElem_cons_succ, List.getElem_cons_zero, Act.put, List.setIfInBounds_toArray, List.set_cons_zero, List.set_cons_succ]
          refine wpAnyH_take (i := 8) (v := ?v15) rfl (by kernel_rfl) (by kernel_rfl) (by kernel_rfl) (fun _ _ _ h => h) (Or.inl ⟨by rfl, ?y15⟩) (by assumption) ?z15
          case y15 => (intro w hSw; go_simp; first | done | with_reducible rfl)
          try simp only [List.getElem_toArray, List.getElem_cons_succ, List.getElem_cons_zero, Act.put, List.setIfInBounds_toArray, List.set_cons_zero, List.set_cons_succ]
          refine wpAnyH_ready (rs := [10]) (by kernel_rfl) (by simp) ?_
          refine AllReadyH.cons rfl (fun K hK => ?_) AllReadyH.nil
          have PC0 := BX3.cell (i := 0) (by omega)
          have PC1 := BX3.cell (i := 1) (by omega)
          have PF0 := BX3.frozen 0
          have PF1 := BX3.frozen 1
          have HKE : ∀ x0 x1 : Value, Kept n wr ((D3.setCell ⟨D0.heap.size, 0, none⟩ x0).setCell ⟨D0.heap.size, 1, none⟩ x1) := fun x0 x1 => (K3.setNew (q := ⟨D0.heap.size, 0, none⟩) GBX x0).setNew (q := ⟨D0.heap.size, 1, none⟩) GBX x1
          have HRE : ∀ x0 x1 : Value, Reader n ((D3.setCell ⟨D0.heap.size, 0, none⟩ x0).setCell ⟨D0.heap.size, 1, none⟩ x1) a len cap zs p4 := fun x0 x1 => (R3.setFar (q := ⟨D0.heap.size, 0, none⟩) (show n < D0.heap.size by have := HRD.out.lt; omega) x0).setFar (q := ⟨D0.heap.size, 1, none⟩) (show n < D0.heap.size by have := HRD.out.lt; omega) x1
          go_simp
          refine hK.out _ _ ⟨_, HKE _ _, HRE _ _⟩ (fun hHeld => ?_)
          clear hK K
          try simp only [List.getElem_toArray, List.getElem_cons_succ, List.getElem_cons_zero, Act.put, List.setIfInBounds_toArray, List.set_cons_zero, List.set_cons_succ]
          refine wpAnyH_take (i := 11) (v := ?v16) rfl (by kernel_rfl) (by kernel_rfl) (by kernel_rfl) (fun _ _ _ h => h) (Or.inl ⟨by rfl, ?y16⟩) (by assumption) ?z16
          case y16 => (intro w hSw; go_simp; first | done | with_reducible rfl)
          try simp only [List.getElem_toArray, List.getElem_cons_succ, List.getElem_cons_zero, Act.put, List.setIfInBounds_toArray, List.set_cons_zero, List.set_cons_succ]
          refine wpAnyH_done (by kernel_rfl) ?_ _
          go_wp2_with fail
          go_meet
          exact ⟨⟨kd, rr, cc, nn⟩, D0.heap.size, TN5, cN5, TP5, cP5, D2.heap.size, D3.heap.size, p4, rfl, rfl, HKE _ _, HRE _ _, by omega, GBX, desk_row BX3 _ _, DO3.keep (fun b h1 h2 => far2 (by omega) _ _), RM3.keep (fun b h1 h2 => far2 (by omega) _ _), GS, by simp [World.setCell]; try omega⟩
      case rest =>
        obtain ⟨b, pb, TN5, cN5, TP5, cP5, lo5, hi5, q5, rfl, rfl, hkx, hrx, hqx, hpb, hrow5, hown5, hroom5, hlo5, hhi5⟩ := hcut
        have hpw : pO < wc.heap.size := Nat.lt_of_lt_of_le HPL.out hkx.size
        have hr6 := HROW.out.of_block (hkx.block _ HPL.out hpn)
        have HKX := Lib.hid hkx
        have HRX := Lib.hid hrx
        have HR6 := Lib.hid hr6
        have HX5 := Lib.hid (And.intro (And.intro hpb hown5) (And.intro hroom5 (And.intro hlo5 hhi5)))
        have HPD := Lib.hid (HP.out.doD b)
        have HST : Hid (canB d b = false → doD d b = d) := fun h => HP.out.stay h
        have x0 : wc.cell? ⟨pb, 0, none⟩ = some (.slice TN5 (doD d b).now.length cN5) := hrow5.cell (i := 0) (by omega)
        have x1 : wc.cell? ⟨pb, 1, none⟩ = some (.slice TP5 (doD d b).past.length cP5) := hrow5.cell (i := 1) (by omega)
        have y0 : wc.cell? ⟨pO, 0, none⟩ = some (.slice TN d.now.length cN) := hr6.cell (i := 0) (by omega)
        have y1 : wc.cell? ⟨pO, 1, none⟩ = some (.slice TP d.past.length cP) := hr6.cell (i := 1) (by omega)
        have z0 := hr6.frozen 0
        have z1 := hr6.frozen 1
        clear e0 e1 hkx hrx hr6 hrow5 hown5 hroom5 hlo5 hhi5 hpb hpw
        rcases hcb : canB d b with _ | _
        · clear hcb x0 x1 y0 y1 z0 z1
          have HN : Hid (DkAt n W wc pO a len cap zs d q5) := by
            have hl := HLH.out
            exact ⟨HKW.out.trans HKX.out, HRX.out, TN, cN, TP, cP, lo, hi, HR6.out, HOWN.out.keep (HKX.out.own (by omega) hl.1.2), HROOM.out.keep (HKX.out.own (by omega) hl.1.2), hl.1.1, Nat.le_trans hl.1.2 HKX.out.size, hl.2.1, hl.2.2.1, hl.2.2.2⟩
          go_wp2_with fail
          first
            | exact ⟨⟨k - 1, d, q5, by omega, by first | rfl | (congr 1; omega), by omega, HP, HN⟩, by simp [intOf]; omega⟩
            | (go_roundw
               case rel => exact ⟨k - 1, d, q5, by omega, by first | rfl | go_num | (congr 1; omega), by omega, HP, HN⟩
               case measure => simp [intOf]; omega)
        · clear hcb
          have HN : Hid (DkAt n W ((wc.setCell ⟨pO, 0, none⟩ (.slice TN5 (doD d b).now.length cN5)).setCell ⟨pO, 1, none⟩ (.slice TP5 (doD d b).past.length cP5)) pO a len cap zs (doD d b) q5) := by
            have hx := HX5.out
            have hl := HPL.out
            have hw := HKW.out.size
            refine ⟨((HKW.out.trans HKX.out).setNew (q := ⟨pO, 0, none⟩) (show W.heap.size ≤ pO by omega) _).setNew (q := ⟨pO, 1, none⟩) (show W.heap.size ≤ pO by omega) _, (HRX.out.setFar (q := ⟨pO, 0, none⟩) (show n < pO by omega) _).setFar (q := ⟨pO, 1, none⟩) (show n < pO by omega) _, TN5, cN5, TP5, cP5, lo5, hi5, desk_row HR6.out _ _, hx.1.2.keep (fun b h1 h2 => far2 (by omega) _ _), hx.2.1.keep (fun b h1 h2 => far2 (by omega) _ _), by omega, by simp [World.setCell]; exact hx.2.2.2, .inr (by omega), cP5.lo, cP5.hi⟩
          go_wp2_with fail
          first
            | exact ⟨⟨k - 1, doD d b, q5, by omega, by first | rfl | (congr 1; omega), by omega, HPD, HN⟩, by simp [intOf]; omega⟩
            | (go_roundw
               case rel => exact ⟨k - 1, doD d b, q5, by omega, by first | rfl | go_num | (congr 1; omega), by omega, HPD, HN⟩
               case measure => simp [intOf]; omega)
    · obtain rfl : k = 0 := by omega
      have hWO := HS2.out
      have hlt0 : ¬ (0 : Int) < ((0 : Nat) : Int) := by omega
      go_wp2_with fail
      refine (odd n wr a len cap zs q m hrd (by omega) hm hm').mono ?_
      rintro e u1 ⟨t, rfl, k1, R1⟩
      have KU := hkk.trans k1
      have hrow1 := hrow.of_block (k1.block _ hpl hpn)
      have hown1 := hown.keep (k1.own (by omega) hhi)
      have hroom1 := hroom.keep (k1.own (by omega) hhi)
      have hhi1 := Nat.le_trans hhi k1.size
      rcases ht : t with _ | _
      · have y0 : u1.cell? ⟨pO, 0, none⟩ = some (.slice TN d.now.length cN) := hrow1.cell (i := 0) (by omega)
        have y1 : u1.cell? ⟨pO, 1, none⟩ = some (.slice TP d.past.length cP) := hrow1.cell (i := 1) (by omega)
        obtain ⟨⟨b0, b1⟩, g0, g1⟩ := HQ.out u1 KU
        clear hrow hown hroom hhi
        go_wp2_with fail
        obtain ⟨r0, r1, rz, rb⟩ := box_put (.slice TN d.now.length cN) (.slice TP d.past.length cP) b0 b1
        obtain ⟨s1, s2⟩ := (hown1.keep (w' := (u1.setCell ⟨w.heap.size, 0, none⟩ (.slice TN d.now.length cN)).setCell ⟨w.heap.size, 1, none⟩ (.slice TP d.past.length cP)) (fun b h1 h2 => far2 (by omega) _ _)).rows (B := w.heap.size) (by omega) (by rw [rz]; exact hhi1)
        exact bodyPost_ret (v := dskV TN d.now.length cN TP d.past.length cP) (by simp [results, dskV, Tryz.results12, go_sem, r0, r1]) rfl
          ⟨d, TN, cN, TP, ⟨cP, hc1, hc2⟩, q + 1, rfl, ((K0w.trans KU).setNew (q := ⟨w.heap.size, 0, none⟩) (Nat.le_refl _) _).setNew (q := ⟨w.heap.size, 1, none⟩) (Nat.le_refl _) _, (R1.setFar (q := ⟨w.heap.size, 0, none⟩) hnw _).setFar (q := ⟨w.heap.size, 1, none⟩) hnw _, by omega, by omega, by omega, s1, s2⟩
      · clear hrow hown hroom hhi
        go_wp2_with fail
        refine (pick n u1 a len cap zs (q + 1) 3 R1 (by omega) (by omega) (by omega)).mono ?_
        rintro e u2 ⟨v, rfl, v0, v1, k2, R2⟩
        have KU2 := KU.trans k2
        have hpl1 := hrow1.lt
        have hrow2 := hrow1.of_block (k2.block _ hpl1 hpn)
        have hown2 := hown1.keep (k2.own (by omega) hhi1)
        have hroom2 := hroom1.keep (k2.own (by omega) hhi1)
        have hhi2 := Nat.le_trans hhi1 k2.size
        have hpl2 := hrow2.lt
        clear hrow1 hown1 hroom1 hhi1
        have hvv : v = 0 ∨ v = 1 ∨ v = 2 := by omega
        rcases hvv with rfl | rfl | rfl
        · obtain ⟨u4, hu4⟩ : ∃ u4 : World, (u2.alloc (.cells #[.int .i64 10] 3)).alloc (.cells #[.slice (some ⟨u2.heap.size, 0, none⟩) 1 1] 52) = u4 := ⟨_, rfl⟩
          have hb4 : Below u2.heap.size u2 u4 := by rw [← hu4]; exact ((Below.refl _ _).alloc (Nat.le_refl _) _).alloc (by simp) _
          have hz4 : u4.heap.size = u2.heap.size + 1 + 1 := by rw [← hu4]; simp
          have hten : Rows2 u4 (fun b => u2.heap.size ≤ b ∧ b < u2.heap.size + 2) (some ⟨u2.heap.size + 1, 0, none⟩) [[10]] := by rw [← hu4]; exact ten_rows u2
          have hrow4 := hrow2.of_block (hb4.block _ hpl2)
          have hown4 := hown2.keep (w' := u4) (fun b _ h2 => hb4.block b (by omega))
          have KU4 := KU2.trans (Kept.of_below hb4)
          have R4 := R2.of_below hb4
          have y0 : u4.cell? ⟨pO, 0, none⟩ = some (.slice TN d.now.length cN) := hrow4.cell (i := 0) (by omega)
          have y1 : u4.cell? ⟨pO, 1, none⟩ = some (.slice TP d.past.length cP) := hrow4.cell (i := 1) (by omega)
          have z0 := hrow4.frozen 0
          have z1 := hrow4.frozen 1
          obtain ⟨⟨b0, b1⟩, g0, g1⟩ := HQ.out u4 KU4
          have n1 : ¬ (w.heap.size = pO) := by omega
          have n2 : ¬ (pO = w.heap.size) := by omega
          clear hrow2 hown2 hroom2
          go_wp2_with fail
          obtain ⟨vN, hvN⟩ : ∃ vN, vN = Value.slice (some ⟨u2.heap.size + 1, 0, none⟩) 1 1 := ⟨_, rfl⟩
          rw [← hvN]
          obtain ⟨u5, hu5⟩ : ∃ u5 : World, u4.setCell ⟨pO, 0, none⟩ vN = u5 := ⟨_, rfl⟩
          have hs5 : ∀ b, b ≠ pO → u5.heap[b]? = u4.heap[b]? := fun b hb => by rw [← hu5]; exact Below.heap_setCell _ _ _ _ hb
          have hz5 : u5.heap.size = u4.heap.size := by rw [← hu5]; simp [World.setCell]
          have K5 : Kept n W u5 := by rw [← hu5]; exact KU4.setNew (q := ⟨pO, 0, none⟩) (show W.heap.size ≤ pO by omega) _
          have R5 : Reader n u5 a len cap zs (q + 1 + 1) := by rw [← hu5]; exact R4.setFar (q := ⟨pO, 0, none⟩) (show n < pO by omega) _
          obtain ⟨⟨c0, c1⟩, _, _⟩ := HQ.out u5 K5
          rw [hu5]
          clear hu5
          obtain ⟨r0, r1, rz, rb⟩ := box_put vN (.slice TP d.past.length cP) c0 c1
          have hall : ∀ b, b ≠ pO → b ≠ w.heap.size → ((u5.setCell ⟨w.heap.size, 0, none⟩ vN).setCell ⟨w.heap.size, 1, none⟩ (.slice TP d.past.length cP)).heap[b]? = u4.heap[b]? := fun b h1 h2 => (rb b h2).trans (hs5 b h1)
          obtain ⟨_, s2⟩ := (hown4.keep (w' := (u5.setCell ⟨w.heap.size, 0, none⟩ vN).setCell ⟨w.heap.size, 1, none⟩ (.slice TP d.past.length cP)) (fun b h1 h2 => hall b (by omega) (by omega))).rows (B := w.heap.size) (by omega) (by rw [rz, hz5]; omega)
          have s1 := (hten.keep (w' := (u5.setCell ⟨w.heap.size, 0, none⟩ vN).setCell ⟨w.heap.size, 1, none⟩ (.slice TP d.past.length cP)) (fun b hb => hall b (by have := hb.1; omega) (by have := hb.1; omega))).mono (T := fun b => w.heap.size ≤ b ∧ b < ((u5.setCell ⟨w.heap.size, 0, none⟩ vN).setCell ⟨w.heap.size, 1, none⟩ (.slice TP d.past.length cP)).heap.size) (fun b hb => ⟨by have := hb.1; omega, by rw [rz, hz5, hz4]; have := hb.2; omega⟩)
          have hfin := ((K0w.trans K5).setNew (q := ⟨w.heap.size, 0, none⟩) (Nat.le_refl _) vN).setNew (q := ⟨w.heap.size, 1, none⟩) (Nat.le_refl _) (.slice TP d.past.length cP)
          have hrfin := (R5.setFar (q := ⟨w.heap.size, 0, none⟩) hnw vN).setFar (q := ⟨w.heap.size, 1, none⟩) hnw (.slice TP d.past.length cP)
          subst hvN
          exact bodyPost_ret (v := dskV (some ⟨u2.heap.size + 1, 0, none⟩) 1 1 TP d.past.length cP) (by simp [results, dskV, Tryz.results12, go_sem, r0, r1]) rfl
            ⟨⟨[[10]], d.past⟩, _, 1, TP, ⟨cP, hc1, hc2⟩, q + 1 + 1, rfl, hfin, hrfin, by omega, by simp, by show d.past.length ≤ 9; omega, s1, s2⟩
        · obtain ⟨u4, hu4⟩ : ∃ u4 : World, (u2.alloc (.cells #[] 52)).alloc (.cells #[.slice (some ⟨u2.heap.size, 0, none⟩) 0 0] 23) = u4 := ⟨_, rfl⟩
          have hb4 : Below u2.heap.size u2 u4 := by rw [← hu4]; exact ((Below.refl _ _).alloc (Nat.le_refl _) _).alloc (by simp) _
          have hz4 : u4.heap.size = u2.heap.size + 1 + 1 := by rw [← hu4]; simp
          have hnews : ∀ j x, [Value.slice (some ⟨u2.heap.size, 0, none⟩) 0 0][j]? = some x → u4.cell? ((⟨u2.heap.size + 1, 0, none⟩ : Addr).add j) = some x := fun j x hj => by
            rw [← hu4]
            have := cell_one_new (u2.alloc (.cells #[] 52)) (.slice (some ⟨u2.heap.size, 0, none⟩) 0 0) 23 j x hj
            simpa using this
          have hrow4 := hrow2.of_block (hb4.block _ hpl2)
          have hown4 := hown2.keep (w' := u4) (fun b _ h2 => hb4.block b (by omega))
          have hroom4 := hroom2.keep (w' := u4) (fun b _ h2 => hb4.block b (by omega))
          have KU4 := KU2.trans (Kept.of_below hb4)
          have R4 := R2.of_below hb4
          have hpl4 := hrow4.lt
          have hW4 := KU4.size
          obtain ⟨TQ, cQ, u5, hrun, hq1, hq2, e1, e2, e3, hs5, hk5, s1, s2⟩ := append_past hown4 hroom4 (by omega) hc1 hc2 hdl.2 i1 HI1.out HY0.out HY1.out HY2.out ⟨u2.heap.size + 1, 0, none⟩ (some ⟨u2.heap.size, 0, none⟩) hnews
          have K5 : Kept n W u5 := ⟨e1.trans KU4.os, e2.trans KU4.tape, e3.trans KU4.output, Nat.le_trans hW4 hs5, fun k hk hn => (hk5 k (by omega) (by omega)).trans (KU4.block k hk hn)⟩
          have R5 : Reader n u5 a len cap zs (q + 1 + 1) := R4.of_blocks (fun b hb => hk5 b (by omega) (by omega)) hs5
          have hrow5 := hrow4.of_block (hk5 pO hpl4 (by omega))
          have y1' : u2.cell? ⟨pO, 1, none⟩ = some (.slice TP d.past.length cP) := hrow2.cell (i := 1) (by omega)
          have x1 : u4.cell? ⟨pO, 1, none⟩ = some (.slice TP d.past.length cP) := hrow4.cell (i := 1) (by omega)
          have y0 : u5.cell? ⟨pO, 0, none⟩ = some (.slice TN d.now.length cN) := hrow5.cell (i := 0) (by omega)
          have y1 : u5.cell? ⟨pO, 1, none⟩ = some (.slice TP d.past.length cP) := hrow5.cell (i := 1) (by omega)
          have z0 := hrow5.frozen 0
          have z1 := hrow5.frozen 1
          obtain ⟨⟨b0, b1⟩, g0, g1⟩ := HQ.out u5 K5
          have n1 : ¬ (w.heap.size = pO) := by omega
          have n2 : ¬ (pO = w.heap.size) := by omega
          have HS := Lib.hid (And.intro s1 s2)
          have HZ5 : Hid (u4.heap.size ≤ u5.heap.size ∧ pO < u4.heap.size ∧ u2.heap.size ≤ u4.heap.size) := ⟨hs5, hpl4, hb4.size⟩
          have HE := Lib.hid (And.intro hq1 hq2)
          have HR := Lib.hid hrun
          clear hrow2 hown2 hroom2 hrow4 hown4 hroom4 hnews s1 s2 hrun e1 e2 e3 hk5 hq1 hq2 hrow5
          go_wp2_with (at_builtin; refine wpList_append_run _ rfl (.tmp 47) (.tmp 49) 24 rfl rfl rfl HR.out ?_)
          obtain ⟨vP, hvP⟩ : ∃ vP, vP = Value.slice TQ (d.past.length + 1) cQ := ⟨_, rfl⟩
          rw [← hvP]
          obtain ⟨u6, hu6⟩ : ∃ u6 : World, u5.setCell ⟨pO, 1, none⟩ vP = u6 := ⟨_, rfl⟩
          have hs6 : ∀ b, b ≠ pO → u6.heap[b]? = u5.heap[b]? := fun b hb => by rw [← hu6]; exact Below.heap_setCell _ _ _ _ hb
          have hz6 : u6.heap.size = u5.heap.size := by rw [← hu6]; simp [World.setCell]
          have K6 : Kept n W u6 := by rw [← hu6]; exact K5.setNew (q := ⟨pO, 1, none⟩) (show W.heap.size ≤ pO by omega) _
          have R6 : Reader n u6 a len cap zs (q + 1 + 1) := by rw [← hu6]; exact R5.setFar (q := ⟨pO, 1, none⟩) (show n < pO by omega) _
          obtain ⟨⟨c0, c1⟩, _, _⟩ := HQ.out u6 K6
          rw [hu6]
          clear hu6
          obtain ⟨r0, r1, rz, rb⟩ := box_put (.slice TN d.now.length cN) vP c0 c1
          have hz5 := HZ5.out
          have hall : ∀ b, (lo ≤ b ∧ b < hi) ∨ (u4.heap.size ≤ b ∧ b < u5.heap.size) → ((u6.setCell ⟨w.heap.size, 0, none⟩ (.slice TN d.now.length cN)).setCell ⟨w.heap.size, 1, none⟩ vP).heap[b]? = u5.heap[b]? := fun b hb => (rb b (by omega)).trans (hs6 b (by omega))
          have t1 := (HS.out.1.keep (w' := (u6.setCell ⟨w.heap.size, 0, none⟩ (.slice TN d.now.length cN)).setCell ⟨w.heap.size, 1, none⟩ vP) hall).mono (T := fun b => w.heap.size ≤ b ∧ b < ((u6.setCell ⟨w.heap.size, 0, none⟩ (.slice TN d.now.length cN)).setCell ⟨w.heap.size, 1, none⟩ vP).heap.size) (fun b hb => by show _ ≤ b ∧ b < _; rw [rz, hz6]; omega)
          have t2 := (HS.out.2.keep (w' := (u6.setCell ⟨w.heap.size, 0, none⟩ (.slice TN d.now.length cN)).setCell ⟨w.heap.size, 1, none⟩ vP) hall).mono (T := fun b => w.heap.size ≤ b ∧ b < ((u6.setCell ⟨w.heap.size, 0, none⟩ (.slice TN d.now.length cN)).setCell ⟨w.heap.size, 1, none⟩ vP).heap.size) (fun b hb => by show _ ≤ b ∧ b < _; rw [rz, hz6]; omega)
          have hfin := ((K0w.trans K6).setNew (q := ⟨w.heap.size, 0, none⟩) (Nat.le_refl _) (.slice TN d.now.length cN)).setNew (q := ⟨w.heap.size, 1, none⟩) (Nat.le_refl _) vP
          have hrfin := (R6.setFar (q := ⟨w.heap.size, 0, none⟩) hnw (.slice TN d.now.length cN)).setFar (q := ⟨w.heap.size, 1, none⟩) hnw vP
          subst hvP
          have hle : (d.past ++ [[]]).length = d.past.length + 1 := by simp
          exact bodyPost_ret (v := dskV TN d.now.length cN TQ (d.past.length + 1) cQ) (by simp [results, dskV, Tryz.results12, go_sem, r0, r1]) rfl
            ⟨⟨d.now, d.past ++ [[]]⟩, TN, cN, TQ, ⟨cQ, by simp only; rw [hle]; exact HE.out.1, HE.out.2⟩, q + 1 + 1, by simp only; rw [hle], hfin, hrfin, by omega, hdl.1, by simp only; rw [hle]; omega, t1, t2⟩
        · have y0 : u2.cell? ⟨pO, 0, none⟩ = some (.slice TN d.now.length cN) := hrow2.cell (i := 0) (by omega)
          obtain ⟨⟨b0, b1⟩, g0, g1⟩ := HQ.out u2 KU2
          clear hrow2 hown2 hroom2
          go_wp2_with fail
          obtain ⟨r0, r1, rz, rb⟩ := box_put (.slice none 0 0) (.slice none 0 0) b0 b1
          exact bodyPost_ret (v := dskV none 0 0 none 0 0) (by simp [results, dskV, Tryz.results12, go_sem, r0, r1]) rfl
            ⟨dkZero, none, 0, none, ⟨0, Nat.le_refl _, Nat.zero_le _⟩, q + 1 + 1, rfl, ((K0w.trans KU2).setNew (q := ⟨w.heap.size, 0, none⟩) (Nat.le_refl _) _).setNew (q := ⟨w.heap.size, 1, none⟩) (Nat.le_refl _) _, (R2.setFar (q := ⟨w.heap.size, 0, none⟩) hnw _).setFar (q := ⟨w.heap.size, 1, none⟩) hnw _, by omega, by simp [dkZero], by simp [dkZero], fun h => absurd h (by simp [dkZero]), fun h => absurd h (by simp [dkZero])⟩
end Go.Proofs.YtlmaeadbomnhlaaGreat

namespace Go.Proofs.YtlmaeadbomnhlaaGreat
set_option linter.unusedSimpArgs false
set_option linter.unusedVariables false
open Go.RowKit
theorem GrowsD.kept {n : Nat} {w w' : World} {base : Nat} {v : Value} {l : List Dd} (h : GrowsD w base v l) (hk : Kept n w w') (hn : n < base) : GrowsD w' base v l :=
  ownsRow_of_block h fun k hkk => hk.block k (World.ownsRow.lt h k hkk).2 (by have := (World.ownsRow.lt h k hkk).1; omega)
end Go.Proofs.YtlmaeadbomnhlaaGreat

namespace Go.Proofs.YtlmaeadbomnhlaaGreat
set_option linter.unusedSimpArgs false
set_option linter.unusedVariables false
open Go.RowKit
structure DrS (n R : Nat) (W w' : World) : Prop where
  os : w'.os = W.os
  tape : w'.tape = W.tape
  output : w'.output = W.output
  size : W.heap.size ≤ w'.heap.size
  block : ∀ k, k < W.heap.size → k ≠ n → k ≠ R → w'.heap[k]? = W.heap[k]?
theorem DrS.kept {n R : Nat} {W w' : World} (h : Kept n W w') : DrS n R W w' := ⟨h.os, h.tape, h.output, h.size, fun k h1 h2 _ => h.block k h1 h2⟩
theorem DrS.set {n R : Nat} {W w' : World} (h : DrS n R W w') (o : Nat) (v : Value) : DrS n R W (w'.setCell ⟨R, o, none⟩ v) :=
  ⟨h.os, h.tape, h.output, by simpa [World.setCell] using h.size, fun k h1 h2 h3 => (Below.heap_setCell _ _ _ _ h3).trans (h.block k h1 h2 h3)⟩
theorem DrS.bel {n R : Nat} {W w1 w2 : World} (h : DrS n R W w1) (hb : Below w1.heap.size w1 w2) : DrS n R W w2 :=
  ⟨hb.os.trans h.os, hb.tape.trans h.tape, hb.output.trans h.output, Nat.le_trans h.size hb.size, fun k h1 h2 h3 => (hb.block k (Nat.lt_of_lt_of_le h1 h.size)).trans (h.block k h1 h2 h3)⟩
end Go.Proofs.YtlmaeadbomnhlaaGreat

namespace Go.Proofs.YtlmaeadbomnhlaaGreat
set_option linter.unusedSimpArgs false
set_option linter.unusedVariables false
open Go.RowKit
end Go.Proofs.YtlmaeadbomnhlaaGreat
