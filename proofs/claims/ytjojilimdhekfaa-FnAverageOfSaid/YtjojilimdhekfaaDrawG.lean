/- The walk of what draws a game. -/
import Derived.Test.YtjojilimdhekfaaDrawW
import Derived.Deep.RegionWith
import Derived.Deep.DeepCutAuto
namespace Go.Proofs.Ytjojilimdhekfaa
set_option linter.unusedSimpArgs false
set_option linter.unusedVariables false
open Go.RowKit

set_option maxHeartbeats 4000000 in
set_option maxRecDepth 100000 in
theorem l20Game (n : Nat) (w : World) (a : Option Addr) (len cap : Nat) (zs : List Int) (p most m : Int) (h : Reader n w a len cap zs p) (hp : p < 20000) (hq1 : 1 ≤ most) (hq2 : most ≤ 16) (hm : 1 ≤ m) (hm' : m ≤ 30000) :
    Calls Try.prog 72 #[.pointer (some ⟨n, 0, none⟩), .int .i64 most, .int .i64 m] w (DrawnG n w a len cap zs p) := by
  have hn := h.lt
  have p0 := h.p_lo
  obtain ⟨i0, hi0, hz0, hz1, hz2⟩ := info_parts infoI
  obtain ⟨i1, hi1, hy0, hy1, hy2⟩ := info_parts infoR
  have HI0 := Lib.hid hi0
  have HZ0 := Lib.hid hz0
  have HZ1 := Lib.hid hz1
  have HZ2 := Lib.hid hz2
  have HI1 := Lib.hid hi1
  have HY0 := Lib.hid hy0
  have HY1 := Lib.hid hy1
  have HY2 := Lib.hid hy2
  clear hi0 hz0 hz1 hz2 hi1 hy0 hy1 hy2
  go_enter Try.func72, Try.ntmps72
  go_wp2_with fail
  refine (pick n _ a len cap zs p most h (by omega) (by omega) (by omega)).mono ?_
  intro e w1 hP
  obtain ⟨v1, rfl, v10, v11, k1, R1⟩ := hP
  go_wp2_with fail
  refine (pick n _ a len cap zs (p + 1) most R1 (by omega) (by omega) (by omega)).mono ?_
  intro e w2 hP
  obtain ⟨v2, rfl, v20, v21, k2, R2⟩ := hP
  have K2 := k1.trans k2
  clear k1 k2 R1 h
  go_wp2_with fail
  have R2' := R2.of_below ((Below.refl w2.heap.size w2).alloc (Nat.le_refl _) (.cells #[.int .i64 2, .int .i64 3, .int .i64 10] 3))
  refine (pick n _ a len cap zs (p + 1 + 1) 3 R2' (by omega) (by omega) (by omega)).mono ?_
  intro e w3 hP
  obtain ⟨v3, rfl, v30, v31, k3, R3⟩ := hP
  have hn2 := R2.lt
  have K3 := (K2.alloc (.cells #[.int .i64 2, .int .i64 3, .int .i64 10] 3)).trans k3
  obtain ⟨high, hh0, hh1, hhc⟩ := tab3' (w1 := w3) (k := w2.heap.size) ((k3.cell (p := w2.heap.size) (o := 0) (by simp) (by omega)).trans (by simp [go_sem])) ((k3.cell (p := w2.heap.size) (o := 1) (by simp) (by omega)).trans (by simp [go_sem])) ((k3.cell (p := w2.heap.size) (o := 2) (by simp) (by omega)).trans (by simp [go_sem])) v30 v31
  clear k3 R2 R2' K2
  have hs3 := K3.size
  have T0 : Hid (TabSt n w a len cap zs (p + 3) (1 + v2).toNat (.slice (some ⟨w3.heap.size, 0, none⟩) 0 0) 0 (w3.alloc (.cells #[] 24))) :=
    ⟨[], fun _ => none, fun _ => 0, p + 1 + 1 + 1, rfl, fun i hi => by omega, (GrowsR.lit w3 hs3 _ _).up (by simp) (Nat.le_refl _), K3.alloc _, R3.of_below ((Below.refl _ _).alloc (Nat.le_refl _) _), by omega, by omega⟩
  go_wp2_with fail
  clear hhc R3 K3
  go_loopw [10, 11] (fun v i wr => ∃ k : Nat, (k : Int) ≤ 1 + v1 ∧ i = .int .i64 k ∧ Hid (TabSt n w a len cap zs (p + 3) (1 + v2).toNat v k wr)) (fun _ i _ => (1 + v1).toNat - (intOf i).toNat)
  case atStart => exact ⟨0, by omega, rfl, T0⟩
  case round =>
    clear T0 hs3
    obtain ⟨k, hk, rfl, HT⟩ := hrel
    obtain ⟨g, AA, CC, p', hgl, hgr, hG, hK, hR, hp1, hp2⟩ := HT.out
    have HGL := Lib.hid hgl
    have HGR := Lib.hid hgr
    have HG := Lib.hid hG
    have HKp := Lib.hid hK
    have HRd := Lib.hid hR
    have hws := hK.size
    have hnw := hR.lt
    clear hgl hgr hG hK hR HT
    by_cases hlt : (k : Int) < 1 + v1
    · obtain ⟨wo, rfl⟩ : ∃ wo : World, wo = wr := ⟨_, rfl⟩
      have S0 : Hid (RowSt n wo a len cap zs p' (.slice (some ⟨wo.heap.size, 0, none⟩) 0 0) 0 (wo.alloc (.cells #[] 3))) :=
        ⟨[], p', rfl, Grows.lit wo (Nat.le_refl _), (Kept.refl _ _).alloc _, HRd.out.of_below ((Below.refl _ _).alloc (Nat.le_refl _) _), Int.le_refl _, by omega⟩
      go_wp2_with fail
      go_loopw [12, 13] (fun v i wr => ∃ x : Nat, (x : Int) ≤ 1 + v2 ∧ i = .int .i64 x ∧ Hid (RowSt n wo a len cap zs p' v x wr)) (fun _ i _ => (1 + v2).toNat - (intOf i).toNat)
      case atStart => exact ⟨0, by omega, rfl, S0⟩
      case round =>
        clear S0
        obtain ⟨x, hx, rfl, HS⟩ := hrel
        obtain ⟨l, q, hll, hO, hK, hR, hq3, hq4⟩ := HS.out
        have HLL := Lib.hid hll
        have HO := Lib.hid hO
        have HK := Lib.hid hK
        clear hll hO hK HS
        have hos := HK.out.size
        by_cases hlx : (x : Int) < 1 + v2
        · go_wp2_with fail
          refine (pick n _ a len cap zs q high hR (by omega) (by omega) (by omega)).mono ?_
          intro e w4 hP
          obtain ⟨v4, rfl, v40, v41, k4, R4⟩ := hP
          go_wp2_with fail
          refine (pick n _ a len cap zs (q + 1) high R4 (by omega) (by omega) (by omega)).mono ?_
          intro e w5 hP
          obtain ⟨v5, rfl, v50, v51, k5, R5⟩ := hP
          have K5 := Lib.hid (HK.out.trans (k4.trans k5))
          have O5 := Lib.hid (HO.out.kept (k4.trans k5) hnw)
          have hos5 := K5.out.size
          clear k4 k5 R4
          go_wp2_with (at_builtin; refine wpList_append_own_at _ rfl (.tmp 39) (.tmp 47) _ rfl wo.heap.size 3 i0 (.int .i64 0) 1 8 Try.underlying24 HI0.out HZ0.out HZ1.out HZ2.out rfl (by decide) _ _ _ rfl (O5.out.alloc _) ⟨w5.heap.size, 0, none⟩ 1 1 [.int .i64 (v4 - v5)] rfl rfl (cell_one_new _ _ _) ?c2 ?c3 ?c4 ?c5 ?_)
          case c2 => first | rfl | (intro u hu; simp at hu; subst hu; rfl)
          case c3 => rw [HLL.out]; unfold maxLen; omega
          case c4 => rw [HLL.out]; omega
          case c5 => first | omega | (simp; omega)
          intro v' w6 hown hgrow _ _
          have HN : Hid (RowSt n wo a len cap zs p' v' (x + 1) w6) :=
            ⟨l ++ [v4 - v5], q + 1 + 1, by rw [List.length_append, HLL.out]; rfl, Grows.snoc hown, K5.out.appended hgrow O5.out.lo, R5.appended hgrow (fun k hk => by have := O5.out.lo k hk; omega), by omega, by omega⟩
          clear hown hgrow
          go_wp2_with fail
          go_roundw
          case rel => exact ⟨x + 1, by omega, by go_num, HN⟩
          case measure => simp [intOf]; omega
        · have hx2 : x = (1 + v2).toNat := by omega
          obtain ⟨An, cn, hv, hcn1, hcn2, hon⟩ := HO.out.own'
          have HX := Lib.hid hx2
          have HGV := Lib.hid (HG.out.kept HK.out (by omega))
          have HON := Lib.hid hon
          have hnl := hR.lt
          subst hv
          clear hon hx2
          go_wp2_with (at_builtin; refine wpList_append_own_at _ rfl (.tmp 49) (.tmp 51) _ rfl w.heap.size 24 i1 (.slice none 0 0) 1 24 Try.underlying23 HI1.out HY0.out HY1.out HY2.out rfl (by decide) _ _ _ rfl (HGV.out.alloc _) ⟨wr.heap.size, 0, none⟩ 1 1 [.slice An l.length cn] rfl rfl (cell_one_new _ _ _) ?c2 ?c3 ?c4 ?c5 ?_)
          case c2 => first | rfl | (intro u hu; simp at hu; subst hu; rfl)
          case c3 => rw [HGL.out]; unfold maxLen; omega
          case c4 => rw [HGL.out]; omega
          case c5 => first | omega | (simp; omega)
          intro v' w4 hown hgrow _ hat
          have HN : Hid (TabSt n w a len cap zs (p + 3) (1 + v2).toNat v' (k + 1) w4) := by
            obtain ⟨A', C', hg'⟩ := HGV.out.snoc HON.out hcn1 hcn2 hws hown hgrow (by rcases hat with e | e; exact .inl e; exact .inr (by rw [e]; try simp))
            refine ⟨g ++ [l], A', C', q, by rw [List.length_append, HGL.out]; rfl, fun i hi => ?_, hg', (HKp.out.trans HK.out).appended hgrow HGV.out.lo, hR.appended hgrow (fun k hk => by have := HGV.out.lo k hk; omega), by omega, by omega⟩
            by_cases e : i < k
            · rw [rowAt_snoc_lt _ _ _ (by rw [HGL.out]; exact e)]; exact HGR.out i e
            · have e2 : i = g.length := by rw [HGL.out]; omega
              rw [e2, rowAt_snoc_eq, HLL.out, HX.out]
          clear hown hgrow hat
          go_wp2_with fail
          go_roundw
          case rel => exact ⟨k + 1, by omega, by go_num, HN⟩
          case measure => simp [intOf]; omega
    · -- all rows are there
      go_wp2_with fail
      refine (odd n _ a len cap zs p' m HRd.out (by omega) (by omega) (by omega)).mono ?_
      intro e w4 hP
      obtain ⟨b, rfl, k4, R4⟩ := hP
      have hG4 := HG.out.kept k4 (by omega)
      have K4 := HKp.out.trans k4
      have hk0 : k = g.length := HGL.out.symm
      have hrl : ∀ i, i < g.length → (rowAt g i).length ≤ 16 := fun i hi => by rw [HGR.out i (by omega)]; omega
      have hgl17 : g.length ≤ 17 := by omega
      cases b with
      | false =>
        have HG4 := Lib.hid hG4
        have HK4 := Lib.hid K4
        have HRL := Lib.hid hrl
        have HR4 := Lib.hid R4
        clear hG4 K4 hk0 hrl R4
        go_wp2_with fail
        go_ret
        obtain ⟨T, c, hv, hc1, hc2, hown⟩ := HG4.out.table
        exact ⟨g, T, c, _, by rw [← hv]; rfl, hc1, hc2, hgl17, HRL.out, HK4.out, HR4.out, by omega, by omega, hown.more (Nat.le_refl _) HG4.out.hile⟩
      | true =>
        have HG4 := Lib.hid hG4
        have HK4 := Lib.hid K4
        have HRL := Lib.hid hrl
        have hR4 := R4.lt
        have hg0 : 0 < g.length := by omega
        have hr0 : 0 < (rowAt g 0).length := by rw [HGR.out 0 (by omega)]; omega
        clear hG4 K4 hk0 hrl k4
        go_wp2_with fail
        refine (pick n _ a len cap zs (p' + 1) 3 R4 (by omega) (by omega) (by omega)).mono ?_
        intro e w5 hP
        obtain ⟨v5, rfl, v50, v51, k5, R5⟩ := hP
        have HG5 := Lib.hid (HG4.out.kept k5 (by omega))
        have HK5 := Lib.hid (HK4.out.trans k5)
        have hs5 := HK5.out.size
        have hR5 := R5.lt
        have hs45 := k5.size
        clear HG4 HK4 k5 R4
        have hv5 : v5 = 0 ∨ v5 = 1 ∨ v5 = 2 := by omega
        rcases hv5 with rfl | rfl | rfl
        · go_wp2_with fail
          go_ret
          exact ⟨[], some ⟨w5.heap.size, 0, none⟩, 0, p' + 1 + 1, rfl, Nat.le_refl _, Nat.zero_le _, by simp, fun i hi => by simp at hi, HK5.out.alloc _, R5.of_below ((Below.refl _ _).alloc (Nat.le_refl _) _), by omega, by omega, fun h0 => absurd h0 (by simp)⟩
        · obtain ⟨bt, capt, f, hv, hbt, hct, hcm, hrow, hfr⟩ := HG5.out.top_row.resolve_left (fun hh => by have := hh.2; subst this; simp at hg0)
          obtain ⟨b0, N0, f0, hA0, hb1, hb2, hrw0, hN0, hf0⟩ := HG5.out.rows.own 0 hg0 hr0
          have hx1 := hrow.cell (i := 0) (by omega)
          rw [hfr 0 hg0, hA0] at hx1
          have hx2 := hrw0.cell (i := 0) (by omega)
          rw [hf0 0 hr0] at hx2
          have hx3 := hrw0.frozen 0
          subst hv
          unfold maxLen at hcm
          clear hrow hfr hrw0 hf0 hA0
          have RA : Reader n w5.drew a len cap zs (p' + 1 + 1) := R5.of_blocks (fun _ _ => rfl) (Nat.le_refl _)
          have RB : ∀ o, Reader n (w5.alloc o).drew a len cap zs (p' + 1 + 1) := fun o => (R5.of_below ((Below.refl _ _).alloc (Nat.le_refl _) o)).of_blocks (fun _ _ => rfl) (Nat.le_refl _)
          have hbt5 : bt < w5.heap.size := World.block_lt_of_cell? _ _ hx1
          have hb05 : b0 < w5.heap.size := World.block_lt_of_cell? _ _ hx2
          go_wp2_with fail
          have HX := Lib.hid hx1
          have E1 := staysK (n := n) hbt5 (by omega) hx1
          have E2 := staysK (n := n) hb05 (by omega) hx2
          have E3 := staysKF (n := n) hb05 (by omega) hx3
          go_region_with (first | (go_at_call 69; refine (pick n _ a len cap zs (p' + 1 + 1) 2 (RB _) (by omega) (by omega) (by omega)).mono ?_; intro e w6 hP; obtain ⟨v6, rfl, v60, v61, k6, R6⟩ := hP; obtain ⟨y, hy1, hy2⟩ := tab2 v60 v61; have k6' : Kept n w5 w6 := Kept.trans (((Kept.refl n w5).alloc _).drew) k6; have hs6 := k6'.size; have hb6 : bt < w6.heap.size := (by omega); have hb7 : b0 < w6.heap.size := (by omega); have hz1 : w6.cell? ⟨w5.heap.size, v6.toNat, none⟩ = some (.int .i64 y) := hy1 _ _ ((k6.cell (p := w5.heap.size) (o := 0) (by simp) (by omega)).trans (by simp [go_sem])) ((k6.cell (p := w5.heap.size) (o := 1) (by simp) (by omega)).trans (by simp [go_sem])); clear k6) | (go_at_call 69; refine (pick n _ a len cap zs (p' + 1 + 1) 2 RA (by omega) (by omega) (by omega)).mono ?_; intro e w6 hP; obtain ⟨v6, rfl, v60, v61, k6, R6⟩ := hP; obtain ⟨y, hy1, hy2⟩ := tab2 v60 v61; have k6' : Kept n w5 w6 := Kept.trans ((Kept.refl n w5).drew) k6; have hs6 := k6'.size; have hb6 : bt < w6.heap.size := (by omega); have hb7 : b0 < w6.heap.size := (by omega); clear k6))
          all_goals
            clear hy1 hy2 E1 E2 E3 RA RB hx1 hx2 hx3
            try clear hz1
            have HG6 := Lib.hid ((HG5.out.kept k6' (by omega)))
            have HX1 : Hid (w6.cell? ⟨bt, 0, none⟩ = some (.slice (some ⟨b0, 0, none⟩) (rowAt g 0).length (CC 0))) := (k6'.cell hbt5 (by omega)).trans HX.out
            have HK6 := Lib.hid (HK5.out.trans k6')
            have HR6 := Lib.hid R6
            clear k6' R6
            go_wp2_with fail
            go_ret
            obtain ⟨T, c, hv, hc1, hc2, hown⟩ := HG6.out.table
            injection hv with hv1 hv2 hv3
            subst hv1 hv3
            have hown2 := hown.poke (b0 := b0) (c := CC 0) hg0 hr0 y (fun b e => by injection e with e; injection e with e; subst e; exact HX1.out)
            have hle := HG6.out.hile
            have hown3 := hown2.more (Nat.le_refl _) hle
            have hK7 := (HK6.out.setNew (q := ⟨b0, 0, none⟩) (show w.heap.size ≤ b0 from hb1) (.int .i64 y))
            have hR7 := HR6.out.setFar (q := ⟨b0, 0, none⟩) (show n < b0 by omega) (.int .i64 y)
            have hsz : (w6.setCell ⟨b0, 0, none⟩ (.int .i64 y)).heap.size = w6.heap.size := by simp [World.setCell]
            have hpl : ∀ i, i < (poke g y).length → (rowAt (poke g y) i).length ≤ 16 := fun i hi => by
              rw [poke_length] at hi; rw [poke_row_length g y i hi]; exact HRL.out i hi
            first
              | exact ⟨poke g y, _, _, p' + 1 + 1 + 1, by rw [poke_length]; rfl, by rw [poke_length]; exact hc1, hc2, by rw [poke_length]; exact hgl17, hpl, hK7, hR7, by omega, by omega, by rw [hsz]; exact hown3⟩
              | exact ⟨poke g y, _, _, p' + 1 + 1 + 1, by rw [poke_length]; rfl, by rw [poke_length]; exact hc1, hc2, by rw [poke_length]; exact hgl17, hpl, hK7.alloc _, hR7.of_below ((Below.refl _ _).alloc (Nat.le_refl _) _), by omega, by omega, (hown3.keep (fun b _ h2 => Below.heap_alloc _ _ _ (by rw [hsz]; exact h2))).more (Nat.le_refl _) (by simp [hsz])⟩
        · have HGA := Lib.hid ((HG5.out.keep (Below.refl _ _)).keep (w' := w5.alloc (.cells #[] 3)) ((Below.refl _ _).alloc (HG5.out.hile) _))
          have hib := HG5.out.hile
          go_wp2_with (at_builtin; refine wpList_append_own_at _ rfl (.tmp 58) (.tmp 60) _ rfl w.heap.size 24 i1 (.slice none 0 0) 1 24 Try.underlying23 HI1.out HY0.out HY1.out HY2.out rfl (by decide) _ _ _ rfl (HGA.out.alloc _) ⟨w5.heap.size + 1, 0, none⟩ 1 1 [.slice (some ⟨w5.heap.size, 0, none⟩) ([] : List Int).length 0] rfl rfl ?c1 ?c2 ?c3 ?c4 ?c5 ?_)
          case c1 => intro j u hj; have := cell_one_new (w5.alloc (.cells #[] 3)) (.slice (some ⟨w5.heap.size, 0, none⟩) 0 0) 24 j u hj; simpa using this
          case c2 => first | rfl | (intro u hu; simp at hu; subst hu; rfl)
          case c3 => unfold maxLen; omega
          case c4 => omega
          case c5 => first | omega | (simp; omega)
          intro v' w6 hown hgrow _ hat
          have HN : Hid (∃ (A' : Nat → Option Addr) (C' : Nat → Nat), GrowsR w6 w.heap.size w6.heap.size v' A' C' (g ++ [[]])) :=
            HGA.out.snoc (l := []) (An := some ⟨w5.heap.size, 0, none⟩) (fun h0 => absurd h0 (by simp)) (Nat.le_refl _) (Nat.zero_le _) (by omega) hown hgrow (by rcases hat with e | e; exact .inl e; exact .inr (by rw [e]; try simp))
          have HK6 := Lib.hid ((HK5.out.alloc _).appended hgrow HGA.out.lo)
          have HR6 := Lib.hid ((R5.of_below ((Below.refl _ _).alloc (Nat.le_refl _) _)).appended hgrow (fun k hk => by have := HGA.out.lo k hk; omega))
          clear hown hgrow hat
          go_wp2_with fail
          go_ret
          obtain ⟨A', C', hg'⟩ := HN.out
          obtain ⟨T, c, hv, hc1, hc2, hown⟩ := hg'.table
          exact ⟨g ++ [[]], T, c, _, by rw [← hv]; rfl, hc1, hc2, by rw [List.length_append, List.length_singleton]; have := HGL.out; omega, fun i hi => by
            rw [List.length_append, List.length_singleton] at hi
            by_cases e : i < g.length
            · rw [rowAt_snoc_lt _ _ _ e]; exact HRL.out i e
            · obtain rfl : i = g.length := by omega
              rw [rowAt_snoc_eq]; simp, HK6.out, HR6.out, by omega, by omega, hown⟩

end Go.Proofs.Ytjojilimdhekfaa
