/- Texts in one: Concat, WithI, WithJ, WithK. -/
import Derived.Test.YtlmaeadbomnhlaaGreatMQ
import Derived.Lib.AppendZerosOnto
import Derived.Lib.Walk
import Derived.Deep.LoopGhost
namespace Go.Proofs.YtlmaeadbomnhlaaGreat
set_option linter.unusedSimpArgs false
set_option linter.unusedVariables false
open Go.RowKit
theorem one_zero {z : Value} (h : z.cells.size = 1) (n : Nat) : (Builtin.zeroCells z.cells n).size = n := by rw [size_zeroCells, h, Nat.mul_one]
theorem grown_own (w : World) (n : Nat) (e : TypeId) (z : Value) (hz : z.cells.size = 1) (hn : n ≤ 4294967296) :
    (w.drew.alloc (.cells (#[] ++ Builtin.zeroCells z.cells n ++ Builtin.zeroCells z.cells (grownCap w n 0 e - n)) e)).ownsRow w.heap.size e 1 (.slice (some ⟨w.heap.size, 0, none⟩) 0 (grownCap w n 0 e)) 0 [] := by
  have h1 := grownCap_ge w n 0 e
  have h2 := grownCap_le_maxLen w n 0 e (by unfold maxLen; omega)
  refine ⟨rfl, .inr ⟨w.heap.size, _, _, rfl, Nat.le_refl _, heap_alloc_new w.drew _, Nat.zero_le _, h2, ?_, by simp⟩⟩
  simp only [Array.size_append, one_zero hz]
  simp; omega
def preN {α : Type} (xs ys : List α) (k : Nat) : List α := if k = 0 then [] else if k = 1 then xs else xs ++ ys
theorem own_pre1 {w : World} {base n1 : Nat} {e : TypeId} {v : Value} {xs ys : List Value} (h : w.ownsRow base e 1 v (preN xs ys 1).length (preN xs ys 1)) (hx : xs.length = n1) : w.ownsRow base e 1 v n1 xs := by
  rw [show (preN xs ys 1) = xs from rfl, hx] at h; exact h
theorem own_pre2 {w : World} {base n1 n2 : Nat} {e : TypeId} {v : Value} {xs ys : List Value} (h : w.ownsRow base e 1 v (preN xs ys 2).length (preN xs ys 2)) (hx : xs.length = n1) (hy : ys.length = n2) : w.ownsRow base e 1 v (n1 + n2) (xs ++ ys) := by
  rw [show (preN xs ys 2) = xs ++ ys from rfl, List.length_append, hx, hy] at h; exact h
set_option maxHeartbeats 2000000 in
set_option maxRecDepth 100000 in
theorem growI (n : Nat) (h0 : 0 < n) (hn : n ≤ 1000) (w : World) :
    Calls Tryz.prog 116 #[.slice none 0 0, .int .i64 (n : Int)] w fun e w' => ∃ v, e = .returned v ∧ Below w.heap.size w w' ∧ w'.ownsRow w.heap.size 3 1 v 0 [] := by
  obtain ⟨i0, hi0, hz0, hz1, hz2⟩ := info_parts infoI
  have hOWN := grown_own w n 3 (.int .i64 0) rfl (by omega)
  have hrz : ∀ ty, (Builtin.append_ #[52, 3] ty #[.slice none 0 0, .int .i64 (n : Int)]).run Tryz.prog w =
      .ok (.slice (some ⟨w.heap.size, 0, none⟩) n (grownCap w n 0 3)) (w.drew.alloc (.cells (#[] ++ Builtin.zeroCells ((.int .i64 0) : Value).cells n ++ Builtin.zeroCells ((.int .i64 0) : Value).cells (grownCap w n 0 3 - n)) 3)) := fun ty => by
    have h := Lib.run_append_grow_zeros (P := Tryz.prog) w 52 3 ty 3 i0 (.int .i64 0) .i64 .i64 Tryz.underlying52 Tryz.underlying3 hi0 hz0 none 0 0 [] (by exact run_firstCells_none w.drew i0.size 0 0 0) n h0 (by rw [hz1]; decide) (by omega) (by omega)
      (by rw [hz2]; omega) (by rw [hz2]; exact growslice_fits (by omega) (by omega))
    rw [Nat.zero_add] at h
    exact h
  have hG63 : grownCap w n 0 3 ≤ 9223372036854775807 := by
    have := grownCap_le_maxLen w n 0 3 (by unfold maxLen; omega)
    unfold maxLen at this
    omega
  have hGn := grownCap_ge w n 0 3
  obtain ⟨G, hG⟩ : ∃ G, G = grownCap w n 0 3 := ⟨_, rfl⟩
  rw [← hG] at hOWN hrz hG63 hGn
  obtain ⟨W, hW⟩ : ∃ W, W = w.drew.alloc (.cells (#[] ++ Builtin.zeroCells ((.int .i64 0) : Value).cells n ++ Builtin.zeroCells ((.int .i64 0) : Value).cells (G - n)) 3) := ⟨_, rfl⟩
  have HB : Hid (Below w.heap.size w W) := by rw [hW]; exact (Below.refl _ _).drew.alloc (Nat.le_refl _) _
  rw [← hW] at hOWN hrz
  have HO := Lib.hid hOWN
  clear hG hW hOWN hi0 hz0 hz1 hz2
  go_enter Tryz.func116, Tryz.ntmps116
  go_wp2_with (at_builtin; refine Lib.wpList_append_run _ rfl _ _ _ _ rfl _ _ rfl rfl _ _ (hrz _) ?_)
  go_ret
  exact ⟨_, rfl, HB.out, HO.out⟩
set_option maxHeartbeats 4000000 in
set_option maxRecDepth 100000 in
theorem concatI (b0 : Nat) (c0 : Nat) (A1 A2 : Addr) (n1 c1 n2 c2 : Nat) (xs ys : List Value) (hx : xs.length = n1) (hy : ys.length = n2) (hn : n1 + n2 ≤ 1000) (h0 : 0 < n1 + n2) (hc1 : n1 ≤ c1) (hc2 : n2 ≤ c2) (hm1 : c1 ≤ maxLen) (hm2 : c2 ≤ maxLen)
    (ox : ∀ u ∈ xs, u.oneCell' = true) (oy : ∀ u ∈ ys, u.oneCell' = true) (w : World) (hb0 : b0 < w.heap.size) (hb1 : A1.block < w.heap.size) (hb2 : A2.block < w.heap.size)
    (k0 : w.cell? ⟨b0, 0, none⟩ = some (.slice (some A1) n1 c1)) (k1 : w.cell? ⟨b0, 1, none⟩ = some (.slice (some A2) n2 c2))
    (hxs : ∀ w', Below w.heap.size w w' → ∀ j u, xs[j]? = some u → w'.cell? (A1.add j) = some u) (hys : ∀ w', Below w.heap.size w w' → ∀ j u, ys[j]? = some u → w'.cell? (A2.add j) = some u) :
    Calls Tryz.prog 114 #[.slice (some ⟨b0, 0, none⟩) 2 c0] w fun e w' => ∃ v, e = .returned v ∧ Below w.heap.size w w' ∧ w'.ownsRow w.heap.size 3 1 v (n1 + n2) (xs ++ ys) := by
  obtain ⟨i0, hi0, hz0, hz1, hz2⟩ := info_parts infoI
  have HI0 := Lib.hid hi0
  have HZ0 := Lib.hid hz0
  have HZ1 := Lib.hid hz1
  have HZ2 := Lib.hid hz2
  have HXS := Lib.hid hxs
  have HYS := Lib.hid hys
  have HK0 : Hid (∀ w', Below w.heap.size w w' → w'.cell? ⟨b0, 0, none⟩ = some (.slice (some A1) n1 c1)) := fun w' hb => (hb.cell (p := ⟨b0, 0, none⟩) hb0).trans k0
  have HK1 : Hid (∀ w', Below w.heap.size w w' → w'.cell? ⟨b0, 1, none⟩ = some (.slice (some A2) n2 c2)) := fun w' hb => (hb.cell (p := ⟨b0, 1, none⟩) hb0).trans k1
  have HX := Lib.hid hx
  have HY := Lib.hid hy
  have HOX := Lib.hid ox
  have HOY := Lib.hid oy
  unfold maxLen at hm1 hm2
  have cc : ((n1 : Int) + (n2 : Int)) = ((n1 + n2 : Nat) : Int) := by omega
  have HCC := Lib.hid cc
  have s2 : IntKind.i64.wrap ((n1 : Int) + (n2 : Int)) = (n1 : Int) + (n2 : Int) := IntWalk.i64_in _ ⟨by omega, by omega⟩
  have s1 : IntKind.i64.wrap (n1 : Int) = (n1 : Int) := IntWalk.i64_in _ ⟨by omega, by omega⟩
  have HG := Lib.hid (growI (n1 + n2) h0 hn w)
  clear hi0 hz0 hz1 hz2 hxs hys hx hy ox oy cc hb1 hb2
  go_enter Tryz.func114, Tryz.ntmps114
  go_wp2_with fail
  go_loop [3, 11] (fun s i => (s = .int .i64 0 ∧ i = .int .i64 0) ∨ (s = .int .i64 n1 ∧ i = .int .i64 1) ∨ (s = .int .i64 ((n1 : Int) + (n2 : Int)) ∧ i = .int .i64 2)) (fun _ i => 2 - (intOf i).toNat)
  case atStart => exact .inl ⟨rfl, rfl⟩
  case round =>
    rcases hrel with ⟨rfl, rfl⟩ | ⟨rfl, rfl⟩ | ⟨rfl, rfl⟩
    · go_wp2_with fail
      go_round
      case rel => exact .inr (.inl ⟨by first | rfl | (simp; done) | go_num, by first | rfl | go_num⟩)
      case measure => simp [intOf]
    · go_wp2_with fail
      go_round
      case rel => exact .inr (.inr ⟨by first | rfl | (simp; done) | go_num, by first | rfl | go_num⟩)
      case measure => simp [intOf]
    · clear k0 k1 s1 s2
      rw [HCC.out]
      go_wp2_with fail
      refine HG.out.mono ?_
      rintro e w1 ⟨v1, rfl, hb1, ho1⟩
      have HB1 := Lib.hid hb1
      have HO1 := Lib.hid ho1
      clear hb1 ho1
      go_wp2_with fail
      go_loopw [6, 27] (fun v i wr => ∃ k : Nat, k ≤ 2 ∧ i = .int .i64 k ∧ Hid (wr.ownsRow w.heap.size 3 1 v (preN xs ys k).length (preN xs ys k)) ∧ Hid (Below w.heap.size w wr)) (fun _ i _ => 2 - (intOf i).toNat)
      case atStart => exact ⟨0, Nat.zero_le _, rfl, HO1.out, HB1⟩
      case round =>
        obtain ⟨k, hk, rfl, HO, HB⟩ := hrel
        have hk3 : k = 0 ∨ k = 1 ∨ k = 2 := by omega
        have hws := HB.out.size
        have kk0 := HK0.out _ HB.out
        have kk1 := HK1.out _ HB.out
        rcases hk3 with rfl | rfl | rfl
        · have HN := Lib.hid (HXS.out _ HB.out)
          clear kk1
          go_wp2_with (at_builtin; refine wpList_append_own_at _ rfl (.tmp 31) (.tmp 32) _ rfl w.heap.size 3 i0 (.int .i64 0) 1 8 Tryz.underlying52 HI0.out HZ0.out HZ1.out HZ2.out rfl (by decide) _ 0 [] rfl HO.out A1 n1 c1 xs rfl (by rw [HX.out, Nat.mul_one]) HN.out HOX.out (by unfold maxLen; omega) (by omega) hws ?_)
          intro v' w4 hown hgrow _ _
          have HO2 : Hid (w4.ownsRow w.heap.size 3 1 v' (preN xs ys 1).length (preN xs ys 1)) := by
            show w4.ownsRow w.heap.size 3 1 v' xs.length xs
            rw [HX.out]; simpa using hown
          have HB2 : Hid (Below w.heap.size w w4) := HB.out.grown hgrow hws (fun k hk => by have := (World.ownsRow.lt HO.out) k hk; omega)
          clear hown hgrow
          go_wp2_with fail
          go_roundw
          case rel => exact ⟨1, by omega, by go_num, HO2, HB2⟩
          case measure => simp [intOf]
        · have HN := Lib.hid (HYS.out _ HB.out)
          clear kk0
          have HO' := Lib.hid (own_pre1 HO.out HX.out)
          go_wp2_with (at_builtin; refine wpList_append_own_at _ rfl (.tmp 31) (.tmp 32) _ rfl w.heap.size 3 i0 (.int .i64 0) 1 8 Tryz.underlying52 HI0.out HZ0.out HZ1.out HZ2.out rfl (by decide) _ n1 xs rfl HO'.out A2 n2 c2 ys rfl (by rw [HY.out, Nat.mul_one]) HN.out HOY.out (by unfold maxLen; omega) (by omega) hws ?_)
          intro v' w4 hown hgrow _ _
          have HO2 : Hid (w4.ownsRow w.heap.size 3 1 v' (preN xs ys 2).length (preN xs ys 2)) := by
            show w4.ownsRow w.heap.size 3 1 v' (xs ++ ys).length (xs ++ ys)
            rw [List.length_append, HX.out, HY.out]; exact hown
          have HB2 : Hid (Below w.heap.size w w4) := HB.out.grown hgrow hws (fun k hk => by have := (World.ownsRow.lt HO.out) k hk; omega)
          clear hown hgrow
          go_wp2_with fail
          go_roundw
          case rel => exact ⟨2, by omega, by go_num, HO2, HB2⟩
          case measure => simp [intOf]
        · clear kk0 kk1
          have HO' := Lib.hid (own_pre2 HO.out HX.out HY.out)
          go_wp2_with fail
          go_ret
          exact ⟨_, rfl, HB.out, HO'.out⟩
set_option maxHeartbeats 2000000 in
set_option maxRecDepth 100000 in
theorem growR (n : Nat) (h0 : 0 < n) (hn : n ≤ 1000) (w : World) :
    Calls Tryz.prog 115 #[.slice none 0 0, .int .i64 (n : Int)] w fun e w' => ∃ v, e = .returned v ∧ Below w.heap.size w w' ∧ w'.ownsRow w.heap.size 52 1 v 0 [] := by
  obtain ⟨i0, hi0, hz0, hz1, hz2⟩ := info_parts infoR
  have hOWN := grown_own w n 52 (.slice none 0 0) rfl (by omega)
  have hrz : ∀ ty, (Builtin.append_ #[23, 3] ty #[.slice none 0 0, .int .i64 (n : Int)]).run Tryz.prog w =
      .ok (.slice (some ⟨w.heap.size, 0, none⟩) n (grownCap w n 0 52)) (w.drew.alloc (.cells (#[] ++ Builtin.zeroCells ((.slice none 0 0) : Value).cells n ++ Builtin.zeroCells ((.slice none 0 0) : Value).cells (grownCap w n 0 52 - n)) 52)) := fun ty => by
    have h := Lib.run_append_grow_zeros (P := Tryz.prog) w 23 3 ty 52 i0 (.slice none 0 0) .i64 .i64 Tryz.underlying23 Tryz.underlying3 hi0 hz0 none 0 0 [] (by exact run_firstCells_none w.drew i0.size 0 0 0) n h0 (by rw [hz1]; decide) (by omega) (by omega)
      (by rw [hz2]; omega) (by rw [hz2]; exact growslice_fits (by omega) (by omega))
    rw [Nat.zero_add] at h
    exact h
  have hG63 : grownCap w n 0 52 ≤ 9223372036854775807 := by
    have := grownCap_le_maxLen w n 0 52 (by unfold maxLen; omega)
    unfold maxLen at this
    omega
  have hGn := grownCap_ge w n 0 52
  obtain ⟨G, hG⟩ : ∃ G, G = grownCap w n 0 52 := ⟨_, rfl⟩
  rw [← hG] at hOWN hrz hG63 hGn
  obtain ⟨W, hW⟩ : ∃ W, W = w.drew.alloc (.cells (#[] ++ Builtin.zeroCells ((.slice none 0 0) : Value).cells n ++ Builtin.zeroCells ((.slice none 0 0) : Value).cells (G - n)) 52) := ⟨_, rfl⟩
  have HB : Hid (Below w.heap.size w W) := by rw [hW]; exact (Below.refl _ _).drew.alloc (Nat.le_refl _) _
  rw [← hW] at hOWN hrz
  have HO := Lib.hid hOWN
  clear hG hW hOWN hi0 hz0 hz1 hz2
  go_enter Tryz.func115, Tryz.ntmps115
  go_wp2_with (at_builtin; refine Lib.wpList_append_run _ rfl _ _ _ _ rfl _ _ rfl rfl _ _ (hrz _) ?_)
  go_ret
  exact ⟨_, rfl, HB.out, HO.out⟩
set_option maxHeartbeats 4000000 in
set_option maxRecDepth 100000 in
theorem concatR (b0 : Nat) (c0 : Nat) (A1 A2 : Addr) (n1 c1 n2 c2 : Nat) (xs ys : List Value) (hx : xs.length = n1) (hy : ys.length = n2) (hn : n1 + n2 ≤ 1000) (h0 : 0 < n1 + n2) (hc1 : n1 ≤ c1) (hc2 : n2 ≤ c2) (hm1 : c1 ≤ maxLen) (hm2 : c2 ≤ maxLen)
    (ox : ∀ u ∈ xs, u.oneCell' = true) (oy : ∀ u ∈ ys, u.oneCell' = true) (w : World) (hb0 : b0 < w.heap.size) (hb1 : A1.block < w.heap.size) (hb2 : A2.block < w.heap.size)
    (k0 : w.cell? ⟨b0, 0, none⟩ = some (.slice (some A1) n1 c1)) (k1 : w.cell? ⟨b0, 1, none⟩ = some (.slice (some A2) n2 c2))
    (hxs : ∀ w', Below w.heap.size w w' → ∀ j u, xs[j]? = some u → w'.cell? (A1.add j) = some u) (hys : ∀ w', Below w.heap.size w w' → ∀ j u, ys[j]? = some u → w'.cell? (A2.add j) = some u) :
    Calls Tryz.prog 113 #[.slice (some ⟨b0, 0, none⟩) 2 c0] w fun e w' => ∃ v, e = .returned v ∧ Below w.heap.size w w' ∧ w'.ownsRow w.heap.size 52 1 v (n1 + n2) (xs ++ ys) := by
  obtain ⟨i0, hi0, hz0, hz1, hz2⟩ := info_parts infoR
  have HI0 := Lib.hid hi0
  have HZ0 := Lib.hid hz0
  have HZ1 := Lib.hid hz1
  have HZ2 := Lib.hid hz2
  have HXS := Lib.hid hxs
  have HYS := Lib.hid hys
  have HK0 : Hid (∀ w', Below w.heap.size w w' → w'.cell? ⟨b0, 0, none⟩ = some (.slice (some A1) n1 c1)) := fun w' hb => (hb.cell (p := ⟨b0, 0, none⟩) hb0).trans k0
  have HK1 : Hid (∀ w', Below w.heap.size w w' → w'.cell? ⟨b0, 1, none⟩ = some (.slice (some A2) n2 c2)) := fun w' hb => (hb.cell (p := ⟨b0, 1, none⟩) hb0).trans k1
  have HX := Lib.hid hx
  have HY := Lib.hid hy
  have HOX := Lib.hid ox
  have HOY := Lib.hid oy
  unfold maxLen at hm1 hm2
  have cc : ((n1 : Int) + (n2 : Int)) = ((n1 + n2 : Nat) : Int) := by omega
  have HCC := Lib.hid cc
  have s2 : IntKind.i64.wrap ((n1 : Int) + (n2 : Int)) = (n1 : Int) + (n2 : Int) := IntWalk.i64_in _ ⟨by omega, by omega⟩
  have s1 : IntKind.i64.wrap (n1 : Int) = (n1 : Int) := IntWalk.i64_in _ ⟨by omega, by omega⟩
  have HG := Lib.hid (growR (n1 + n2) h0 hn w)
  clear hi0 hz0 hz1 hz2 hxs hys hx hy ox oy cc hb1 hb2
  go_enter Tryz.func113, Tryz.ntmps113
  go_wp2_with fail
  go_loop [3, 11] (fun s i => (s = .int .i64 0 ∧ i = .int .i64 0) ∨ (s = .int .i64 n1 ∧ i = .int .i64 1) ∨ (s = .int .i64 ((n1 : Int) + (n2 : Int)) ∧ i = .int .i64 2)) (fun _ i => 2 - (intOf i).toNat)
  case atStart => exact .inl ⟨rfl, rfl⟩
  case round =>
    rcases hrel with ⟨rfl, rfl⟩ | ⟨rfl, rfl⟩ | ⟨rfl, rfl⟩
    · go_wp2_with fail
      go_round
      case rel => exact .inr (.inl ⟨by first | rfl | (simp; done) | go_num, by first | rfl | go_num⟩)
      case measure => simp [intOf]
    · go_wp2_with fail
      go_round
      case rel => exact .inr (.inr ⟨by first | rfl | (simp; done) | go_num, by first | rfl | go_num⟩)
      case measure => simp [intOf]
    · clear k0 k1 s1 s2
      rw [HCC.out]
      go_wp2_with fail
      refine HG.out.mono ?_
      rintro e w1 ⟨v1, rfl, hb1, ho1⟩
      have HB1 := Lib.hid hb1
      have HO1 := Lib.hid ho1
      clear hb1 ho1
      go_wp2_with fail
      go_loopw [6, 27] (fun v i wr => ∃ k : Nat, k ≤ 2 ∧ i = .int .i64 k ∧ Hid (wr.ownsRow w.heap.size 52 1 v (preN xs ys k).length (preN xs ys k)) ∧ Hid (Below w.heap.size w wr)) (fun _ i _ => 2 - (intOf i).toNat)
      case atStart => exact ⟨0, Nat.zero_le _, rfl, HO1.out, HB1⟩
      case round =>
        obtain ⟨k, hk, rfl, HO, HB⟩ := hrel
        have hk3 : k = 0 ∨ k = 1 ∨ k = 2 := by omega
        have hws := HB.out.size
        have kk0 := HK0.out _ HB.out
        have kk1 := HK1.out _ HB.out
        rcases hk3 with rfl | rfl | rfl
        · have HN := Lib.hid (HXS.out _ HB.out)
          clear kk1
          go_wp2_with (at_builtin; refine wpList_append_own_at _ rfl (.tmp 31) (.tmp 32) _ rfl w.heap.size 52 i0 (.slice none 0 0) 1 24 Tryz.underlying23 HI0.out HZ0.out HZ1.out HZ2.out rfl (by decide) _ 0 [] rfl HO.out A1 n1 c1 xs rfl (by rw [HX.out, Nat.mul_one]) HN.out HOX.out (by unfold maxLen; omega) (by omega) hws ?_)
          intro v' w4 hown hgrow _ _
          have HO2 : Hid (w4.ownsRow w.heap.size 52 1 v' (preN xs ys 1).length (preN xs ys 1)) := by
            show w4.ownsRow w.heap.size 52 1 v' xs.length xs
            rw [HX.out]; simpa using hown
          have HB2 : Hid (Below w.heap.size w w4) := HB.out.grown hgrow hws (fun k hk => by have := (World.ownsRow.lt HO.out) k hk; omega)
          clear hown hgrow
          go_wp2_with fail
          go_roundw
          case rel => exact ⟨1, by omega, by go_num, HO2, HB2⟩
          case measure => simp [intOf]
        · have HN := Lib.hid (HYS.out _ HB.out)
          clear kk0
          have HO' := Lib.hid (own_pre1 HO.out HX.out)
          go_wp2_with (at_builtin; refine wpList_append_own_at _ rfl (.tmp 31) (.tmp 32) _ rfl w.heap.size 52 i0 (.slice none 0 0) 1 24 Tryz.underlying23 HI0.out HZ0.out HZ1.out HZ2.out rfl (by decide) _ n1 xs rfl HO'.out A2 n2 c2 ys rfl (by rw [HY.out, Nat.mul_one]) HN.out HOY.out (by unfold maxLen; omega) (by omega) hws ?_)
          intro v' w4 hown hgrow _ _
          have HO2 : Hid (w4.ownsRow w.heap.size 52 1 v' (preN xs ys 2).length (preN xs ys 2)) := by
            show w4.ownsRow w.heap.size 52 1 v' (xs ++ ys).length (xs ++ ys)
            rw [List.length_append, HX.out, HY.out]; exact hown
          have HB2 : Hid (Below w.heap.size w w4) := HB.out.grown hgrow hws (fun k hk => by have := (World.ownsRow.lt HO.out) k hk; omega)
          clear hown hgrow
          go_wp2_with fail
          go_roundw
          case rel => exact ⟨2, by omega, by go_num, HO2, HB2⟩
          case measure => simp [intOf]
        · clear kk0 kk1
          have HO' := Lib.hid (own_pre2 HO.out HX.out HY.out)
          go_wp2_with fail
          go_ret
          exact ⟨_, rfl, HB.out, HO'.out⟩
set_option maxHeartbeats 2000000 in
set_option maxRecDepth 100000 in
theorem cloneI (b off c : Nat) (l : List Int) (hl : l.length ≤ 1000) (w : World) (hc : ∀ i, i < l.length → w.cell? ⟨b, off + i, none⟩ = some (.int .i64 (nth l i))) (hb : b < w.heap.size) :
    Calls Tryz.prog 56 #[.slice (some ⟨b, off, none⟩) l.length c] w fun e w' => ∃ v, e = .returned v ∧ Below w.heap.size w w' ∧ Grows w' w.heap.size v l := by
  obtain ⟨i0, hi0, hz0, hz1, hz2⟩ := info_parts infoI
  have HI0 := Lib.hid hi0
  have HZ0 := Lib.hid hz0
  have HZ1 := Lib.hid hz1
  have HZ2 := Lib.hid hz2
  have HN : Hid (∀ j u, (vals l)[j]? = some u → (w.alloc (.cells #[] 3)).cell? ((⟨b, off, none⟩ : Addr).add j) = some u) := news_of fun i hi => (((Below.refl w.heap.size w).alloc (Nat.le_refl _) _).cell (p := ⟨b, off + i, none⟩) hb).trans (hc i hi)
  have GL := Lib.hid (Grows.lit w (base := w.heap.size) (Nat.le_refl _))
  have qn : ∀ w : World, (binOp .eql 52 (.slice (some ⟨b, off, none⟩) l.length c) (.slice none 0 0)).run Tryz.prog w = .ok (.bool false) w := fun w => Lib.run_eql_slice_nil w _ _ (some ⟨b, off, none⟩) l.length c 0 0 Tryz.underlying52
  clear hi0 hz0 hz1 hz2 hc
  go_enter Tryz.func56, Tryz.ntmps56
  go_wp2_with (at_builtin; refine wpList_append_own_at _ rfl (.tmp 5) (.tmp 6) _ rfl w.heap.size 3 i0 (.int .i64 0) 1 8 Tryz.underlying52 HI0.out HZ0.out HZ1.out HZ2.out rfl (by decide) _ _ _ rfl GL.out ⟨b, off, none⟩ l.length c (vals l) rfl (by rw [vals_length]; omega) HN.out vals_one (by unfold maxLen; simp; omega) (by simp; omega) (by simp) ?_)
  intro v' w4 hown hgrow _ _
  have HG : Hid (Grows w4 w.heap.size v' l) := by show Grows _ _ _ _; unfold Grows; simpa [vals] using hown
  have HB : Hid (Below w.heap.size w w4) := ((Below.refl w.heap.size w).alloc (Nat.le_refl _) _).grown hgrow (by simp) (fun k hk => by simp [Value.ownBlock] at hk; omega)
  clear hown hgrow
  go_wp2_with fail
  go_ret
  exact ⟨_, rfl, HB.out, HG.out⟩
end Go.Proofs.YtlmaeadbomnhlaaGreat

namespace Go.Proofs.YtlmaeadbomnhlaaGreat
set_option linter.unusedSimpArgs false
set_option linter.unusedVariables false
open Go.RowKit
def CellsV (w : World) (b off : Nat) (xs : List Value) : Prop := ∀ (j : Nat) (u : Value), xs[j]? = some u → w.cell? ⟨b, off + j, none⟩ = some u
theorem CellsV.news {w : World} {b off : Nat} {xs : List Value} (h : CellsV w b off xs) : ∀ j u, xs[j]? = some u → w.cell? ((⟨b, off, none⟩ : Addr).add j) = some u := by
  intro j u hj
  have e : (⟨b, off, none⟩ : Addr).add j = ⟨b, off + j, none⟩ := by
    by_cases e0 : j = 0
    · subst e0; simp [Addr.add]
    · simp [Addr.add, e0]
  rw [e]; exact h j u hj
theorem CellsV.keep {w w' : World} {b off B : Nat} {xs : List Value} (h : CellsV w b off xs) (hb : b < B) (hw : Below B w w') : CellsV w' b off xs :=
  fun j u hj => (hw.cell (p := ⟨b, off + j, none⟩) hb).trans (h j u hj)
theorem CellsV.take {w : World} {b off : Nat} {xs : List Value} (h : CellsV w b off xs) (a : Nat) : CellsV w b off (xs.take a) := fun j u hj => h j u (by
  rw [List.getElem?_take] at hj
  split at hj
  · exact hj
  · cases hj)
theorem CellsV.drop {w : World} {b off : Nat} {xs : List Value} (h : CellsV w b off xs) (k : Nat) : CellsV w b (off + k) (xs.drop k) := fun j u hj => by
  rw [List.getElem?_drop] at hj
  rw [Nat.add_assoc]; exact h _ u hj
theorem CellsV.nil (w : World) (b off : Nat) : CellsV w b off [] := fun j u hj => by simp at hj
theorem tail_at {w : World} {b off n a c : Nat} {xs : List Value} (h : CellsV w b off xs) (hn : xs.length = n) (hc : n ≤ c) (ha : a < n) :
    ∃ A2 : Addr, (if c = a + 1 then (some ⟨b, off, none⟩ : Option Addr) else some ⟨b, off + (a + 1), none⟩) = some A2 ∧ A2.block = b ∧ ∀ (B : Nat) (w' : World), b < B → Below B w w' → ∀ j u, (xs.drop (a + 1))[j]? = some u → w'.cell? (A2.add j) = some u := by
  by_cases e : c = a + 1
  · refine ⟨⟨b, off, none⟩, by rw [if_pos e], rfl, fun B w' hb hw => ?_⟩
    have e2 : xs.drop (a + 1) = [] := List.drop_eq_nil_of_le (by omega)
    rw [e2]; intro j u hj; simp at hj
  · exact ⟨⟨b, off + (a + 1), none⟩, by rw [if_neg e], rfl, fun B w' hb hw => ((h.drop (a + 1)).keep hb hw).news⟩
theorem ownsRow_base {w : World} {b b' : Nat} {e : TypeId} {s n : Nat} {v : Value} {xs : List Value} (h : w.ownsRow b e s v n xs) (hb : b' ≤ b) : w.ownsRow b' e s v n xs := by
  obtain ⟨h1, h2 | ⟨g, cap, cur, k1, k2, k3⟩⟩ := h
  · exact ⟨h1, .inl h2⟩
  · exact ⟨h1, .inr ⟨g, cap, cur, k1, by omega, k3⟩⟩
theorem one_take {xs : List Value} (h : ∀ u ∈ xs, u.oneCell' = true) (a : Nat) : ∀ u ∈ xs.take a, u.oneCell' = true := fun u hu => h u (List.mem_of_mem_take hu)
theorem one_drop {xs : List Value} (h : ∀ u ∈ xs, u.oneCell' = true) (a : Nat) : ∀ u ∈ xs.drop a, u.oneCell' = true := fun u hu => h u (List.mem_of_mem_drop hu)
theorem oneR {A : Nat → Option Addr} {C : Nat → Nat} {g : List (List Int)} : ∀ u ∈ rowVals A C g, u.oneCell' = true := by
  intro u hu
  simp only [rowVals, List.mem_map] at hu
  obtain ⟨x, _, rfl⟩ := hu
  rfl
theorem cut_at {α : Type} {l : List α} {a i : Nat} (ha : a < l.length) (hi : i < l.length - 1) : (l.take a ++ l.drop (a + 1))[i]? = l[if i < a then i else i + 1]? := by
  by_cases e : i < a
  · rw [if_pos e, List.getElem?_append_left (by simp; omega), List.getElem?_take, if_pos e]
  · rw [if_neg e, List.getElem?_append_right (by simp; omega), List.getElem?_drop]
    congr 1; simp; omega
theorem cut_vals {l : List Int} {a : Nat} (ha : a < l.length) : (vals l).take a ++ (vals l).drop (a + 1) = vals (selRow (fun j => j != a) (nth l) l.length) := by
  have e : selRow (fun j => j != a) (nth l) l.length = l.take a ++ l.drop (a + 1) := by
    refine ext_nth (by rw [selRow_length, cnt_ne, if_pos ha]; simp; omega) fun i hi => ?_
    rw [selRow_length, cnt_ne, if_pos ha] at hi
    rw [nth_selRow_ne ha hi]
    unfold nth
    rw [List.getD_eq_getElem?_getD, List.getD_eq_getElem?_getD, cut_at ha hi]
  rw [e]; simp [vals, List.map_take, List.map_drop]
set_option maxHeartbeats 4000000 in
set_option maxRecDepth 100000 in
theorem withoutI (b off c : Nat) (xs : List Value) (n a : Nat) (hn : xs.length = n) (ha : a < n) (h2 : 2 ≤ n) (h16 : n ≤ 16) (hc1 : n ≤ c) (hcm : c ≤ maxLen) (ox : ∀ u ∈ xs, u.oneCell' = true) (w : World) (hb : b < w.heap.size) (hcells : CellsV w b off xs) :
    Calls Tryz.prog 109 #[.slice (some ⟨b, off, none⟩) n c, .int .i64 (a : Int)] w fun e w' => ∃ v, e = .returned v ∧ Below w.heap.size w w' ∧ w'.ownsRow w.heap.size 3 1 v (n - 1) (xs.take a ++ xs.drop (a + 1)) := by
  have hcm' := hcm
  unfold maxLen at hcm
  have s1 : IntKind.i64.wrap ((a : Int) + 1) = (a : Int) + 1 := IntWalk.i64_in _ (by omega)
  have s0 : (0 : Int) ≤ (a : Int) + 1 := by omega
  have s2 : ((a : Int) + 1).toNat = a + 1 := by omega
  have s3 : (a : Int) + 1 ≤ (n : Int) := by omega
  have s4 : (a : Int) ≤ (c : Int) := by omega
  obtain ⟨A2, hA2, hA2b, hA2c⟩ := tail_at hcells hn hc1 ha
  have HCON : Hid (Calls Tryz.prog 114 #[.slice (some ⟨w.heap.size, 0, none⟩) 2 2] (w.alloc (.cells #[.slice (some ⟨b, off, none⟩) a c, .slice (some A2) (n - (a + 1)) (c - (a + 1))] 52)).drew
      fun e w' => ∃ v, e = .returned v ∧ Below w.heap.size w w' ∧ w'.ownsRow w.heap.size 3 1 v (n - 1) (xs.take a ++ xs.drop (a + 1))) := by
    obtain ⟨W, hW⟩ : ∃ W, W = (w.alloc (.cells #[.slice (some ⟨b, off, none⟩) a c, .slice (some A2) (n - (a + 1)) (c - (a + 1))] 52)).drew := ⟨_, rfl⟩
    have hBW : Below w.heap.size w W := by rw [hW]; exact ((Below.refl _ _).alloc (Nat.le_refl _) _).drew
    have hz : W.heap.size = w.heap.size + 1 := by rw [hW]; simp [World.drew]
    have hrow : W.rowIs w.heap.size 52 2 (fun i => if i = 0 then .slice (some ⟨b, off, none⟩) a c else .slice (some A2) (n - (a + 1)) (c - (a + 1))) := by
      rw [hW]
      exact (World.rowIs_alloc w #[.slice (some ⟨b, off, none⟩) a c, .slice (some A2) (n - (a + 1)) (c - (a + 1))] 52 _ (fun i hi => by
        have : i = 0 ∨ i = 1 := by simp at hi; omega
        rcases this with rfl | rfl <;> rfl)).drew
    rw [← hW]
    have k0 := hrow.cell (i := 0) (by omega)
    have k1 := hrow.cell (i := 1) (by omega)
    have key := concatI w.heap.size 2 ⟨b, off, none⟩ A2 a c (n - (a + 1)) (c - (a + 1)) (xs.take a) (xs.drop (a + 1)) (by simp; omega) (by simp; omega) (by omega) (by omega) (by omega) (by omega) hcm' (by omega) (one_take ox a) (one_drop ox _) W (by omega) (by show b < _; omega) (by rw [hA2b]; omega) k0 k1
      (fun w' hw' => (((hcells.keep hb hBW).take a).keep (B := W.heap.size) (by omega) hw').news)
      (fun w' hw' => hA2c w.heap.size w' hb (hBW.trans (hw'.mono (by omega))))
    refine key.mono ?_
    rintro e w' ⟨v, rfl, hb', ho'⟩
    refine ⟨v, rfl, hBW.trans (hb'.mono (by omega)), ?_⟩
    have ho2 := ownsRow_base ho' (b' := w.heap.size) (by omega)
    rwa [show a + (n - (a + 1)) = n - 1 from by omega] at ho2
  clear hcells hA2c hA2b ox hcm' hn
  go_enter Tryz.func109, Tryz.ntmps109
  go_wp2_with fail
  go_region_with (go_at_call 114; refine HCON.out.mono ?_; rintro e w1 ⟨v, rfl, hb1, ho1⟩; have HB1 := Lib.hid hb1; have HO1 := Lib.hid ho1; clear hb1 ho1)
  all_goals go_wp2_with fail
  all_goals go_ret
  all_goals exact ⟨v, rfl, HB1.out, HO1.out⟩
set_option maxHeartbeats 4000000 in
set_option maxRecDepth 100000 in
theorem withoutR (b off c : Nat) (xs : List Value) (n a : Nat) (hn : xs.length = n) (ha : a < n) (h2 : 2 ≤ n) (h16 : n ≤ 16) (hc1 : n ≤ c) (hcm : c ≤ maxLen) (ox : ∀ u ∈ xs, u.oneCell' = true) (w : World) (hb : b < w.heap.size) (hcells : CellsV w b off xs) :
    Calls Tryz.prog 108 #[.slice (some ⟨b, off, none⟩) n c, .int .i64 (a : Int)] w fun e w' => ∃ v, e = .returned v ∧ Below w.heap.size w w' ∧ w'.ownsRow w.heap.size 52 1 v (n - 1) (xs.take a ++ xs.drop (a + 1)) := by
  have hcm' := hcm
  unfold maxLen at hcm
  have s1 : IntKind.i64.wrap ((a : Int) + 1) = (a : Int) + 1 := IntWalk.i64_in _ (by omega)
  have s0 : (0 : Int) ≤ (a : Int) + 1 := by omega
  have s2 : ((a : Int) + 1).toNat = a + 1 := by omega
  have s3 : (a : Int) + 1 ≤ (n : Int) := by omega
  have s4 : (a : Int) ≤ (c : Int) := by omega
  obtain ⟨A2, hA2, hA2b, hA2c⟩ := tail_at hcells hn hc1 ha
  have HCON : Hid (Calls Tryz.prog 113 #[.slice (some ⟨w.heap.size, 0, none⟩) 2 2] (w.alloc (.cells #[.slice (some ⟨b, off, none⟩) a c, .slice (some A2) (n - (a + 1)) (c - (a + 1))] 23)).drew
      fun e w' => ∃ v, e = .returned v ∧ Below w.heap.size w w' ∧ w'.ownsRow w.heap.size 52 1 v (n - 1) (xs.take a ++ xs.drop (a + 1))) := by
    obtain ⟨W, hW⟩ : ∃ W, W = (w.alloc (.cells #[.slice (some ⟨b, off, none⟩) a c, .slice (some A2) (n - (a + 1)) (c - (a + 1))] 23)).drew := ⟨_, rfl⟩
    have hBW : Below w.heap.size w W := by rw [hW]; exact ((Below.refl _ _).alloc (Nat.le_refl _) _).drew
    have hz : W.heap.size = w.heap.size + 1 := by rw [hW]; simp [World.drew]
    have hrow : W.rowIs w.heap.size 23 2 (fun i => if i = 0 then .slice (some ⟨b, off, none⟩) a c else .slice (some A2) (n - (a + 1)) (c - (a + 1))) := by
      rw [hW]
      exact (World.rowIs_alloc w #[.slice (some ⟨b, off, none⟩) a c, .slice (some A2) (n - (a + 1)) (c - (a + 1))] 23 _ (fun i hi => by
        have : i = 0 ∨ i = 1 := by simp at hi; omega
        rcases this with rfl | rfl <;> rfl)).drew
    rw [← hW]
    have k0 := hrow.cell (i := 0) (by omega)
    have k1 := hrow.cell (i := 1) (by omega)
    have key := concatR w.heap.size 2 ⟨b, off, none⟩ A2 a c (n - (a + 1)) (c - (a + 1)) (xs.take a) (xs.drop (a + 1)) (by simp; omega) (by simp; omega) (by omega) (by omega) (by omega) (by omega) hcm' (by omega) (one_take ox a) (one_drop ox _) W (by omega) (by show b < _; omega) (by rw [hA2b]; omega) k0 k1
      (fun w' hw' => (((hcells.keep hb hBW).take a).keep (B := W.heap.size) (by omega) hw').news)
      (fun w' hw' => hA2c w.heap.size w' hb (hBW.trans (hw'.mono (by omega))))
    refine key.mono ?_
    rintro e w' ⟨v, rfl, hb', ho'⟩
    refine ⟨v, rfl, hBW.trans (hb'.mono (by omega)), ?_⟩
    have ho2 := ownsRow_base ho' (b' := w.heap.size) (by omega)
    rwa [show a + (n - (a + 1)) = n - 1 from by omega] at ho2
  clear hcells hA2c hA2b ox hcm' hn
  go_enter Tryz.func108, Tryz.ntmps108
  go_wp2_with fail
  go_region_with (go_at_call 113; refine HCON.out.mono ?_; rintro e w1 ⟨v, rfl, hb1, ho1⟩; have HB1 := Lib.hid hb1; have HO1 := Lib.hid ho1; clear hb1 ho1)
  all_goals go_wp2_with fail
  all_goals go_ret
  all_goals exact ⟨v, rfl, HB1.out, HO1.out⟩
end Go.Proofs.YtlmaeadbomnhlaaGreat

namespace Go.Proofs.YtlmaeadbomnhlaaGreat
set_option linter.unusedSimpArgs false
set_option linter.unusedVariables false
open Go.RowKit
structure Copying (w wr : World) (g : List (List Int)) (A : Nat → Option Addr) (C : Nat → Nat) (k : Nat) : Prop where
  bel : Below w.heap.size w wr
  size : w.heap.size < wr.heap.size
  top : wr.rowIs w.heap.size 52 g.length (fun j => if j < k then .slice (A j) (rowAt g j).length (C j) else .slice none 0 0)
  cap : ∀ i, i < k → (rowAt g i).length ≤ C i ∧ C i ≤ maxLen
  own : ∀ i, i < k → OwnI wr (w.heap.size + 1) wr.heap.size (A i) (rowAt g i)
  apart : ∀ i j, i < k → j < k → i ≠ j → 0 < (rowAt g i).length → 0 < (rowAt g j).length → A i ≠ A j
theorem Copying.start (w : World) (g : List (List Int)) (A : Nat → Option Addr) (C : Nat → Nat) : Copying w (w.alloc (.cells (madeCells #[.slice none 0 0] g.length) 52)) g A C 0 :=
  ⟨(Below.refl _ _).alloc (Nat.le_refl _) _, by simp, (World.rowIs_made w _ _ _).congr (fun j _ => by simp), fun i hi => absurd hi (Nat.not_lt_zero _), fun i hi => absurd hi (Nat.not_lt_zero _), fun i j hi => absurd hi (Nat.not_lt_zero _)⟩
theorem OwnI.setCell {w : World} {lo hi p o : Nat} {A : Option Addr} {l : List Int} (h : OwnI w lo hi A l) (hp : p < lo) (v : Value) : OwnI (w.setCell ⟨p, o, none⟩ v) lo hi A l := by
  intro h0
  obtain ⟨b, N, f, e, h1, h2, h3, h4, h5⟩ := h h0
  exact ⟨b, N, f, e, h1, h2, h3.setOther (by show b ≠ p; omega) _, h4, h5⟩
theorem Copying.next {w wr w2 : World} {g : List (List Int)} {A : Nat → Option Addr} {C : Nat → Nat} {k cn : Nat} {An : Option Addr} (h : Copying w wr g A C k) (hb : Below wr.heap.size wr w2)
    (ho : OwnI w2 wr.heap.size w2.heap.size An (rowAt g k)) (c1 : (rowAt g k).length ≤ cn) (c2 : cn ≤ maxLen) :
    ∃ (A' : Nat → Option Addr) (C' : Nat → Nat), Copying w (w2.setCell ⟨w.heap.size, k, none⟩ (.slice An (rowAt g k).length cn)) g A' C' (k + 1) := by
  have hs := hb.size
  have hz := h.size
  have hss : (w2.setCell ⟨w.heap.size, k, none⟩ (.slice An (rowAt g k).length cn)).heap.size = w2.heap.size := by simp [World.setCell]
  refine ⟨fun i => if i < k then A i else An, fun i => if i < k then C i else cn, (h.bel.trans (hb.mono (by omega))).setCell (Nat.le_refl _) _, by rw [hss]; omega, ((h.top.of_block (hb.block _ hz)).set k _).congr (fun j _ => ?_), fun i hi => ?_, fun i hi => ?_, fun i j hi hj hne p q => ?_⟩
  · by_cases e : j = k
    · subst e; rw [if_pos rfl, if_pos (Nat.lt_succ_self _), if_neg (Nat.lt_irrefl _), if_neg (Nat.lt_irrefl _)]
    · rw [if_neg e]
      by_cases hlt : j < k
      · rw [if_pos hlt, if_pos (by omega), if_pos hlt, if_pos hlt]
      · rw [if_neg hlt, if_neg (by omega)]
  · by_cases e : i < k
    · rw [if_pos e]; exact h.cap i e
    · obtain rfl : i = k := by omega
      rw [if_neg e]; exact ⟨c1, c2⟩
  · rw [hss]
    refine OwnI.setCell ?_ (by omega) _
    by_cases e : i < k
    · rw [if_pos e]; exact ((h.own i e).keep fun b _ h2 => hb.block b h2).more (Nat.le_refl _) hs
    · obtain rfl : i = k := by omega
      rw [if_neg e]; exact ho.more (by omega) (Nat.le_refl _)
  · by_cases ei : i < k
    · by_cases ej : j < k
      · rw [if_pos ei, if_pos ej]; exact h.apart i j ei ej hne p q
      · obtain rfl : j = k := by omega
        rw [if_pos ei, if_neg ej]
        obtain ⟨b1, _, _, e1, _, k1, _⟩ := h.own i ei p
        obtain ⟨b2, _, _, e2, k2, _, _⟩ := ho q
        rw [e1, e2]; intro e; injection e with e; injection e with e; omega
    · obtain rfl : i = k := by omega
      have ej : j < i := by omega
      rw [if_neg ei, if_pos ej]
      obtain ⟨b1, _, _, e1, _, k1, _⟩ := h.own j ej q
      obtain ⟨b2, _, _, e2, k2, _, _⟩ := ho p
      rw [e1, e2]; intro e; injection e with e; injection e with e; omega
theorem Copying.done {w wr : World} {g : List (List Int)} {A : Nat → Option Addr} {C : Nat → Nat} (h : Copying w wr g A C g.length) : OwnR wr w.heap.size wr.heap.size (some ⟨w.heap.size, 0, none⟩) g :=
  fun _ => ⟨w.heap.size, g.length, _, A, C, rfl, Nat.le_refl _, h.size, Nat.le_refl _, h.top, fun i hi => by rw [if_pos hi], ⟨h.cap, fun i hi => (h.own i hi).more (by omega) (Nat.le_refl _), h.apart⟩⟩
def NewTableC (w : World) (g : List (List Int)) (e : Ending) (w' : World) : Prop :=
  ∃ (T : Option Addr) (c : Nat), e = .returned (.slice T g.length c) ∧ g.length ≤ c ∧ c ≤ maxLen ∧ Below w.heap.size w w' ∧ OwnR w' w.heap.size w'.heap.size T g
def TabResC (w : World) (g : List (List Int)) (b : Bool) (e : Ending) (w' : World) : Prop :=
  ∃ (T : Option Addr) (c : Nat), e = .returned (.tuple #[.slice T g.length c, .bool b]) ∧ g.length ≤ c ∧ c ≤ maxLen ∧ Below w.heap.size w w' ∧ OwnR w' w.heap.size w'.heap.size T g
theorem NewTableC.plain {w w' : World} {g : List (List Int)} {e : Ending} (h : NewTableC w g e w') : NewTable w g e w' := by
  obtain ⟨T, c, he, _, _, hb, ho⟩ := h; exact ⟨T, c, he, hb, ho⟩
theorem TabResC.plain {w w' : World} {g : List (List Int)} {b : Bool} {e : Ending} (h : TabResC w g b e w') : TabRes w g b e w' := by
  obtain ⟨T, c, he, _, _, hb, ho⟩ := h; exact ⟨T, c, he, hb, ho⟩
theorem TabResC.none {w w' : World} {b : Bool} {x : Value} (hx : x = .tuple #[.slice none 0 0, .bool b]) (hb : Below w.heap.size w w') : TabResC w [] b (.returned x) w' :=
  ⟨Option.none, 0, by rw [hx]; rfl, Nat.le_refl _, Nat.zero_le _, hb, fun h => absurd h (by simp)⟩
set_option maxHeartbeats 2000000 in
set_option maxRecDepth 100000 in
theorem copied (T : Option Addr) (c : Nat) (g : List (List Int)) (h0 : 0 < g.length) (hl : g.length ≤ 16) (hr : ∀ i, i < g.length → 0 < (rowAt g i).length ∧ (rowAt g i).length ≤ 16) (w : World) (h : Rows2 w (· < w.heap.size) T g) :
    Calls Tryz.prog 35 #[.slice T g.length c] w (NewTableC w g) := by
  have hmk := run_make_row' (P := Tryz.prog) 23 52 _ 24 Tryz.underlying23 infoR rfl .i64 .i64 g.length (by omega) (by omega)
  obtain ⟨bt, ot, rfl⟩ := h.some h0
  have HR := Lib.hid h
  have HRL := Lib.hid hr
  have F0 := Lib.hid (Copying.start w g (fun _ => none) (fun _ => 0))
  clear h hr
  go_enter Tryz.func35, Tryz.ntmps35
  go_wp2_with fail
  clear hmk
  go_loopw [11] (fun i wr => ∃ k : Nat, k ≤ g.length ∧ i = .int .i64 k ∧ Hid (∃ A C, Copying w wr g A C k)) (fun i _ => g.length - (intOf i).toNat)
  case atStart => exact ⟨0, Nat.zero_le _, rfl, ⟨_, _, F0.out⟩⟩
  case round =>
    obtain ⟨k, hk, rfl, HF⟩ := hrel
    obtain ⟨A, C, hF⟩ := HF.out
    have HF2 := Lib.hid hF
    clear HF hF
    by_cases hlt : k < g.length
    · have R := keepRows HF2.out.bel HR.out
      obtain ⟨hS, Ak, ck, hck, hlk, hmk, hik⟩ := R.row hlt
      obtain ⟨bk, ok, rfl, hSk, hcells⟩ := hik.at_ (i := 0) (HRL.out k hlt).1
      have HC := Lib.hid hcells
      have hsz := HF2.out.size
      unfold maxLen at hmk
      clear R hik hcells
      go_wp2_with fail
      refine (cloneI bk ok ck (rowAt g k) (by have := (HRL.out k hlt).2; omega) _ HC.out (by omega)).mono ?_
      rintro e w1 ⟨v, rfl, hb1, hg1⟩
      obtain ⟨An, cn, rfl, hcn1, hcn2, hon⟩ := hg1.own'
      have hcell := (HF2.out.top.of_block (hb1.block _ hsz)).cell (i := k) hlt
      rw [if_neg (by omega)] at hcell
      have hfr := (HF2.out.top.of_block (hb1.block _ hsz)).frozen k
      have HN : Hid (∃ A C, Copying w (w1.setCell ⟨w.heap.size, k, none⟩ (.slice An (rowAt g k).length cn)) g A C (k + 1)) := HF2.out.next hb1 hon hcn1 hcn2
      clear hb1 hg1 hon hcn1 hcn2
      go_wp2_with fail
      go_roundw
      case rel => exact ⟨k + 1, by omega, by go_num, HN⟩
      case measure => simp [intOf]; omega
    · obtain rfl : k = g.length := by omega
      have HO := Lib.hid HF2.out.done
      go_wp2_with fail
      go_ret
      exact ⟨_, g.length, rfl, Nat.le_refl _, by unfold maxLen; omega, HF2.out.bel, HO.out⟩
theorem rows_funs {w : World} {S : Nat → Prop} {b off : Nat} {g : List (List Int)} (h : Rows2 w S (some ⟨b, off, none⟩) g) :
    ∃ (A : Nat → Option Addr) (C : Nat → Nat), CellsV w b off (rowVals A C g) ∧ ∀ i, i < g.length → (rowAt g i).length ≤ C i ∧ C i ≤ maxLen ∧ Ints w S (A i) (rowAt g i) := by
  have key : ∀ i : Nat, ∃ p : Option Addr × Nat, i < g.length → w.cell? ⟨b, off + i, none⟩ = some (.slice p.1 (rowAt g i).length p.2) ∧ (rowAt g i).length ≤ p.2 ∧ p.2 ≤ maxLen ∧ Ints w S p.1 (rowAt g i) := fun i => by
    by_cases hi : i < g.length
    · obtain ⟨_, A, c, h1, h2, h3, h4⟩ := h.row hi
      exact ⟨(A, c), fun _ => ⟨h1, h2, h3, h4⟩⟩
    · exact ⟨(none, 0), fun h => absurd h hi⟩
  refine ⟨fun i => (Classical.choose (key i)).1, fun i => (Classical.choose (key i)).2, fun j u hj => ?_, fun i hi => (Classical.choose_spec (key i) hi).2⟩
  have hlt : j < g.length := by
    have := (List.getElem?_eq_some_iff.1 hj).1; rwa [rowVals_length] at this
  rw [rowVals_get _ _ _ _ hlt] at hj
  injection hj with hj
  subst hj
  exact (Classical.choose_spec (key j) hlt).1
set_option maxHeartbeats 1000000 in
theorem withoutT (T : Option Addr) (c : Nat) (g : List (List Int)) (a : Nat) (h2 : 2 ≤ g.length) (hl : g.length ≤ 16) (hc1 : g.length ≤ c) (hcm : c ≤ maxLen) (ha : a < g.length) (w : World) (h : Rows2 w (· < w.heap.size) T g) :
    Calls Tryz.prog 108 #[.slice T g.length c, .int .i64 (a : Int)] w fun e w' => ∃ (T' : Option Addr) (c' : Nat), e = .returned (.slice T' (woRow g a).length c') ∧ Below w.heap.size w w' ∧ Rows2 w' (· < w'.heap.size) T' (woRow g a) := by
  obtain ⟨bt, ot, rfl⟩ := h.some (by omega)
  have hb : bt < w.heap.size := (h.row (i := 0) (by omega)).1
  obtain ⟨A, C, hcv, hAC⟩ := rows_funs h
  refine (withoutR bt ot c (rowVals A C g) g.length a (rowVals_length _ _ _) ha h2 hl hc1 hcm oneR w hb hcv).mono ?_
  rintro e w1 ⟨v, rfl, hb1, ho1⟩
  have hwl := woRow_length ha
  obtain ⟨_, ⟨rfl, hz⟩ | ⟨gb, cap, cur, rfl, hgb, hcur, hcap, hmax, hsz, htk⟩⟩ := ho1
  · omega
  refine ⟨some ⟨gb, 0, none⟩, cap, by rw [hwl], hb1, fun _ => ⟨gb, 0, rfl, (Array.getElem?_eq_some_iff.1 hcur).1, fun i hi => ?_⟩⟩
  rw [hwl] at hi
  have hrow := woRow_row ha hi
  have hj : (if i < a then i else i + 1) < g.length := by split <;> omega
  obtain ⟨q1, q2, q3⟩ := hAC _ hj
  have hcell : w1.cell? ⟨gb, 0 + i, none⟩ = some (.slice (A (if i < a then i else i + 1)) (rowAt g (if i < a then i else i + 1)).length (C (if i < a then i else i + 1))) := by
    have hRI : w1.rowIs gb 52 cur.size (fun i => cur.getD i undef) := ⟨cur, hcur, rfl, fun i hi => by simp [hi]⟩
    have e := cut_at (l := rowVals A C g) (a := a) (i := i) (by rw [rowVals_length]; exact ha) (by rw [rowVals_length]; exact hi)
    rw [rowVals_get _ _ _ _ hj, ← htk, List.getElem?_take, if_pos (by omega)] at e
    rw [Nat.zero_add, hRI.cell (i := i) (by omega)]
    have e' : cur[i]? = some (.slice (A (if i < a then i else i + 1)) (rowAt g (if i < a then i else i + 1)).length (C (if i < a then i else i + 1))) := by simpa using e
    simp [Array.getD_eq_getD_getElem?, e']
  rw [← hrow] at hcell q1 q3
  exact ⟨_, _, hcell, q1, q2, (keepInts hb1 q3).lt hb1.size⟩
set_option maxHeartbeats 1000000 in
theorem woRow_impl (T : Option Addr) (c : Nat) (g : List (List Int)) (a : Int) (hl : g.length ≤ maxLen) (hc1 : g.length ≤ c) (hcm : c ≤ maxLen) (w : World) (h : Rows2 w (· < w.heap.size) T g) :
    Calls Tryz.prog 98 #[.slice T g.length c, .int .i64 a] w (TabResC w (woRT g a) (woRB g a)) := by
  have HS := Lib.hid (game_impl T c g _ hl w h)
  have hl' := hl
  unfold maxLen at hl'
  have HP : Hid (∀ w' : World, Calls Tryz.prog 73 #[.int .i64 a, .int .i64 (g.length : Int)] w' (Same (.bool (inPl a g.length)) w')) := fun w' => placeOk a _ (by omega) w'
  have no : woRB g a = false → Hid (woRT g a = [] ∧ woRB g a = false) := fun e => ⟨woRT_no e, e⟩
  rcases hs : gameB g with _ | _
  · have H := no (by simp [woRB, hs])
    rw [hs] at HS
    clear hs no h
    go_enter Tryz.func98, Tryz.ntmps98
    go_wp2_with fail
    refine HS.out.mono ?_
    rintro e w1 ⟨rfl, rfl⟩
    go_wp2_with fail
    go_ret2
    rw [H.out.1, H.out.2]
    exact TabResC.none rfl (Below.refl _ _)
  have hg := Game.of hs
  have hlo := hg.lo
  have hhi := hg.hi
  have hmlo := hg.mlo
  have hmhi := hg.mhi
  by_cases h1 : g.length = 1
  · have H := no (by simp [woRB, h1])
    have e1 : ((g.length : Int) == 1) = true := by simp [h1]
    rw [hs] at HS
    clear hs no h hg h1
    go_enter Tryz.func98, Tryz.ntmps98
    go_wp2_with fail
    refine HS.out.mono ?_
    rintro e w1 ⟨rfl, rfl⟩
    go_wp2_with fail
    go_ret2
    rw [H.out.1, H.out.2]
    exact TabResC.none rfl (Below.refl _ _)
  have h2 : 2 ≤ g.length := by omega
  have e1 : ((g.length : Int) == 1) = false := by rw [beq_eq_false_iff_ne]; omega
  rcases ha : inPl a g.length with _ | _
  · have H := no (by simp [woRB, ha])
    rw [hs] at HS
    rw [ha] at HP
    clear hs no h hg h1 ha
    go_enter Tryz.func98, Tryz.ntmps98
    go_wp2_with fail
    refine HS.out.mono ?_
    rintro e w1 ⟨rfl, rfl⟩
    go_wp2_with fail
    refine (HP.out _).mono ?_
    rintro e w1 ⟨rfl, rfl⟩
    go_wp2_with fail
    go_ret2
    rw [H.out.1, H.out.2]
    exact TabResC.none rfl (Below.refl _ _)
  clear no
  have hyes : woRB g a = true := by simp [woRB, hs, h2, ha]
  obtain ⟨p1, p2⟩ := inPl_iff.1 ha
  obtain ⟨x, rfl⟩ : ∃ x : Nat, a = x := ⟨a.toNat, by omega⟩
  have hx : x < g.length := by omega
  have HRES : Hid (woRT g (x : Int) = woRow g x ∧ woRB g (x : Int) = true) := ⟨by rw [woRT_yes hyes]; rfl, hyes⟩
  have HW := Lib.hid (withoutT T c g x h2 hhi hc1 hcm hx w h)
  have hwg := woRow_game hg h2 hx
  have hwl := woRow_length hx
  have HCP : Hid (∀ (T' : Option Addr) (c' : Nat) (w' : World), Rows2 w' (· < w'.heap.size) T' (woRow g x) → Calls Tryz.prog 35 #[.slice T' (woRow g x).length c'] w' (NewTableC w' (woRow g x))) := fun T' c' w' h' =>
    copied T' c' (woRow g x) (by omega) (by omega) (fun i hi => by rw [hwg.len i hi]; omega) w' h'
  rw [hs] at HS
  rw [ha] at HP
  clear hs h hg h1 ha hyes hwg hwl
  go_enter Tryz.func98, Tryz.ntmps98
  go_wp2_with fail
  refine HS.out.mono ?_
  rintro e w1 ⟨rfl, rfl⟩
  go_wp2_with fail
  refine (HP.out _).mono ?_
  rintro e w1 ⟨rfl, rfl⟩
  go_wp2_with fail
  refine HW.out.mono ?_
  rintro e w1 ⟨T1, c1, rfl, hb1, hr1⟩
  have HB1 := Lib.hid hb1
  have HR1 := Lib.hid hr1
  clear hb1 hr1
  go_wp2_with fail
  refine (HCP.out _ _ _ HR1.out).mono ?_
  rintro e w2 ⟨T2, c2, rfl, q1, q2, hb2, ho2⟩
  have HB2 := Lib.hid (belT HB1.out hb2)
  have HO2 : Hid (OwnR w2 w.heap.size w2.heap.size T2 (woRow g x)) := ho2.more HB1.out.size (Nat.le_refl _)
  clear hb2 ho2
  go_wp2_with fail
  go_ret2
  rw [HRES.out.1, HRES.out.2]
  exact ⟨T2, c2, rfl, q1, q2, HB2.out, HO2.out⟩
end Go.Proofs.YtlmaeadbomnhlaaGreat

namespace Go.Proofs.YtlmaeadbomnhlaaGreat
set_option linter.unusedSimpArgs false
set_option linter.unusedVariables false
open Go.RowKit
set_option maxHeartbeats 2000000 in
set_option maxRecDepth 100000 in
theorem woCol_impl (T : Option Addr) (c : Nat) (g : List (List Int)) (a : Int) (hl : g.length ≤ maxLen) (w : World) (h : Rows2 w (· < w.heap.size) T g) :
    Calls Tryz.prog 100 #[.slice T g.length c, .int .i64 a] w (TabResC w (woCT g a) (woCB g a)) := by
  have HS := Lib.hid (game_impl T c g _ hl w h)
  have no : woCB g a = false → Hid (woCT g a = [] ∧ woCB g a = false) := fun e => ⟨woCT_no e, e⟩
  rcases hs : gameB g with _ | _
  · have H := no (by simp [woCB, hs])
    rw [hs] at HS
    clear hs no h
    go_enter Tryz.func100, Tryz.ntmps100
    go_wp2_with fail
    refine HS.out.mono ?_
    rintro e w1 ⟨rfl, rfl⟩
    go_wp2_with fail
    go_ret2
    rw [H.out.1, H.out.2]
    exact TabResC.none rfl (Below.refl _ _)
  have hg := Game.of hs
  have hlo := hg.lo
  have hhi := hg.hi
  have hmlo := hg.mlo
  have hmhi := hg.mhi
  obtain ⟨bt, ot, rfl⟩ := h.some (by omega)
  obtain ⟨hS, A0, c0, hc0, hl0, hm0, _⟩ := h.row (i := 0) (by omega)
  rw [Nat.add_zero] at hc0
  unfold maxLen at hm0
  have HP : Hid (∀ w' : World, Calls Tryz.prog 73 #[.int .i64 a, .int .i64 ((rowAt g 0).length : Int)] w' (Same (.bool (inPl a (rowAt g 0).length)) w')) := fun w' => placeOk a _ (by omega) w'
  by_cases h1 : (rowAt g 0).length = 1
  · have H := no (by simp [woCB, h1])
    have e1 : (((rowAt g 0).length : Int) == 1) = true := by simp [h1]
    rw [hs] at HS
    clear hs no h hg h1
    go_enter Tryz.func100, Tryz.ntmps100
    go_wp2_with fail
    refine HS.out.mono ?_
    rintro e w1 ⟨rfl, rfl⟩
    go_wp2_with fail
    go_ret2
    rw [H.out.1, H.out.2]
    exact TabResC.none rfl (Below.refl _ _)
  have h2 : 2 ≤ (rowAt g 0).length := by omega
  have e1 : (((rowAt g 0).length : Int) == 1) = false := by rw [beq_eq_false_iff_ne]; omega
  rcases ha : inPl a (rowAt g 0).length with _ | _
  · have H := no (by simp [woCB, ha])
    rw [hs] at HS
    rw [ha] at HP
    clear hs no h hg h1 ha
    go_enter Tryz.func100, Tryz.ntmps100
    go_wp2_with fail
    refine HS.out.mono ?_
    rintro e w1 ⟨rfl, rfl⟩
    go_wp2_with fail
    refine (HP.out _).mono ?_
    rintro e w1 ⟨rfl, rfl⟩
    go_wp2_with fail
    go_ret2
    rw [H.out.1, H.out.2]
    exact TabResC.none rfl (Below.refl _ _)
  clear no
  have hyes : woCB g a = true := by simp [woCB, hs, h2, ha]
  obtain ⟨p1, p2⟩ := inPl_iff.1 ha
  obtain ⟨x, rfl⟩ : ∃ x : Nat, a = x := ⟨a.toNat, by omega⟩
  have hx : x < (rowAt g 0).length := by omega
  have HRES : Hid (woCT g (x : Int) = woColL g x ∧ woCB g (x : Int) = true) := ⟨by rw [woCT_yes hyes]; exact woCol_eq hs h2 hx, hyes⟩
  have HWL := Lib.hid (woColL_length g x)
  have HRW : Hid (∀ i, i < g.length → rowAt (woColL g x) i = selRow (fun j => j != x) (nth (rowAt g i)) (rowAt g i).length) := fun i hi => rowAt_woColL g x i hi
  have hmk := run_make_row' (P := Tryz.prog) 23 52 _ 24 Tryz.underlying23 infoR rfl .i64 .i64 g.length (by omega) (by omega)
  have HR := Lib.hid h
  have HG := Lib.hid hg
  have F0 : Hid (Copying w (w.alloc (.cells (madeCells #[.slice none 0 0] g.length) 52)) (woColL g x) (fun _ => none) (fun _ => 0) 0) := by
    have := Copying.start w (woColL g x) (fun _ => none) (fun _ => 0); rw [HWL.out] at this; exact this
  rw [hs] at HS
  rw [ha] at HP
  clear hs h hg h1 ha hyes
  go_enter Tryz.func100, Tryz.ntmps100
  go_wp2_with fail
  refine HS.out.mono ?_
  rintro e w1 ⟨rfl, rfl⟩
  go_wp2_with fail
  refine (HP.out _).mono ?_
  rintro e w1 ⟨rfl, rfl⟩
  go_wp2_with fail
  clear hmk hc0
  go_loopw [33] (fun i wr => ∃ k : Nat, k ≤ g.length ∧ i = .int .i64 k ∧ Hid (∃ A C, Copying w wr (woColL g x) A C k)) (fun i _ => g.length - (intOf i).toNat)
  case atStart => exact ⟨0, Nat.zero_le _, rfl, ⟨_, _, F0.out⟩⟩
  case round =>
    obtain ⟨k, hk, rfl, HF⟩ := hrel
    obtain ⟨A, C, hF⟩ := HF.out
    have HF2 := Lib.hid hF
    clear HF hF
    by_cases hlt : k < g.length
    · have R := keepRows HF2.out.bel HR.out
      obtain ⟨hSt, Ak, ck, hck, hlk, hmk, hik⟩ := R.row hlt
      have hrl := HG.out.len k hlt
      obtain ⟨bk, ok, rfl, hSk, hcells⟩ := hik.at_ (i := 0) (by omega)
      have hsz := HF2.out.size
      have HCV : Hid (CellsV wr bk ok (vals (rowAt g k))) := fun j u hj => by
        have hlt : j < (rowAt g k).length := by
          have := (List.getElem?_eq_some_iff.1 hj).1; rwa [vals_length] at this
        rw [vals_get _ j hlt] at hj
        injection hj with hj
        subst hj
        exact hcells j hlt
      have HWI := Lib.hid (withoutI bk ok ck (vals (rowAt g k)) (rowAt g k).length x (vals_length _) (by omega) (by omega) (by omega) hlk hmk vals_one wr (by omega) HCV.out)
      rw [cut_vals (by omega), ← HRW.out k hlt] at HWI
      have hlw : (rowAt (woColL g x) k).length = (rowAt g k).length - 1 := by rw [HRW.out k hlt, selRow_length, cnt_ne, if_pos (by omega)]
      rw [← hlw] at HWI
      have HLW := Lib.hid hlw
      unfold maxLen at hmk
      clear R hik hcells hrl hlw
      go_wp2_with fail
      refine HWI.out.mono ?_
      rintro e w1 ⟨v, rfl, hb1, hg1⟩
      obtain ⟨An, cn, rfl, hcn1, hcn2, hon⟩ := Grows.own' (w := w1) (base := wr.heap.size) (l := rowAt (woColL g x) k) hg1
      have hcell := (HF2.out.top.of_block (hb1.block _ hsz)).cell (i := k) (by rw [HWL.out]; exact hlt)
      rw [if_neg (by omega)] at hcell
      have hfr := (HF2.out.top.of_block (hb1.block _ hsz)).frozen k
      have HN : Hid (∃ A C, Copying w (w1.setCell ⟨w.heap.size, k, none⟩ (.slice An (rowAt (woColL g x) k).length cn)) (woColL g x) A C (k + 1)) := HF2.out.next hb1 hon hcn1 hcn2
      clear hb1 hg1 hon hcn1 hcn2
      go_wp2_with fail
      go_roundw
      case rel => exact ⟨k + 1, by omega, by go_num, HN⟩
      case measure => simp [intOf]; omega
    · obtain rfl : k = g.length := by omega
      have HO := Lib.hid (Copying.done (w := w) (g := woColL g x) (by have := HF2.out; rw [← HWL.out] at this; exact this))
      go_wp2_with fail
      go_ret2
      rw [HRES.out.1, HRES.out.2]
      exact ⟨_, g.length, by show _ = Ending.returned (.tuple #[.slice _ (woColL g x).length _, _]); rw [HWL.out]; rfl, by rw [HWL.out]; exact Nat.le_refl _, by unfold maxLen; omega, HF2.out.bel, HO.out⟩
def StepResC (w : World) (o : Option (List (List Int))) (e : Ending) (w' : World) : Prop :=
  Below w.heap.size w w' ∧ match o with
  | some t => ∃ (T : Option Addr) (c : Nat), e = .returned (.tuple #[.slice T t.length c, .bool true]) ∧ t.length ≤ c ∧ c ≤ maxLen ∧ OwnR w' w.heap.size w'.heap.size T t
  | none => e = .returned (.tuple #[.slice none 0 0, .bool false])
set_option maxHeartbeats 2000000 in
theorem step_impl (A : Option Addr) (c : Nat) (g : List (List Int)) (hs : gameB g = true) (hc1 : g.length ≤ c) (hcm : c ≤ maxLen) (w : World) (h : Rows2 w (· < w.heap.size) A g) :
    Calls Tryz.prog 75 #[.slice A g.length c] w (StepResC w (stepO g)) := by
  have hg := Game.of hs
  have hl16 := hg.hi
  have hl1 := hg.lo
  have hl : g.length ≤ maxLen := by unfold maxLen; omega
  have HR := Lib.hid h
  have HF1 := Lib.hid (firstWorse _ _ higher A c g _ hg.even w h)
  have HCO := Lib.hid (columnsOf A c g _ hg w h)
  have HEV := Lib.hid (cols_even hs)
  have HGB := Lib.hid hs
  rcases hf : fstW gtB g with _ | a
  · have HNO := Lib.hid hf
    rw [hf] at HF1
    rcases hf2 : fstW ltB (cols g) with _ | a
    · have HST := Lib.hid (stepO_none hf hf2)
      have HF2 := Lib.hid hf2
      clear hf hf2 hs hg h
      go_enter Tryz.func75, Tryz.ntmps75
      go_wp2_with fail
      refine HF1.out.mono ?_
      rintro e w1 ⟨rfl, rfl⟩
      unfold fstV
      go_wp2_with fail
      refine HCO.out.mono ?_
      rintro e w1 ⟨rfl, hL⟩
      have HCR := Lib.hid (Laid.cols_reads HGB.out hL)
      have HB := Lib.hid hL.bel
      clear hL
      go_wp2_with fail
      refine (firstWorse _ _ lower _ _ (cols g) _ HEV.out w1 HCR.out).mono ?_
      rintro e w2 ⟨rfl, rfl⟩
      rw [HF2.out]
      unfold fstV
      go_wp2_with fail
      go_ret2
      rw [HST.out]
      exact ⟨HB.out, rfl⟩
    · obtain ⟨w1, w2, _⟩ := fstW_col hs hf2
      have HST : Hid (stepO g = some (woCT g (a : Int))) := by rw [w2]; exact stepO_col hf hf2
      have HYES := Lib.hid w1
      have HF2 := Lib.hid hf2
      clear hf hf2 hs hg h w1 w2
      go_enter Tryz.func75, Tryz.ntmps75
      go_wp2_with fail
      refine HF1.out.mono ?_
      rintro e w1 ⟨rfl, rfl⟩
      unfold fstV
      go_wp2_with fail
      refine HCO.out.mono ?_
      rintro e w1 ⟨rfl, hL⟩
      have HCR := Lib.hid (Laid.cols_reads HGB.out hL)
      have HB := Lib.hid hL.bel
      clear hL
      go_wp2_with fail
      refine (firstWorse _ _ lower _ _ (cols g) _ HEV.out w1 HCR.out).mono ?_
      rintro e w2 ⟨rfl, rfl⟩
      rw [HF2.out]
      unfold fstV
      have HR1 : Hid (Rows2 w1 (· < w1.heap.size) A g) := (keepRows HB.out HR.out).lt HB.out.size
      have HWC : Hid (Calls Tryz.prog 100 #[.slice A g.length c, .int .i64 (a : Int)] w1 (TabResC w1 (woCT g (a : Int)) true)) := by
        have := woCol_impl A c g (a : Int) hl w1 HR1.out; rw [HYES.out] at this; exact this
      go_wp2_with fail
      refine HWC.out.mono ?_
      rintro e w3 ⟨T3, c3, rfl, q1, q2, hb3, ho3⟩
      have HB3 := Lib.hid (belT HB.out hb3)
      have HO3 : Hid (OwnR w3 w.heap.size w3.heap.size T3 (woCT g (a : Int))) := ho3.more HB.out.size (Nat.le_refl _)
      have HQ : Hid ((woCT g (a : Int)).length ≤ c3 ∧ c3 ≤ maxLen) := ⟨q1, q2⟩
      clear hb3 ho3 q1 q2
      go_wp2_with fail
      go_ret2
      rw [HST.out]
      exact ⟨HB3.out, T3, c3, rfl, HQ.out.1, HQ.out.2, HO3.out⟩
  · obtain ⟨w1, w2, _⟩ := fstW_row hs hf
    have HST : Hid (stepO g = some (woRT g (a : Int))) := by rw [w2]; exact stepO_row hf
    have HWC : Hid (Calls Tryz.prog 98 #[.slice A g.length c, .int .i64 (a : Int)] w (TabResC w (woRT g (a : Int)) true)) := by
      have := woRow_impl A c g (a : Int) hl hc1 hcm w h; rw [w1] at this; exact this
    rw [hf] at HF1
    clear hf hs hg h w1 w2
    go_enter Tryz.func75, Tryz.ntmps75
    go_wp2_with fail
    refine HF1.out.mono ?_
    rintro e w1 ⟨rfl, rfl⟩
    unfold fstV
    go_wp2_with fail
    refine HWC.out.mono ?_
    rintro e w3 ⟨T3, c3, rfl, q1, q2, hb3, ho3⟩
    have HB3 := Lib.hid hb3
    have HO3 := Lib.hid ho3
    have HQ : Hid ((woRT g (a : Int)).length ≤ c3 ∧ c3 ≤ maxLen) := ⟨q1, q2⟩
    clear hb3 ho3 q1 q2
    go_wp2_with fail
    go_ret2
    rw [HST.out]
    exact ⟨HB3.out, T3, c3, rfl, HQ.out.1, HQ.out.2, HO3.out⟩
set_option maxHeartbeats 2000000 in
theorem small_impl (A : Option Addr) (c : Nat) (g : List (List Int)) (hl : g.length ≤ maxLen) (w : World) (h : Rows2 w (· < w.heap.size) A g) :
    Calls Tryz.prog 54 #[.slice A g.length c] w (NewTable w (small g)) := by
  have HS := Lib.hid (game_impl A c g _ hl w h)
  rcases hs : gameB g with _ | _
  · have H := Lib.hid (small_no hs)
    rw [hs] at HS
    clear hs h
    go_enter Tryz.func54, Tryz.ntmps54
    go_wp2_with fail
    refine HS.out.mono ?_
    rintro e w1 ⟨rfl, rfl⟩
    go_wp2_with fail
    go_ret
    rw [H.out]
    exact ⟨none, 0, rfl, Below.refl _ _, fun h0 => absurd h0 (by simp)⟩
  have hg := Game.of hs
  have hl16 := hg.hi
  have hl1 := hg.lo
  have hm1 := hg.mlo
  have hm16 := hg.mhi
  have HSM : Hid (small g = smT g) := small_yes hs
  have HGB := Lib.hid hs
  have HCP := Lib.hid (copied A c g (by omega) hl16 (fun i hi => by rw [hg.len i hi]; omega) w h)
  rw [hs] at HS
  clear hs h hg
  go_enter Tryz.func54, Tryz.ntmps54
  go_wp2_with fail
  refine HS.out.mono ?_
  rintro e w1 ⟨rfl, rfl⟩
  go_wp2_with fail
  refine HCP.out.mono ?_
  rintro e w1 ⟨T1, c1, rfl, q1, q2, hb1, ho1⟩
  have HB1 := Lib.hid hb1
  have HO1 := Lib.hid ho1
  have HQ1 : Hid (g.length ≤ c1 ∧ c1 ≤ maxLen) := ⟨q1, q2⟩
  clear hb1 ho1 q1 q2
  go_wp2_with fail
  go_loopg [3] (szT g) (fun k v wr => ∃ (t : List (List Int)) (T : Option Addr) (ct : Nat), v = .slice T t.length ct ∧ Hid (szT t = k) ∧ Hid (gameB t = true) ∧ Hid (smT t = smT g) ∧ Hid (t.length ≤ ct ∧ ct ≤ maxLen) ∧ Hid (Below w.heap.size w wr) ∧ Hid (OwnR wr w.heap.size wr.heap.size T t))
  case atStart => exact ⟨g, T1, c1, rfl, rfl, HGB, rfl, HQ1, HB1, HO1⟩
  case round =>
    obtain ⟨t, T, ct, rfl, HK, HGT, HSM2, HQ, HB, HO⟩ := hrel
    go_wp2_with fail
    refine (step_impl T ct t HGT.out HQ.out.1 HQ.out.2 _ HO.out.reads).mono ?_
    rintro e w2 ⟨hb2, hres⟩
    have HB2 := Lib.hid (belT HB.out hb2)
    rcases hst : stepO t with _ | t2
    · rw [hst] at hres
      dsimp only at hres
      subst hres
      have HE : Hid (small g = t) := by rw [HSM.out, ← HSM2.out]; exact smT_end hst
      have HO2 : Hid (OwnR w2 w.heap.size w2.heap.size T t) := (HO.out.keep fun b _ h2 => hb2.block b h2).more (Nat.le_refl _) hb2.size
      clear hst hb2
      go_wp2_with fail
      go_ret
      rw [HE.out]
      exact ⟨T, ct, rfl, HB2.out, HO2.out⟩
    · rw [hst] at hres
      dsimp only at hres
      obtain ⟨T2, c2, rfl, p1, p2, ho2⟩ := hres
      obtain ⟨g2, z2, _⟩ := stepO_game HGT.out hst
      have HG2 := Lib.hid g2
      have HZ := Lib.hid z2
      have HQ2 : Hid (t2.length ≤ c2 ∧ c2 ≤ maxLen) := ⟨p1, p2⟩
      have HSM3 : Hid (smT t2 = smT g) := by rw [← smT_step HGT.out hst]; exact HSM2.out
      have HO2 : Hid (OwnR w2 w.heap.size w2.heap.size T2 t2) := ho2.more HB.out.size (Nat.le_refl _)
      clear hst hb2 ho2 g2 z2 p1 p2
      go_wp2_with fail
      go_roundg (szT t2)
      case measure => have := HZ.out; have := HK.out; omega
      case rel => exact ⟨t2, T2, c2, rfl, rfl, HG2, HSM3, HQ2, HB2, HO2⟩
end Go.Proofs.YtlmaeadbomnhlaaGreat
