/- Texts in one: Concat, WithI, WithJ, WithK. -/
import Derived.Test.YtanfefgigepdcaaMQ
import Derived.Lib.AppendZerosOnto
import Derived.Lib.Walk
import Derived.Deep.LoopGhost
namespace Go.Proofs.Ytanfefgigepdcaa
set_option linter.unusedSimpArgs false
set_option linter.unusedVariables false
open Go.RowKit

theorem one_zero {z : Value} (h : z.cells.size = 1) (n : Nat) : (Builtin.zeroCells z.cells n).size = n := by rw [size_zeroCells, h, Nat.mul_one]

theorem grown_own (w : World) (n : Nat) (e : TypeId) (z : Value) (hz : z.cells.size = 1) (hn : n ≤ 4294967296) :
    (w.drew.alloc (.cells (#[] ++ Builtin.zeroCells z.cells n ++ Builtin.zeroCells z.cells (grownCap w n 0 e - n)) e)).ownsRow w.heap.size e 1 (.slice (some ⟨w.heap.size, 0, none⟩) 0 (grownCap w n 0 e)) 0 [] := by
  have h1 := grownCap_ge w n 0 e
  have h2 := grownCap_le_maxLen w n 0 e (by unfold maxLen; omega)
  refine ⟨rfl, .inr ⟨w.heap.size, _, _, rfl, Nat.le_refl _, heap_alloc_new w.drew _, Nat.zero_le _, h2, ?_, by simp⟩⟩
  simp only [Array.size_append, one_zero hz]
  simp; omega

/-- two lists, one behind the other, as far as they are copied -/
def preN {α : Type} (xs ys : List α) (k : Nat) : List α := if k = 0 then [] else if k = 1 then xs else xs ++ ys

theorem own_pre1 {w : World} {base n1 : Nat} {e : TypeId} {v : Value} {xs ys : List Value} (h : w.ownsRow base e 1 v (preN xs ys 1).length (preN xs ys 1)) (hx : xs.length = n1) : w.ownsRow base e 1 v n1 xs := by
  rw [show (preN xs ys 1) = xs from rfl, hx] at h; exact h

theorem own_pre2 {w : World} {base n1 n2 : Nat} {e : TypeId} {v : Value} {xs ys : List Value} (h : w.ownsRow base e 1 v (preN xs ys 2).length (preN xs ys 2)) (hx : xs.length = n1) (hy : ys.length = n2) : w.ownsRow base e 1 v (n1 + n2) (xs ++ ys) := by
  rw [show (preN xs ys 2) = xs ++ ys from rfl, List.length_append, hx, hy] at h; exact h

set_option maxHeartbeats 2000000 in
set_option maxRecDepth 100000 in
theorem growI (n : Nat) (h0 : 0 < n) (hn : n ≤ 1000) (w : World) :
    Calls Try.prog 110 #[.slice none 0 0, .int .i64 (n : Int)] w fun e w' => ∃ v, e = .returned v ∧ Below w.heap.size w w' ∧ w'.ownsRow w.heap.size 3 1 v 0 [] := by
  obtain ⟨i0, hi0, hz0, hz1, hz2⟩ := info_parts infoI
  have hOWN := grown_own w n 3 (.int .i64 0) rfl (by omega)
  have hrz : ∀ ty, (Builtin.append_ #[31, 3] ty #[.slice none 0 0, .int .i64 (n : Int)]).run Try.prog w =
      .ok (.slice (some ⟨w.heap.size, 0, none⟩) n (grownCap w n 0 3)) (w.drew.alloc (.cells (#[] ++ Builtin.zeroCells ((.int .i64 0) : Value).cells n ++ Builtin.zeroCells ((.int .i64 0) : Value).cells (grownCap w n 0 3 - n)) 3)) := fun ty => by
    have h := Lib.run_append_grow_zeros (P := Try.prog) w 31 3 ty 3 i0 (.int .i64 0) .i64 .i64 Try.underlying31 Try.underlying3 hi0 hz0 none 0 0 [] (by exact run_firstCells_none w.drew i0.size 0 0 0) n h0 (by rw [hz1]; decide) (by omega) (by omega)
      (by rw [hz2]; omega) (by rw [hz2]; exact growslice_fits (by omega) (by omega))
    rw [Nat.zero_add] at h
    exact h
  have hG63 : grownCap w n 0 3 ≤ 9223372036854775807 := by
    have := grownCap_le_maxLen w n 0 3 (by unfold maxLen; omega)
    unfold maxLen at this
    omega
  have hGn := grownCap_ge w n 0 3
  obtain ⟨G, hG⟩ : ∃ G, G = grownCap w n 0 3 := ⟨_, rfl⟩
  rw [← hG] at hOWN hrz hG63 hGn
  obtain ⟨W, hW⟩ : ∃ W, W = w.drew.alloc (.cells (#[] ++ Builtin.zeroCells ((.int .i64 0) : Value).cells n ++ Builtin.zeroCells ((.int .i64 0) : Value).cells (G - n)) 3) := ⟨_, rfl⟩
  have HB : Hid (Below w.heap.size w W) := by rw [hW]; exact (Below.refl _ _).drew.alloc (Nat.le_refl _) _
  rw [← hW] at hOWN hrz
  have HO := Lib.hid hOWN
  clear hG hW hOWN hi0 hz0 hz1 hz2
  go_enter Try.func110, Try.ntmps110
  go_wp2_with (at_builtin; refine Lib.wpList_append_run _ rfl _ _ _ _ rfl _ _ rfl rfl _ _ (hrz _) ?_)
  go_ret
  exact ⟨_, rfl, HB.out, HO.out⟩

set_option maxHeartbeats 4000000 in
set_option maxRecDepth 100000 in
theorem concatI (b0 : Nat) (c0 : Nat) (A1 A2 : Addr) (n1 c1 n2 c2 : Nat) (xs ys : List Value) (hx : xs.length = n1) (hy : ys.length = n2) (hn : n1 + n2 ≤ 1000) (h0 : 0 < n1 + n2) (hc1 : n1 ≤ c1) (hc2 : n2 ≤ c2) (hm1 : c1 ≤ maxLen) (hm2 : c2 ≤ maxLen)
    (ox : ∀ u ∈ xs, u.oneCell' = true) (oy : ∀ u ∈ ys, u.oneCell' = true) (w : World) (hb0 : b0 < w.heap.size) (hb1 : A1.block < w.heap.size) (hb2 : A2.block < w.heap.size)
    (k0 : w.cell? ⟨b0, 0, none⟩ = some (.slice (some A1) n1 c1)) (k1 : w.cell? ⟨b0, 1, none⟩ = some (.slice (some A2) n2 c2))
    (hxs : ∀ w', Below w.heap.size w w' → ∀ j u, xs[j]? = some u → w'.cell? (A1.add j) = some u) (hys : ∀ w', Below w.heap.size w w' → ∀ j u, ys[j]? = some u → w'.cell? (A2.add j) = some u) :
    Calls Try.prog 96 #[.slice (some ⟨b0, 0, none⟩) 2 c0] w fun e w' => ∃ v, e = .returned v ∧ Below w.heap.size w w' ∧ w'.ownsRow w.heap.size 3 1 v (n1 + n2) (xs ++ ys) := by
  obtain ⟨i0, hi0, hz0, hz1, hz2⟩ := info_parts infoI
  have HI0 := Lib.hid hi0
  have HZ0 := Lib.hid hz0
  have HZ1 := Lib.hid hz1
  have HZ2 := Lib.hid hz2
  have HXS := Lib.hid hxs
  have HYS := Lib.hid hys
  have HK0 : Hid (∀ w', Below w.heap.size w w' → w'.cell? ⟨b0, 0, none⟩ = some (.slice (some A1) n1 c1)) := fun w' hb => (hb.cell (p := ⟨b0, 0, none⟩) hb0).trans k0
  have HK1 : Hid (∀ w', Below w.heap.size w w' → w'.cell? ⟨b0, 1, none⟩ = some (.slice (some A2) n2 c2)) := fun w' hb => (hb.cell (p := ⟨b0, 1, none⟩) hb0).trans k1
  have HX := Lib.hid hx
  have HY := Lib.hid hy
  have HOX := Lib.hid ox
  have HOY := Lib.hid oy
  unfold maxLen at hm1 hm2
  have cc : ((n1 : Int) + (n2 : Int)) = ((n1 + n2 : Nat) : Int) := by omega
  have HCC := Lib.hid cc
  have s2 : IntKind.i64.wrap ((n1 : Int) + (n2 : Int)) = (n1 : Int) + (n2 : Int) := IntWalk.i64_in _ ⟨by omega, by omega⟩
  have s1 : IntKind.i64.wrap (n1 : Int) = (n1 : Int) := IntWalk.i64_in _ ⟨by omega, by omega⟩
  have HG := Lib.hid (growI (n1 + n2) h0 hn w)
  clear hi0 hz0 hz1 hz2 hxs hys hx hy ox oy cc hb1 hb2
  go_enter Try.func96, Try.ntmps96
  go_wp2_with fail
  go_loop [3, 11] (fun s i => (s = .int .i64 0 ∧ i = .int .i64 0) ∨ (s = .int .i64 n1 ∧ i = .int .i64 1) ∨ (s = .int .i64 ((n1 : Int) + (n2 : Int)) ∧ i = .int .i64 2)) (fun _ i => 2 - (intOf i).toNat)
  case atStart => exact .inl ⟨rfl, rfl⟩
  case round =>
    rcases hrel with ⟨rfl, rfl⟩ | ⟨rfl, rfl⟩ | ⟨rfl, rfl⟩
    · go_wp2_with fail
      go_round
      case rel => exact .inr (.inl ⟨by first | rfl | (simp; done) | go_num, by first | rfl | go_num⟩)
      case measure => simp [intOf]
    · go_wp2_with fail
      go_round
      case rel => exact .inr (.inr ⟨by first | rfl | (simp; done) | go_num, by first | rfl | go_num⟩)
      case measure => simp [intOf]
    · clear k0 k1 s1 s2
      rw [HCC.out]
      go_wp2_with fail
      refine HG.out.mono ?_
      rintro e w1 ⟨v1, rfl, hb1, ho1⟩
      have HB1 := Lib.hid hb1
      have HO1 := Lib.hid ho1
      clear hb1 ho1
      go_wp2_with fail
      go_loopw [6, 27] (fun v i wr => ∃ k : Nat, k ≤ 2 ∧ i = .int .i64 k ∧ Hid (wr.ownsRow w.heap.size 3 1 v (preN xs ys k).length (preN xs ys k)) ∧ Hid (Below w.heap.size w wr)) (fun _ i _ => 2 - (intOf i).toNat)
      case atStart => exact ⟨0, Nat.zero_le _, rfl, HO1.out, HB1⟩
      case round =>
        obtain ⟨k, hk, rfl, HO, HB⟩ := hrel
        have hk3 : k = 0 ∨ k = 1 ∨ k = 2 := by omega
        have hws := HB.out.size
        have kk0 := HK0.out _ HB.out
        have kk1 := HK1.out _ HB.out
        rcases hk3 with rfl | rfl | rfl
        · have HN := Lib.hid (HXS.out _ HB.out)
          clear kk1
          go_wp2_with (at_builtin; refine wpList_append_own_at _ rfl (.tmp 31) (.tmp 32) _ rfl w.heap.size 3 i0 (.int .i64 0) 1 8 Try.underlying31 HI0.out HZ0.out HZ1.out HZ2.out rfl (by decide) _ 0 [] rfl HO.out A1 n1 c1 xs rfl (by rw [HX.out, Nat.mul_one]) HN.out HOX.out (by unfold maxLen; omega) (by omega) hws ?_)
          intro v' w4 hown hgrow _ _
          have HO2 : Hid (w4.ownsRow w.heap.size 3 1 v' (preN xs ys 1).length (preN xs ys 1)) := by
            show w4.ownsRow w.heap.size 3 1 v' xs.length xs
            rw [HX.out]; simpa using hown
          have HB2 : Hid (Below w.heap.size w w4) := HB.out.grown hgrow hws (fun k hk => by have := (World.ownsRow.lt HO.out) k hk; omega)
          clear hown hgrow
          go_wp2_with fail
          go_roundw
          case rel => exact ⟨1, by omega, by go_num, HO2, HB2⟩
          case measure => simp [intOf]
        · have HN := Lib.hid (HYS.out _ HB.out)
          clear kk0
          have HO' := Lib.hid (own_pre1 HO.out HX.out)
          go_wp2_with (at_builtin; refine wpList_append_own_at _ rfl (.tmp 31) (.tmp 32) _ rfl w.heap.size 3 i0 (.int .i64 0) 1 8 Try.underlying31 HI0.out HZ0.out HZ1.out HZ2.out rfl (by decide) _ n1 xs rfl HO'.out A2 n2 c2 ys rfl (by rw [HY.out, Nat.mul_one]) HN.out HOY.out (by unfold maxLen; omega) (by omega) hws ?_)
          intro v' w4 hown hgrow _ _
          have HO2 : Hid (w4.ownsRow w.heap.size 3 1 v' (preN xs ys 2).length (preN xs ys 2)) := by
            show w4.ownsRow w.heap.size 3 1 v' (xs ++ ys).length (xs ++ ys)
            rw [List.length_append, HX.out, HY.out]; exact hown
          have HB2 : Hid (Below w.heap.size w w4) := HB.out.grown hgrow hws (fun k hk => by have := (World.ownsRow.lt HO.out) k hk; omega)
          clear hown hgrow
          go_wp2_with fail
          go_roundw
          case rel => exact ⟨2, by omega, by go_num, HO2, HB2⟩
          case measure => simp [intOf]
        · clear kk0 kk1
          have HO' := Lib.hid (own_pre2 HO.out HX.out HY.out)
          go_wp2_with fail
          go_ret
          exact ⟨_, rfl, HB.out, HO'.out⟩

end Go.Proofs.Ytanfefgigepdcaa

namespace Go.Proofs.Ytanfefgigepdcaa
set_option linter.unusedSimpArgs false
set_option linter.unusedVariables false
open Go.RowKit

/-- the cells from an address on hold the values -/
def CellsV (w : World) (b off : Nat) (xs : List Value) : Prop := ∀ (j : Nat) (u : Value), xs[j]? = some u → w.cell? ⟨b, off + j, none⟩ = some u

theorem CellsV.news {w : World} {b off : Nat} {xs : List Value} (h : CellsV w b off xs) : ∀ j u, xs[j]? = some u → w.cell? ((⟨b, off, none⟩ : Addr).add j) = some u := by
  intro j u hj
  have e : (⟨b, off, none⟩ : Addr).add j = ⟨b, off + j, none⟩ := by
    by_cases e0 : j = 0
    · subst e0; simp [Addr.add]
    · simp [Addr.add, e0]
  rw [e]; exact h j u hj

theorem CellsV.keep {w w' : World} {b off B : Nat} {xs : List Value} (h : CellsV w b off xs) (hb : b < B) (hw : Below B w w') : CellsV w' b off xs :=
  fun j u hj => (hw.cell (p := ⟨b, off + j, none⟩) hb).trans (h j u hj)

theorem CellsV.take {w : World} {b off : Nat} {xs : List Value} (h : CellsV w b off xs) (a : Nat) : CellsV w b off (xs.take a) := fun j u hj => h j u (by
  rw [List.getElem?_take] at hj
  split at hj
  · exact hj
  · cases hj)

theorem CellsV.nil (w : World) (b off : Nat) : CellsV w b off [] := fun j u hj => by simp at hj

end Go.Proofs.Ytanfefgigepdcaa

namespace Go.Proofs.Ytanfefgigepdcaa
set_option linter.unusedSimpArgs false
set_option linter.unusedVariables false
open Go.RowKit

/-- while rows are stored that calls have made: the first k are there -/
structure Copying (w wr : World) (g : List (List Int)) (A : Nat → Option Addr) (C : Nat → Nat) (k : Nat) : Prop where
  bel : Below w.heap.size w wr
  size : w.heap.size < wr.heap.size
  top : wr.rowIs w.heap.size 31 g.length (fun j => if j < k then .slice (A j) (rowAt g j).length (C j) else .slice none 0 0)
  cap : ∀ i, i < k → (rowAt g i).length ≤ C i ∧ C i ≤ maxLen
  own : ∀ i, i < k → OwnI wr (w.heap.size + 1) wr.heap.size (A i) (rowAt g i)
  apart : ∀ i j, i < k → j < k → i ≠ j → 0 < (rowAt g i).length → 0 < (rowAt g j).length → A i ≠ A j

theorem Copying.start (w : World) (g : List (List Int)) (A : Nat → Option Addr) (C : Nat → Nat) : Copying w (w.alloc (.cells (madeCells #[.slice none 0 0] g.length) 31)) g A C 0 :=
  ⟨(Below.refl _ _).alloc (Nat.le_refl _) _, by simp, (World.rowIs_made w _ _ _).congr (fun j _ => by simp), fun i hi => absurd hi (Nat.not_lt_zero _), fun i hi => absurd hi (Nat.not_lt_zero _), fun i j hi => absurd hi (Nat.not_lt_zero _)⟩

theorem OwnI.setCell {w : World} {lo hi p o : Nat} {A : Option Addr} {l : List Int} (h : OwnI w lo hi A l) (hp : p < lo) (v : Value) : OwnI (w.setCell ⟨p, o, none⟩ v) lo hi A l := by
  intro h0
  obtain ⟨b, N, f, e, h1, h2, h3, h4, h5⟩ := h h0
  exact ⟨b, N, f, e, h1, h2, h3.setOther (by show b ≠ p; omega) _, h4, h5⟩

theorem Copying.next {w wr w2 : World} {g : List (List Int)} {A : Nat → Option Addr} {C : Nat → Nat} {k cn : Nat} {An : Option Addr} (h : Copying w wr g A C k) (hb : Below wr.heap.size wr w2)
    (ho : OwnI w2 wr.heap.size w2.heap.size An (rowAt g k)) (c1 : (rowAt g k).length ≤ cn) (c2 : cn ≤ maxLen) :
    ∃ (A' : Nat → Option Addr) (C' : Nat → Nat), Copying w (w2.setCell ⟨w.heap.size, k, none⟩ (.slice An (rowAt g k).length cn)) g A' C' (k + 1) := by
  have hs := hb.size
  have hz := h.size
  have hss : (w2.setCell ⟨w.heap.size, k, none⟩ (.slice An (rowAt g k).length cn)).heap.size = w2.heap.size := by simp [World.setCell]
  refine ⟨fun i => if i < k then A i else An, fun i => if i < k then C i else cn, (h.bel.trans (hb.mono (by omega))).setCell (Nat.le_refl _) _, by rw [hss]; omega, ((h.top.of_block (hb.block _ hz)).set k _).congr (fun j _ => ?_), fun i hi => ?_, fun i hi => ?_, fun i j hi hj hne p q => ?_⟩
  · by_cases e : j = k
    · subst e; rw [if_pos rfl, if_pos (Nat.lt_succ_self _), if_neg (Nat.lt_irrefl _), if_neg (Nat.lt_irrefl _)]
    · rw [if_neg e]
      by_cases hlt : j < k
      · rw [if_pos hlt, if_pos (by omega), if_pos hlt, if_pos hlt]
      · rw [if_neg hlt, if_neg (by omega)]
  · by_cases e : i < k
    · rw [if_pos e]; exact h.cap i e
    · obtain rfl : i = k := by omega
      rw [if_neg e]; exact ⟨c1, c2⟩
  · rw [hss]
    refine OwnI.setCell ?_ (by omega) _
    by_cases e : i < k
    · rw [if_pos e]; exact ((h.own i e).keep fun b _ h2 => hb.block b h2).more (Nat.le_refl _) hs
    · obtain rfl : i = k := by omega
      rw [if_neg e]; exact ho.more (by omega) (Nat.le_refl _)
  · by_cases ei : i < k
    · by_cases ej : j < k
      · rw [if_pos ei, if_pos ej]; exact h.apart i j ei ej hne p q
      · obtain rfl : j = k := by omega
        rw [if_pos ei, if_neg ej]
        obtain ⟨b1, _, _, e1, _, k1, _⟩ := h.own i ei p
        obtain ⟨b2, _, _, e2, k2, _, _⟩ := ho q
        rw [e1, e2]; intro e; injection e with e; injection e with e; omega
    · obtain rfl : i = k := by omega
      have ej : j < i := by omega
      rw [if_neg ei, if_pos ej]
      obtain ⟨b1, _, _, e1, _, k1, _⟩ := h.own j ej q
      obtain ⟨b2, _, _, e2, k2, _, _⟩ := ho p
      rw [e1, e2]; intro e; injection e with e; injection e with e; omega

theorem Copying.done {w wr : World} {g : List (List Int)} {A : Nat → Option Addr} {C : Nat → Nat} (h : Copying w wr g A C g.length) : OwnR wr w.heap.size wr.heap.size (some ⟨w.heap.size, 0, none⟩) g :=
  fun _ => ⟨w.heap.size, g.length, _, A, C, rfl, Nat.le_refl _, h.size, Nat.le_refl _, h.top, fun i hi => by rw [if_pos hi], ⟨h.cap, fun i hi => (h.own i hi).more (by omega) (Nat.le_refl _), h.apart⟩⟩

/-- a table of the call's own, its capacity that of a slice -/
def NewTableC (w : World) (g : List (List Int)) (e : Ending) (w' : World) : Prop :=
  ∃ (T : Option Addr) (c : Nat), e = .returned (.slice T g.length c) ∧ g.length ≤ c ∧ c ≤ maxLen ∧ Below w.heap.size w w' ∧ OwnR w' w.heap.size w'.heap.size T g

def TabResC (w : World) (g : List (List Int)) (b : Bool) (e : Ending) (w' : World) : Prop :=
  ∃ (T : Option Addr) (c : Nat), e = .returned (.tuple #[.slice T g.length c, .bool b]) ∧ g.length ≤ c ∧ c ≤ maxLen ∧ Below w.heap.size w w' ∧ OwnR w' w.heap.size w'.heap.size T g

theorem NewTableC.plain {w w' : World} {g : List (List Int)} {e : Ending} (h : NewTableC w g e w') : NewTable w g e w' := by
  obtain ⟨T, c, he, _, _, hb, ho⟩ := h; exact ⟨T, c, he, hb, ho⟩

theorem TabResC.plain {w w' : World} {g : List (List Int)} {b : Bool} {e : Ending} (h : TabResC w g b e w') : TabRes w g b e w' := by
  obtain ⟨T, c, he, _, _, hb, ho⟩ := h; exact ⟨T, c, he, hb, ho⟩

theorem TabResC.none {w w' : World} {b : Bool} {x : Value} (hx : x = .tuple #[.slice none 0 0, .bool b]) (hb : Below w.heap.size w w') : TabResC w [] b (.returned x) w' :=
  ⟨Option.none, 0, by rw [hx]; rfl, Nat.le_refl _, Nat.zero_le _, hb, fun h => absurd h (by simp)⟩

end Go.Proofs.Ytanfefgigepdcaa

namespace Go.Proofs.Ytanfefgigepdcaa
set_option linter.unusedSimpArgs false
set_option linter.unusedVariables false
open Go.RowKit



end Go.Proofs.Ytanfefgigepdcaa
