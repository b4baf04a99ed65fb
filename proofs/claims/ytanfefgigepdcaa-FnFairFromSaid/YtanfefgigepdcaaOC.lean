/- Texts in one: Poke, DrawHa, DrawHb, DrawHc. -/
import Derived.Test.YtanfefgigepdcaaMH
import Derived.Test.YtanfefgigepdcaaMC
import Derived.Test.YtanfefgigepdcaaMT
namespace Go.Proofs.Ytanfefgigepdcaa
set_option linter.unusedSimpArgs false
set_option linter.unusedVariables false
open Go.RowKit

/-- a table with another number at row r, place k -/
def pokeRC (g : List (List Int)) (r k : Nat) (x : Int) : List (List Int) := g.set r ((rowAt g r).set k x)

theorem pokeRC_length (g : List (List Int)) (r k : Nat) (x : Int) : (pokeRC g r k x).length = g.length := by simp [pokeRC]

theorem rowAt_pokeRC (g : List (List Int)) (r k : Nat) (x : Int) (i : Nat) (h : i < g.length) : rowAt (pokeRC g r k x) i = if i = r then (rowAt g r).set k x else rowAt g i := by
  unfold pokeRC
  by_cases e : i = r
  · subst e; rw [if_pos rfl, rowAt_eq _ _ (by simpa using h)]; simp
  · rw [if_neg e, rowAt_eq _ _ (by simpa using h), rowAt_eq _ _ h]; simp [List.getElem_set, Ne.symm e]

theorem nth_setR (l : List Int) (k : Nat) (x : Int) (i : Nat) (h : i < l.length) : nth (l.set k x) i = if i = k then x else nth l i := by
  by_cases e : i = k
  · subst e; rw [if_pos rfl, nth_eq _ _ (by simpa using h)]; simp
  · rw [if_neg e, nth_eq _ _ (by simpa using h), nth_eq _ _ h]; simp [List.getElem_set, Ne.symm e]

theorem pokeRC_row_length (g : List (List Int)) (r k : Nat) (x : Int) (i : Nat) (h : i < g.length) : (rowAt (pokeRC g r k x) i).length = (rowAt g i).length := by
  rw [rowAt_pokeRC g r k x i h]
  split
  · rename_i e; subst e; simp
  · rfl

theorem OwnR.pokeRC {w : World} {lo hi : Nat} {b0 r k : Nat} {T : Option Addr} {g : List (List Int)} {c : Nat} (h : OwnR w lo hi T g) (h0 : r < g.length) (hr : k < (rowAt g r).length) (x : Int)
    (hT : ∀ b, T = some ⟨b, 0, none⟩ → w.cell? ⟨b, r, none⟩ = some (.slice (some ⟨b0, 0, none⟩) (rowAt g r).length c)) : OwnR (w.setCell ⟨b0, k, none⟩ (.int .i64 x)) lo hi T (pokeRC g r k x) := by
  obtain ⟨b, N, f, A, C, rfl, h1, h2, h3, h4, h5, h6⟩ := h (by omega)
  have hA0 : A r = some ⟨b0, 0, none⟩ := by
    have e1 := hT b rfl
    rw [h4.cell (by omega), h5 r h0] at e1
    injection e1 with e1; injection e1
  obtain ⟨b0', N0, f0, e0, k1, k2, k3, k4, k5⟩ := h6.own r h0 (by omega)
  rw [hA0] at e0; injection e0 with e0; injection e0 with e0; subst e0
  intro _
  refine ⟨b, N, f, A, C, rfl, h1, h2, by rw [pokeRC_length]; exact h3, h4.setOther (Ne.symm (rowIs_ne' k3 h4)) _, fun i hi => ?_, ⟨fun i hi => ?_, fun i hi => ?_, fun i j hi hj hne p q => ?_⟩⟩
  · rw [pokeRC_length] at hi; rw [pokeRC_row_length g r k x i hi]; exact h5 i hi
  · rw [pokeRC_length] at hi; rw [pokeRC_row_length g r k x i hi]; exact h6.cap i hi
  · rw [pokeRC_length] at hi
    by_cases e : i = r
    · subst e
      intro _
      refine ⟨b0, N0, _, hA0, k1, k2, k3.set k _, by rw [pokeRC_row_length g i k x i hi]; exact k4, fun j hj => ?_⟩
      rw [pokeRC_row_length g i k x i hi] at hj
      rw [rowAt_pokeRC g i k x i hi, if_pos rfl, nth_setR _ _ _ _ hj]
      by_cases ej : j = k
      · rw [if_pos ej, if_pos ej]
      · rw [if_neg ej, if_neg ej]; exact k5 j hj
    · rw [rowAt_pokeRC g r k x i hi, if_neg e]
      intro hp
      obtain ⟨bi, Ni, fi, ei, m1, m2, m3, m4, m5⟩ := h6.own i hi hp
      refine ⟨bi, Ni, fi, ei, m1, m2, m3.setOther (fun e' => ?_) _, m4, m5⟩
      exact h6.apart i r hi h0 e hp (by omega) (by rw [ei, hA0, show bi = b0 from e'])
  · rw [pokeRC_length] at hi hj
    rw [pokeRC_row_length g r k x i hi] at p
    rw [pokeRC_row_length g r k x j hj] at q
    exact h6.apart i j hi hj hne p q

/-- a row of a table of the call's own: where it lies -/
theorem OwnR.oneRow {w : World} {lo hi bt r : Nat} {g : List (List Int)} (h : OwnR w lo hi (some ⟨bt, 0, none⟩) g) (h0 : r < g.length) (r0 : 0 < (rowAt g r).length) :
    ∃ (b0 c0 N : Nat) (f : Nat → Value), w.cell? ⟨bt, r, none⟩ = some (.slice (some ⟨b0, 0, none⟩) (rowAt g r).length c0) ∧ (rowAt g r).length ≤ c0 ∧ c0 ≤ maxLen ∧ lo ≤ b0 ∧ b0 < hi ∧ bt ≠ b0 ∧ lo ≤ bt ∧ bt < hi ∧ w.rowIs b0 3 N f ∧ (rowAt g r).length ≤ N ∧ ∀ j, j < (rowAt g r).length → w.cell? ⟨b0, j, none⟩ = some (.int .i64 (nth (rowAt g r) j)) := by
  obtain ⟨bt', M, F, A, C, e, h1, h2, h3, h4, h5, h6⟩ := h (by omega)
  injection e with e; injection e with e; subst e
  obtain ⟨b0, N, f, e0, k1, k2, k3, k4, k5⟩ := h6.own r h0 r0
  exact ⟨b0, C r, N, f, by rw [h4.cell (by omega), h5 r h0, e0], (h6.cap r h0).1, (h6.cap r h0).2, k1, k2, Ne.symm (rowIs_ne' k3 h4), h1, h2, k3, k4, fun j hj => by rw [k3.cell (by omega), k5 j hj]⟩

end Go.Proofs.Ytanfefgigepdcaa

namespace Go.Proofs.Ytanfefgigepdcaa
set_option linter.unusedSimpArgs false
set_option linter.unusedVariables false
open Go.RowKit

/-- two drawn small numbers -/
def DrawnSF (w : World) (e : Ending) (w' : World) : Prop :=
  ∃ c d : Int, e = .returned (.tuple #[.int .i64 c, .int .i64 d]) ∧ (0 ≤ c ∧ c ≤ 5 ∧ 0 ≤ d ∧ d ≤ 4) ∧ Below w.heap.size w w'

set_option maxHeartbeats 1000000 in
theorem dDrawPlacingsOf (a : Option Addr) (len cap : Nat) (zs : List Int) (w : World) (h : IsRow .u8 w a len cap zs) :
    Calls Try.prog 21 #[.slice a len cap] w (DrawnSF w) := by
  go_enter Try.func21, Try.ntmps21
  go_wp2_with fail
  refine (l20Open a len cap zs w h).mono ?_
  rintro e w1 ⟨rfl, hb1, a1, len1, cap1, zs1, R1⟩
  go_wp2_with fail
  refine (pick w.heap.size w1 a1 len1 cap1 zs1 0 6 R1 (by omega) (by omega) (by omega)).mono ?_
  intro e w2 hP2
  obtain ⟨x, rfl, x0, x1, k2, R2⟩ := hP2
  have HK2 := Lib.hid k2
  clear k2 R1
  go_wp2_with fail
  refine (pick w.heap.size w2 a1 len1 cap1 zs1 (0 + 1) 5 R2 (by omega) (by omega) (by omega)).mono ?_
  intro e w3 hP3
  obtain ⟨y, rfl, y0, y1, k3, R3⟩ := hP3
  have HB := Lib.hid (hb1.trans ((HK2.out.trans k3).below (Nat.le_refl _) hb1.size))
  clear k3 R2 R3
  go_wp2_with fail
  exact bodyPost_ret (v := .tuple #[.int .i64 x, .int .i64 y]) (by simp [results, Try.results21, go_sem]) rfl ⟨x, y, rfl, ⟨x0, by omega, y0, by omega⟩, HB.out⟩

set_option maxHeartbeats 1000000 in
theorem dDrawSoldierGame (a : Option Addr) (len cap : Nat) (zs : List Int) (w : World) (h : IsRow .u8 w a len cap zs) :
    Calls Try.prog 25 #[.slice a len cap] w (DrawnSF w) := by
  go_enter Try.func25, Try.ntmps25
  go_wp2_with fail
  refine (dDrawPlacingsOf a len cap zs w h).mono ?_
  rintro e w1 ⟨x, y, rfl, hxy, hb⟩
  go_wp2_with fail
  exact bodyPost_ret (v := .tuple #[.int .i64 x, .int .i64 y]) (by simp [results, Try.results25, go_sem]) rfl ⟨x, y, rfl, hxy, hb⟩

theorem tab6 {w1 : World} {k : Nat} {x v : Int} (h : ∀ o, o < 6 → w1.cell? ⟨k, o, none⟩ = some (.int .i64 ([1, 3, 5, 7, 15, x].getD o 0))) (x0 : 0 ≤ x) (x1 : x < 18) (hv0 : 0 ≤ v) (hv1 : v < 6) :
    ∃ y : Int, 0 ≤ y ∧ y ≤ 17 ∧ w1.cell? ⟨k, v.toNat, none⟩ = some (.int .i64 y) := by
  have : v = 0 ∨ v = 1 ∨ v = 2 ∨ v = 3 ∨ v = 4 ∨ v = 5 := by omega
  rcases this with rfl | rfl | rfl | rfl | rfl | rfl
  · exact ⟨1, by omega, by omega, h 0 (by omega)⟩
  · exact ⟨3, by omega, by omega, h 1 (by omega)⟩
  · exact ⟨5, by omega, by omega, h 2 (by omega)⟩
  · exact ⟨7, by omega, by omega, h 3 (by omega)⟩
  · exact ⟨15, by omega, by omega, h 4 (by omega)⟩
  · exact ⟨x, x0, by omega, h 5 (by omega)⟩

/-- a drawn number -/
def DrawnN1 (w : World) (e : Ending) (w' : World) : Prop :=
  ∃ c : Int, e = .returned (.int .i64 c) ∧ (0 ≤ c ∧ c ≤ 17) ∧ Below w.heap.size w w'

set_option maxHeartbeats 1000000 in
theorem dDrawBeatingGame (a : Option Addr) (len cap : Nat) (zs : List Int) (w : World) (h : IsRow .u8 w a len cap zs) :
    Calls Try.prog 30 #[.slice a len cap] w (DrawnN1 w) := by
  go_enter Try.func30, Try.ntmps30
  go_wp2_with fail
  refine (l20Open a len cap zs w h).mono ?_
  rintro e w1 ⟨rfl, hb1, a1, len1, cap1, zs1, R1⟩
  go_wp2_with fail
  refine (pick w.heap.size w1 a1 len1 cap1 zs1 0 18 R1 (by omega) (by omega) (by omega)).mono ?_
  intro e w2 hP2
  obtain ⟨x, rfl, x0, x1, k2, R2⟩ := hP2
  have HK2 := Lib.hid k2
  clear k2 R1
  go_wp2_with fail
  have hn2 := R2.lt
  have R2' := R2.of_below ((Below.refl w2.heap.size w2).alloc (Nat.le_refl _) (.cells #[.int .i64 1, .int .i64 3, .int .i64 5, .int .i64 7, .int .i64 15, .int .i64 x] 3))
  refine (pick w.heap.size _ a1 len1 cap1 zs1 (0 + 1) 6 R2' (by omega) (by omega) (by omega)).mono ?_
  intro e w3 hP3
  obtain ⟨v, rfl, v0, v1, k3, R3⟩ := hP3
  have HB := Lib.hid (hb1.trans (((HK2.out.alloc (.cells #[.int .i64 1, .int .i64 3, .int .i64 5, .int .i64 7, .int .i64 15, .int .i64 x] 3)).trans k3).below (Nat.le_refl _) hb1.size))
  obtain ⟨y, y0, y1, hyc⟩ := tab6 (w1 := w3) (k := w2.heap.size) (x := x) (v := v) (fun o ho => (k3.cell (p := w2.heap.size) (o := o) (by simp) (by omega)).trans (by
    have : o = 0 ∨ o = 1 ∨ o = 2 ∨ o = 3 ∨ o = 4 ∨ o = 5 := by omega
    rcases this with rfl | rfl | rfl | rfl | rfl | rfl <;> simp [go_sem])) x0 x1 v0 v1
  have hs3 := k3.size
  have hsz : w2.heap.size < w3.heap.size := by simp at hs3; omega
  clear k3 R2 R2' R3 hs3 hn2
  go_wp2_with fail
  go_ret
  exact ⟨y, rfl, ⟨y0, y1⟩, HB.out⟩

end Go.Proofs.Ytanfefgigepdcaa

namespace Go.Proofs.Ytanfefgigepdcaa
set_option linter.unusedSimpArgs false
set_option linter.unusedVariables false
open Go.RowKit

theorem Kept.bel {n : Nat} {w w1 w2 : World} (hb : Below n w w1) (hk : Kept n w1 w2) (hn : n ≤ w1.heap.size) : Below n w w2 := hb.trans (hk.below (Nat.le_refl _) hn)

/-- a drawn table whose numbers are written over -/
structure Spoilt (n : Nat) (w wr : World) (lo hi : Nat) (T : Option Addr) (g : List (List Int)) : Prop where
  kept : Kept n w wr
  ex : ∃ t : List (List Int), t.length = g.length ∧ (∀ i, i < g.length → (rowAt t i).length = (rowAt g i).length) ∧ OwnR wr lo hi T t ∧ hi ≤ wr.heap.size

theorem OwnR.top_ {w : World} {lo hi : Nat} {T : Option Addr} {g : List (List Int)} (h : OwnR w lo hi T g) (h0 : 0 < g.length) : ∃ bt : Nat, T = some ⟨bt, 0, none⟩ ∧ lo ≤ bt ∧ bt < hi := by
  obtain ⟨bt, N, f, A, C, rfl, h1, h2, _⟩ := h h0
  exact ⟨bt, rfl, h1, h2⟩

set_option maxHeartbeats 4000000 in
set_option maxRecDepth 100000 in
theorem dDrawFairFrom (a : Option Addr) (len cap : Nat) (zs : List Int) (w : World) (h : IsRow .u8 w a len cap zs) :
    Calls Try.prog 35 #[.slice a len cap] w (DrawnT w) := by
  go_enter Try.func35, Try.ntmps35
  go_wp2_with fail
  refine (l20Open a len cap zs w h).mono ?_
  rintro e w1 ⟨rfl, hb1, a1, len1, cap1, zs1, R1⟩
  go_wp2_with fail
  refine (l20Game w.heap.size w1 a1 len1 cap1 zs1 0 4 9 R1 (by omega) (by omega) (by omega) (by omega) (by omega)).mono ?_
  rintro e w2 ⟨g, T, c, p', rfl, g1, g2, g3, g4, hK, hR, hp1, hp2, ho⟩
  have hs2 := hK.size
  have hw1 := R1.lt
  have hb1s := hb1.size
  have HG2 := Lib.hid g2
  have HG4 := Lib.hid g4
  have hl : g.length ≤ maxLen := by unfold maxLen; omega
  have HO := Lib.hid ho
  have HK := Lib.hid hK
  have HR := Lib.hid hR
  have HB1 := Lib.hid hb1
  clear g2 g4 ho hK hR hb1 R1 h
  go_wp2_with fail
  go_loopw [5] (fun i wr => i = .int .i64 (0 : Nat) ∧ Hid (wr = w2)) (fun _ _ => 0)
  case atStart => exact ⟨rfl, rfl⟩
  case round =>
    obtain ⟨rfl, hwr⟩ := hrel
    have hwr' : wr = w2 := hwr
    subst hwr'
    clear hwr
    by_cases h0 : 0 < g.length
    · have h0i : (0 : Int) < (g.length : Int) := by omega
      go_wp2_with fail
      refine (pick w.heap.size wr a1 len1 cap1 zs1 p' 2 HR.out (by omega) (by omega) (by omega)).mono ?_
      intro e w3 hP
      obtain ⟨x, rfl, x0, x1, k3, R3⟩ := hP
      have hx : x = 0 ∨ x = 1 := by omega
      have HK3 := Lib.hid (HK.out.trans k3)
      have HO3 : Hid (OwnR w3 w1.heap.size wr.heap.size T g) := HO.out.kept k3 (by omega) (Nat.le_refl _)
      have hs3 := k3.size
      clear k3 R3 x0 x1
      rcases hx with rfl | rfl
      · go_wp2_with fail
        refine (game_spec T c g _ hl _ (HO3.out.rows2)).mono ?_
        rintro e w4 ⟨rfl, d, rfl⟩
        rcases hb : gameB g with _ | _
        · go_wp2_with fail
          go_ret
          exact ⟨g, T, c, rfl, g1, HG2.out, g3, HG4.out, Kept.bel HB1.out (HK3.out.drewN d) hb1s, (show OwnR (w3.drewN d) w1.heap.size wr.heap.size T g from HO3.out.keep fun _ _ _ => rfl).more hb1s (by simpa using hs3)⟩
        · have hg := Game.of hb
          have HG := Lib.hid hg
          clear hb hg
          obtain ⟨bt, rfl, hbt1, hbt2⟩ := HO3.out.top_ h0
          have hgm := HG.out.mlo
          have hgm2 := HG.out.mhi
          have hlo : w.heap.size < w1.heap.size := hw1
          obtain ⟨hi, hhi⟩ : ∃ hi, hi = wr.heap.size := ⟨_, rfl⟩
          have S0 : Hid (Spoilt w.heap.size w1 (w3.drewN d) w1.heap.size hi (some ⟨bt, 0, none⟩) g) :=
            ⟨HK3.out.drewN d, g, rfl, fun _ _ => rfl, by rw [hhi]; exact HO3.out.keep fun _ _ _ => rfl, by rw [hhi]; exact hs3⟩
          have hhiw : hi ≤ wr.heap.size := by omega
          rw [← hhi] at hbt2
          clear HO HO3 HK HK3 HR hhi
          go_wp2_with fail
          go_loopw [6] (fun i wq => ∃ k : Nat, k ≤ g.length ∧ i = .int .i64 k ∧ Hid (Spoilt w.heap.size w1 wq w1.heap.size hi (some ⟨bt, 0, none⟩) g)) (fun i _ => g.length - (intOf i).toNat)
          case atStart => exact ⟨0, Nat.zero_le _, rfl, S0⟩
          case round =>
            obtain ⟨k, hk, rfl, HS⟩ := hrel
            by_cases hlt : k < g.length
            · go_wp2_with fail
              go_loopw [7] (fun i wq => ∃ j : Nat, j ≤ (rowAt g 0).length ∧ i = .int .i64 j ∧ Hid (Spoilt w.heap.size w1 wq w1.heap.size hi (some ⟨bt, 0, none⟩) g)) (fun i _ => (rowAt g 0).length - (intOf i).toNat)
              case atStart => exact ⟨0, Nat.zero_le _, rfl, HS.out⟩
              case round =>
                clear HS
                obtain ⟨j, hj, rfl, HS⟩ := hrel
                obtain ⟨hKs, t, htl, htr, hOt, hhi2⟩ := HS.out
                have htr0 := htr 0 h0
                have htrk := htr k hlt
                have hgk := HG.out.len k hlt
                obtain ⟨b0, c0, N0, f0, m1, m2, m3, _, _, _, _, _, _, _, _⟩ := hOt.oneRow (r := 0) (by omega) (by omega)
                obtain ⟨bk, ck, Nk, fk, k1, k2, k3, k4, k5, k6, k7, k8, k9, k10, k11⟩ := hOt.oneRow (r := k) (by omega) (by omega)
                rw [htr0] at m1 m2
                rw [htrk, hgk] at k1 k2 k10 k11
                unfold maxLen at m3 k3
                have HT := Lib.hid (And.intro htl htr)
                have HKS := Lib.hid hKs
                have HOT := Lib.hid hOt
                have hTl : Hid (0 < t.length) := by show _ < _; omega
                have hbtw : bt < wr.heap.size := by omega
                have hbkw : bk < wr.heap.size := by omega
                by_cases hlj : j < (rowAt g 0).length
                · have hv := k11 j hlj
                  have hfz := k9.frozen j
                  obtain ⟨y, hy⟩ : ∃ y, nth (rowAt t k) j = y := ⟨_, rfl⟩
                  rw [hy] at hv
                  obtain ⟨z1, hz1⟩ : ∃ z1, IntKind.i64.wrap (-y) = z1 := ⟨_, rfl⟩
                  have HSN : Hid (∀ V : Int, Spoilt w.heap.size w1 (wr.setCell ⟨bk, j, none⟩ (.int .i64 V)).drew w1.heap.size hi (some ⟨bt, 0, none⟩) g) := fun V => by
                    refine ⟨(HKS.out.setNew (q := ⟨bk, j, none⟩) k4 _).drewN 1, pokeRC t k j V, by rw [pokeRC_length]; exact htl, fun i hi => ?_, ?_, by show hi ≤ (wr.setCell _ _).heap.size; simpa [World.setCell] using hhi2⟩
                    · rw [pokeRC_row_length t k j V i (by omega)]; exact htr i hi
                    · refine (hOt.pokeRC (r := k) (k := j) (c := ck) (by omega) (by omega) V (fun b e => ?_) : OwnR (wr.setCell ⟨bk, j, none⟩ (.int .i64 V)) _ _ _ _).keep fun _ _ _ => rfl
                      injection e with e; injection e with e; subst e
                      rw [htrk, hgk]; exact k1
                  clear HS hKs htl htr hOt k9 k11 hy htr0 htrk hgk
                  have hkt : (k : Int) < (g.length : Int) := by omega
                  have hjt : (j : Int) < ((rowAt g 0).length : Int) := by omega
                  go_wp2_with fail
                  go_region
                  go_wp2_with fail
                  go_roundw
                  case rel => exact ⟨j + 1, by omega, by go_num, HSN.out _⟩
                  case measure => simp [intOf]; omega
                · have hjl : j = (rowAt g 0).length := by omega
                  clear HS hKs htl htr hOt k9 k11 htr0 htrk
                  go_wp2_with fail
                  go_roundw
                  case rel => exact ⟨k + 1, by omega, by go_num, ⟨HKS.out, t, HT.out.1, HT.out.2, HOT.out, hhi2⟩⟩
                  case measure => simp [intOf]; omega
            · obtain ⟨hKs, t, htl, htr, hOt, hhi2⟩ := HS.out
              have HT := Lib.hid (And.intro htl htr)
              have HKS := Lib.hid hKs
              have HOT := Lib.hid hOt
              clear HS hKs htl htr hOt
              go_wp2_with fail
              go_ret
              exact ⟨t, some ⟨bt, 0, none⟩, c, by rw [HT.out.1]; rfl, by rw [HT.out.1]; exact g1, HG2.out, by rw [HT.out.1]; exact g3, fun i hi => by rw [HT.out.1] at hi; rw [HT.out.2 i hi]; exact HG4.out i hi, Kept.bel HB1.out HKS.out hb1s, HOT.out.more hb1s hhi2⟩
      · go_wp2_with fail
        go_ret
        exact ⟨g, T, c, rfl, g1, HG2.out, g3, HG4.out, Kept.bel HB1.out HK3.out hb1s, HO3.out.more hb1s hs3⟩
    · have h0i : ¬ (0 : Int) < (g.length : Int) := by omega
      go_wp2_with fail
      go_ret
      exact ⟨g, T, c, rfl, g1, HG2.out, g3, HG4.out, Kept.bel HB1.out HK.out hb1s, HO.out.more hb1s (Nat.le_refl _)⟩

end Go.Proofs.Ytanfefgigepdcaa

namespace Go.Proofs.Ytanfefgigepdcaa
set_option linter.unusedSimpArgs false
set_option linter.unusedVariables false
open Go.RowKit

/-- so many rows of so many noughts -/
def zerT (n k : Nat) : List (List Int) := List.replicate k (List.replicate n 0)

theorem zerT_length (n k : Nat) : (zerT n k).length = k := by simp [zerT]

theorem zerT_succ (n k : Nat) : zerT n (k + 1) = zerT n k ++ [List.replicate n 0] := by unfold zerT; rw [List.replicate_succ']

theorem rowAt_zerT {n k i : Nat} (h : i < k) : rowAt (zerT n k) i = List.replicate n 0 := by unfold zerT rowAt; simp [h]

/-- a drawn square table while it is written, and its reader -/
structure SquareT (n0 : Nat) (w wr : World) (a : Option Addr) (len cap : Nat) (zs : List Int) (p : Int) (lo hi bt m : Nat) : Prop where
  kept : Kept n0 w wr
  ex : ∃ (t : List (List Int)) (q : Int), t.length = m ∧ (∀ i, i < m → (rowAt t i).length = m) ∧ Reader n0 wr a len cap zs q ∧ 0 ≤ q ∧ q ≤ p ∧ OwnR wr lo hi (some ⟨bt, 0, none⟩) t ∧ hi ≤ wr.heap.size

theorem SquareT.more {n0 : Nat} {w wr : World} {a : Option Addr} {len cap : Nat} {zs : List Int} {p p' : Int} {lo hi bt m : Nat} (h : SquareT n0 w wr a len cap zs p lo hi bt m) (hp : p ≤ p') : SquareT n0 w wr a len cap zs p' lo hi bt m := by
  obtain ⟨hk, t, q, h1, h2, h3, h4, h5, h6⟩ := h
  exact ⟨hk, t, q, h1, h2, h3, h4, by omega, h6⟩

theorem SquareT.drawn {w w1 wr : World} {a : Option Addr} {len cap : Nat} {zs : List Int} {p : Int} {lo hi bt m c : Nat} (h : SquareT w.heap.size w1 wr a len cap zs p lo hi bt m) (hb : Below w.heap.size w w1) (hs : w.heap.size ≤ w1.heap.size) (hlo : w1.heap.size ≤ lo) (hc : c ≤ maxLen) (hm : m ≤ c) (h4 : m ≤ 4) :
    DrawnT w (.returned (.slice (some ⟨bt, 0, none⟩) m c)) wr := by
  obtain ⟨hK, t, q, h1, h2, h3, _, _, h6, h7⟩ := h
  exact ⟨t, _, c, by rw [h1], by omega, hc, by omega, fun i hi => by rw [h2 i (by omega)]; omega, Kept.bel hb hK hs, h6.more (by omega) h7⟩

/-- a number is written -/
theorem SquareT.poke {n0 : Nat} {w wr : World} {a : Option Addr} {len cap : Nat} {zs : List Int} {p : Int} {lo hi bt m : Nat} (h : SquareT n0 w wr a len cap zs p lo hi bt m) (hlo : w.heap.size ≤ lo) (hn0 : n0 < w.heap.size) {r k : Nat} (hr : r < m) (hk : k < m) :
    ∃ (b c : Nat), wr.cell? ⟨bt, r, none⟩ = some (.slice (some ⟨b, 0, none⟩) m c) ∧ m ≤ c ∧ c ≤ 9223372036854775807 ∧ bt < wr.heap.size ∧ b < wr.heap.size ∧ bt ≠ b ∧ wr.frozen? ⟨b, k, none⟩ = false ∧ (∃ y, wr.cell? ⟨b, k, none⟩ = some (.int .i64 y)) ∧ ∀ x : Int, SquareT n0 w (wr.setCell ⟨b, k, none⟩ (.int .i64 x)) a len cap zs p lo hi bt m := by
  obtain ⟨hK, t, q, h1, h2, h3, h4, h5, h6, h7⟩ := h
  have hrt := h2 r hr
  obtain ⟨b, c, N, f, k1, k2, k3, k4, k5, k6, k7, k8, k9, k10, k11⟩ := h6.oneRow (r := r) (by omega) (by omega)
  refine ⟨b, c, by rw [k1, hrt], by omega, by unfold maxLen at k3; omega, by omega, by omega, k6, k9.frozen k, ⟨_, k11 k (by omega)⟩, fun x => ⟨hK.setNew (q := ⟨b, k, none⟩) (by show w.heap.size ≤ b; omega) _, pokeRC t r k x, q, by rw [pokeRC_length]; exact h1, fun i hi => ?_, h3.setFar (q := ⟨b, k, none⟩) (show n0 < b by omega) _, h4, h5, ?_, by simpa [World.setCell] using h7⟩⟩
  · rw [pokeRC_row_length t r k x i (by omega)]; exact h2 i hi
  · exact h6.pokeRC (r := r) (k := k) (c := c) (by omega) (by omega) x (fun b' e => by injection e with e; injection e with e; subst e; exact k1)

set_option maxHeartbeats 4000000 in
set_option maxRecDepth 100000 in
theorem dDrawFairOk (a : Option Addr) (len cap : Nat) (zs : List Int) (w : World) (h : IsRow .u8 w a len cap zs) :
    Calls Try.prog 13 #[.slice a len cap] w (DrawnT w) := by
  go_enter Try.func13, Try.ntmps13
  go_wp2_with fail
  refine (l20Open a len cap zs w h).mono ?_
  rintro e w1 ⟨rfl, hb1, a1, len1, cap1, zs1, R1⟩
  have hw1 := R1.lt
  have hb1s := hb1.size
  have HB1 := Lib.hid hb1
  go_wp2_with fail
  refine (pick w.heap.size w1 a1 len1 cap1 zs1 0 2 R1 (by omega) (by omega) (by omega)).mono ?_
  intro e w2 hP2
  obtain ⟨x, rfl, x0, x1, k2, R2⟩ := hP2
  have hx : x = 0 ∨ x = 1 := by omega
  have HK2 := Lib.hid k2
  have HR2 := Lib.hid R2
  clear k2 R2 R1 hb1 h x0 x1
  rcases hx with rfl | rfl
  · go_wp2_with fail
    refine (l20Game w.heap.size w2 a1 len1 cap1 zs1 (0 + 1) 4 9 HR2.out (by omega) (by omega) (by omega) (by omega) (by omega)).mono ?_
    rintro e w3 ⟨g, T, c, p', rfl, g1, g2, g3, g4, hK, hR, hp1, hp2, ho⟩
    have hs2 := HK2.out.size
    have HD : Hid (DrawnT w (.returned (.slice T g.length c)) w3) := ⟨g, T, c, rfl, g1, g2, g3, g4, Kept.bel HB1.out (HK2.out.trans hK) hb1s, ho.more (by omega) (Nat.le_refl _)⟩
    clear hK hR ho g2 g4
    go_wp2_with fail
    go_ret
    exact HD.out
  go_wp2_with fail
  refine (pick w.heap.size w2 a1 len1 cap1 zs1 (0 + 1) 4 HR2.out (by omega) (by omega) (by omega)).mono ?_
  intro e w3 hP3
  obtain ⟨y, rfl, y0, y1, k3, R3⟩ := hP3
  have HK3 := Lib.hid (HK2.out.trans k3)
  have HR3 := Lib.hid R3
  obtain ⟨n, hn⟩ : ∃ n : Nat, 1 + y = (n : Int) := ⟨(1 + y).toNat, by omega⟩
  have hn1 : 1 ≤ n := by omega
  have hn4 : n ≤ 4 := by omega
  have hnw : IntKind.i64.wrap (n : Int) = (n : Int) := IntWalk.i64_in _ ⟨by omega, by omega⟩
  have hs3 : w1.heap.size ≤ w3.heap.size := HK3.out.size
  clear HK2 HR2 k3 R3
  have hmk := run_make_row' (P := Try.prog) 31 3 _ 8 Try.underlying31 infoI rfl .i64 .i64 n (by omega) (by omega)
  obtain ⟨i1, hi1, hy0, hy1, hy2⟩ := info_parts infoR
  have HI1 := Lib.hid hi1
  have HY0 := Lib.hid hy0
  have HY1 := Lib.hid hy1
  have HY2 := Lib.hid hy2
  obtain ⟨lo, hlo⟩ : ∃ lo, lo = w3.heap.size := ⟨_, rfl⟩
  have hlo1 : w1.heap.size ≤ lo := by omega
  have G0 : Hid (GrowsR (w3.alloc (.cells #[] 31)) lo (w3.heap.size + 1) (.slice (some ⟨w3.heap.size, 0, none⟩) 0 0) (fun _ => none) (fun _ => 0) []) := by rw [hlo]; exact GrowsR.lit w3 (Nat.le_refl _) _ _
  have HK0 := Lib.hid (HK3.out.alloc (.cells #[] 31))
  have HR0 := Lib.hid (HR3.out.of_below ((Below.refl w3.heap.size w3).alloc (Nat.le_refl _) (.cells #[] 31)))
  have hloS : lo ≤ (w3.alloc (.cells #[] 31)).heap.size := by simp; omega
  clear hi1 hy0 hy1 hy2 hlo
  go_wp2_with fail
  go_loopw [5, 6] (fun v i wr => ∃ k : Nat, k ≤ n ∧ i = .int .i64 k ∧ Hid (∃ (A : Nat → Option Addr) (C : Nat → Nat), GrowsR wr lo wr.heap.size v A C (zerT n k)) ∧ Hid (Kept w.heap.size w1 wr) ∧ Hid (Reader w.heap.size wr a1 len1 cap1 zs1 2) ∧ Hid (lo ≤ wr.heap.size)) (fun _ i _ => n - (intOf i).toNat)
  case atStart => exact ⟨0, Nat.zero_le _, rfl, ⟨_, _, G0.out.up (by simp) (Nat.le_refl _)⟩, HK0.out, HR0.out, hloS⟩
  case round =>
    obtain ⟨k, hk, rfl, HT, HKr, HRr, HLr⟩ := hrel
    obtain ⟨AA, CC, hgr⟩ := HT.out
    have HGR := Lib.hid hgr
    have hlr : lo ≤ wr.heap.size := HLr.out
    clear hgr HT
    by_cases hlt : k < n
    · have hbz : Below wr.heap.size wr (wr.alloc (.cells (madeCells #[.int .i64 0] n) 3)) := (Below.refl _ _).alloc (Nat.le_refl _) _
      have R0 := Lib.hid (RowNow.start wr n)
      have HGZ := Lib.hid (HGR.out.keep hbz)
      have HKZ := Lib.hid (HKr.out.alloc (.cells (madeCells #[.int .i64 0] n) 3))
      have HRZ := Lib.hid (HRr.out.of_below hbz)
      obtain ⟨wz, hwz⟩ : ∃ wz, wz = wr.alloc (.cells (madeCells #[.int .i64 0] n) 3) := ⟨_, rfl⟩
      have hzs : wz.heap.size = wr.heap.size + 1 := by rw [hwz]; simp
      have HWZ := Lib.hid hwz
      rw [← hwz] at R0 HGZ HKZ HRZ
      clear hbz hwz
      have hlk := zerT_length n k
      go_wp2_with (at_builtin; rw [← HWZ.out]; refine wpList_append_own_at _ rfl (.tmp 26) (.tmp 29) _ rfl lo 31 i1 (.slice none 0 0) 1 24 Try.underlying23 HI1.out HY0.out HY1.out HY2.out rfl (by decide) _ _ _ rfl (HGZ.out.top.alloc _) ⟨wr.heap.size + 1, 0, none⟩ 1 1 [.slice (some ⟨wr.heap.size, 0, none⟩) n n] rfl rfl ?c1 ?c2 ?c3 ?c4 ?c5 ?_)
      case c1 => rw [← hzs]; exact cell_one_new _ _ _
      case c2 => first | rfl | (intro u hu; simp at hu; subst hu; rfl)
      case c3 => rw [hlk]; unfold maxLen; omega
      case c4 => rw [hlk]; omega
      case c5 => simp; omega
      intro v' w5 hown hgrow _ hat
      have hrl : (List.replicate n (0 : Int)).length = n := by simp
      have HN : Hid (∃ (A : Nat → Option Addr) (C : Nat → Nat), GrowsR w5 lo w5.heap.size v' A C (zerT n (k + 1))) := by
        rw [zerT_succ]
        exact HGZ.out.snoc (l := List.replicate n 0) (An := some ⟨wr.heap.size, 0, none⟩) (cn := n) R0.out.own (by rw [hrl]; exact Nat.le_refl _) (by unfold maxLen; omega) hlr (by rw [hlk, hrl]; exact hown) hgrow (by rcases hat with e | e; exact .inl e; exact .inr (by rw [e]; first | (simp; done) | (simp; omega)))
      have HKN := Lib.hid (HKZ.out.appended hgrow (fun q hq => by have := (World.ownsRow.lt HGZ.out.top q hq).1; omega))
      have HRN := Lib.hid (HRZ.out.appended hgrow (fun q hq => by have := (World.ownsRow.lt HGZ.out.top q hq).1; omega))
      have HLN : Hid (lo ≤ w5.heap.size) := by have := hgrow.size; simp at this; show lo ≤ _; omega
      clear hown hgrow hat
      go_wp2_with fail
      go_roundw
      case rel => exact ⟨k + 1, by omega, by go_num, HN, HKN, HRN, HLN⟩
      case measure => simp [intOf]; omega
    · have hkn : k = n := by omega
      have hgr := HGR.out
      rw [hkn] at hgr
      obtain ⟨T1, c1, hv1, hcl1, hcl2, hot⟩ := hgr.table
      rw [zerT_length] at hv1 hcl1
      subst hv1
      obtain ⟨bt, hTb, hbt1, hbt2⟩ := hot.top_ (by rw [zerT_length]; omega)
      subst hTb
      obtain ⟨hi, hhi⟩ : ∃ hi, hi = wr.heap.size := ⟨_, rfl⟩
      have hot' : OwnR wr lo hi (some ⟨bt, 0, none⟩) (zerT n n) := by rw [hhi]; exact hot
      have HSQ : Hid (SquareT w.heap.size w1 wr a1 len1 cap1 zs1 2 lo hi bt n) := ⟨HKr.out, zerT n n, 2, zerT_length n n, fun i hi => by rw [rowAt_zerT hi]; simp, HRr.out, by omega, by omega, hot', by omega⟩
      have HC2 := Lib.hid hcl2
      have hlow : w1.heap.size ≤ lo := hlo1
      clear hgr hot hot' HGR hkn HKr HRr G0 HK0 HR0 hhi hcl2
      go_wp2_with fail
      go_loopw [7] (fun i wr => ∃ k : Nat, k ≤ n ∧ i = .int .i64 k ∧ Hid (SquareT w.heap.size w1 wr a1 len1 cap1 zs1 (2 + 4 * (k : Int)) lo hi bt n)) (fun i _ => n - (intOf i).toNat)
      case atStart => exact ⟨0, Nat.zero_le _, rfl, HSQ.out.more (by omega)⟩
      case round =>
        obtain ⟨k, hk, rfl, HS⟩ := hrel
        by_cases hlt : k < n
        · go_wp2_with fail
          go_loopw [8] (fun i wr => ∃ j : Nat, j ≤ k ∧ i = .int .i64 j ∧ Hid (SquareT w.heap.size w1 wr a1 len1 cap1 zs1 (2 + 4 * (k : Int) + (j : Int)) lo hi bt n)) (fun i _ => k - (intOf i).toNat)
          case atStart => exact ⟨0, Nat.zero_le _, rfl, HS.out.more (by omega)⟩
          case round =>
            clear HS
            obtain ⟨j, hj, rfl, HS⟩ := hrel
            by_cases hlj : j < k
            · obtain ⟨hKs, t, q, htl, htr, hRs, hq0, hq1, hOt, hhi2⟩ := HS.out
              have HKS := Lib.hid hKs
              have HTT := Lib.hid (And.intro htl htr)
              have HRS := Lib.hid hRs
              have HOT := Lib.hid hOt
              clear HS hKs htl htr hRs hOt
              go_wp2_with fail
              refine (pick w.heap.size wr a1 len1 cap1 zs1 q 9 HRS.out (by omega) (by omega) (by omega)).mono ?_
              intro e w6 hP6
              obtain ⟨u, rfl, u0, u1, k6, R6⟩ := hP6
              have hs6 := k6.size
              have HS6 : Hid (SquareT w.heap.size w1 w6 a1 len1 cap1 zs1 (2 + 4 * (k : Int) + (j : Int) + 1) lo hi bt n) := ⟨HKS.out.trans k6, t, q + 1, HTT.out.1, HTT.out.2, R6, by omega, by omega, HOT.out.kept k6 (by omega) hhi2, by omega⟩
              obtain ⟨x, hx⟩ : ∃ x, u - 4 = x := ⟨_, rfl⟩
              have hxw : IntKind.i64.wrap x = x := IntWalk.i64_in _ ⟨by omega, by omega⟩
              have hxn : IntKind.i64.wrap (-x) = -x := IntWalk.i64_in _ ⟨by omega, by omega⟩
              obtain ⟨b, c, m1, m2, m3, m4, m5, m6, m7, ⟨y7, m8⟩, m9⟩ := HS6.out.poke hlow hw1 (r := k) (k := j) hlt (by omega)
              obtain ⟨b', c', n1, n2, n3, n4, n5, n6, n7, ⟨y8, n8⟩, n9⟩ := (m9 x).poke hlow hw1 (r := j) (k := k) (by omega) hlt
              have HN2 : Hid (SquareT w.heap.size w1 _ a1 len1 cap1 zs1 (2 + 4 * (k : Int) + (j : Int) + 1) lo hi bt n) := n9 (-x)
              have i1 : (j : Int) < (n : Int) := by omega
              have i2 : (k : Int) < (n : Int) := by omega
              clear HKS HTT HRS HOT k6 R6 HS6 m9 n9 u0 u1
              go_wp2_with fail
              go_roundw
              case rel => exact ⟨j + 1, by omega, by go_num, HN2.out.more (by omega)⟩
              case measure => simp [intOf]; omega
            · have hjk : j = k := by omega
              have HN := Lib.hid (HS.out.more (p' := 2 + 4 * ((k + 1 : Nat) : Int)) (by omega))
              clear HS
              go_wp2_with fail
              go_roundw
              case rel => exact ⟨k + 1, by omega, by go_num, HN.out⟩
              case measure => simp [intOf]; omega
        · obtain ⟨hKs, t, q, htl, htr, hRs, hq0, hq1, hOt, hhi2⟩ := HS.out
          have HKS := Lib.hid hKs
          have HTT := Lib.hid (And.intro htl htr)
          have HRS := Lib.hid hRs
          have HOT := Lib.hid hOt
          clear HS hKs htl htr hRs hOt
          go_wp2_with fail
          refine (pick w.heap.size wr a1 len1 cap1 zs1 q 6 HRS.out (by omega) (by omega) (by omega)).mono ?_
          intro e w6 hP6
          obtain ⟨u, rfl, u0, u1, k6, R6⟩ := hP6
          have hs6 := k6.size
          have HS6 : Hid (SquareT w.heap.size w1 w6 a1 len1 cap1 zs1 100 lo hi bt n) := ⟨HKS.out.trans k6, t, q + 1, HTT.out.1, HTT.out.2, R6, by omega, by omega, HOT.out.kept k6 (by omega) hhi2, by omega⟩
          clear HKS HTT HRS HOT k6 R6
          by_cases hu : u = 0
          · have he : (u == 0) = true := by rw [beq_iff_eq]; exact hu
            obtain ⟨b, c, m1, m2, m3, m4, m5, m6, m7, ⟨y7, m8⟩, m9⟩ := HS6.out.poke hlow hw1 (r := 0) (k := 0) (by omega) (by omega)
            have HN2 := Lib.hid (m9 1)
            have i1 : (0 : Int) < (n : Int) := by omega
            clear HS6 m9 hu u0 u1
            go_wp2_with fail
            go_ret
            exact HN2.out.drawn HB1.out hb1s hlow HC2.out hcl1 hn4
          · have he : (u == 0) = false := by rw [beq_eq_false_iff_ne]; exact hu
            clear hu u0 u1
            go_wp2_with fail
            go_ret
            exact HS6.out.drawn HB1.out hb1s hlow HC2.out hcl1 hn4

end Go.Proofs.Ytanfefgigepdcaa
