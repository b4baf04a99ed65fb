/- Texts in one: DrawV, DrawU. -/
import Derived.Test.YtpiokclhalkmlaaMH
import Derived.Test.YtpiokclhalkmlaaMC
namespace Go.Proofs.Ytpiokclhalkmlaa
set_option linter.unusedSimpArgs false
set_option linter.unusedVariables false
open Go.RowKit

/-- a table with another number in its first row -/
def pokeAt (g : List (List Int)) (k : Nat) (x : Int) : List (List Int) := g.set 0 ((rowAt g 0).set k x)

theorem rowAt_out {g : List (List Int)} {i : Nat} (h : g.length ≤ i) : rowAt g i = [] := by unfold rowAt; rw [List.getD_eq_getElem?_getD, List.getElem?_eq_none h]; rfl

theorem pokeAt_length (g : List (List Int)) (k : Nat) (x : Int) : (pokeAt g k x).length = g.length := by simp [pokeAt]

theorem rowAt_pokeAt (g : List (List Int)) (k : Nat) (x : Int) (i : Nat) (h : i < g.length) : rowAt (pokeAt g k x) i = if i = 0 then (rowAt g 0).set k x else rowAt g i := by
  unfold pokeAt
  by_cases e : i = 0
  · subst e; rw [if_pos rfl, rowAt_eq _ _ (by simpa using h)]; simp
  · rw [if_neg e, rowAt_eq _ _ (by simpa using h), rowAt_eq _ _ h]; simp [List.getElem_set, Ne.symm e]

theorem nth_setK (l : List Int) (k : Nat) (x : Int) (i : Nat) (h : i < l.length) : nth (l.set k x) i = if i = k then x else nth l i := by
  by_cases e : i = k
  · subst e; rw [if_pos rfl, nth_eq _ _ (by simpa using h)]; simp
  · rw [if_neg e, nth_eq _ _ (by simpa using h), nth_eq _ _ h]; simp [List.getElem_set, Ne.symm e]

theorem pokeAt_row_length (g : List (List Int)) (k : Nat) (x : Int) (i : Nat) (h : i < g.length) : (rowAt (pokeAt g k x) i).length = (rowAt g i).length := by
  rw [rowAt_pokeAt g k x i h]
  split
  · rename_i e; subst e; simp
  · rfl

theorem OwnR.pokeAt {w : World} {lo hi : Nat} {b0 k : Nat} {T : Option Addr} {g : List (List Int)} {c : Nat} (h : OwnR w lo hi T g) (h0 : 0 < g.length) (hr : k < (rowAt g 0).length) (x : Int)
    (hT : ∀ b, T = some ⟨b, 0, none⟩ → w.cell? ⟨b, 0, none⟩ = some (.slice (some ⟨b0, 0, none⟩) (rowAt g 0).length c)) : OwnR (w.setCell ⟨b0, k, none⟩ (.int .i64 x)) lo hi T (pokeAt g k x) := by
  obtain ⟨b, N, f, A, C, rfl, h1, h2, h3, h4, h5, h6⟩ := h h0
  have hA0 : A 0 = some ⟨b0, 0, none⟩ := by
    have e1 := hT b rfl
    rw [h4.cell (by omega), h5 0 h0] at e1
    injection e1 with e1; injection e1
  obtain ⟨b0', N0, f0, e0, k1, k2, k3, k4, k5⟩ := h6.own 0 h0 (by omega)
  rw [hA0] at e0; injection e0 with e0; injection e0 with e0; subst e0
  intro _
  refine ⟨b, N, f, A, C, rfl, h1, h2, by rw [pokeAt_length]; exact h3, h4.setOther (Ne.symm (rowIs_ne' k3 h4)) _, fun i hi => ?_, ⟨fun i hi => ?_, fun i hi => ?_, fun i j hi hj hne p q => ?_⟩⟩
  · rw [pokeAt_length] at hi; rw [pokeAt_row_length g k x i hi]; exact h5 i hi
  · rw [pokeAt_length] at hi; rw [pokeAt_row_length g k x i hi]; exact h6.cap i hi
  · rw [pokeAt_length] at hi
    by_cases e : i = 0
    · subst e
      intro _
      refine ⟨b0, N0, _, hA0, k1, k2, k3.set k _, by rw [pokeAt_row_length g k x 0 hi]; exact k4, fun j hj => ?_⟩
      rw [pokeAt_row_length g k x 0 hi] at hj
      rw [rowAt_pokeAt g k x 0 hi, if_pos rfl, nth_setK _ _ _ _ hj]
      by_cases ej : j = k
      · rw [if_pos ej, if_pos ej]
      · rw [if_neg ej, if_neg ej]; exact k5 j hj
    · rw [rowAt_pokeAt g k x i hi, if_neg e]
      intro hp
      obtain ⟨bi, Ni, fi, ei, m1, m2, m3, m4, m5⟩ := h6.own i hi hp
      refine ⟨bi, Ni, fi, ei, m1, m2, m3.setOther (fun e' => ?_) _, m4, m5⟩
      exact h6.apart i 0 hi h0 e hp (by omega) (by rw [ei, hA0, show bi = b0 from e'])
  · rw [pokeAt_length] at hi hj
    rw [pokeAt_row_length g k x i hi] at p
    rw [pokeAt_row_length g k x j hj] at q
    exact h6.apart i j hi hj hne p q

theorem OwnR.base_ {w : World} {lo hi : Nat} {T : Option Addr} {g : List (List Int)} (h : OwnR w lo hi T g) (h0 : 0 < g.length) : ∃ bt : Nat, T = some ⟨bt, 0, none⟩ ∧ lo ≤ bt ∧ bt < hi := by
  obtain ⟨bt, N, f, A, C, rfl, h1, h2, _⟩ := h h0
  exact ⟨bt, rfl, h1, h2⟩

/-- the first two rows of a table of the call's own: where they lie -/
theorem OwnR.two {w : World} {lo hi bt : Nat} {g : List (List Int)} (h : OwnR w lo hi (some ⟨bt, 0, none⟩) g) (h0 : 1 < g.length) (r0 : 0 < (rowAt g 0).length) (r1 : 0 < (rowAt g 1).length) :
    ∃ (b0 c0 N : Nat) (f : Nat → Value) (b1 c1 : Nat), w.cell? ⟨bt, 0, none⟩ = some (.slice (some ⟨b0, 0, none⟩) (rowAt g 0).length c0) ∧ w.cell? ⟨bt, 1, none⟩ = some (.slice (some ⟨b1, 0, none⟩) (rowAt g 1).length c1) ∧
      (rowAt g 0).length ≤ c0 ∧ c0 ≤ maxLen ∧ (rowAt g 1).length ≤ c1 ∧ c1 ≤ maxLen ∧ lo ≤ b0 ∧ b0 < hi ∧ lo ≤ b1 ∧ b1 < hi ∧ bt ≠ b0 ∧ b1 ≠ b0 ∧ w.rowIs b0 3 N f ∧ (rowAt g 0).length ≤ N ∧
      ∀ j, j < (rowAt g 1).length → w.cell? ⟨b1, j, none⟩ = some (.int .i64 (nth (rowAt g 1) j)) := by
  obtain ⟨bt', M, F, A, C, e, h1, h2, h3, h4, h5, h6⟩ := h (by omega)
  injection e with e; injection e with e; subst e
  obtain ⟨b0, N, f, e0, k1, k2, k3, k4, k5⟩ := h6.own 0 (by omega) r0
  obtain ⟨b1, N1, f1, e1, m1, m2, m3, m4, m5⟩ := h6.own 1 h0 r1
  refine ⟨b0, C 0, N, f, b1, C 1, by rw [h4.cell (by omega), h5 0 (by omega), e0], by rw [h4.cell (by omega), h5 1 h0, e1], (h6.cap 0 (by omega)).1, (h6.cap 0 (by omega)).2, (h6.cap 1 h0).1, (h6.cap 1 h0).2, k1, k2, m1, m2, Ne.symm (rowIs_ne' k3 h4), fun e => ?_, k3, k4, fun j hj => by rw [m3.cell (by omega), m5 j hj]⟩
  exact h6.apart 1 0 h0 (by omega) (by omega) r1 r0 (by rw [e1, e0, e])

/-- all blocks but the reader's and one more are as they were; that one is a row of numbers -/
structure PokeS (n : Nat) (W : World) (b N : Nat) (w' : World) : Prop where
  size : W.heap.size ≤ w'.heap.size
  block : ∀ c, c < W.heap.size → c ≠ n → c ≠ b → w'.heap[c]? = W.heap[c]?
  row : ∃ f, w'.rowIs b 3 N f

theorem PokeS.drew {n b N : Nat} {W w' : World} (h : PokeS n W b N w') : PokeS n W b N w'.drew := ⟨h.size, h.block, h.row⟩

theorem PokeS.call {n b N : Nat} {W w1 w2 : World} (hk : Kept n w1 w2) (hb : b < W.heap.size) (hn : b ≠ n) (h : PokeS n W b N w1) : PokeS n W b N w2 := by
  obtain ⟨f, hf⟩ := h.row
  have hs := h.size
  exact ⟨Nat.le_trans h.size hk.size, fun c hc h1 h2 => (hk.block c (by omega) h1).trans (h.block c hc h1 h2), f, hf.of_block (hk.block b (by omega) hn)⟩

theorem PokeS.store {n b N o : Nat} {W w1 : World} (v : Value) (h : PokeS n W b N w1) : PokeS n W b N (w1.setCell ⟨b, o, none⟩ v) := by
  obtain ⟨f, hf⟩ := h.row
  exact ⟨by simpa [World.setCell] using h.size, fun c hc h1 h2 => (Deep.blk_setCell_other _ _ _ _ (by simpa using h2)).trans (h.block c hc h1 h2), _, hf.set o v⟩

theorem PokeS.cell {n b N o : Nat} {W w' : World} (h : PokeS n W b N w') (ho : o < N) : w'.cell? ⟨b, o, none⟩ = some (held w' b o) := by
  obtain ⟨f, hf⟩ := h.row
  unfold held; rw [hf.cell ho]; rfl

theorem PokeS.frozen {n b N : Nat} {W w' : World} (h : PokeS n W b N w') (o : Nat) : w'.frozen? ⟨b, o, none⟩ = false := by
  obtain ⟨f, hf⟩ := h.row
  exact hf.frozen o

theorem staysP {n b N p o : Nat} {W : World} {a : Value} (hp : p < W.heap.size) (hn : p ≠ n) (hb : p ≠ b) (h : W.cell? ⟨p, o, none⟩ = some a) : ∀ w1, PokeS n W b N w1 → w1.cell? ⟨p, o, none⟩ = some a :=
  fun _ k => (World.cell?_of_block (w := W) (k.block p hp hn hb)).trans h

/-- while the first row is made worse -/
def Worsen (n : Nat) (w wr : World) (a : Option Addr) (len cap : Nat) (zs : List Int) (p : Int) (lo hi : Nat) (T : Option Addr) (g : List (List Int)) (k : Nat) : Prop :=
  ∃ (t : List (List Int)) (p' : Int), t.length = g.length ∧ (∀ i, i < g.length → (rowAt t i).length = (rowAt g i).length) ∧ (∀ i, 0 < i → rowAt t i = rowAt g i) ∧ Kept n w wr ∧ Reader n wr a len cap zs p' ∧ p ≤ p' ∧ p' ≤ p + (k : Int) ∧ OwnR wr lo hi T t ∧ hi ≤ wr.heap.size

/-- what a drawn table is, some places more of the reader -/
def DrawnW (n : Nat) (w : World) (a : Option Addr) (len cap : Nat) (zs : List Int) (p : Int) (e : Ending) (w' : World) : Prop :=
  ∃ (g : List (List Int)) (T : Option Addr) (c : Nat) (p' : Int), e = .returned (.slice T g.length c) ∧ g.length ≤ c ∧ c ≤ maxLen ∧ g.length ≤ 17 ∧ (∀ i, i < g.length → (rowAt g i).length ≤ 16) ∧
    Kept n w w' ∧ Reader n w' a len cap zs p' ∧ p ≤ p' ∧ p' ≤ p + 800 ∧ OwnR w' w.heap.size w'.heap.size T g

set_option maxHeartbeats 4000000 in
set_option maxRecDepth 100000 in
theorem l20Worse (n : Nat) (w : World) (a : Option Addr) (len cap : Nat) (zs : List Int) (p m : Int) (h : Reader n w a len cap zs p) (hp : p < 18000) (hm : 1 ≤ m) (hm' : m ≤ 30000) :
    Calls Try.prog 41 #[.pointer (some ⟨n, 0, none⟩), .int .i64 m] w (DrawnW n w a len cap zs p) := by
  have hnw := h.lt
  go_enter Try.func41, Try.ntmps41
  go_wp2_with fail
  refine (l20Fair n w a len cap zs p m h (by omega) hm hm').mono ?_
  rintro e w1 ⟨g, T, c, p', rfl, g1, g2, g3, g4, hK, hR, hp1, hp2, ho⟩
  have hs1 := hK.size
  have HG2 := Lib.hid g2
  have HG4 := Lib.hid g4
  have hl : g.length ≤ maxLen := by unfold maxLen; omega
  have HRD : Hid (Rows2 w1 (· < w1.heap.size) T g) := ho.rows2.mono fun b hb => hb.2
  have HO := Lib.hid ho
  clear h hm hm' g2 g4 ho
  go_wp2_with fail
  refine (game_spec T c g _ hl _ HRD.out).mono ?_
  rintro e w2 ⟨rfl, d, rfl⟩
  have HK1 := Lib.hid (hK.drewN d)
  have HR1 : Hid (Reader n (w1.drewN d) a len cap zs p') := hR.of_below (below_drewN (Below.refl _ _) d)
  have HO1 : Hid (OwnR (w1.drewN d) w.heap.size (w1.drewN d).heap.size T g) := HO.out.keep fun _ _ _ => rfl
  have hs2 : (w1.drewN d).heap.size = w1.heap.size := rfl
  obtain ⟨W, hW⟩ : ∃ W, W = w1.drewN d := ⟨_, rfl⟩
  rw [← hW] at HK1 HR1 HO1 hs2 ⊢
  clear hW HRD HO hK hR
  rcases hb : gameB g with _ | _
  · clear hb
    go_wp2_with fail
    go_ret
    exact ⟨g, T, c, p', rfl, g1, HG2.out, g3, HG4.out, HK1.out, HR1.out, by omega, by omega, HO1.out⟩
  have HG := Lib.hid (Game.of hb)
  clear hb
  by_cases h2 : 1 < g.length
  case neg =>
    have e2 : decide ((1 : Int) < (g.length : Int)) = false := by simp; omega
    go_wp2_with fail
    go_ret
    exact ⟨g, T, c, p', rfl, g1, HG2.out, g3, HG4.out, HK1.out, HR1.out, by omega, by omega, HO1.out⟩
  have HRW := HR1.out
  have hnW := HRW.lt
  go_wp2_with fail
  refine (pick n W a len cap zs p' 2 HRW (by omega) (by omega) (by omega)).mono ?_
  intro e w3 hP3
  obtain ⟨x, rfl, x0, x1, k3, R3⟩ := hP3
  have hs3 := k3.size
  have HK3 := Lib.hid (HK1.out.trans k3)
  have HR3 := Lib.hid R3
  have HO3 : Hid (OwnR w3 w.heap.size W.heap.size T g) := HO1.out.kept k3 hnw (Nat.le_refl _)
  clear HRW HR1 HK1 HO1 k3 R3
  have hx : x = 0 ∨ x = 1 := by omega
  rcases hx with rfl | rfl
  case inr =>
    clear x0 x1
    go_wp2_with fail
    go_ret
    exact ⟨g, T, c, p' + 1, rfl, g1, HG2.out, g3, HG4.out, HK3.out, HR3.out, by omega, by omega, HO3.out.more (Nat.le_refl _) hs3⟩
  clear x0 x1
  obtain ⟨bt, rfl, hbt1, hbt2⟩ := HO3.out.base_ (by omega)
  have hm16 := HG.out.mhi
  have hm1 := HG.out.mlo
  go_wp2_with fail
  go_loopw [6] (fun i wr => ∃ k : Nat, k ≤ (rowAt g 0).length ∧ i = .int .i64 k ∧ Hid (Worsen n w wr a len cap zs (p' + 1) w.heap.size W.heap.size (some ⟨bt, 0, none⟩) g k)) (fun i _ => (rowAt g 0).length - (intOf i).toNat)
  case atStart => exact ⟨0, Nat.zero_le _, rfl, g, p' + 1, rfl, fun _ _ => rfl, fun _ _ => rfl, HK3.out, HR3.out, by omega, by omega, HO3.out, hs3⟩
  case round =>
    obtain ⟨k, hk, rfl, HW⟩ := hrel
    obtain ⟨t, q, tl, tr, ts, hKt, hRt, hq1, hq2, hOt, hhi⟩ := HW.out
    have tl0 := tr 0 (by omega)
    have tl1 : (rowAt t 1).length = (rowAt g 0).length := by rw [tr 1 h2]; exact HG.out.len 1 h2
    obtain ⟨b0, c0, N0, f0, b1, c1, k01, k11, k02, k03, k12, k13, k04, k05, k14, k15, d1, d2, hrow0, hN0, k16⟩ := hOt.two (by omega) (by omega) (by omega)
    rw [tl0] at k01 k02 hN0
    rw [tl1] at k11 k12
    have HTL := Lib.hid tl
    have HTR := Lib.hid tr
    have HTS := Lib.hid ts
    have HKT := Lib.hid hKt
    have HRT := Lib.hid hRt
    have HOT := Lib.hid hOt
    unfold maxLen at k03 k13
    by_cases hlt : k < (rowAt g 0).length
    · have j1 := k16 k (by rw [tl1]; exact hlt)
      have hn1 := HG.out.nlo 1 h2 k hlt
      have hn2 := HG.out.nhi 1 h2 k hlt
      rw [ts 1 (by omega)] at j1
      have K01 := Lib.hid k01
      have hbtw : bt < wr.heap.size := by omega
      have hb0w : b0 < wr.heap.size := by omega
      have hb1w : b1 < wr.heap.size := by omega
      have hnb : bt ≠ n := by omega
      have hnb0 : b0 ≠ n := by omega
      have hnb1 : b1 ≠ n := by omega
      have hkN : k < N0 := by omega
      have P0 : PokeS n wr b0 N0 wr := ⟨Nat.le_refl _, fun _ _ _ _ => rfl, f0, hrow0⟩
      clear HW hKt hRt hOt tl tr ts k16 hrow0 hN0 tl0 tl1
      go_wp2_with fail
      have E1 := staysP (n := n) (N := N0) hbtw hnb d1 k01
      have E2 := staysP (n := n) (N := N0) hbtw hnb d1 k11
      have E3 := staysP (n := n) (N := N0) hb1w hnb1 d2 j1
      have E4 : ∀ w1, PokeS n wr b0 N0 w1 → w1.cell? ⟨b0, k, none⟩ = some (held w1 b0 k) := fun _ h => h.cell hkN
      have E5 : ∀ w1, PokeS n wr b0 N0 w1 → w1.frozen? ⟨b0, k, none⟩ = false := fun _ h => h.frozen k
      have RA : Reader n wr.drew a len cap zs q := HRT.out.of_blocks (fun _ _ => rfl) (Nat.le_refl _)
      have RB := HRT.out
      have q1 : (0 : Int) < (g.length : Int) := by omega
      have q2 : (1 : Int) < (g.length : Int) := by omega
      have q5 : 0 < g.length := by omega
      have q3 : (0 : Int) ≤ (k : Int) := by omega
      have q4 : (k : Int) < ((rowAt g 0).length : Int) := by omega
      clear k01 k11 j1
      go_region_held3 (fun w' => PokeS n wr b0 N0 w')
        (first | assumption | exact PokeS.drew (by assumption) | exact PokeS.call (by assumption) hb0w hnb0 (by assumption) | exact PokeS.store _ (by assumption))
        ((go_at_call 42; refine (pick n _ a len cap zs q 2 (by first | exact RA | exact RB) (by omega) (by omega) (by omega)).mono ?_; intro e w6 hP; obtain ⟨v6, rfl, v60, v61, k6, R6⟩ := hP; obtain ⟨y, hw6⟩ : ∃ y, IntKind.i64.wrap (nth (rowAt g 1) k - v6) = y := ⟨_, rfl⟩; obtain ⟨z, hz⟩ : ∃ z, (if -9 < y then y else -9) = z := ⟨_, rfl⟩))
      all_goals
        have k6' : Kept n wr w6 := by first | exact ((Kept.refl n wr).drew).trans k6 | exact k6
        have hs6 := k6'.size
        have HS : Hid (Worsen n w (w6.setCell ⟨b0, k, none⟩ (.int .i64 z)) a len cap zs (p' + 1) w.heap.size W.heap.size (some ⟨bt, 0, none⟩) g (k + 1)) := by
          refine ⟨pokeAt t k z, q + 1, by rw [pokeAt_length]; exact HTL.out, fun i hi => ?_, fun i hi => ?_, (HKT.out.trans k6').setNew (q := ⟨b0, k, none⟩) k04 _, R6.setFar (q := ⟨b0, k, none⟩) (show n < b0 by omega) _, by omega, by omega, ?_, by simp [World.setCell]; omega⟩
          · have := HTL.out
            rw [pokeAt_row_length t k z i (by omega)]; exact HTR.out i hi
          · by_cases hi2 : i < t.length
            · rw [rowAt_pokeAt t k z i hi2, if_neg (by omega)]; exact HTS.out i hi
            · have e1 : rowAt (pokeAt t k z) i = [] := rowAt_out (by rw [pokeAt_length]; omega)
              have e2 : rowAt g i = [] := rowAt_out (by have := HTL.out; omega)
              rw [e1, e2]
          · have hrr := HTR.out 0 (by omega)
            exact (HOT.out.kept k6' hnw hhi).pokeAt (by have := HTL.out; omega) (by rw [hrr]; exact hlt) z (fun b e => by injection e with e; injection e with e; subst e; rw [hrr]; exact (k6'.cell hbtw hnb).trans K01.out)
        clear hz hw6 E1 E2 E3 E4 E5 RA
        go_wp2_with fail
        go_roundw
      all_goals first | (simp [intOf]; omega) | exact ⟨k + 1, by omega, by go_num, HS⟩
    · obtain rfl : k = (rowAt g 0).length := by omega
      clear HW hKt hRt hOt tl tr ts k16 hrow0 hN0 tl0 tl1
      go_wp2_with fail
      go_ret
      exact ⟨t, some ⟨bt, 0, none⟩, c, q, by rw [HTL.out]; rfl, by rw [HTL.out]; exact g1, HG2.out, by rw [HTL.out]; exact g3, fun i hi => by rw [HTL.out] at hi; rw [HTR.out i hi]; exact HG4.out i hi, HKT.out, HRT.out, by omega, by omega, HOT.out.more (Nat.le_refl _) hhi⟩

end Go.Proofs.Ytpiokclhalkmlaa

namespace Go.Proofs.Ytpiokclhalkmlaa
set_option linter.unusedSimpArgs false
set_option linter.unusedVariables false
open Go.RowKit

/-- a drawn table and two numbers; of its capacity nothing is said -/
def DrawnXV (w : World) (e : Ending) (w' : World) : Prop :=
  ∃ (g : List (List Int)) (T : Option Addr) (c : Nat) (r q : Int), e = .returned (.tuple #[.slice T g.length c, .int .i64 r, .int .i64 q]) ∧ g.length ≤ 17 ∧ (∀ i, i < g.length → (rowAt g i).length ≤ 16) ∧ Below w.heap.size w w' ∧ OwnR w' w.heap.size w'.heap.size T g

set_option maxHeartbeats 400000 in
theorem dDrawSmallerOf (a : Option Addr) (len cap : Nat) (zs : List Int) (w : World) (h : IsRow .u8 w a len cap zs) :
    Calls Try.prog 32 #[.slice a len cap] w (DrawnT w) := by
  go_enter Try.func32, Try.ntmps32
  go_wp2_with fail
  refine (l20Open a len cap zs w h).mono ?_
  rintro e w1 ⟨rfl, hb1, a1, len1, cap1, zs1, R1⟩
  go_wp2_with fail
  refine (l20Worse w.heap.size w1 a1 len1 cap1 zs1 0 9 R1 (by omega) (by omega) (by omega)).mono ?_
  rintro e w2 ⟨g, T, c, p', rfl, g1, g2, g3, g4, hK, hR, hp1, hp2, ho⟩
  have HO := Lib.hid (ho.more hb1.size (Nat.le_refl _))
  have HG2 := Lib.hid g2
  have HG4 := Lib.hid g4
  have HB := Lib.hid (hb1.trans (hK.below (Nat.le_refl _) hb1.size))
  clear ho g2 g4 hK hR R1 hb1
  go_wp2_with fail
  go_ret
  exact ⟨g, T, c, rfl, g1, HG2.out, g3, HG4.out, HB.out, HO.out⟩

set_option maxHeartbeats 1000000 in
theorem dDrawWithoutRow (a : Option Addr) (len cap : Nat) (zs : List Int) (w : World) (h : IsRow .u8 w a len cap zs) :
    Calls Try.prog 22 #[.slice a len cap] w (DrawnTI w) := by
  go_enter Try.func22, Try.ntmps22
  go_wp2_with fail
  refine (l20Open a len cap zs w h).mono ?_
  rintro e w1 ⟨rfl, hb1, a1, len1, cap1, zs1, R1⟩
  go_wp2_with fail
  refine (l20Worse w.heap.size w1 a1 len1 cap1 zs1 0 14 R1 (by omega) (by omega) (by omega)).mono ?_
  rintro e w2 ⟨g, T, c, p', rfl, g1, g2, g3, g4, hK, hR, hp1, hp2, ho⟩
  have HO := Lib.hid ho
  have HG2 := Lib.hid g2
  have HG4 := Lib.hid g4
  have HK := Lib.hid hK
  have hn1 := R1.lt
  clear ho g2 g4 hK R1
  go_wp2_with fail
  refine (pick w.heap.size w2 a1 len1 cap1 zs1 p' 5 hR (by omega) (by omega) (by omega)).mono ?_
  intro e w3 hP3
  obtain ⟨x, rfl, x0, x1, k3, R3⟩ := hP3
  have HK3 := Lib.hid k3
  clear k3 hR
  go_wp2_with fail
  refine (pick w.heap.size w3 a1 len1 cap1 zs1 (p' + 1) 20 R3 (by omega) (by omega) (by omega)).mono ?_
  intro e w4 hP4
  obtain ⟨y, rfl, y0, y1, k4, R4⟩ := hP4
  have HK4 := Lib.hid k4
  have hy : y.tdiv 19 = 0 ∨ y.tdiv 19 = 1 := by rw [Int.tdiv_eq_ediv_of_nonneg y0]; omega
  obtain ⟨s, hs⟩ : ∃ s, y.tdiv 19 = s := ⟨_, rfl⟩
  rw [hs] at hy
  have w1' : IntKind.i64.wrap s = s := IntWalk.i64_in _ (by omega)
  have w2' : IntKind.i64.wrap (x - s) = x - s := IntWalk.i64_in _ (by omega)
  have HY := Lib.hid hy
  have hKK := (HK.out.trans HK3.out).trans HK4.out
  have HB := Lib.hid (hb1.trans (hKK.below (Nat.le_refl _) hb1.size))
  have HOF : Hid (OwnR w4 w1.heap.size w2.heap.size T g) := HO.out.kept (HK3.out.trans HK4.out) hn1 (Nat.le_refl _)
  have hs24 := (HK3.out.trans HK4.out).size
  clear R3 R4 k4 hy hKK
  go_wp2_with fail
  go_ret2
  have hy := HY.out
  exact ⟨g, T, c, x - s, rfl, g1, HG2.out, g3, HG4.out, by omega, by omega, HB.out, HOF.out.more hb1.size hs24⟩

set_option maxHeartbeats 400000 in
theorem dDrawWithoutColumn (a : Option Addr) (len cap : Nat) (zs : List Int) (w : World) (h : IsRow .u8 w a len cap zs) :
    Calls Try.prog 29 #[.slice a len cap] w (DrawnTI w) := by
  go_enter Try.func29, Try.ntmps29
  go_wp2_with fail
  refine (dDrawWithoutRow a len cap zs w h).mono ?_
  intro e w1 hD
  have HD := Lib.hid hD
  obtain ⟨g, T, c, b, rfl, _⟩ := hD
  go_wp2_with fail
  go_ret2
  exact HD.out

set_option maxHeartbeats 1000000 in
theorem dDrawWorseRow (a : Option Addr) (len cap : Nat) (zs : List Int) (w : World) (h : IsRow .u8 w a len cap zs) :
    Calls Try.prog 13 #[.slice a len cap] w (DrawnXV w) := by
  go_enter Try.func13, Try.ntmps13
  go_wp2_with fail
  refine (l20Open a len cap zs w h).mono ?_
  rintro e w1 ⟨rfl, hb1, a1, len1, cap1, zs1, R1⟩
  go_wp2_with fail
  refine (l20Worse w.heap.size w1 a1 len1 cap1 zs1 0 14 R1 (by omega) (by omega) (by omega)).mono ?_
  rintro e w2 ⟨g, T, c, p', rfl, g1, g2, g3, g4, hK, hR, hp1, hp2, ho⟩
  have HO := Lib.hid ho
  have HG4 := Lib.hid g4
  have HK := Lib.hid hK
  have hn1 := R1.lt
  clear ho g2 g4 hK R1
  go_wp2_with fail
  refine (pick w.heap.size w2 a1 len1 cap1 zs1 p' 3 hR (by omega) (by omega) (by omega)).mono ?_
  intro e w3 hP3
  obtain ⟨x, rfl, x0, x1, k3, R3⟩ := hP3
  have HK3 := Lib.hid k3
  clear k3 hR
  go_wp2_with fail
  refine (pick w.heap.size w3 a1 len1 cap1 zs1 (p' + 1) 20 R3 (by omega) (by omega) (by omega)).mono ?_
  intro e w4 hP4
  obtain ⟨y, rfl, y0, y1, k4, R4⟩ := hP4
  have HK4 := Lib.hid k4
  have hy : y.tdiv 19 = 0 ∨ y.tdiv 19 = 1 := by rw [Int.tdiv_eq_ediv_of_nonneg y0]; omega
  obtain ⟨s, hs⟩ : ∃ s, y.tdiv 19 = s := ⟨_, rfl⟩
  rw [hs] at hy
  have w1' : IntKind.i64.wrap s = s := IntWalk.i64_in _ (by omega)
  have w2' : IntKind.i64.wrap (x - s) = x - s := IntWalk.i64_in _ (by omega)
  clear k4 R3 hy
  go_wp2_with fail
  refine (pick w.heap.size w4 a1 len1 cap1 zs1 (p' + 1 + 1) 3 R4 (by omega) (by omega) (by omega)).mono ?_
  intro e w5 hP5
  obtain ⟨v, rfl, v0, v1, k5, R5⟩ := hP5
  have HKK : Hid (Kept w.heap.size w2 w5) := (HK3.out.trans HK4.out).trans k5
  have HB := Lib.hid (hb1.trans (((HK.out.trans HKK.out)).below (Nat.le_refl _) hb1.size))
  have HOF : Hid (OwnR w5 w1.heap.size w2.heap.size T g) := HO.out.kept HKK.out hn1 (Nat.le_refl _)
  have hs25 := HKK.out.size
  clear k5 R4 R5 v0 v1
  go_wp2_with fail
  go_ret3
  exact ⟨g, T, c, _, _, rfl, g3, HG4.out, HB.out, HOF.out.more hb1.size hs25⟩

set_option maxHeartbeats 1000000 in
theorem dDrawWorseColumn (a : Option Addr) (len cap : Nat) (zs : List Int) (w : World) (h : IsRow .u8 w a len cap zs) :
    Calls Try.prog 18 #[.slice a len cap] w (DrawnXV w) := by
  go_enter Try.func18, Try.ntmps18
  go_wp2_with fail
  refine (l20Open a len cap zs w h).mono ?_
  rintro e w1 ⟨rfl, hb1, a1, len1, cap1, zs1, R1⟩
  go_wp2_with fail
  refine (l20Worse w.heap.size w1 a1 len1 cap1 zs1 0 14 R1 (by omega) (by omega) (by omega)).mono ?_
  rintro e w2 ⟨g, T, c, p', rfl, g1, g2, g3, g4, hK, hR, hp1, hp2, ho⟩
  have HO := Lib.hid ho
  have HG4 := Lib.hid g4
  have HK := Lib.hid hK
  have hn1 := R1.lt
  have hgl : g.length ≤ maxLen := by unfold maxLen; omega
  clear ho g2 g4 hK R1
  go_wp2_with fail
  refine (pick w.heap.size w2 a1 len1 cap1 zs1 p' 2 hR (by omega) (by omega) (by omega)).mono ?_
  intro e w3 hP3
  obtain ⟨z, rfl, z0, z1, k3, R3⟩ := hP3
  have HB3 : Hid (Below w.heap.size w w3) := hb1.trans ((HK.out.trans k3).below (Nat.le_refl _) hb1.size)
  have HO3 : Hid (OwnR w3 w1.heap.size w2.heap.size T g) := HO.out.kept k3 hn1 (Nat.le_refl _)
  have hs23 := k3.size
  have hs12 := HK.out.size
  clear k3 hR HO HK
  -- the rest, from whatever table lies there
  have hz : z = 0 ∨ z = 1 := by omega
  rcases hz with rfl | rfl
  · clear z0 z1
    have HR3 : Hid (Rows2 w3 (· < w3.heap.size) T g) := HO3.out.rows2.mono fun b hb => by have := hb.2; omega
    go_wp2_with fail
    refine (turned_spec T c g hgl w3 HR3.out).mono ?_
    rintro e w4 ⟨T2, c2, rfl, hb4, ho4⟩
    have HB4 : Hid (Below w.heap.size w w4) := belT HB3.out hb4
    have R4 := R3.of_below hb4
    have HO4 := Lib.hid ho4
    have htl := turned_len g
    have HTL := Lib.hid htl
    have hn3 := R3.lt
    have hn4 := R4.lt
    have hb1s := hb1.size
    have hs34 := hb4.size
    clear hb4 ho4 htl
    go_wp2_with fail
    refine (pick w.heap.size w4 a1 len1 cap1 zs1 (p' + 1) 3 R4 (by omega) (by omega) (by omega)).mono ?_
    intro e w5 hP5
    obtain ⟨x, rfl, x0, x1, k5, R5⟩ := hP5
    have HK5 := Lib.hid k5
    clear k5
    go_wp2_with fail
    refine (pick w.heap.size w5 a1 len1 cap1 zs1 (p' + 1 + 1) 3 R5 (by omega) (by omega) (by omega)).mono ?_
    intro e w6 hP6
    obtain ⟨v, rfl, v0, v1, k6, R6⟩ := hP6
    have HK6 := Lib.hid k6
    clear k6
    go_wp2_with fail
    refine (pick w.heap.size w6 a1 len1 cap1 zs1 (p' + 1 + 1 + 1) 20 R6 (by omega) (by omega) (by omega)).mono ?_
    intro e w7 hP7
    obtain ⟨y, rfl, y0, y1, k7, R7⟩ := hP7
    have hy : y.tdiv 19 = 0 ∨ y.tdiv 19 = 1 := by rw [Int.tdiv_eq_ediv_of_nonneg y0]; omega
    obtain ⟨s, hs⟩ : ∃ s, y.tdiv 19 = s := ⟨_, rfl⟩
    rw [hs] at hy
    have w1' : IntKind.i64.wrap s = s := IntWalk.i64_in _ (by omega)
    have w2' : IntKind.i64.wrap (v - s) = v - s := IntWalk.i64_in _ (by omega)
    have HKK : Hid (Kept w.heap.size w4 w7) := (HK5.out.trans HK6.out).trans k7
    have HB := Lib.hid (HB4.out.trans (HKK.out.below (Nat.le_refl _) (by omega)))
    have HOF : Hid (OwnR w7 w3.heap.size w4.heap.size T2 (turned g)) := HO4.out.kept HKK.out (by omega) (Nat.le_refl _)
    have hs47 := HKK.out.size
    clear k7 R5 R6 R7 hy
    go_wp2_with fail
    go_ret3
    exact ⟨turned g, T2, c2, _, _, rfl, by have := HTL.out.1; omega, HTL.out.2, HB.out, HOF.out.more (by omega) hs47⟩
  · clear z0 z1
    go_wp2_with fail
    refine (pick w.heap.size w3 a1 len1 cap1 zs1 (p' + 1) 3 R3 (by omega) (by omega) (by omega)).mono ?_
    intro e w5 hP5
    obtain ⟨x, rfl, x0, x1, k5, R5⟩ := hP5
    have HK5 := Lib.hid k5
    clear k5
    go_wp2_with fail
    refine (pick w.heap.size w5 a1 len1 cap1 zs1 (p' + 1 + 1) 3 R5 (by omega) (by omega) (by omega)).mono ?_
    intro e w6 hP6
    obtain ⟨v, rfl, v0, v1, k6, R6⟩ := hP6
    have HK6 := Lib.hid k6
    clear k6
    go_wp2_with fail
    refine (pick w.heap.size w6 a1 len1 cap1 zs1 (p' + 1 + 1 + 1) 20 R6 (by omega) (by omega) (by omega)).mono ?_
    intro e w7 hP7
    obtain ⟨y, rfl, y0, y1, k7, R7⟩ := hP7
    have hy : y.tdiv 19 = 0 ∨ y.tdiv 19 = 1 := by rw [Int.tdiv_eq_ediv_of_nonneg y0]; omega
    obtain ⟨s, hs⟩ : ∃ s, y.tdiv 19 = s := ⟨_, rfl⟩
    rw [hs] at hy
    have w1' : IntKind.i64.wrap s = s := IntWalk.i64_in _ (by omega)
    have w2' : IntKind.i64.wrap (v - s) = v - s := IntWalk.i64_in _ (by omega)
    have hb1s := hb1.size
    have HKK : Hid (Kept w.heap.size w3 w7) := (HK5.out.trans HK6.out).trans k7
    have HB := Lib.hid (HB3.out.trans (HKK.out.below (Nat.le_refl _) (by omega)))
    have HOF : Hid (OwnR w7 w1.heap.size w2.heap.size T g) := HO3.out.kept HKK.out hn1 hs23
    have hs37 := HKK.out.size
    clear k7 R5 R6 R7 hy
    go_wp2_with fail
    go_ret3
    exact ⟨g, T, c, _, _, rfl, g3, HG4.out, HB.out, HOF.out.more hb1s (by omega)⟩

end Go.Proofs.Ytpiokclhalkmlaa
