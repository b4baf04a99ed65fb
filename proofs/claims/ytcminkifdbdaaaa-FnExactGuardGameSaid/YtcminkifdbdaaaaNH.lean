/- Texts in one: TownY, TownP, TownQ. -/
import Derived.Test.YtcminkifdbdaaaaND
namespace Go.Proofs.Ytcminkifdbdaaaa
set_option linter.unusedSimpArgs false
set_option linter.unusedVariables false
open Go.RowKit

/-- the places of the first k of a list are marked -/
def goN (N : Nat) (L : List Nat) (k : Nat) : List Nat := (List.range N).map fun j => if (L.take k).contains j = true then 1 else 0

theorem goN_length (N : Nat) (L : List Nat) (k : Nat) : (goN N L k).length = N := by simp [goN]

theorem goN_at (N : Nat) (L : List Nat) (k : Nat) {j : Nat} (h : j < N) : (goN N L k).getD j 0 = if (L.take k).contains j = true then 1 else 0 := by
  unfold goN; simp [h]

theorem goN_set {N : Nat} {L : List Nat} {k : Nat} (h : k < L.length) : goN N L (k + 1) = (goN N L k).set (L.getD k 0) 1 := by
  refine List.ext_getElem (by simp [goN]) fun j h1 h2 => ?_
  rw [goN_length] at h1
  have e1 : (goN N L (k + 1))[j]'(by rw [goN_length]; exact h1) = (goN N L (k + 1)).getD j 0 := by simp [goN_length, h1]
  have e2 : ((goN N L k).set (L.getD k 0) 1)[j]'(by rw [List.length_set, goN_length]; exact h1) = ((goN N L k).set (L.getD k 0) 1).getD j 0 := by simp [goN_length, h1]
  rw [e1, e2, getD_setT _ _ _ _ (by rw [goN_length]; exact h1), goN_at _ _ _ h1, goN_at _ _ _ h1]
  have e : L.take (k + 1) = L.take k ++ [L.getD k 0] := by
    rw [List.take_add_one, List.getElem?_eq_getElem h]; simp [h]
  rw [e]
  by_cases hj : j = L.getD k 0
  · rw [if_pos hj, if_pos]; simp [hj]
  · rw [if_neg hj]
    congr 1
    simp only [List.contains_eq_mem, List.mem_append, List.mem_singleton, decide_eq_true_eq, eq_iff_iff]
    exact ⟨fun h => h.resolve_right hj, fun h => .inl h⟩

theorem RowB.made (w : World) (N : Nat) (L : List Nat) : RowB (w.alloc (.cells (madeCells #[.int .i64 0] N) 3)) w.heap.size N (goN N L 0) :=
  ⟨_, World.rowIs_made w _ N _, by rw [goN_length]; exact Nat.le_refl _, fun i hi => by rw [goN_length] at hi; rw [goN_at _ _ _ hi]; rfl⟩

set_option maxHeartbeats 4000000 in
set_option maxRecDepth 100000 in
theorem goPlan_core (P : Int) (A : Option Addr) (c : Nat) (l : List Int) (hl : l.length ≤ maxLen) (w : World) (h : Ints w (fun b => b < w.heap.size) A l) (ws L : List Nat) (N m : Nat) (M : Int)
    (hways : waysI P l = castT ws) (hmost : mostI P l = M) (hmax : max M 0 = (m : Int)) (hm : m ≤ 1000) (hN : ws.length = N) (hN16 : N ≤ 1000) (hsmall : ∀ i, ws.getD i 0 < 256) (hL : aprT ws m 0 0 = some L) (hmem : ∀ k, k < L.length → L.getD k 0 < N) :
    Calls Try.prog 36 #[twnV P A l.length c] w (NewList w (castT (goN N L L.length))) := by
  unfold twnV
  obtain ⟨W, hW, hB, hbW, hz⟩ := twn_world w P A l.length c
  have HW := Lib.hid hW
  have HBW := Lib.hid hbW
  have c0 := hB.c0
  have c1 := hB.c1
  have HB := Lib.hid hB
  have HI := Lib.hid ((keepInts hbW h).lt hbW.size)
  have HWO : Hid (Calls Try.prog 22 #[.agg #[.int .i64 P, .slice A l.length c]] W (NewList W (castT ws))) := by have := waysOf_spec P A c l hl W HI.out; rwa [hways] at this
  have HMO : Hid (∀ w', Below W.heap.size W w' → Calls Try.prog 32 #[.agg #[.int .i64 P, .slice A l.length c]] w' (Adds (.int .i64 M) w')) := fun w' hb' => by have := mostWays_spec P A c l hl w' ((keepInts hb' HI.out).lt hb'.size); rwa [hmost] at this
  have HAP : Hid (∀ (A : Option Addr) (c : Nat) (w : World), Ints w (fun b => b < w.heap.size) A (castT ws) → Calls Try.prog 66 #[.slice A N c, .int .i64 0, .int .i64 0, .int .i64 (m : Int)] w (AprRes w (some L))) := fun A c w hA => by
    have := apart_spec ws hN (by omega) hsmall m hm 0 0 (Nat.zero_le _) (by decide) A c w hA
    rwa [hL] at this
  have hcn : (castT ws).length = N := by rw [castT_length]; exact hN
  have HMEM := Lib.hid hmem
  have hLb : L.length ≤ 1000 := by rw [aprT_len ws m 0 0 L hL]; exact hm
  have hmk := run_make_row' (P := Try.prog) 23 3 _ 8 Try.underlying23 infoI rfl .i64 .i64 N (by omega) (by omega)
  have hneg : decide ((N : Int) < 0) = false := decide_eq_false (by omega)
  clear hW hB hbW hz h hl hways hmost hsmall hL hmem hN
  have hcase : (M < 0 ∧ (m : Int) = 0) ∨ (¬ M < 0 ∧ M = (m : Int)) := by omega
  clear hmax
  rcases hcase with ⟨h0, hm0⟩ | ⟨h0, hm0⟩
  · rw [hm0] at HAP
    clear hm0 hm
    go_enter Try.func36, Try.ntmps36
    go_wp2_with fail
    rw [← HW.out]
    go_wp2_with fail
    refine HWO.out.mono ?_
    rintro e w1 ⟨A1, c1', rfl, hb1, ho1⟩
    rw [hcn]
    have hB1 := HB.out.still hb1
    have c0 := hB1.c0
    have c1 := hB1.c1
    have HB1 := Lib.hid hb1
    have HI1 : Hid (Ints w1 (fun b => b < w1.heap.size) A1 (castT ws)) := ho1.ints.mono fun b hb => hb.2
    clear hb1 hB1 ho1 hcn
    go_wp2_with fail
    refine (HMO.out _ HB1.out).mono ?_
    rintro e w2 ⟨rfl, hb2⟩
    have HB2 := Lib.hid hb2
    have HI2 := Lib.hid ((keepInts hb2 HI1.out).lt hb2.size)
    clear hb2 c0 c1
    go_wp2_with fail
    refine (HAP.out A1 c1' w2 HI2.out).mono ?_
    rintro e w3 ⟨bl, cl, rfl, hb3, hg3⟩
    dsimp only [Option.isSome, Option.getD] at hg3 ⊢
    have hI3 := ints_grows hg3
    have HI3 := Lib.hid hI3
    have hV3 := belT HBW.out (belT HB1.out (belT HB2.out hb3))
    have HV3 := Lib.hid hV3
    have R0 := Lib.hid (RowB.made w3 N L)
    have V0 : Hid (Below w3.heap.size w3 (w3.alloc (.cells (madeCells #[.int .i64 0] N) 3))) := (Below.refl _ _).alloc (Nat.le_refl _) _
    clear hb3 hg3 hI3 hV3
    go_wp2_with fail
    go_loopw [7] (fun i wr => ∃ k : Nat, k ≤ L.length ∧ i = .int .i64 (k : Int) ∧ Hid (RowB wr w3.heap.size N (goN N L k)) ∧ Hid (Below w3.heap.size w3 wr)) (fun i _ => L.length - (intOf i).toNat)
    case atStart => exact ⟨0, Nat.zero_le _, rfl, R0, V0⟩
    case round =>
      clear R0 V0
      obtain ⟨k, hk, rfl, HR, HV⟩ := hrel
      by_cases hlt : k < L.length
      · obtain ⟨x, hx⟩ : ∃ x, L.getD k 0 = x := ⟨_, rfl⟩
        have hxN : x < N := by rw [← hx]; exact HMEM.out k hlt
        obtain ⟨b', o', e1, e2, h3⟩ := HI3.out (by rw [castT_length]; omega)
        injection e1 with e1
        injection e1 with e1 e3
        subst e1
        subst e3
        have hcx : wr.cell? ⟨bl, k, none⟩ = some (.int .i64 (x : Int)) := by
          have := h3 k (by rw [castT_length]; exact hlt)
          rw [nth_castT, hx, Nat.zero_add] at this
          exact (HV.out.cell (p := ⟨bl, k, none⟩) e2.2).trans this
        have hcz := HR.out.cell (i := x) (by rw [goN_length]; exact hxN)
        have hfz := HR.out.free x
        have HR2 : Hid (RowB (wr.setCell ⟨w3.heap.size, x, none⟩ (.int .i64 1)) w3.heap.size N (goN N L (k + 1))) := by
          have := HR.out.poke x 1
          rw [goN_set hlt, hx]; exact this
        have HV2 : Hid (Below w3.heap.size w3 (wr.setCell ⟨w3.heap.size, x, none⟩ (.int .i64 1))) := HV.out.setCell (Nat.le_refl _) _
        clear h3 hx e2
        go_wp2_with fail
        go_roundw
        case rel => exact ⟨k + 1, by omega, by go_num, HR2, HV2⟩
        case measure => simp [intOf]; omega
      · have hkl : k = L.length := by omega
        have HR2 : Hid (RowB wr w3.heap.size N (goN N L L.length)) := by rw [← hkl]; exact HR.out
        have w0 : decide ((k : Int) < (L.length : Int)) = false := decide_eq_false (by omega)
        have w0' : decide (k < L.length) = false := decide_eq_false (by omega)
        clear hkl
        go_wp2_with fail
        go_ret
        exact ⟨some ⟨w3.heap.size, 0, none⟩, N, by rw [castT_length, goN_length]; rfl, belT HV3.out HV.out, HR2.out.own HV3.out.size⟩
  · subst hm0
    clear hm
    go_enter Try.func36, Try.ntmps36
    go_wp2_with fail
    rw [← HW.out]
    go_wp2_with fail
    refine HWO.out.mono ?_
    rintro e w1 ⟨A1, c1', rfl, hb1, ho1⟩
    rw [hcn]
    have hB1 := HB.out.still hb1
    have c0 := hB1.c0
    have c1 := hB1.c1
    have HB1 := Lib.hid hb1
    have HI1 : Hid (Ints w1 (fun b => b < w1.heap.size) A1 (castT ws)) := ho1.ints.mono fun b hb => hb.2
    clear hb1 hB1 ho1 hcn
    go_wp2_with fail
    refine (HMO.out _ HB1.out).mono ?_
    rintro e w2 ⟨rfl, hb2⟩
    have HB2 := Lib.hid hb2
    have HI2 := Lib.hid ((keepInts hb2 HI1.out).lt hb2.size)
    clear hb2 c0 c1
    go_wp2_with fail
    refine (HAP.out A1 c1' w2 HI2.out).mono ?_
    rintro e w3 ⟨bl, cl, rfl, hb3, hg3⟩
    dsimp only [Option.isSome, Option.getD] at hg3 ⊢
    have hI3 := ints_grows hg3
    have HI3 := Lib.hid hI3
    have hV3 := belT HBW.out (belT HB1.out (belT HB2.out hb3))
    have HV3 := Lib.hid hV3
    have R0 := Lib.hid (RowB.made w3 N L)
    have V0 : Hid (Below w3.heap.size w3 (w3.alloc (.cells (madeCells #[.int .i64 0] N) 3))) := (Below.refl _ _).alloc (Nat.le_refl _) _
    clear hb3 hg3 hI3 hV3
    go_wp2_with fail
    go_loopw [7] (fun i wr => ∃ k : Nat, k ≤ L.length ∧ i = .int .i64 (k : Int) ∧ Hid (RowB wr w3.heap.size N (goN N L k)) ∧ Hid (Below w3.heap.size w3 wr)) (fun i _ => L.length - (intOf i).toNat)
    case atStart => exact ⟨0, Nat.zero_le _, rfl, R0, V0⟩
    case round =>
      clear R0 V0
      obtain ⟨k, hk, rfl, HR, HV⟩ := hrel
      by_cases hlt : k < L.length
      · obtain ⟨x, hx⟩ : ∃ x, L.getD k 0 = x := ⟨_, rfl⟩
        have hxN : x < N := by rw [← hx]; exact HMEM.out k hlt
        obtain ⟨b', o', e1, e2, h3⟩ := HI3.out (by rw [castT_length]; omega)
        injection e1 with e1
        injection e1 with e1 e3
        subst e1
        subst e3
        have hcx : wr.cell? ⟨bl, k, none⟩ = some (.int .i64 (x : Int)) := by
          have := h3 k (by rw [castT_length]; exact hlt)
          rw [nth_castT, hx, Nat.zero_add] at this
          exact (HV.out.cell (p := ⟨bl, k, none⟩) e2.2).trans this
        have hcz := HR.out.cell (i := x) (by rw [goN_length]; exact hxN)
        have hfz := HR.out.free x
        have HR2 : Hid (RowB (wr.setCell ⟨w3.heap.size, x, none⟩ (.int .i64 1)) w3.heap.size N (goN N L (k + 1))) := by
          have := HR.out.poke x 1
          rw [goN_set hlt, hx]; exact this
        have HV2 : Hid (Below w3.heap.size w3 (wr.setCell ⟨w3.heap.size, x, none⟩ (.int .i64 1))) := HV.out.setCell (Nat.le_refl _) _
        clear h3 hx e2
        go_wp2_with fail
        go_roundw
        case rel => exact ⟨k + 1, by omega, by go_num, HR2, HV2⟩
        case measure => simp [intOf]; omega
      · have hkl : k = L.length := by omega
        have HR2 : Hid (RowB wr w3.heap.size N (goN N L L.length)) := by rw [← hkl]; exact HR.out
        have w0 : decide ((k : Int) < (L.length : Int)) = false := decide_eq_false (by omega)
        have w0' : decide (k < L.length) = false := decide_eq_false (by omega)
        clear hkl
        go_wp2_with fail
        go_ret
        exact ⟨some ⟨w3.heap.size, 0, none⟩, N, by rw [castT_length, goN_length]; rfl, belT HV3.out HV.out, HR2.out.own HV3.out.size⟩

/-- how often each way of what may be no town is chosen -/
def goI (P : Int) (l : List Int) : List Int := if townB P l = true then goV P.toNat (l.map Int.toNat) else []

theorem goI_no {P : Int} {l : List Int} (h : townB P l = false) : goI P l = [] := by unfold goI; rw [h]; rfl

theorem goI_yes {p : Nat} {st : List Nat} (h : Twn p st) : goI (p : Int) (castT st) = goV p st := by
  unfold goI; rw [if_pos (twn_town h), castT_back]; rfl

theorem goN_goV (p : Nat) (st : List Nat) : castT (goN (waysT p st).length (goL p st) (goL p st).length) = goV p st := by
  unfold castT goN goV
  rw [List.map_map, List.take_length]
  refine List.map_congr_left fun j _ => ?_
  simp only [Function.comp]
  split <;> rfl

theorem goPlan_spec (P : Int) (A : Option Addr) (c : Nat) (l : List Int) (hl : l.length ≤ maxLen) (w : World) (h : Ints w (fun b => b < w.heap.size) A l) :
    Calls Try.prog 36 #[twnV P A l.length c] w (NewList w (goI P l)) := by
  rcases hb : townB P l with _ | _
  · have := goPlan_core P A c l hl w h [] [] 0 0 (-1) (waysI_no hb) (mostI_no hb) (by decide) (by decide) rfl (by decide) (fun i => by simp) rfl (fun k hk => absurd hk (Nat.not_lt_zero _))
    rw [goI_no hb]; exact this
  · obtain ⟨p, st, rfl, rfl, ht⟩ := town_nat hb
    rw [goI_yes ht, ← goN_goV]
    have hmany := (ways_facts ht).many
    have hm : mostT p st ≤ 1000 ∧ aprT (waysT p st) (mostT p st) 0 0 = some (goL p st) ∧ ∀ k, k < (goL p st).length → (goL p st).getD k 0 < (waysT p st).length := by
      rcases Nat.eq_zero_or_pos (waysT p st).length with e | e
      · have h0 := most_none ht e
        have hg : goL p st = [] := by unfold goL; rw [h0]; rfl
        rw [h0, hg]
        exact ⟨by decide, rfl, fun k hk => absurd hk (Nat.not_lt_zero _)⟩
      · have hc := cut_facts ht e
        have hlo := hc.lo
        have hmn := hc.many
        have hmem := hc.mem
        refine ⟨?_, ?_, fun k hk => hmem _ (by rw [List.getD_eq_getElem?_getD, List.getElem?_eq_getElem hk]; exact List.getElem_mem _)⟩
        · have h1 := hc.size
          have h2 := cnt_le (bP (cutT p st)) st.length
          have h3 := ht.len
          omega
        · unfold goL at hmn ⊢
          cases hr : aprT (waysT p st) (mostT p st) 0 0 with
          | none => rw [hr] at hmn; simp at hmn; omega
          | some z => rfl
    exact goPlan_core (p : Int) A c (castT st) hl w h (waysT p st) (goL p st) _ (mostT p st) _ (waysI_yes ht) (mostI_yes ht) (by omega) hm.1 rfl (by omega) (ways_small ht) hm.2.1 hm.2.2

end Go.Proofs.Ytcminkifdbdaaaa

namespace Go.Proofs.Ytcminkifdbdaaaa
set_option linter.unusedSimpArgs false
set_option linter.unusedVariables false
open Go.RowKit

/-- do the first k ways meet a set -/
def cutN (ws : List Nat) (s : Nat) : Nat → Bool
  | 0 => true
  | k + 1 => cutN ws s k && (ws.getD k 0 &&& s != 0)

theorem cutN_all (ws : List Nat) (s : Nat) : cutN ws s ws.length = cutB ws s := by
  have key : ∀ k, k ≤ ws.length → cutN ws s k = (ws.take k).all fun x => x &&& s != 0 := fun k => by
    induction k with
    | zero => intro _; simp [cutN]
    | succ k ih =>
      intro hk
      have e : ws.take (k + 1) = ws.take k ++ [ws.getD k 0] := by
        rw [List.take_add_one, List.getElem?_eq_getElem (by omega)]
        simp [show k < ws.length by omega]
      rw [e, List.all_append]
      simp only [cutN, ih (by omega), List.all_cons, List.all_nil, Bool.and_true]
  rw [key _ (Nat.le_refl _), List.take_length]; rfl

/-- the best set so far, as the specification holds it -/
def bcI (ws : List Nat) (m n : Nat) : Int := if bcT ws m n = 0 then -1 else (bcT ws m n : Int)

theorem bc_step {ws : List Nat} {m t : Nat} (h : 1 ≤ t) : bcT ws m t = if (cutB ws t && (bcT ws m (t - 1) == 0 || decide (cnt (bP t) m < cnt (bP (bcT ws m (t - 1))) m))) = true then t else bcT ws m (t - 1) := by
  obtain ⟨q, rfl⟩ : ∃ q, t = q + 1 := ⟨t - 1, by omega⟩
  rfl

theorem bcI_no {ws : List Nat} {m t : Nat} (h : 1 ≤ t) (h1 : cutB ws t = false) : bcI ws m t = bcI ws m (t - 1) := by
  unfold bcI; rw [bc_step h, h1]; simp

theorem bcI_first {ws : List Nat} {m t : Nat} (h : 1 ≤ t) (h1 : cutB ws t = true) (h2 : bcT ws m (t - 1) = 0) : bcI ws m t = (t : Int) := by
  unfold bcI; rw [bc_step h, h1, h2]; simp; omega

theorem bcI_less {ws : List Nat} {m t : Nat} (h : 1 ≤ t) (h1 : cutB ws t = true) (h2 : cnt (bP t) m < cnt (bP (bcT ws m (t - 1))) m) : bcI ws m t = (t : Int) := by
  unfold bcI; rw [bc_step h, h1, decide_eq_true h2]; simp; omega

theorem bcI_more {ws : List Nat} {m t : Nat} (h : 1 ≤ t) (h0 : bcT ws m (t - 1) ≠ 0) (h2 : ¬ cnt (bP t) m < cnt (bP (bcT ws m (t - 1))) m) : bcI ws m t = bcI ws m (t - 1) := by
  unfold bcI; rw [bc_step h, decide_eq_false h2]; simp [h0]

theorem bc_hi (ws : List Nat) (m : Nat) : ∀ n, bcT ws m n ≤ n
  | 0 => Nat.le_refl _
  | n + 1 => by
    have := bc_hi ws m n
    simp only [bcT]; split <;> omega

/-- the first numbers of the plan -/
def guaTo (b : Nat) : Nat → List Int
  | 0 => []
  | k + 1 => guaTo b k ++ [if bP b k = true then 1 else 0]

theorem guaTo_len (b k : Nat) : (guaTo b k).length = k := by
  induction k with
  | zero => rfl
  | succ k ih => simp [guaTo, ih]

theorem guaTo_all (p : Nat) (st : List Nat) : guaTo (cutT p st) st.length = cutV p st := by
  have key : ∀ k, guaTo (cutT p st) k = (List.range k).map fun i => if bP (cutT p st) i = true then 1 else 0 := fun k => by
    induction k with
    | zero => rfl
    | succ k ih => rw [List.range_succ, List.map_append]; simp only [guaTo, ih]; rfl
  exact key _

/-- how often each street of what may be no town is chosen -/
def guaI (P : Int) (l : List Int) : List Int := if (townB P l && decide (0 < (waysI P l).length)) = true then cutV P.toNat (l.map Int.toNat) else []

theorem guaI_no {P : Int} {l : List Int} (h : waysI P l = []) : guaI P l = [] := by unfold guaI; rw [h]; simp

theorem guaI_yes {p : Nat} {st : List Nat} (h : Twn p st) (h0 : 0 < (waysT p st).length) : guaI (p : Int) (castT st) = cutV p st := by
  unfold guaI; rw [twn_town h, waysI_yes h, castT_length, decide_eq_true h0, castT_back]; rfl

set_option maxHeartbeats 4000000 in
set_option maxRecDepth 100000 in
theorem guardPlan_none (P : Int) (A : Option Addr) (c : Nat) (l : List Int) (hl : l.length ≤ maxLen) (w : World) (h : Ints w (fun b => b < w.heap.size) A l) (hways : waysI P l = []) :
    Calls Try.prog 39 #[twnV P A l.length c] w (NewList w []) := by
  unfold twnV
  obtain ⟨W, hW, hB, hbW, hz⟩ := twn_world w P A l.length c
  have hb0 : Below W.heap.size W (W.alloc (.cells #[] 3)) := (Below.refl _ _).alloc (Nat.le_refl _) _
  obtain ⟨X, hX⟩ : ∃ X, X = W.alloc (.cells #[] 3) := ⟨_, rfl⟩
  rw [← hX] at hb0
  have HB0 := Lib.hid hb0
  have HX := Lib.hid hX
  have HW := Lib.hid hW
  have HBW := Lib.hid hbW
  have hBX := hB.still hb0
  have c0 := hBX.c0
  have c1 := hBX.c1
  have HWO : Hid (Calls Try.prog 22 #[.agg #[.int .i64 P, .slice A l.length c]] X (NewList X [])) := by
    have hbx := belT hbW hb0
    have := waysOf_spec P A c l hl X ((keepInts hbx h).lt hbx.size); rwa [hways] at this
  clear hW hX hB hbW hb0 hBX hz h hl hways
  go_enter Try.func39, Try.ntmps39
  go_wp2_with fail
  rw [← HW.out, ← HX.out]
  go_wp2_with fail
  refine HWO.out.mono ?_
  rintro e w1 ⟨A1, c1', rfl, hb1, -⟩
  go_wp2_with fail
  go_ret
  exact ⟨_, 0, rfl, belT HBW.out (belT HB0.out hb1), fun h0 => absurd h0 (by simp)⟩

set_option maxHeartbeats 4000000 in
set_option maxRecDepth 100000 in
theorem guardPlan_some {p : Nat} {st : List Nat} (ht : Twn p st) (h0 : 0 < (waysT p st).length) (A : Option Addr) (c : Nat) (w : World) (h : Ints w (fun b => b < w.heap.size) A (castT st)) :
    Calls Try.prog 39 #[twnV (p : Int) A st.length c] w (NewList w (cutV p st)) := by
  unfold twnV
  obtain ⟨W, hW, hB, hbW, hz⟩ := twn_world w (p : Int) A st.length c
  have hb0 : Below W.heap.size W (W.alloc (.cells #[] 3)) := (Below.refl _ _).alloc (Nat.le_refl _) _
  have G0 : Hid (Grows (W.alloc (.cells #[] 3)) W.heap.size (.slice (some ⟨w.heap.size + 1, 0, none⟩) 0 0) []) := by
    have := Grows.lit W (base := W.heap.size) (Nat.le_refl _); rw [hz] at this ⊢; exact this
  obtain ⟨X, hX⟩ : ∃ X, X = W.alloc (.cells #[] 3) := ⟨_, rfl⟩
  rw [← hX] at hb0 G0
  have HB0 := Lib.hid hb0
  have HX := Lib.hid hX
  have HW := Lib.hid hW
  have HBW := Lib.hid hbW
  have HB := Lib.hid hB
  have hBX := hB.still hb0
  have c0 := hBX.c0
  have c1 := hBX.c1
  have hst := ht.len
  have hcf := cut_facts ht h0
  obtain ⟨ws, hws⟩ : ∃ x, waysT p st = x := ⟨_, rfl⟩
  obtain ⟨N, hN⟩ : ∃ N, ws.length = N := ⟨_, rfl⟩
  have hN16 : N ≤ 16 := by rw [← hN, ← hws]; exact (ways_facts ht).many
  have HSM : Hid (∀ i, ws.getD i 0 < 256) := fun i => by rw [← hws]; exact ways_small ht i
  have HWO : Hid (Calls Try.prog 22 #[.agg #[.int .i64 (p : Int), .slice A st.length c]] X (NewList X (castT ws))) := by
    have hbx := belT hbW hb0
    have := waysOf_spec (p : Int) A c (castT st) (by rw [castT_length]; unfold maxLen; omega) X ((keepInts hbx h).lt hbx.size); rw [waysI_yes ht, castT_length, hws] at this; exact this
  obtain ⟨b, hb⟩ : ∃ b, cutT p st = b := ⟨_, rfl⟩
  have HE : Hid (cutV p st = guaTo b st.length) := by show _ = _; rw [← guaTo_all, hb]
  obtain ⟨M, hM⟩ : ∃ M : Nat, 2 ^ st.length = M := ⟨_, rfl⟩
  have HLAST : Hid (bcT ws st.length (M - 1) = b) := by show _ = _; rw [← hb, ← hws, ← hM]; rfl
  have HCNT : Hid (∀ t, t < M → cnt (bP t) st.length = popN t) := fun t ht => cnt_pop st.length t (by rw [hM]; exact ht)
  have hbM : b < M := by rw [← hb, ← hM]; exact hcf.lt
  have hb1 : b ≠ 0 := by
    intro e
    have h1 := hcf.cut
    rw [hb, e, hws] at h1
    unfold cutB at h1
    rw [List.all_eq_true] at h1
    obtain ⟨x, hx⟩ := List.exists_mem_of_length_pos (show 0 < ws.length by rw [← hws]; exact h0)
    have := h1 x hx
    simp at this
  have hp := pw16 (k := st.length) (by omega)
  have hM256 : M ≤ 256 := by rw [← hM]; exact Nat.pow_le_pow_right (by omega) hst
  have hM1 : 1 ≤ M := by rw [← hM]; exact Nat.two_pow_pos _
  rw [hM] at hp
  have p1 : wrap64 (2 ^ st.length) = (M : Int) := hp.2.1
  have p2 : IntKind.i64.wrap (2 ^ st.length) = (M : Int) := hp.2.2.1
  have hcn : (castT ws).length = N := by rw [castT_length]; exact hN
  have hN0 : 0 < N := by rw [← hN, ← hws]; exact h0
  have HCB : Hid (∀ s, cutN ws s N = cutB ws s) := fun s => by rw [← hN]; exact cutN_all ws s
  obtain ⟨i0, hi0, hz0, hz1, hz2⟩ := info_parts infoI
  have HI0 := Lib.hid hi0
  have HZ0 := Lib.hid hz0
  have HZ1 := Lib.hid hz1
  have HZ2 := Lib.hid hz2
  clear hi0 hz0 hz1 hz2 hW hX hB hbW hb0 hBX hz h ht h0 hcf hws hN hb hM hp
  have e0 : ((N : Int) == 0) = false := by rw [beq_eq_false_iff_ne]; omega
  go_enter Try.func39, Try.ntmps39
  go_wp2_with fail
  rw [← HW.out, ← HX.out]
  go_wp2_with fail
  refine HWO.out.mono ?_
  rintro e w1 ⟨A1, c1', rfl, hbw1, ho1⟩
  rw [hcn]
  have HI1 : Hid (Ints w1 (fun b => b < w1.heap.size) A1 (castT ws)) := ho1.ints.mono fun b hb => hb.2
  have HB1 := Lib.hid (belT HB0.out hbw1)
  have G1 := Lib.hid (G0.out.keep hbw1)
  have hB1 := HB.out.still HB1.out
  have c0 := hB1.c0
  have c1 := hB1.c1
  clear hbw1 ho1 hB1 G0
  go_wp2_with fail
  clear c0 c1
  go_loopw [5, 6] (fun v i wr => ∃ t : Nat, 1 ≤ t ∧ t ≤ M ∧ i = .int .i64 (t : Int) ∧ v = .int .i64 (bcI ws st.length (t - 1)) ∧ Hid (Below w1.heap.size w1 wr)) (fun _ i _ => M - (intOf i).toNat)
  case atStart => exact ⟨1, by omega, by omega, rfl, rfl, Below.refl _ _⟩
  case round =>
    obtain ⟨t, ht1, ht, rfl, rfl, HV⟩ := hrel
    have hB3 := HB.out.still (belT HB1.out HV.out)
    have c0 := hB3.c0
    have c1 := hB3.c1
    clear hB3
    by_cases hlt : t < M
    · obtain ⟨z, hz⟩ : ∃ z, bcI ws st.length (t - 1) = z := ⟨_, rfl⟩
      have HZI := Lib.hid hz
      rw [hz]
      clear hz
      have HT1 := Lib.hid ht1
      obtain ⟨wo, rfl⟩ : ∃ wo : World, wo = wr := ⟨_, rfl⟩
      go_wp2_with fail
      go_loopw [7, 8] (fun v i wr => ∃ k : Nat, k ≤ N ∧ i = .int .i64 (k : Int) ∧ v = .bool (cutN ws t k) ∧ Hid (Below w1.heap.size w1 wr)) (fun _ i _ => N - (intOf i).toNat)
      case atStart => exact ⟨0, Nat.zero_le _, rfl, rfl, HV⟩
      case round =>
        clear HV
        obtain ⟨k, hk, rfl, rfl, HV⟩ := hrel
        by_cases hkN : k < N
        · rcases hq : cutN ws t k with _ | _
          · have HN : Hid (cutN ws t (k + 1) = false) := by show (_ && _) = _; rw [hq]; rfl
            clear hq
            go_wp2_with fail
            go_roundw
            case rel => exact ⟨k + 1, by omega, by go_num, by rw [HN.out], HV⟩
            case measure => simp [intOf]; omega
          · obtain ⟨x, hx⟩ : ∃ x, ws.getD k 0 = x := ⟨_, rfl⟩
            have hx256 : x < 256 := by rw [← hx]; exact HSM.out k
            obtain ⟨ba, oa, hAe, hba, hca⟩ := HI1.out (by rw [castT_length]; rw [castT_length] at hcn; omega)
            have hcx : wr.cell? ⟨ba, oa + k, none⟩ = some (.int .i64 (x : Int)) := by
              have := hca k (by rw [castT_length]; rw [castT_length] at hcn; omega)
              rw [nth_castT, hx] at this
              exact (HV.out.cell (p := ⟨ba, oa + k, none⟩) hba).trans this
            subst hAe
            clear hca
            have hand := bits_and_i64 x t (by omega) (by omega)
            have HN : Hid (cutN ws t (k + 1) = (x &&& t != 0)) := by show (_ && _) = _; rw [hq, hx]; rfl
            obtain ⟨y, hy⟩ : ∃ y, x &&& t = y := ⟨_, rfl⟩
            rw [hy] at hand HN
            clear hx hy hq
            rcases hyz : (y != 0) with _ | _
            · have f1 : ((y : Int) != 0) = false := by rw [bne_eq_false_iff_eq] at hyz ⊢; omega
              have f2 : ((y : Int) == 0) = true := by rw [bne_eq_false_iff_eq] at hyz; rw [beq_iff_eq]; omega
              have f3 : y = 0 := by rw [bne_eq_false_iff_eq] at hyz; exact hyz
              have HN2 : Hid (cutN ws t (k + 1) = false) := by show _ = _; rw [HN.out]; exact hyz
              clear hyz HN
              go_wp2_with fail
              go_roundw
              case rel => exact ⟨k + 1, by omega, by go_num, by rw [HN2.out], HV⟩
              case measure => simp [intOf]; omega
            · have f1 : ((y : Int) != 0) = true := by rw [bne_iff_ne] at hyz ⊢; omega
              have f2 : ((y : Int) == 0) = false := by rw [bne_iff_ne] at hyz; rw [beq_eq_false_iff_ne]; omega
              have f3 : ¬ y = 0 := by rw [bne_iff_ne] at hyz; exact hyz
              have HN2 : Hid (cutN ws t (k + 1) = true) := by show _ = _; rw [HN.out]; exact hyz
              clear hyz HN
              go_wp2_with fail
              go_roundw
              case rel => exact ⟨k + 1, by omega, by go_num, by rw [HN2.out], HV⟩
              case measure => simp [intOf]; omega
        · obtain rfl : k = N := by omega
          have hcb := HCB.out t
          rcases hq : cutB ws t with _ | _
          · have HN : Hid (bcI ws st.length (t + 1 - 1) = z) := by show bcI ws st.length (t + 1 - 1) = z; rw [Nat.add_sub_cancel, bcI_no HT1.out hq]; exact HZI.out
            rw [hq] at hcb
            rw [hcb]
            clear hq hcb
            go_wp2_with fail
            go_roundw
            case rel => exact ⟨t + 1, by omega, by omega, by go_num, by rw [HN.out], HV⟩
            case measure => simp [intOf]; omega
          rw [hq] at hcb
          rw [hcb]
          by_cases hz0 : bcT ws st.length (t - 1) = 0
          · have hz1 : z = -1 := by have := HZI.out; unfold bcI at this; rw [if_pos hz0] at this; omega
            have HN : Hid (bcI ws st.length (t + 1 - 1) = (t : Int)) := by show bcI ws st.length (t + 1 - 1) = _; rw [Nat.add_sub_cancel]; exact bcI_first HT1.out hq hz0
            clear hq hz0 hcb
            subst hz1
            go_wp2_with fail
            go_roundw
            case rel => exact ⟨t + 1, by omega, by omega, by go_num, by rw [HN.out], HV⟩
            case measure => simp [intOf]; omega
          · have hbh := bc_hi ws st.length (t - 1)
            obtain ⟨u, hu⟩ : ∃ u, bcT ws st.length (t - 1) = u := ⟨_, rfl⟩
            have hz1 : z = (u : Int) := by have := HZI.out; unfold bcI at this; rw [if_neg hz0, hu] at this; omega
            rw [hu] at hbh
            have HMORE : Hid (¬ popN t < popN u → bcI ws st.length (t + 1 - 1) = (u : Int)) := fun h => by
              rw [Nat.add_sub_cancel, bcI_more HT1.out hz0 (by rw [hu, HCNT.out t hlt, HCNT.out u (by omega)]; exact h)]; unfold bcI; rw [if_neg hz0, hu]
            have HLESS : Hid (popN t < popN u → bcI ws st.length (t + 1 - 1) = (t : Int)) := fun h => by
              rw [Nat.add_sub_cancel]; exact bcI_less HT1.out hq (by rw [hu, HCNT.out t hlt, HCNT.out u (by omega)]; exact h)
            clear hq hz0 hu hcb
            subst hz1
            obtain ⟨pt, hpt⟩ : ∃ p, popN t = p := ⟨_, rfl⟩
            obtain ⟨pu, hpu⟩ : ∃ p, popN u = p := ⟨_, rfl⟩
            have HZ3 : Hid (∀ w', Calls Try.prog 73 #[.int .i64 (t : Int)] w' (Same (.int .i64 (pt : Int)) w')) := fun w' => by have := size_of_set t (by omega) w'; rw [hpt] at this; exact this
            have HZ4 : Hid (∀ w', Calls Try.prog 73 #[.int .i64 (u : Int)] w' (Same (.int .i64 (pu : Int)) w')) := fun w' => by have := size_of_set u (by omega) w'; rw [hpu] at this; exact this
            rw [hpt, hpu] at HMORE HLESS
            clear hpt hpu
            go_wp2_with fail
            refine (HZ3.out _).mono ?_
            rintro e wz ⟨rfl, rfl⟩
            go_wp2_with fail
            refine (HZ4.out _).mono ?_
            rintro e wz ⟨rfl, rfl⟩
            by_cases hlp : pt < pu
            · have HN := Lib.hid (HLESS.out hlp)
              go_wp2_with fail
              go_roundw
              case rel => exact ⟨t + 1, by omega, by omega, by go_num, by rw [HN.out], HV⟩
              case measure => simp [intOf]; omega
            · have HN := Lib.hid (HMORE.out hlp)
              go_wp2_with fail
              go_roundw
              case rel => exact ⟨t + 1, by omega, by omega, by go_num, by rw [HN.out], HV⟩
              case measure => simp [intOf]; omega
    · obtain rfl : t = M := by omega
      have hlast : bcI ws st.length (t - 1) = (b : Int) := by unfold bcI; rw [HLAST.out, if_neg hb1]
      rw [hlast]
      clear hlast
      have GV := Lib.hid (G1.out.keep HV.out)
      have HVW := Lib.hid (belT HB1.out HV.out)
      go_wp2_with fail
      clear c0 c1
      go_loopw [3, 9] (fun v i wr => ∃ k : Nat, k ≤ st.length ∧ i = .int .i64 (k : Int) ∧ Hid (Grows wr W.heap.size v (guaTo b k)) ∧ Hid (Below W.heap.size W wr)) (fun _ i _ => st.length - (intOf i).toNat)
      case atStart => exact ⟨0, Nat.zero_le _, rfl, GV, HVW⟩
      case round =>
        clear GV HVW
        obtain ⟨k, hk, rfl, HO, HU⟩ := hrel
        have hB4 := HB.out.still HU.out
        have c0 := hB4.c0
        have c1 := hB4.c1
        have hws := HU.out.size
        clear hB4
        have hlk := guaTo_len b k
        by_cases hlk2 : k < st.length
        · have e1 := shr_mod (s := b) (k := k)
          obtain ⟨x, hx⟩ : ∃ x : Int, (if bP b k = true then 1 else 0) = x := ⟨_, rfl⟩
          have hx01 : 0 ≤ x ∧ x ≤ 1 := by rw [← hx]; split <;> omega
          rw [hx] at e1
          have w1 : IntKind.i64.wrap x = x := IntWalk.i64_in _ ⟨by omega, by omega⟩
          have hy : Hid (guaTo b (k + 1) = guaTo b k ++ [x]) := by show guaTo b (k + 1) = _; simp only [guaTo, hx]
          clear hx
          go_wp2_with (at_builtin; refine wpList_append_own_at _ rfl (.tmp 61) (.tmp 66) _ rfl W.heap.size 3 i0 (.int .i64 0) 1 8 Try.underlying23 HI0.out HZ0.out HZ1.out HZ2.out rfl (by decide) _ _ _ rfl (HO.out.alloc _) ⟨wr.heap.size, 0, none⟩ 1 1 [.int .i64 x] rfl rfl (cell_one_new _ _ _) ?c2 ?c3 ?c4 ?c5 ?_)
          case c2 => first | rfl | (intro u hu; simp at hu; subst hu; rfl)
          case c3 => rw [hlk]; unfold maxLen; omega
          case c4 => rw [hlk]; omega
          case c5 => first | omega | (simp; omega)
          intro v' w6 hown hgrow _ _
          have HN : Hid (Grows w6 W.heap.size v' (guaTo b (k + 1))) := by rw [hy.out]; exact Grows.snoc (by rw [hlk]; exact hown)
          have HV2 : Hid (Below W.heap.size W w6) := HO.out.below hgrow HU.out (Nat.le_refl _) hws
          clear hown hgrow
          go_wp2_with fail
          go_roundw
          case rel => exact ⟨k + 1, by omega, by go_num, HN, HV2⟩
          case measure => simp [intOf]; omega
        · obtain rfl : k = st.length := by omega
          go_wp2_with fail
          go_ret
          rw [HE.out]
          exact NewList.of rfl (HO.out.base HBW.out.size) (belT HBW.out HU.out)

theorem guardPlan_spec (P : Int) (A : Option Addr) (c : Nat) (l : List Int) (hl : l.length ≤ maxLen) (w : World) (h : Ints w (fun b => b < w.heap.size) A l) :
    Calls Try.prog 39 #[twnV P A l.length c] w (NewList w (guaI P l)) := by
  rcases hb : townB P l with _ | _
  · rw [guaI_no (waysI_no hb)]; exact guardPlan_none P A c l hl w h (waysI_no hb)
  · obtain ⟨p, st, rfl, rfl, ht⟩ := town_nat hb
    rcases Nat.eq_zero_or_pos (waysT p st).length with e | e
    · have hw : waysI (p : Int) (castT st) = [] := by rw [waysI_yes ht, List.eq_nil_of_length_eq_zero e]; rfl
      rw [guaI_no hw]; exact guardPlan_none _ A c _ hl w h hw
    · rw [guaI_yes ht e, castT_length]; exact guardPlan_some ht e A c w h

end Go.Proofs.Ytcminkifdbdaaaa

namespace Go.Proofs.Ytcminkifdbdaaaa
set_option linter.unusedSimpArgs false
set_option linter.unusedVariables false
open Go.RowKit

/-- the first numbers of a row of the game -/
def grdTo (ws : List Nat) (i : Nat) : Nat → List Int
  | 0 => []
  | j + 1 => grdTo ws i j ++ [if bP (ws.getD j 0) i = true then 1 else 0]

theorem grdTo_length (ws : List Nat) (i j : Nat) : (grdTo ws i j).length = j := by
  induction j with
  | zero => rfl
  | succ j ih => simp [grdTo, ih]

def grdRw (ws : List Nat) (i : Nat) : List Int := ws.map fun x => if bP x i = true then 1 else 0

theorem grdTo_all (ws : List Nat) (i : Nat) : grdTo ws i ws.length = grdRw ws i := by
  have key : ∀ k, k ≤ ws.length → grdTo ws i k = (ws.take k).map fun x => if bP x i = true then 1 else 0 := fun k => by
    induction k with
    | zero => intro _; simp [grdTo]
    | succ k ih =>
      intro hk
      have e : ws.take (k + 1) = ws.take k ++ [ws.getD k 0] := by
        rw [List.take_add_one, List.getElem?_eq_getElem (by omega)]
        simp [show k < ws.length by omega]
      rw [e, List.map_append]
      simp only [grdTo, ih (by omega), List.map_cons, List.map_nil]
  rw [key _ (Nat.le_refl _), List.take_length]; rfl

def grdRs (ws : List Nat) : Nat → List (List Int)
  | 0 => []
  | k + 1 => grdRs ws k ++ [grdRw ws k]

theorem grdRs_length (ws : List Nat) (k : Nat) : (grdRs ws k).length = k := by
  induction k with
  | zero => rfl
  | succ k ih => simp [grdRs, ih]

theorem grdRs_all (p : Nat) (st : List Nat) : grdRs (waysT p st) st.length = grdT p st := by
  have key : ∀ k, grdRs (waysT p st) k = (List.range k).map (grdRow p st) := fun k => by
    induction k with
    | zero => rfl
    | succ k ih => rw [List.range_succ, List.map_append]; simp only [grdRs, ih]; rfl
  exact key _

/-- the game of what may be no town -/
def grdI (P : Int) (l : List Int) : List (List Int) := if (townB P l && decide (0 < (waysI P l).length)) = true then grdT P.toNat (l.map Int.toNat) else []

theorem grdI_no {P : Int} {l : List Int} (h : waysI P l = []) : grdI P l = [] := by unfold grdI; rw [h]; simp

theorem grdI_yes {p : Nat} {st : List Nat} (h : Twn p st) (h0 : 0 < (waysT p st).length) : grdI (p : Int) (castT st) = grdT p st := by
  unfold grdI; rw [twn_town h, waysI_yes h, castT_length, decide_eq_true h0, castT_back]; rfl

set_option maxHeartbeats 4000000 in
set_option maxRecDepth 100000 in
theorem guardGame_none (P : Int) (A : Option Addr) (c : Nat) (l : List Int) (hl : l.length ≤ maxLen) (w : World) (h : Ints w (fun b => b < w.heap.size) A l) (hways : waysI P l = []) :
    Calls Try.prog 27 #[twnV P A l.length c] w (NewTable w []) := by
  unfold twnV
  obtain ⟨W, hW, hB, hbW, hz⟩ := twn_world w P A l.length c
  have hb0 : Below W.heap.size W (W.alloc (.cells #[] 23)) := (Below.refl _ _).alloc (Nat.le_refl _) _
  obtain ⟨X, hX⟩ : ∃ X, X = W.alloc (.cells #[] 23) := ⟨_, rfl⟩
  rw [← hX] at hb0
  have HB0 := Lib.hid hb0
  have HX := Lib.hid hX
  have HW := Lib.hid hW
  have HBW := Lib.hid hbW
  have HB := Lib.hid hB
  have hBX := hB.still hb0
  have c0 := hBX.c0
  have c1 := hBX.c1
  have HWO : Hid (Calls Try.prog 22 #[.agg #[.int .i64 P, .slice A l.length c]] X (NewList X [])) := by
    have hbx := belT hbW hb0
    have := waysOf_spec P A c l hl X ((keepInts hbx h).lt hbx.size); rwa [hways] at this
  clear hW hX hB hbW hb0 hBX hz h hl hways
  go_enter Try.func27, Try.ntmps27
  go_wp2_with fail
  rw [← HW.out, ← HX.out]
  go_wp2_with fail
  refine HWO.out.mono ?_
  rintro e w1 ⟨A1, c1', rfl, hb1, -⟩
  have HB1 := Lib.hid (belT HB0.out hb1)
  clear hb1 c0 c1
  go_wp2_with fail
  go_loopw [3, 5] (fun v i wr => i = .int .i64 0 ∧ (∃ b cap : Nat, v = .slice (some ⟨b, 0, none⟩) 0 cap) ∧ Hid (Below W.heap.size W wr)) (fun _ _ _ => 0)
  case atStart => exact ⟨rfl, ⟨_, _, rfl⟩, HB1⟩
  case round =>
    obtain ⟨rfl, ⟨b, cap, rfl⟩, HV⟩ := hrel
    have hB3 := HB.out.still HV.out
    have c0 := hB3.c0
    have c1 := hB3.c1
    clear hB3
    by_cases h0 : 0 < l.length
    · have w0 : decide ((0 : Int) < (l.length : Int)) = true := decide_eq_true (by omega)
      have w0' : decide (0 < l.length) = true := decide_eq_true h0
      go_wp2_with fail
      go_ret
      exact ⟨_, cap, rfl, belT HBW.out HV.out, fun h0 => absurd h0 (by simp)⟩
    · have w0 : decide ((0 : Int) < (l.length : Int)) = false := decide_eq_false (by omega)
      have w0' : decide (0 < l.length) = false := decide_eq_false h0
      go_wp2_with fail
      go_ret
      exact ⟨_, cap, rfl, belT HBW.out HV.out, fun h0 => absurd h0 (by simp)⟩

set_option maxHeartbeats 4000000 in
set_option maxRecDepth 100000 in
theorem guardGame_some {p : Nat} {st : List Nat} (ht : Twn p st) (h0 : 0 < (waysT p st).length) (A : Option Addr) (c : Nat) (w : World) (h : Ints w (fun b => b < w.heap.size) A (castT st)) :
    Calls Try.prog 27 #[twnV (p : Int) A st.length c] w (NewTable w (grdT p st)) := by
  unfold twnV
  obtain ⟨W, hW, hB, hbW, hz⟩ := twn_world w (p : Int) A st.length c
  have hb0 : Below W.heap.size W (W.alloc (.cells #[] 23)) := (Below.refl _ _).alloc (Nat.le_refl _) _
  have G0 : Hid (GrowsR (W.alloc (.cells #[] 23)) W.heap.size (W.heap.size + 1) (.slice (some ⟨w.heap.size + 1, 0, none⟩) 0 0) (fun _ => none) (fun _ => 0) []) := by
    have := GrowsR.lit W (base := W.heap.size) (Nat.le_refl _) (fun _ => none) (fun _ => 0); rw [hz] at this ⊢; exact this
  have hs0 : (W.alloc (.cells #[] 23)).heap.size = W.heap.size + 1 := by simp
  obtain ⟨X, hX⟩ : ∃ X, X = W.alloc (.cells #[] 23) := ⟨_, rfl⟩
  rw [← hX] at hb0 G0 hs0
  have HB0 := Lib.hid hb0
  have HX := Lib.hid hX
  have HW := Lib.hid hW
  have HBW := Lib.hid hbW
  have HB := Lib.hid hB
  have HZ := Lib.hid hz
  have hBX := hB.still hb0
  have c0 := hBX.c0
  have c1 := hBX.c1
  have hst := ht.len
  have hst1 := way_street ht h0
  obtain ⟨ws, hws⟩ : ∃ x, waysT p st = x := ⟨_, rfl⟩
  obtain ⟨N, hN⟩ : ∃ N, ws.length = N := ⟨_, rfl⟩
  have hN16 : N ≤ 16 := by rw [← hN, ← hws]; exact (ways_facts ht).many
  have HWO : Hid (Calls Try.prog 22 #[.agg #[.int .i64 (p : Int), .slice A st.length c]] X (NewList X (castT ws))) := by
    have hbx := belT hbW hb0
    have := waysOf_spec (p : Int) A c (castT st) (by rw [castT_length]; unfold maxLen; omega) X ((keepInts hbx h).lt hbx.size); rw [waysI_yes ht, castT_length, hws] at this; exact this
  have HE : Hid (grdT p st = grdRs ws st.length) := by show _ = _; rw [← hws, grdRs_all]
  have HROW : Hid (∀ i, grdTo ws i N = grdRw ws i) := fun i => by rw [← hN]; exact grdTo_all ws i
  have hcn : (castT ws).length = N := by rw [castT_length]; exact hN
  have HCN := Lib.hid hcn
  have hN0 : 0 < N := by rw [← hN, ← hws]; exact h0
  obtain ⟨i0, hi0, hz0, hz1, hz2⟩ := info_parts infoI
  obtain ⟨i1, hi1, hy0, hy1, hy2⟩ := info_parts infoR
  have HI0 := Lib.hid hi0
  have HZ0 := Lib.hid hz0
  have HZ1 := Lib.hid hz1
  have HZ2 := Lib.hid hz2
  have HI1 := Lib.hid hi1
  have HY0 := Lib.hid hy0
  have HY1 := Lib.hid hy1
  have HY2 := Lib.hid hy2
  have n0 : decide ((0 : Int) < (N : Int)) = true := decide_eq_true (by omega)
  have n0' : decide (0 < N) = true := decide_eq_true hN0
  clear hi0 hz0 hz1 hz2 hi1 hy0 hy1 hy2 hW hX hB hbW hb0 hBX hz h ht h0 hws hN
  go_enter Try.func27, Try.ntmps27
  go_wp2_with fail
  rw [← HW.out, ← HX.out]
  go_wp2_with fail
  refine HWO.out.mono ?_
  rintro e w2 ⟨AC, cc, rfl, hb2, ho2⟩
  obtain ⟨bc, off, hAC, hbc, hcells⟩ := ho2.ints (by rw [HCN.out]; exact hN0)
  subst hAC
  rw [hcn]
  have HCI : Hid (Ints w2 (· = bc) (some ⟨bc, off, none⟩) (castT ws)) := fun _ => ⟨bc, off, rfl, rfl, hcells⟩
  have hbc1 : X.heap.size ≤ bc := hbc.1
  have hbc2 : bc < w2.heap.size := hbc.2
  have HB2 := Lib.hid (belT HB0.out hb2)
  have G2 := Lib.hid (G0.out.keep (hb2.mono (by omega)))
  have hsz2 := hb2.size
  clear hb2 ho2 hbc hcells c0 c1 hcn G0
  go_wp2_with fail
  go_loopw [3, 5] (fun v i wr => ∃ k : Nat, k ≤ st.length ∧ i = .int .i64 (k : Int) ∧ Hid (∃ (A : Nat → Option Addr) (C : Nat → Nat), GrowsR wr W.heap.size wr.heap.size v A C (grdRs ws k)) ∧ Hid (Below W.heap.size W wr) ∧ Hid (Ints wr (· = bc) (some ⟨bc, off, none⟩) (castT ws)) ∧ Hid (v.ownBlock ≠ some bc) ∧ bc < wr.heap.size) (fun _ i _ => st.length - (intOf i).toNat)
  case atStart => exact ⟨0, Nat.zero_le _, rfl, ⟨_, _, G2.out.up (by omega) (Nat.le_refl _)⟩, HB2, HCI, (by show Value.ownBlock _ ≠ _; simp [Value.ownBlock]; have := HZ.out; omega), hbc2⟩
  case round =>
    clear G2 HB2 HCI
    obtain ⟨i, hi, rfl, HT, HV0, HCI, HNE, hbw⟩ := hrel
    have hBr := HB.out.still HV0.out
    have c0 := hBr.c0
    have c1 := hBr.c1
    clear hBr
    have hlk := grdRs_length ws i
    obtain ⟨AA, CC, hgr⟩ := HT.out
    have HGR := Lib.hid hgr
    clear hgr HT
    by_cases hlt : i < st.length
    · have hws := HV0.out.size
      have o1 : decide ((i : Int) < (st.length : Int)) = true := decide_eq_true (by omega)
      have o1' : decide (i < st.length) = true := decide_eq_true hlt
      go_wp2_with fail
      obtain ⟨wo, rfl⟩ : ∃ wo : World, wo = wr := ⟨_, rfl⟩
      go_loopw [6, 7] (fun v j wr => ∃ m : Nat, m ≤ N ∧ j = .int .i64 (m : Int) ∧ Hid (Grows wr wo.heap.size v (grdTo ws i m)) ∧ Hid (Below wo.heap.size wo wr)) (fun _ j _ => N - (intOf j).toNat)
      case atStart => exact ⟨0, Nat.zero_le _, rfl, Grows.lit wo (Nat.le_refl _), (Below.refl _ _).alloc (Nat.le_refl _) _⟩
      case round =>
        obtain ⟨j, hj, rfl, HO, HV⟩ := hrel
        have hvs := HV.out.size
        by_cases hlj : j < N
        · obtain ⟨x, hx⟩ : ∃ x, ws.getD j 0 = x := ⟨_, rfl⟩
          have hcell : wr.cell? ⟨bc, off + j, none⟩ = some (.int .i64 (x : Int)) := by
            obtain ⟨b', o', e1, e2, h3⟩ := HCI.out (by rw [HCN.out]; omega)
            injection e1 with e1
            injection e1 with e1 e3
            subst e1
            subst e3
            have := h3 j (by rw [HCN.out]; omega)
            rw [nth_castT, hx] at this
            exact (HV.out.cell (p := ⟨bc, off + j, none⟩) (by show bc < _; omega)).trans this
          have hlk2 := grdTo_length ws i j
          have e1 := shr_mod (s := x) (k := i)
          obtain ⟨y, hy⟩ : ∃ y : Int, (if bP x i = true then 1 else 0) = y := ⟨_, rfl⟩
          have hy01 : 0 ≤ y ∧ y ≤ 1 := by rw [← hy]; split <;> omega
          have HNX : Hid (grdTo ws i (j + 1) = grdTo ws i j ++ [y]) := by show grdTo ws i (j + 1) = _; simp only [grdTo]; rw [hx, hy]
          rw [hy] at e1
          have w1 : IntKind.i64.wrap y = y := IntWalk.i64_in _ ⟨by omega, by omega⟩
          clear hx hy
          go_wp2_with (at_builtin; refine wpList_append_own_at _ rfl (.tmp 30) (.tmp 38) _ rfl wo.heap.size 3 i0 (.int .i64 0) 1 8 Try.underlying23 HI0.out HZ0.out HZ1.out HZ2.out rfl (by decide) _ _ _ rfl (HO.out.alloc _) ⟨wr.heap.size, 0, none⟩ 1 1 [.int .i64 y] rfl rfl (cell_one_new _ _ _) ?c2 ?c3 ?c4 ?c5 ?_)
          case c2 => first | rfl | (intro u hu; simp at hu; subst hu; rfl)
          case c3 => rw [hlk2]; unfold maxLen; omega
          case c4 => rw [hlk2]; omega
          case c5 => first | omega | (simp; omega)
          intro v' w6 hown hgrow _ _
          have HN : Hid (Grows w6 wo.heap.size v' (grdTo ws i (j + 1))) := by rw [HNX.out]; exact Grows.snoc (by rw [hlk2]; exact hown)
          have HV2 : Hid (Below wo.heap.size wo w6) := HO.out.below hgrow HV.out (Nat.le_refl _) hvs
          clear hown hgrow
          go_wp2_with fail
          go_roundw
          case rel => exact ⟨j + 1, by omega, by go_num, HN, HV2⟩
          case measure => simp [intOf]; omega
        · obtain rfl : j = N := by omega
          obtain ⟨An, cn, hv, hcn1, hcn2, hon⟩ := HO.out.own'
          have hln := grdTo_length ws i j
          rw [hln] at hv hcn1
          have HGV := Lib.hid (HGR.out.keep HV.out)
          have HON := Lib.hid hon
          have hLR : Hid (grdTo ws i j = grdRw ws i) := HROW.out i
          have HCI2 : Hid (Ints wr (· = bc) (some ⟨bc, off, none⟩) (castT ws)) := HCI.out.keep fun b e => by
            have e' : b = bc := e
            subst e'; exact HV.out.block b hbw
          subst hv
          clear hon
          go_wp2_with (at_builtin; refine wpList_append_own_at _ rfl (.tmp 40) (.tmp 42) _ rfl W.heap.size 23 i1 (.slice none 0 0) 1 24 Try.underlying33 HI1.out HY0.out HY1.out HY2.out rfl (by decide) _ _ _ rfl (HGV.out.alloc _) ⟨wr.heap.size, 0, none⟩ 1 1 [.slice An j cn] rfl rfl (cell_one_new _ _ _) ?d2 ?d3 ?d4 ?d5 ?_)
          case d2 => first | rfl | (intro u hu; simp at hu; subst hu; rfl)
          case d3 => rw [hlk]; unfold maxLen; omega
          case d4 => rw [hlk]; omega
          case d5 => first | omega | (simp; omega)
          intro v' w4 hown hgrow _ hat
          have HN : Hid (∃ (A : Nat → Option Addr) (C : Nat → Nat), GrowsR w4 W.heap.size w4.heap.size v' A C (grdRs ws (i + 1))) := by
            have := HGV.out.snoc HON.out (by rw [hln]; exact hcn1) hcn2 hws (by rw [hln, hlk]; exact hown) hgrow (by rcases hat with e | e; exact .inl e; exact .inr (by first | (rw [e]; done) | (rw [e]; simp; done) | (rw [e]; simp; omega)))
            rw [hLR.out] at this; exact this
          have HW2 : Hid (Below W.heap.size W w4) := HGV.out.below hgrow (belT HV0.out HV.out) (Nat.le_refl _) (by omega)
          have HCI3 : Hid (Ints w4 (· = bc) (some ⟨bc, off, none⟩) (castT ws)) := ints_grown HCI2.out (by omega) hgrow HNE.out
          have HNE2 : Hid (v'.ownBlock ≠ some bc) := by
            show v'.ownBlock ≠ some bc
            rcases hat with e | e
            · rw [e]; exact HNE.out
            · rw [e]; intro e2; injection e2 with e2; first | omega | (simp at e2; omega)
          have hbw4 : bc < w4.heap.size := by have := hgrow.size; simp at this; omega
          clear hown hgrow hat
          go_wp2_with fail
          go_roundw
          case rel => exact ⟨i + 1, by omega, by go_num, HN, HW2, HCI3, HNE2, hbw4⟩
          case measure => simp [intOf]; omega
    · obtain rfl : i = st.length := by omega
      go_wp2_with fail
      go_ret
      rw [HE.out]
      exact (NewTable.of (w := W) rfl HGR.out HV0.out).up HBW.out

theorem guardGame_spec (P : Int) (A : Option Addr) (c : Nat) (l : List Int) (hl : l.length ≤ maxLen) (w : World) (h : Ints w (fun b => b < w.heap.size) A l) :
    Calls Try.prog 27 #[twnV P A l.length c] w (NewTable w (grdI P l)) := by
  rcases hb : townB P l with _ | _
  · rw [grdI_no (waysI_no hb)]; exact guardGame_none P A c l hl w h (waysI_no hb)
  · obtain ⟨p, st, rfl, rfl, ht⟩ := town_nat hb
    rcases Nat.eq_zero_or_pos (waysT p st).length with e | e
    · have hw : waysI (p : Int) (castT st) = [] := by rw [waysI_yes ht, List.eq_nil_of_length_eq_zero e]; rfl
      rw [grdI_no hw]; exact guardGame_none _ A c _ hl w h hw
    · rw [grdI_yes ht e, castT_length]; exact guardGame_some ht e A c w h

end Go.Proofs.Ytcminkifdbdaaaa
