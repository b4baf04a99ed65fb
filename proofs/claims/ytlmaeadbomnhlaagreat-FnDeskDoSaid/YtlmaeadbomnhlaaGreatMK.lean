/- Texts in one: ImplH, ImplI, ImplJ, ImplK, ImplL. -/
import Derived.Test.YtlmaeadbomnhlaaGreatMJ
import Derived.Test.YtlmaeadbomnhlaaGreatMF
import Derived.Test.YtlmaeadbomnhlaaGreatMG
import Derived.Deep.RegionWith
namespace Go.Proofs.YtlmaeadbomnhlaaGreat
set_option linter.unusedSimpArgs false
set_option linter.unusedVariables false
open Go.RowKit
structure Shape (g : List (List Int)) (m : Nat) : Prop where
  lo : 1 ≤ g.length
  hi : g.length ≤ 16
  mlo : 1 ≤ m
  mhi : m ≤ 16
  len : ∀ i, i < g.length → (rowAt g i).length = m
set_option maxHeartbeats 1000000 in
theorem columnsShape (A : Option Addr) (c : Nat) (g : List (List Int)) (m : Nat) (hg : Shape g m) (w : World) (h : Rows2 w (· < w.heap.size) A g) :
    Calls Tryz.prog 66 #[.slice A g.length c] w (NewRows w (cols g)) := by
  have h1 := hg.lo
  have hm := hg.len 0 (by omega)
  subst hm
  have h2 := hg.hi
  have h3 := hg.mlo
  have h4 := hg.mhi
  have hmk1 := run_make_row' (P := Tryz.prog) 23 52 _ 24 Tryz.underlying23 infoR rfl .i64 .i64 (rowAt g 0).length (by omega) (by omega)
  obtain ⟨b, off, rfl⟩ := h.some (by omega)
  obtain ⟨hS, A0, c0, hc0, hl0, hm0, _⟩ := h.row (i := 0) (by omega)
  rw [Nat.add_zero] at hc0
  unfold maxLen at hm0
  have HG := Lib.hid hg
  have HH := Lib.hid h
  have HL := Lib.hid (cols_length g)
  have F0 : Hid (Laying w (w.alloc (.cells (madeCells #[.slice none 0 0] (rowAt g 0).length) 52)) (cols g) 0) := by
    have := Laying.start w (cols g); rw [HL.out] at this; exact this
  clear h hg
  go_enter Tryz.func66, Tryz.ntmps66
  go_wp2_with fail
  clear hmk1 hc0
  go_loopw [14] (fun i wr => ∃ k : Nat, k ≤ (rowAt g 0).length ∧ i = .int .i64 k ∧ Hid (Laying w wr (cols g) k)) (fun i _ => (rowAt g 0).length - (intOf i).toNat)
  case atStart => exact ⟨0, Nat.zero_le _, rfl, F0⟩
  case round =>
    obtain ⟨k, hk, rfl, HF⟩ := hrel
    by_cases hlt : k < (rowAt g 0).length
    · have HC := Lib.hid (rowAt_cols_length g k hlt)
      have hlt' : k < (cols g).length := by rw [HL.out]; exact hlt
      have hmk2 := run_make_row' (P := Tryz.prog) 52 3 _ 8 Tryz.underlying52 infoI rfl .i64 .i64 g.length (by omega) (by omega)
      have hst1 : ∀ o, (wr.alloc o).cell? ⟨w.heap.size, k, none⟩ = some (.slice none 0 0) := fun o => by
        have := ((HF.out.top).alloc o).cell (i := k) hlt'; rwa [if_neg (by omega)] at this
      have hst2 : ∀ o, (wr.alloc o).frozen? ⟨w.heap.size, k, none⟩ = false := fun o => (HF.out.top.alloc o).frozen k
      have HI : Hid (LayIn w ((wr.alloc (.cells (madeCells #[.int .i64 0] g.length) 3)).setCell ⟨w.heap.size, k, none⟩ (.slice (some ⟨wr.heap.size, 0, none⟩) g.length g.length)) (cols g) k 0) := by
        have := HF.out.open_; rw [HC.out] at this; exact this
      go_wp2_with fail
      clear hmk2 hst1 hst2
      go_loopw [25] (fun i wi => ∃ r : Nat, r ≤ g.length ∧ i = .int .i64 r ∧ Hid (LayIn w wi (cols g) k r)) (fun i _ => g.length - (intOf i).toNat)
      case atStart => exact ⟨0, Nat.zero_le _, rfl, HI⟩
      case round =>
        obtain ⟨r, hr, rfl, HI⟩ := hrel
        by_cases hlr : r < g.length
        · have R := keepRows HI.out.bel HH.out
          obtain ⟨b2, off2, c2, hd1, hd2, hd3, hS2, hd0⟩ := R.cell (i := r) (j := k) hlr (by rw [HG.out.len r hlr]; exact hlt)
          have hlk : k < (rowAt g r).length := by rw [HG.out.len r hlr]; exact hlt
          unfold maxLen at hd3
          have g1 : wr.cell? ⟨w.heap.size, k, none⟩ = some (.slice (some ⟨w.heap.size + 1 + k, 0, none⟩) g.length g.length) := by have := HI.out.cell hlt'; rwa [HC.out] at this
          have g2 : ∃ z, wr.cell? ⟨w.heap.size + 1 + k, r, none⟩ = some z := ⟨_, HI.out.cur.cell (i := r) (by rw [HC.out]; exact hlr)⟩
          obtain ⟨z, g2⟩ := g2
          have g3 : wr.frozen? ⟨w.heap.size + 1 + k, r, none⟩ = false := HI.out.cur.frozen r
          have HN : Hid (LayIn w (wr.setCell ⟨w.heap.size + 1 + k, r, none⟩ (.int .i64 (nth (rowAt g r) k))) (cols g) k (r + 1)) := by
            have := HI.out.step; rw [nth_cols g k r hlt hlr] at this; exact this
          have q1 : (0 : Int) ≤ (k : Int) := by omega
          have q2 : (k : Int) < ((rowAt g r).length : Int) := by omega
          have q3 : (0 : Int) ≤ (r : Int) := by omega
          have q4 : (r : Int) < (g.length : Int) := by omega
          have q5 : (k : Int) < ((rowAt g 0).length : Int) := by omega
          clear HI R
          go_wp2_with fail
          go_region
          all_goals go_wp2_with fail
          all_goals go_roundw
          all_goals first | (simp [intOf]; omega) | exact ⟨r + 1, by omega, by go_num, HN.out.drew⟩
        · obtain rfl : r = g.length := by omega
          have HN : Hid (Laying w wr (cols g) (k + 1)) := by
            have := HI.out; rw [← HC.out] at this; exact this.close
          go_wp2_with fail
          go_roundw
          case rel => exact ⟨k + 1, by omega, by go_num, HN⟩
          case measure => simp [intOf]; omega
    · obtain rfl : k = (rowAt g 0).length := by omega
      go_wp2_with fail
      go_ret
      have HD := HF.out
      rw [← HL.out] at HD
      exact ⟨by rw [HL.out]; rfl, HD⟩
theorem gcdN_up {l : List Int} {B : Int} (hB : 0 ≤ B) : ∀ k, (∀ i, i < k → -B ≤ nth l i ∧ nth l i ≤ B) → gcdN l k ≤ B
  | 0, _ => hB
  | k + 1, h => by
    have ih := gcdN_up hB k (fun i hi => h i (by omega))
    have hk := h k (by omega)
    simp only [gcdN]
    by_cases e : nth l k = 0
    · rw [e, gcdI_zero]; have := gcdN_nonneg l k; omega
    · have := gcdI_le_right (gcdN l k) (nth l k) e; omega
def WRes (w : World) (l : List Int) (e : Ending) (w' : World) : Prop :=
  ∃ (A : Option Addr) (c : Nat), e = .returned (.tuple #[.slice A (wV l).length c, .bool (wOk l)]) ∧ Below w.heap.size w w' ∧ Ints w' (· < w'.heap.size) A (wV l)
theorem WRes.no {w w' : World} {l : List Int} {x : Value} (h : wOk l = false) (hx : x = .tuple #[.slice none 0 0, .bool false]) (hb : Below w.heap.size w w') : WRes w l (.returned x) w' := by
  have e : wV l = [] := by simp [wV, h]
  exact ⟨none, 0, by rw [hx, e, h]; rfl, hb, by rw [e]; exact Ints.nil _ _ _⟩
set_option maxHeartbeats 1000000 in
set_option maxRecDepth 100000 in
theorem weightsI (A : Option Addr) (c : Nat) (l : List Int) (hl : l.length ≤ 4) (hb : ∀ i, i < l.length → -20000 ≤ nth l i ∧ nth l i ≤ 20000) (w : World) (h : Ints w (· < w.heap.size) A l) :
    Calls Tryz.prog 64 #[.slice A l.length c] w (WRes w l) := by
  have HB := Lib.hid hb
  have HR := Lib.hid h
  have hmk := run_make_row' (P := Tryz.prog) 52 3 _ 8 Tryz.underlying52 infoI rfl .i64 .i64 l.length (by omega) (by omega)
  have HS : Hid (∀ w', Ints w' (· < w'.heap.size) A l → Calls Tryz.prog 87 #[.slice A l.length c] w' (Same (.int .i64 (wS l)) w')) := fun w' h' =>
    sumOfI 20000 (by omega) A c l _ (by omega) (fun i hi => by have := HB.out i hi; omega) w' h'
  have HG : Hid (∀ k, k ≤ l.length → 0 ≤ gcdN l k ∧ gcdN l k ≤ 20000) := fun k hk => ⟨gcdN_nonneg l k, gcdN_up (by omega) k (fun i hi => HB.out i (by omega))⟩
  clear h hb
  obtain ⟨s, hs⟩ : ∃ s, wS l = s := ⟨_, rfl⟩
  rw [hs] at HS
  have HSS := Lib.hid hs
  clear hs
  go_enter Tryz.func64, Tryz.ntmps64
  go_wp2_with (go_at_call 87; refine (HS.out _ HR.out).mono ?_; rintro e w1 ⟨rfl, rfl⟩)
  go_loopw [5, 15] (fun v i wr => ∃ k : Nat, k ≤ l.length ∧ i = .int .i64 k ∧ v = .int .i64 (gcdN l k) ∧ Hid (Below w.heap.size w wr)) (fun _ i _ => 5 - (intOf i).toNat)
  case atStart => exact ⟨0, Nat.zero_le _, rfl, rfl, Below.refl _ _⟩
  case round =>
    obtain ⟨k, hk, rfl, rfl, HW⟩ := hrel
    by_cases hlt : k < l.length
    · obtain ⟨b, off, rfl, hS, hc⟩ := (keepInts HW.out HR.out).at_ hlt
      have hck := hc k hlt
      clear hc
      have h1 := HG.out k hk
      have h2 := HB.out k hlt
      have hstep : gcdN l (k + 1) = gcdI (gcdN l k) (nth l k) := rfl
      have HST := Lib.hid hstep
      clear hstep
      go_wp2_with (go_at_call 45; refine (divisor_int _ _ (by omega) (by omega) (by omega) (by omega) _).mono ?_; rintro e w1 ⟨rfl, hb1⟩)
      go_roundw
      case rel => exact ⟨k + 1, by omega, by go_num, by rw [HST.out], belT HW.out hb1⟩
      case measure => simp [intOf]; omega
    · obtain rfl : k = l.length := by omega
      have h1 := HG.out l.length (Nat.le_refl _)
      by_cases hz : s = 0
      · have e1 : (s == 0) = true := by simp [hz]
        have HN := Lib.hid (wOk_zero (l := l) (by rw [HSS.out]; exact hz))
        clear hz
        go_wp2_with fail
        go_ret2
        exact WRes.no HN.out rfl HW.out
      · have e1 : (s == 0) = false := by simp [hz]
        have hz' : wS l ≠ 0 := by rw [HSS.out]; exact hz
        have HZ := Lib.hid hz'
        have hgp := gcdN_pos hz'
        have HE : Hid (∀ i, i < l.length → (nth l i).tdiv (wE l * gcdN l l.length) = nth (lowL (wL l)) i) := fun i hi => weight_eq HZ.out hi
        have HV : Hid ((lowL (wL l)).length = l.length) := by show _ = _; rw [lowL_length, wL_length]
        obtain ⟨d, hd⟩ : ∃ d, wE l * gcdN l l.length = d := ⟨_, rfl⟩
        obtain ⟨gg, hgg⟩ : ∃ gg, gcdN l l.length = gg := ⟨_, rfl⟩
        rw [hd] at HE
        rw [hgg] at h1 hgp hd
        by_cases hneg : s < 0
        · have he : wE l = -1 := by unfold wE; rw [HSS.out, if_pos hneg]
          rw [he] at hd
          have hd2 : d = -gg := by omega
          have w1 : IntKind.i64.wrap (-gg) = d := by rw [hd2]; exact IntWalk.i64_in _ (by omega)
          have w2 : wrap64 (-gg) = d := by rw [hd2]; unfold wrap64; omega
          have hdz : d ≠ 0 := by omega
          clear hd he hd2
          go_wp2_with fail
          clear hmk
          have F0 : Hid (Filled wr (wr.alloc (.cells (madeCells #[.int .i64 0] l.length) 3)) (lowL (wL l)) 0) := by
            have := Filled.start wr (lowL (wL l)); rw [HV.out] at this; exact this
          obtain ⟨wb, rfl⟩ : ∃ wb : World, wb = wr := ⟨_, rfl⟩
          go_loopw [34] (fun i wr => ∃ k : Nat, k ≤ l.length ∧ i = .int .i64 k ∧ Hid (∀ j, j < k → 0 ≤ nth (lowL (wL l)) j) ∧ Hid (Filled wb wr (lowL (wL l)) k)) (fun i _ => 5 - (intOf i).toNat)
          case atStart => exact ⟨0, Nat.zero_le _, rfl, fun j hj => absurd hj (Nat.not_lt_zero _), F0.out⟩
          case round =>
            obtain ⟨k, hk, rfl, HP, HF⟩ := hrel
            by_cases hlt : k < l.length
            · obtain ⟨b, off, rfl, hS, hc⟩ := (keepInts (belT HW.out HF.out.bel) HR.out).at_ hlt
              have hck := hc k hlt
              clear hc
              have h2 := HB.out k hlt
              have hti := tdiv_in (nth l k) d h2.1 h2.2
              have hq := HE.out k hlt
              obtain ⟨x, hx⟩ : ∃ x, nth (lowL (wL l)) k = x := ⟨_, rfl⟩
              rw [hx] at hq
              rw [hq] at hti
              have hwx : IntKind.i64.wrap x = x := IntWalk.i64_in _ (by omega)
              have hwx2 : wrap64 x = x := by unfold wrap64; omega
              have hlt' : k < (lowL (wL l)).length := by rw [HV.out]; exact hlt
              have hcell := HF.out.row.cell (i := k) hlt'
              have hfr := HF.out.row.frozen k
              have HN2 : Hid (Filled wb (wr.setCell ⟨wb.heap.size, k, none⟩ (.int .i64 x)) (lowL (wL l)) (k + 1)) := by
                have := HF.out.step; rw [hx] at this; exact this
              have hcell2 : (wr.setCell ⟨wb.heap.size, k, none⟩ (.int .i64 x)).cell? ⟨wb.heap.size, k, none⟩ = some (.int .i64 x) := by
                have := HN2.out.row.cell (i := k) hlt'; rw [if_pos (by omega), hx] at this; exact this
              have HX := Lib.hid hx
              clear hx
              by_cases hxn : x < 0
              · have HNO := Lib.hid (wOk_neg HZ.out hlt (by rw [HX.out]; exact hxn))
                go_wp2_with fail
                go_ret2
                exact WRes.no HNO.out rfl (belT HW.out HN2.out.bel)
              · go_wp2_with fail
                go_roundw
                case rel => exact ⟨k + 1, by omega, by go_num, fun j hj => (by
                  by_cases e : j = k
                  · subst e; rw [HX.out]; omega
                  · exact HP.out j (by omega)), HN2⟩
                case measure => simp [intOf]; omega
            · obtain rfl : k = l.length := by omega
              have HYES := Lib.hid (wOk_yes HZ.out HP.out)
              have HVV : Hid (wV l = lowL (wL l)) := by show _ = _; unfold wV; rw [if_pos HYES.out]
              have HD : Hid (IntRow wr wb.heap.size (lowL (wL l))) := by have := HF.out; rw [← HV.out] at this; exact this.done
              have hsz := HF.out.size
              go_wp2_with fail
              go_ret2
              exact ⟨some ⟨wb.heap.size, 0, none⟩, l.length, by rw [HVV.out, HV.out, HYES.out]; rfl, belT HW.out HF.out.bel, by rw [HVV.out]; exact HD.out.ints (by rw [hsz]; omega)⟩
        · have he : wE l = 1 := by unfold wE; rw [HSS.out, if_neg hneg]
          rw [he, Int.one_mul] at hd
          subst hd
          have hdz : gg ≠ 0 := by omega
          clear he
          go_wp2_with fail
          clear hmk
          have F0 : Hid (Filled wr (wr.alloc (.cells (madeCells #[.int .i64 0] l.length) 3)) (lowL (wL l)) 0) := by
            have := Filled.start wr (lowL (wL l)); rw [HV.out] at this; exact this
          obtain ⟨wb, rfl⟩ : ∃ wb : World, wb = wr := ⟨_, rfl⟩
          go_loopw [34] (fun i wr => ∃ k : Nat, k ≤ l.length ∧ i = .int .i64 k ∧ Hid (∀ j, j < k → 0 ≤ nth (lowL (wL l)) j) ∧ Hid (Filled wb wr (lowL (wL l)) k)) (fun i _ => 5 - (intOf i).toNat)
          case atStart => exact ⟨0, Nat.zero_le _, rfl, fun j hj => absurd hj (Nat.not_lt_zero _), F0.out⟩
          case round =>
            obtain ⟨k, hk, rfl, HP, HF⟩ := hrel
            by_cases hlt : k < l.length
            · obtain ⟨b, off, rfl, hS, hc⟩ := (keepInts (belT HW.out HF.out.bel) HR.out).at_ hlt
              have hck := hc k hlt
              clear hc
              have h2 := HB.out k hlt
              have hti := tdiv_in (nth l k) gg h2.1 h2.2
              have hq := HE.out k hlt
              obtain ⟨x, hx⟩ : ∃ x, nth (lowL (wL l)) k = x := ⟨_, rfl⟩
              rw [hx] at hq
              rw [hq] at hti
              have hwx : IntKind.i64.wrap x = x := IntWalk.i64_in _ (by omega)
              have hwx2 : wrap64 x = x := by unfold wrap64; omega
              have hlt' : k < (lowL (wL l)).length := by rw [HV.out]; exact hlt
              have hcell := HF.out.row.cell (i := k) hlt'
              have hfr := HF.out.row.frozen k
              have HN2 : Hid (Filled wb (wr.setCell ⟨wb.heap.size, k, none⟩ (.int .i64 x)) (lowL (wL l)) (k + 1)) := by
                have := HF.out.step; rw [hx] at this; exact this
              have hcell2 : (wr.setCell ⟨wb.heap.size, k, none⟩ (.int .i64 x)).cell? ⟨wb.heap.size, k, none⟩ = some (.int .i64 x) := by
                have := HN2.out.row.cell (i := k) hlt'; rw [if_pos (by omega), hx] at this; exact this
              have HX := Lib.hid hx
              clear hx
              by_cases hxn : x < 0
              · have HNO := Lib.hid (wOk_neg HZ.out hlt (by rw [HX.out]; exact hxn))
                go_wp2_with fail
                go_ret2
                exact WRes.no HNO.out rfl (belT HW.out HN2.out.bel)
              · go_wp2_with fail
                go_roundw
                case rel => exact ⟨k + 1, by omega, by go_num, fun j hj => (by
                  by_cases e : j = k
                  · subst e; rw [HX.out]; omega
                  · exact HP.out j (by omega)), HN2⟩
                case measure => simp [intOf]; omega
            · obtain rfl : k = l.length := by omega
              have HYES := Lib.hid (wOk_yes HZ.out HP.out)
              have HVV : Hid (wV l = lowL (wL l)) := by show _ = _; unfold wV; rw [if_pos HYES.out]
              have HD : Hid (IntRow wr wb.heap.size (lowL (wL l))) := by have := HF.out; rw [← HV.out] at this; exact this.done
              have hsz := HF.out.size
              go_wp2_with fail
              go_ret2
              exact ⟨some ⟨wb.heap.size, 0, none⟩, l.length, by rw [HVV.out, HV.out, HYES.out]; rfl, belT HW.out HF.out.bel, by rw [HVV.out]; exact HD.out.ints (by rw [hsz]; omega)⟩
end Go.Proofs.YtlmaeadbomnhlaaGreat

namespace Go.Proofs.YtlmaeadbomnhlaaGreat
set_option linter.unusedSimpArgs false
set_option linter.unusedVariables false
open Go.RowKit
structure Sprd (w wr : World) (P : Nat → Bool) (x : List Int) (n k : Nat) : Prop where
  bel : Below w.heap.size w wr
  row : wr.rowIs w.heap.size 3 n (fun j => .int .i64 (if (P j && decide (cnt P j < k)) = true then nth x (cnt P j) else 0))
theorem Sprd.start (w : World) (P : Nat → Bool) (x : List Int) (n : Nat) : Sprd w (w.alloc (.cells (madeCells #[.int .i64 0] n) 3)) P x n 0 :=
  ⟨(Below.refl _ _).alloc (Nat.le_refl _) _, (World.rowIs_made w _ n _).congr (fun i _ => by simp)⟩
theorem Sprd.still {w wr w2 : World} {P : Nat → Bool} {x : List Int} {n k : Nat} (h : Sprd w wr P x n k) (hb : Below wr.heap.size wr w2) : Sprd w w2 P x n k :=
  ⟨belT h.bel hb, h.row.of_block (hb.block _ h.row.lt)⟩
theorem Sprd.step {w wr : World} {P : Nat → Bool} {x : List Int} {n k a : Nat} (h : Sprd w wr P x n k) (ha : a < n) (hp : P a = true) (hc : cnt P a = k) : Sprd w (wr.setCell ⟨w.heap.size, a, none⟩ (.int .i64 (nth x k))) P x n (k + 1) := by
  refine ⟨h.bel.setCell (Nat.le_refl _) _, (h.row.set a _).congr (fun j hj => ?_)⟩
  by_cases e : j = a
  · subst e; simp [hp, hc]
  · rw [if_neg e]
    by_cases hpj : P j = true
    · have hne : cnt P j ≠ k := by
        intro he
        have h1 := sel_cnt (P := P) (i := j) (k := n) hj hpj
        have h2 := sel_cnt (P := P) (i := a) (k := n) ha hp
        rw [he] at h1; rw [hc] at h2; omega
      by_cases hlt : cnt P j < k
      · simp [hpj, hlt, show cnt P j < k + 1 by omega]
      · simp [hpj, hlt, show ¬ cnt P j < k + 1 by omega]
    · simp [hpj]
theorem Sprd.done {w wr : World} {P : Nat → Bool} {x : List Int} {n k : Nat} (h : Sprd w wr P x n k) (hk : cnt P n ≤ k) : IntRow wr w.heap.size (spr P x n) := by
  have := h.row
  rw [← spr_length P x n] at this
  refine this.congr (fun i hi => ?_)
  rw [spr_length] at hi
  rw [nth_spr P x hi]
  by_cases hp : P i = true
  · have := cnt_lt hi hp
    simp [hp, show cnt P i < k by omega]
  · simp [hp]
theorem cnt_upto {P : Nat → Bool} {k m : Nat} (hk : k ≤ m) (h : ∀ i, k ≤ i → i < m → P i = false) : cnt P m = cnt P k := by
  induction m with
  | zero => have : k = 0 := (by omega); rw [this]
  | succ m ih =>
    by_cases e : k = m + 1
    · rw [e]
    · rw [cnt_no (h m (by omega) (by omega))]; exact ih (by omega) (fun i h1 h2 => h i h1 (by omega))
set_option maxHeartbeats 1000000 in
set_option maxRecDepth 100000 in
theorem spreadI (A : Option Addr) (c : Nat) (x : List Int) (s n : Nat) (hs : s < 16) (hn : n ≤ 4) (hp : ∀ i, bP s i = true → i < n) (hx : x.length = cnt (bP s) 4) (w : World) (h : Ints w (· < w.heap.size) A x) :
    Calls Tryz.prog 67 #[.int .i64 (s : Nat), .slice A x.length c, .int .i64 (n : Nat)] w (NewInts w (spr (bP s) x n)) := by
  have hcn : cnt (bP s) 4 = cnt (bP s) n := cnt_upto hn (fun i h1 _ => by
    by_cases e : bP s i = true
    · have := hp i e; omega
    · simpa using e)
  have hmk := run_make_row' (P := Tryz.prog) 52 3 _ 8 Tryz.underlying52 infoI rfl .i64 .i64 n (by omega) (by omega)
  have HP := fun w' => places s hs w'
  have HPP := Lib.hid hp
  have HR := Lib.hid h
  have HX := Lib.hid hx
  have c4 := cnt_le (bP s) 4
  have hx4 : x.length ≤ 4 := by omega
  have hle : cnt (bP s) n ≤ cnt (bP s) 4 := by omega
  have HCN := Lib.hid hle
  have F0 := Lib.hid (Sprd.start w (bP s) x n)
  have elr := plc_length s
  clear h hp hx hcn hle
  go_enter Tryz.func67, Tryz.ntmps67
  go_wp2_with (go_at_call 86; refine (HP _).mono ?_; rintro e w1 ⟨A1, c1, rfl, hb1, ho1⟩)
  clear hmk
  have F1 := Lib.hid (F0.out.still hb1)
  have HO1 := Lib.hid ho1
  clear ho1 hb1 F0
  try rw [elr]
  go_loopw [15] (fun i wr => ∃ k : Nat, k ≤ cnt (bP s) 4 ∧ i = .int .i64 k ∧ Hid (Sprd w wr (bP s) x n k) ∧ Hid (Below (w.heap.size) w wr) ∧ Hid (∀ b, b ≠ w.heap.size → b < w1.heap.size → wr.heap[b]? = w1.heap[b]?)) (fun i _ => 5 - (intOf i).toNat)
  case atStart => exact ⟨0, Nat.zero_le _, rfl, F1.out, F1.out.bel, fun _ _ _ => rfl⟩
  case round =>
    obtain ⟨k, hk, rfl, HF, HW, HK⟩ := hrel
    by_cases hlt : k < cnt (bP s) 4
    · have hsel := sel_at hlt
      obtain ⟨a, ha⟩ : ∃ a, (sel (bP s) 4).getD k 0 = a := ⟨_, rfl⟩
      have hna := nth_plc s k hlt
      rw [ha] at hsel hna
      have hag := HPP.out a hsel.2.1
      have R1 : Ints w1 (fun b => b ≠ w.heap.size ∧ b < w1.heap.size) A1 (plc s) := HO1.out.ints.mono fun b hb => ⟨by have := hb.1; simp at this; omega, hb.2⟩
      obtain ⟨ba, oa, hA, hS1, hc1⟩ := (R1.keep (fun b hb => HK.out b hb.1 hb.2)).at_ (i := k) (by rw [elr]; exact hlt)
      have hcA := hc1 k (by rw [elr]; exact hlt)
      rw [hna] at hcA
      subst hA
      obtain ⟨bx, ox, rfl, hSx, hcx⟩ := (keepInts HW.out HR.out).at_ (i := k) (by rw [HX.out]; exact hlt)
      have hcX := hcx k (by rw [HX.out]; exact hlt)
      have hcell := HF.out.row.cell (i := a) hag
      have hfr := HF.out.row.frozen a
      have HN := Lib.hid (HF.out.step hag hsel.2.1 hsel.2.2)
      have HK2 : Hid (∀ b, b ≠ w.heap.size → b < w1.heap.size → (wr.setCell ⟨w.heap.size, a, none⟩ (.int .i64 (nth x k))).heap[b]? = w1.heap[b]?) := fun b h1 h2 => by
        rw [Below.heap_setCell _ _ _ _ (by simpa using h1)]; exact HK.out b h1 h2
      have hkx : k < x.length := by rw [HX.out]; exact hlt
      clear hsel hna ha R1 hc1 hcx
      go_wp2_with fail
      go_roundw
      case rel => exact ⟨k + 1, by omega, by go_num, HN, HN.out.bel, HK2⟩
      case measure => simp [intOf]; omega
    · have hk4 : k = cnt (bP s) 4 := by omega
      have HD : Hid (IntRow wr w.heap.size (spr (bP s) x n)) := HF.out.done (by have := HCN.out; omega)
      have HL := Lib.hid (spr_length (bP s) x n)
      subst hk4
      go_wp2_with fail
      go_ret
      exact ⟨by rw [HL.out]; rfl, HF.out.bel, HF.out.row.lt, HD.out⟩
def solB' (g : List (List Int)) : Bool := gameB g && decide (g.length ≤ 4) && decide ((rowAt g 0).length ≤ 4)
set_option maxHeartbeats 1000000 in
theorem solvedOkI (T : Option Addr) (c : Nat) (g : List (List Int)) (S : Nat → Prop) (hl : g.length ≤ maxLen) (w : World) (h : Rows2 w S T g) :
    Calls Tryz.prog 43 #[.slice T g.length c] w (Same (.bool (solB' g)) w) := by
  have HG : Hid (∀ w', Rows2 w' S T g → Calls Tryz.prog 58 #[.slice T g.length c] w' (Same (.bool (gameB g)) w')) := fun w' h' => game_impl T c g S hl w' h'
  have HR := Lib.hid h
  unfold maxLen at hl
  rcases hb : gameB g with _ | _
  · have hf : solB' g = false := by simp [solB', hb]
    rw [hb] at HG
    rw [hf]
    clear hb h hf
    go_enter Tryz.func43, Tryz.ntmps43
    go_wp2_with (go_at_call 58; refine (HG.out _ HR.out).mono ?_; rintro e w1 ⟨rfl, rfl⟩)
    go_ret
    exact Same.of rfl
  · have hg := Game.of hb
    have hp := hg.lo
    obtain ⟨b, off, rfl⟩ := h.some (by omega)
    obtain ⟨hS, A0, c0, hc0, hl0, hm0, _⟩ := h.row (i := 0) (by omega)
    rw [Nat.add_zero] at hc0
    unfold maxLen at hm0
    have hp2 : (0 : Int) < (g.length : Int) := by omega
    rw [hb] at HG
    by_cases h4 : g.length ≤ 4
    · have hf : solB' g = decide ((rowAt g 0).length ≤ 4) := by simp [solB', hb, h4]
      rw [hf]
      clear hb h hf hg
      go_enter Tryz.func43, Tryz.ntmps43
      go_wp2_with (go_at_call 58; refine (HG.out _ HR.out).mono ?_; rintro e w1 ⟨rfl, rfl⟩)
      go_ret
      exact Same.of (by simp; try omega)
    · have hf : solB' g = false := by simp [solB', h4]
      have hd : decide ((g.length : Int) ≤ 4) = false := by simp; omega
      rw [hf]
      clear hb h hf hg
      go_enter Tryz.func43, Tryz.ntmps43
      go_wp2_with (go_at_call 58; refine (HG.out _ HR.out).mono ?_; rintro e w1 ⟨rfl, rfl⟩)
      go_ret
      exact Same.of rfl
end Go.Proofs.YtlmaeadbomnhlaaGreat

namespace Go.Proofs.YtlmaeadbomnhlaaGreat
set_option linter.unusedSimpArgs false
set_option linter.unusedVariables false
open Go.RowKit
def tolB (g : List (List Int)) (rows cols : Int) : Bool := inR rows 1 (pw g.length) && inR cols 1 (pw (rowAt g 0).length) && (popN rows.toNat == popN cols.toNat)
theorem inR_nat {n : Int} {m : Nat} (hm : m ≤ 4) (h : inR n 1 (pw m) = true) : ∃ r : Nat, n = (r : Int) ∧ 1 ≤ r ∧ r < 2 ^ m ∧ r < 16 := by
  have h' := h
  unfold inR at h'
  rw [decide_eq_true_eq] at h'
  obtain ⟨r, rfl⟩ := Int.eq_ofNat_of_zero_le (a := n) (by omega)
  obtain ⟨h1, h2⟩ := pw_lt h
  have := pw_le hm
  exact ⟨r, rfl, h1, h2, by omega⟩
set_option maxHeartbeats 1000000 in
theorem partToldI (T : Option Addr) (c : Nat) (g : List (List Int)) (rows cols : Int) (S : Nat → Prop) (h0 : 0 < g.length) (h4 : g.length ≤ 4) (hn4 : (rowAt g 0).length ≤ 4) (w : World) (h : Rows2 w S T g) :
    Calls Tryz.prog 61 #[.slice T g.length c, .int .i64 rows, .int .i64 cols] w (Same (.bool (tolB g rows cols)) w) := by
  have HT := fun (w' : World) => setToldI rows g.length h4 w'
  have HU := fun (w' : World) => setToldI cols (rowAt g 0).length hn4 w'
  obtain ⟨b, off, rfl⟩ := h.some h0
  obtain ⟨hS, A0, c0, hc0, hl0, hm0, _⟩ := h.row (i := 0) h0
  rw [Nat.add_zero] at hc0
  unfold maxLen at hm0
  have hp2 : (0 : Int) < (g.length : Int) := by omega
  clear h
  rcases hr : inR rows 1 (pw g.length) with _ | _
  · have hf : tolB g rows cols = false := by simp [tolB, hr]
    rw [hf]
    rw [hr] at HT
    clear hr hf HU
    go_enter Tryz.func61, Tryz.ntmps61
    go_wp2_with (go_at_call 84; refine (HT _).mono ?_; rintro e w1 ⟨rfl, rfl⟩)
    go_ret
    exact Same.of rfl
  rcases hq : inR cols 1 (pw (rowAt g 0).length) with _ | _
  · have hf : tolB g rows cols = false := by simp [tolB, hq]
    rw [hf]
    rw [hr] at HT
    rw [hq] at HU
    clear hr hf hq
    go_enter Tryz.func61, Tryz.ntmps61
    go_wp2_with fail
    refine (HT _).mono ?_
    rintro e w1 ⟨rfl, rfl⟩
    go_wp2_with fail
    refine (HU _).mono ?_
    rintro e w1 ⟨rfl, rfl⟩
    go_wp2_with fail
    go_ret
    exact Same.of rfl
  obtain ⟨r, rfl, hr1, hr2, hr16⟩ := inR_nat h4 hr
  obtain ⟨q, rfl, hq1, hq2, hq16⟩ := inR_nat hn4 hq
  have hf : tolB g (r : Int) (q : Int) = (((popN r : Nat) : Int) == ((popN q : Nat) : Int)) := by
    simp [tolB, hr, hq]
    rw [Bool.eq_iff_iff, beq_iff_eq, beq_iff_eq]; omega
  have HA := fun (w' : World) => sizeOfI r hr16 w'
  have HB := fun (w' : World) => sizeOfI q hq16 w'
  rw [hf]
  rw [hr] at HT
  rw [hq] at HU
  clear hr hf hq hr1 hr2 hq1 hq2
  go_enter Tryz.func61, Tryz.ntmps61
  go_wp2_with fail
  refine (HT _).mono ?_
  rintro e w1 ⟨rfl, rfl⟩
  go_wp2_with fail
  refine (HU _).mono ?_
  rintro e w1 ⟨rfl, rfl⟩
  go_wp2_with fail
  refine (HA _).mono ?_
  rintro e w1 ⟨rfl, rfl⟩
  go_wp2_with fail
  refine (HB _).mono ?_
  rintro e w1 ⟨rfl, rfl⟩
  go_wp2_with fail
  go_ret
  exact Same.of rfl
theorem pop_pos {s : Nat} (h : s < 16) (h1 : 1 ≤ s) : 1 ≤ popN s := by
  rw [pop_tab h]
  rcases cases16 h with rfl | rfl | rfl | rfl | rfl | rfl | rfl | rfl | rfl | rfl | rfl | rfl | rfl | rfl | rfl | rfl <;> first | omega | decide
theorem sumT_X {p : List (List Int)} : sumT (cofT p) = sX p p.length := by
  refine ext_nth (by rw [sumT_length, cofT_length, sX_length]) (fun i hi => ?_)
  rw [sumT_length, cofT_length] at hi
  rw [nth_sumT _ (by rw [cofT_length]; exact hi), nth_sX _ hi, cofT_row_length p hi]
  exact sumI_congr (fun j hj => nth_cofT p hi hj)
theorem sumT_Y {p : List (List Int)} (h0 : 0 < p.length) : sumT (cols (cofT p)) = sY p p.length := by
  have hl : (rowAt (cofT p) 0).length = p.length := cofT_row_length p h0
  refine ext_nth (by rw [sumT_length, cols_length, sY_length, hl]) (fun i hi => ?_)
  rw [sumT_length, cols_length, hl] at hi
  rw [nth_sumT _ (by rw [cols_length, hl]; exact hi), nth_sY _ hi, rowAt_cols_length _ _ (by rw [hl]; exact hi), cofT_length]
  exact sumI_congr (fun j hj => by rw [nth_cols _ _ _ (by rw [hl]; exact hi) (by rw [cofT_length]; exact hj), nth_cofT p hj hi]; rfl)
theorem cofT_shape {p : List (List Int)} {k : Nat} (h : Square p k) (h0 : 1 ≤ k) (h4 : k ≤ 4) : Shape (cofT p) k := by
  have hl := h.len
  exact ⟨by rw [cofT_length]; omega, by rw [cofT_length]; omega, h0, by omega, fun i hi => by rw [cofT_length] at hi; rw [cofT_row_length p hi]; omega⟩
theorem cofT_bd {p : List (List Int)} {k : Nat} (h : Square p (k + 1)) (h4 : k ≤ 3) (i j : Nat) (hi : i < k + 1) (hj : j < k + 1) : -4374 ≤ nth (rowAt (cofT p) i) j ∧ nth (rowAt (cofT p) i) j ≤ 4374 := by
  have hl := h.len
  rw [nth_cofT p (by omega) (by omega)]
  exact cofA_bd h4 h hi hj
end Go.Proofs.YtlmaeadbomnhlaaGreat

namespace Go.Proofs.YtlmaeadbomnhlaaGreat
set_option linter.unusedSimpArgs false
set_option linter.unusedVariables false
open Go.RowKit
theorem TwoOwn.no {w w' : World} {x : Value} (hx : x = .tuple #[.slice none 0 0, .slice none 0 0, .bool false]) (hb : Below w.heap.size w w') : TwoOwn w [] [] false (.returned x) w' :=
  ⟨none, 0, none, 0, by rw [hx]; rfl, hb, fun h => absurd h (by simp), fun h => absurd h (by simp), fun h => absurd h (by simp)⟩
set_option maxHeartbeats 1000000 in
theorem ker_un (T : Option Addr) (c : Nat) (g : List (List Int)) (rows cols : Int) (hl : g.length ≤ maxLen) (w : World) (h : Rows2 w (· < w.heap.size) T g) (hs : solB' g = false) :
    Calls Tryz.prog 47 #[.slice T g.length c, .int .i64 rows, .int .i64 cols] w (TwoOwn w [] [] false) := by
  have HS := Lib.hid (solvedOkI T c g _ hl w h)
  rw [hs] at HS
  clear h hl hs
  go_enter Tryz.func47, Tryz.ntmps47
  go_wp2_with (go_at_call 43; refine HS.out.mono ?_; rintro e w1 ⟨rfl, rfl⟩)
  refine bodyPost_ret (v := .tuple #[.slice none 0 0, .slice none 0 0, .bool false]) (by simp [results, Tryz.results47, go_sem]) rfl (TwoOwn.no rfl (Below.refl _ _))
theorem solB'_parts {g : List (List Int)} (h : solB' g = true) : gameB g = true ∧ g.length ≤ 4 ∧ (rowAt g 0).length ≤ 4 := by
  unfold solB' at h; simp only [Bool.and_eq_true, decide_eq_true_eq] at h; exact ⟨h.1.1, h.1.2, h.2⟩
set_option maxHeartbeats 1000000 in
theorem ker_untold (T : Option Addr) (c : Nat) (g : List (List Int)) (rows cols : Int) (hl : g.length ≤ maxLen) (w : World) (h : Rows2 w (· < w.heap.size) T g) (hs : solB' g = true) (ht : tolB g rows cols = false) :
    Calls Tryz.prog 47 #[.slice T g.length c, .int .i64 rows, .int .i64 cols] w (TwoOwn w [] [] false) := by
  obtain ⟨h1, h2, h3⟩ := solB'_parts hs
  have h0 := (Game.of h1).lo
  have HS := Lib.hid (solvedOkI T c g _ hl w h)
  have HT := Lib.hid (partToldI T c g rows cols _ (by omega) h2 h3 w h)
  rw [hs] at HS
  rw [ht] at HT
  clear h hl hs ht h1 h2 h3 h0
  go_enter Tryz.func47, Tryz.ntmps47
  go_wp2_with (first | (go_at_call 43; refine HS.out.mono ?_; rintro e w1 ⟨rfl, rfl⟩) | (go_at_call 61; refine HT.out.mono ?_; rintro e w1 ⟨rfl, rfl⟩))
  refine bodyPost_ret (v := .tuple #[.slice none 0 0, .slice none 0 0, .bool false]) (by simp [results, Tryz.results47, go_sem]) rfl (TwoOwn.no rfl (Below.refl _ _))
set_option maxHeartbeats 2000000 in
set_option maxRecDepth 100000 in
theorem ker_told (T : Option Addr) (c : Nat) (g : List (List Int)) (r q : Nat) (hl : g.length ≤ maxLen) (w : World) (h : Rows2 w (· < w.heap.size) T g) (hs : solB' g = true) (ht : tolB g (r : Int) (q : Int) = true)
    (hr1 : 1 ≤ r) (hr2 : r < 2 ^ g.length) (hr : r < 16) (hq2 : q < 2 ^ (rowAt g 0).length) (hq : q < 16) (hpp : popN r = popN q) :
    Calls Tryz.prog 47 #[.slice T g.length c, .int .i64 (r : Nat), .int .i64 (q : Nat)] w (TwoOwn w (okX g r q) (okY g r q) (kOk g r q)) := by
  obtain ⟨h1, h2, h3⟩ := solB'_parts hs
  have hg := Game.of h1
  have h0 := hg.lo
  have hP : Part g r q (popN r) := ⟨hg, h2, h3, cnt_pop _ _ hr2, by rw [hpp]; exact cnt_pop _ _ hq2⟩
  have hk1 := pop_pos hr hr1
  have hk4 := hP.k4
  obtain ⟨k, hk⟩ : ∃ k, popN r = k + 1 := ⟨popN r - 1, by omega⟩
  rw [hk] at hP hk4
  have hsq := hP.square
  have hlen := hsq.len
  have hr4 : cnt (bP r) 4 = k + 1 := by rw [← hP.rows]; exact cnt_upto h2 (fun i h1 _ => bP_ge (k := g.length) (Nat.div_eq_of_lt hr2) h1)
  have hq4 : cnt (bP q) 4 = k + 1 := by rw [← hP.cols]; exact cnt_upto h3 (fun i h1 _ => bP_ge (k := (rowAt g 0).length) (Nat.div_eq_of_lt hq2) h1)
  have hrl : ∀ i, bP r i = true → i < g.length := fun i hi => by
    by_cases e : i < g.length
    · exact e
    · rw [bP_ge (k := g.length) (Nat.div_eq_of_lt hr2) (by omega)] at hi; cases hi
  have hql : ∀ i, bP q i = true → i < (rowAt g 0).length := fun i hi => by
    by_cases e : i < (rowAt g 0).length
    · exact e
    · rw [bP_ge (k := (rowAt g 0).length) (Nat.div_eq_of_lt hq2) (by omega)] at hi; cases hi
  have HS := Lib.hid (solvedOkI T c g _ hl w h)
  have HT := Lib.hid (partToldI T c g (r : Int) (q : Int) _ (by omega) h2 h3 w h)
  rw [hs] at HS
  rw [ht] at HT
  have HPT := Lib.hid (partOfI T c g r q hr hq hrl (fun i j hi hj => by rw [hg.len i (hrl i hi)]; exact hql j hj) w h)
  rw [prt_pt h2 h3 hr2 hq2] at HPT
  have hX := sumT_X (p := pt g r q)
  have hY := sumT_Y (p := pt g r q) (by omega)
  have hXl := sX_length (pt g r q) (k + 1)
  have hYl := sY_length (pt g r q) (k + 1)
  rw [hlen] at hX hY
  have hsh := cofT_shape hsq (by omega) hk4
  have hbd := cofT_bd hsq (by omega)
  have HC : Hid (∀ (T' : Option Addr) (c' : Nat) (w' : World), Rows2 w' (· < w'.heap.size) T' (pt g r q) → Calls Tryz.prog 62 #[.slice T' (pt g r q).length c'] w' (ReadT w' (cofT (pt g r q)))) := fun T' c' w' h' =>
    cofactorsI k (by omega) T' c' _ hsq w' h'
  have HM : Hid (∀ (T' : Option Addr) (c' : Nat) (w' : World), Rows2 w' (· < w'.heap.size) T' (cofT (pt g r q)) → Calls Tryz.prog 65 #[.slice T' (cofT (pt g r q)).length c'] w' (NewInts w' (sX (pt g r q) (k + 1)))) := fun T' c' w' h' => by
    rw [← hX]
    exact sumsOfI 4374 (by omega) T' c' _ hsh.hi (fun i hi => by rw [hsh.len i hi]; omega) (fun i hi j hj => hbd i j (by rw [cofT_length] at hi; omega) (by rw [hsh.len i hi] at hj; exact hj)) w' h'
  have HD : Hid (∀ (T' : Option Addr) (c' : Nat) (w' : World), Rows2 w' (· < w'.heap.size) T' (cofT (pt g r q)) → Calls Tryz.prog 66 #[.slice T' (cofT (pt g r q)).length c'] w' (NewRows w' (cols (cofT (pt g r q))))) := fun T' c' w' h' =>
    columnsShape T' c' _ _ hsh w' h'
  have hcl : (cols (cofT (pt g r q))).length = k + 1 := by rw [cols_length]; exact hsh.len 0 (by have := hsh.lo; omega)
  have hcr : ∀ i, i < (cols (cofT (pt g r q))).length → (rowAt (cols (cofT (pt g r q))) i).length = k + 1 := fun i hi => by
    rw [hcl] at hi
    rw [rowAt_cols_length _ _ (by rw [hsh.len 0 (by have := hsh.lo; omega)]; exact hi), cofT_length, hlen]
  have HCR : Hid (∀ i, i < (cols (cofT (pt g r q))).length → (rowAt (cols (cofT (pt g r q))) i).length ≤ 4294967296) := fun i hi => by rw [hcr i hi]; omega
  have HN : Hid (∀ (T' : Option Addr) (c' : Nat) (w' : World), Rows2 w' (· < w'.heap.size) T' (cols (cofT (pt g r q))) → Calls Tryz.prog 65 #[.slice T' (cols (cofT (pt g r q))).length c'] w' (NewInts w' (sY (pt g r q) (k + 1)))) := fun T' c' w' h' => by
    rw [← hY]
    refine sumsOfI 4374 (by omega) T' c' _ (by rw [hcl]; omega) (fun i hi => by rw [hcr i hi]; omega) (fun i hi j hj => ?_) w' h'
    rw [hcr i hi] at hj
    rw [hcl] at hi
    rw [nth_cols _ _ _ (by rw [hsh.len 0 (by have := hsh.lo; omega)]; exact hi) (by rw [cofT_length, hlen]; exact hj)]
    exact hbd j i hj hi
  have hbX : ∀ i, i < (sX (pt g r q) (k + 1)).length → -20000 ≤ nth (sX (pt g r q) (k + 1)) i ∧ nth (sX (pt g r q) (k + 1)) i ≤ 20000 := fun i hi => by
    rw [hXl] at hi
    rw [nth_sX _ hi]
    have := sumI_bd (k + 1) (fun b => sgI (i + b) * detL (woL (pt g r q) i b)) 4374 (fun b hb => cofA_bd (k := k) (by omega) hsq hi hb)
    omega
  have hbY : ∀ i, i < (sY (pt g r q) (k + 1)).length → -20000 ≤ nth (sY (pt g r q) (k + 1)) i ∧ nth (sY (pt g r q) (k + 1)) i ≤ 20000 := fun i hi => by
    rw [hYl] at hi
    rw [nth_sY _ hi]
    have := sumI_bd (k + 1) (fun b => sgI (b + i) * detL (woL (pt g r q) b i)) 4374 (fun b hb => cofA_bd (k := k) (by omega) hsq hb hi)
    omega
  have HWX : Hid (∀ (A : Option Addr) (c' : Nat) (w' : World), Ints w' (· < w'.heap.size) A (sX (pt g r q) (k + 1)) → Calls Tryz.prog 64 #[.slice A (sX (pt g r q) (k + 1)).length c'] w' (WRes w' (sX (pt g r q) (k + 1)))) := fun A c' w' h' =>
    weightsI A c' _ (by omega) hbX w' h'
  have HWY : Hid (∀ (A : Option Addr) (c' : Nat) (w' : World), Ints w' (· < w'.heap.size) A (sY (pt g r q) (k + 1)) → Calls Tryz.prog 64 #[.slice A (sY (pt g r q) (k + 1)).length c'] w' (WRes w' (sY (pt g r q) (k + 1)))) := fun A c' w' h' =>
    weightsI A c' _ (by omega) hbY w' h'
  have HOK := Lib.hid (kOk_w hP)
  have HLX := Lib.hid (low_kX hP)
  have HLY := Lib.hid (low_kY hP)
  have HSX : Hid (∀ (A : Option Addr) (c' : Nat) (w' : World), wOk (sX (pt g r q) (k + 1)) = true → Ints w' (· < w'.heap.size) A (wV (sX (pt g r q) (k + 1))) → Calls Tryz.prog 67 #[.int .i64 (r : Nat), .slice A (wV (sX (pt g r q) (k + 1))).length c', .int .i64 (g.length : Nat)] w' (NewInts w' (lowL (kXL g r q)))) := fun A c' w' hw h' => by
    have e : wV (sX (pt g r q) (k + 1)) = lowL (wL (sX (pt g r q) (k + 1))) := by unfold wV; rw [if_pos hw]
    rw [HLX.out, ← e]
    exact spreadI A c' _ r g.length hr h2 hrl (by rw [e, lowL_length, wL_length, hXl, hr4]) w' h'
  have HSY : Hid (∀ (A : Option Addr) (c' : Nat) (w' : World), wOk (sY (pt g r q) (k + 1)) = true → Ints w' (· < w'.heap.size) A (wV (sY (pt g r q) (k + 1))) → Calls Tryz.prog 67 #[.int .i64 (q : Nat), .slice A (wV (sY (pt g r q) (k + 1))).length c', .int .i64 ((rowAt g 0).length : Nat)] w' (NewInts w' (lowL (kYL g r q)))) := fun A c' w' hw h' => by
    have e : wV (sY (pt g r q) (k + 1)) = lowL (wL (sY (pt g r q) (k + 1))) := by unfold wV; rw [if_pos hw]
    rw [HLY.out, ← e]
    exact spreadI A c' _ q (rowAt g 0).length hq h3 hql (by rw [e, lowL_length, wL_length, hYl, hq4]) w' h'
  obtain ⟨b, off, rfl⟩ := h.some (by omega)
  obtain ⟨hS, A0, c0, hc0, hl0, hm0, _⟩ := h.row (i := 0) (by omega)
  rw [Nat.add_zero] at hc0
  unfold maxLen at hm0
  have hp2 : (0 : Int) < (g.length : Int) := by omega
  generalize pt g r q = p at *
  obtain ⟨C, hC⟩ : ∃ C, cofT p = C := ⟨_, rfl⟩
  rw [hC] at HC HM HD HN HCR
  obtain ⟨D, hDD⟩ : ∃ D, cols C = D := ⟨_, rfl⟩
  rw [hDD] at HD HN HCR
  obtain ⟨X, hXX⟩ : ∃ X, sX p (k + 1) = X := ⟨_, rfl⟩
  rw [hXX] at HM HWX HSX HOK
  obtain ⟨Y, hYY⟩ : ∃ Y, sY p (k + 1) = Y := ⟨_, rfl⟩
  rw [hYY] at HN HWY HSY HOK
  clear HLX HLY hX hY hXl hYl hsh hbd hcl hcr hbX hbY hsq hlen hP hC hDD hXX hYY h hg h1 hl hs ht hr1 hr2 hq2 hpp hk1 hk hr4 hq4 hrl hql
  go_enter Tryz.func47, Tryz.ntmps47
  go_wp2_with (first | (go_at_call 43; refine HS.out.mono ?_; rintro e w1 ⟨rfl, rfl⟩) | (go_at_call 61; refine HT.out.mono ?_; rintro e w1 ⟨rfl, rfl⟩) | (go_at_call 63; refine HPT.out.mono ?_; rintro e w1 ⟨T1, c1, rfl, hb1, ho1⟩) | (go_at_call 62; refine (HC.out _ _ _ (ho1.rows2.mono fun b hb => hb.2)).mono ?_; rintro e w2 ⟨T2, c2, rfl, hb2, hr2⟩))
  refine (HM.out _ _ _ hr2).mono ?_
  rintro e w3 ⟨rfl, hb3, hlt3, hrow3⟩
  have hi3 : Ints w3 (· < w3.heap.size) (some ⟨w2.heap.size, 0, none⟩) X := hrow3.ints hlt3
  have hr3 := stillRows hr2 hb3
  clear hr2 hrow3
  go_wp2_with fail
  refine (HWX.out _ _ _ hi3).mono ?_
  rintro e w4 ⟨Ax, cx, rfl, hb4, hx4⟩
  have hr4 := stillRows hr3 hb4
  clear hi3 hr3
  go_wp2_with fail
  refine (HD.out _ _ _ hr4).mono ?_
  rintro e w5 ⟨rfl, hL5⟩
  have hr5 := NewRows.reads hL5 HCR.out
  have hb5 := NewRows.bel hL5
  have hx5 : Ints w5 (· < w5.heap.size) Ax (wV X) := (keepInts hb5 hx4).lt hb5.size
  clear hL5 hr4 hx4
  go_wp2_with fail
  refine (HN.out _ _ _ hr5).mono ?_
  rintro e w6 ⟨rfl, hb6, hlt6, hrow6⟩
  have hi6 : Ints w6 (· < w6.heap.size) (some ⟨w5.heap.size, 0, none⟩) Y := hrow6.ints hlt6
  have hx6 : Ints w6 (· < w6.heap.size) Ax (wV X) := (keepInts hb6 hx5).lt hb6.size
  clear hr5 hrow6 hx5
  go_wp2_with fail
  refine (HWY.out _ _ _ hi6).mono ?_
  rintro e w7 ⟨Ay, cy, rfl, hb7, hy7⟩
  have hx7 : Ints w7 (· < w7.heap.size) Ax (wV X) := (keepInts hb7 hx6).lt hb7.size
  have hbb : Below w.heap.size w w7 := belT (belT (belT (belT (belT (belT hb1 hb2) hb3) hb4) hb5) hb6) hb7
  clear hi6 hx6 hb1 hb2 hb3 hb4 hb5 hb6 hb7 ho1
  have HX7 := Lib.hid hx7
  have HY7 := Lib.hid hy7
  have HBB := Lib.hid hbb
  clear hx7 hy7 hbb
  rcases hwx : wOk X with _ | _
  · have HK : Hid (kOk g r q = false) := by show _ = _; rw [HOK.out, hwx]; rfl
    go_wp2_with fail
    refine bodyPost_ret (v := .tuple #[.slice none 0 0, .slice none 0 0, .bool false]) (by simp [results, Tryz.results47, go_sem]) rfl ?_
    rw [show okX g r q = [] by simp [okX, HK.out], show okY g r q = [] by simp [okY, HK.out], HK.out]
    exact TwoOwn.no rfl HBB.out
  rcases hwy : wOk Y with _ | _
  · have HK : Hid (kOk g r q = false) := by show _ = _; rw [HOK.out, hwx, hwy]; rfl
    go_wp2_with fail
    refine bodyPost_ret (v := .tuple #[.slice none 0 0, .slice none 0 0, .bool false]) (by simp [results, Tryz.results47, go_sem]) rfl ?_
    rw [show okX g r q = [] by simp [okX, HK.out], show okY g r q = [] by simp [okY, HK.out], HK.out]
    exact TwoOwn.no rfl HBB.out
  have HK : Hid (kOk g r q = true) := by show _ = _; rw [HOK.out, hwx, hwy]; rfl
  have HXO : Hid (okX g r q = lowL (kXL g r q)) := by show _ = _; simp [okX, HK.out]
  have HYO : Hid (okY g r q = lowL (kYL g r q)) := by show _ = _; simp [okY, HK.out]
  have HSX2 : Hid (∀ w', Below w7.heap.size w7 w' → Calls Tryz.prog 67 #[.int .i64 (r : Nat), .slice Ax (wV X).length cx, .int .i64 (g.length : Nat)] w' (NewInts w' (lowL (kXL g r q)))) := fun w' hb' =>
    HSX.out _ _ _ hwx ((keepInts hb' HX7.out).lt hb'.size)
  have HSY2 : Hid (∀ w', Below w7.heap.size w7 w' → Calls Tryz.prog 67 #[.int .i64 (q : Nat), .slice Ay (wV Y).length cy, .int .i64 ((rowAt g 0).length : Nat)] w' (NewInts w' (lowL (kYL g r q)))) := fun w' hb' =>
    HSY.out _ _ _ hwy ((keepInts hb' HY7.out).lt hb'.size)
  have hc7 : w7.cell? ⟨b, off, none⟩ = some (.slice A0 (rowAt g 0).length c0) := (HBB.out.cell (p := ⟨b, off, none⟩) hS).trans hc0
  have hS7 : b < w7.heap.size := Nat.lt_of_lt_of_le hS HBB.out.size
  have t0 := stays (W := w7) (p := b) (o := off) hS7 hc7
  have hp1 : 0 < g.length := by omega
  clear HSX HSY HM HD HN HC HPT
  go_wp2_with fail
  go_region_held3 (fun w' => Below w7.heap.size w7 w')
    (first | exact Below.refl _ _ | exact Below.drew (Below.refl _ _) | (refine Below.drew ?_; assumption) | exact belT (by assumption) (by assumption) | assumption)
    (first | (go_at_call_of 67 Ax; refine (HSX2.out _ (by first | exact Below.refl _ _ | exact Below.drew (Below.refl _ _) | assumption)).mono ?_; rintro e w8 ⟨rfl, hb8, hlt8, hrow8⟩) | (go_at_call_of 67 Ay; refine (HSY2.out _ (by first | exact Below.refl _ _ | exact Below.drew (Below.refl _ _) | assumption)).mono ?_; rintro e w9 ⟨rfl, hb9, hlt9, hrow9⟩))
  go_wp2_with fail
  have hb79 : Below w.heap.size w w9 := belT HBB.out (by assumption)
  have hs7 := HBB.out.size
  have hs8 : w7.heap.size ≤ w8.heap.size := hb8.size
  have hlt8' : w7.heap.size < w8.heap.size := hlt8
  have hs9 := hb9.size
  have hrow8' : IntRow w9 w7.heap.size (lowL (kXL g r q)) := hrow8.of_block (hb9.block _ hlt8)
  refine bodyPost_ret (v := .tuple #[.slice (some ⟨w7.heap.size, 0, none⟩) (lowL (kXL g r q)).length (lowL (kXL g r q)).length, .slice (some ⟨w8.heap.size, 0, none⟩) (lowL (kYL g r q)).length (lowL (kYL g r q)).length, .bool true]) (by simp [results, Tryz.results47, go_sem]) rfl ?_
  rw [HXO.out, HYO.out, HK.out]
  refine ⟨_, _, _, _, rfl, hb79, fun _ => ⟨w7.heap.size, _, _, rfl, by omega, by omega, hrow8', Nat.le_refl _, fun i hi => rfl⟩, fun _ => ⟨w8.heap.size, _, _, rfl, by omega, by omega, hrow9, Nat.le_refl _, fun i hi => rfl⟩, fun _ _ => by simp; omega⟩
theorem ker_impl (T : Option Addr) (c : Nat) (g : List (List Int)) (rows cols : Int) (hl : g.length ≤ maxLen) (w : World) (h : Rows2 w (· < w.heap.size) T g) :
    Calls Tryz.prog 47 #[.slice T g.length c, .int .i64 rows, .int .i64 cols] w (TwoOwn w (kerX g rows cols) (kerY g rows cols) (kerB g rows cols)) := by
  have no : kerB g rows cols = false → Calls Tryz.prog 47 #[.slice T g.length c, .int .i64 rows, .int .i64 cols] w (TwoOwn w [] [] false) → Calls Tryz.prog 47 #[.slice T g.length c, .int .i64 rows, .int .i64 cols] w (TwoOwn w (kerX g rows cols) (kerY g rows cols) (kerB g rows cols)) := fun hb hc => by
    rw [hb, (ker_none hb).1, (ker_none hb).2]; exact hc
  rcases hs : solB' g with _ | _
  · refine no ?_ (ker_un T c g rows cols hl w h hs)
    have : kerB g rows cols = (solB' g && inR rows 1 (pw g.length) && inR cols 1 (pw (rowAt g 0).length) && (popN rows.toNat == popN cols.toNat) && kOk g rows.toNat cols.toNat) := rfl
    rw [this, hs]; rfl
  rcases ht : tolB g rows cols with _ | _
  · refine no ?_ (ker_untold T c g rows cols hl w h hs ht)
    have : kerB g rows cols = (solB' g && inR rows 1 (pw g.length) && inR cols 1 (pw (rowAt g 0).length) && (popN rows.toNat == popN cols.toNat) && kOk g rows.toNat cols.toNat) := rfl
    unfold tolB at ht
    rw [this]
    cases hs' : solB' g <;> cases h1 : inR rows 1 (pw g.length) <;> cases h2 : inR cols 1 (pw (rowAt g 0).length) <;> cases h3 : (popN rows.toNat == popN cols.toNat) <;> simp_all
  obtain ⟨h1, h2, h3⟩ := solB'_parts hs
  have ht' := ht
  unfold tolB at ht'
  simp only [Bool.and_eq_true, beq_iff_eq] at ht'
  obtain ⟨⟨hr, hq⟩, hpp⟩ := ht'
  obtain ⟨r, rfl, hr1, hr2, hr16⟩ := inR_nat h2 hr
  obtain ⟨q, rfl, hq1, hq2, hq16⟩ := inR_nat h3 hq
  have hpp' : popN r = popN q := hpp
  have hk : kerB g (r : Int) (q : Int) = kOk g r q := by simp [kerB, h1, h2, h3, hr, hq, hpp']
  have hx : kerX g (r : Int) (q : Int) = okX g r q := by simp [kerX, okX, hk]
  have hy : kerY g (r : Int) (q : Int) = okY g r q := by simp [kerY, okY, hk]
  rw [hk, hx, hy]
  exact ker_told T c g r q hl w h hs ht hr1 hr2 hr16 hq2 hq16 hpp'
end Go.Proofs.YtlmaeadbomnhlaaGreat

namespace Go.Proofs.YtlmaeadbomnhlaaGreat
set_option linter.unusedSimpArgs false
set_option linter.unusedVariables false
open Go.RowKit
theorem inR_inB (b : Int) : inR b (-9) 9 = inB b := by
  unfold inR inB; rw [Bool.eq_iff_iff, Bool.and_eq_true]; simp only [decide_eq_true_eq]
set_option maxHeartbeats 1000000 in
theorem shift_un (T : Option Addr) (c : Nat) (g : List (List Int)) (b : Int) (hl : g.length ≤ maxLen) (w : World) (h : Rows2 w (· < w.heap.size) T g) (hs : gameB g = false) :
    Calls Tryz.prog 53 #[.slice T g.length c, .int .i64 b] w (TabRes w [] false) := by
  have HS := Lib.hid (game_impl T c g _ hl w h)
  rw [hs] at HS
  clear h hl hs
  go_enter Tryz.func53, Tryz.ntmps53
  go_wp2_with (go_at_call 58; refine HS.out.mono ?_; rintro e w1 ⟨rfl, rfl⟩)
  go_ret2
  exact TabRes.none (A := none) rfl (Below.refl _ _)
set_option maxHeartbeats 1000000 in
theorem shift_by (T : Option Addr) (c : Nat) (g : List (List Int)) (b : Int) (hl : g.length ≤ maxLen) (w : World) (h : Rows2 w (· < w.heap.size) T g) (hs : gameB g = true) (hb : inB b = false) :
    Calls Tryz.prog 53 #[.slice T g.length c, .int .i64 b] w (TabRes w [] false) := by
  have HS := Lib.hid (game_impl T c g _ hl w h)
  have HB := Lib.hid (numberOk b w)
  rw [hs] at HS
  rw [hb] at HB
  clear h hl hs hb
  go_enter Tryz.func53, Tryz.ntmps53
  go_wp2_with (first | (go_at_call 58; refine HS.out.mono ?_; rintro e w1 ⟨rfl, rfl⟩) | (go_at_call 74; refine HB.out.mono ?_; rintro e w1 ⟨rfl, rfl⟩))
  go_ret2
  exact TabRes.none (A := none) rfl (Below.refl _ _)
set_option maxHeartbeats 2000000 in
set_option maxRecDepth 100000 in
theorem shift_made (T : Option Addr) (c : Nat) (g t : List (List Int)) (b : Int) (p : Bool) (hl : g.length ≤ maxLen) (w : World) (h : Rows2 w (· < w.heap.size) T g) (hs : gameB g = true) (hb : inB b = true)
    (ht1 : t.length = g.length) (ht2 : ∀ i, i < g.length → (rowAt t i).length = (rowAt g 0).length) (ht3 : ∀ i j, i < g.length → j < (rowAt g 0).length → nth (rowAt t i) j = nth (rowAt g i) j + b) (hp : gameB t = p) :
    Calls Tryz.prog 53 #[.slice T g.length c, .int .i64 b] w (TabRes w (bif p then t else []) p) := by
  have hg := Game.of hs
  have h0 := hg.lo
  have h16 := hg.hi
  have n0 := hg.mlo
  have n16 := hg.mhi
  obtain ⟨hb1, hb2⟩ := inB_iff.1 hb
  have HS := Lib.hid (game_impl T c g _ hl w h)
  have HB : Hid (∀ w', Calls Tryz.prog 74 #[.int .i64 b] w' (Same (.bool true) w')) := fun w' => by have := numberOk b w'; rw [hb] at this; exact this
  rw [hs] at HS
  have HGM : Hid (∀ (A : Option Addr) (c' : Nat) (w' : World), Rows2 w' (· < w'.heap.size) A t → Calls Tryz.prog 58 #[.slice A g.length c'] w' (Same (.bool p) w')) := fun A c' w' h' => by
    have := game_impl A c' t _ (by rw [ht1]; exact hl) w' h'; rw [hp, ht1] at this; exact this
  have HG := Lib.hid hg
  have HR := Lib.hid h
  have HL := Lib.hid ht1
  have HRL := Lib.hid ht2
  have HN3 := Lib.hid ht3
  have hmk1 := run_make_row' (P := Tryz.prog) 23 52 _ 24 Tryz.underlying23 infoR rfl .i64 .i64 g.length (by omega) (by omega)
  have hmk2 := run_make_row' (P := Tryz.prog) 52 3 _ 8 Tryz.underlying52 infoI rfl .i64 .i64 (rowAt g 0).length (by omega) (by omega)
  have F0 : Hid (Laying w (w.alloc (.cells (madeCells #[.slice none 0 0] g.length) 52)) t 0) := by
    have := Laying.start w t; rw [ht1] at this; exact this
  clear h hl hs hb hg ht1 ht2 ht3 hp
  go_enter Tryz.func53, Tryz.ntmps53
  go_wp2_with (first | (go_at_call 58; refine HS.out.mono ?_; rintro e w1 ⟨rfl, rfl⟩) | (go_at_call 74; refine (HB.out _).mono ?_; rintro e w1 ⟨rfl, rfl⟩))
  clear hmk1
  go_loopw [24] (fun i wr => ∃ k : Nat, k ≤ g.length ∧ i = .int .i64 k ∧ Hid (Laying w wr t k)) (fun i _ => g.length - (intOf i).toNat)
  case atStart => exact ⟨0, Nat.zero_le _, rfl, F0⟩
  case round =>
    obtain ⟨k, hk, rfl, HF⟩ := hrel
    by_cases hlt : k < g.length
    · have HC := Lib.hid (HRL.out k hlt)
      have hlt' : k < t.length := by rw [HL.out]; exact hlt
      have hgl := HG.out.len k hlt
      obtain ⟨bt, ot, rfl⟩ := HR.out.some (by omega)
      obtain ⟨hS, Ak, ck, hck, hlk, hmk, hik⟩ := (keepRows HF.out.bel HR.out).row hlt
      rw [hgl] at hck hlk
      unfold maxLen at hmk
      have hst1 : ∀ o, (wr.alloc o).cell? ⟨w.heap.size, k, none⟩ = some (.slice none 0 0) := fun o => by
        have := ((HF.out.top).alloc o).cell (i := k) hlt'; rwa [if_neg (by omega)] at this
      have hst2 : ∀ o, (wr.alloc o).frozen? ⟨w.heap.size, k, none⟩ = false := fun o => (HF.out.top.alloc o).frozen k
      have HI : Hid (LayIn w ((wr.alloc (.cells (madeCells #[.int .i64 0] (rowAt g 0).length) 3)).setCell ⟨w.heap.size, k, none⟩ (.slice (some ⟨wr.heap.size, 0, none⟩) (rowAt g 0).length (rowAt g 0).length)) t k 0) := by
        have := HF.out.open_; rw [HC.out] at this; exact this
      have HIK := Lib.hid hik
      have HGL := Lib.hid hgl
      clear hik hgl
      go_wp2_with fail
      clear hst1 hst2
      go_loopw [37] (fun i wi => ∃ r : Nat, r ≤ (rowAt g 0).length ∧ i = .int .i64 r ∧ Hid (LayIn w wi t k r)) (fun i _ => (rowAt g 0).length - (intOf i).toNat)
      case atStart => exact ⟨0, Nat.zero_le _, rfl, HI⟩
      case round =>
        obtain ⟨r, hr, rfl, HI⟩ := hrel
        by_cases hlr : r < (rowAt g 0).length
        · have R := keepRows HI.out.bel HR.out
          obtain ⟨b2, off2, c2, hd1, hd2, hd3, hS2, hd0⟩ := R.cell (i := k) (j := r) hlt (by rw [HGL.out]; exact hlr)
          have e1 := (R.row hlt).2
          have hd0' : Ak = some ⟨b2, off2, none⟩ := by
            have e := (HI.out.bel.cell (p := ⟨bt, ot + k, none⟩) hS)
            have e2 := (HF.out.bel.cell (p := ⟨bt, ot + k, none⟩) hS)
            rw [e] at hd1
            rw [e2] at hck
            rw [hck, HGL.out] at hd1
            cases hd1; rfl
          subst hd0'
          have g1 : wr.cell? ⟨w.heap.size, k, none⟩ = some (.slice (some ⟨w.heap.size + 1 + k, 0, none⟩) (rowAt g 0).length (rowAt g 0).length) := by have := HI.out.cell hlt'; rwa [HC.out] at this
          obtain ⟨z, g2⟩ : ∃ z, wr.cell? ⟨w.heap.size + 1 + k, r, none⟩ = some z := ⟨_, HI.out.cur.cell (i := r) (by rw [HC.out]; exact hlr)⟩
          have g3 : wr.frozen? ⟨w.heap.size + 1 + k, r, none⟩ = false := HI.out.cur.frozen r
          have HN : Hid (LayIn w (wr.setCell ⟨w.heap.size + 1 + k, r, none⟩ (.int .i64 (nth (rowAt g k) r + b))) t k (r + 1)) := by
            have := HI.out.step; rw [HN3.out k r hlt hlr] at this; exact this
          have hx1 := HG.out.nlo k hlt r hlr
          have hx2 := HG.out.nhi k hlt r hlr
          have hw1 : IntKind.i64.wrap (nth (rowAt g k) r + b) = nth (rowAt g k) r + b := IntWalk.i64_in _ (by omega)
          have q1 : (0 : Int) ≤ (k : Int) := by omega
          have q2 : (k : Int) < (g.length : Int) := by omega
          have q3 : (0 : Int) ≤ (r : Int) := by omega
          have q4 : (r : Int) < ((rowAt g 0).length : Int) := by omega
          clear HI R e1 hd1 hd2 hd3
          go_wp2_with fail
          go_roundw
          case rel => exact ⟨r + 1, by omega, by go_num, HN⟩
          case measure => simp [intOf]; omega
        · have hre : r = (rowAt g 0).length := by omega
          subst hre
          have HN : Hid (Laying w wr t (k + 1)) := by
            have := HI.out; rw [← HC.out] at this; exact this.close
          go_wp2_with fail
          go_roundw
          case rel => exact ⟨k + 1, by omega, by go_num, HN⟩
          case measure => simp [intOf]; omega
    · obtain rfl : k = g.length := by omega
      have HD : Hid (Laid w wr t) := by have := HF.out; rw [← HL.out] at this; exact this
      have hm : ∀ i, i < t.length → (rowAt t i).length ≤ 4294967296 := fun i hi => by rw [HRL.out i (by rw [← HL.out]; exact hi)]; omega
      have HRD := Lib.hid (NewRows.reads HD.out hm)
      have HOWN := Lib.hid (Laid.own HD.out (fun i hi => by have := hm i hi; unfold maxLen; omega))
      have HBL := Lib.hid HD.out.bel
      clear HF hm
      go_wp2_with fail
      refine (HGM.out _ _ _ HRD.out).mono ?_
      rintro e w1 ⟨rfl, rfl⟩
      cases p with
      | false =>
        go_wp2_with fail
        go_ret2
        exact TabRes.none (A := none) rfl HBL.out
      | true =>
        go_wp2_with fail
        go_ret2
        exact ⟨_, g.length, by show _ = Ending.returned (.tuple #[.slice _ t.length _, _]); rw [HL.out]; rfl, HBL.out, HOWN.out⟩
theorem shift_impl (T : Option Addr) (c : Nat) (g : List (List Int)) (b : Int) (hl : g.length ≤ maxLen) (w : World) (h : Rows2 w (· < w.heap.size) T g) :
    Calls Tryz.prog 53 #[.slice T g.length c, .int .i64 b] w (TabRes w (shi g b) (shiB g b)) := by
  rcases hs : gameB g with _ | _
  · have e : shiB g b = false := by simp [shiB, hs]
    rw [show shi g b = [] by simp [shi, e], e]
    exact shift_un T c g b hl w h hs
  rcases hb : inB b with _ | _
  · have e : shiB g b = false := by simp [shiB, inR_inB, hb]
    rw [show shi g b = [] by simp [shi, e], e]
    exact shift_by T c g b hl w h hs hb
  · have e : shiB g b = gameB (shiL g b) := by simp [shiB, inR_inB, hb, hs]
    have := shift_made T c g (shiL g b) b _ hl w h hs hb (shiL_length g b) (fun i hi => shiL_row_length g b i hi) (fun i j hi hj => nth_shiL g b i j hi hj) rfl
    rw [← e] at this
    rw [show shi g b = bif shiB g b then shiL g b else [] by unfold shi; cases shiB g b <;> rfl]
    exact this
end Go.Proofs.YtlmaeadbomnhlaaGreat
