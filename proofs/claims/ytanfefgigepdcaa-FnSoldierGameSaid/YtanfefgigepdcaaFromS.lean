/- The walk of the specification's FairFrom. (Written by wip/gen/froms.py.) -/
import Derived.Test.YtanfefgigepdcaaOA
import Derived.Test.YtanfefgigepdcaaMT
import Derived.Test.YtanfefgigepdcaaMC
namespace Go.Proofs.Ytanfefgigepdcaa
set_option linter.unusedSimpArgs false
set_option linter.unusedVariables false
open Go.RowKit

/-- the rows so far; the numbers so far of a row -/
def frmV (g : List (List Int)) (m n k : Nat) : List (List Int) := (List.range k).map fun i => fromR g m n i

def frmU (g : List (List Int)) (m n i j : Nat) : List Int := (List.range (m + n + 1)).map fun q => if q < j then fromI g m n i q else 0

theorem frmV_length (g : List (List Int)) (m n k : Nat) : (frmV g m n k).length = k := by simp [frmV]

theorem frmV_succ (g : List (List Int)) (m n k : Nat) : frmV g m n (k + 1) = frmV g m n k ++ [fromR g m n k] := by unfold frmV; rw [List.range_succ, List.map_append]; rfl

theorem frmV_all (g : List (List Int)) (m n : Nat) : frmV g m n (m + n + 1) = fromT g m n := rfl

theorem frmU_length (g : List (List Int)) (m n i j : Nat) : (frmU g m n i j).length = m + n + 1 := by simp [frmU]

theorem frmU_zero (g : List (List Int)) (m n i : Nat) : frmU g m n i 0 = List.replicate (m + n + 1) 0 := by
  refine List.ext_getElem (by simp [frmU]) fun q h1 h2 => ?_
  simp [frmU]

theorem frmU_all (g : List (List Int)) (m n i : Nat) : frmU g m n i (m + n + 1) = fromR g m n i := by
  refine List.map_congr_left fun q hq => ?_
  rw [if_pos (List.mem_range.1 hq)]

theorem frmU_set (g : List (List Int)) (m n i j : Nat) : frmU g m n i (j + 1) = (frmU g m n i j).set j (fromI g m n i j) := by
  refine List.ext_getElem (by simp [frmU]) fun q h1 h2 => ?_
  rw [List.getElem_set]
  simp only [frmU, List.getElem_map, List.getElem_range]
  by_cases e : j = q
  · subst e; rw [if_pos rfl, if_pos (Nat.lt_succ_self _)]
  · rw [if_neg e]
    by_cases h : q < j
    · rw [if_pos h, if_pos (by omega)]
    · rw [if_neg h, if_neg (by omega)]

theorem frmU_skip (g : List (List Int)) (m n i j : Nat) (h : fromI g m n i j = 0) : frmU g m n i (j + 1) = frmU g m n i j := by
  refine List.map_congr_left fun q hq => ?_
  by_cases e : q = j
  · subst e; rw [if_pos (Nat.lt_succ_self _), if_neg (Nat.lt_irrefl _), h]
  · by_cases h : q < j
    · rw [if_pos h, if_pos (by omega)]
    · rw [if_neg h, if_neg (by omega)]

theorem frm_small {g : List (List Int)} (h : ¬ (g.length + (rowAt g 0).length ≤ 8)) : frmB g = false := by
  refine Bool.eq_false_iff.2 fun hb => ?_
  exact h (frmB_iff.1 hb).2

set_option maxHeartbeats 8000000 in
set_option maxRecDepth 100000 in
theorem from_spec (A : Option Addr) (c : Nat) (g : List (List Int)) (hl : g.length ≤ maxLen) (w : World) (h : Rows2 w (· < w.heap.size) A g) :
    Calls Try.prog 37 #[.slice A g.length c] w (NewTable w (frmG g)) := by
  have hl' := hl
  unfold maxLen at hl'
  have hb0 : Below w.heap.size w (w.alloc (.cells #[] 31)) := (Below.refl _ _).alloc (Nat.le_refl _) _
  have G0 := Lib.hid (GrowsR.lit w (base := w.heap.size) (Nat.le_refl _) (fun _ => none) (fun _ => 0))
  have HB0 := Lib.hid hb0
  have HR := Lib.hid ((keepRows hb0 h).lt hb0.size)
  have HR0 := Lib.hid (fun (w' : World) (hb : Below w.heap.size w w') => keepRows hb h)
  rcases hb : gameB g with _ | _
  · have H1 : Hid (frmG g = []) := frm_no (by unfold frmB; rw [hb]; rfl)
    have HB := Lib.hid hb
    clear hb h hb0
    go_enter Try.func37, Try.ntmps37
    go_wp2_with fail
    refine (game_spec _ _ _ _ hl _ HR.out).mono ?_
    rintro e w1 ⟨rfl, q, rfl⟩
    rw [HB.out]
    have HBQ := Lib.hid (below_drewN HB0.out q)
    go_wp2_with fail
    go_ret
    rw [H1.out]
    exact ⟨_, 0, rfl, HBQ.out, fun h0 => absurd h0 (by simp)⟩
  have hg := Game.of hb
  have hg1 := hg.lo
  have hg2 := hg.hi
  have hg3 := hg.mlo
  have hg4 := hg.mhi
  have HG := Lib.hid hg
  have HB := Lib.hid hb
  obtain ⟨b, off, rfl⟩ := h.some (by omega)
  obtain ⟨m, hm⟩ : ∃ m, g.length = m := ⟨_, rfl⟩
  obtain ⟨n, hn⟩ : ∃ n, (rowAt g 0).length = n := ⟨_, rfl⟩
  have HM := Lib.hid hm
  have HN := Lib.hid hn
  rw [hm] at hg1 hg2 hl'
  rw [hn] at hg3 hg4
  obtain ⟨hS, A0, c0, hc0, hl0, hm0, _⟩ := HR.out.row (i := 0) (by omega)
  rw [Nat.add_zero, hn] at hc0
  rw [hn] at hl0
  unfold maxLen at hm0
  have HLM : Hid (m ≤ maxLen) := by show _ ≤ _; unfold maxLen; omega
  have HC0 := Lib.hid hc0
  have HSB := Lib.hid hS
  by_cases h8 : m + n ≤ 8
  · have HFB : Hid (frmG g = fromT g m n) := by have := frm_yes (frmB_iff.2 ⟨HB.out, by rw [HM.out, HN.out]; exact h8⟩); show _ = _; rw [this, HM.out, HN.out]
    have hs8 : (m : Int) + (n : Int) ≤ 8 := by omega
    have hs8' : ¬ (8 : Int) < (m : Int) + (n : Int) := by omega
    have hsw : IntKind.i64.wrap ((m : Int) + (n : Int)) = (m : Int) + (n : Int) := IntWalk.i64_in _ ⟨by omega, by omega⟩
    have hsw1 : IntKind.i64.wrap ((m : Int) + (n : Int) + 1) = (m : Int) + (n : Int) + 1 := IntWalk.i64_in _ ⟨by omega, by omega⟩
    obtain ⟨z, hz⟩ : ∃ z, m + n + 1 = z := ⟨_, rfl⟩
    have hzi : (m : Int) + (n : Int) + 1 = (z : Int) := by omega
    have hmk := run_make_row' (P := Try.prog) 31 3 _ 8 Try.underlying31 infoI rfl .i64 .i64 z (by omega) (by omega)
    obtain ⟨i1, hi1, hy0, hy1, hy2⟩ := info_parts infoR
    have HI1 := Lib.hid hi1
    have HY0 := Lib.hid hy0
    have HY1 := Lib.hid hy1
    have HY2 := Lib.hid hy2
    clear hb h hb0 hg hm hn hi1 hy0 hy1 hy2 hc0 hS
    rw [HM.out] at hl ⊢
    go_enter Try.func37, Try.ntmps37
    go_wp2_with fail
    refine (by have := game_spec (some ⟨b, off, none⟩) c g _ (by rw [HM.out]; exact HLM.out) _ HR.out; rw [HM.out, HB.out] at this; exact this : Calls Try.prog 51 #[.slice (some ⟨b, off, none⟩) m c] _ _).mono ?_
    rintro e w1 ⟨rfl, q, rfl⟩
    have HBQ := Lib.hid (below_drewN HB0.out q)
    have hc0 : ((w.alloc (.cells #[] 31)).drewN q).cell? ⟨b, off, none⟩ = some (.slice A0 n c0) := HC0.out
    have GQ := Lib.hid (G0.out.drewN q)
    go_wp2_with fail
    go_loopw [3, 6] (fun v i wr => ∃ k : Nat, k ≤ z ∧ i = .int .i64 k ∧ Hid (∃ (A : Nat → Option Addr) (C : Nat → Nat), GrowsR wr w.heap.size wr.heap.size v A C (frmV g m n k)) ∧ Hid (Below w.heap.size w wr)) (fun _ i _ => z - (intOf i).toNat)
    case atStart => exact ⟨0, Nat.zero_le _, rfl, ⟨_, _, GQ.out.up (by simp) (Nat.le_refl _)⟩, HBQ.out⟩
    case round =>
      clear hc0
      obtain ⟨k, hk, rfl, HT, HV⟩ := hrel
      obtain ⟨wo, hwo⟩ : ∃ wo, wo = wr := ⟨_, rfl⟩
      subst hwo
      obtain ⟨AA, CC, hgr⟩ := HT.out
      have HGR := Lib.hid hgr
      have hws := HV.out.size
      clear hgr HT
      by_cases hlt : k < z
      · have hle : (k : Int) ≤ (m : Int) + (n : Int) := by omega
        have R0 : Hid (RowNow wo (wo.alloc (.cells (madeCells #[.int .i64 0] z) 3)) (frmU g m n k 0)) := by show RowNow _ _ _; rw [frmU_zero, hz]; exact RowNow.start wo z
        have HL : Hid (∀ j, (frmU g m n k j).length = z) := fun j => by rw [frmU_length, hz]
        go_wp2_with fail
        go_loopw [8] (fun i wq => ∃ j : Nat, j ≤ z ∧ i = .int .i64 j ∧ Hid (RowNow wo wq (frmU g m n k j))) (fun i _ => z - (intOf i).toNat)
        case atStart => exact ⟨0, Nat.zero_le _, rfl, R0⟩
        case round =>
          clear R0
          obtain ⟨j, hj, rfl, HRN⟩ := hrel
          by_cases hlj : j < z
          · have hjle : (j : Int) ≤ (m : Int) + (n : Int) := by omega
            have hrow : World.rowIs _ _ _ _ _ := HRN.out.row
            rw [HL.out j] at hrow
            have hcr := hrow.cell (i := j) hlj
            have hfr := hrow.frozen j
            have HRD := Lib.hid (HR0.out wr (belT HV.out HRN.out.bel))
            have hwsz := HRN.out.size
            have hrsz : wo.heap.size < wr.heap.size := by omega
            clear hrow hwsz
            by_cases pk1 : k < m
            · by_cases pj1 : j < m
              · skip
                have tk1 : (k : Int) < (m : Int) := by omega
                have tk2 : ¬ (m : Int) ≤ (k : Int) := by omega
                have tk3 : (k : Int) < (m : Int) + (n : Int) := by omega
                have tk4 : ((k : Int) == (m : Int) + (n : Int)) = false := by rw [beq_eq_false_iff_ne]; omega
                have tj1 : (j : Int) < (m : Int) := by omega
                have tj2 : ¬ (m : Int) ≤ (j : Int) := by omega
                have tj3 : (j : Int) < (m : Int) + (n : Int) := by omega
                have tj4 : ((j : Int) == (m : Int) + (n : Int)) = false := by rw [beq_eq_false_iff_ne]; omega
                have HE : Hid (fromI g m n k j = 0) := by show _ = _; unfold fromI; rw [if_neg (by omega), if_neg (by omega), if_neg (by omega), if_neg (by omega), if_neg (by omega), if_neg (by omega)]
                have HNX : Hid (RowNow wo wr (frmU g m n k (j + 1))) := by show RowNow _ _ _; rw [frmU_skip g m n k j HE.out]; exact HRN.out
                go_wp2_with fail
                go_roundw
                case rel => exact ⟨j + 1, by omega, by go_num, HNX⟩
                case measure => simp [intOf]; omega
              · by_cases pj2 : j < m + n
                · skip
                  have tk1 : (k : Int) < (m : Int) := by omega
                  have tk2 : ¬ (m : Int) ≤ (k : Int) := by omega
                  have tk3 : (k : Int) < (m : Int) + (n : Int) := by omega
                  have tk4 : ((k : Int) == (m : Int) + (n : Int)) = false := by rw [beq_eq_false_iff_ne]; omega
                  have tj1 : ¬ (j : Int) < (m : Int) := by omega
                  have tj2 : (m : Int) ≤ (j : Int) := by omega
                  have tj3 : (j : Int) < (m : Int) + (n : Int) := by omega
                  have tj4 : ((j : Int) == (m : Int) + (n : Int)) = false := by rw [beq_eq_false_iff_ne]; omega
                  obtain ⟨t, ht⟩ : ∃ t, j = m + t := ⟨j - m, by omega⟩
                  have htn : t < n := by omega
                  have hlr : (rowAt g k).length = n := by rw [HG.out.len k (by rw [HM.out]; omega), HN.out]
                  obtain ⟨br, off', cr, hd1, hd2, hd3, hd4, hd5⟩ := HRD.out.cell (i := k) (j := t) (by rw [HM.out]; omega) (by rw [hlr]; exact htn)
                  rw [hlr] at hd1 hd2
                  unfold maxLen at hd3
                  have hb1 := HG.out.nlo k (by rw [HM.out]; omega) t (by rw [HN.out]; exact htn)
                  have hb2 := HG.out.nhi k (by rw [HM.out]; omega) t (by rw [HN.out]; exact htn)
                  obtain ⟨x, hx⟩ : ∃ x, nth (rowAt g k) t = x := ⟨_, rfl⟩
                  rw [hx] at hd5 hb1 hb2
                  have htm : (j : Int) - (m : Int) = (t : Int) := by omega
                  have htw : IntKind.i64.wrap (t : Int) = (t : Int) := IntWalk.i64_in _ ⟨by omega, by omega⟩
                  have HE : Hid (fromI g m n k j = x) := by show _ = _; unfold fromI; rw [if_pos (by omega)]; rw [show j - m = t by omega, hx]
                  clear ht hlr hx hb1 hb2
                  have HNX : Hid (RowNow wo (wr.setCell ⟨wo.heap.size, j, none⟩ (.int .i64 (x))) (frmU g m n k (j + 1))) := by show RowNow _ _ _; rw [frmU_set, HE.out]; exact HRN.out.poke j (x)
                  go_wp2_with fail
                  go_roundw
                  case rel => exact ⟨j + 1, by omega, by go_num, HNX⟩
                  case measure => simp [intOf]; omega
                · skip
                  have tk1 : (k : Int) < (m : Int) := by omega
                  have tk2 : ¬ (m : Int) ≤ (k : Int) := by omega
                  have tk3 : (k : Int) < (m : Int) + (n : Int) := by omega
                  have tk4 : ((k : Int) == (m : Int) + (n : Int)) = false := by rw [beq_eq_false_iff_ne]; omega
                  have tj1 : ¬ (j : Int) < (m : Int) := by omega
                  have tj2 : (m : Int) ≤ (j : Int) := by omega
                  have tj3 : ¬ (j : Int) < (m : Int) + (n : Int) := by omega
                  have tj4 : ((j : Int) == (m : Int) + (n : Int)) = true := by rw [beq_iff_eq]; omega
                  have HE : Hid (fromI g m n k j = -1) := by show _ = _; unfold fromI; rw [if_neg (by omega), if_neg (by omega), if_pos (by omega)]
                  have HNX : Hid (RowNow wo (wr.setCell ⟨wo.heap.size, j, none⟩ (.int .i64 (-1))) (frmU g m n k (j + 1))) := by show RowNow _ _ _; rw [frmU_set, HE.out]; exact HRN.out.poke j (-1)
                  go_wp2_with fail
                  go_roundw
                  case rel => exact ⟨j + 1, by omega, by go_num, HNX⟩
                  case measure => simp [intOf]; omega
            · by_cases pk2 : k < m + n
              · by_cases pj1 : j < m
                · skip
                  have tk1 : ¬ (k : Int) < (m : Int) := by omega
                  have tk2 : (m : Int) ≤ (k : Int) := by omega
                  have tk3 : (k : Int) < (m : Int) + (n : Int) := by omega
                  have tk4 : ((k : Int) == (m : Int) + (n : Int)) = false := by rw [beq_eq_false_iff_ne]; omega
                  have tj1 : (j : Int) < (m : Int) := by omega
                  have tj2 : ¬ (m : Int) ≤ (j : Int) := by omega
                  have tj3 : (j : Int) < (m : Int) + (n : Int) := by omega
                  have tj4 : ((j : Int) == (m : Int) + (n : Int)) = false := by rw [beq_eq_false_iff_ne]; omega
                  obtain ⟨t, ht⟩ : ∃ t, k = m + t := ⟨k - m, by omega⟩
                  have htn : t < n := by omega
                  have hlr : (rowAt g j).length = n := by rw [HG.out.len j (by rw [HM.out]; omega), HN.out]
                  obtain ⟨br, off', cr, hd1, hd2, hd3, hd4, hd5⟩ := HRD.out.cell (i := j) (j := t) (by rw [HM.out]; omega) (by rw [hlr]; exact htn)
                  rw [hlr] at hd1 hd2
                  unfold maxLen at hd3
                  have hb1 := HG.out.nlo j (by rw [HM.out]; omega) t (by rw [HN.out]; exact htn)
                  have hb2 := HG.out.nhi j (by rw [HM.out]; omega) t (by rw [HN.out]; exact htn)
                  obtain ⟨x, hx⟩ : ∃ x, nth (rowAt g j) t = x := ⟨_, rfl⟩
                  rw [hx] at hd5 hb1 hb2
                  have htm : (k : Int) - (m : Int) = (t : Int) := by omega
                  have htw : IntKind.i64.wrap (t : Int) = (t : Int) := IntWalk.i64_in _ ⟨by omega, by omega⟩
                  have hng : IntKind.i64.wrap (-x) = -x := IntWalk.i64_in _ ⟨by omega, by omega⟩
                  have HE : Hid (fromI g m n k j = -x) := by show _ = _; unfold fromI; rw [if_neg (by omega), if_pos (by omega)]; rw [show k - m = t by omega, hx]
                  clear ht hlr hx hb1 hb2
                  have HNX : Hid (RowNow wo (wr.setCell ⟨wo.heap.size, j, none⟩ (.int .i64 (-x))) (frmU g m n k (j + 1))) := by show RowNow _ _ _; rw [frmU_set, HE.out]; exact HRN.out.poke j (-x)
                  go_wp2_with fail
                  go_roundw
                  case rel => exact ⟨j + 1, by omega, by go_num, HNX⟩
                  case measure => simp [intOf]; omega
                · by_cases pj2 : j < m + n
                  · skip
                    have tk1 : ¬ (k : Int) < (m : Int) := by omega
                    have tk2 : (m : Int) ≤ (k : Int) := by omega
                    have tk3 : (k : Int) < (m : Int) + (n : Int) := by omega
                    have tk4 : ((k : Int) == (m : Int) + (n : Int)) = false := by rw [beq_eq_false_iff_ne]; omega
                    have tj1 : ¬ (j : Int) < (m : Int) := by omega
                    have tj2 : (m : Int) ≤ (j : Int) := by omega
                    have tj3 : (j : Int) < (m : Int) + (n : Int) := by omega
                    have tj4 : ((j : Int) == (m : Int) + (n : Int)) = false := by rw [beq_eq_false_iff_ne]; omega
                    have HE : Hid (fromI g m n k j = 0) := by show _ = _; unfold fromI; rw [if_neg (by omega), if_neg (by omega), if_neg (by omega), if_neg (by omega), if_neg (by omega), if_neg (by omega)]
                    have HNX : Hid (RowNow wo wr (frmU g m n k (j + 1))) := by show RowNow _ _ _; rw [frmU_skip g m n k j HE.out]; exact HRN.out
                    go_wp2_with fail
                    go_roundw
                    case rel => exact ⟨j + 1, by omega, by go_num, HNX⟩
                    case measure => simp [intOf]; omega
                  · skip
                    have tk1 : ¬ (k : Int) < (m : Int) := by omega
                    have tk2 : (m : Int) ≤ (k : Int) := by omega
                    have tk3 : (k : Int) < (m : Int) + (n : Int) := by omega
                    have tk4 : ((k : Int) == (m : Int) + (n : Int)) = false := by rw [beq_eq_false_iff_ne]; omega
                    have tj1 : ¬ (j : Int) < (m : Int) := by omega
                    have tj2 : (m : Int) ≤ (j : Int) := by omega
                    have tj3 : ¬ (j : Int) < (m : Int) + (n : Int) := by omega
                    have tj4 : ((j : Int) == (m : Int) + (n : Int)) = true := by rw [beq_iff_eq]; omega
                    have HE : Hid (fromI g m n k j = 1) := by show _ = _; unfold fromI; rw [if_neg (by omega), if_neg (by omega), if_neg (by omega), if_neg (by omega), if_pos (by omega)]
                    have HNX : Hid (RowNow wo (wr.setCell ⟨wo.heap.size, j, none⟩ (.int .i64 (1))) (frmU g m n k (j + 1))) := by show RowNow _ _ _; rw [frmU_set, HE.out]; exact HRN.out.poke j (1)
                    go_wp2_with fail
                    go_roundw
                    case rel => exact ⟨j + 1, by omega, by go_num, HNX⟩
                    case measure => simp [intOf]; omega
              · by_cases pj1 : j < m
                · skip
                  have tk1 : ¬ (k : Int) < (m : Int) := by omega
                  have tk2 : (m : Int) ≤ (k : Int) := by omega
                  have tk3 : ¬ (k : Int) < (m : Int) + (n : Int) := by omega
                  have tk4 : ((k : Int) == (m : Int) + (n : Int)) = true := by rw [beq_iff_eq]; omega
                  have tj1 : (j : Int) < (m : Int) := by omega
                  have tj2 : ¬ (m : Int) ≤ (j : Int) := by omega
                  have tj3 : (j : Int) < (m : Int) + (n : Int) := by omega
                  have tj4 : ((j : Int) == (m : Int) + (n : Int)) = false := by rw [beq_eq_false_iff_ne]; omega
                  have HE : Hid (fromI g m n k j = 1) := by show _ = _; unfold fromI; rw [if_neg (by omega), if_neg (by omega), if_neg (by omega), if_pos (by omega)]
                  have HNX : Hid (RowNow wo (wr.setCell ⟨wo.heap.size, j, none⟩ (.int .i64 (1))) (frmU g m n k (j + 1))) := by show RowNow _ _ _; rw [frmU_set, HE.out]; exact HRN.out.poke j (1)
                  go_wp2_with fail
                  go_roundw
                  case rel => exact ⟨j + 1, by omega, by go_num, HNX⟩
                  case measure => simp [intOf]; omega
                · by_cases pj2 : j < m + n
                  · skip
                    have tk1 : ¬ (k : Int) < (m : Int) := by omega
                    have tk2 : (m : Int) ≤ (k : Int) := by omega
                    have tk3 : ¬ (k : Int) < (m : Int) + (n : Int) := by omega
                    have tk4 : ((k : Int) == (m : Int) + (n : Int)) = true := by rw [beq_iff_eq]; omega
                    have tj1 : ¬ (j : Int) < (m : Int) := by omega
                    have tj2 : (m : Int) ≤ (j : Int) := by omega
                    have tj3 : (j : Int) < (m : Int) + (n : Int) := by omega
                    have tj4 : ((j : Int) == (m : Int) + (n : Int)) = false := by rw [beq_eq_false_iff_ne]; omega
                    have HE : Hid (fromI g m n k j = -1) := by show _ = _; unfold fromI; rw [if_neg (by omega), if_neg (by omega), if_neg (by omega), if_neg (by omega), if_neg (by omega), if_pos (by omega)]
                    have HNX : Hid (RowNow wo (wr.setCell ⟨wo.heap.size, j, none⟩ (.int .i64 (-1))) (frmU g m n k (j + 1))) := by show RowNow _ _ _; rw [frmU_set, HE.out]; exact HRN.out.poke j (-1)
                    go_wp2_with fail
                    go_roundw
                    case rel => exact ⟨j + 1, by omega, by go_num, HNX⟩
                    case measure => simp [intOf]; omega
                  · skip
                    have tk1 : ¬ (k : Int) < (m : Int) := by omega
                    have tk2 : (m : Int) ≤ (k : Int) := by omega
                    have tk3 : ¬ (k : Int) < (m : Int) + (n : Int) := by omega
                    have tk4 : ((k : Int) == (m : Int) + (n : Int)) = true := by rw [beq_iff_eq]; omega
                    have tj1 : ¬ (j : Int) < (m : Int) := by omega
                    have tj2 : (m : Int) ≤ (j : Int) := by omega
                    have tj3 : ¬ (j : Int) < (m : Int) + (n : Int) := by omega
                    have tj4 : ((j : Int) == (m : Int) + (n : Int)) = true := by rw [beq_iff_eq]; omega
                    have HE : Hid (fromI g m n k j = 0) := by show _ = _; unfold fromI; rw [if_neg (by omega), if_neg (by omega), if_neg (by omega), if_neg (by omega), if_neg (by omega), if_neg (by omega)]
                    have HNX : Hid (RowNow wo wr (frmU g m n k (j + 1))) := by show RowNow _ _ _; rw [frmU_skip g m n k j HE.out]; exact HRN.out
                    go_wp2_with fail
                    go_roundw
                    case rel => exact ⟨j + 1, by omega, by go_num, HNX⟩
                    case measure => simp [intOf]; omega
          · have hjz : j = z := by omega
            have HR2 : Hid (RowNow wo wr (fromR g m n k)) := by have := HRN.out; rw [hjz, ← hz, frmU_all] at this; exact this
            have HGS := Lib.hid (HGR.out.keep HR2.out.bel)
            have HON : Hid (OwnI wr wo.heap.size wr.heap.size (some ⟨wo.heap.size, 0, none⟩) (fromR g m n k)) := HR2.out.own
            have HBW := Lib.hid (belT HV.out HR2.out.bel)
            have hzs := HR2.out.size
            have HLR : Hid ((fromR g m n k).length = z) := by show _ = _; rw [fromR_length, hz]
            have hjle : ¬ (j : Int) ≤ (m : Int) + (n : Int) := by omega
            have hlk := frmV_length g m n k
            clear HRN hjz
            go_wp2_with (at_builtin; refine wpList_append_own_at _ rfl (.tmp 176) (.tmp 178) _ rfl w.heap.size 31 i1 (.slice none 0 0) 1 24 Try.underlying23 HI1.out HY0.out HY1.out HY2.out rfl (by decide) _ _ _ rfl (HGS.out.alloc _) ⟨wo.heap.size + 1, 0, none⟩ 1 1 [.slice (some ⟨wo.heap.size, 0, none⟩) z z] rfl rfl ?c1 ?c2 ?c3 ?c4 ?c5 ?_)
            case c2 => first | rfl | (intro u hu; simp at hu; subst hu; rfl)
            case c3 => unfold maxLen; first | omega | (rw [hlk]; omega)
            case c4 => first | omega | (rw [hlk]; omega)
            case c5 => first | omega | (simp; omega)
            intro v' w5 hown hgrow _ hat
            have HN5 : Hid (∃ (A : Nat → Option Addr) (C : Nat → Nat), GrowsR w5 w.heap.size w5.heap.size v' A C (frmV g m n (k + 1))) := by
              rw [frmV_succ]
              exact HGS.out.snoc (l := fromR g m n k) (An := some ⟨wo.heap.size, 0, none⟩) (cn := z) (HON.out.more (Nat.le_refl _) (by omega)) (by rw [HLR.out]; exact Nat.le_refl _) (by unfold maxLen; omega) hws (by first | (rw [hlk, HLR.out]; exact hown) | (rw [HLR.out]; exact hown)) hgrow (by rcases hat with e | e; exact .inl e; exact .inr (by rw [e]; first | (simp; done) | (simp; omega)))
            have HW2 : Hid (Below w.heap.size w w5) := HGS.out.below hgrow HBW.out (Nat.le_refl _) (by omega)
            clear hown hgrow hat
            go_wp2_with fail
            go_roundw
            case rel => exact ⟨k + 1, by omega, by go_num, HN5, HW2⟩
            case measure => simp [intOf]; omega
      · have hkz : k = z := by omega
        have hle : ¬ (k : Int) ≤ (m : Int) + (n : Int) := by omega
        have hgr := HGR.out
        rw [hkz, ← hz, frmV_all, ← HFB.out] at hgr
        obtain ⟨T1, c1, hv1, hcl1, hcl2, hot⟩ := hgr.table
        subst hv1
        have HOT := Lib.hid hot
        clear hgr hot HGR hkz
        go_wp2_with fail
        go_ret
        exact ⟨T1, c1, rfl, HV.out, HOT.out⟩
  · have H1 : Hid (frmG g = []) := frm_no (frm_small (by rw [HM.out, HN.out]; exact h8))
    have hs8' : (8 : Int) < (m : Int) + (n : Int) := by omega
    have hsw : IntKind.i64.wrap ((m : Int) + (n : Int)) = (m : Int) + (n : Int) := IntWalk.i64_in _ ⟨by omega, by omega⟩
    clear hb h hb0 hg hm hn hc0 hS
    rw [HM.out] at hl ⊢
    go_enter Try.func37, Try.ntmps37
    go_wp2_with fail
    refine (by have := game_spec (some ⟨b, off, none⟩) c g _ (by rw [HM.out]; exact HLM.out) _ HR.out; rw [HM.out, HB.out] at this; exact this : Calls Try.prog 51 #[.slice (some ⟨b, off, none⟩) m c] _ _).mono ?_
    rintro e w1 ⟨rfl, q, rfl⟩
    have HBQ := Lib.hid (below_drewN HB0.out q)
    have hc0 : ((w.alloc (.cells #[] 31)).drewN q).cell? ⟨b, off, none⟩ = some (.slice A0 n c0) := HC0.out
    go_wp2_with fail
    go_ret
    rw [H1.out]
    exact ⟨_, 0, rfl, HBQ.out, fun h0 => absurd h0 (by simp)⟩

end Go.Proofs.Ytanfefgigepdcaa
