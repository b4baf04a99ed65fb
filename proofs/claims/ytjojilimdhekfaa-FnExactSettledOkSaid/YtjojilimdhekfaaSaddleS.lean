/- The walk of the specification's saddles. -/
import Derived.Test.YtjojilimdhekfaaSaddle
import Derived.Test.YtjojilimdhekfaaFloorS
namespace Go.Proofs.Ytjojilimdhekfaa
set_option linter.unusedSimpArgs false
set_option linter.unusedVariables false
open Go.RowKit

set_option maxHeartbeats 2000000 in
set_option maxRecDepth 100000 in
theorem saddles_spec (A : Option Addr) (c : Nat) (g : List (List Int)) (hl : g.length ≤ maxLen) (w : World) (h : Rows2 w (· < w.heap.size) A g) :
    Calls Try.prog 70 #[.slice A g.length c] w (NewList w (saddles g)) := by
  rcases hb : gameB g with _ | _
  · have H1 : Hid (saddles g = []) := by simp [Hid, saddles, hb]
    have HB := Lib.hid hb
    have HR := Lib.hid h
    clear hb h
    have hl' := hl
    unfold maxLen at hl'
    go_enter Try.func70, Try.ntmps70
    go_wp2_with fail
    go_loopw [3, 4] (fun v i wr => i = .int .i64 (0 : Nat) ∧ Hid (Grows wr w.heap.size v []) ∧ Hid (Below w.heap.size w wr)) (fun _ _ _ => 0)
    case atStart => exact ⟨rfl, Grows.lit w (Nat.le_refl _), (Below.refl _ _).alloc (Nat.le_refl _) _⟩
    case round =>
      obtain ⟨rfl, HO, HW⟩ := hrel
      by_cases h0 : 0 < g.length
      · go_wp2_with fail
        refine (game_spec _ _ _ _ hl _ (keepRows HW.out HR.out)).mono ?_
        rintro e w1 ⟨rfl, n, rfl⟩
        rw [HB.out]
        go_wp2_with fail
        go_ret
        rw [H1.out]
        exact NewList.of rfl (HO.out.drewN n) (below_drewN HW.out n)
      · go_wp2_with fail
        go_ret
        rw [H1.out]
        exact NewList.of rfl HO.out HW.out
  have hg := Game.of hb
  have hg1 := hg.lo
  have hg2 := hg.hi
  have hg3 := hg.mlo
  have hg4 := hg.mhi
  have H1 : Hid (saddles g = sadUpTo g g.length 0) := by simp [Hid, saddles, hb]
  have HB := Lib.hid hb
  have HR := Lib.hid h
  have HG := Lib.hid hg
  obtain ⟨i0, hi0, hz0, hz1, hz2⟩ := info_parts infoI
  have HI0 := Lib.hid hi0
  have HZ0 := Lib.hid hz0
  have HZ1 := Lib.hid hz1
  have HZ2 := Lib.hid hz2
  obtain ⟨b, off, rfl⟩ := h.some (by omega)
  clear hb h hg hi0 hz0 hz1 hz2
  go_enter Try.func70, Try.ntmps70
  go_wp2_with fail
  go_loopw [3, 4] (fun v i wr => ∃ k : Nat, k ≤ g.length ∧ i = .int .i64 k ∧ Hid (Grows wr w.heap.size v (sadUpTo g k 0)) ∧ Hid (Below w.heap.size w wr)) (fun _ i _ => g.length - (intOf i).toNat)
  case atStart => exact ⟨0, Nat.zero_le _, rfl, Grows.lit w (Nat.le_refl _), (Below.refl _ _).alloc (Nat.le_refl _) _⟩
  case round =>
    obtain ⟨k, hk, rfl, HO, HW⟩ := hrel
    by_cases hlt : k < g.length
    · have HLK := Lib.hid (HG.out.len k hlt)
      have hle : (rowAt g k).length ≤ 16 := by rw [HLK.out]; omega
      have hle0 : 1 ≤ (rowAt g k).length := by rw [HLK.out]; omega
      have hp1 : 0 ≤ (k : Int) * ((rowAt g 0).length : Int) := Int.mul_nonneg (by omega) (by omega)
      have hp2 : (k : Int) * ((rowAt g 0).length : Int) ≤ 256 := Int.le_trans (Int.mul_le_mul (show (k : Int) ≤ 16 by omega) (show ((rowAt g 0).length : Int) ≤ 16 by omega) (by omega) (by omega)) (by omega)
      go_wp2_with fail
      refine (game_spec _ _ _ _ hl _ (keepRows HW.out HR.out)).mono ?_
      rintro e w1 ⟨rfl, n, rfl⟩
      rw [HB.out]
      go_wp2_with fail
      go_loopw [3, 5] (fun v j wr => ∃ m : Nat, m ≤ (rowAt g 0).length ∧ j = .int .i64 m ∧ Hid (Grows wr w.heap.size v (sadUpTo g k m)) ∧ Hid (Below w.heap.size w wr)) (fun _ j _ => (rowAt g 0).length - (intOf j).toNat)
      case atStart => exact ⟨0, Nat.zero_le _, rfl, HO.out.drewN n, below_drewN HW.out n⟩
      case round =>
        clear HO HW
        obtain ⟨m, hm, rfl, HO, HW⟩ := hrel
        have R := Lib.hid (keepRows HW.out HR.out)
        obtain ⟨hS, A0, c0, hc0, hl0, hm0, _⟩ := R.out.row (i := 0) (by omega)
        rw [Nat.add_zero] at hc0
        unfold maxLen at hm0
        by_cases hlm : m < (rowAt g 0).length
        · have hlm' : m < (rowAt g k).length := by rw [HLK.out]; exact hlm
          obtain ⟨bm, om, cm, hc1, hc2, hc3, hc4, hc5⟩ := R.out.cell hlt hlm'
          unfold maxLen at hc3
          have hlen := sad_len g k m hg4
          have q1 : (m : Int) < ((rowAt g k).length : Int) := by omega
          have q2 : (0 : Int) ≤ (m : Int) := by omega
          have q3 : (k : Int) < (g.length : Int) := by omega
          have q4 : (0 : Int) ≤ (k : Int) := by omega
          rcases e1 : nth (rowAt g k) m == lowN (rowAt g k) (rowAt g k).length with _ | _
          · have hno : Hid (sadUpTo g k (m + 1) = sadUpTo g k m) := sad_no (by simp only [sadB, nth_lows g k hlt, e1]; rfl)
            go_wp2_with fail
            go_quiet ((go_at_call 67; first | exact quietOne ((l2Low _ _ g _ k hlt hl hle0 _ (R.out.drewN _)).mono fun _ _ => Same.quiet) | exact quietAdd ((l2Low _ _ g _ k hlt hl hle0 _ (R.out.drewN _)).mono fun _ _ => Same.quiet)))
            go_wp2_with fail
            go_roundw
            case rel => exact ⟨m + 1, by omega, by go_num, by rw [hno.out]; exact HO.out.drewN _, below_drewN HW.out _⟩
            case measure => simp [intOf]; omega
          · rcases e2 : nth (rowAt g k) m == highN (col g m) g.length with _ | _
            · have hno : Hid (sadUpTo g k (m + 1) = sadUpTo g k m) := sad_no (by simp only [sadB, nth_lows g k hlt, nth_highs g m hlm, e1, e2]; rfl)
              go_wp2_with fail
              go_quiet ((first | (go_at_call 67; first | exact quietOne ((l2Low _ _ g _ k hlt hl hle0 _ (R.out.drewN _)).mono fun _ _ => Same.quiet) | exact quietAdd ((l2Low _ _ g _ k hlt hl hle0 _ (R.out.drewN _)).mono fun _ _ => Same.quiet)) | (go_at_call 86; first | exact quietOne ((l2High _ _ g _ _ m HG.out hlm _ (R.out.drewN _)).mono fun _ _ => Same.quiet) | exact quietAdd ((l2High _ _ g _ _ m HG.out hlm _ (R.out.drewN _)).mono fun _ _ => Same.quiet))))
              go_wp2_with fail
              go_roundw
              case rel => exact ⟨m + 1, by omega, by go_num, by rw [hno.out]; exact HO.out.drewN _, below_drewN HW.out _⟩
              case measure => simp [intOf]; omega
            · have hy : Hid (sadUpTo g k (m + 1) = sadUpTo g k m ++ [(k : Int) * ((rowAt g 0).length : Int) + (m : Int)]) :=
                sad_yes (by simp only [sadB, nth_lows g k hlt, nth_highs g m hlm, e1, e2]; rfl)
              have hsz := HW.out.size
              go_wp2_with fail
              go_quiet ((first | (go_at_call 67; first | exact quietOne ((l2Low _ _ g _ k hlt hl hle0 _ (R.out.drewN _)).mono fun _ _ => Same.quiet) | exact quietAdd ((l2Low _ _ g _ k hlt hl hle0 _ (R.out.drewN _)).mono fun _ _ => Same.quiet)) | (go_at_call 86; first | exact quietOne ((l2High _ _ g _ _ m HG.out hlm _ (R.out.drewN _)).mono fun _ _ => Same.quiet) | exact quietAdd ((l2High _ _ g _ _ m HG.out hlm _ (R.out.drewN _)).mono fun _ _ => Same.quiet))))
              go_wp2_with (at_builtin; refine wpList_append_own_at _ rfl (.tmp 49) (.tmp 58) _ rfl w.heap.size 3 i0 (.int .i64 0) 1 8 Try.underlying24 HI0.out HZ0.out HZ1.out HZ2.out rfl (by decide) _ _ _ rfl ((HO.out.drewN _).alloc _) ⟨wr.heap.size, 0, none⟩ 1 1 [.int .i64 ((k : Int) * ((rowAt g 0).length : Int) + (m : Int))] rfl rfl (cell_one_new _ _ _) ?c2 ?c3 ?c4 ?c5 ?_)
              case c2 => intro u hu; simp at hu; subst hu; rfl
              case c3 => unfold maxLen; omega
              case c4 => omega
              case c5 => simp; omega
              intro v' w4 hown hgrow _ _
              have HN : Hid (Grows w4 w.heap.size v' (sadUpTo g k (m + 1))) := by rw [hy.out]; exact Grows.snoc hown
              have HW2 : Hid (Below w.heap.size w w4) := (HO.out.drewN _).below hgrow (below_drewN HW.out _) (Nat.le_refl _) hsz
              clear hown hgrow
              go_wp2_with fail
              go_roundw
              case rel => exact ⟨m + 1, by omega, by go_num, HN, HW2⟩
              case measure => simp [intOf]; omega
        · obtain rfl : m = (rowAt g 0).length := by omega
          have HN : Hid (Grows wr w.heap.size u3 (sadUpTo g (k + 1) 0)) := by rw [sad_next]; exact HO
          go_wp2_with fail
          go_roundw
          case rel => exact ⟨k + 1, by omega, by go_num, HN, HW⟩
          case measure => simp [intOf]; omega
    · obtain rfl : k = g.length := by omega
      have HN := HO.out
      rw [← H1.out] at HN
      have HO2 := Lib.hid HN
      clear HN
      go_wp2_with fail
      go_ret
      exact NewList.of rfl HO2.out HW.out

end Go.Proofs.Ytjojilimdhekfaa
