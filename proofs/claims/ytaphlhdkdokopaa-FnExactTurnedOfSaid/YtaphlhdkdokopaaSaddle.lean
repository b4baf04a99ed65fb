/- The walk of the program's saddles. -/
import Derived.Test.YtaphlhdkdokopaaOwn
namespace Go.Proofs.Ytaphlhdkdokopaa
set_option linter.unusedSimpArgs false
set_option linter.unusedVariables false
open Go.RowKit

set_option maxHeartbeats 2000000 in
set_option maxRecDepth 100000 in
theorem saddles_impl (A : Option Addr) (c : Nat) (g : List (List Int)) (hl : g.length ≤ maxLen) (w : World) (h : Rows2 w (· < w.heap.size) A g) :
    Calls Try.prog 25 #[.slice A g.length c] w (NewList w (saddles g)) := by
  rcases hb : gameB g with _ | _
  · have H1 : Hid (saddles g = []) := by simp [Hid, saddles, hb]
    have HB := Lib.hid hb
    clear hb
    go_enter Try.func25, Try.ntmps25
    go_wp2_with fail
    refine (game_impl _ _ _ _ hl _ h).mono ?_
    rintro e w1 ⟨rfl, rfl⟩
    rw [HB.out]
    go_wp2_with fail
    go_ret
    rw [H1.out]
    exact ⟨none, 0, rfl, Below.refl _ _, fun h0 => absurd h0 (by simp)⟩
  have hg := Game.of hb
  have hg1 := hg.lo
  have hg2 := hg.hi
  have hg3 := hg.mlo
  have hg4 := hg.mhi
  have H1 : Hid (saddles g = sadUpTo g g.length 0) := by simp [Hid, saddles, hb]
  have h0 : ∀ i, i < g.length → 0 < (rowAt g i).length := fun i hi => by rw [hg.len i hi]; exact hg.mlo
  have h0c : ∀ i, i < (cols g).length → 0 < (rowAt (cols g) i).length := fun i hi => by rw [rowAt_cols_length g i (by rwa [cols_length] at hi)]; exact hg.lo
  have hm : ∀ i, i < (cols g).length → (rowAt (cols g) i).length ≤ maxLen := fun i hi => by rw [rowAt_cols_length g i (by rwa [cols_length] at hi)]; exact hl
  have HB := Lib.hid hb
  have HR := Lib.hid h
  have HG := Lib.hid hg
  have H0 := Lib.hid h0
  have H0C := Lib.hid h0c
  have HM := Lib.hid hm
  have HCL := Lib.hid (cols_length g)
  have HL1 : Hid ((bests ltB g).length = g.length) := bests_length _ _
  have HL2 : Hid ((bests gtB (cols g)).length = (rowAt g 0).length) := by show (bests gtB (cols g)).length = _; rw [bests_length, cols_length]
  obtain ⟨i0, hi0, hz0, hz1, hz2⟩ := info_parts infoI
  have HI0 := Lib.hid hi0
  have HZ0 := Lib.hid hz0
  have HZ1 := Lib.hid hz1
  have HZ2 := Lib.hid hz2
  obtain ⟨b, off, rfl⟩ := h.some (by omega)
  clear hb h h0 hg h0c hm hi0 hz0 hz1 hz2
  go_enter Try.func25, Try.ntmps25
  go_wp2_with fail
  refine (game_impl _ _ _ _ hl _ HR.out).mono ?_
  rintro e w1 ⟨rfl, rfl⟩
  rw [HB.out]
  go_wp2_with fail
  refine (bestOfEach _ _ lower _ _ g (by omega) H0.out _ HR.out).mono ?_
  rintro e w1 ⟨rfl, hb1, hs1, hr1⟩
  rw [HL1.out]
  rw [bests_low] at hr1
  have R1 := Lib.hid (keepRows hb1 HR.out)
  have R1' := Lib.hid (R1.out.mono (T := (· < w1.heap.size)) (fun b hb => by omega))
  have HR1 := Lib.hid hr1
  clear hr1
  go_wp2_with fail
  refine (columnsOf _ _ g _ HG.out _ R1'.out).mono ?_
  rintro e w2 ⟨rfl, hL⟩
  have hb2 := hL.bel
  have R2 := Lib.hid (hL.rows2 (S := (· < w2.heap.size)) (fun _ _ h => h) HM.out)
  clear hL
  go_wp2_with fail
  refine (bestOfEach _ _ higher _ _ (cols g) (by rw [HCL.out]; omega) H0C.out _ R2.out).mono ?_
  rintro e w3 ⟨rfl, hb3, hs3, hr3⟩
  rw [HL2.out]
  rw [bests_high] at hr3
  have hs2 := hb2.size
  have hbw : Below w.heap.size w w3 := belT (belT hb1 hb2) hb3
  have hs3' : w.heap.size < w3.heap.size := by omega
  have RG := Lib.hid ((keepRows hbw HR.out).mono (T := (· < w3.heap.size)) (fun b hb => by omega))
  have CL : Hid (∀ wr, Below w3.heap.size w3 wr → ∀ i, i < g.length → wr.cell? ⟨w.heap.size, i, none⟩ = some (.int .i64 (nth (lows g) i))) := fun wr hwr i hi =>
    (hwr.cell (p := ⟨w.heap.size, i, none⟩) hs3').trans (((HR1.out.of_block (hb2.block _ hs1)).of_block (hb3.block _ (by omega))).cell (by rw [lows_length]; exact hi))
  have CH : Hid (∀ wr, Below w3.heap.size w3 wr → ∀ j, j < (rowAt g 0).length → wr.cell? ⟨w2.heap.size, j, none⟩ = some (.int .i64 (nth (highs g) j))) := fun wr hwr j hj =>
    (hwr.cell (p := ⟨w2.heap.size, j, none⟩) hs3).trans (hr3.cell (by rw [highs_length]; exact hj))
  have HBW := Lib.hid hbw
  clear hr3 R1 R1' HR1 R2 hb1 hb2 hb3 hbw hs1 hs2
  go_wp2_with fail
  go_loopw [5, 20] (fun v i wr => ∃ k : Nat, k ≤ g.length ∧ i = .int .i64 k ∧ Hid (Grows wr w3.heap.size v (sadUpTo g k 0)) ∧ Hid (Below w3.heap.size w3 wr)) (fun _ i _ => g.length - (intOf i).toNat)
  case atStart => exact ⟨0, Nat.zero_le _, rfl, Grows.nil _ _, Below.refl _ _⟩
  case round =>
    obtain ⟨k, hk, rfl, HO, HW⟩ := hrel
    by_cases hlt : k < g.length
    · have R := Lib.hid (keepRows HW.out RG.out)
      obtain ⟨hS, Ak, ck, hck, hlk, hmk, hik⟩ := R.out.row hlt
      unfold maxLen at hmk
      have HLK := Lib.hid (HG.out.len k hlt)
      have hle : (rowAt g k).length ≤ 16 := by rw [HLK.out]; omega
      have hp1 : 0 ≤ (k : Int) * ((rowAt g k).length : Int) := Int.mul_nonneg (by omega) (by omega)
      have hp2 : (k : Int) * ((rowAt g k).length : Int) ≤ 256 := Int.le_trans (Int.mul_le_mul (show (k : Int) ≤ 16 by omega) (show ((rowAt g k).length : Int) ≤ 16 by omega) (by omega) (by omega)) (by omega)
      obtain ⟨bm, om, rfl, hbm, hcm⟩ := hik.at_ (H0.out k hlt)
      have CI : Hid (∀ wr', Below w3.heap.size w3 wr' → ∀ m, m < (rowAt g k).length → wr'.cell? ⟨bm, om + m, none⟩ = some (.int .i64 (nth (rowAt g k) m))) := fun wr' h' m hm =>
        (h'.cell (p := ⟨bm, om + m, none⟩) hbm).trans ((HW.out.cell (p := ⟨bm, om + m, none⟩) hbm).symm.trans (hcm m hm))
      clear hik hcm
      go_wp2_with fail
      clear hck
      go_loopw [5, 27] (fun v j wr => ∃ m : Nat, m ≤ (rowAt g k).length ∧ j = .int .i64 m ∧ Hid (Grows wr w3.heap.size v (sadUpTo g k m)) ∧ Hid (Below w3.heap.size w3 wr)) (fun _ j _ => (rowAt g k).length - (intOf j).toNat)
      case atStart => exact ⟨0, Nat.zero_le _, rfl, HO, HW⟩
      case round =>
        clear HO HW R
        obtain ⟨m, hm, rfl, HO, HW⟩ := hrel
        by_cases hlm : m < (rowAt g k).length
        · have hlm0 : m < (rowAt g 0).length := by rw [← HLK.out]; exact hlm
          have hci := CI.out _ HW.out m hlm
          have hcl := CL.out _ HW.out k hlt
          have hch := CH.out _ HW.out m hlm0
          have hlen := sad_len g k m hg4
          rcases e1 : nth (rowAt g k) m == nth (lows g) k with _ | _
          · have hno : Hid (sadUpTo g k (m + 1) = sadUpTo g k m) := sad_no (by simp only [sadB, e1]; rfl)
            go_wp2_with fail
            go_roundw
            case rel => exact ⟨m + 1, by omega, by go_num, by rw [hno.out]; exact HO, HW⟩
            case measure => simp [intOf]; omega
          · rcases e2 : nth (rowAt g k) m == nth (highs g) m with _ | _
            · have hno : Hid (sadUpTo g k (m + 1) = sadUpTo g k m) := sad_no (by simp only [sadB, e1, e2]; rfl)
              go_wp2_with fail
              go_roundw
              case rel => exact ⟨m + 1, by omega, by go_num, by rw [hno.out]; exact HO, HW⟩
              case measure => simp [intOf]; omega
            · have hy : Hid (sadUpTo g k (m + 1) = sadUpTo g k m ++ [(k : Int) * ((rowAt g k).length : Int) + (m : Int)]) := by
                rw [HLK.out]; exact sad_yes (by simp only [sadB, e1, e2]; rfl)
              have hsz := HW.out.size
              go_wp2_with (at_builtin; refine wpList_append_own_at _ rfl (.tmp 46) (.tmp 53) _ rfl w3.heap.size 3 i0 (.int .i64 0) 1 8 Try.underlying26 HI0.out HZ0.out HZ1.out HZ2.out rfl (by decide) _ _ _ rfl (HO.out.alloc _) ⟨wr.heap.size, 0, none⟩ 1 1 [.int .i64 ((k : Int) * ((rowAt g k).length : Int) + (m : Int))] rfl rfl (cell_one_new _ _ _) ?c2 ?c3 ?c4 ?c5 ?_)
              case c2 => intro u hu; simp at hu; subst hu; rfl
              case c3 => unfold maxLen; omega
              case c4 => omega
              case c5 => simp; omega
              intro v' w4 hown hgrow _ _
              have HN : Hid (Grows w4 w3.heap.size v' (sadUpTo g k (m + 1))) := by rw [hy.out]; exact Grows.snoc hown
              have HW2 : Hid (Below w3.heap.size w3 w4) := HO.out.below hgrow HW.out (Nat.le_refl _) hsz
              clear hown hgrow
              go_wp2_with fail
              go_roundw
              case rel => exact ⟨m + 1, by omega, by go_num, HN, HW2⟩
              case measure => simp [intOf]; omega
        · obtain rfl : m = (rowAt g k).length := by omega
          have HN : Hid (Grows wr w3.heap.size u5 (sadUpTo g (k + 1) 0)) := by rw [sad_next, ← HLK.out]; exact HO
          go_wp2_with fail
          go_roundw
          case rel => exact ⟨k + 1, by omega, by go_num, HN, HW⟩
          case measure => simp [intOf]; omega
    · obtain rfl : k = g.length := by omega
      have HN := HO.out
      rw [← H1.out] at HN
      have HO2 := Lib.hid HN
      clear HN
      go_wp2_with fail
      go_ret
      obtain ⟨A, c, hv, _, ho⟩ := HO2.out.own
      exact ⟨A, c, by rw [← hv]; rfl, belT HBW.out HW.out, ho.more (by omega) (Nat.le_refl _)⟩

end Go.Proofs.Ytaphlhdkdokopaa
