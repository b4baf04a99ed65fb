/- Texts in one: WinS, WinT, WinB. -/
import Derived.Test.YthdlepfkifngmaaWin
import Derived.Test.YthdlepfkifngmaaMC
namespace Go.Proofs.Ythdlepfkifngmaa
set_option linter.unusedSimpArgs false
set_option linter.unusedVariables false
open Go.RowKit

/-- a row that was made and is written -/
structure RowNow (w wr : World) (l : List Int) : Prop where
  bel : Below w.heap.size w wr
  size : wr.heap.size = w.heap.size + 1
  row : IntRow wr w.heap.size l

theorem nth_zeros (n i : Nat) : nth (List.replicate n 0) i = 0 := by
  unfold nth; simp [List.getElem?_replicate]; split <;> rfl

theorem nth_setk (l : List Int) (k i : Nat) (x : Int) (h : i < l.length) : nth (l.set k x) i = if i = k then x else nth l i := by
  unfold nth
  rw [List.getD_eq_getElem?_getD, List.getD_eq_getElem?_getD, List.getElem?_set]
  by_cases e : i = k
  · subst e; simp [h]
  · rw [if_neg e, if_neg (fun h => e h.symm)]

theorem RowNow.start (w : World) (n : Nat) : RowNow w (w.alloc (.cells (madeCells #[.int .i64 0] n) 3)) (List.replicate n 0) :=
  ⟨(Below.refl _ _).alloc (Nat.le_refl _) _, by simp, by
    show World.rowIs _ _ _ _ _
    rw [List.length_replicate]
    exact (World.rowIs_made w _ n _).congr (fun i _ => by rw [nth_zeros])⟩

theorem RowNow.poke {w wr : World} {l : List Int} (h : RowNow w wr l) (k : Nat) (x : Int) : RowNow w (wr.setCell ⟨w.heap.size, k, none⟩ (.int .i64 x)) (l.set k x) := by
  refine ⟨h.bel.setCell (Nat.le_refl _) _, by simp [World.setCell, h.size], ?_⟩
  show World.rowIs _ _ _ _ _
  rw [List.length_set]
  refine (h.row.set k _).congr fun i hi => ?_
  rw [nth_setk _ _ _ _ hi]
  by_cases e : i = k
  · rw [if_pos e, if_pos e]
  · rw [if_neg e, if_neg e]

theorem RowNow.own {w wr : World} {l : List Int} (h : RowNow w wr l) : OwnI wr w.heap.size wr.heap.size (some ⟨w.heap.size, 0, none⟩) l :=
  fun _ => ⟨w.heap.size, l.length, _, rfl, Nat.le_refl _, by rw [h.size]; omega, h.row, Nat.le_refl _, fun _ _ => rfl⟩

set_option maxHeartbeats 1000000 in
theorem winsFor_spec (c d : Int) (w : World) :
    Calls Try.prog 22 #[.int .i64 c, .int .i64 d] w (Same (.int .i64 (winV c d)) w) := by
  rcases hb : winB c d with _ | _
  · have HN := Lib.hid (win_no hb)
    rw [HN.out.2.2.1]
    rcases h1 : inR c 1 16 with _ | _
    · clear hb
      go_enter Try.func22, Try.ntmps22
      go_wp2_with (go_at_call 50; refine (in_spec _ _ _ _).mono ?_; rintro e w1 ⟨rfl, rfl⟩; rw [h1])
      go_ret
      exact Same.of rfl
    · have h2 : inR d 1 c = false := by unfold winB at hb; rw [h1, Bool.true_and] at hb; exact hb
      clear hb
      go_enter Try.func22, Try.ntmps22
      go_wp2_with (go_at_call 50; refine (in_spec _ _ _ _).mono ?_; rintro e w1 ⟨rfl, rfl⟩; first | rw [h1] | rw [h2])
      go_ret
      exact Same.of rfl
  · obtain ⟨m, n, rfl, rfl, h1, h2, h3, h4⟩ := win_nat hb
    have i1 : inR (m : Int) 1 16 = true := by unfold inR; exact decide_eq_true (by omega)
    have i2 : inR (n : Int) 1 (m : Int) = true := by unfold inR; exact decide_eq_true (by omega)
    rw [(win_yes hb).2.2.1]
    have hw1 : IntKind.i64.wrap ((m : Int) + (n : Int)) = (m : Int) + (n : Int) := IntWalk.i64_in _ ⟨by omega, by omega⟩
    have hw2 : IntKind.i64.wrap ((m : Int) + (n : Int) - 1) = (m : Int) + (n : Int) - 1 := IntWalk.i64_in _ ⟨by omega, by omega⟩
    have hq : ((m : Int) + (n : Int) - 1).tdiv (n : Int) = (wins m n : Int) := by
      rw [Int.tdiv_eq_ediv_of_nonneg (by omega), show (m : Int) + (n : Int) - 1 = ((m + n - 1 : Nat) : Int) by omega]; rfl
    have hb1 : wins m n ≤ 31 := Nat.le_trans (Nat.div_le_self _ _) (by omega)
    have hw3 : IntKind.i64.wrap (wins m n : Int) = (wins m n : Int) := IntWalk.i64_in _ ⟨by omega, by omega⟩
    have hz : ((n : Int) == 0) = false := by rw [beq_eq_false_iff_ne]; omega
    have hz' : ¬ (n : Int) = 0 := by omega
    clear hb
    go_enter Try.func22, Try.ntmps22
    go_wp2_with (go_at_call 50; refine (in_spec _ _ _ _).mono ?_; rintro e w1 ⟨rfl, rfl⟩; first | rw [i1] | rw [i2])
    go_ret
    exact Same.of (by simp [hq, hw3])

theorem wins_lt {m n k : Nat} (h : 1 ≤ n) : k < wins m n ↔ k * n < m := by
  unfold wins
  rw [show k < (m + n - 1) / n ↔ k + 1 ≤ (m + n - 1) / n from Iff.rfl, Nat.le_div_iff_mul_le (by omega), Nat.add_mul, Nat.one_mul]
  omega

theorem wins_le {m n : Nat} (h : 1 ≤ n) : wins m n ≤ m := by
  refine Nat.le_of_not_lt fun hc => ?_
  have := (wins_lt h).1 hc
  have := Nat.le_mul_of_pos_right m (show 0 < n by omega)
  omega

set_option maxHeartbeats 1000000 in
set_option maxRecDepth 100000 in
theorem hidePlan_spec (c d : Int) (w : World) :
    Calls Try.prog 30 #[.int .i64 c, .int .i64 d] w (NewList w (hideL c d)) := by
  have hws := winsFor_spec c d w
  rcases hb : winB c d with _ | _
  · have HN := Lib.hid (win_no hb)
    rw [HN.out.2.2.1] at hws
    clear hb
    go_enter Try.func30, Try.ntmps30
    go_wp2_with fail
    refine hws.mono ?_
    rintro e w1 ⟨rfl, rfl⟩
    go_wp2_with fail
    go_ret
    rw [HN.out.2.2.2.2]
    exact ⟨_, 0, rfl, (Below.refl _ _).alloc (Nat.le_refl _) _, fun h0 => absurd h0 (by simp)⟩
  · obtain ⟨m, n, rfl, rfl, h1, h2, h3, h4⟩ := win_nat hb
    have HY := Lib.hid (win_yes hb)
    rw [HY.out.2.2.1] at hws
    have hmk := run_make_row' (P := Try.prog) 36 3 _ 8 Try.underlying36 infoI rfl .i64 .i64 m (by omega) (by omega)
    have hneg : decide ((wins m n : Int) < 0) = false := decide_eq_false (by omega)
    have R0 := Lib.hid (RowNow.start w m)
    have HL := Lib.hid (hideTo_length m n)
    clear hb
    go_enter Try.func30, Try.ntmps30
    go_wp2_with fail
    refine hws.mono ?_
    rintro e w1 ⟨rfl, rfl⟩
    go_wp2_with fail
    go_loopw [6] (fun i wr => ∃ k p : Nat, k ≤ wins m n ∧ Hid (p = k * n) ∧ i = .int .i64 (p : Int) ∧ Hid (RowNow w wr (hideTo m n k))) (fun i _ => m - (intOf i).toNat)
    case atStart => exact ⟨0, 0, Nat.zero_le _, (by show _ = _; simp), rfl, R0⟩
    case round =>
      obtain ⟨k, p, hk, HP, rfl, HR⟩ := hrel
      have hpn : Hid (p + n = (k + 1) * n) := by show _ = _; rw [Nat.add_mul, Nat.one_mul, HP.out]
      have hkw := @wins_lt m n k h3
      rw [← HP.out] at hkw
      by_cases hlt : p < m
      · have hkl := hkw.2 hlt
        have HN2 := Lib.hid (HR.out.poke p 1)
        have hrow : World.rowIs _ _ _ _ _ := HR.out.row
        rw [HL.out k] at hrow
        have hc0 := hrow.cell (i := p) hlt
        have hf0 := hrow.frozen p
        have hw : IntKind.i64.wrap ((p : Int) + (n : Int)) = (p : Int) + (n : Int) := IntWalk.i64_in _ ⟨by omega, by omega⟩
        clear hkw hrow
        go_wp2_with fail
        go_roundw
        case rel => exact ⟨k + 1, p + n, by omega, hpn, by go_num, by have := HN2.out; rw [HP.out] at this ⊢; exact this⟩
        case measure => simp [intOf]; omega
      · have hkl : k = wins m n := by omega
        have HR2 : Hid (RowNow w wr (hideT m n)) := by rw [hkl] at HR; exact HR
        clear hkw
        go_wp2_with fail
        go_ret
        rw [HY.out.2.2.2.2]
        exact ⟨some ⟨w.heap.size, 0, none⟩, m, by rw [show (hideT m n).length = m from HL.out _]; rfl, HR2.out.bel, HR2.out.own⟩

set_option maxHeartbeats 1000000 in
set_option maxRecDepth 100000 in
theorem lookPlan_spec (c d : Int) (w : World) :
    Calls Try.prog 27 #[.int .i64 c, .int .i64 d] w (NewList w (lookL c d)) := by
  have hws := winsFor_spec c d w
  rcases hb : winB c d with _ | _
  · have HN := Lib.hid (win_no hb)
    rw [HN.out.2.2.1] at hws
    clear hb
    go_enter Try.func27, Try.ntmps27
    go_wp2_with fail
    refine hws.mono ?_
    rintro e w1 ⟨rfl, rfl⟩
    go_wp2_with fail
    go_ret
    rw [HN.out.2.2.2.1]
    exact ⟨_, 0, rfl, (Below.refl _ _).alloc (Nat.le_refl _) _, fun h0 => absurd h0 (by simp)⟩
  · obtain ⟨m, n, rfl, rfl, h1, h2, h3, h4⟩ := win_nat hb
    have HY := Lib.hid (win_yes hb)
    rw [HY.out.2.2.1] at hws
    obtain ⟨s, hs⟩ : ∃ s, s = m - n := ⟨_, rfl⟩
    have HS := Lib.hid hs
    have hmk := run_make_row' (P := Try.prog) 36 3 _ 8 Try.underlying36 infoI rfl .i64 .i64 (s + 1) (by omega) (by omega)
    simp only [show ((s + 1 : Nat) : Int) = (s : Int) + 1 by omega] at hmk
    have hneg : decide ((wins m n : Int) < 0) = false := decide_eq_false (by omega)
    have hmn : (m : Int) - (n : Int) = (s : Int) := by omega
    have hs1 : IntKind.i64.wrap (s : Int) = (s : Int) := IntWalk.i64_in _ ⟨by omega, by omega⟩
    have hs2 : IntKind.i64.wrap ((s : Int) + 1) = (s : Int) + 1 := IntWalk.i64_in _ ⟨by omega, by omega⟩
    have R0 := Lib.hid (RowNow.start w (s + 1))
    have HL : Hid (∀ k, (lookTo m n k).length = s + 1) := fun k => by rw [lookTo_length, HS.out]
    have hsb : s ≤ 15 := by omega
    have HWL := Lib.hid (@wins_le m n h3)
    clear hb hs
    go_enter Try.func27, Try.ntmps27
    go_wp2_with fail
    refine hws.mono ?_
    rintro e w1 ⟨rfl, rfl⟩
    go_wp2_with fail
    go_loopw [7] (fun i wr => ∃ k : Nat, k ≤ wins m n ∧ i = .int .i64 (k : Int) ∧ Hid (RowNow w wr (lookTo m n k))) (fun i _ => wins m n - (intOf i).toNat)
    case atStart => exact ⟨0, Nat.zero_le _, rfl, by show RowNow _ _ _; rw [show lookTo m n 0 = List.replicate (s + 1) 0 by rw [HS.out]; rfl]; exact R0.out⟩
    case round =>
      obtain ⟨k, hk, rfl, HR⟩ := hrel
      by_cases hlt : k < wins m n
      · obtain ⟨p, hp⟩ : ∃ p, p = k * n := ⟨_, rfl⟩
        have hpm : p < m := by rw [hp]; exact (wins_lt h3).1 hlt
        have hkn : (k : Int) * (n : Int) = (p : Int) := by rw [hp]; simp
        have hwp : IntKind.i64.wrap (p : Int) = (p : Int) := IntWalk.i64_in _ ⟨by omega, by omega⟩
        have hkb : k < 16 := by have := HWL.out; omega
        by_cases hsp : s < p
        · skip
          have HN2 : Hid (RowNow w (wr.setCell ⟨w.heap.size, s, none⟩ (.int .i64 1)) (lookTo m n (k + 1))) := by
            have := HR.out.poke s 1
            rwa [show s = min (k * n) (m - n) by rw [← hp, ← HS.out]; omega] at this ⊢
          have hrow : World.rowIs _ _ _ _ _ := HR.out.row
          rw [HL.out k] at hrow
          have hc0 := hrow.cell (i := s) (by omega)
          have hf0 := hrow.frozen s
          clear hrow hp
          go_wp2_with fail
          go_roundw
          case rel => exact ⟨k + 1, by omega, by go_num, HN2⟩
          case measure => simp [intOf]; omega
        · skip
          have HN2 : Hid (RowNow w (wr.setCell ⟨w.heap.size, p, none⟩ (.int .i64 1)) (lookTo m n (k + 1))) := by
            have := HR.out.poke p 1
            rwa [show p = min (k * n) (m - n) by rw [← hp, ← HS.out]; omega] at this ⊢
          have hrow : World.rowIs _ _ _ _ _ := HR.out.row
          rw [HL.out k] at hrow
          have hc0 := hrow.cell (i := p) (by omega)
          have hf0 := hrow.frozen p
          clear hrow hp
          go_wp2_with fail
          go_roundw
          case rel => exact ⟨k + 1, by omega, by go_num, HN2⟩
          case measure => simp [intOf]; omega
      · have hkl : k = wins m n := by omega
        have HR2 : Hid (RowNow w wr (lookT m n)) := by rw [hkl] at HR; exact HR
        go_wp2_with fail
        go_ret
        rw [HY.out.2.2.2.1]
        exact ⟨some ⟨w.heap.size, 0, none⟩, s + 1, by rw [show (lookT m n).length = s + 1 from HL.out _]; rfl, HR2.out.bel, HR2.out.own⟩

end Go.Proofs.Ythdlepfkifngmaa

namespace Go.Proofs.Ythdlepfkifngmaa
set_option linter.unusedSimpArgs false
set_option linter.unusedVariables false
open Go.RowKit

set_option maxHeartbeats 2000000 in
set_option maxRecDepth 100000 in
theorem winGame_spec (c d : Int) (w : World) :
    Calls Try.prog 16 #[.int .i64 c, .int .i64 d] w (NewTable w (winG c d)) := by
  have hb0 : Below w.heap.size w (w.alloc (.cells #[] 36)) := (Below.refl _ _).alloc (Nat.le_refl _) _
  have G0 := Lib.hid (GrowsR.lit w (base := w.heap.size) (Nat.le_refl _) (fun _ => none) (fun _ => 0))
  have HB0 := Lib.hid hb0
  clear hb0
  rcases hb : winB c d with _ | _
  · have HN := Lib.hid (win_no hb)
    rcases h1 : inR c 1 16 with _ | _
    · clear hb
      go_enter Try.func16, Try.ntmps16
      go_wp2_with (go_at_call 50; refine (in_spec _ _ _ _).mono ?_; rintro e w1 ⟨rfl, rfl⟩; rw [h1])
      go_ret
      rw [HN.out.1]
      exact ⟨_, 0, rfl, HB0.out, fun h0 => absurd h0 (by simp)⟩
    · have h2 : inR d 1 c = false := by unfold winB at hb; rw [h1, Bool.true_and] at hb; exact hb
      clear hb
      go_enter Try.func16, Try.ntmps16
      go_wp2_with (go_at_call 50; refine (in_spec _ _ _ _).mono ?_; rintro e w1 ⟨rfl, rfl⟩; first | rw [h1] | rw [h2])
      go_ret
      rw [HN.out.1]
      exact ⟨_, 0, rfl, HB0.out, fun h0 => absurd h0 (by simp)⟩
  · obtain ⟨m, n, rfl, rfl, h1, h2, h3, h4⟩ := win_nat hb
    have HY := Lib.hid (win_yes hb)
    have i1 : inR (m : Int) 1 16 = true := by unfold inR; exact decide_eq_true (by omega)
    have i2 : inR (n : Int) 1 (m : Int) = true := by unfold inR; exact decide_eq_true (by omega)
    have hmk := run_make_row' (P := Try.prog) 36 3 _ 8 Try.underlying36 infoI rfl .i64 .i64 m (by omega) (by omega)
    obtain ⟨i0, hi1, hy0, hy1, hy2⟩ := info_parts infoR
    have HI1 := Lib.hid hi1
    have HY0 := Lib.hid hy0
    have HY1 := Lib.hid hy1
    have HY2 := Lib.hid hy2
    clear hb hi1 hy0 hy1 hy2
    go_enter Try.func16, Try.ntmps16
    go_wp2_with (go_at_call 50; refine (in_spec _ _ _ _).mono ?_; rintro e w1 ⟨rfl, rfl⟩; first | rw [i1] | rw [i2])
    go_loopw [5, 6] (fun v i wr => ∃ k : Nat, k ≤ m - n + 1 ∧ i = .int .i64 k ∧ Hid (∃ (A : Nat → Option Addr) (C : Nat → Nat), GrowsR wr w.heap.size wr.heap.size v A C (winTo m n k)) ∧ Hid (Below w.heap.size w wr)) (fun _ i _ => m - n + 1 - (intOf i).toNat)
    case atStart => exact ⟨0, Nat.zero_le _, rfl, ⟨_, _, G0.out.up (by simp) (Nat.le_refl _)⟩, HB0⟩
    case round =>
      obtain ⟨k, hk, rfl, HT, HV⟩ := hrel
      obtain ⟨wo, hwo⟩ : ∃ wo, wo = wr := ⟨_, rfl⟩
      subst hwo
      have hlk := winTo_length m n k
      have hw1 : IntKind.i64.wrap ((k : Int) + (n : Int)) = (k : Int) + (n : Int) := IntWalk.i64_in _ ⟨by omega, by omega⟩
      by_cases hlt : k + n ≤ m
      · have hle : (k : Int) + (n : Int) ≤ (m : Int) := by omega
        obtain ⟨AA, CC, hgr⟩ := HT.out
        have HGR := Lib.hid hgr
        have hws := HV.out.size
        have R0 := Lib.hid (RowNow.start wo m)
        have HL := Lib.hid (rowTo_length m k)
        clear hgr HT
        go_wp2_with fail
        go_loopw [8] (fun i wq => ∃ j : Nat, j ≤ n ∧ i = .int .i64 j ∧ Hid (RowNow wo wq (rowTo m k j))) (fun i _ => n - (intOf i).toNat)
        case atStart => exact ⟨0, Nat.zero_le _, rfl, R0⟩
        case round =>
          obtain ⟨j, hj, rfl, HR⟩ := hrel
          by_cases hlj : j < n
          · have HN2 : Hid (RowNow wo (wr.setCell ⟨wo.heap.size, k + j, none⟩ (.int .i64 1)) (rowTo m k (j + 1))) := HR.out.poke (k + j) 1
            have hrow : World.rowIs _ _ _ _ _ := HR.out.row
            rw [HL.out j] at hrow
            have hc0 := hrow.cell (i := k + j) (by omega)
            have hf0 := hrow.frozen (k + j)
            have hw2 : IntKind.i64.wrap ((k : Int) + (j : Int)) = (k : Int) + (j : Int) := IntWalk.i64_in _ ⟨by omega, by omega⟩
            have hkj : (k : Int) + (j : Int) < (m : Int) := by omega
            clear hrow
            go_wp2_with fail
            go_roundw
            case rel => exact ⟨j + 1, by omega, by go_num, HN2⟩
            case measure => simp [intOf]; omega
          · have hjn : j = n := by omega
            have HR2 : Hid (RowNow wo wr (rowTo m k n)) := by rw [hjn] at HR; exact HR
            have HGS : Hid (GrowsR wr w.heap.size wo.heap.size _ AA CC (winTo m n k)) := HGR.out.keep HR2.out.bel
            have HON : Hid (OwnI wr wo.heap.size wr.heap.size (some ⟨wo.heap.size, 0, none⟩) (rowTo m k n)) := HR2.out.own
            have HBW := Lib.hid (belT HV.out HR2.out.bel)
            have hzs := HR2.out.size
            have HLM := Lib.hid (HL.out n)
            clear HR hjn
            go_wp2_with (at_builtin; refine wpList_append_own_at _ rfl (.tmp 39) (.tmp 41) _ rfl w.heap.size 36 i0 (.slice none 0 0) 1 24 Try.underlying25 HI1.out HY0.out HY1.out HY2.out rfl (by decide) _ _ _ rfl (HGS.out.alloc _) ⟨wo.heap.size + 1, 0, none⟩ 1 1 [.slice (some ⟨wo.heap.size, 0, none⟩) m m] rfl rfl ?c1 ?c2 ?c3 ?c4 ?c5 ?_)
            case c1 => rw [← hzs]; exact cell_one_new _ _ _
            case c2 => first | rfl | (intro u hu; simp at hu; subst hu; rfl)
            case c3 => rw [hlk]; unfold maxLen; omega
            case c4 => rw [hlk]; omega
            case c5 => first | omega | (simp; omega)
            intro v' w5 hown hgrow _ hat
            have HN : Hid (∃ (A : Nat → Option Addr) (C : Nat → Nat), GrowsR w5 w.heap.size w5.heap.size v' A C (winTo m n (k + 1))) := by
              exact HGS.out.snoc (l := rowTo m k n) (An := some ⟨wo.heap.size, 0, none⟩) (cn := m) (HON.out.more (Nat.le_refl _) (by omega)) (by rw [HLM.out]; exact Nat.le_refl _) (by unfold maxLen; omega) hws (by rw [hlk, HLM.out]; exact hown) hgrow (by rcases hat with e | e; exact .inl e; exact .inr (by rw [e]; first | (simp; done) | (simp; omega)))
            have HW2 : Hid (Below w.heap.size w w5) := HGS.out.below hgrow HBW.out (Nat.le_refl _) (by omega)
            clear hown hgrow hat
            go_wp2_with fail
            go_roundw
            case rel => exact ⟨k + 1, by omega, by go_num, HN, HW2⟩
            case measure => simp [intOf]; omega
      · have hle : ¬ (k : Int) + (n : Int) ≤ (m : Int) := by omega
        obtain ⟨AA, CC, hgr⟩ := HT.out
        rw [show winTo m n k = winT m n by unfold winT; congr 1; omega, ← HY.out.1] at hgr
        obtain ⟨T1, c1, hv1, hcl1, hcl2, hot⟩ := hgr.table
        subst hv1
        have HOT := Lib.hid hot
        clear hgr hot HT
        go_wp2_with fail
        go_ret
        exact ⟨T1, c1, rfl, HV.out, HOT.out⟩

set_option maxHeartbeats 2000000 in
set_option maxRecDepth 100000 in
theorem rinGame_spec (c d : Int) (w : World) :
    Calls Try.prog 35 #[.int .i64 c, .int .i64 d] w (NewTable w (rinG c d)) := by
  have hb0 : Below w.heap.size w (w.alloc (.cells #[] 36)) := (Below.refl _ _).alloc (Nat.le_refl _) _
  have G0 := Lib.hid (GrowsR.lit w (base := w.heap.size) (Nat.le_refl _) (fun _ => none) (fun _ => 0))
  have HB0 := Lib.hid hb0
  clear hb0
  rcases hb : winB c d with _ | _
  · have HN := Lib.hid (win_no hb)
    rcases h1 : inR c 1 16 with _ | _
    · clear hb
      go_enter Try.func35, Try.ntmps35
      go_wp2_with (go_at_call 50; refine (in_spec _ _ _ _).mono ?_; rintro e w1 ⟨rfl, rfl⟩; rw [h1])
      go_ret
      rw [HN.out.2.1]
      exact ⟨_, 0, rfl, HB0.out, fun h0 => absurd h0 (by simp)⟩
    · have h2 : inR d 1 c = false := by unfold winB at hb; rw [h1, Bool.true_and] at hb; exact hb
      clear hb
      go_enter Try.func35, Try.ntmps35
      go_wp2_with (go_at_call 50; refine (in_spec _ _ _ _).mono ?_; rintro e w1 ⟨rfl, rfl⟩; first | rw [h1] | rw [h2])
      go_ret
      rw [HN.out.2.1]
      exact ⟨_, 0, rfl, HB0.out, fun h0 => absurd h0 (by simp)⟩
  · obtain ⟨m, n, rfl, rfl, h1, h2, h3, h4⟩ := win_nat hb
    have HY := Lib.hid (win_yes hb)
    have i1 : inR (m : Int) 1 16 = true := by unfold inR; exact decide_eq_true (by omega)
    have i2 : inR (n : Int) 1 (m : Int) = true := by unfold inR; exact decide_eq_true (by omega)
    have hmk := run_make_row' (P := Try.prog) 36 3 _ 8 Try.underlying36 infoI rfl .i64 .i64 m (by omega) (by omega)
    obtain ⟨i0, hi1, hy0, hy1, hy2⟩ := info_parts infoR
    have HI1 := Lib.hid hi1
    have HY0 := Lib.hid hy0
    have HY1 := Lib.hid hy1
    have HY2 := Lib.hid hy2
    clear hb hi1 hy0 hy1 hy2
    go_enter Try.func35, Try.ntmps35
    go_wp2_with (go_at_call 50; refine (in_spec _ _ _ _).mono ?_; rintro e w1 ⟨rfl, rfl⟩; first | rw [i1] | rw [i2])
    go_loopw [5, 6] (fun v i wr => ∃ k : Nat, k ≤ m ∧ i = .int .i64 k ∧ Hid (∃ (A : Nat → Option Addr) (C : Nat → Nat), GrowsR wr w.heap.size wr.heap.size v A C (rinTo m n k)) ∧ Hid (Below w.heap.size w wr)) (fun _ i _ => m - (intOf i).toNat)
    case atStart => exact ⟨0, Nat.zero_le _, rfl, ⟨_, _, G0.out.up (by simp) (Nat.le_refl _)⟩, HB0⟩
    case round =>
      obtain ⟨k, hk, rfl, HT, HV⟩ := hrel
      obtain ⟨wo, hwo⟩ : ∃ wo, wo = wr := ⟨_, rfl⟩
      subst hwo
      have hlk := rinTo_length m n k
      by_cases hlt : k < m
      · obtain ⟨AA, CC, hgr⟩ := HT.out
        have HGR := Lib.hid hgr
        have hws := HV.out.size
        have R0 := Lib.hid (RowNow.start wo m)
        have HL := Lib.hid (ringTo_length m k)
        clear hgr HT
        go_wp2_with fail
        go_loopw [8] (fun i wq => ∃ j : Nat, j ≤ n ∧ i = .int .i64 j ∧ Hid (RowNow wo wq (ringTo m k j))) (fun i _ => n - (intOf i).toNat)
        case atStart => exact ⟨0, Nat.zero_le _, rfl, R0⟩
        case round =>
          obtain ⟨j, hj, rfl, HR⟩ := hrel
          by_cases hlj : j < n
          · obtain ⟨q, hq⟩ : ∃ q, q = (k + j) % m := ⟨_, rfl⟩
            have hqm : q < m := by rw [hq]; exact Nat.mod_lt _ (by omega)
            have HN2 : Hid (RowNow wo (wr.setCell ⟨wo.heap.size, q, none⟩ (.int .i64 1)) (ringTo m k (j + 1))) := by
              have := HR.out.poke q 1
              rw [hq] at this ⊢; exact this
            have hrow : World.rowIs _ _ _ _ _ := HR.out.row
            rw [HL.out j] at hrow
            have hc0 := hrow.cell (i := q) hqm
            have hf0 := hrow.frozen q
            have hw2 : IntKind.i64.wrap ((k : Int) + (j : Int)) = (k : Int) + (j : Int) := IntWalk.i64_in _ ⟨by omega, by omega⟩
            have hmod : ((k : Int) + (j : Int)).tmod (m : Int) = (q : Int) := by rw [hq, Int.tmod_eq_emod_of_nonneg (by omega)]; rfl
            have hm0 : ¬ (m : Int) = 0 := by omega
            have hm1 : ((m : Int) == 0) = false := by rw [beq_eq_false_iff_ne]; omega
            have hqw : IntKind.i64.wrap (q : Int) = (q : Int) := IntWalk.i64_in _ ⟨by omega, by omega⟩
            clear hq
            clear hrow
            go_wp2_with fail
            go_roundw
            case rel => exact ⟨j + 1, by omega, by go_num, HN2⟩
            case measure => simp [intOf]; omega
          · have hjn : j = n := by omega
            have HR2 : Hid (RowNow wo wr (ringTo m k n)) := by rw [hjn] at HR; exact HR
            have HGS : Hid (GrowsR wr w.heap.size wo.heap.size _ AA CC (rinTo m n k)) := HGR.out.keep HR2.out.bel
            have HON : Hid (OwnI wr wo.heap.size wr.heap.size (some ⟨wo.heap.size, 0, none⟩) (ringTo m k n)) := HR2.out.own
            have HBW := Lib.hid (belT HV.out HR2.out.bel)
            have hzs := HR2.out.size
            have HLM := Lib.hid (HL.out n)
            clear HR hjn
            go_wp2_with (at_builtin; refine wpList_append_own_at _ rfl (.tmp 39) (.tmp 41) _ rfl w.heap.size 36 i0 (.slice none 0 0) 1 24 Try.underlying25 HI1.out HY0.out HY1.out HY2.out rfl (by decide) _ _ _ rfl (HGS.out.alloc _) ⟨wo.heap.size + 1, 0, none⟩ 1 1 [.slice (some ⟨wo.heap.size, 0, none⟩) m m] rfl rfl ?c1 ?c2 ?c3 ?c4 ?c5 ?_)
            case c1 => rw [← hzs]; exact cell_one_new _ _ _
            case c2 => first | rfl | (intro u hu; simp at hu; subst hu; rfl)
            case c3 => rw [hlk]; unfold maxLen; omega
            case c4 => rw [hlk]; omega
            case c5 => first | omega | (simp; omega)
            intro v' w5 hown hgrow _ hat
            have HN : Hid (∃ (A : Nat → Option Addr) (C : Nat → Nat), GrowsR w5 w.heap.size w5.heap.size v' A C (rinTo m n (k + 1))) := by
              exact HGS.out.snoc (l := ringTo m k n) (An := some ⟨wo.heap.size, 0, none⟩) (cn := m) (HON.out.more (Nat.le_refl _) (by omega)) (by rw [HLM.out]; exact Nat.le_refl _) (by unfold maxLen; omega) hws (by rw [hlk, HLM.out]; exact hown) hgrow (by rcases hat with e | e; exact .inl e; exact .inr (by rw [e]; first | (simp; done) | (simp; omega)))
            have HW2 : Hid (Below w.heap.size w w5) := HGS.out.below hgrow HBW.out (Nat.le_refl _) (by omega)
            clear hown hgrow hat
            go_wp2_with fail
            go_roundw
            case rel => exact ⟨k + 1, by omega, by go_num, HN, HW2⟩
            case measure => simp [intOf]; omega
      · obtain ⟨AA, CC, hgr⟩ := HT.out
        rw [show rinTo m n k = rinT m n by unfold rinT; congr 1; omega, ← HY.out.2.1] at hgr
        obtain ⟨T1, c1, hv1, hcl1, hcl2, hot⟩ := hgr.table
        subst hv1
        have HOT := Lib.hid hot
        clear hgr hot HT
        go_wp2_with fail
        go_ret
        exact ⟨T1, c1, rfl, HV.out, HOT.out⟩

end Go.Proofs.Ythdlepfkifngmaa

namespace Go.Proofs.Ythdlepfkifngmaa
set_option linter.unusedSimpArgs false
set_option linter.unusedVariables false
open Go.RowKit

theorem wf_small {x : Int} (h0 : -1000000 ≤ x) (h1 : x ≤ 1000000) : (Lit.int .i64 x).wf = true := by
  have a : IntKind.i64.min = -9223372036854775808 := by decide
  have b : IntKind.i64.max = 9223372036854775807 := by decide
  show (decide (IntKind.i64.min ≤ x) && decide (x ≤ IntKind.i64.max)) = true
  rw [a, b, Bool.and_eq_true]; exact ⟨decide_eq_true (by omega), decide_eq_true (by omega)⟩

/-- all that the laws ask of windows -/
structure WinF (c d : Int) : Prop where
  set : setB (winG c d) (lookL c d) (hideL c d) = true
  up : safU (winG c d) (lookL c d) = 1
  down : safD (winG c d) (lookL c d) = winV c d
  rup : risU (winG c d) (hideL c d) = 1
  rdown : risD (winG c d) (hideL c d) = winV c d
  saf : safB (winG c d) (lookL c d) = true
  ris : risB (winG c d) (hideL c d) = true
  game : gameB (winG c d) = true
  many : (((winG c d).length : Nat) : Int) = c - d + 1
  look : (((lookL c d).length : Nat) : Int) = c - d + 1
  hide : (((hideL c d).length : Nat) : Int) = c
  suml : sumW (lookL c d) (lookL c d).length = winV c d
  sumh : sumW (hideL c d) (hideL c d).length = winV c d
  lo : 1 ≤ winV c d
  hi : winV c d ≤ 16
  sol : solB (winG c d) = true → solU (winG c d) = 1 ∧ solD (winG c d) = winV c d
  seen : ∀ j : Nat, (j : Int) < c → ∃ i, i < (lookL c d).length ∧ 0 < nth (lookL c d) i ∧ nth (rowAt (winG c d) i) j = 1

theorem win_facts {c d : Int} (h : winB c d = true) : WinF c d := by
  obtain ⟨m, n, rfl, rfl, h1, h2, h3, h4⟩ := win_nat h
  obtain ⟨y1, _, y3, y4, y5⟩ := win_yes h
  have a1 := allWin_at win_all_set h
  have a2 := allWin_at win_all_sums h
  have a3 := allWin_at win_all_seen h
  have a4 := allWin_at win_all_game h
  simp only [Bool.and_eq_true, beq_iff_eq, decide_eq_true_eq] at a1 a2 a4
  obtain ⟨s1, s2, s3⟩ := a1
  obtain ⟨t1, t2, t3, t4⟩ := a2
  have hs := s1
  unfold setB at hs
  simp only [Bool.and_eq_true, beq_iff_eq] at hs
  obtain ⟨⟨k1, k2⟩, k3, k4⟩ := hs
  have e1 : (winT m n).length = m - n + 1 := winTo_length _ _ _
  have e2 : (lookT m n).length = m - n + 1 := lookTo_length _ _ _
  have e3 : (hideT m n).length = m := hideTo_length _ _ _
  rw [List.all_eq_true] at a3
  constructor
  all_goals simp only [y1, y3, y4, y5]
  · exact s1
  · exact s2
  · exact s3
  · rw [← k3]; exact s2
  · rw [← k4]; exact s3
  · exact k1
  · exact k2
  · exact a4.1
  · rw [e1]; omega
  · rw [e2]; omega
  · rw [e3]
  · exact t1
  · exact t2
  · omega
  · omega
  · intro hb
    obtain ⟨_, _, _, k, u1, u2⟩ := sol_parts hb
    obtain ⟨v1, v2⟩ := set_one s1 k
    exact ⟨by rw [u1, ← v1]; exact s2, by rw [u2, ← v2]; exact s3⟩
  · intro j hj
    have := a3 j (List.mem_range.2 (by omega))
    rw [List.any_eq_true] at this
    obtain ⟨i, hi, hp⟩ := this
    simp only [Bool.and_eq_true, beq_iff_eq, decide_eq_true_eq] at hp
    exact ⟨i, by rw [e2]; exact List.mem_range.1 hi, hp.1, hp.2⟩

/-- all that the law asks of rings -/
structure RinF (c d : Int) : Prop where
  set : setB (rinG c d) (List.replicate c.toNat 1) (List.replicate c.toNat 1) = true
  saf : safB (rinG c d) (List.replicate c.toNat 1) = true
  up : safU (rinG c d) (List.replicate c.toNat 1) = lowU d c
  down : safD (rinG c d) (List.replicate c.toNat 1) = lowD d c
  many : (((rinG c d).length : Nat) : Int) = c
  less : lowD d c ≤ lowU d c * winV c d

theorem rin_facts {c d : Int} (h : winB c d = true) : RinF c d := by
  obtain ⟨m, n, rfl, rfl, h1, h2, h3, h4⟩ := win_nat h
  obtain ⟨_, y2, y3, _, _⟩ := win_yes h
  have a1 := allWin_at rin_all_set h
  simp only [Bool.and_eq_true, beq_iff_eq, decide_eq_true_eq] at a1
  obtain ⟨s1, s2, s3, _, s4⟩ := a1
  have hs := s1
  unfold setB at hs
  simp only [Bool.and_eq_true, beq_iff_eq] at hs
  have e1 : (rinT m n).length = m := rinTo_length _ _ _
  constructor
  all_goals simp only [y2, y3, Int.toNat_natCast]
  · exact s1
  · exact hs.1.1
  · exact s2
  · exact s3
  · rw [e1]
  · exact s4

end Go.Proofs.Ythdlepfkifngmaa
