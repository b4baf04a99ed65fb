/- Texts in one: FairS, SoldS, SoldT, PlaS. -/
import Derived.Test.YtanfefgigepdcaaOA
import Derived.Test.YtanfefgigepdcaaMC
import Derived.Test.YtanfefgigepdcaaAppL
namespace Go.Proofs.Ytanfefgigepdcaa
set_option linter.unusedSimpArgs false
set_option linter.unusedVariables false
open Go.RowKit

theorem fair_steps {g : List (List Int)} {k m : Nat} (h : ∀ i j, (i < k ∨ i = k ∧ j < m) → j < g.length → nth (rowAt g i) j = -nth (rowAt g j) i) (e : nth (rowAt g k) m = -nth (rowAt g m) k) :
    ∀ i j, (i < k ∨ i = k ∧ j < m + 1) → j < g.length → nth (rowAt g i) j = -nth (rowAt g j) i := by
  intro i j hij hj
  by_cases hc : i = k ∧ j = m
  · rw [hc.1, hc.2]; exact e
  · exact h i j (by omega) hj

set_option maxHeartbeats 2000000 in
set_option maxRecDepth 100000 in
theorem fairOk_spec (A : Option Addr) (c : Nat) (g : List (List Int)) (hl : g.length ≤ maxLen) (w : World) (h : Rows2 w (· < w.heap.size) A g) :
    Calls Try.prog 15 #[.slice A g.length c] w (Quiet (.bool (fairB g)) w) := by
  have hl' := hl
  unfold maxLen at hl'
  rcases hb : gameB g with _ | _
  · have H1 : Hid (fairB g = false) := by show _ = _; unfold fairB; rw [hb]; rfl
    have HB := Lib.hid hb
    have HR := Lib.hid h
    clear hb h
    go_enter Try.func15, Try.ntmps15
    go_wp2_with fail
    refine (game_spec _ _ _ _ hl _ HR.out).mono ?_
    rintro e w1 ⟨rfl, n, rfl⟩
    rw [HB.out]
    go_wp2_with fail
    go_ret
    rw [H1.out]
    exact ⟨rfl, n, rfl⟩
  have hg := Game.of hb
  have hg1 := hg.lo
  have hg2 := hg.hi
  have hg3 := hg.mlo
  have hg4 := hg.mhi
  have HG := Lib.hid hg
  have HB := Lib.hid hb
  have HR := Lib.hid h
  obtain ⟨b, off, rfl⟩ := h.some (by omega)
  clear hb h hg
  by_cases hsq : g.length = (rowAt g 0).length
  · have HS := Lib.hid hsq
    have hsn : ((g.length : Int) != ((rowAt g 0).length : Int)) = false := by rw [← hsq]; simp
    clear hsq
    go_enter Try.func15, Try.ntmps15
    go_wp2_with fail
    refine (game_spec _ _ _ _ hl _ HR.out).mono ?_
    rintro e w1 ⟨rfl, n, rfl⟩
    rw [HB.out]
    have R := Lib.hid (HR.out.drewN n)
    obtain ⟨hS, A0, c0, hc0, hl0, hm0, _⟩ := R.out.row (i := 0) (by omega)
    rw [Nat.add_zero] at hc0
    unfold maxLen at hm0
    go_wp2_with fail
    clear hc0
    go_loopw [3] (fun i wr => ∃ k : Nat, k ≤ g.length ∧ i = .int .i64 k ∧ Hid (∀ i j, (i < k ∨ i = k ∧ j < 0) → j < g.length → nth (rowAt g i) j = -nth (rowAt g j) i) ∧ Hid (∃ q, wr = w.drewN q)) (fun i _ => g.length - (intOf i).toNat)
    case atStart => exact ⟨0, Nat.zero_le _, rfl, fun i j hi => by omega, ⟨n, rfl⟩⟩
    case round =>
      obtain ⟨k, hk, rfl, HA, HQ⟩ := hrel
      by_cases hlt : k < g.length
      · go_wp2_with fail
        go_loopw [4] (fun i wr => ∃ m : Nat, m ≤ g.length ∧ i = .int .i64 m ∧ Hid (∀ i j, (i < k ∨ i = k ∧ j < m) → j < g.length → nth (rowAt g i) j = -nth (rowAt g j) i) ∧ Hid (∃ q, wr = w.drewN q)) (fun i _ => g.length - (intOf i).toNat)
        case atStart => exact ⟨0, Nat.zero_le _, rfl, HA.out, HQ.out⟩
        case round =>
          clear HA HQ
          obtain ⟨m, hm, rfl, HA, HQ⟩ := hrel
          obtain ⟨q, rfl⟩ := HQ.out
          by_cases hlm : m < g.length
          · have l1 : m < (rowAt g k).length := by rw [HG.out.len k hlt, ← HS.out]; exact hlm
            have l2 : k < (rowAt g m).length := by rw [HG.out.len m hlm, ← HS.out]; exact hlt
            have hle1 : (rowAt g k).length ≤ 16 := by rw [HG.out.len k hlt]; omega
            have hle2 : (rowAt g m).length ≤ 16 := by rw [HG.out.len m hlm]; omega
            obtain ⟨bm, om, cm, hc1, hc2, hc3, hc4, hc5⟩ := HR.out.cell hlt l1
            obtain ⟨bn, on, cn, hd1, hd2, hd3, hd4, hd5⟩ := HR.out.cell hlm l2
            unfold maxLen at hc3 hd3
            have hn1 := HG.out.nlo m hlm k (by rw [← HS.out]; exact hlt)
            have hn2 := HG.out.nhi m hlm k (by rw [← HS.out]; exact hlt)
            rcases he : (nth (rowAt g k) m != -nth (rowAt g m) k) with _ | _
            · have HN : Hid (∀ i j, (i < k ∨ i = k ∧ j < m + 1) → j < g.length → nth (rowAt g i) j = -nth (rowAt g j) i) := fair_steps HA.out (by simpa using he)
              go_wp2_with fail
              go_quiet (fail)
              go_wp2_with fail
              go_roundw
              case rel => exact ⟨m + 1, by omega, by go_num, HN, ⟨_, rfl⟩⟩
              case measure => simp [intOf]; omega
            · have HF := Lib.hid (fair_not_anti hlt hlm (by simpa using he))
              go_wp2_with fail
              go_quiet (fail)
              go_wp2_with fail
              go_ret
              rw [HF.out]
              exact ⟨rfl, _, World.drewN_drewN _ _ _⟩
          · obtain rfl : m = g.length := by omega
            have HN : Hid (∀ i j, (i < k + 1 ∨ i = k + 1 ∧ j < 0) → j < g.length → nth (rowAt g i) j = -nth (rowAt g j) i) := fun i j hi hj => HA.out i j (by omega) hj
            go_wp2_with fail
            go_roundw
            case rel => exact ⟨k + 1, by omega, by go_num, HN, ⟨_, rfl⟩⟩
            case measure => simp [intOf]; omega
      · obtain rfl : k = g.length := by omega
        obtain ⟨q, rfl⟩ := HQ.out
        have HF : Hid (fairB g = true) := fairB_iff.2 ⟨HB.out, HS.out, fun i j hi hj => HA.out i j (.inl hi) hj⟩
        go_wp2_with fail
        go_ret
        rw [HF.out]
        exact ⟨rfl, _, rfl⟩
  · have HF := Lib.hid (fair_not_square hsq)
    have hsn : ((g.length : Int) != ((rowAt g 0).length : Int)) = true := by rw [bne_iff_ne]; omega
    clear hsq
    go_enter Try.func15, Try.ntmps15
    go_wp2_with fail
    refine (game_spec _ _ _ _ hl _ HR.out).mono ?_
    rintro e w1 ⟨rfl, n, rfl⟩
    rw [HB.out]
    have R := Lib.hid (HR.out.drewN n)
    obtain ⟨hS, A0, c0, hc0, hl0, hm0, _⟩ := R.out.row (i := 0) (by omega)
    rw [Nat.add_zero] at hc0
    unfold maxLen at hm0
    go_wp2_with fail
    go_ret
    rw [HF.out]
    exact ⟨rfl, _, rfl⟩

end Go.Proofs.Ytanfefgigepdcaa

namespace Go.Proofs.Ytanfefgigepdcaa
set_option linter.unusedSimpArgs false
set_option linter.unusedVariables false
open Go.RowKit

def beatU (n i m : Nat) : List Int := (List.range m).map (beatI n i)

def beatV (n k : Nat) : List (List Int) := (List.range k).map (beatR n)

theorem beatU_length (n i m : Nat) : (beatU n i m).length = m := by simp [beatU]

theorem beatV_length (n k : Nat) : (beatV n k).length = k := by simp [beatV]

theorem beatU_succ (n i m : Nat) : beatU n i (m + 1) = beatU n i m ++ [beatI n i m] := by simp [beatU, List.range_succ]

theorem beatV_succ (n k : Nat) : beatV n (k + 1) = beatV n k ++ [beatU n k n] := by simp [beatV, List.range_succ]; rfl

theorem beat_no {n : Int} (h : beatB n = false) : beatG n = [] := by unfold beatG; rw [h]; rfl

theorem beat_yes {n : Nat} (h : beatB (n : Int) = true) : beatG n = beatV n n := by unfold beatG; rw [if_pos h]; rfl

set_option maxHeartbeats 2000000 in
set_option maxRecDepth 100000 in
theorem beat_spec (x : Int) (w : World) : Calls Try.prog 32 #[.int .i64 x] w (NewTable w (beatG x)) := by
  have hb0 : Below w.heap.size w (w.alloc (.cells #[] 31)) := (Below.refl _ _).alloc (Nat.le_refl _) _
  have G0 := Lib.hid (GrowsR.lit w (base := w.heap.size) (Nat.le_refl _) (fun _ => none) (fun _ => 0))
  have HB0 := Lib.hid hb0
  clear hb0
  rcases hb : beatB x with _ | _
  · have HN := Lib.hid (beat_no hb)
    rcases h1 : inR x 1 15 with _ | _
    · clear hb
      go_enter Try.func32, Try.ntmps32
      go_wp2_with (go_at_call 63; refine (in_spec _ _ _ _).mono ?_; rintro e w1 ⟨rfl, rfl⟩; rw [h1])
      go_ret
      rw [HN.out]
      exact ⟨_, 0, rfl, HB0.out, fun h0 => absurd h0 (by simp)⟩
    · have h2 : (x.tmod 2 == 0) = true := by unfold beatB at hb; rw [h1, Bool.true_and] at hb; simpa using hb
      have h3 : x.tmod 2 = 0 := by simpa using h2
      clear hb
      go_enter Try.func32, Try.ntmps32
      go_wp2_with (go_at_call 63; refine (in_spec _ _ _ _).mono ?_; rintro e w1 ⟨rfl, rfl⟩; rw [h1])
      go_ret
      rw [HN.out]
      exact ⟨_, 0, rfl, HB0.out, fun h0 => absurd h0 (by simp)⟩
  have h1 : inR x 1 15 = true := by unfold beatB at hb; rw [Bool.and_eq_true] at hb; exact hb.1
  have h2 : (x.tmod 2 == 0) = false := by unfold beatB at hb; rw [Bool.and_eq_true] at hb; simpa using hb.2
  have h3 : 1 ≤ x ∧ x ≤ 15 := by unfold inR at h1; exact of_decide_eq_true h1
  obtain ⟨n, rfl⟩ : ∃ n : Nat, x = (n : Int) := ⟨x.toNat, by omega⟩
  have hn1 : 1 ≤ n := by omega
  have hn2 : n ≤ 15 := by omega
  have HY := Lib.hid (beat_yes hb)
  have h4 : ((n : Int) % 2 == 0) = false := by rw [Int.tmod_eq_emod_of_nonneg (by omega)] at h2; exact h2
  have hhalf : ((n : Int)).tdiv 2 = ((n / 2 : Nat) : Int) := by rw [Int.tdiv_eq_ediv_of_nonneg (by omega)]; rfl
  obtain ⟨h, hh⟩ : ∃ h, n / 2 = h := ⟨_, rfl⟩
  have hh2 : h ≤ 7 := by omega
  rw [hh] at hhalf
  obtain ⟨i0, hi0, hz0, hz1, hz2⟩ := info_parts infoI
  obtain ⟨i1, hi1, hy0, hy1, hy2⟩ := info_parts infoR
  have HI0 := Lib.hid hi0
  have HZ0 := Lib.hid hz0
  have HZ1 := Lib.hid hz1
  have HZ2 := Lib.hid hz2
  have HI1 := Lib.hid hi1
  have HY0 := Lib.hid hy0
  have HY1 := Lib.hid hy1
  have HY2 := Lib.hid hy2
  have HH := Lib.hid hh
  clear hb h3 hi0 hz0 hz1 hz2 hi1 hy0 hy1 hy2 hh
  go_enter Try.func32, Try.ntmps32
  go_wp2_with (go_at_call 63; refine (in_spec _ _ _ _).mono ?_; rintro e w1 ⟨rfl, rfl⟩; rw [h1])
  clear h1 h2 h4
  go_loopw [3, 4] (fun v i wr => ∃ k : Nat, k ≤ n ∧ i = .int .i64 k ∧ Hid (∃ (A : Nat → Option Addr) (C : Nat → Nat), GrowsR wr w.heap.size wr.heap.size v A C (beatV n k)) ∧ Hid (Below w.heap.size w wr)) (fun _ i _ => n - (intOf i).toNat)
  case atStart => exact ⟨0, Nat.zero_le _, rfl, ⟨_, _, G0.out.up (by simp) (Nat.le_refl _)⟩, HB0.out⟩
  case round =>
    obtain ⟨k, hk, rfl, HT, HW⟩ := hrel
    obtain ⟨AA, CC, hgr⟩ := HT.out
    have HGR := Lib.hid hgr
    clear hgr HT
    by_cases hlt : k < n
    · have hws := HW.out.size
      go_wp2_with fail
      obtain ⟨wo, rfl⟩ : ∃ wo : World, wo = wr := ⟨_, rfl⟩
      go_loopw [5, 6] (fun v i wr => ∃ m : Nat, m ≤ n ∧ i = .int .i64 m ∧ Hid (Grows wr wo.heap.size v (beatU n k m)) ∧ Hid (Below wo.heap.size wo wr)) (fun _ i _ => n - (intOf i).toNat)
      case atStart => exact ⟨0, Nat.zero_le _, rfl, Grows.lit wo (Nat.le_refl _), (Below.refl _ _).alloc (Nat.le_refl _) _⟩
      case round =>
        obtain ⟨m, hm, rfl, HO, HV⟩ := hrel
        have hvs := HV.out.size
        by_cases hlm : m < n
        · obtain ⟨f, hf⟩ : ∃ f, f = (m + n - k) % n := ⟨_, rfl⟩
          have hfn : f < n := by rw [hf]; exact Nat.mod_lt _ (by omega)
          have hsub : ((m : Int) - (k : Int)) + (n : Int) = ((m + n - k : Nat) : Int) := by omega
          have hmod : ((m + n - k : Nat) : Int).tmod (n : Int) = (f : Int) := by rw [hf, Int.tmod_eq_emod_of_nonneg (by omega)]; rfl
          have hw1 : IntKind.i64.wrap ((m : Int) - (k : Int)) = (m : Int) - (k : Int) := IntWalk.i64_in _ ⟨by omega, by omega⟩
          have hw2 : IntKind.i64.wrap ((m + n - k : Nat) : Int) = ((m + n - k : Nat) : Int) := IntWalk.i64_in _ ⟨by omega, by omega⟩
          have hm0 : ¬ (n : Int) = 0 := by omega
          have hm1 : ((n : Int) == 0) = false := by rw [beq_eq_false_iff_ne]; omega
          have hqw : IntKind.i64.wrap (f : Int) = (f : Int) := IntWalk.i64_in _ ⟨by omega, by omega⟩
          have HL := Lib.hid (beatU_length n k m)
          have HBI : Hid (beatI n k m = if f = 0 then 0 else if f ≤ h then 1 else -1) := by show _ = _; rw [beatI, ← hf, HH.out]
          clear hf
          rcases Nat.eq_zero_or_pos f with f0 | f0
          · skip
            have HE : Hid (beatI n k m = 0) := by show _ = _; rw [HBI.out, if_pos f0]
            have g1 : ¬ ((0 : Int) < (f : Int)) := by omega
            have g3 : ¬ ((h : Int) < (f : Int)) := by omega
            clear f0
            go_wp2_with (at_builtin; refine wpList_append_own_at _ rfl (.tmp 49) (.tmp 51) _ rfl wo.heap.size 3 i0 (.int .i64 0) 1 8 Try.underlying31 HI0.out HZ0.out HZ1.out HZ2.out rfl (by decide) _ _ _ rfl (HO.out.alloc _) ⟨wr.heap.size, 0, none⟩ 1 1 [.int .i64 (0)] rfl rfl (cell_one_new _ _ _) ?c2 ?c3 ?c4 ?c5 ?_)
            case c2 => first | rfl | (intro u hu; simp at hu; subst hu; rfl)
            case c3 => rw [HL.out]; unfold maxLen; omega
            case c4 => rw [HL.out]; omega
            case c5 => first | omega | (simp; omega)
            intro v' w4 hown hgrow _ _
            have HN : Hid (Grows w4 wo.heap.size v' (beatU n k (m + 1))) := by rw [beatU_succ, HE.out]; exact Grows.snoc hown
            have HV2 : Hid (Below wo.heap.size wo w4) := HO.out.below hgrow HV.out (Nat.le_refl _) hvs
            clear hown hgrow
            go_wp2_with fail
            go_roundw
            case rel => exact ⟨m + 1, by omega, by go_num, HN, HV2⟩
            case measure => simp [intOf]; omega
          · by_cases f1 : f ≤ h
            · skip
              have HE : Hid (beatI n k m = 1) := by show _ = _; rw [HBI.out, if_neg (by omega), if_pos f1]
              have g1 : (0 : Int) < (f : Int) := by omega
              have g2 : (f : Int) ≤ (h : Int) := by omega
              have g3 : ¬ ((h : Int) < (f : Int)) := by omega
              clear f0 f1
              go_wp2_with (at_builtin; refine wpList_append_own_at _ rfl (.tmp 49) (.tmp 51) _ rfl wo.heap.size 3 i0 (.int .i64 0) 1 8 Try.underlying31 HI0.out HZ0.out HZ1.out HZ2.out rfl (by decide) _ _ _ rfl (HO.out.alloc _) ⟨wr.heap.size, 0, none⟩ 1 1 [.int .i64 (1)] rfl rfl (cell_one_new _ _ _) ?c2 ?c3 ?c4 ?c5 ?_)
              case c2 => first | rfl | (intro u hu; simp at hu; subst hu; rfl)
              case c3 => rw [HL.out]; unfold maxLen; omega
              case c4 => rw [HL.out]; omega
              case c5 => first | omega | (simp; omega)
              intro v' w4 hown hgrow _ _
              have HN : Hid (Grows w4 wo.heap.size v' (beatU n k (m + 1))) := by rw [beatU_succ, HE.out]; exact Grows.snoc hown
              have HV2 : Hid (Below wo.heap.size wo w4) := HO.out.below hgrow HV.out (Nat.le_refl _) hvs
              clear hown hgrow
              go_wp2_with fail
              go_roundw
              case rel => exact ⟨m + 1, by omega, by go_num, HN, HV2⟩
              case measure => simp [intOf]; omega
            · skip
              have HE : Hid (beatI n k m = -1) := by show _ = _; rw [HBI.out, if_neg (by omega), if_neg f1]
              have g1 : (0 : Int) < (f : Int) := by omega
              have g2 : ¬ ((f : Int) ≤ (h : Int)) := by omega
              have g3 : (h : Int) < (f : Int) := by omega
              clear f0 f1
              go_wp2_with (at_builtin; refine wpList_append_own_at _ rfl (.tmp 49) (.tmp 51) _ rfl wo.heap.size 3 i0 (.int .i64 0) 1 8 Try.underlying31 HI0.out HZ0.out HZ1.out HZ2.out rfl (by decide) _ _ _ rfl (HO.out.alloc _) ⟨wr.heap.size, 0, none⟩ 1 1 [.int .i64 (-1)] rfl rfl (cell_one_new _ _ _) ?c2 ?c3 ?c4 ?c5 ?_)
              case c2 => first | rfl | (intro u hu; simp at hu; subst hu; rfl)
              case c3 => rw [HL.out]; unfold maxLen; omega
              case c4 => rw [HL.out]; omega
              case c5 => first | omega | (simp; omega)
              intro v' w4 hown hgrow _ _
              have HN : Hid (Grows w4 wo.heap.size v' (beatU n k (m + 1))) := by rw [beatU_succ, HE.out]; exact Grows.snoc hown
              have HV2 : Hid (Below wo.heap.size wo w4) := HO.out.below hgrow HV.out (Nat.le_refl _) hvs
              clear hown hgrow
              go_wp2_with fail
              go_roundw
              case rel => exact ⟨m + 1, by omega, by go_num, HN, HV2⟩
              case measure => simp [intOf]; omega
        · obtain rfl : m = n := by omega
          obtain ⟨An, cn, hv, hcn1, hcn2, hon⟩ := HO.out.own'
          have HGV := Lib.hid (HGR.out.keep HV.out)
          have HON := Lib.hid hon
          have HL := Lib.hid (beatV_length m k)
          subst hv
          clear hon
          go_wp2_with (at_builtin; refine wpList_append_own_at _ rfl (.tmp 53) (.tmp 55) _ rfl w.heap.size 31 i1 (.slice none 0 0) 1 24 Try.underlying23 HI1.out HY0.out HY1.out HY2.out rfl (by decide) _ _ _ rfl (HGV.out.alloc _) ⟨wr.heap.size, 0, none⟩ 1 1 [.slice An (beatU m k m).length cn] rfl rfl (cell_one_new _ _ _) ?c2 ?c3 ?c4 ?c5 ?_)
          case c2 => first | rfl | (intro u hu; simp at hu; subst hu; rfl)
          case c3 => rw [HL.out]; unfold maxLen; omega
          case c4 => rw [HL.out]; omega
          case c5 => first | omega | (simp; omega)
          intro v' w4 hown hgrow _ hat
          have HN : Hid (∃ (A : Nat → Option Addr) (C : Nat → Nat), GrowsR w4 w.heap.size w4.heap.size v' A C (beatV m (k + 1))) := by
            rw [beatV_succ]
            exact HGV.out.snoc HON.out hcn1 hcn2 hws hown hgrow (by rcases hat with e | e; exact .inl e; exact .inr (by rw [e]; try simp))
          have HW2 : Hid (Below w.heap.size w w4) := HGV.out.below hgrow (belT HW.out HV.out) (Nat.le_refl _) (by omega)
          clear hown hgrow hat
          go_wp2_with fail
          go_roundw
          case rel => exact ⟨k + 1, by omega, by go_num, HN, HW2⟩
          case measure => simp [intOf]; omega
    · obtain rfl : k = n := by omega
      have hgr := HGR.out
      rw [← HY.out] at hgr
      obtain ⟨T1, c1, hv1, hcl1, hcl2, hot⟩ := hgr.table
      subst hv1
      have HOT := Lib.hid hot
      clear hgr hot HGR
      go_wp2_with fail
      go_ret
      exact ⟨T1, c1, rfl, HW.out, HOT.out⟩

end Go.Proofs.Ytanfefgigepdcaa

namespace Go.Proofs.Ytanfefgigepdcaa
set_option linter.unusedSimpArgs false
set_option linter.unusedVariables false
open Go.RowKit

theorem pla_at {s f : Nat} (hs : 1 ≤ s) (hs2 : s ≤ 4) (hf : 1 ≤ f) (hf2 : f ≤ 3) : lookP s f = true := by
  have := List.all_eq_true.1 (List.all_eq_true.1 sold_P (s - 1) (by simp; omega)) (f - 1) (by simp; omega)
  rwa [show s - 1 + 1 = s by omega, show f - 1 + 1 = f by omega] at this

theorem pla_facts {s f : Nat} (hs : 1 ≤ s) (hs2 : s ≤ 4) (hf : 1 ≤ f) (hf2 : f ≤ 3) : (plaT s f).length ≤ 15 ∧ ∀ k, k < (plaT s f).length → (rowAt (plaT s f) k).length = f := by
  have h := pla_at hs hs2 hf hf2
  unfold lookP at h
  simp only [Bool.and_eq_true, decide_eq_true_eq, List.all_eq_true, List.mem_range] at h
  exact ⟨h.2.1, fun k hk => (h.2.2.2 k hk).1⟩

theorem more_abs (x y : List Int) (k : Nat) : -(k : Int) ≤ moreT x y k ∧ moreT x y k ≤ k := by
  induction k with
  | zero => simp [moreT]
  | succ k ih => unfold moreT; split; omega; split <;> omega

def sdrU (s f i m : Nat) : List Int := (List.range m).map fun j => moreT (rowAt (plaT s f) i) (rowAt (plaT s f) j) f

def sdrV (s f k : Nat) : List (List Int) := (List.range k).map (sdrR s f)

theorem sdrU_length (s f i m : Nat) : (sdrU s f i m).length = m := by simp [sdrU]

theorem sdrV_length (s f k : Nat) : (sdrV s f k).length = k := by simp [sdrV]

theorem sdrU_succ (s f i m : Nat) : sdrU s f i (m + 1) = sdrU s f i m ++ [moreT (rowAt (plaT s f) i) (rowAt (plaT s f) m) f] := by simp [sdrU, List.range_succ]

theorem sdrU_all (s f i : Nat) : sdrU s f i (plaT s f).length = sdrR s f i := by
  unfold sdrU sdrR
  refine List.ext_getElem (by simp) fun j h1 h2 => ?_
  simp only [List.getElem_map, List.getElem_range]
  congr 1
  simp at h1
  unfold rowAt; simp [h1]

theorem sdrV_succ (s f k : Nat) : sdrV s f (k + 1) = sdrV s f k ++ [sdrU s f k (plaT s f).length] := by rw [sdrU_all]; simp [sdrV, List.range_succ]

theorem pla_no {s f : Int} (h : plaB s f = false) : plaG s f = [] ∧ sdrG s f = [] := by unfold plaG sdrG; rw [h]; exact ⟨rfl, rfl⟩

theorem pla_yes {s f : Nat} (h : plaB (s : Int) (f : Int) = true) : plaG s f = plaT s f ∧ sdrG s f = sdrV s f (plaT s f).length := by unfold plaG sdrG; rw [if_pos h, if_pos h]; exact ⟨rfl, rfl⟩

theorem pla_nat {s f : Int} (h : plaB s f = true) : ∃ a b : Nat, s = (a : Int) ∧ f = (b : Int) ∧ 1 ≤ a ∧ a ≤ 4 ∧ 1 ≤ b ∧ b ≤ 3 := by
  unfold plaB inR at h
  rw [Bool.and_eq_true, decide_eq_true_eq, decide_eq_true_eq] at h
  exact ⟨s.toNat, f.toNat, by omega, by omega, by omega, by omega, by omega, by omega⟩

set_option maxHeartbeats 2000000 in
set_option maxRecDepth 100000 in
theorem soldier_spec (HP : ∀ (s f : Int) (w : World), Calls Try.prog 23 #[.int .i64 s, .int .i64 f] w (NewTable w (plaG s f))) (x y : Int) (w : World) :
    Calls Try.prog 27 #[.int .i64 x, .int .i64 y] w (NewTable w (sdrG x y)) := by
  have hb0 : Below w.heap.size w (w.alloc (.cells #[] 31)) := (Below.refl _ _).alloc (Nat.le_refl _) _
  have G0 := Lib.hid (GrowsR.lit w (base := w.heap.size) (Nat.le_refl _) (fun _ => none) (fun _ => 0))
  have HB0 := Lib.hid hb0
  clear hb0
  rcases hb : plaB x y with _ | _
  · have HN := Lib.hid (pla_no hb)
    clear hb
    go_enter Try.func27, Try.ntmps27
    go_wp2_with fail
    refine (HP x y _).mono ?_
    rintro e w1 ⟨T, c1, rfl, hb1, ho1⟩
    rw [HN.out.1] at ho1 ⊢
    have G1 := Lib.hid (G0.out.keep (by simpa using hb1))
    have HB1 : Hid (Below w.heap.size w w1) := HB0.out.trans (hb1.mono (by simp))
    clear hb1 ho1
    go_wp2_with fail
    go_loopw [5, 7] (fun v i wr => v = .slice (some ⟨w.heap.size, 0, none⟩) 0 0 ∧ i = .int .i64 (0 : Nat) ∧ Hid (wr = w1)) (fun _ _ _ => 0)
    case atStart => exact ⟨rfl, rfl, rfl⟩
    case round =>
      obtain ⟨rfl, rfl, hwr⟩ := hrel
      have hwr' : wr = w1 := hwr
      subst hwr'
      go_wp2_with fail
      go_ret
      rw [HN.out.2]
      exact NewTable.of rfl G1.out HB1.out
  obtain ⟨s, f, rfl, rfl, hs1, hs2, hf1, hf2⟩ := pla_nat hb
  have HY := Lib.hid (pla_yes hb)
  have HF := Lib.hid (pla_facts hs1 hs2 hf1 hf2)
  obtain ⟨n, hn⟩ : ∃ n, (plaT s f).length = n := ⟨_, rfl⟩
  have HNL := Lib.hid hn
  have hn15 : n ≤ 15 := by rw [← hn]; exact HF.out.1
  obtain ⟨i0, hi0, hz0, hz1, hz2⟩ := info_parts infoI
  obtain ⟨i1, hi1, hy0, hy1, hy2⟩ := info_parts infoR
  have HI0 := Lib.hid hi0
  have HZ0 := Lib.hid hz0
  have HZ1 := Lib.hid hz1
  have HZ2 := Lib.hid hz2
  have HI1 := Lib.hid hi1
  have HY0 := Lib.hid hy0
  have HY1 := Lib.hid hy1
  have HY2 := Lib.hid hy2
  clear hb hi0 hz0 hz1 hz2 hi1 hy0 hy1 hy2 hn
  go_enter Try.func27, Try.ntmps27
  go_wp2_with fail
  refine (HP s f _).mono ?_
  rintro e w1 ⟨T, c1, rfl, hb1, ho1⟩
  rw [HY.out.1] at ho1 ⊢
  have hw1s := hb1.size
  have G1 := Lib.hid (G0.out.keep (by simpa using hb1))
  have HB1 : Hid (Below w.heap.size w w1) := HB0.out.trans (hb1.mono (by simp))
  have HR : Hid (OwnR w1 (w.heap.size + 1) w1.heap.size T (plaT s f)) := by have := ho1; rwa [show (w.alloc (.cells #[] 31)).heap.size = w.heap.size + 1 by simp] at this
  obtain ⟨g, hg⟩ : ∃ g, g = plaT s f := ⟨_, rfl⟩
  have HGE := Lib.hid hg
  rw [← hg] at HR HNL ⊢
  rw [HNL.out]
  clear hb1 ho1 hg
  go_wp2_with fail
  go_loopw [5, 7] (fun v i wr => ∃ k : Nat, k ≤ n ∧ i = .int .i64 k ∧ Hid (∃ (A : Nat → Option Addr) (C : Nat → Nat), GrowsR wr w.heap.size wr.heap.size v A C (sdrV s f k)) ∧ Hid (Below w.heap.size w wr) ∧ Hid (OwnR wr (w.heap.size + 1) w1.heap.size T g ∧ (∀ b, v.ownBlock = some b → b = w.heap.size ∨ w1.heap.size ≤ b) ∧ w1.heap.size ≤ wr.heap.size)) (fun _ i _ => n - (intOf i).toNat)
  case atStart => exact ⟨0, Nat.zero_le _, rfl, ⟨_, _, G1.out.up (by simpa using hw1s) (Nat.le_refl _)⟩, HB1.out, HR.out, fun b e => .inl (by simp [Value.ownBlock] at e; exact e.symm), Nat.le_refl _⟩
  case round =>
    obtain ⟨k, hk, rfl, HT, HW, HV⟩ := hrel
    obtain ⟨AA, CC, hgr⟩ := HT.out
    have HGR := Lib.hid hgr
    clear hgr HT
    by_cases hlt : k < n
    · have hws := HW.out.size
      go_wp2_with fail
      obtain ⟨wo, rfl⟩ : ∃ wo : World, wo = wr := ⟨_, rfl⟩
      go_loopw [8, 9] (fun v i wr => ∃ m : Nat, m ≤ n ∧ i = .int .i64 m ∧ Hid (Grows wr wo.heap.size v (sdrU s f k m)) ∧ Hid (Below wo.heap.size wo wr)) (fun _ i _ => n - (intOf i).toNat)
      case atStart => exact ⟨0, Nat.zero_le _, rfl, Grows.lit wo (Nat.le_refl _), (Below.refl _ _).alloc (Nat.le_refl _) _⟩
      case round =>
        obtain ⟨m, hm, rfl, HO, HU⟩ := hrel
        have hvs := HU.out.size
        by_cases hlm : m < n
        · have HOT : Hid (OwnR wr (w.heap.size + 1) w1.heap.size T g) := HV.out.1.keep fun b _ h2 => HU.out.block b (by have := HV.out.2.2; omega)
          have R2 : Hid (Rows2 wr (· < w1.heap.size) T g) := (OwnR.rows2 HOT.out).mono fun b hb => hb.2
          have HLk : Hid ((rowAt g k).length = f) := by rw [HGE.out]; exact HF.out.2 k (by rw [← HGE.out, HNL.out]; exact hlt)
          have HLm : Hid ((rowAt g m).length = f) := by rw [HGE.out]; exact HF.out.2 m (by rw [← HGE.out, HNL.out]; exact hlm)
          have HL := Lib.hid (sdrU_length s f k m)
          go_wp2_with fail
          obtain ⟨wj, rfl⟩ : ∃ wj : World, wj = wr := ⟨_, rfl⟩
          go_loopw [10, 11] (fun v i wr => ∃ d : Nat, d ≤ f ∧ i = .int .i64 d ∧ v = .int .i64 (moreT (rowAt g k) (rowAt g m) d) ∧ Hid (∃ q, wr = wj.drewN q)) (fun _ i _ => f - (intOf i).toNat)
          case atStart => exact ⟨0, Nat.zero_le _, rfl, rfl, 0, rfl⟩
          case round =>
            obtain ⟨d, hd, rfl, rfl, HQ⟩ := hrel
            obtain ⟨q, rfl⟩ := HQ.out
            by_cases hld : d < f
            · have l1 : d < (rowAt g k).length := by rw [HLk.out]; exact hld
              have l2 : d < (rowAt g m).length := by rw [HLm.out]; exact hld
              have hle1 : (rowAt g k).length ≤ 3 := by rw [HLk.out]; omega
              have hle2 : (rowAt g m).length ≤ 3 := by rw [HLm.out]; omega
              have hms := more_abs (rowAt g k) (rowAt g m) d
              have hwa : IntKind.i64.wrap (moreT (rowAt g k) (rowAt g m) d + 1) = moreT (rowAt g k) (rowAt g m) d + 1 := IntWalk.i64_in _ ⟨by omega, by omega⟩
              have hwb : IntKind.i64.wrap (moreT (rowAt g k) (rowAt g m) d - 1) = moreT (rowAt g k) (rowAt g m) d - 1 := IntWalk.i64_in _ ⟨by omega, by omega⟩
              obtain ⟨bt, ot, rfl⟩ := R2.out.some (by rw [HNL.out]; omega)
              obtain ⟨bm, om, cm, hc1, hc2, hc3, hc4, hc5⟩ := R2.out.cell (by rw [HNL.out]; exact hlt) l1
              obtain ⟨bn, on, cn, hd1, hd2, hd3, hd4, hd5⟩ := R2.out.cell (by rw [HNL.out]; exact hlm) l2
              unfold maxLen at hc3 hd3
              clear hms
              by_cases h1 : nth (rowAt g m) d < nth (rowAt g k) d
              · have h2 : ¬ nth (rowAt g k) d < nth (rowAt g m) d := by omega
                have HE : Hid (moreT (rowAt g k) (rowAt g m) (d + 1) = moreT (rowAt g k) (rowAt g m) d + 1) := by show _ = _; rw [moreT, if_pos h1]
                skip
                go_wp2_with fail
                go_quiet (fail)
                go_wp2_with fail
                go_quiet (fail)
                go_wp2_with fail
                go_roundw
                case rel => exact ⟨d + 1, by omega, by go_num, by rw [HE.out], _, by first | rfl | rw [World.drewN_drewN] | rw [World.drewN_drewN, World.drewN_drewN]⟩
                case measure => simp [intOf]; omega
              · by_cases h2 : nth (rowAt g k) d < nth (rowAt g m) d
                · have HE : Hid (moreT (rowAt g k) (rowAt g m) (d + 1) = moreT (rowAt g k) (rowAt g m) d - 1) := by show _ = _; rw [moreT, if_neg h1, if_pos h2]
                  skip
                  go_wp2_with fail
                  go_quiet (fail)
                  go_wp2_with fail
                  go_quiet (fail)
                  go_wp2_with fail
                  go_roundw
                  case rel => exact ⟨d + 1, by omega, by go_num, by rw [HE.out], _, by first | rfl | rw [World.drewN_drewN] | rw [World.drewN_drewN, World.drewN_drewN]⟩
                  case measure => simp [intOf]; omega
                · have HE : Hid (moreT (rowAt g k) (rowAt g m) (d + 1) = moreT (rowAt g k) (rowAt g m) d) := by show _ = _; rw [moreT, if_neg h1, if_neg h2]
                  skip
                  go_wp2_with fail
                  go_quiet (fail)
                  go_wp2_with fail
                  go_quiet (fail)
                  go_wp2_with fail
                  go_roundw
                  case rel => exact ⟨d + 1, by omega, by go_num, by rw [HE.out], _, by first | rfl | rw [World.drewN_drewN] | rw [World.drewN_drewN, World.drewN_drewN]⟩
                  case measure => simp [intOf]; omega
            · have hdf : d = f := by omega
              subst hdf
              go_wp2_with (at_builtin; refine wpList_append_own_at _ rfl (.tmp 68) (.tmp 70) _ rfl wo.heap.size 3 i0 (.int .i64 0) 1 8 Try.underlying31 HI0.out HZ0.out HZ1.out HZ2.out rfl (by decide) _ _ _ rfl ((HO.out.drewN _).alloc _) ⟨wj.heap.size, 0, none⟩ 1 1 [.int .i64 (moreT (rowAt g k) (rowAt g m) d)] rfl rfl (cell_one_new _ _ _) ?c2 ?c3 ?c4 ?c5 ?_)
              case c2 => first | rfl | (intro u hu; simp at hu; subst hu; rfl)
              case c3 => rw [HL.out]; unfold maxLen; omega
              case c4 => rw [HL.out]; omega
              case c5 => first | omega | (simp; omega)
              intro v' w4 hown hgrow _ _
              have HN : Hid (Grows w4 wo.heap.size v' (sdrU s d k (m + 1))) := by rw [sdrU_succ, ← HGE.out]; exact Grows.snoc hown
              have HU2 : Hid (Below wo.heap.size wo w4) := (HO.out.drewN _).below hgrow (below_drewN HU.out _) (Nat.le_refl _) hvs
              clear hown hgrow
              go_wp2_with fail
              go_roundw
              case rel => exact ⟨m + 1, by omega, by go_num, HN, HU2⟩
              case measure => simp [intOf]; omega
        · have hmn : m = n := by omega
          subst hmn
          obtain ⟨An, cn, hv, hcn1, hcn2, hon⟩ := HO.out.own'
          have HGV := Lib.hid (HGR.out.keep HU.out)
          have HON := Lib.hid hon
          have HL := Lib.hid (sdrV_length s f k)
          subst hv
          clear hon
          go_wp2_with (at_builtin; refine wpList_append_own_at _ rfl (.tmp 72) (.tmp 74) _ rfl w.heap.size 31 i1 (.slice none 0 0) 1 24 Try.underlying23 HI1.out HY0.out HY1.out HY2.out rfl (by decide) _ _ _ rfl (HGV.out.alloc _) ⟨wr.heap.size, 0, none⟩ 1 1 [.slice An (sdrU s f k m).length cn] rfl rfl (cell_one_new _ _ _) ?c2 ?c3 ?c4 ?c5 ?_)
          case c2 => first | rfl | (intro u hu; simp at hu; subst hu; rfl)
          case c3 => rw [HL.out]; unfold maxLen; omega
          case c4 => rw [HL.out]; omega
          case c5 => first | omega | (simp; omega)
          intro v' w4 hown hgrow _ hat
          have HN : Hid (∃ (A : Nat → Option Addr) (C : Nat → Nat), GrowsR w4 w.heap.size w4.heap.size v' A C (sdrV s f (k + 1))) := by
            rw [sdrV_succ, ← HGE.out, HNL.out]
            exact HGV.out.snoc HON.out hcn1 hcn2 hws hown hgrow (by rcases hat with e | e; exact .inl e; exact .inr (by rw [e]; try simp))
          have HW2 : Hid (Below w.heap.size w w4) := HGV.out.below hgrow (belT HW.out HU.out) (Nat.le_refl _) (by omega)
          have hgs := hgrow.size
          have HV2 : Hid (OwnR w4 (w.heap.size + 1) w1.heap.size T g ∧ (∀ b, v'.ownBlock = some b → b = w.heap.size ∨ w1.heap.size ≤ b) ∧ w1.heap.size ≤ w4.heap.size) := by
            have hv3 := HV.out.2.2
            simp at hgs
            refine ⟨HV.out.1.keep fun b hb1 hb2 => ?_, fun b e => ?_, by omega⟩
            · obtain ⟨_, _, _, _, hbl⟩ := hgrow
              rw [hbl b (by simp; omega) (fun e => by rcases HV.out.2.1 b e.symm with h | h <;> omega)]
              rw [((Below.refl wr.heap.size wr).alloc (Nat.le_refl _) _).block b (by omega)]
              exact HU.out.block b (by omega)
            · rcases hat with h | h
              · rw [h] at e; exact HV.out.2.1 b e
              · rw [h] at e; simp at e; omega
          clear hown hgrow hat hgs
          go_wp2_with fail
          go_roundw
          case rel => exact ⟨k + 1, by omega, by go_num, HN, HW2, HV2⟩
          case measure => simp [intOf]; omega
    · obtain rfl : k = n := by omega
      have hgr := HGR.out
      rw [← HNL.out, HGE.out, ← HY.out.2] at hgr
      obtain ⟨T1, c2, hv1, hcl1, hcl2, hot⟩ := hgr.table
      subst hv1
      have HOT := Lib.hid hot
      clear hgr hot HGR
      go_wp2_with fail
      go_ret
      exact ⟨T1, c2, rfl, HW.out, HOT.out⟩

end Go.Proofs.Ytanfefgigepdcaa

namespace Go.Proofs.Ytanfefgigepdcaa
set_option linter.unusedSimpArgs false
set_option linter.unusedVariables false
open Go.RowKit

/-- the rows so far: those that begin with less than k -/
def plaV (f s k : Nat) : List (List Int) := ((List.range k).flatMap fun j => (plaR f (s - j)).map fun r => j :: r).map castT

/-- the rows that begin with k, of the first m of the rest -/
def plaM (f s k m : Nat) : List (List Int) := plaV f s k ++ (((plaR f (s - k)).map castT).take m).map fun r => (k : Int) :: r

theorem plaM_zero (f s k : Nat) : plaM f s k 0 = plaV f s k := by simp [plaM]

theorem plaM_all (f s k : Nat) : plaM f s k ((plaR f (s - k)).map castT).length = plaV f s (k + 1) := by
  unfold plaM plaV
  rw [List.take_length, List.range_succ, List.flatMap_append, List.map_append, List.map_map]
  congr 1
  simp only [List.flatMap_cons, List.flatMap_nil, List.append_nil, List.map_map]
  rfl

theorem plaM_succ {f s k m : Nat} (h : m < ((plaR f (s - k)).map castT).length) : plaM f s k (m + 1) = plaM f s k m ++ [(k : Int) :: rowAt ((plaR f (s - k)).map castT) m] := by
  unfold plaM
  rw [List.take_add_one, List.getElem?_eq_getElem h, List.map_append, List.append_assoc]
  have h' : m < (plaR f (s - k)).length := by rw [List.length_map] at h; exact h
  simp [rowAt, List.getElem?_eq_getElem h']

theorem plaV_all (f s : Nat) : plaV f s (s + 1) = (plaR (f + 1) s).map castT := rfl

def plaOk (f s : Nat) : Bool := decide ((plaR f s).length ≤ 15) && (plaR f s).all fun r => decide (r.length = f + 1)

theorem pla_all : ((List.range 3).all fun f => (List.range 5).all fun s => plaOk f s && (List.range (s + 2)).all fun k => decide ((plaV f s k).length ≤ 35)) = true := by decide +kernel

theorem plaOk_at {f s : Nat} (hf : f ≤ 2) (hs : s ≤ 4) : (plaR f s).length ≤ 15 ∧ (∀ i, i < ((plaR f s).map castT).length → (rowAt ((plaR f s).map castT) i).length = f + 1) ∧ ∀ k, k ≤ s + 1 → (plaV f s k).length ≤ 35 := by
  have h := pla_all
  rw [List.all_eq_true] at h
  have h1 := h f (List.mem_range.2 (by omega))
  rw [List.all_eq_true] at h1
  have h2 := h1 s (List.mem_range.2 (by omega))
  unfold plaOk at h2
  simp only [Bool.and_eq_true, List.all_eq_true, decide_eq_true_eq] at h2
  obtain ⟨⟨a, b⟩, c⟩ := h2
  refine ⟨a, fun i hi => ?_, fun k hk => c k (List.mem_range.2 (by omega))⟩
  rw [List.length_map] at hi
  have := b _ (List.getElem_mem hi)
  unfold rowAt
  simp [hi, this, castT_length]

set_option maxHeartbeats 4000000 in
set_option maxRecDepth 100000 in
theorem plac_spec : ∀ f s : Nat, f ≤ 2 → s ≤ 4 → ∀ w : World, Calls Try.prog 64 #[.int .i64 (s : Int), .int .i64 ((f + 1 : Nat) : Int)] w (NewTable w ((plaR f s).map castT)) := by
  intro f
  induction f with
  | zero =>
    intro s _ hs w
    show Calls Try.prog 64 #[.int .i64 (s : Int), .int .i64 1] w _
    go_enter Try.func64, Try.ntmps64
    go_wp2_with fail
    go_ret
    refine ⟨some ⟨w.heap.size + 1, 0, none⟩, 1, rfl, ((Below.refl _ w).alloc (Nat.le_refl _) _).alloc (by simp) _, fun _ => ?_⟩
    have hr0 : World.rowIs ((w.alloc (.cells #[.int .i64 (s : Int)] 3)).alloc (.cells #[.slice (some ⟨w.heap.size, 0, none⟩) 1 1] 31)) (w.heap.size + 1) 31 1 (fun _ => .slice (some ⟨w.heap.size, 0, none⟩) 1 1) := by
      have := World.rowIs_alloc (w.alloc (.cells #[.int .i64 (s : Int)] 3)) #[.slice (some ⟨w.heap.size, 0, none⟩) 1 1] 31 (fun _ => .slice (some ⟨w.heap.size, 0, none⟩) 1 1) (fun i hi => by simp at hi; subst hi; rfl)
      simpa using this
    have hr1 : World.rowIs ((w.alloc (.cells #[.int .i64 (s : Int)] 3)).alloc (.cells #[.slice (some ⟨w.heap.size, 0, none⟩) 1 1] 31)) w.heap.size 3 1 (fun _ => .int .i64 (s : Int)) :=
      World.rowIs.alloc (by simpa using World.rowIs_alloc w #[.int .i64 (s : Int)] 3 (fun _ => .int .i64 (s : Int)) (fun i hi => by simp at hi; subst hi; rfl)) _
    have e2 : (plaR 0 s).map castT = [[(s : Int)]] := rfl
    rw [e2]
    refine ⟨w.heap.size + 1, 1, _, fun _ => some ⟨w.heap.size, 0, none⟩, fun _ => 1, rfl, by omega, by simp, Nat.le_refl _, hr0, fun i hi => ?_, fun i hi => ?_, fun i hi _ => ?_, fun i j hi hj hne => ?_⟩
    · have : i = 0 := by simp at hi; exact hi
      subst this; rfl
    · have : i = 0 := by simp at hi; exact hi
      subst this; exact ⟨Nat.le_refl _, by unfold maxLen; omega⟩
    · have : i = 0 := by simp at hi; exact hi
      subst this
      exact ⟨w.heap.size, 1, _, rfl, Nat.le_refl _, by simp; omega, hr1, Nat.le_refl _, fun i hi => by have : i = 0 := (by simp [rowAt] at hi; exact hi); subst this; rfl⟩
    · simp at hi hj; omega
  | succ f ih =>
    intro s hf hs w
    obtain ⟨F, hF⟩ : ∃ F : Int, F = ((f + 1 + 1 : Nat) : Int) := ⟨_, rfl⟩
    have e1 : (F == 1) = false := by rw [hF, beq_eq_false_iff_ne]; omega
    have hF1 : F - 1 = ((f + 1 : Nat) : Int) := by rw [hF]; omega
    have hFw : IntKind.i64.wrap ((f + 1 : Nat) : Int) = ((f + 1 : Nat) : Int) := IntWalk.i64_in _ ⟨by omega, by omega⟩
    rw [← hF]
    have hb0 : Below w.heap.size w (w.alloc (.cells #[] 31)) := (Below.refl _ _).alloc (Nat.le_refl _) _
    have G0 := Lib.hid (GrowsR.lit w (base := w.heap.size) (Nat.le_refl _) (fun _ => none) (fun _ => 0))
    have HB0 := Lib.hid hb0
    have HIH := Lib.hid (fun (j : Nat) (hj : j ≤ 4) (w' : World) => ih j (by omega) hj w')
    have HOK := Lib.hid (fun (j : Nat) (hj : j ≤ 4) => plaOk_at (f := f) (s := j) (by omega) hj)
    obtain ⟨i1, hi1, hy0, hy1, hy2⟩ := info_parts infoR
    have HI1 := Lib.hid hi1
    have HY0 := Lib.hid hy0
    have HY1 := Lib.hid hy1
    have HY2 := Lib.hid hy2
    clear hb0 hi1 hy0 hy1 hy2 hF ih
    go_enter Try.func64, Try.ntmps64
    go_wp2_with fail
    go_loopw [5, 6] (fun v i wr => ∃ k : Nat, k ≤ s + 1 ∧ i = .int .i64 k ∧ Hid (∃ (A : Nat → Option Addr) (C : Nat → Nat), GrowsR wr w.heap.size wr.heap.size v A C (plaV f s k)) ∧ Hid (Below w.heap.size w wr)) (fun _ i _ => s + 1 - (intOf i).toNat)
    case atStart => exact ⟨0, Nat.zero_le _, rfl, ⟨_, _, G0.out.up (by simp) (Nat.le_refl _)⟩, HB0.out⟩
    case round =>
      obtain ⟨k, hk, rfl, HT, HW⟩ := hrel
      obtain ⟨AA, CC, hgr⟩ := HT.out
      have HGR := Lib.hid hgr
      clear hgr HT
      by_cases hlt : k < s + 1
      · have hws := HW.out.size
        have hle : (k : Int) ≤ (s : Int) := by omega
        have hsk : (s : Int) - (k : Int) = ((s - k : Nat) : Int) := by omega
        have hskw : IntKind.i64.wrap ((s - k : Nat) : Int) = ((s - k : Nat) : Int) := IntWalk.i64_in _ ⟨by omega, by omega⟩
        obtain ⟨t, ht⟩ : ∃ t : Nat, s - k = t := ⟨_, rfl⟩
        rw [ht] at hsk hskw
        have ht4 : t ≤ 4 := by omega
        have HTE := Lib.hid ht
        clear ht
        go_wp2_with fail
        refine (HIH.out t ht4 _).mono ?_
        rintro e w1 ⟨T, c1, rfl, hb1, ho1⟩
        obtain ⟨R, hR⟩ : ∃ R, R = (plaR f t).map castT := ⟨_, rfl⟩
        have HRE := Lib.hid hR
        have hok := HOK.out t ht4
        have hok2 := (HOK.out s hs).2.2
        rw [← hR] at ho1 hok ⊢
        have hRl : R.length ≤ 15 := by rw [hR, List.length_map]; exact hok.1
        have HRL := Lib.hid hok.2.1
        have HRO := Lib.hid ho1
        have HW1 := Lib.hid (belT HW.out hb1)
        have HG1 := Lib.hid (HGR.out.keep hb1)
        have HB1 := Lib.hid hb1
        have hM0 : plaV f s k = plaM f s k 0 := (plaM_zero f s k).symm
        have HML : Hid (∀ m, (plaM f s k m).length ≤ 60) := fun m => by
          unfold plaM; rw [List.length_append, List.length_map, List.length_take, HTE.out, ← hR]
          have := hok2 k hk
          omega
        have HMS : Hid (∀ m, m < R.length → plaM f s k (m + 1) = plaM f s k m ++ [(k : Int) :: rowAt R m]) := fun m hm => by
          have := plaM_succ (f := f) (s := s) (k := k) (m := m) (by rw [HTE.out, ← hR]; exact hm)
          rw [HTE.out, ← hR] at this; exact this
        have HMA : Hid (plaM f s k R.length = plaV f s (k + 1)) := by
          have := plaM_all f s k
          rw [HTE.out, ← hR] at this; exact this
        have HGM := HG1
        rw [hM0] at HGM
        have hs1 := hb1.size
        obtain ⟨lo, hlo⟩ : ∃ lo, lo = wr.heap.size := ⟨_, rfl⟩
        obtain ⟨hi, hhi⟩ : ∃ hi, hi = w1.heap.size := ⟨_, rfl⟩
        have HROW : Hid (OwnR w1 lo hi T R) := by rw [hlo, hhi]; exact HRO.out
        have HVB := Lib.hid HGR.out.hib
        rw [← hlo] at HVB
        have hlohi : lo ≤ hi := by omega
        have hhi1 : hi ≤ w1.heap.size := by omega
        have hwlo : w.heap.size ≤ lo := by omega
        clear hok hok2 hM0 ho1 hb1 hR hlo hhi HG1 HRO HB1
        go_wp2_with fail
        go_loopw [5, 8] (fun v i wq => ∃ m : Nat, m ≤ R.length ∧ i = .int .i64 m ∧ Hid (∃ (A : Nat → Option Addr) (C : Nat → Nat), GrowsR wq w.heap.size wq.heap.size v A C (plaM f s k m)) ∧ Hid (Below w.heap.size w wq) ∧ Hid (OwnR wq lo hi T R ∧ (∀ b, v.ownBlock = some b → b < lo ∨ hi ≤ b) ∧ hi ≤ wq.heap.size)) (fun _ i _ => R.length - (intOf i).toNat)
        case atStart => exact ⟨0, Nat.zero_le _, rfl, ⟨_, _, HGM.out.up (by omega) (Nat.le_refl _)⟩, HW1.out, HROW.out, fun b e => .inl (HVB.out b e), hhi1⟩
        case round =>
          obtain ⟨m, hm, rfl, HTq, HWq, HVq⟩ := hrel
          obtain ⟨AQ, CQ, hgq⟩ := HTq.out
          have HGQ := Lib.hid hgq
          clear hgq HTq
          by_cases hlm : m < R.length
          · obtain ⟨bt, N, fT, AR, CR, hT, hbt1, hbt2, hN, hrow, hfT, hrows⟩ := HVq.out.1 (by omega)
            subst hT
            have hct := hrow.cell (i := m) (by omega)
            rw [hfT m hlm] at hct
            have hll := HRL.out m hlm
            have hcap := (hrows.cap m hlm)
            have hints := (hrows.own m hlm).ints
            have hqs := HVq.out.2.2
            have hws2 := HWq.out.size
            obtain ⟨g7, cA7, w7, hrun, hgr7, hgrow7⟩ := run_append_list 31 wr.heap.size wr.heap.size 1 1 [(k : Int)] (rowAt R m) (wr.alloc (.cells #[.int .i64 (k : Int)] 3)) (grows_one wr (Nat.le_refl _) k) _ (AR m) (rowAt R m).length (CR m) rfl (hints.keep fun d hd => Below.heap_alloc _ _ _ (by omega)) (by rw [hll]; omega) (by simp)
            have hbw7 : Below wr.heap.size wr w7 := ((Below.refl _ wr).alloc (Nat.le_refl _) _).grown hgrow7 (by simp) (fun q hq => by injection hq with hq; omega)
            have hs7 := hbw7.size
            have HG7 := Lib.hid (HGQ.out.keep hbw7)
            obtain ⟨A7, c7, hv7, hc71, hc72, hon7⟩ := hgr7.own'
            injection hv7 with hv7a hv7b hv7c
            have HON := Lib.hid hon7
            have HBW7 := Lib.hid hbw7
            have HML2 := Lib.hid (HML.out m)
            have hrl : ([(k : Int)] ++ rowAt R m).length = 1 + (rowAt R m).length := by simp; omega
            rw [hrl] at hv7b hc71
            rw [hv7a, hv7c] at hrun
            have HRUN := Lib.hid hrun
            have HLL := Lib.hid hll
            have hbtw : bt < wr.heap.size := by omega
            clear hll hgr7 hbw7 hon7 hv7a hv7b hv7c hrun hgrow7 hrow hrows hfT hints hcap
            go_wp2_with (first | (at_builtin; refine Lib.wpList_append_run _ rfl (.tmp 34) (.tmp 38) 31 31 rfl (.slice (some ⟨wr.heap.size, 0, none⟩) 1 1) (.slice (AR m) (rowAt R m).length (CR m)) rfl rfl _ _ HRUN.out ?_) | (at_builtin; refine wpList_append_own_at _ rfl (.tmp 32) (.tmp 40) _ rfl w.heap.size 31 i1 (.slice none 0 0) 1 24 Try.underlying23 HI1.out HY0.out HY1.out HY2.out rfl (by decide) _ _ _ rfl (HG7.out.top.alloc _) ⟨w7.heap.size, 0, none⟩ 1 1 [.slice A7 (1 + (rowAt R m).length) c7] rfl rfl (cell_one_new _ _ _) ?c2 ?c3 ?c4 ?c5 ?_))
            case c2 => first | rfl | (intro u hu; simp at hu; subst hu; rfl)
            case c3 => have := HML2.out; unfold maxLen; omega
            case c4 => have := HML2.out; omega
            case c5 => first | omega | (simp; omega)
            intro v' w8 hown hgrow _ hat
            have HN : Hid (∃ (A : Nat → Option Addr) (C : Nat → Nat), GrowsR w8 w.heap.size w8.heap.size v' A C (plaM f s k (m + 1))) := by
              rw [HMS.out m hlm]
              exact HG7.out.snoc (l := (k : Int) :: rowAt R m) HON.out (by simp; omega) hc72 hws2 (by simpa [Nat.add_comm] using hown) hgrow (by rcases hat with e | e; exact .inl e; exact .inr (by rw [e]; try simp))
            have HW2 : Hid (Below w.heap.size w w8) := HG7.out.below hgrow (belT HWq.out HBW7.out) (Nat.le_refl _) (by omega)
            have hgs := hgrow.size
            have HV2 : Hid (OwnR w8 lo hi (some ⟨bt, 0, none⟩) R ∧ (∀ b, v'.ownBlock = some b → b < lo ∨ hi ≤ b) ∧ hi ≤ w8.heap.size) := by
              simp at hgs
              refine ⟨HVq.out.1.keep fun b hb1 hb2 => ?_, fun b e => ?_, by omega⟩
              · obtain ⟨_, _, _, _, hbl⟩ := hgrow
                rw [hbl b (by simp; omega) (fun e => by rcases HVq.out.2.1 b e.symm with h | h <;> omega)]
                rw [((Below.refl w7.heap.size w7).alloc (Nat.le_refl _) _).block b (by omega)]
                exact HBW7.out.block b (by omega)
              · rcases hat with h | h
                · rw [h] at e; exact HVq.out.2.1 b e
                · rw [h] at e; simp at e; omega
            clear hown hgrow hat hgs
            go_wp2_with fail
            go_roundw
            case rel => exact ⟨m + 1, by omega, by go_num, HN, HW2, HV2⟩
            case measure => simp [intOf]; omega
          · have hmr : m = R.length := by omega
            have HN : Hid (∃ (A : Nat → Option Addr) (C : Nat → Nat), GrowsR wr w.heap.size wr.heap.size _ A C (plaV f s (k + 1))) := ⟨AQ, CQ, by have := HGQ.out; rw [hmr, HMA.out] at this; exact this⟩
            clear hmr
            go_wp2_with fail
            go_roundw
            case rel => exact ⟨k + 1, by omega, by go_num, HN, HWq⟩
            case measure => simp [intOf]; omega
      · obtain rfl : k = s + 1 := by omega
        have hgr := HGR.out
        rw [plaV_all] at hgr
        obtain ⟨T1, c1, hv1, hcl1, hcl2, hot⟩ := hgr.table
        subst hv1
        have HOT := Lib.hid hot
        have hnle : ¬ (((s + 1 : Nat) : Int) ≤ (s : Int)) := by omega
        clear hgr hot HGR
        go_wp2_with fail
        go_ret
        exact ⟨T1, c1, by simp, HW.out, HOT.out⟩

set_option maxHeartbeats 2000000 in
theorem placings_spec (x y : Int) (w : World) : Calls Try.prog 23 #[.int .i64 x, .int .i64 y] w (NewTable w (plaG x y)) := by
  rcases hb : plaB x y with _ | _
  · have HN := Lib.hid (pla_no hb).1
    have hb0 : Below w.heap.size w (w.alloc (.cells #[] 31)) := (Below.refl _ _).alloc (Nat.le_refl _) _
    have HB0 := Lib.hid hb0
    rcases h1 : inR x 1 4 with _ | _
    · clear hb hb0
      go_enter Try.func23, Try.ntmps23
      go_wp2_with (go_at_call 63; refine (in_spec _ _ _ _).mono ?_; rintro e w1 ⟨rfl, rfl⟩; rw [h1])
      go_ret
      rw [HN.out]
      exact ⟨_, 0, rfl, HB0.out, fun h0 => absurd h0 (by simp)⟩
    · have h2 : inR y 1 3 = false := by unfold plaB at hb; rw [h1, Bool.true_and] at hb; exact hb
      clear hb hb0
      go_enter Try.func23, Try.ntmps23
      go_wp2_with (first | (go_at_call_of 63 x; refine (in_spec _ _ _ _).mono ?_; rintro e w1 ⟨rfl, rfl⟩; rw [h1]) | (go_at_call_of 63 y; refine (in_spec _ _ _ _).mono ?_; rintro e w1 ⟨rfl, rfl⟩; rw [h2]))
      go_ret
      rw [HN.out]
      exact ⟨_, 0, rfl, HB0.out, fun h0 => absurd h0 (by simp)⟩
  obtain ⟨s, f, rfl, rfl, hs1, hs2, hf1, hf2⟩ := pla_nat hb
  have HY := Lib.hid (pla_yes hb).1
  have h1 : inR (s : Int) 1 4 = true := by unfold plaB at hb; rw [Bool.and_eq_true] at hb; exact hb.1
  have h2 : inR (f : Int) 1 3 = true := by unfold plaB at hb; rw [Bool.and_eq_true] at hb; exact hb.2
  have HP := Lib.hid (fun w' => plac_spec (f - 1) s (by omega) hs2 w')
  rw [show f - 1 + 1 = f by omega] at HP
  clear hb
  go_enter Try.func23, Try.ntmps23
  go_wp2_with (first | (go_at_call_of 63 (4 : Int); refine (in_spec _ _ _ _).mono ?_; rintro e w1 ⟨rfl, rfl⟩; rw [h1]) | (go_at_call_of 63 (3 : Int); refine (in_spec _ _ _ _).mono ?_; rintro e w1 ⟨rfl, rfl⟩; rw [h2]) | (go_at_call 64; refine (HP.out _).mono ?_; rintro e w1 ⟨T, c1, rfl, hb1, ho1⟩))
  go_ret
  rw [HY.out]
  exact ⟨T, c1, by simp [plaT], hb1, ho1⟩

theorem soldierGame_spec (x y : Int) (w : World) : Calls Try.prog 27 #[.int .i64 x, .int .i64 y] w (NewTable w (sdrG x y)) := soldier_spec placings_spec x y w

end Go.Proofs.Ytanfefgigepdcaa
