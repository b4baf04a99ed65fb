/- The walk of the specification's game from the other side. -/
import Derived.Test.YtaphlhdkdokopaaOwn2
import Derived.Test.YtaphlhdkdokopaaFloorS
namespace Go.Proofs.Ytaphlhdkdokopaa
set_option linter.unusedSimpArgs false
set_option linter.unusedVariables false
open Go.RowKit

theorem NewTable.of {w w' : World} {v x : Value} {A : Nat → Option Addr} {C : Nat → Nat} {g : List (List Int)} (hx : x = v) {hi : Nat} (h : GrowsR w' w.heap.size hi v A C g) (hb : Below w.heap.size w w') : NewTable w g (.returned x) w' := by
  obtain ⟨T, c, rfl, _, _, ho⟩ := h.table
  exact ⟨T, c, by rw [hx], hb, ho.more (Nat.le_refl _) h.hile⟩

set_option maxHeartbeats 2000000 in
set_option maxRecDepth 100000 in
theorem turned_spec (A : Option Addr) (c : Nat) (g : List (List Int)) (hl : g.length ≤ maxLen) (w : World) (h : Rows2 w (· < w.heap.size) A g) :
    Calls Try.prog 31 #[.slice A g.length c] w (NewTable w (turned g)) := by
  have hb0 : Below w.heap.size w (w.alloc (.cells #[] 26)) := (Below.refl _ _).alloc (Nat.le_refl _) _
  have G0 := Lib.hid (GrowsR.lit w (base := w.heap.size) (Nat.le_refl _) (fun _ => none) (fun _ => 0))
  rcases hb : gameB g with _ | _
  · have H1 : Hid (turned g = []) := by simp [Hid, turned, hb]
    have HB := Lib.hid hb
    have HR := Lib.hid h
    clear hb h
    go_enter Try.func31, Try.ntmps31
    go_wp2_with fail
    refine (game_spec _ _ _ _ hl _ (keepRows hb0 HR.out)).mono ?_
    rintro e w1 ⟨rfl, n, rfl⟩
    rw [HB.out]
    go_wp2_with fail
    go_ret
    rw [H1.out]
    exact NewTable.of rfl (G0.out.drewN n) (below_drewN hb0 n)
  have hg := Game.of hb
  have hg1 := hg.lo
  have hg2 := hg.hi
  have hg3 := hg.mlo
  have hg4 := hg.mhi
  have H1 : Hid (turned g = negTab g (rowAt g 0).length) := by show turned g = _; rw [negTab_turnedL]; simp [turned, hb]
  have HB := Lib.hid hb
  have HR := Lib.hid h
  have HG := Lib.hid hg
  obtain ⟨i0, hi0, hz0, hz1, hz2⟩ := info_parts infoI
  obtain ⟨i1, hi1, hy0, hy1, hy2⟩ := info_parts infoR
  have HI0 := Lib.hid hi0
  have HZ0 := Lib.hid hz0
  have HZ1 := Lib.hid hz1
  have HZ2 := Lib.hid hz2
  have HI1 := Lib.hid hi1
  have HY0 := Lib.hid hy0
  have HY1 := Lib.hid hy1
  have HY2 := Lib.hid hy2
  obtain ⟨b, off, rfl⟩ := h.some (by omega)
  have HB0 := Lib.hid hb0
  clear hb h hg hi0 hz0 hz1 hz2 hi1 hy0 hy1 hy2 hb0
  go_enter Try.func31, Try.ntmps31
  go_wp2_with fail
  refine (game_spec _ _ _ _ hl _ (keepRows HB0.out HR.out)).mono ?_
  rintro e w1 ⟨rfl, n, rfl⟩
  rw [HB.out]
  go_wp2_with fail
  go_loopw [3, 4] (fun v j wr => ∃ k : Nat, k ≤ (rowAt g 0).length ∧ j = .int .i64 k ∧ Hid (∃ (A : Nat → Option Addr) (C : Nat → Nat), GrowsR wr w.heap.size wr.heap.size v A C (negTab g k)) ∧ Hid (Below w.heap.size w wr)) (fun _ j _ => (rowAt g 0).length - (intOf j).toNat)
  case atStart => exact ⟨0, Nat.zero_le _, rfl, ⟨_, _, (G0.out.drewN n).up (by simp) (Nat.le_refl _)⟩, below_drewN HB0.out n⟩
  case round =>
    obtain ⟨k, hk, rfl, HT, HW⟩ := hrel
    obtain ⟨AA, CC, hgr⟩ := HT.out
    have R := Lib.hid (keepRows HW.out HR.out)
    obtain ⟨hS, A0, c0, hc0, hl0, hm0, _⟩ := R.out.row (i := 0) (by omega)
    rw [Nat.add_zero] at hc0
    unfold maxLen at hm0
    have HGR := Lib.hid hgr
    clear hgr HT
    by_cases hlt : k < (rowAt g 0).length
    · have hws := HW.out.size
      go_wp2_with fail
      clear hc0
      obtain ⟨wo, rfl⟩ : ∃ wo : World, wo = wr := ⟨_, rfl⟩
      go_loopw [5, 6] (fun v i wr => ∃ m : Nat, m ≤ g.length ∧ i = .int .i64 m ∧ Hid (Grows wr wo.heap.size v (negCol g k m)) ∧ Hid (Below wo.heap.size wo wr)) (fun _ i _ => g.length - (intOf i).toNat)
      case atStart => exact ⟨0, Nat.zero_le _, rfl, Grows.lit wo (Nat.le_refl _), (Below.refl _ _).alloc (Nat.le_refl _) _⟩
      case round =>
        obtain ⟨m, hm, rfl, HO, HV⟩ := hrel
        have hvs := HV.out.size
        by_cases hlm : m < g.length
        · have HWV := Lib.hid (belT HW.out HV.out)
          have R2 := Lib.hid (keepRows HWV.out HR.out)
          have hlm' : k < (rowAt g m).length := by rw [HG.out.len m hlm]; exact hlt
          obtain ⟨bm, om, cm, hc1, hc2, hc3, hc4, hc5⟩ := R2.out.cell hlm hlm'
          unfold maxLen at hc3
          have hn1 := HG.out.nlo m hlm k hlt
          have hn2 := HG.out.nhi m hlm k hlt
          have HL := Lib.hid (negCol_length g k m)
          go_wp2_with (at_builtin; refine wpList_append_own_at _ rfl (.tmp 27) (.tmp 36) _ rfl wo.heap.size 3 i0 (.int .i64 0) 1 8 Try.underlying26 HI0.out HZ0.out HZ1.out HZ2.out rfl (by decide) _ _ _ rfl (HO.out.alloc _) ⟨wr.heap.size, 0, none⟩ 1 1 [.int .i64 (-nth (rowAt g m) k)] rfl rfl (cell_one_new _ _ _) ?c2 ?c3 ?c4 ?c5 ?_)
          case c2 => intro u hu; simp at hu; subst hu; rfl
          case c3 => rw [HL.out]; unfold maxLen; omega
          case c4 => rw [HL.out]; omega
          case c5 => simp; omega
          intro v' w4 hown hgrow _ _
          have HN : Hid (Grows w4 wo.heap.size v' (negCol g k (m + 1))) := Grows.snoc hown
          have HV2 : Hid (Below wo.heap.size wo w4) := HO.out.below hgrow HV.out (Nat.le_refl _) hvs
          clear hown hgrow
          go_wp2_with fail
          go_roundw
          case rel => exact ⟨m + 1, by omega, by go_num, HN, HV2⟩
          case measure => simp [intOf]; omega
        · obtain rfl : m = g.length := by omega
          obtain ⟨An, cn, hv, hcn1, hcn2, hon⟩ := HO.out.own'
          have HGV := Lib.hid (HGR.out.keep HV.out)
          have HON := Lib.hid hon
          have HL := Lib.hid (negTab_length g k)
          subst hv
          clear hon
          go_wp2_with (at_builtin; refine wpList_append_own_at _ rfl (.tmp 38) (.tmp 40) _ rfl w.heap.size 26 i1 (.slice none 0 0) 1 24 Try.underlying23 HI1.out HY0.out HY1.out HY2.out rfl (by decide) _ _ _ rfl (HGV.out.alloc _) ⟨wr.heap.size, 0, none⟩ 1 1 [.slice An (negCol g k g.length).length cn] rfl rfl (cell_one_new _ _ _) ?c2 ?c3 ?c4 ?c5 ?_)
          case c2 => intro u hu; simp at hu; subst hu; rfl
          case c3 => rw [HL.out]; unfold maxLen; omega
          case c4 => rw [HL.out]; omega
          case c5 => simp; omega
          intro v' w4 hown hgrow _ hat
          have HN : Hid (∃ (A : Nat → Option Addr) (C : Nat → Nat), GrowsR w4 w.heap.size w4.heap.size v' A C (negTab g (k + 1))) :=
            HGV.out.snoc HON.out hcn1 hcn2 hws hown hgrow (by rcases hat with e | e; exact .inl e; exact .inr (by rw [e]; try simp))
          have HW2 : Hid (Below w.heap.size w w4) := HGV.out.below hgrow (belT HW.out HV.out) (Nat.le_refl _) (by omega)
          clear hown hgrow hat
          go_wp2_with fail
          go_roundw
          case rel => exact ⟨k + 1, by omega, by go_num, HN, HW2⟩
          case measure => simp [intOf]; omega
    · obtain rfl : k = (rowAt g 0).length := by omega
      go_wp2_with fail
      go_ret
      rw [H1.out]
      exact NewTable.of rfl HGR.out HW.out

end Go.Proofs.Ytaphlhdkdokopaa
