/- The walk of the law of FairOk, over contracts of the program's functions. (Written by wip/gen/law10.py.) -/
import Derived.Test.YtanfefgigepdcaaLawHa
import Derived.Test.YtanfefgigepdcaaOC
import Derived.Test.YtanfefgigepdcaaMO
import Derived.Test.YtanfefgigepdcaaMI
import Derived.Test.YtanfefgigepdcaaMB
namespace Go.Proofs.Ytanfefgigepdcaa
set_option linter.unusedSimpArgs false
set_option linter.unusedVariables false
open Go.RowKit

set_option maxHeartbeats 4000000 in
set_option maxRecDepth 100000 in
theorem wFnFairOk (I : Impl10) (a : Option Addr) (len cap : Nat) (zs : List Int) (w : World) (h : IsRow .u8 w a len cap zs) :
    Calls Try.prog 3 #[.slice a len cap] w fun e w' => e = .returned (.bool true) ∧ Below w.heap.size w w' := by
  have hle := byte_len h
  by_cases hbig : (1048576 : Int) < (len : Int)
  · go_enter Try.func3, Try.ntmps3
    go_wp2_with fail
    go_ret
    exact ⟨rfl, Below.refl _ _⟩
  go_enter Try.func3, Try.ntmps3
  go_wp2_with fail
  refine (dDrawFairOk a len cap zs w h).mono ?_
  rintro e w1 ⟨g, T, c, rfl, hc1, hc2, hg17, hgr, hb1, ho1⟩
  clear hbig hle
  have BEL0 := Lib.hid hb1
  have R0 := Lib.hid ho1.lt
  have hl := small_max hg17
  clear hb1 ho1 hgr hc1 hc2
  go_wp2_with fail
  refine (I.fair T c g hl _ R0.out).mono ?_
  rintro e w2 ⟨rfl, hb2⟩
  replace R0 := Lib.hid (stillRows R0.out hb2)
  replace BEL0 := Lib.hid (belT BEL0.out hb2)
  clear hb2
  go_wp2_with fail
  refine (fairOk_spec T c g hl _ R0.out).mono ?_
  rintro e w3 ⟨rfl, hq3⟩
  have hb3 : Below w2.heap.size w2 w3 := by obtain ⟨n, rfl⟩ := hq3; exact below_drewN (Below.refl _ _) n
  replace R0 := Lib.hid (stillRows R0.out hb3)
  replace BEL0 := Lib.hid (belT BEL0.out hb3)
  clear hq3 hb3
  have zB : (fairB g != fairB g) = false := by simp
  rcases hb : fairB g with _ | _
  · skip
    rw [hb] at zB
    clear hb
    go_wp2_with fail
    refine (alive _).mono ?_
    rintro e w9 ⟨rfl, hb9⟩
    have hb8 := Lib.hid (belT (w := w3) (by exact (by repeat (first | exact Below.refl _ _ | assumption | exact bel1 (by assumption) | exact bel2 (by assumption) | exact bel3 (by assumption) | exact bel4 (by assumption) | refine Below.drew ?_ | refine below_drewN ?_ _ | refine Below.setCell ?_ (by first | (simp; done) | (simp; omega)) _ | refine Below.alloc ?_ (by first | (simp; done) | (simp; omega)) _))) hb9)
    clear hb9
    go_wp2_with fail
    go_ret
    exact ⟨by first | rfl | (simp; done) | (simp; omega), belT BEL0.out hb8.out⟩
  rw [hb] at zB
  have HF := Lib.hid (fairB_iff.1 hb)
  have HR := Lib.hid HF.out.alike
  have HS := Lib.hid (HF.out.saf HR.out)
  have hg1 := (Game.of HF.out.game).lo
  clear hb
  go_wp2_with fail
  refine (worth_impl T c g hl _ R0.out).mono ?_
  rintro e w4 ⟨rfl, hb4⟩
  replace R0 := Lib.hid (stillRows R0.out hb4)
  replace BEL0 := Lib.hid (belT BEL0.out hb4)
  clear hb4
  try unfold FracRes
  rcases hs : solB g with _ | _
  · skip
    go_wp2_with fail
    obtain ⟨WFA, hWFA⟩ : ∃ WFA : World, WFA = w4.alloc (.cells #[.int .i64 (solU g), .int .i64 (solD g)] 28) := ⟨_, rfl⟩
    have hbWFA : Below w4.heap.size w4 WFA := by rw [hWFA]; exact (Below.refl _ _).alloc (Nat.le_refl _) _
    have FA : Hid (Box2 WFA w4.heap.size (solU g) (solD g)) := by show Box2 _ _ _ _; rw [hWFA]; exact Box2.new _ _ _
    have hzWFA : Hid (WFA.heap.size = w4.heap.size + 1) := by show WFA.heap.size = _; rw [hWFA]; simp
    rw [← hWFA]
    clear hWFA
    replace R0 := Lib.hid (stillRows R0.out hbWFA)
    replace BEL0 := Lib.hid (belT BEL0.out hbWFA)
    clear hbWFA
    clear hs zB
    obtain ⟨i0, hi0, hz0, hz1, hz2⟩ := info_parts infoI
    have HI0 := Lib.hid hi0
    have HZ0 := Lib.hid hz0
    have HZ1 := Lib.hid hz1
    have HZ2 := Lib.hid hz2
    clear hi0 hz0 hz1 hz2
    have L0 : Hid (Grows (WFA.alloc (.cells #[] 3)) WFA.heap.size (.slice (some ⟨w4.heap.size + 1, 0, none⟩) 0 0) (onesL 0)) := by rw [← hzWFA.out]; exact Grows.lit WFA (Nat.le_refl _)
    have L1 : Hid (Below WFA.heap.size WFA (WFA.alloc (.cells #[] 3))) := (Below.refl _ _).alloc (Nat.le_refl _) _
    go_wp2_with fail
    go_loopw [7, 8] (fun v i wr => ∃ k : Nat, k ≤ g.length ∧ i = .int .i64 k ∧ Hid (Grows wr WFA.heap.size v (onesL k)) ∧ Hid (Below WFA.heap.size WFA wr)) (fun _ i _ => g.length - (intOf i).toNat)
    case atStart => exact ⟨0, Nat.zero_le _, rfl, L0, L1⟩
    case round =>
      clear L0 L1
      obtain ⟨k, hk, rfl, HO, HV⟩ := hrel
      by_cases hlt : k < g.length
      · have hlen := onesL_length k
        have hs3 := HV.out.size
        go_wp2_with (at_builtin; refine wpList_append_own_at _ rfl (.tmp 39) (.tmp 40) _ rfl WFA.heap.size 3 i0 (.int .i64 0) 1 8 Try.underlying31 HI0.out HZ0.out HZ1.out HZ2.out rfl (by decide) _ _ _ rfl (HO.out.alloc _) ⟨wr.heap.size, 0, none⟩ 1 1 [.int .i64 1] rfl rfl (cell_one_new _ _ _) ?c2 ?c3 ?c4 ?c5 ?_)
        case c2 => first | rfl | (intro u hu; simp at hu; subst hu; rfl)
        case c3 => rw [hlen]; unfold maxLen; omega
        case c4 => rw [hlen]; omega
        case c5 => first | omega | (simp; omega)
        intro v' w6 hown hgrow _ _
        have HN : Hid (Grows w6 WFA.heap.size v' (onesL (k + 1))) := by rw [onesL_succ]; exact Grows.snoc (by rw [hlen]; exact hown)
        have HV2 : Hid (Below WFA.heap.size WFA w6) := HO.out.below hgrow HV.out (Nat.le_refl _) hs3
        clear hown hgrow
        go_wp2_with fail
        go_roundw
        case rel => exact ⟨k + 1, by omega, by go_num, HN, HV2⟩
        case measure => simp [intOf]; omega
      · obtain rfl : k = g.length := by omega
        obtain ⟨A9, c9, hv, _, ho9⟩ := HO.out.own
        rw [onesL_length] at hv
        subst hv
        have TW := Lib.hid (own_lt ho9)
        have hbV := HV.out
        clear ho9 HO HV hlt hk
        replace R0 := Lib.hid (stillRows R0.out hbV)
        replace FA := Lib.hid (FA.out.still hbV)
        replace BEL0 := Lib.hid (belT BEL0.out hbV)
        clear hbV
        have hol := onesL_length g.length
        have hsf := HS.out.1
        have hrs := HR.out
        have HSF : Hid (∀ w', Rows2 w' (· < w'.heap.size) T g → Ints w' (· < w'.heap.size) A9 (onesL g.length) → Calls Try.prog 18 #[.slice T g.length c, .slice A9 g.length c9] w' (Adds (FracRes (safU g (onesL g.length)) (safD g (onesL g.length)) true) w')) := fun w' h1 h2 => by
          have := safe_impl T A9 c c9 g (onesL g.length) hl (by omega) w' h1 h2; rwa [hsf, hol] at this
        have HRF : Hid (∀ w', Rows2 w' (· < w'.heap.size) T g → Ints w' (· < w'.heap.size) A9 (onesL g.length) → Calls Try.prog 19 #[.slice T g.length c, .slice A9 g.length c9] w' (Adds (FracRes (risU g (onesL g.length)) (risD g (onesL g.length)) true) w')) := fun w' h1 h2 => by
          have := risk_impl T A9 c c9 g (onesL g.length) hl (by omega) w' h1 h2; rwa [hrs, hol] at this
        have HM : Hid (mnU (safU g (onesL g.length)) (safD g (onesL g.length)) = risU g (onesL g.length) ∧ mnD (safU g (onesL g.length)) (safD g (onesL g.length)) = risD g (onesL g.length)) := by
          have hok := saf_okB hsf
          simp only [Hid, mnU, mnD, hok, if_true]; rw [HS.out.2.1, HS.out.2.2]; exact ⟨Int.neg_neg _, rfl⟩
        have HC : Hid (∀ w, Calls Try.prog 20 #[.agg #[.int .i64 (safU g (onesL g.length)), .int .i64 (safD g (onesL g.length))]] w fun e w' => e = .returned (.agg #[.int .i64 (risU g (onesL g.length)), .int .i64 (risD g (onesL g.length))]) ∧ Below w.heap.size w w') := fun w => by have := minus_impl (safU g (onesL g.length)) (safD g (onesL g.length)) w; rwa [HM.out.1, HM.out.2] at this
        clear hol hsf hrs HM HS HR HF
        obtain ⟨U1, hU1⟩ : ∃ x, safU g (onesL g.length) = x := ⟨_, rfl⟩
        obtain ⟨D1, hD1⟩ : ∃ x, safD g (onesL g.length) = x := ⟨_, rfl⟩
        obtain ⟨U2, hU2⟩ : ∃ x, risU g (onesL g.length) = x := ⟨_, rfl⟩
        obtain ⟨D2, hD2⟩ : ∃ x, risD g (onesL g.length) = x := ⟨_, rfl⟩
        rw [hU1, hD1] at HSF HC
        rw [hU2, hD2] at HRF HC
        clear hU1 hD1 hU2 hD2
        go_wp2_with fail
        refine (HSF.out _ R0.out TW.out).mono ?_
        rintro e w5 ⟨rfl, hb5⟩
        replace R0 := Lib.hid (stillRows R0.out hb5)
        replace FA := Lib.hid (FA.out.still hb5)
        replace TW := Lib.hid (stillInts TW.out hb5)
        replace BEL0 := Lib.hid (belT BEL0.out hb5)
        clear hb5
        try unfold FracRes
        go_wp2_with fail
        obtain ⟨WFS, hWFS⟩ : ∃ WFS : World, WFS = w5.alloc (.cells #[.int .i64 U1, .int .i64 D1] 28) := ⟨_, rfl⟩
        have hbWFS : Below w5.heap.size w5 WFS := by rw [hWFS]; exact (Below.refl _ _).alloc (Nat.le_refl _) _
        have FS : Hid (Box2 WFS w5.heap.size U1 D1) := by show Box2 _ _ _ _; rw [hWFS]; exact Box2.new _ _ _
        rw [← hWFS]
        clear hWFS
        replace R0 := Lib.hid (stillRows R0.out hbWFS)
        replace FA := Lib.hid (FA.out.still hbWFS)
        replace TW := Lib.hid (stillInts TW.out hbWFS)
        replace BEL0 := Lib.hid (belT BEL0.out hbWFS)
        clear hbWFS
        go_wp2_with fail
        refine (HRF.out _ R0.out TW.out).mono ?_
        rintro e w6 ⟨rfl, hb6⟩
        replace R0 := Lib.hid (stillRows R0.out hb6)
        replace FA := Lib.hid (FA.out.still hb6)
        replace TW := Lib.hid (stillInts TW.out hb6)
        replace FS := Lib.hid (FS.out.still hb6)
        replace BEL0 := Lib.hid (belT BEL0.out hb6)
        clear hb6
        try unfold FracRes
        go_wp2_with fail
        obtain ⟨WFR, hWFR⟩ : ∃ WFR : World, WFR = w6.alloc (.cells #[.int .i64 U2, .int .i64 D2] 28) := ⟨_, rfl⟩
        have hbWFR : Below w6.heap.size w6 WFR := by rw [hWFR]; exact (Below.refl _ _).alloc (Nat.le_refl _) _
        have FR : Hid (Box2 WFR w6.heap.size U2 D2) := by show Box2 _ _ _ _; rw [hWFR]; exact Box2.new _ _ _
        rw [← hWFR]
        clear hWFR
        replace R0 := Lib.hid (stillRows R0.out hbWFR)
        replace FA := Lib.hid (FA.out.still hbWFR)
        replace TW := Lib.hid (stillInts TW.out hbWFR)
        replace FS := Lib.hid (FS.out.still hbWFR)
        replace BEL0 := Lib.hid (belT BEL0.out hbWFR)
        clear hbWFR
        clear R0
        clear TW
        clear HSF HRF
        have sFA0 := stays FA.out.lt FA.out.c0
        have sFA1 := stays FA.out.lt FA.out.c1
        have sFS0 := stays FS.out.lt FS.out.c0
        have sFS1 := stays FS.out.lt FS.out.c1
        have sFR0 := stays FR.out.lt FR.out.c0
        have sFR1 := stays FR.out.lt FR.out.c1
        refine wp_region_held_drew (S := fun w' => Below WFR.heap.size WFR w') (by kernel_rfl) (by first | exact Below.drew (Below.refl _ _) | exact Below.drew (by assumption)) (fun hHeld => ?_)
        refine wpAnyH_take (i := 0) (v := ?v0) rfl (by kernel_rfl) (by kernel_rfl) (by kernel_rfl) (fun _ _ _ h => h) (Or.inl ⟨by rfl, ?y0⟩) (by assumption) ?z0
        case y0 => (intro w hSw; go_simp; first | done | with_reducible rfl)
        try simp only [List.getElem_toArray, List.getElem_cons_succ, List.getElem_cons_zero, Act.put, List.setIfInBounds_toArray, List.set_cons_zero, List.set_cons_succ]
        refine wpAnyH_take (i := 1) (v := ?v1) rfl (by kernel_rfl) (by kernel_rfl) (by kernel_rfl) (fun _ _ _ h => h) (Or.inl ⟨by rfl, ?y1⟩) (by assumption) ?z1
        case y1 => (intro w hSw; go_simp; first | done | with_reducible rfl)
        try simp only [List.getElem_toArray, List.getElem_cons_succ, List.getElem_cons_zero, Act.put, List.setIfInBounds_toArray, List.set_cons_zero, List.set_cons_succ]
        refine wpAnyH_take (i := 2) (v := ?v2) rfl (by kernel_rfl) (by kernel_rfl) (by kernel_rfl) (fun _ _ _ h => h) (Or.inl ⟨by rfl, ?y2⟩) (by assumption) ?z2
        case y2 => (intro w hSw; go_simp; first | done | with_reducible rfl)
        try simp only [List.getElem_toArray, List.getElem_cons_succ, List.getElem_cons_zero, Act.put, List.setIfInBounds_toArray, List.set_cons_zero, List.set_cons_succ]
        refine wpAnyH_take (i := 3) rfl (by kernel_rfl) (by kernel_rfl) (by kernel_rfl) (fun _ _ _ h => h) (Or.inr ⟨by rfl, rfl⟩) (by assumption) ?_
        try simp only [List.getElem_toArray, List.getElem_cons_succ, List.getElem_cons_zero, Act.put, List.setIfInBounds_toArray, List.set_cons_zero, List.set_cons_succ]
        refine wpAnyH_take (i := 4) rfl (by kernel_rfl) (by kernel_rfl) (by kernel_rfl) (fun _ _ _ h => h) (Or.inr ⟨by rfl, rfl⟩) (by assumption) ?_
        try simp only [List.getElem_toArray, List.getElem_cons_succ, List.getElem_cons_zero, Act.put, List.setIfInBounds_toArray, List.set_cons_zero, List.set_cons_succ]
        refine wpAnyH_take (i := 5) rfl (by kernel_rfl) (by kernel_rfl) (by kernel_rfl) (fun _ _ _ h => h) (Or.inr ⟨by rfl, rfl⟩) (by assumption) ?_
        try simp only [List.getElem_toArray, List.getElem_cons_succ, List.getElem_cons_zero, Act.put, List.setIfInBounds_toArray, List.set_cons_zero, List.set_cons_succ]
        refine wpAnyH_take (i := 6) (v := ?v6) rfl (by kernel_rfl) (by kernel_rfl) (by kernel_rfl) (fun _ _ _ h => h) (Or.inl ⟨by rfl, ?y6⟩) (by assumption) ?z6
        case y6 => (intro w hSw; go_simp; first | done | with_reducible rfl)
        try simp only [List.getElem_toArray, List.getElem_cons_succ, List.getElem_cons_zero, Act.put, List.setIfInBounds_toArray, List.set_cons_zero, List.set_cons_succ]
        refine wpAnyH_take (i := 7) (v := ?v7) rfl (by kernel_rfl) (by kernel_rfl) (by kernel_rfl) (fun _ _ _ h => h) (Or.inl ⟨by rfl, ?y7⟩) (by assumption) ?z7
        case y7 => (intro w hSw; go_simp; first | done | with_reducible rfl)
        try simp only [List.getElem_toArray, List.getElem_cons_succ, List.getElem_cons_zero, Act.put, List.setIfInBounds_toArray, List.set_cons_zero, List.set_cons_succ]
        refine wpAnyH_take (i := 8) (v := ?v8) rfl (by kernel_rfl) (by kernel_rfl) (by kernel_rfl) (fun _ _ _ h => h) (Or.inl ⟨by rfl, ?y8⟩) (by assumption) ?z8
        case y8 => (intro w hSw; go_simp; first | done | with_reducible rfl)
        try simp only [List.getElem_toArray, List.getElem_cons_succ, List.getElem_cons_zero, Act.put, List.setIfInBounds_toArray, List.set_cons_zero, List.set_cons_succ]
        refine wpAnyH_take (i := 9) (v := ?v9) rfl (by kernel_rfl) (by kernel_rfl) (by kernel_rfl) (fun _ _ _ h => h) (Or.inl ⟨by rfl, ?y9⟩) (by assumption) ?z9
        case y9 => (intro w hSw; go_simp; first | done | with_reducible rfl)
        try simp only [List.getElem_toArray, List.getElem_cons_succ, List.getElem_cons_zero, Act.put, List.setIfInBounds_toArray, List.set_cons_zero, List.set_cons_succ]
        refine wpAnyH_take (i := 10) (v := ?v10) rfl (by kernel_rfl) (by kernel_rfl) (by kernel_rfl) (fun _ _ _ h => h) (Or.inl ⟨by rfl, ?y10⟩) (by assumption) ?z10
        case y10 => (intro w hSw; go_simp; first | done | with_reducible rfl)
        try simp only [List.getElem_toArray, List.getElem_cons_succ, List.getElem_cons_zero, Act.put, List.setIfInBounds_toArray, List.set_cons_zero, List.set_cons_succ]
        refine wpAnyH_take (i := 11) (v := ?v11) rfl (by kernel_rfl) (by kernel_rfl) (by kernel_rfl) (fun _ _ _ h => h) (Or.inl ⟨by rfl, ?y11⟩) (by assumption) ?z11
        case y11 => (intro w hSw; go_simp; first | done | with_reducible rfl)
        try simp only [List.getElem_toArray, List.getElem_cons_succ, List.getElem_cons_zero, Act.put, List.setIfInBounds_toArray, List.set_cons_zero, List.set_cons_succ]
        refine wpAnyH_take (i := 12) (v := ?v12) rfl (by kernel_rfl) (by kernel_rfl) (by kernel_rfl) (fun _ _ _ h => h) (Or.inl ⟨by rfl, ?y12⟩) (by assumption) ?z12
        case y12 => (intro w hSw; go_simp; first | done | with_reducible rfl)
        try simp only [List.getElem_toArray, List.getElem_cons_succ, List.getElem_cons_zero, Act.put, List.setIfInBounds_toArray, List.set_cons_zero, List.set_cons_succ]
        refine wpAnyH_take (i := 13) (v := ?v13) rfl (by kernel_rfl) (by kernel_rfl) (by kernel_rfl) (fun _ _ _ h => h) (Or.inl ⟨by rfl, ?y13⟩) (by assumption) ?z13
        case y13 => (intro w hSw; go_simp; first | done | with_reducible rfl)
        try simp only [List.getElem_toArray, List.getElem_cons_succ, List.getElem_cons_zero, Act.put, List.setIfInBounds_toArray, List.set_cons_zero, List.set_cons_succ]
        refine wpAnyH_take (i := 14) (v := ?v14) rfl (by kernel_rfl) (by kernel_rfl) (by kernel_rfl) (fun _ _ _ h => h) (Or.inl ⟨by rfl, ?y14⟩) (by assumption) ?z14
        case y14 => (intro w hSw; go_simp; first | done | with_reducible rfl)
        try simp only [List.getElem_toArray, List.getElem_cons_succ, List.getElem_cons_zero, Act.put, List.setIfInBounds_toArray, List.set_cons_zero, List.set_cons_succ]
        refine wpAnyH_take (i := 16) (v := ?v15) rfl (by kernel_rfl) (by kernel_rfl) (by kernel_rfl) (fun _ _ _ h => h) (Or.inl ⟨by rfl, ?y15⟩) (by assumption) ?z15
        case y15 => (intro w hSw; go_simp; first | done | with_reducible rfl)
        try simp only [List.getElem_toArray, List.getElem_cons_succ, List.getElem_cons_zero, Act.put, List.setIfInBounds_toArray, List.set_cons_zero, List.set_cons_succ]
        refine wpAnyH_ready (rs := [15]) (by kernel_rfl) (by simp) ?_
        refine AllReadyH.cons rfl (fun K hK => ?_) AllReadyH.nil
        go_simp
        (go_at_call 20; refine (HC.out _).mono ?_; rintro e w8 ⟨rfl, hb8⟩)
        refine hK.out _ _ (by first | exact Below.refl _ _ | exact Below.drew (Below.refl _ _) | (refine Below.drew ?_; assumption) | exact belT (by assumption) (by assumption) | assumption) (fun hHeld => ?_)
        clear hK K
        try simp only [List.getElem_toArray, List.getElem_cons_succ, List.getElem_cons_zero, Act.put, List.setIfInBounds_toArray, List.set_cons_zero, List.set_cons_succ]
        refine wpAnyH_take (i := 17) (v := ?v17) rfl (by kernel_rfl) (by kernel_rfl) (by kernel_rfl) (fun _ _ _ h => h) (Or.inl ⟨by rfl, ?y17⟩) (by assumption) ?z17
        case y17 => (intro w hSw; go_simp; first | done | with_reducible rfl)
        try simp only [List.getElem_toArray, List.getElem_cons_succ, List.getElem_cons_zero, Act.put, List.setIfInBounds_toArray, List.set_cons_zero, List.set_cons_succ]
        refine wpAnyH_take (i := 18) (v := ?v18) rfl (by kernel_rfl) (by kernel_rfl) (by kernel_rfl) (fun _ _ _ h => h) (Or.inl ⟨by rfl, ?y18⟩) (by assumption) ?z18
        case y18 => (intro w hSw; go_simp; first | done | with_reducible rfl)
        try simp only [List.getElem_toArray, List.getElem_cons_succ, List.getElem_cons_zero, Act.put, List.setIfInBounds_toArray, List.set_cons_zero, List.set_cons_succ]
        refine wpAnyH_take (i := 19) (v := ?v19) rfl (by kernel_rfl) (by kernel_rfl) (by kernel_rfl) (fun _ _ _ h => h) (Or.inl ⟨by rfl, ?y19⟩) (by assumption) ?z19
        case y19 => (intro w hSw; go_simp; first | done | with_reducible rfl)
        try simp only [List.getElem_toArray, List.getElem_cons_succ, List.getElem_cons_zero, Act.put, List.setIfInBounds_toArray, List.set_cons_zero, List.set_cons_succ]
        refine wpAnyH_done (by kernel_rfl) ?_ _
        go_wp2_with fail
        go_ret
        exact ⟨by simp, belT BEL0.out (by assumption)⟩
  · skip
    rw [(HF.out.sol hs).1, (HF.out.sol hs).2]
    go_wp2_with fail
    obtain ⟨WFA, hWFA⟩ : ∃ WFA : World, WFA = w4.alloc (.cells #[.int .i64 0, .int .i64 1] 28) := ⟨_, rfl⟩
    have hbWFA : Below w4.heap.size w4 WFA := by rw [hWFA]; exact (Below.refl _ _).alloc (Nat.le_refl _) _
    have FA : Hid (Box2 WFA w4.heap.size 0 1) := by show Box2 _ _ _ _; rw [hWFA]; exact Box2.new _ _ _
    have hzWFA : Hid (WFA.heap.size = w4.heap.size + 1) := by show WFA.heap.size = _; rw [hWFA]; simp
    rw [← hWFA]
    clear hWFA
    replace R0 := Lib.hid (stillRows R0.out hbWFA)
    replace BEL0 := Lib.hid (belT BEL0.out hbWFA)
    clear hbWFA
    clear hs zB
    obtain ⟨i0, hi0, hz0, hz1, hz2⟩ := info_parts infoI
    have HI0 := Lib.hid hi0
    have HZ0 := Lib.hid hz0
    have HZ1 := Lib.hid hz1
    have HZ2 := Lib.hid hz2
    clear hi0 hz0 hz1 hz2
    have L0 : Hid (Grows (WFA.alloc (.cells #[] 3)) WFA.heap.size (.slice (some ⟨w4.heap.size + 1, 0, none⟩) 0 0) (onesL 0)) := by rw [← hzWFA.out]; exact Grows.lit WFA (Nat.le_refl _)
    have L1 : Hid (Below WFA.heap.size WFA (WFA.alloc (.cells #[] 3))) := (Below.refl _ _).alloc (Nat.le_refl _) _
    go_wp2_with fail
    go_loopw [7, 8] (fun v i wr => ∃ k : Nat, k ≤ g.length ∧ i = .int .i64 k ∧ Hid (Grows wr WFA.heap.size v (onesL k)) ∧ Hid (Below WFA.heap.size WFA wr)) (fun _ i _ => g.length - (intOf i).toNat)
    case atStart => exact ⟨0, Nat.zero_le _, rfl, L0, L1⟩
    case round =>
      clear L0 L1
      obtain ⟨k, hk, rfl, HO, HV⟩ := hrel
      by_cases hlt : k < g.length
      · have hlen := onesL_length k
        have hs3 := HV.out.size
        go_wp2_with (at_builtin; refine wpList_append_own_at _ rfl (.tmp 39) (.tmp 40) _ rfl WFA.heap.size 3 i0 (.int .i64 0) 1 8 Try.underlying31 HI0.out HZ0.out HZ1.out HZ2.out rfl (by decide) _ _ _ rfl (HO.out.alloc _) ⟨wr.heap.size, 0, none⟩ 1 1 [.int .i64 1] rfl rfl (cell_one_new _ _ _) ?c2 ?c3 ?c4 ?c5 ?_)
        case c2 => first | rfl | (intro u hu; simp at hu; subst hu; rfl)
        case c3 => rw [hlen]; unfold maxLen; omega
        case c4 => rw [hlen]; omega
        case c5 => first | omega | (simp; omega)
        intro v' w6 hown hgrow _ _
        have HN : Hid (Grows w6 WFA.heap.size v' (onesL (k + 1))) := by rw [onesL_succ]; exact Grows.snoc (by rw [hlen]; exact hown)
        have HV2 : Hid (Below WFA.heap.size WFA w6) := HO.out.below hgrow HV.out (Nat.le_refl _) hs3
        clear hown hgrow
        go_wp2_with fail
        go_roundw
        case rel => exact ⟨k + 1, by omega, by go_num, HN, HV2⟩
        case measure => simp [intOf]; omega
      · obtain rfl : k = g.length := by omega
        obtain ⟨A9, c9, hv, _, ho9⟩ := HO.out.own
        rw [onesL_length] at hv
        subst hv
        have TW := Lib.hid (own_lt ho9)
        have hbV := HV.out
        clear ho9 HO HV hlt hk
        replace R0 := Lib.hid (stillRows R0.out hbV)
        replace FA := Lib.hid (FA.out.still hbV)
        replace BEL0 := Lib.hid (belT BEL0.out hbV)
        clear hbV
        have hol := onesL_length g.length
        have hsf := HS.out.1
        have hrs := HR.out
        have HSF : Hid (∀ w', Rows2 w' (· < w'.heap.size) T g → Ints w' (· < w'.heap.size) A9 (onesL g.length) → Calls Try.prog 18 #[.slice T g.length c, .slice A9 g.length c9] w' (Adds (FracRes (safU g (onesL g.length)) (safD g (onesL g.length)) true) w')) := fun w' h1 h2 => by
          have := safe_impl T A9 c c9 g (onesL g.length) hl (by omega) w' h1 h2; rwa [hsf, hol] at this
        have HRF : Hid (∀ w', Rows2 w' (· < w'.heap.size) T g → Ints w' (· < w'.heap.size) A9 (onesL g.length) → Calls Try.prog 19 #[.slice T g.length c, .slice A9 g.length c9] w' (Adds (FracRes (risU g (onesL g.length)) (risD g (onesL g.length)) true) w')) := fun w' h1 h2 => by
          have := risk_impl T A9 c c9 g (onesL g.length) hl (by omega) w' h1 h2; rwa [hrs, hol] at this
        have HM : Hid (mnU (safU g (onesL g.length)) (safD g (onesL g.length)) = risU g (onesL g.length) ∧ mnD (safU g (onesL g.length)) (safD g (onesL g.length)) = risD g (onesL g.length)) := by
          have hok := saf_okB hsf
          simp only [Hid, mnU, mnD, hok, if_true]; rw [HS.out.2.1, HS.out.2.2]; exact ⟨Int.neg_neg _, rfl⟩
        have HC : Hid (∀ w, Calls Try.prog 20 #[.agg #[.int .i64 (safU g (onesL g.length)), .int .i64 (safD g (onesL g.length))]] w fun e w' => e = .returned (.agg #[.int .i64 (risU g (onesL g.length)), .int .i64 (risD g (onesL g.length))]) ∧ Below w.heap.size w w') := fun w => by have := minus_impl (safU g (onesL g.length)) (safD g (onesL g.length)) w; rwa [HM.out.1, HM.out.2] at this
        clear hol hsf hrs HM HS HR HF
        obtain ⟨U1, hU1⟩ : ∃ x, safU g (onesL g.length) = x := ⟨_, rfl⟩
        obtain ⟨D1, hD1⟩ : ∃ x, safD g (onesL g.length) = x := ⟨_, rfl⟩
        obtain ⟨U2, hU2⟩ : ∃ x, risU g (onesL g.length) = x := ⟨_, rfl⟩
        obtain ⟨D2, hD2⟩ : ∃ x, risD g (onesL g.length) = x := ⟨_, rfl⟩
        rw [hU1, hD1] at HSF HC
        rw [hU2, hD2] at HRF HC
        clear hU1 hD1 hU2 hD2
        go_wp2_with fail
        refine (HSF.out _ R0.out TW.out).mono ?_
        rintro e w5 ⟨rfl, hb5⟩
        replace R0 := Lib.hid (stillRows R0.out hb5)
        replace FA := Lib.hid (FA.out.still hb5)
        replace TW := Lib.hid (stillInts TW.out hb5)
        replace BEL0 := Lib.hid (belT BEL0.out hb5)
        clear hb5
        try unfold FracRes
        go_wp2_with fail
        obtain ⟨WFS, hWFS⟩ : ∃ WFS : World, WFS = w5.alloc (.cells #[.int .i64 U1, .int .i64 D1] 28) := ⟨_, rfl⟩
        have hbWFS : Below w5.heap.size w5 WFS := by rw [hWFS]; exact (Below.refl _ _).alloc (Nat.le_refl _) _
        have FS : Hid (Box2 WFS w5.heap.size U1 D1) := by show Box2 _ _ _ _; rw [hWFS]; exact Box2.new _ _ _
        rw [← hWFS]
        clear hWFS
        replace R0 := Lib.hid (stillRows R0.out hbWFS)
        replace FA := Lib.hid (FA.out.still hbWFS)
        replace TW := Lib.hid (stillInts TW.out hbWFS)
        replace BEL0 := Lib.hid (belT BEL0.out hbWFS)
        clear hbWFS
        go_wp2_with fail
        refine (HRF.out _ R0.out TW.out).mono ?_
        rintro e w6 ⟨rfl, hb6⟩
        replace R0 := Lib.hid (stillRows R0.out hb6)
        replace FA := Lib.hid (FA.out.still hb6)
        replace TW := Lib.hid (stillInts TW.out hb6)
        replace FS := Lib.hid (FS.out.still hb6)
        replace BEL0 := Lib.hid (belT BEL0.out hb6)
        clear hb6
        try unfold FracRes
        go_wp2_with fail
        obtain ⟨WFR, hWFR⟩ : ∃ WFR : World, WFR = w6.alloc (.cells #[.int .i64 U2, .int .i64 D2] 28) := ⟨_, rfl⟩
        have hbWFR : Below w6.heap.size w6 WFR := by rw [hWFR]; exact (Below.refl _ _).alloc (Nat.le_refl _) _
        have FR : Hid (Box2 WFR w6.heap.size U2 D2) := by show Box2 _ _ _ _; rw [hWFR]; exact Box2.new _ _ _
        rw [← hWFR]
        clear hWFR
        replace R0 := Lib.hid (stillRows R0.out hbWFR)
        replace FA := Lib.hid (FA.out.still hbWFR)
        replace TW := Lib.hid (stillInts TW.out hbWFR)
        replace FS := Lib.hid (FS.out.still hbWFR)
        replace BEL0 := Lib.hid (belT BEL0.out hbWFR)
        clear hbWFR
        clear R0
        clear TW
        clear HSF HRF
        have sFA0 := stays FA.out.lt FA.out.c0
        have sFA1 := stays FA.out.lt FA.out.c1
        have sFS0 := stays FS.out.lt FS.out.c0
        have sFS1 := stays FS.out.lt FS.out.c1
        have sFR0 := stays FR.out.lt FR.out.c0
        have sFR1 := stays FR.out.lt FR.out.c1
        go_region_held3 (fun w' => Below WFR.heap.size WFR w')
          (first | exact Below.refl _ _ | exact Below.drew (Below.refl _ _) | (refine Below.drew ?_; assumption) | exact belT (by assumption) (by assumption) | assumption)
          (first | (go_at_call 20; refine (HC.out _).mono ?_; rintro e w8 ⟨rfl, hb8⟩))
        go_wp2_with fail
        go_ret
        exact ⟨by simp, belT BEL0.out (by assumption)⟩

end Go.Proofs.Ytanfefgigepdcaa
