/- The walk of the program's iterator over the ways of a town. -/
import Derived.Test.YtcminkifdbdaaaaNJ
namespace Go.Proofs.Ytcminkifdbdaaaa
set_option linter.unusedSimpArgs false
set_option linter.unusedVariables false
open Go.RowKit Go.Shelf

attribute [local go_sem] Oper.semAt_some

/-- the blocks that the iterator reads -/
def WayK (b1 b2 b3 : Nat) (A : Option Addr) (n : Nat) (k : Nat) : Prop := k = b1 ∨ k = b2 ∨ k = b3 ∨ ∃ x, 0 < n ∧ A = some x ∧ x.block = k

set_option maxRecDepth 100000 in
set_option maxHeartbeats 4000000 in
theorem waysIter {p : Nat} {st : List Nat} (ht : Twn p st) (A : Option Addr) (c : Nat) : ∀ f a shun seen : Nat, f ≤ 5 → a < p → shun < 32 → seen < 32 → bits .or .i64 (shun : Int) (wrap64 (2 ^ a)) = (seen : Int) → cnt (fun i => !bP seen i) p < f → ∀ (w : World) (b1 b2 b3 : Nat),
    Cell1 w b1 3 (.int .i64 (a : Nat)) → BoxT w b2 (p : Int) A st.length c → Cell1 w b3 3 (.int .i64 (shun : Nat)) → Ints w (fun b => b < w.heap.size) A (castT st) →
    IterS Try.prog 86 #[.pointer (some ⟨b1, 0, none⟩), .pointer (some ⟨b2, 0, none⟩), .pointer (some ⟨b3, 0, none⟩)] IntGiven (castT (wayG p st f a seen)) (WayK b1 b2 b3 A st.length) w := by
  intro f
  induction f with
  | zero => intro a shun seen _ _ _ _ _ h; exact absurd h (Nat.not_lt_zero _)
  | succ f ih =>
    intro a shun seen hf hap hshun hseen hor hcnt w b1 b2 b3 h1 h2 h3 hA l S0 J Jx W hW hK hS0 hJ hJx hY h0 hl nn
    refine callsIn_wide.2 ((callsIn_wide (n := 9)).1 ?_)
    refine callsIn_of_wp_marks Try.func86 rfl trivial ?_ rfl
    simp only [Try.ntmps86, List.size_toArray, List.length_cons, List.length_nil, Nat.reduceAdd, Nat.reduceSub, Array.replicate_succ, Array.replicate_zero, List.push_toArray, List.append_toArray, List.nil_append, List.cons_append]
    have hwW := hW.size
    have hk1 : WayK b1 b2 b3 A st.length b1 := .inl rfl
    have hk2 : WayK b1 b2 b3 A st.length b2 := .inr (.inl rfl)
    have hk3 : WayK b1 b2 b3 A st.length b3 := .inr (.inr (.inl rfl))
    have hb2W := h2.lies hW hk2
    have c1 := (hW.cellAt hk1 h1).cell
    have l1 := (hW.cellAt hk1 h1).lt
    have l2 := hb2W.lt
    have l3 := (hW.cellAt hk3 h3).lt
    have c20 := hb2W.c0
    have c21 := hb2W.c1
    have c3 := (hW.cellAt hk3 h3).cell
    have hp5 := ht.phi
    have hp2 := ht.plo
    have hst := ht.len
    have hwp : IntKind.i64.wrap ((p : Int) - 1) = (p : Int) - 1 := IntWalk.i64_in _ ⟨by omega, by omega⟩
    have hmx : Try.prog.follows .mixedOrders = true := by kernel_rfl
    have G0 := Lib.hid (Going.start hW hS0 h0)
    have HRD := Lib.hid (fun (pre post : List Int) (x : Int) (S : Nat → Prop) (wr W1 : World) (g : Going _ S0 S w W wr J pre) (hb : Below wr.heap.size wr W1) (hx : castT (wayG p st (f + 1) a seen) = pre ++ x :: post) => Going.roundN hY hJ hK hwW hS0 hl g hb hx (R := IntGiven) (v := #[.int .i64 x]) ⟨rfl, rfl⟩)
    have HC := Lib.hid (fun (wr : World) (hL : Lies (WayK b1 b2 b3 A st.length) w wr) => And.intro (hL.cellAt hk1 h1) (And.intro (h2.lies hL hk2) (And.intro (hL.cellAt hk3 h3) (hL.ints (fun b ⟨x, h0, e1, e2⟩ => .inr (.inr (.inr ⟨x, by rw [castT_length] at h0; exact h0, e1, e2⟩))) hA))))
    have HJ := Lib.hid hJ
    have HJX := Lib.hid hJx
    have HK := Lib.hid hK
    have HS0 := Lib.hid hS0
    have HIH := Lib.hid ih
    have HCNT := Lib.hid hcnt
    have HMEM := Lib.hid ht.mem
    have HLW := Lib.hid hl
    clear hJ hJx hK hS0 ih hcnt ht hl hY h0 hW h1 h2 h3 hA hk1 hk2 hk3 hb2W
    by_cases hend : a + 1 = p
    · have ea : ((a : Int) == (p : Int) - 1) = true := by rw [beq_iff_eq]; omega
      have HE := Lib.hid (wayG_end p st (f + 1) a seen hend)
      clear hend
      have hbA : Below W.heap.size W (W.alloc (.cells #[.func (.yield l) #[] #[]] 68)) := (Below.refl _ W).alloc (Nat.le_refl _) _
      have hrd := HRD.out [] [] 0 S0 W _ G0.out hbA (by rw [HE.out]; rfl)
      obtain ⟨fn, tmps, assign, body, hy, hR⟩ := hrd (9 - 1)
      have HRR := Lib.hid hR
      clear hrd hR
      gi_wp2_with (refine HRR.out.mono ?_; rintro e W3 ⟨b, rfl, hb1, hb2⟩; cases b <;> first | (have HJX := Lib.hid (hb2 rfl); clear hb1 hb2) | (obtain ⟨S', hg', _⟩ := hb1 rfl; have HG' := Lib.hid hg'; clear hb1 hb2 hg'))
      · exact ⟨_, results_none rfl _ _ _, ⟨_, rfl⟩, .inr ⟨[0], by rw [HE.out]; exact List.prefix_rfl, HJX.out.1⟩⟩
      · exact ⟨_, results_none rfl _ _ _, ⟨_, rfl⟩, .inl ⟨S', HG'.out.of, by rw [HE.out]; exact HG'.out.inv⟩⟩
    · have ea : ((a : Int) == (p : Int) - 1) = false := by rw [beq_eq_false_iff_ne]; omega
      have HE := Lib.hid (wayG_succ p st f a seen hend)
      clear hend
      refine wpIn_wide.2 ?_
      go_wp2_with fail
      go_region
      go_wp2_with fail
      obtain ⟨V0, hV0⟩ : ∃ V0 : World, V0 = (W.alloc (.cells #[.func (.yield l) #[] #[]] 68)).drew := ⟨_, rfl⟩
      have hbV : Below W.heap.size W V0 := by rw [hV0]; exact ((Below.refl _ W).alloc (Nat.le_refl _) _).drew
      have hyV : Cell1 V0 W.heap.size 68 (.func (.yield l) #[] #[]) := by rw [hV0]; exact Cell1.new W _ _
      have gV : Going (WayK b1 b2 b3 A st.length) S0 S0 w W V0 J [] := G0.out.low HJ.out HK.out hbV
      have mV : Mine W.heap.size (.func (.yield l) #[] #[]) [] S0 V0 := ⟨trivial, (fun k hk hs => by
        rcases hk with e | e
        · have := (HS0.out k hs).1; omega
        · cases e), hyV⟩
      have HBV := Lib.hid hbV
      rw [← hV0]
      clear hV0 hyV hbV
      refine (wpIn_wide (n := 9)).1 ?_
      refine wpIn_loop (fun a' w' => ∃ (ix u6 u7 u8 u9 u10 u11 u12 u13 u14 u15 u16 u17 u18 u19 u20 u21 u22 u26 u27 u28 u29 u30 u31 u32 u33 u34 u35 u36 u37 u38 u39 u40 u41 u42 u43 u44 u45 u46 u47 u48 u49 u50 u51 u52 u53 u54 u55 u56 u57 : Value) (k : Nat) (ds : List Deferred) (S : Nat → Prop), a' = { tmps := #[.func (.yield l) #[] #[], .pointer (some ⟨b1, 0, none⟩), .pointer (some ⟨b2, 0, none⟩), .pointer (some ⟨b3, 0, none⟩), .pointer (some ⟨W.heap.size, 0, none⟩), .int .i64 (seen : Int), u6, u7, u8, u9, u10, u11, u12, u13, u14, u15, u16, u17, u18, u19, u20, u21, u22, .slice A st.length c, .int .i64 (st.length : Int), ix, u26, u27, u28, u29, u30, u31, u32, u33, u34, u35, u36, u37, u38, u39, u40, u41, u42, u43, u44, u45, u46, u47, u48, u49, u50, u51, u52, u53, u54, u55, u56, u57], defers := ds } ∧ ix = .int .i64 (k : Int) ∧ k ≤ st.length ∧
          Hid (Going (WayK b1 b2 b3 A st.length) S0 S w W w' J (castT (wayTo p st f a seen k))) ∧ Hid (Mine W.heap.size (.func (.yield l) #[] #[]) ds S w'))
        (fun a' _ => st.length - (intOf (a'.tmps.getD 25 undef)).toNat) ?start ?round
      case start =>
        exact ⟨_, _, _, _, _, _, _, _, _, _, _, _, _, _, _, _, _, _, _, _, _, _, _, _, _, _, _, _, _, _, _, _, _, _, _, _, _, _, _, _, _, _, _, _, _, _, _, _, _, _, 0, [], S0, rfl, rfl, Nat.zero_le _, gV, mV⟩
      case round =>
        clear gV mV
        rintro _ wr ⟨_, u6, u7, u8, u9, u10, u11, u12, u13, u14, u15, u16, u17, u18, u19, u20, u21, u22, u26, u27, u28, u29, u30, u31, u32, u33, u34, u35, u36, u37, u38, u39, u40, u41, u42, u43, u44, u45, u46, u47, u48, u49, u50, u51, u52, u53, u54, u55, u56, u57, k, ds, S, rfl, rfl, hk, HG, HM⟩
        obtain ⟨k1, k2, k3, k4⟩ := HC.out wr HG.out.lies
        have e1 := k1.cell
        have e20 := k2.c0
        have e21 := k2.c1
        have l1 := k1.lt
        have l2 := k2.lt
        have K4 := Lib.hid k4
        clear k1 k2 k3 k4 c1 c20 c21 c3 l3
        by_cases hlt : k < st.length
        · obtain ⟨x, hx⟩ : ∃ x, st.getD k 0 = x := ⟨_, rfl⟩
          have hxm : x / 10 < x % 10 ∧ x % 10 < p ∧ x < 100 := (mem_pairs5 hp5).1 (HMEM.out x (by rw [← hx, List.getD_eq_getElem?_getD, List.getElem?_eq_getElem hlt]; exact List.getElem_mem _))
          obtain ⟨ba, oa, hAe, hba, hca⟩ := K4.out (by rw [castT_length]; omega)
          have hcx : wr.cell? ⟨ba, oa + k, none⟩ = some (.int .i64 (x : Int)) := by
            have := hca k (by rw [castT_length]; omega)
            rw [nth_castT, hx] at this
            exact this
          clear hca
          subst hAe
          have HX := Lib.hid hx
          have HAC := Lib.hid (fun w' => acrossI (a : Int) (x : Int) (by omega) (by omega) w')
          obtain ⟨wo, hwo⟩ : ∃ wo : World, wo = wr.alloc (.cells #[.int .i64 (k : Int)] 3) := ⟨_, rfl⟩
          have hbo : Below wr.heap.size wr wo := by rw [hwo]; exact (Below.refl _ wr).alloc (Nat.le_refl _) _
          have ho1 : Cell1 wo wr.heap.size 3 (.int .i64 (k : Int)) := by rw [hwo]; exact Cell1.new _ _ _
          have hso : wo.heap.size = wr.heap.size + 1 := by rw [hwo]; simp
          have HGO := Lib.hid (HG.out.low HJ.out HK.out hbo)
          have HMO := Lib.hid (HM.out.below hbo)
          have HWO := Lib.hid hwo
          have HBO := Lib.hid hbo
          have HO1 := Lib.hid ho1
          have HSO := Lib.hid hso
          have LT := Lib.hid HG.out.lt
          clear hwo hbo ho1 hso
          rcases acr_toT (a := a) hp5 hxm with ⟨t1, t2⟩ | ⟨y, t1, t2, t3, t4, t5⟩
          · have HN : Hid (wayTo p st f a seen (k + 1) = wayTo p st f a seen k) := wayTo_no (by rw [hx, t2]; rfl)
            rw [t1] at HAC
            clear t1 t2 hxm hx
            gi_wp2_with (refine ⟨trivial, ?_⟩; gi_at_call 87; refine (callsIn_wide.2 (HAC.out _)).mono ?_; rintro e w5 ⟨rfl, rfl⟩)
            rw [← HWO.out]
            exact ⟨⟨_, _, _, _, _, _, _, _, _, _, _, _, _, _, _, _, _, _, _, _, _, _, _, _, _, _, _, _, _, _, _, _, _, _, _, _, _, _, _, _, _, _, _, _, _, _, _, _, _, _, k + 1, ds, S, rfl, by simp, by omega, by rw [HN.out]; exact HGO.out, HMO.out⟩, by simp [intOf]; omega⟩
          · rw [t2, t3] at HAC
            clear t2 t3 hxm
            have hbit := shr_bit ⟨seen, hseen⟩ ⟨y, by omega⟩
            dsimp only at hbit
            rcases hb : bP seen y with _ | _
            · rw [hb, if_neg (by decide)] at hbit
              obtain ⟨s1, s2, s3⟩ := seen_set ⟨seen, hseen⟩ ⟨y, by omega⟩ ⟨p, by omega⟩ (by show y < p; omega) hb
              dsimp only at s1 s2 s3
              obtain ⟨o1, o2, _⟩ := or_small (n := 5) (by decide) (show seen < 2 ^ 5 by omega) (show y < 5 by omega)
              rw [s3] at o1
              have hyes := wayTo_yes (p := p) (f := f) (by rw [hx, t4, t5, hb]; rfl : (toT (st.getD k 0) a == 99 || bP seen (toT (st.getD k 0) a)) = false)
              rw [hx, t4] at hyes
              obtain ⟨S2, hS2⟩ : ∃ s, seen + 2 ^ y = s := ⟨_, rfl⟩
              rw [hS2] at o1 s1 s2 hyes
              have HCN : Hid (cnt (fun i => !bP S2 i) p < f) := by show _ < _; have := HCNT.out; omega
              have HO := Lib.hid o1
              have HYES := Lib.hid hyes
              have HWF : Hid (∀ w', Calls Try.prog 58 #[.agg #[.int .i64 (p : Int), .slice (some ⟨ba, oa, none⟩) st.length c], .int .i64 (y : Int), .int .i64 (seen : Int)] w' fun e w'' => ∃ b1 b2 b3, e = .returned (.func (.func 86) #[] #[.pointer (some ⟨b1, 0, none⟩), .pointer (some ⟨b2, 0, none⟩), .pointer (some ⟨b3, 0, none⟩)]) ∧ Below w'.heap.size w' w'' ∧
                  Cell1 w'' b1 3 (.int .i64 (y : Int)) ∧ BoxT w'' b2 (p : Int) (some ⟨ba, oa, none⟩) st.length c ∧ Cell1 w'' b3 3 (.int .i64 (seen : Int)) ∧ w'.heap.size ≤ b1 ∧ w'.heap.size ≤ b2 ∧ w'.heap.size ≤ b3) := fun w' => waysFromI (p : Int) (some ⟨ba, oa, none⟩) st.length c (y : Int) (seen : Int) w'
              clear hS2 o1 o2 s2 s3 hb hyes hx t4 t5
              gi_wp2_with (first | (refine ⟨trivial, ?_⟩; gi_at_call 87; refine (callsIn_wide.2 (HAC.out _)).mono ?_; rintro e w5 ⟨rfl, rfl⟩) | (refine ⟨trivial, ?_⟩; gi_at_call 58; refine (callsIn_wide.2 (HWF.out _)).mono ?_; rintro e w6 ⟨q1, q2, q3, rfl, hb6, z1, z2, z3, n1, n2, n3⟩))
              rw [← HWO.out] at hb6 n1 n2 n3
              have HB6 := Lib.hid hb6
              have hso := HSO.out
              have hs6 := hb6.size
              have hwr := HG.out.size
              have hG6 : Going (WayK b1 b2 b3 (some ⟨ba, oa, none⟩) st.length) S0 S w W w6 J (castT (wayTo p st f a seen k)) := HGO.out.low HJ.out HK.out hb6
              have hM6 : Mine W.heap.size (.func (.yield l) #[] #[]) ds S w6 := HMO.out.below hb6
              have hat6 : Cell1 w6 wr.heap.size 3 (.int .i64 (k : Int)) := HO1.out.below hb6 (by omega)
              have hI6 := (HC.out w6 hG6.lies).2.2.2
              have HIT := Lib.hid (HIH.out y seen S2 (by omega) (by omega) hseen s1 HO.out HCN.out w6 q1 q2 q3 z1 z2 z3 hI6)
              have hK6 : ∀ q, WayK q1 q2 q3 (some ⟨ba, oa, none⟩) st.length q → q < w6.heap.size ∧ ¬ S q := fun q hq => by
                rcases hq with e | e | e | ⟨ad, _, e1, e2⟩
                · rw [e]; exact ⟨z1.lt, fun hs => by have := LT.out _ hs; omega⟩
                · rw [e]; exact ⟨z2.lt, fun hs => by have := LT.out _ hs; omega⟩
                · rw [e]; exact ⟨z3.lt, fun hs => by have := LT.out _ hs; omega⟩
                · injection e1 with e1
                  rw [← e1] at e2
                  have e2 : ba = q := e2
                  rw [← e2]
                  exact ⟨by omega, HG.out.apart HK.out hwW HS0.out (.inr (.inr (.inr ⟨_, by omega, rfl, rfl⟩)))⟩
              have hKW : ∀ q, WayK q1 q2 q3 (some ⟨ba, oa, none⟩) st.length q → W.heap.size ≤ q ∨ (WayK b1 b2 b3 (some ⟨ba, oa, none⟩) st.length) q := fun q hq => by
                rcases hq with e | e | e | e
                · left; omega
                · left; omega
                · left; omega
                · exact .inr (.inr (.inr (.inr e)))
              have hown : ∀ q, (q = wr.heap.size ∨ q = W.heap.size ∨ ({ target := .collected q, args := #[] } : Deferred) ∈ ds) → q < w6.heap.size ∧ W.heap.size ≤ q ∧ ¬ S q := fun q hq => by
                rcases hq with e | e
                · rw [e]; exact ⟨by omega, by omega, fun hs => by have := LT.out _ hs; omega⟩
                · exact ⟨(hM6.lt e).2, (hM6.lt e).1, hM6.apart q e⟩
              have hxs : ∀ z, z ∈ castT (wayG p st f y S2) → ∃ n : Nat, z = (n : Int) ∧ n < 256 := fun z hz => by
                obtain ⟨n, hn, rfl⟩ := List.mem_map.1 hz
                have h1 := wayG_lt f y S2 n hn
                have h2 : 2 ^ st.length ≤ 2 ^ 8 := Nat.pow_le_pow_right (by decide) hst
                exact ⟨n, rfl, by omega⟩
              have HG6 := Lib.hid hG6
              have HM6 := Lib.hid hM6
              have HAT := Lib.hid hat6
              have HK6 := Lib.hid hK6
              have HKW := Lib.hid hKW
              have HOWN := Lib.hid hown
              have HXS := Lib.hid hxs
              have HWR := Lib.hid (show W.heap.size ≤ w6.heap.size by omega)
              clear hb6 hso hs6 hwr hG6 hM6 hat6 hI6 hK6 hKW hown hxs z1 z2 z3 n1 n2 n3 s1 l1 l2 e1 e20 e21 hcx hbit
              refine overOuterS (gf := 86) (lb := #[.pointer (some ⟨q1, 0, none⟩), .pointer (some ⟨q2, 0, none⟩), .pointer (some ⟨q3, 0, none⟩)]) rfl (enters_of Try.func86 (by kernel_rfl) rfl) HIT.out (Lies.refl _ _) (fun q hq => (HK6.out q hq).1) IntGiven.size
                S (fun q hq => ⟨HG6.out.lt q hq, fun h => (HK6.out q h).2 hq⟩)
                (fun pre S' V => Going (WayK b1 b2 b3 (some ⟨ba, oa, none⟩) st.length) S0 S' w W V J (castT (wayTo p st f a seen k) ++ pre.map (orK k)) ∧ Lies (fun q => q = wr.heap.size ∨ q = W.heap.size ∨ ({ target := .collected q, args := #[] } : Deferred) ∈ ds) w6 V ∧ ∀ q, S' q → S q ∨ w6.heap.size ≤ q)
                (fun cc _ V => cc = .ret ∧ (∃ pre, pre <+: castT (wayG p st (f + 1) a seen) ∧ Jx pre V) ∧ Marks W.heap.size ds V)
                ?hI ?hIx ?h0 ?hround ?hdone ?hstop
              case hI =>
                exact fun s S' V V' h hl => ⟨h.1.keepS HJ.out hl (fun q hq => .inl (Nat.lt_of_lt_of_le hq HWR.out)) (fun q hq => .inr hq) (fun q hq => .inl (Nat.lt_of_lt_of_le (HK.out q hq) (Nat.le_trans hwW HWR.out))), h.2.1.trans (hl.mono fun q _ hq => .inl (HOWN.out q hq).1), h.2.2⟩
              case hIx =>
                exact fun cc s V V' h hb => ⟨h.1, h.2.1.elim fun pre hp => ⟨pre, hp.1, HJX.out _ _ _ hp.2 (hb.mono HWR.out)⟩, h.2.2.keep fun q _ _ ⟨d, hd, e⟩ => hb.below.block q (HOWN.out q (.inr (.inr (e ▸ hd)))).1⟩
              case h0 => exact ⟨by rw [List.map_nil, List.append_nil]; exact HG6.out, Lies.refl _ _, fun q h => .inl h⟩
              case hround =>
                rintro l' pre' x' post' S' G v V hx' hl1 hl2 hbg hSo hSl hGl ⟨g', hli, ho⟩ ⟨rfl, rfl⟩ K' hK'
                obtain ⟨n, rfl, hn⟩ := HXS.out x' (by rw [hx']; simp)
                obtain ⟨rest, hrest⟩ := way_split (p := p) (f := f) hlt HYES.out hx'
                rw [← HE.out] at hrest
                gi_wp2
                refine hK' _ _ (Below.refl _ V) ?_
                intro V2 ht
                clear hK' K'
                have hs2 := ht.size
                have hown' : ∀ q, (q = wr.heap.size ∨ q = W.heap.size ∨ ({ target := .collected q, args := #[] } : Deferred) ∈ ds) → q ≠ l' ∧ ¬ S' q := fun q hq => by
                  have h1 := HOWN.out q hq
                  exact ⟨by omega, fun hs => by rcases ho q hs with h | h; exact h1.2.2 h; omega⟩
                have g2 : Going (WayK b1 b2 b3 (some ⟨ba, oa, none⟩) st.length) S0 S' w W V2 J (castT (wayTo p st f a seen k) ++ pre'.map (orK k)) :=
                  g'.keepS (L := fun q => q ≠ l') HJ.out (Lies.turn ht (fun h => h rfl)) (fun q hq => by have := HWR.out; omega) (fun q hq e => hSl (e ▸ hq)) (fun q hq => by have := HK.out q hq; have := HWR.out; omega)
                have hli2 := hli.trans (Lies.turn (K := fun q => q = wr.heap.size ∨ q = W.heap.size ∨ ({ target := .collected q, args := #[] } : Deferred) ∈ ds) ht (fun h => (hown' _ h).1 rfl))
                have ey := (hli2.cellAt (.inr (.inl rfl)) HM6.out.box).cell
                have ek := (hli2.cellAt (.inl rfl) HAT.out).cell
                have ly := (hli2.cellAt (.inr (.inl rfl)) HM6.out.box).lt
                have lk := (hli2.cellAt (.inl rfl) HAT.out).lt
                obtain ⟨hob, hob2⟩ := orK_bits (k := k) (z := n) (by omega) hn
                obtain ⟨xx, hxx⟩ : ∃ xx, orK k (n : Int) = xx := ⟨_, rfl⟩
                rw [hxx] at hob hob2 hrest
                obtain ⟨fn, tmps, assign, body, hy, hR⟩ := HRD.out _ rest xx S' V2 V2.drew g2 ((Below.refl _ _).drew) hrest (9 - 1)
                have HRR := Lib.hid hR
                have HREST := Lib.hid hrest
                have HLI2 := Lib.hid hli2
                have HOW2 := Lib.hid hown'
                have HXX := Lib.hid hxx
                have HS2 := Lib.hid hs2
                have HOO := Lib.hid ho
                have HVS := Lib.hid hbg.size
                have HT : Hid (∀ V3 S3, (Going (WayK b1 b2 b3 (some ⟨ba, oa, none⟩) st.length) S0 S3 w W V3 J (castT (wayTo p st f a seen k) ++ pre'.map (orK k) ++ [xx]) ∧ (∀ q, S3 q → S' q ∨ V2.drew.heap.size ≤ q) ∧ Lies (fun q => ¬ S' q) V2.drew V3) →
                    ∃ S'', Owns S' (fun _ => False) V.heap.size S'' V3 ∧ (Going (WayK b1 b2 b3 (some ⟨ba, oa, none⟩) st.length) S0 S'' w W V3 J (castT (wayTo p st f a seen k) ++ (pre'.map (orK k) ++ [orK k (n : Int)])) ∧ Lies (fun q => q = wr.heap.size ∨ q = W.heap.size ∨ ({ target := .collected q, args := #[] } : Deferred) ∈ ds) w6 V3 ∧ ∀ q, S'' q → S q ∨ w6.heap.size ≤ q) ∧ Lies (fun q => q < V.heap.size ∧ ¬ S' q ∧ ¬ (fun _ => False) q) V2 V3) := fun V3 S3 ⟨h1, h2, h3⟩ => by
                  have h3' : Lies (fun q => ¬ S' q) V2 V3 := h3.undrew
                  have h2' : ∀ q, S3 q → S' q ∨ V2.heap.size ≤ q := h2
                  refine ⟨S3, ⟨fun q hq => ?_, h1.lt⟩, ⟨?_, HLI2.out.trans (h3'.mono fun q _ hq => (HOW2.out q hq).2), fun q hq => ?_⟩, h3'.mono fun q _ hq => hq.2.1⟩
                  · rcases h2' q hq with h | h
                    · exact .inl h
                    · right; right; have := HS2.out; omega
                  · rw [HXX.out, ← List.append_assoc]; exact h1
                  · rcases h2' q hq with h | h
                    · exact HOO.out q h
                    · right; have := HS2.out; have := HVS.out; omega
                have HF : Hid (∀ V3, (Jx (castT (wayTo p st f a seen k) ++ pre'.map (orK k) ++ [xx]) V3 ∧ Lies (fun q => (W.heap.size ≤ q ∨ (WayK b1 b2 b3 (some ⟨ba, oa, none⟩) st.length) q) ∧ ¬ S' q) V2.drew V3) →
                    (Code.ret = Code.ret ∧ (∃ pre, pre <+: castT (wayG p st (f + 1) a seen) ∧ Jx pre V3) ∧ Marks W.heap.size ds V3) ∧ Lies (fun q => (w6.heap.size ≤ q ∨ WayK q1 q2 q3 (some ⟨ba, oa, none⟩) st.length q) ∧ q < V.heap.size ∧ ¬ S' q ∧ ¬ (fun _ => False) q) V2 V3) := fun V3 ⟨h1, h2⟩ => by
                  have h2' : Lies (fun q => (W.heap.size ≤ q ∨ (WayK b1 b2 b3 (some ⟨ba, oa, none⟩) st.length) q) ∧ ¬ S' q) V2 V3 := h2.undrew
                  refine ⟨⟨rfl, ⟨_, ⟨rest, ?_⟩, h1⟩, ?_⟩, h2'.mono fun q _ hq => ⟨?_, hq.2.2.1⟩⟩
                  · rw [HREST.out]; simp
                  · refine (HM6.out.marks.keep fun q _ hq ⟨d, hd, e⟩ => ?_)
                    have hm := HOWN.out q (.inr (.inr (e ▸ hd)))
                    have hm2 := HOW2.out q (.inr (.inr (e ▸ hd)))
                    rw [h2'.block q (Nat.lt_of_lt_of_le hm.1 HLI2.out.size) ⟨.inl hm.2.1, hm2.2⟩]
                    exact HLI2.out.block q hm.1 (.inr (.inr (e ▸ hd)))
                  · rcases hq.1 with h | h
                    · left; have := HWR.out; omega
                    · exact HKW.out q h
                clear hR hrest hli2 hown' hxx hs2 ho g' g2 hli hbg hSo hSl hGl hl1 hl2 ht hx'
                gi_wp2
                gi_region_with_o (refine RoundIn.mono HRR.out ?_; rintro e V3 ⟨b, rfl, hb1, hb2⟩)
                all_goals cases b
                all_goals gi_wp2
                all_goals first
                  | (obtain ⟨S3, hS3⟩ := hb1 (by first | rfl | trivial); exact HT.out _ S3 hS3)
                  | (have hx2 := hb2 (by first | rfl | trivial); have h9 := HF.out _ hx2; exact ⟨⟨rfl, h9.1.2⟩, h9.2⟩)
              case hdone =>
                rintro D S' V hD hSo hSD ⟨g', hli, ho⟩ hKD
                obtain ⟨hwk, hwk2⟩ := next8 hlt hst
                have HGD : Hid (Going (WayK b1 b2 b3 (some ⟨ba, oa, none⟩) st.length) S0 S' w W V J (castT (wayTo p st f a seen (k + 1)))) := by show Going _ _ _ _ _ _ _ _; rw [HYES.out]; exact g'
                have HMD : Hid (Mine W.heap.size (.func (.yield l) #[] #[]) ({ target := .collected D, args := #[] } :: ds) S' V) :=
                  (HM6.out.lies hli (fun q hq => .inr hq) ho).more (by have := HWR.out; omega) (fun q hq e => by have := (HOWN.out q (.inr (.inr hq))).1; omega) hSD hKD
                clear g' hli ho hKD hSD hSo
                gi_wp2
                clear hwk hwk2
                exact ⟨⟨_, _, _, _, _, _, _, _, _, _, _, _, _, _, _, _, _, _, _, _, _, _, _, _, _, _, _, _, _, _, _, _, _, _, _, _, _, _, _, _, _, _, _, _, _, _, _, _, _, _, k + 1, _, S', rfl, by simp, by omega, HGD.out, HMD.out⟩, by simp [intOf]; omega⟩
              case hstop =>
                rintro D cc pre' V hD hp ⟨rfl, ⟨pre, h1, h2⟩, hm⟩ hKD
                have HMM : Hid (Marks W.heap.size ({ target := .collected D, args := #[] } :: ds) V) :=
                  ⟨D, rfl, by have := HWR.out; omega, hKD, fun d' hd' e => by have := (HOWN.out D (.inr (.inr (e ▸ hd')))).1; omega, hm⟩
                gi_wp2
                refine marks_leave HMM.out ?_
                intro w' hb
                exact ⟨_, results_none rfl _ _ _, ⟨_, rfl⟩, .inr ⟨pre, h1, HJX.out _ _ _ h2 hb⟩⟩
            · have HN : Hid (wayTo p st f a seen (k + 1) = wayTo p st f a seen k) := wayTo_no (by rw [hx, t4, hb, Bool.or_true])
              rw [hb, if_pos rfl] at hbit
              clear hx hb t4 t5
              gi_wp2_with (refine ⟨trivial, ?_⟩; gi_at_call 87; refine (callsIn_wide.2 (HAC.out _)).mono ?_; rintro e w5 ⟨rfl, rfl⟩)
              rw [← HWO.out]
              exact ⟨⟨_, _, _, _, _, _, _, _, _, _, _, _, _, _, _, _, _, _, _, _, _, _, _, _, _, _, _, _, _, _, _, _, _, _, _, _, _, _, _, _, _, _, _, _, _, _, _, _, _, _, k + 1, ds, S, rfl, by simp, by omega, by rw [HN.out]; exact HGO.out, HMO.out⟩, by simp [intOf]; omega⟩
        · have hkl : k = st.length := by omega
          have hwgo : castT (wayTo p st f a seen k) = castT (wayG p st (f + 1) a seen) := by rw [HE.out, hkl]
          have HG2 := HG
          rw [hwgo] at HG2
          clear hwgo hkl
          gi_wp2
          refine marks_leaveS HM.out.marks ?_
          intro w' hs hl
          refine ⟨_, results_none rfl _ _ _, ⟨_, rfl⟩, .inl ⟨S, HG2.out.of, HJ.out _ _ _ _ HG2.out.inv (hl.mono fun q hq hh d hd e => ?_)⟩⟩
          rcases hh with h | h
          · have := (HM.out.lt (.inr (e ▸ hd))).1; omega
          · exact HM.out.apart q (.inr (e ▸ hd)) h

end Go.Proofs.Ytcminkifdbdaaaa
