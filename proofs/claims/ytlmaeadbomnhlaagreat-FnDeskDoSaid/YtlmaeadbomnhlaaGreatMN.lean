/- Texts in one: ImplN, ImplO. -/
import Derived.Test.YtlmaeadbomnhlaaGreatML
namespace Go.Proofs.YtlmaeadbomnhlaaGreat
set_option linter.unusedSimpArgs false
set_option linter.unusedVariables false
open Go.RowKit Go.Shelf
attribute [local go_sem] Oper.semAt_some
set_option maxHeartbeats 1000000 in
theorem partsBySizeI (m k : Nat) (w : World) :
    Calls Tryz.prog 46 #[.int .i64 (m : Nat), .int .i64 (k : Nat)] w fun e w' => e = .returned (.func (.func 59) #[] #[.pointer (some ⟨w.heap.size, 0, none⟩), .pointer (some ⟨w.heap.size + 1, 0, none⟩)]) ∧
      w' = (w.alloc (.cells #[.int .i64 (m : Nat)] 3)).alloc (.cells #[.int .i64 (k : Nat)] 3) := by
  go_enter Tryz.func46, Tryz.ntmps46
  go_wp2_with fail
  go_ret
  exact ⟨by simp, rfl⟩
def sizeAt (W : World) : Value → Nat
  | .pointer (some a) => match W.cell? a with | some v => (intOf v).toNat | none => 0
  | _ => 0
theorem sizeAt_box {W : World} {B z : Nat} {t : TypeId} (h : Cell1 W B t (.int .i64 (z : Nat))) : sizeAt W (.pointer (some ⟨B, 0, none⟩)) = z := by
  show (match W.cell? ⟨B, 0, none⟩ with | some v => (intOf v).toNat | none => 0) = z
  rw [h.cell]; simp [intOf]
set_option maxRecDepth 100000 in
set_option maxHeartbeats 2000000 in
theorem partsLe (m n b1 b2 : Nat) (hm : m ≤ 4) (hn : n ≤ 4) (hmn : m ≤ n) (w : World) (h1 : Cell1 w b1 3 (.int .i64 (m : Nat))) (h2 : Cell1 w b2 3 (.int .i64 (n : Nat))) :
    Iter Tryz.prog 59 #[.pointer (some ⟨b1, 0, none⟩), .pointer (some ⟨b2, 0, none⟩)] (fun x : Nat × Nat => #[.int .i64 (x.1 : Nat), .int .i64 (x.2 : Nat)]) (parts m n) w := by
  intro l0 J Jx W hW hJ hJx hY h0 nn
  refine callsIn_wide.2 ((callsIn_wide (n := 9)).1 ?_)
  refine callsIn_of_wp_marks Tryz.func59 rfl trivial ?_ rfl
  simp only [Tryz.ntmps59, List.size_toArray, List.length_cons, List.length_nil, Nat.reduceAdd, Nat.reduceSub, Array.replicate_succ, Array.replicate_zero, List.push_toArray, List.append_toArray, List.nil_append, List.cons_append]
  have c1 := h1.below hW h1.lt
  have c2 := h2.below hW h2.lt
  have HY := Lib.hid hY
  have HJ := Lib.hid hJ
  have HJX := Lib.hid hJx
  clear hY hJ hJx
  gi_wp2
  have hA : Below W.heap.size W ((W.alloc (.cells #[.func (.yield l0) #[] #[]] 86)).alloc (.cells #[.int .i64 1] 3)) := ((Below.refl _ W).alloc (Nat.le_refl _) _).alloc (by simp) _
  have y1 : Cell1 ((W.alloc (.cells #[.func (.yield l0) #[] #[]] 86)).alloc (.cells #[.int .i64 1] 3)) W.heap.size 86 (.func (.yield l0) #[] #[]) := (Cell1.new _ _ _).alloc _
  have z1 : Cell1 ((W.alloc (.cells #[.func (.yield l0) #[] #[]] 86)).alloc (.cells #[.int .i64 1] 3)) (W.heap.size + 1) 3 (.int .i64 ((0 + 1 : Nat) : Int)) := by
    have := Cell1.new (W.alloc (.cells #[.func (.yield l0) #[] #[]] 86)) 3 (.int .i64 1); rw [World.size_alloc] at this; exact this
  refine wpIn_loop (fun a' w' => ∃ (u5 u6 u7 u8 u9 u10 u11 u12 u13 u14 u15 u16 u17 u18 u19 u20 u21 u22 u23 u24 u25 u26 u27 : Value) (z Bz : Nat) (ds : List Deferred), a' = { tmps := #[.func (.yield l0) #[] #[], .pointer (some ⟨b1, 0, none⟩), .pointer (some ⟨b2, 0, none⟩), .pointer (some ⟨W.heap.size, 0, none⟩), .pointer (some ⟨Bz, 0, none⟩), u5, u6, u7, u8, u9, u10, u11, u12, u13, u14, u15, u16, u17, u18, u19, u20, u21, u22, u23, u24, u25, u26, u27], defers := ds } ∧ z ≤ min m n ∧
      Hid (Marks W.heap.size ds w') ∧ Cell1 w' Bz 3 (.int .i64 ((z + 1 : Nat) : Int)) ∧ W.heap.size < Bz ∧ Cell1 w' W.heap.size 86 (.func (.yield l0) #[] #[]) ∧ Hid (J (upto m n z) w') ∧ Hid (Below W.heap.size W w'))
    (fun a' w' => 6 - sizeAt w' (a'.tmps.getD 4 undef)) ?start ?round
  case start =>
    exact ⟨undef, undef, undef, undef, undef, undef, undef, undef, undef, undef, undef, undef, undef, undef, undef, undef, undef, undef, undef, undef, undef, undef, undef, 0, W.heap.size + 1, [], rfl, Nat.zero_le _, trivial, z1, by omega, y1, HJ.out _ _ _ h0 hA, hA⟩
  case round =>
    rintro _ wr ⟨u5, u6, u7, u8, u9, u10, u11, u12, u13, u14, u15, u16, u17, u18, u19, u20, u21, u22, u23, u24, u25, u26, u27, z, Bz, ds, rfl, hz, HM, cz, hBz, cy, HJz, HB⟩
    have c1r := c1.below HB.out c1.lt
    have c2r := c2.below HB.out c2.lt
    have e1 := c1r.cell
    have e2 := c2r.cell
    have ez := cz.cell
    have ey := cy.cell
    by_cases hlt : z < min m n
    · obtain ⟨y, hy⟩ : ∃ y, z + 1 = y := ⟨_, rfl⟩
      rw [hy] at cz ez
      have HSZ := Lib.hid (sizeAt_box cz)
      have hy4 : y ≤ 4 := by omega
      have hdm : decide ((y : Int) ≤ (m : Int)) = true := by simp; omega
      have hdn : decide ((y : Int) ≤ (n : Int)) = true := by simp; omega
      gi_wp2_with (refine ⟨trivial, ?_⟩; gi_at_call 60; refine (callsIn_wide.2 (setsOfSizeI m y _)).mono ?_; rintro e w' ⟨rfl, rfl⟩)
      all_goals try (exfalso; omega)
      have HM2 : Hid (Marks W.heap.size ds ((wr.alloc (.cells #[.int .i64 (m : Nat)] 3)).alloc (.cells #[.int .i64 (y : Nat)] 3))) := HM.out.above (Above.of_below (((Below.refl _ wr).alloc (Nat.le_refl _) _).alloc (by simp) _))
      obtain ⟨Wl, hWl⟩ : ∃ Wl, ((wr.alloc (.cells #[.int .i64 (m : Nat)] 3)).alloc (.cells #[.int .i64 (y : Nat)] 3)) = Wl := ⟨_, rfl⟩
      have hBl : Below wr.heap.size wr Wl := by rw [← hWl]; exact ((Below.refl _ wr).alloc (Nat.le_refl _) _).alloc (by simp) _
      have hsl' : Wl.heap.size = wr.heap.size + 2 := by rw [← hWl]; simp
      have hsl : wr.heap.size + 2 ≤ Wl.heap.size ∧ Wl.heap.size ≤ wr.heap.size + 2 := by omega
      clear hsl'
      have s1 : Cell1 Wl wr.heap.size 3 (.int .i64 (m : Nat)) := by rw [← hWl]; exact (Cell1.new _ _ _).alloc _
      have s2 : Cell1 Wl (wr.heap.size + 1) 3 (.int .i64 (y : Nat)) := by
        rw [← hWl]; have := Cell1.new (wr.alloc (.cells #[.int .i64 (m : Nat)] 3)) 3 (.int .i64 (y : Nat)); rw [World.size_alloc] at this; exact this
      rw [hWl] at HM2 ⊢
      clear hWl
      have hwr := HB.out.size
      have hwl : W.heap.size ≤ Wl.heap.size := by omega
      have d2 := c2r.below hBl c2r.lt
      have dz := cz.below hBl cz.lt
      have dy := cy.below hBl cy.lt
      have ld2 := d2.lt
      have ldz := dz.lt
      have ldy := dy.lt
      have HS1 := Lib.hid (setsIter m y wr.heap.size (wr.heap.size + 1) hm Wl s1.cell s2.cell s1.lt s2.lt)
      have HD2 := Lib.hid d2
      have HDZ := Lib.hid dz
      have HDY := Lib.hid dy
      have HBL := Lib.hid hBl
      clear e1 e2 ez ey c1r c2r cz cy s1 s2 d2 dz dy hBl
      refine overOuterK (gf := 82) (lb := #[.pointer (some ⟨wr.heap.size, 0, none⟩), .pointer (some ⟨wr.heap.size + 1, 0, none⟩)]) rfl (enters_of Tryz.func82 (by kernel_rfl) rfl) (encs := fun x : Nat => #[.int .i64 (x : Nat)]) (xs := sets m y) (w0 := Wl)
        HS1.out (Below.refl _ _) (fun _ => rfl)
        (fun rs W' => J (upto m n z ++ lay n y rs) W' ∧ Below Wl.heap.size Wl W')
        (fun c rs W' => c = .ret ∧ (∃ pre, pre <+: parts m n ∧ Jx pre W') ∧ Above W.heap.size Wl W')
        ?hI ?hIx ?h0 ?hround ?hdone ?hstop
      case hI => exact fun s A A' h hb => ⟨HJ.out _ _ _ h.1 (hb.mono hwl), h.2.trans hb⟩
      case hIx => exact fun c s A A' h hb => ⟨h.1, h.2.1.elim fun pre hp => ⟨pre, hp.1, HJX.out _ _ _ hp.2 (hb.mono hwl)⟩, h.2.2.low hb.below⟩
      case h0 => exact ⟨by rw [lay_nil, List.append_nil]; exact HJ.out _ _ _ HJz.out (HBL.out.mono HB.out.size), Below.refl _ _⟩
      case hround =>
        intro l rs r rp Wc hsr hl1 hl2 hi K hK
        obtain ⟨hj, hbw⟩ := hi
        have HJR := Lib.hid hj
        have HBW := Lib.hid hbw
        have hsc := hbw.size
        clear hj hbw
        gi_wp2
        refine hK _ _ ((Below.refl _ Wc).alloc (Nat.le_refl _) _) ?_
        intro W2 ht
        clear hK K
        have hs2' := ht.size
        rw [World.size_alloc] at hs2'
        have hs2 : Wc.heap.size + 1 ≤ W2.heap.size ∧ W2.heap.size ≤ Wc.heap.size + 1 := by omega
        clear hs2'
        have f2 : Cell1 W2 b2 3 (.int .i64 (n : Nat)) := ((HD2.out.below HBW.out ld2).alloc _).turn ht (by omega)
        have fz : Cell1 W2 Bz 3 (.int .i64 (y : Nat)) := ((HDZ.out.below HBW.out ldz).alloc _).turn ht (by omega)
        have fy : Cell1 W2 W.heap.size 86 (.func (.yield l0) #[] #[]) := ((HDY.out.below HBW.out ldy).alloc _).turn ht (by omega)
        have fr : Cell1 W2 Wc.heap.size 3 (.int .i64 (r : Nat)) := (Cell1.new Wc _ _).turn ht (by omega)
        have HB2 : Hid (Below Wl.heap.size Wl W2) := (HBW.out.alloc hsc _).trans (ht.below (by omega))
        have HA2 : Hid (Above W.heap.size Wl W2) := (Above.of_below (HBW.out.alloc hsc _)).turn ht (by omega)
        obtain ⟨r0, hput, hr0⟩ := ht
        have HPUT := Lib.hid hput
        clear hput
        have e2 := f2.cell
        have ez := fz.cell
        gi_wp2_with (refine ⟨trivial, ?_⟩; gi_at_call 60; refine (CallsIn.inRound l (callsIn_wide.2 (setsOfSizeI n y _))).mono ?_; rintro e w' ⟨rfl, rfl⟩)
        obtain ⟨W3, hW3⟩ : ∃ W3, ((W2.alloc (.cells #[.int .i64 (n : Nat)] 3)).alloc (.cells #[.int .i64 (y : Nat)] 3)) = W3 := ⟨_, rfl⟩
        have hB3 : Below W2.heap.size W2 W3 := by rw [← hW3]; exact ((Below.refl _ W2).alloc (Nat.le_refl _) _).alloc (by simp) _
        have hs3' : W3.heap.size = W2.heap.size + 2 := by rw [← hW3]; simp
        have hs3 : W2.heap.size + 2 ≤ W3.heap.size ∧ W3.heap.size ≤ W2.heap.size + 2 := by omega
        clear hs3'
        have s1 : Cell1 W3 W2.heap.size 3 (.int .i64 (n : Nat)) := by rw [← hW3]; exact (Cell1.new _ _ _).alloc _
        have s2 : Cell1 W3 (W2.heap.size + 1) 3 (.int .i64 (y : Nat)) := by
          rw [← hW3]; have := Cell1.new (W2.alloc (.cells #[.int .i64 (n : Nat)] 3)) 3 (.int .i64 (y : Nat)); rw [World.size_alloc] at this; exact this
        rw [hW3]
        clear hW3 e2 ez
        have hr3 : W3.heap[l]? = some (.loop r0) := (hB3.block l (by omega)).trans hr0
        have HS2 := Lib.hid (setsIter n y W2.heap.size (W2.heap.size + 1) hn W3 s1.cell s2.cell s1.lt s2.lt)
        have HFY := Lib.hid fy
        have HFR := Lib.hid fr
        have lfy := fy.lt
        have lfr := fr.lt
        have HB3 := Lib.hid hB3
        have hw2 : W.heap.size ≤ W2.heap.size := by omega
        clear s1 s2 fy fr f2 fz hB3
        refine overInnerK (l₀ := l) (r₀ := r0) hr3 (gf := 82) (lb := #[.pointer (some ⟨W2.heap.size, 0, none⟩), .pointer (some ⟨W2.heap.size + 1, 0, none⟩)]) rfl (enters_of Tryz.func82 (by kernel_rfl) rfl) (encs := fun x : Nat => #[.int .i64 (x : Nat)]) (xs := sets n y) (w0 := W3)
          HS2.out (Below.refl _ _) (fun _ => rfl)
          (fun qs W' => J (upto m n z ++ (lay n y rs ++ qs.map (Prod.mk r))) W' ∧ Below W2.heap.size W2 W')
          (fun c qs W' => c = .ret ∧ (∃ pre, pre <+: parts m n ∧ Jx pre W') ∧ Above W.heap.size W2 W')
          ?hI2 ?hIx2 ?h02 ?hround2 ?hdone2 ?hstop2
        case hI2 => exact fun s A A' h hb => ⟨HJ.out _ _ _ h.1 (hb.mono (by omega)), h.2.trans (hb.mono (by omega))⟩
        case hIx2 => exact fun c s A A' h hb => ⟨h.1, h.2.1.elim fun pre hp => ⟨pre, hp.1, HJX.out _ _ _ hp.2 (hb.mono (by omega))⟩, h.2.2.low (hb.below.mono (by omega))⟩
        case h02 => exact ⟨by rw [List.map_nil, List.append_nil]; exact HJ.out _ _ _ HJR.out ((((Below.refl _ Wc).alloc (by omega) _).trans (Turn.below ⟨r0, HPUT.out, hr0⟩ (by omega))).trans (HB3.out.mono hw2)), HB3.out⟩
        case hround2 =>
          intro l2 qs q qp Wd hsq hl3 hl4 hi K hK
          obtain ⟨hj, hbd⟩ := hi
          have HJD := Lib.hid hj
          have HBD := Lib.hid hbd
          have hsd := hbd.size
          clear hj hbd
          gi_wp2
          refine hK _ _ (Below.refl _ Wd) ?_
          intro W4 ht2
          clear hK K
          have hs4' := ht2.size
          have hs4 : Wd.heap.size ≤ W4.heap.size ∧ W4.heap.size ≤ Wd.heap.size := by omega
          clear hs4'
          have gy := ((HFY.out.below HBD.out lfy).turn ht2 (by omega)).cell
          have gr := ((HFR.out.below HBD.out lfr).turn ht2 (by omega)).cell
          have HT4 : Hid (Below l2 Wd W4) := ht2.below (Nat.le_refl _)
          obtain ⟨post, hpost⟩ := parts_at hlt (by rw [hy]; exact hsr) (by rw [hy]; exact hsq)
          rw [hy] at hpost
          obtain ⟨fn, tmps, assign, body, hyy, hR⟩ := HY.out _ (r, q) post hpost W4 (by omega) (HJ.out _ _ _ HJD.out (HT4.out.mono (by omega))) (9 - 1)
          dsimp only at hyy
          have HR := Lib.hid hR
          have HPP := Lib.hid hpost
          have HAD : Hid (Above W.heap.size W2 W4) := (Above.of_below HBD.out).turn ht2 (by omega)
          clear hR hpost ht2
          gi_wp2
          refine RoundIn.mono HR.out ?_
          rintro e W5 (⟨rfl, hJ5, hb5⟩ | ⟨rfl, hx5, ha5⟩)
          · gi_wp2
            refine ⟨⟨?_, HBD.out.trans ((HT4.out.mono (by omega)).trans (hb5.mono (by omega)))⟩, hb5⟩
            rw [List.map_append]
            simpa [List.append_assoc] using hJ5
          · gi_wp2
            exact ⟨⟨rfl, ⟨_, ⟨post, by rw [HPP.out]; simp [List.append_assoc]⟩, hx5⟩, HAD.out.trans ha5⟩, ha5.mono (by omega)⟩
        case hdone2 =>
          rintro W' ⟨hj, hb⟩
          gi_wp2
          exact ⟨⟨by rw [lay_snoc]; exact hj, HB2.out.trans (hb.mono (by omega))⟩, hb⟩
        case hstop2 =>
          rintro c pre W' hp ⟨rfl, hx, ha⟩
          gi_wp2
          exact ⟨⟨rfl, hx, HA2.out.trans ha⟩, ha.mono hwl⟩
      case hdone =>
        rintro D W' hD ⟨hj, hb⟩ hKD
        have gz := HDZ.out.below hb ldz
        have gy := HDY.out.below hb ldy
        have hs' := hb.size
        have ez := gz.cell
        have hwy : IntKind.i64.wrap ((y : Int) + 1) = (y : Int) + 1 := IntWalk.i64_in _ (by omega)
        have hwy2 : wrap64 ((y : Int) + 1) = (y : Int) + 1 := IntWalk.wrap64_in _ (by omega)
        gi_wp2
        clear hwy hwy2
        have hz1 : z + 1 ≤ min m n := by omega
        have hWB : W.heap.size < W'.heap.size := by omega
        have hyz : y = z + 1 := hy.symm
        have gb : Below W'.heap.size W' (W'.alloc (.cells #[.int .i64 ((y : Int) + 1)] 3)) := (Below.refl _ W').alloc (Nat.le_refl _) _
        have gn : Cell1 (W'.alloc (.cells #[.int .i64 ((y : Int) + 1)] 3)) W'.heap.size 3 (.int .i64 ((z + 1 + 1 : Nat) : Int)) := by
          have := Cell1.new W' 3 (.int .i64 ((y : Int) + 1)); rw [← hy] at this ⊢; exact this
        refine ⟨⟨_, _, _, _, _, _, _, _, _, _, _, _, _, _, _, _, _, _, _, _, _, _, _, z + 1, W'.heap.size, { target := .collected D, args := #[] } :: ds, rfl, hz1, ?_, gn, hWB, gy.alloc _, ?_, ?_⟩, ?_⟩
        · exact (Marks.cons HM2.out (Above.of_below hb) hwl hD hKD).above (Above.of_below gb)
        · show J (upto m n (z + 1)) _
          rw [upto_succ, hy]
          exact HJ.out _ _ _ hj (gb.mono (by omega))
        · exact ((HB.out.trans (HBL.out.mono hwr)).trans (hb.mono hwl)).trans (gb.mono (by omega))
        · have e1 := sizeAt_box gn
          have e2 := HSZ.out
          have e3 : 6 - (z + 1 + 1) < 6 - y := by omega
          have e4 : 6 - sizeAt (W'.alloc (.cells #[.int .i64 ((y : Int) + 1)] 3)) (.pointer (some ⟨W'.heap.size, 0, none⟩)) < 6 - sizeAt wr (.pointer (some ⟨Bz, 0, none⟩)) := by rw [e1, e2]; exact e3
          exact e4
      case hstop =>
        rintro D c pre W' hD hp ⟨rfl, ⟨pre2, h1, h2⟩, ha⟩ hKD
        gi_wp2
        refine marks_leave (Marks.cons HM2.out ha hwl hD hKD) ?_
        intro w' hb
        exact ⟨_, results_none rfl _ _ _, ⟨_, rfl⟩, .inr ⟨pre2, h1, HJX.out _ _ _ h2 hb⟩⟩
    · have hze : z = min m n := by omega
      gi_wp2
      all_goals try (exfalso; omega)
      refine marks_leave HM.out (fun w' hb => ⟨_, results_none rfl _ _ _, ⟨_, rfl⟩, .inl (HJ.out _ _ _ (by have := HJz.out; rw [hze] at this; exact this) hb.below)⟩)
end Go.Proofs.YtlmaeadbomnhlaaGreat

namespace Go.Proofs.YtlmaeadbomnhlaaGreat
set_option linter.unusedSimpArgs false
set_option linter.unusedVariables false
open Go.RowKit Go.Shelf
attribute [local go_sem] Oper.semAt_some
set_option maxRecDepth 100000 in
set_option maxHeartbeats 2000000 in
theorem partsGt (m n b1 b2 : Nat) (hm : m ≤ 4) (hn : n ≤ 4) (hmn : ¬ m ≤ n) (w : World) (h1 : Cell1 w b1 3 (.int .i64 (m : Nat))) (h2 : Cell1 w b2 3 (.int .i64 (n : Nat))) :
    Iter Tryz.prog 59 #[.pointer (some ⟨b1, 0, none⟩), .pointer (some ⟨b2, 0, none⟩)] (fun x : Nat × Nat => #[.int .i64 (x.1 : Nat), .int .i64 (x.2 : Nat)]) (parts m n) w := by
  intro l0 J Jx W hW hJ hJx hY h0 nn
  refine callsIn_wide.2 ((callsIn_wide (n := 9)).1 ?_)
  refine callsIn_of_wp_marks Tryz.func59 rfl trivial ?_ rfl
  simp only [Tryz.ntmps59, List.size_toArray, List.length_cons, List.length_nil, Nat.reduceAdd, Nat.reduceSub, Array.replicate_succ, Array.replicate_zero, List.push_toArray, List.append_toArray, List.nil_append, List.cons_append]
  have c1 := h1.below hW h1.lt
  have c2 := h2.below hW h2.lt
  have HY := Lib.hid hY
  have HJ := Lib.hid hJ
  have HJX := Lib.hid hJx
  clear hY hJ hJx
  gi_wp2
  have hA : Below W.heap.size W ((W.alloc (.cells #[.func (.yield l0) #[] #[]] 86)).alloc (.cells #[.int .i64 1] 3)) := ((Below.refl _ W).alloc (Nat.le_refl _) _).alloc (by simp) _
  have y1 : Cell1 ((W.alloc (.cells #[.func (.yield l0) #[] #[]] 86)).alloc (.cells #[.int .i64 1] 3)) W.heap.size 86 (.func (.yield l0) #[] #[]) := (Cell1.new _ _ _).alloc _
  have z1 : Cell1 ((W.alloc (.cells #[.func (.yield l0) #[] #[]] 86)).alloc (.cells #[.int .i64 1] 3)) (W.heap.size + 1) 3 (.int .i64 ((0 + 1 : Nat) : Int)) := by
    have := Cell1.new (W.alloc (.cells #[.func (.yield l0) #[] #[]] 86)) 3 (.int .i64 1); rw [World.size_alloc] at this; exact this
  refine wpIn_loop (fun a' w' => ∃ (u5 u6 u7 u8 u9 u10 u11 u12 u13 u14 u15 u16 u17 u18 u19 u20 u21 u22 u23 u24 u25 u26 u27 : Value) (z Bz : Nat) (ds : List Deferred), a' = { tmps := #[.func (.yield l0) #[] #[], .pointer (some ⟨b1, 0, none⟩), .pointer (some ⟨b2, 0, none⟩), .pointer (some ⟨W.heap.size, 0, none⟩), .pointer (some ⟨Bz, 0, none⟩), u5, u6, u7, u8, u9, u10, u11, u12, u13, u14, u15, u16, u17, u18, u19, u20, u21, u22, u23, u24, u25, u26, u27], defers := ds } ∧ z ≤ min m n ∧
      Hid (Marks W.heap.size ds w') ∧ Cell1 w' Bz 3 (.int .i64 ((z + 1 : Nat) : Int)) ∧ W.heap.size < Bz ∧ Cell1 w' W.heap.size 86 (.func (.yield l0) #[] #[]) ∧ Hid (J (upto m n z) w') ∧ Hid (Below W.heap.size W w'))
    (fun a' w' => 6 - sizeAt w' (a'.tmps.getD 4 undef)) ?start ?round
  case start =>
    exact ⟨undef, undef, undef, undef, undef, undef, undef, undef, undef, undef, undef, undef, undef, undef, undef, undef, undef, undef, undef, undef, undef, undef, undef, 0, W.heap.size + 1, [], rfl, Nat.zero_le _, trivial, z1, by omega, y1, HJ.out _ _ _ h0 hA, hA⟩
  case round =>
    rintro _ wr ⟨u5, u6, u7, u8, u9, u10, u11, u12, u13, u14, u15, u16, u17, u18, u19, u20, u21, u22, u23, u24, u25, u26, u27, z, Bz, ds, rfl, hz, HM, cz, hBz, cy, HJz, HB⟩
    have c1r := c1.below HB.out c1.lt
    have c2r := c2.below HB.out c2.lt
    have e1 := c1r.cell
    have e2 := c2r.cell
    have ez := cz.cell
    have ey := cy.cell
    by_cases hlt : z < min m n
    · obtain ⟨y, hy⟩ : ∃ y, z + 1 = y := ⟨_, rfl⟩
      rw [hy] at cz ez
      have HSZ := Lib.hid (sizeAt_box cz)
      have hy4 : y ≤ 4 := by omega
      have hdm : decide ((y : Int) ≤ (m : Int)) = true := by simp; omega
      have hdn : decide ((y : Int) ≤ (n : Int)) = true := by simp; omega
      gi_wp2_with (refine ⟨trivial, ?_⟩; gi_at_call 60; refine (callsIn_wide.2 (setsOfSizeI m y _)).mono ?_; rintro e w' ⟨rfl, rfl⟩)
      all_goals try (exfalso; omega)
      have HM2 : Hid (Marks W.heap.size ds ((wr.alloc (.cells #[.int .i64 (m : Nat)] 3)).alloc (.cells #[.int .i64 (y : Nat)] 3))) := HM.out.above (Above.of_below (((Below.refl _ wr).alloc (Nat.le_refl _) _).alloc (by simp) _))
      obtain ⟨Wl, hWl⟩ : ∃ Wl, ((wr.alloc (.cells #[.int .i64 (m : Nat)] 3)).alloc (.cells #[.int .i64 (y : Nat)] 3)) = Wl := ⟨_, rfl⟩
      have hBl : Below wr.heap.size wr Wl := by rw [← hWl]; exact ((Below.refl _ wr).alloc (Nat.le_refl _) _).alloc (by simp) _
      have hsl' : Wl.heap.size = wr.heap.size + 2 := by rw [← hWl]; simp
      have hsl : wr.heap.size + 2 ≤ Wl.heap.size ∧ Wl.heap.size ≤ wr.heap.size + 2 := by omega
      clear hsl'
      have s1 : Cell1 Wl wr.heap.size 3 (.int .i64 (m : Nat)) := by rw [← hWl]; exact (Cell1.new _ _ _).alloc _
      have s2 : Cell1 Wl (wr.heap.size + 1) 3 (.int .i64 (y : Nat)) := by
        rw [← hWl]; have := Cell1.new (wr.alloc (.cells #[.int .i64 (m : Nat)] 3)) 3 (.int .i64 (y : Nat)); rw [World.size_alloc] at this; exact this
      rw [hWl] at HM2 ⊢
      clear hWl
      have hwr := HB.out.size
      have hwl : W.heap.size ≤ Wl.heap.size := by omega
      have d2 := c2r.below hBl c2r.lt
      have dz := cz.below hBl cz.lt
      have dy := cy.below hBl cy.lt
      have ld2 := d2.lt
      have ldz := dz.lt
      have ldy := dy.lt
      have HS1 := Lib.hid (setsIter m y wr.heap.size (wr.heap.size + 1) hm Wl s1.cell s2.cell s1.lt s2.lt)
      have HD2 := Lib.hid d2
      have HDZ := Lib.hid dz
      have HDY := Lib.hid dy
      have HBL := Lib.hid hBl
      clear e1 e2 ez ey c1r c2r cz cy s1 s2 d2 dz dy hBl
      refine overOuterK (gf := 82) (lb := #[.pointer (some ⟨wr.heap.size, 0, none⟩), .pointer (some ⟨wr.heap.size + 1, 0, none⟩)]) rfl (enters_of Tryz.func82 (by kernel_rfl) rfl) (encs := fun x : Nat => #[.int .i64 (x : Nat)]) (xs := sets m y) (w0 := Wl)
        HS1.out (Below.refl _ _) (fun _ => rfl)
        (fun rs W' => J (upto m n z ++ lay n y rs) W' ∧ Below Wl.heap.size Wl W')
        (fun c rs W' => c = .ret ∧ (∃ pre, pre <+: parts m n ∧ Jx pre W') ∧ Above W.heap.size Wl W')
        ?hI ?hIx ?h0 ?hround ?hdone ?hstop
      case hI => exact fun s A A' h hb => ⟨HJ.out _ _ _ h.1 (hb.mono hwl), h.2.trans hb⟩
      case hIx => exact fun c s A A' h hb => ⟨h.1, h.2.1.elim fun pre hp => ⟨pre, hp.1, HJX.out _ _ _ hp.2 (hb.mono hwl)⟩, h.2.2.low hb.below⟩
      case h0 => exact ⟨by rw [lay_nil, List.append_nil]; exact HJ.out _ _ _ HJz.out (HBL.out.mono HB.out.size), Below.refl _ _⟩
      case hround =>
        intro l rs r rp Wc hsr hl1 hl2 hi K hK
        obtain ⟨hj, hbw⟩ := hi
        have HJR := Lib.hid hj
        have HBW := Lib.hid hbw
        have hsc := hbw.size
        clear hj hbw
        gi_wp2
        refine hK _ _ ((Below.refl _ Wc).alloc (Nat.le_refl _) _) ?_
        intro W2 ht
        clear hK K
        have hs2' := ht.size
        rw [World.size_alloc] at hs2'
        have hs2 : Wc.heap.size + 1 ≤ W2.heap.size ∧ W2.heap.size ≤ Wc.heap.size + 1 := by omega
        clear hs2'
        have f2 : Cell1 W2 b2 3 (.int .i64 (n : Nat)) := ((HD2.out.below HBW.out ld2).alloc _).turn ht (by omega)
        have fz : Cell1 W2 Bz 3 (.int .i64 (y : Nat)) := ((HDZ.out.below HBW.out ldz).alloc _).turn ht (by omega)
        have fy : Cell1 W2 W.heap.size 86 (.func (.yield l0) #[] #[]) := ((HDY.out.below HBW.out ldy).alloc _).turn ht (by omega)
        have fr : Cell1 W2 Wc.heap.size 3 (.int .i64 (r : Nat)) := (Cell1.new Wc _ _).turn ht (by omega)
        have HB2 : Hid (Below Wl.heap.size Wl W2) := (HBW.out.alloc hsc _).trans (ht.below (by omega))
        have HA2 : Hid (Above W.heap.size Wl W2) := (Above.of_below (HBW.out.alloc hsc _)).turn ht (by omega)
        obtain ⟨r0, hput, hr0⟩ := ht
        have HPUT := Lib.hid hput
        clear hput
        have e2 := f2.cell
        have ez := fz.cell
        gi_wp2_with (refine ⟨trivial, ?_⟩; gi_at_call 60; refine (CallsIn.inRound l (callsIn_wide.2 (setsOfSizeI n y _))).mono ?_; rintro e w' ⟨rfl, rfl⟩)
        obtain ⟨W3, hW3⟩ : ∃ W3, ((W2.alloc (.cells #[.int .i64 (n : Nat)] 3)).alloc (.cells #[.int .i64 (y : Nat)] 3)) = W3 := ⟨_, rfl⟩
        have hB3 : Below W2.heap.size W2 W3 := by rw [← hW3]; exact ((Below.refl _ W2).alloc (Nat.le_refl _) _).alloc (by simp) _
        have hs3' : W3.heap.size = W2.heap.size + 2 := by rw [← hW3]; simp
        have hs3 : W2.heap.size + 2 ≤ W3.heap.size ∧ W3.heap.size ≤ W2.heap.size + 2 := by omega
        clear hs3'
        have s1 : Cell1 W3 W2.heap.size 3 (.int .i64 (n : Nat)) := by rw [← hW3]; exact (Cell1.new _ _ _).alloc _
        have s2 : Cell1 W3 (W2.heap.size + 1) 3 (.int .i64 (y : Nat)) := by
          rw [← hW3]; have := Cell1.new (W2.alloc (.cells #[.int .i64 (n : Nat)] 3)) 3 (.int .i64 (y : Nat)); rw [World.size_alloc] at this; exact this
        rw [hW3]
        clear hW3 e2 ez
        have hr3 : W3.heap[l]? = some (.loop r0) := (hB3.block l (by omega)).trans hr0
        have HS2 := Lib.hid (setsIter n y W2.heap.size (W2.heap.size + 1) hn W3 s1.cell s2.cell s1.lt s2.lt)
        have HFY := Lib.hid fy
        have HFR := Lib.hid fr
        have lfy := fy.lt
        have lfr := fr.lt
        have HB3 := Lib.hid hB3
        have hw2 : W.heap.size ≤ W2.heap.size := by omega
        clear s1 s2 fy fr f2 fz hB3
        refine overInnerK (l₀ := l) (r₀ := r0) hr3 (gf := 82) (lb := #[.pointer (some ⟨W2.heap.size, 0, none⟩), .pointer (some ⟨W2.heap.size + 1, 0, none⟩)]) rfl (enters_of Tryz.func82 (by kernel_rfl) rfl) (encs := fun x : Nat => #[.int .i64 (x : Nat)]) (xs := sets n y) (w0 := W3)
          HS2.out (Below.refl _ _) (fun _ => rfl)
          (fun qs W' => J (upto m n z ++ (lay n y rs ++ qs.map (Prod.mk r))) W' ∧ Below W2.heap.size W2 W')
          (fun c qs W' => c = .ret ∧ (∃ pre, pre <+: parts m n ∧ Jx pre W') ∧ Above W.heap.size W2 W')
          ?hI2 ?hIx2 ?h02 ?hround2 ?hdone2 ?hstop2
        case hI2 => exact fun s A A' h hb => ⟨HJ.out _ _ _ h.1 (hb.mono (by omega)), h.2.trans (hb.mono (by omega))⟩
        case hIx2 => exact fun c s A A' h hb => ⟨h.1, h.2.1.elim fun pre hp => ⟨pre, hp.1, HJX.out _ _ _ hp.2 (hb.mono (by omega))⟩, h.2.2.low (hb.below.mono (by omega))⟩
        case h02 => exact ⟨by rw [List.map_nil, List.append_nil]; exact HJ.out _ _ _ HJR.out ((((Below.refl _ Wc).alloc (by omega) _).trans (Turn.below ⟨r0, HPUT.out, hr0⟩ (by omega))).trans (HB3.out.mono hw2)), HB3.out⟩
        case hround2 =>
          intro l2 qs q qp Wd hsq hl3 hl4 hi K hK
          obtain ⟨hj, hbd⟩ := hi
          have HJD := Lib.hid hj
          have HBD := Lib.hid hbd
          have hsd := hbd.size
          clear hj hbd
          gi_wp2
          refine hK _ _ (Below.refl _ Wd) ?_
          intro W4 ht2
          clear hK K
          have hs4' := ht2.size
          have hs4 : Wd.heap.size ≤ W4.heap.size ∧ W4.heap.size ≤ Wd.heap.size := by omega
          clear hs4'
          have gy := ((HFY.out.below HBD.out lfy).turn ht2 (by omega)).cell
          have gr := ((HFR.out.below HBD.out lfr).turn ht2 (by omega)).cell
          have HT4 : Hid (Below l2 Wd W4) := ht2.below (Nat.le_refl _)
          obtain ⟨post, hpost⟩ := parts_at hlt (by rw [hy]; exact hsr) (by rw [hy]; exact hsq)
          rw [hy] at hpost
          obtain ⟨fn, tmps, assign, body, hyy, hR⟩ := HY.out _ (r, q) post hpost W4 (by omega) (HJ.out _ _ _ HJD.out (HT4.out.mono (by omega))) (9 - 1)
          dsimp only at hyy
          have HR := Lib.hid hR
          have HPP := Lib.hid hpost
          have HAD : Hid (Above W.heap.size W2 W4) := (Above.of_below HBD.out).turn ht2 (by omega)
          clear hR hpost ht2
          gi_wp2
          refine RoundIn.mono HR.out ?_
          rintro e W5 (⟨rfl, hJ5, hb5⟩ | ⟨rfl, hx5, ha5⟩)
          · gi_wp2
            refine ⟨⟨?_, HBD.out.trans ((HT4.out.mono (by omega)).trans (hb5.mono (by omega)))⟩, hb5⟩
            rw [List.map_append]
            simpa [List.append_assoc] using hJ5
          · gi_wp2
            exact ⟨⟨rfl, ⟨_, ⟨post, by rw [HPP.out]; simp [List.append_assoc]⟩, hx5⟩, HAD.out.trans ha5⟩, ha5.mono (by omega)⟩
        case hdone2 =>
          rintro W' ⟨hj, hb⟩
          gi_wp2
          exact ⟨⟨by rw [lay_snoc]; exact hj, HB2.out.trans (hb.mono (by omega))⟩, hb⟩
        case hstop2 =>
          rintro c pre W' hp ⟨rfl, hx, ha⟩
          gi_wp2
          exact ⟨⟨rfl, hx, HA2.out.trans ha⟩, ha.mono hwl⟩
      case hdone =>
        rintro D W' hD ⟨hj, hb⟩ hKD
        have gz := HDZ.out.below hb ldz
        have gy := HDY.out.below hb ldy
        have hs' := hb.size
        have ez := gz.cell
        have hwy : IntKind.i64.wrap ((y : Int) + 1) = (y : Int) + 1 := IntWalk.i64_in _ (by omega)
        have hwy2 : wrap64 ((y : Int) + 1) = (y : Int) + 1 := IntWalk.wrap64_in _ (by omega)
        gi_wp2
        clear hwy hwy2
        have hz1 : z + 1 ≤ min m n := by omega
        have hWB : W.heap.size < W'.heap.size := by omega
        have hyz : y = z + 1 := hy.symm
        have gb : Below W'.heap.size W' (W'.alloc (.cells #[.int .i64 ((y : Int) + 1)] 3)) := (Below.refl _ W').alloc (Nat.le_refl _) _
        have gn : Cell1 (W'.alloc (.cells #[.int .i64 ((y : Int) + 1)] 3)) W'.heap.size 3 (.int .i64 ((z + 1 + 1 : Nat) : Int)) := by
          have := Cell1.new W' 3 (.int .i64 ((y : Int) + 1)); rw [← hy] at this ⊢; exact this
        refine ⟨⟨_, _, _, _, _, _, _, _, _, _, _, _, _, _, _, _, _, _, _, _, _, _, _, z + 1, W'.heap.size, { target := .collected D, args := #[] } :: ds, rfl, hz1, ?_, gn, hWB, gy.alloc _, ?_, ?_⟩, ?_⟩
        · exact (Marks.cons HM2.out (Above.of_below hb) hwl hD hKD).above (Above.of_below gb)
        · show J (upto m n (z + 1)) _
          rw [upto_succ, hy]
          exact HJ.out _ _ _ hj (gb.mono (by omega))
        · exact ((HB.out.trans (HBL.out.mono hwr)).trans (hb.mono hwl)).trans (gb.mono (by omega))
        · have e1 := sizeAt_box gn
          have e2 := HSZ.out
          have e3 : 6 - (z + 1 + 1) < 6 - y := by omega
          have e4 : 6 - sizeAt (W'.alloc (.cells #[.int .i64 ((y : Int) + 1)] 3)) (.pointer (some ⟨W'.heap.size, 0, none⟩)) < 6 - sizeAt wr (.pointer (some ⟨Bz, 0, none⟩)) := by rw [e1, e2]; exact e3
          exact e4
      case hstop =>
        rintro D c pre W' hD hp ⟨rfl, ⟨pre2, h1, h2⟩, ha⟩ hKD
        gi_wp2
        refine marks_leave (Marks.cons HM2.out ha hwl hD hKD) ?_
        intro w' hb
        exact ⟨_, results_none rfl _ _ _, ⟨_, rfl⟩, .inr ⟨pre2, h1, HJX.out _ _ _ h2 hb⟩⟩
    · have hze : z = min m n := by omega
      gi_wp2
      all_goals try (exfalso; omega)
      refine marks_leave HM.out (fun w' hb => ⟨_, results_none rfl _ _ _, ⟨_, rfl⟩, .inl (HJ.out _ _ _ (by have := HJz.out; rw [hze] at this; exact this) hb.below)⟩)
end Go.Proofs.YtlmaeadbomnhlaaGreat
