/- The walk of the law of GapOf, over contracts of the program's functions. (Written by wip/gen/law11.py.) -/
import Derived.Test.YtakkdpjgdmngkaaPC
import Derived.Test.YtakkdpjgdmngkaaDrawL
import Derived.Test.YtakkdpjgdmngkaaMI
import Derived.Test.YtakkdpjgdmngkaaLawT
import Derived.Test.YtakkdpjgdmngkaaPA
import Derived.Test.YtakkdpjgdmngkaaMA
namespace Go.Proofs.Ytakkdpjgdmngkaa
set_option linter.unusedSimpArgs false
set_option linter.unusedVariables false
open Go.RowKit

theorem wf_steps {z : Int} (h0 : -60 ≤ z) (h1 : z ≤ 61) : (Lit.int .i64 z).wf = true := by simp [Lit.wf, IntKind.min, IntKind.max, IntKind.signed, IntKind.bits]; omega

/-- what the law asks of a gap -/
structure GapL (g : List (List Int)) (s : Int) : Prop where
  less : lessB (gapU g s) (gapD g s) 0 1 = false
  eqB : (decide (gapU g s = 0) && decide (gapD g s = 1)) = setB g (lrnX g s) (lrnY g s)

theorem gap_law {g : List (List Int)} {s : Int} (h : lrnB g s = true) : GapL g s := by
  have hg : gameB g = true := by unfold lrnB at h; rw [Bool.and_eq_true] at h; exact h.1
  have hs : 1 ≤ s ∧ s ≤ 60 := by unfold lrnB at h; rw [Bool.and_eq_true] at h; have := h.2; unfold inR at this; exact of_decide_eq_true this
  obtain ⟨y1, y2⟩ := gap_yes h
  obtain ⟨f1, f2, f3, f4⟩ := gap_facts hg (show s.toNat - 1 ≤ 59 by omega)
  have hX : lrnX g s = (lrnP g (s.toNat - 1)).1 ∧ lrnY g s = (lrnP g (s.toNat - 1)).2 := by unfold lrnX lrnY; rw [h]; exact ⟨rfl, rfl⟩
  rw [← y1, ← y2] at f2 f4
  rw [← y1] at f3
  rw [← hX.1, ← hX.2] at f4
  refine ⟨?_, ?_⟩
  · rw [lessB_ok f2 (by decide)]; exact decide_eq_false (by have := (okB_iff.1 f2).2.2.1; omega)
  · rcases hb : setB g (lrnX g s) (lrnY g s) with _ | _
    · rw [Bool.and_eq_false_iff]
      by_cases h0 : gapU g s = 0
      · right; refine decide_eq_false fun h1 => ?_
        rw [f4.1 ⟨h0, h1⟩] at hb; cases hb
      · left; exact decide_eq_false h0
    · obtain ⟨h0, h1⟩ := f4.2 hb
      rw [h0, h1]; rfl

set_option maxHeartbeats 4000000 in
set_option maxRecDepth 100000 in
theorem wFnGapOf (I : Impl11) (a : Option Addr) (len cap : Nat) (zs : List Int) (w : World) (h : IsRow .u8 w a len cap zs) :
    Calls Try.prog 4 #[.slice a len cap] w fun e w' => e = .returned (.bool true) ∧ Below w.heap.size w w' := by
  have hle := byte_len h
  by_cases hbig : (1048576 : Int) < (len : Int)
  · go_enter Try.func4, Try.ntmps4
    go_wp2_with fail
    go_ret
    exact ⟨rfl, Below.refl _ _⟩
  go_enter Try.func4, Try.ntmps4
  go_wp2_with fail
  refine (dDrawGapOf a len cap zs w h).mono ?_
  rintro e w1 ⟨g, T, c, s, rfl, hc1, hc2, hg17, hgr, hs1, hs2, hb1, ho1⟩
  clear hbig hle
  have BEL0 := Lib.hid hb1
  have R0 := Lib.hid ho1.lt
  have hl := small_max hg17
  have fs := wf_steps hs1 hs2
  clear hb1 ho1 hgr hc1 hc2
  go_wp2_with fail
  refine (I.gap _ _ g s fs hl _ R0.out).mono ?_
  rintro e w2 ⟨rfl, hb2⟩
  replace R0 := Lib.hid (stillRows R0.out hb2)
  replace BEL0 := Lib.hid (belT BEL0.out hb2)
  clear hb2
  try unfold FracRes
  go_wp2_with fail
  obtain ⟨WFA, hWFA⟩ : ∃ WFA : World, WFA = w2.alloc (.cells #[.int .i64 (gapU g s), .int .i64 (gapD g s)] 34) := ⟨_, rfl⟩
  have hbWFA : Below w2.heap.size w2 WFA := by rw [hWFA]; exact (Below.refl _ _).alloc (Nat.le_refl _) _
  have FA : Hid (Box2 WFA w2.heap.size (gapU g s) (gapD g s)) := by show Box2 _ _ _ _; rw [hWFA]; exact Box2.new _ _ _
  rw [← hWFA]
  clear hWFA
  replace R0 := Lib.hid (stillRows R0.out hbWFA)
  replace BEL0 := Lib.hid (belT BEL0.out hbWFA)
  clear hbWFA
  go_wp2_with fail
  refine (gap_spec _ _ g s hl _ R0.out).mono ?_
  rintro e w3 ⟨rfl, hb3⟩
  replace R0 := Lib.hid (stillRows R0.out hb3)
  replace FA := Lib.hid (FA.out.still hb3)
  replace BEL0 := Lib.hid (belT BEL0.out hb3)
  clear hb3
  try unfold FracRes
  have cFA0 := FA.out.c0
  have cFA1 := FA.out.c1
  have ltA := FA.out.lt
  rcases hb : lrnB g s with _ | _
  · skip
    have HU : Hid (gapU g s = 0) := by simp [Hid, gapU, hb]
    have HD : Hid (gapD g s = 0) := by simp [Hid, gapD, hb]
    rw [HU.out] at cFA0
    rw [HD.out] at cFA1
    rw [HU.out, HD.out]
    clear hb
    go_wp2_with fail
    refine (alive _).mono ?_
    rintro e w9 ⟨rfl, hb9⟩
    have hb8 := Lib.hid (belT (w := w3) (by exact (by repeat (first | exact Below.refl _ _ | assumption | exact bel1 (by assumption) | exact bel2 (by assumption) | exact bel3 (by assumption) | exact bel4 (by assumption) | refine Below.drew ?_ | refine below_drewN ?_ _ | refine Below.setCell ?_ (by first | (simp; done) | (simp; omega)) _ | refine Below.alloc ?_ (by first | (simp; done) | (simp; omega)) _))) hb9)
    clear hb9
    go_wp2_with fail
    go_ret
    exact ⟨rfl, belT BEL0.out hb8.out⟩
  have zU : (gapU g s != gapU g s) = false := by simp
  have zD : (gapD g s != gapD g s) = false := by simp
  have HB := Lib.hid hb
  clear hb
  go_wp2_with fail
  clear cFA0 cFA1
  clear ltA zU zD
  obtain ⟨WFB, hWFB⟩ : ∃ WFB : World, WFB = w3.alloc (.cells #[.int .i64 (gapU g s), .int .i64 (gapD g s)] 34) := ⟨_, rfl⟩
  have hbWFB : Below w3.heap.size w3 WFB := by rw [hWFB]; exact (by repeat (first | exact Below.refl _ _ | assumption | exact bel1 (by assumption) | exact bel2 (by assumption) | exact bel3 (by assumption) | exact bel4 (by assumption) | refine Below.drew ?_ | refine below_drewN ?_ _ | refine Below.setCell ?_ (by first | (simp; done) | (simp; omega)) _ | refine Below.alloc ?_ (by first | (simp; done) | (simp; omega)) _))
  rw [← hWFB]
  clear hWFB
  replace R0 := Lib.hid (stillRows R0.out hbWFB)
  replace FA := Lib.hid (FA.out.still hbWFB)
  replace BEL0 := Lib.hid (belT BEL0.out hbWFB)
  clear hbWFB
  have HF := Lib.hid (gap_law HB.out)
  obtain ⟨hlx, hly⟩ := lrn_len g s
  refine (I.learn _ _ g s fs hl _ R0.out).mono ?_
  rintro e w4 ⟨TC1, cC1, TC2, cC2, rfl, hb4, ho4, hp4, hd4⟩
  have C1 : Hid (Ints w4 (fun b => b < w4.heap.size) TC1 (lrnX g s)) := ho4.ints.mono fun b h => h.2
  have C2 : Hid (Ints w4 (fun b => b < w4.heap.size) TC2 (lrnY g s)) := hp4.ints.mono fun b h => h.2
  clear hd4
  replace R0 := Lib.hid (stillRows R0.out hb4)
  replace FA := Lib.hid (FA.out.still hb4)
  replace BEL0 := Lib.hid (belT BEL0.out hb4)
  clear hb4 ho4 hp4
  rw [HB.out]
  have cFA0 := FA.out.c0
  have cFA1 := FA.out.c1
  have lFA := FA.out.lt
  go_wp2_with fail
  obtain ⟨WBC, hWBC⟩ : ∃ WBC : World, WBC = w4.alloc (.cells #[.slice TC1 (lrnX g s).length cC1, .slice TC2 (lrnY g s).length cC2] 28) := ⟨_, rfl⟩
  have hbWBC : Below w4.heap.size w4 WBC := by rw [hWBC]; exact (Below.refl _ _).alloc (Nat.le_refl _) _
  have hzWBC : WBC.heap.size = w4.heap.size + 1 := by rw [hWBC]; simp
  have BC : Hid (BoxC WBC w4.heap.size (.slice TC1 (lrnX g s).length cC1) (.slice TC2 (lrnY g s).length cC2)) := by show BoxC _ _ _ _; rw [hWBC]; exact BoxC.new _ _ _
  rw [← hWBC]
  clear hWBC
  replace R0 := Lib.hid (stillRows R0.out hbWBC)
  replace FA := Lib.hid (FA.out.still hbWBC)
  replace C1 := Lib.hid (stillInts C1.out hbWBC)
  replace C2 := Lib.hid (stillInts C2.out hbWBC)
  replace BEL0 := Lib.hid (belT BEL0.out hbWBC)
  clear hbWBC
  clear cFA0 cFA1
  clear lFA
  obtain ⟨WNO, hWNO⟩ : ∃ WNO : World, WNO = WBC.alloc (.cells #[.int .i64 0, .int .i64 1] 34) := ⟨_, rfl⟩
  have hbWNO : Below WBC.heap.size WBC WNO := by rw [hWNO]; exact (Below.refl _ _).alloc (Nat.le_refl _) _
  have NO : Hid (Box2 WNO (w4.heap.size + 1) 0 1) := by show Box2 _ _ _ _; rw [hWNO, ← hzWBC]; exact Box2.new _ _ _
  clear hzWBC
  rw [← hWNO]
  clear hWNO
  replace R0 := Lib.hid (stillRows R0.out hbWNO)
  replace FA := Lib.hid (FA.out.still hbWNO)
  replace C1 := Lib.hid (stillInts C1.out hbWNO)
  replace C2 := Lib.hid (stillInts C2.out hbWNO)
  replace BC := Lib.hid (BC.out.still hbWNO)
  replace BEL0 := Lib.hid (belT BEL0.out hbWNO)
  clear hbWNO
  have HLE : Hid (∀ w', Calls Try.prog 20 #[.agg #[.int .i64 (gapU g s), .int .i64 (gapD g s)], .agg #[.int .i64 0, .int .i64 1]] w' fun e w'' => e = .returned (.bool false) ∧ Below w'.heap.size w' w'') := fun w' => by have := less_impl (gapU g s) (gapD g s) 0 1 w'; rwa [HF.out.less] at this
  have HSE : Hid (∀ w', Below WNO.heap.size WNO w' → Calls Try.prog 18 #[.slice T g.length c, .slice TC1 (lrnX g s).length cC1, .slice TC2 (lrnY g s).length cC2] w' (Adds (.bool (setB g (lrnX g s) (lrnY g s))) w')) := fun w' hb => set_impl _ _ _ _ _ _ g (lrnX g s) (lrnY g s) hl (by omega) (by omega) _ (stillRows R0.out hb) (stillInts C1.out hb) (stillInts C2.out hb)
  have HEQ := Lib.hid HF.out.eqB
  clear R0
  clear C1
  clear C2
  clear HF HB hlx hly
  generalize gapU g s = U at *
  generalize gapD g s = D at *
  generalize hset : setB g (lrnX g s) (lrnY g s) = b at *
  clear hset
  by_cases h0 : U = 0
  · subst h0
    by_cases h1 : D = 1
    · subst h1
      obtain rfl : b = true := HEQ.out.symm.trans rfl
      clear HEQ
      have sFA0 := stays FA.out.lt FA.out.c0
      have sFA1 := stays FA.out.lt FA.out.c1
      have sNO0 := stays NO.out.lt NO.out.c0
      have sNO1 := stays NO.out.lt NO.out.c1
      have sBC0 := stays BC.out.lt BC.out.c0
      have sBC1 := stays BC.out.lt BC.out.c1
      go_region_held3 (fun w' => Below WNO.heap.size WNO w')
        (first | exact Below.refl _ _ | exact Below.drew (Below.refl _ _) | (refine Below.drew ?_; assumption) | exact belT (by assumption) (by assumption) | assumption)
        (first | (go_at_call 20; refine (HLE.out _).mono ?_; rintro e w8 ⟨rfl, hb8⟩) | (go_at_call 18; refine (HSE.out _ (by first | exact Below.refl _ _ | exact Below.drew (Below.refl _ _) | (refine Below.drew ?_; assumption) | exact belT (by assumption) (by assumption) | assumption)).mono ?_; rintro e w9 ⟨rfl, hb9⟩))
      go_wp2_with fail
      go_ret
      exact ⟨by simp, belT BEL0.out (by assumption)⟩
    · skip
      have hd := decide_eq_false h1
      obtain rfl : b = false := by have h2 := HEQ.out; rw [hd] at h2; exact h2.symm.trans rfl
      have z1 : (D == 1) = false := by simpa using h1
      clear HEQ hd
      have sFA0 := stays FA.out.lt FA.out.c0
      have sFA1 := stays FA.out.lt FA.out.c1
      have sNO0 := stays NO.out.lt NO.out.c0
      have sNO1 := stays NO.out.lt NO.out.c1
      have sBC0 := stays BC.out.lt BC.out.c0
      have sBC1 := stays BC.out.lt BC.out.c1
      go_region_held3 (fun w' => Below WNO.heap.size WNO w')
        (first | exact Below.refl _ _ | exact Below.drew (Below.refl _ _) | (refine Below.drew ?_; assumption) | exact belT (by assumption) (by assumption) | assumption)
        (first | (go_at_call 20; refine (HLE.out _).mono ?_; rintro e w8 ⟨rfl, hb8⟩) | (go_at_call 18; refine (HSE.out _ (by first | exact Below.refl _ _ | exact Below.drew (Below.refl _ _) | (refine Below.drew ?_; assumption) | exact belT (by assumption) (by assumption) | assumption)).mono ?_; rintro e w9 ⟨rfl, hb9⟩))
      go_wp2_with fail
      go_ret
      exact ⟨by simp, belT BEL0.out (by assumption)⟩
  · skip
    have hd := decide_eq_false h0
    obtain rfl : b = false := by have h2 := HEQ.out; rw [hd] at h2; exact h2.symm.trans rfl
    have z1 : (U == 0) = false := by simpa using h0
    clear HEQ hd
    have sFA0 := stays FA.out.lt FA.out.c0
    have sFA1 := stays FA.out.lt FA.out.c1
    have sNO0 := stays NO.out.lt NO.out.c0
    have sNO1 := stays NO.out.lt NO.out.c1
    have sBC0 := stays BC.out.lt BC.out.c0
    have sBC1 := stays BC.out.lt BC.out.c1
    go_region_held3 (fun w' => Below WNO.heap.size WNO w')
      (first | exact Below.refl _ _ | exact Below.drew (Below.refl _ _) | (refine Below.drew ?_; assumption) | exact belT (by assumption) (by assumption) | assumption)
      (first | (go_at_call 20; refine (HLE.out _).mono ?_; rintro e w8 ⟨rfl, hb8⟩) | (go_at_call 18; refine (HSE.out _ (by first | exact Below.refl _ _ | exact Below.drew (Below.refl _ _) | (refine Below.drew ?_; assumption) | exact belT (by assumption) (by assumption) | assumption)).mono ?_; rintro e w9 ⟨rfl, hb9⟩))
    go_wp2_with fail
    go_ret
    exact ⟨by simp, belT BEL0.out (by assumption)⟩

end Go.Proofs.Ytakkdpjgdmngkaa
