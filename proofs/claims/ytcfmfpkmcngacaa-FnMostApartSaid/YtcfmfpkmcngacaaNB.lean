/- Texts in one: ExactFa, ExactFb, ExactFc, Impl8. -/
import Derived.Test.YtcfmfpkmcngacaaMY
import Derived.Test.YtcfmfpkmcngacaaMX
import Derived.Test.YtcfmfpkmcngacaaMG
import Derived.Test.YtcfmfpkmcngacaaMZ
namespace Go.Proofs.Ytcfmfpkmcngacaa
set_option linter.unusedSimpArgs false
set_option linter.unusedVariables false
open Go.RowKit

/-- what the program's functions on fields are asked -/
structure Impl8 : Prop where
  ok : ∀ (R C S : Int) (_ : (Lit.int .i64 R).wf = true) (_ : (Lit.int .i64 C).wf = true) (_ : (Lit.int .i64 S).wf = true) (w : World), Calls Try.prog 16 #[.agg #[.int .i64 R, .int .i64 C, .int .i64 S]] w (Adds (.bool (fldB R C S)) w)
  game : ∀ (R C S : Int) (_ : (Lit.int .i64 R).wf = true) (_ : (Lit.int .i64 C).wf = true) (_ : (Lit.int .i64 S).wf = true) (w : World), Calls Try.prog 20 #[.agg #[.int .i64 R, .int .i64 C, .int .i64 S]] w (NewTable w (fldG R C S))
  most : ∀ (R C S : Int) (_ : (Lit.int .i64 R).wf = true) (_ : (Lit.int .i64 C).wf = true) (_ : (Lit.int .i64 S).wf = true) (w : World), Calls Try.prog 25 #[.agg #[.int .i64 R, .int .i64 C, .int .i64 S]] w (Adds (.int .i64 (mosV R C S)) w)
  hide : ∀ (R C S : Int) (_ : (Lit.int .i64 R).wf = true) (_ : (Lit.int .i64 C).wf = true) (_ : (Lit.int .i64 S).wf = true) (w : World), Calls Try.prog 29 #[.agg #[.int .i64 R, .int .i64 C, .int .i64 S]] w (NewList w (hidL R C S))
  look : ∀ (R C S : Int) (_ : (Lit.int .i64 R).wf = true) (_ : (Lit.int .i64 C).wf = true) (_ : (Lit.int .i64 S).wf = true) (w : World), Calls Try.prog 28 #[.agg #[.int .i64 R, .int .i64 C, .int .i64 S]] w (NewList w (lokL R C S))
  worth : ∀ (R C S : Int) (_ : (Lit.int .i64 R).wf = true) (_ : (Lit.int .i64 C).wf = true) (_ : (Lit.int .i64 S).wf = true) (w : World), Calls Try.prog 39 #[.agg #[.int .i64 R, .int .i64 C, .int .i64 S]] w (Adds (FracRes (fwU R C S) (fwD R C S) (fldB R C S)) w)

theorem fldG_len (R C S : Int) : (fldG R C S).length ≤ 16 ∧ ∀ i, i < (fldG R C S).length → (rowAt (fldG R C S) i).length ≤ 16 := by
  rcases hb : fldB R C S with _ | _
  · rw [(fld_no hb).2.1]; exact ⟨by decide, fun i hi => by simp at hi⟩
  · obtain ⟨r, c, s, rfl, rfl, rfl, hf⟩ := fld_nat hb
    rw [(fld_yes hf).2.1]
    have hk := fld_game hf
    exact ⟨hk.hi, fun i hi => by rw [hk.len i hi]; exact hk.mhi⟩

theorem lokL_len (R C S : Int) : (lokL R C S).length ≤ 16 := by
  rcases hb : fldB R C S with _ | _
  · rw [(fld_no hb).2.2.2.1]; decide
  · obtain ⟨r, c, s, rfl, rfl, rfl, hf⟩ := fld_nat hb
    rw [(fld_yes hf).2.2.2.1, lokT_length]; have := hf.rhi; have := hf.chi; omega

theorem hidL_len (R C S : Int) : (hidL R C S).length ≤ 16 := by
  rcases hb : fldB R C S with _ | _
  · rw [(fld_no hb).2.2.1]; decide
  · obtain ⟨r, c, s, rfl, rfl, rfl, hf⟩ := fld_nat hb
    rw [(fld_yes hf).2.2.1, hidT_len]; exact hf.many.2

set_option maxHeartbeats 1000000 in
theorem toField_c (R C S : Int) (w : World) : Calls Try.prog 42 #[.agg #[.int .i64 R, .int .i64 C, .int .i64 S]] w (Adds (.agg #[.int .i64 R, .int .i64 C, .int .i64 S]) w) := by
  go_enter Try.func42, Try.ntmps42
  go_wp2_with fail
  refine bodyPost_ret (v := .agg #[.int .i64 R, .int .i64 C, .int .i64 S]) (by simp [results, Try.results42, go_sem]) rfl ⟨rfl, ?_⟩
  exact (((Below.refl _ _).alloc (Nat.le_refl _) _).alloc (by simp) _).alloc (by simp; omega) _

set_option maxHeartbeats 2000000 in
set_option maxRecDepth 100000 in
theorem wFnExactFieldOk (I : Impl8) (R0 C0 S0 : Int) (lr0 : (Lit.int .i64 R0).wf = true) (lc0 : (Lit.int .i64 C0).wf = true) (ls0 : (Lit.int .i64 S0).wf = true) (w : World)  :
    Calls Try.prog 9 #[.agg #[.int .i64 R0, .int .i64 C0, .int .i64 S0]] w (Adds (.bool true) w) := by
  obtain ⟨WA, hWA⟩ : ∃ WA : World, WA = w.alloc (.cells #[.int .i64 R0, .int .i64 C0, .int .i64 S0] 46) := ⟨_, rfl⟩
  have hbWA : Below w.heap.size w WA := by rw [hWA]; exact (Below.refl _ _).alloc (Nat.le_refl _) _
  have hltWA : w.heap.size < WA.heap.size := by rw [hWA]; simp
  have BX : Hid (Box3 WA w.heap.size R0 C0 S0) := by show Box3 _ _ _ _ _; rw [hWA]; exact ⟨by simp, by simp [go_sem], by simp [go_sem], by simp [go_sem]⟩
  have cX0 := BX.out.c0
  have cX1 := BX.out.c1
  have cX2 := BX.out.c2
  rw [hWA] at cX0 cX1 cX2
  have HWA := Lib.hid hWA
  clear hWA
  go_enter Try.func9, Try.ntmps9
  go_wp2_with fail
  rw [← HWA.out]
  clear cX0 cX1 cX2
  have BEL0 := Lib.hid hbWA
  clear hbWA
  clear hltWA
  refine (toField_c R0 C0 S0 _).mono ?_
  rintro e w1 ⟨rfl, hb1⟩
  replace BX := Lib.hid (BX.out.still hb1)
  replace BEL0 := Lib.hid (belT BEL0.out hb1)
  clear hb1
  go_wp2_with fail
  refine (fldOk_spec R0 C0 S0 _).mono ?_
  rintro e w2 ⟨rfl, hb2⟩
  replace BX := Lib.hid (BX.out.still hb2)
  replace BEL0 := Lib.hid (belT BEL0.out hb2)
  clear hb2
  have cX0 := BX.out.c0
  have cX1 := BX.out.c1
  have cX2 := BX.out.c2
  try go_wp2_with fail
  clear cX0 cX1 cX2
  refine (toField_c R0 C0 S0 _).mono ?_
  rintro e w3 ⟨rfl, hb3⟩
  replace BX := Lib.hid (BX.out.still hb3)
  replace BEL0 := Lib.hid (belT BEL0.out hb3)
  clear hb3
  go_wp2_with fail
  refine (I.ok R0 C0 S0 lr0 lc0 ls0 _).mono ?_
  rintro e w4 ⟨rfl, hb4⟩
  replace BX := Lib.hid (BX.out.still hb4)
  replace BEL0 := Lib.hid (belT BEL0.out hb4)
  clear hb4
  have zB : (fldB R0 C0 S0 != fldB R0 C0 S0) = false := by simp
  go_wp2_with fail
  go_ret
  exact Adds.of rfl BEL0.out

set_option maxHeartbeats 2000000 in
set_option maxRecDepth 100000 in
theorem wFnExactMostApart (I : Impl8) (R0 C0 S0 : Int) (lr0 : (Lit.int .i64 R0).wf = true) (lc0 : (Lit.int .i64 C0).wf = true) (ls0 : (Lit.int .i64 S0).wf = true) (w : World)  :
    Calls Try.prog 11 #[.agg #[.int .i64 R0, .int .i64 C0, .int .i64 S0]] w (Adds (.bool true) w) := by
  obtain ⟨WA, hWA⟩ : ∃ WA : World, WA = w.alloc (.cells #[.int .i64 R0, .int .i64 C0, .int .i64 S0] 46) := ⟨_, rfl⟩
  have hbWA : Below w.heap.size w WA := by rw [hWA]; exact (Below.refl _ _).alloc (Nat.le_refl _) _
  have hltWA : w.heap.size < WA.heap.size := by rw [hWA]; simp
  have BX : Hid (Box3 WA w.heap.size R0 C0 S0) := by show Box3 _ _ _ _ _; rw [hWA]; exact ⟨by simp, by simp [go_sem], by simp [go_sem], by simp [go_sem]⟩
  have cX0 := BX.out.c0
  have cX1 := BX.out.c1
  have cX2 := BX.out.c2
  rw [hWA] at cX0 cX1 cX2
  have HWA := Lib.hid hWA
  clear hWA
  go_enter Try.func11, Try.ntmps11
  go_wp2_with fail
  rw [← HWA.out]
  clear cX0 cX1 cX2
  have BEL0 := Lib.hid hbWA
  clear hbWA
  clear hltWA
  refine (toField_c R0 C0 S0 _).mono ?_
  rintro e w1 ⟨rfl, hb1⟩
  replace BX := Lib.hid (BX.out.still hb1)
  replace BEL0 := Lib.hid (belT BEL0.out hb1)
  clear hb1
  go_wp2_with fail
  refine (mostApart_spec R0 C0 S0 _).mono ?_
  rintro e w2 ⟨rfl, hb2⟩
  replace BX := Lib.hid (BX.out.still hb2)
  replace BEL0 := Lib.hid (belT BEL0.out hb2)
  clear hb2
  have cX0 := BX.out.c0
  have cX1 := BX.out.c1
  have cX2 := BX.out.c2
  try go_wp2_with fail
  clear cX0 cX1 cX2
  refine (toField_c R0 C0 S0 _).mono ?_
  rintro e w3 ⟨rfl, hb3⟩
  replace BX := Lib.hid (BX.out.still hb3)
  replace BEL0 := Lib.hid (belT BEL0.out hb3)
  clear hb3
  go_wp2_with fail
  refine (I.most R0 C0 S0 lr0 lc0 ls0 _).mono ?_
  rintro e w4 ⟨rfl, hb4⟩
  replace BX := Lib.hid (BX.out.still hb4)
  replace BEL0 := Lib.hid (belT BEL0.out hb4)
  clear hb4
  have zB : (mosV R0 C0 S0 != mosV R0 C0 S0) = false := by simp
  go_wp2_with fail
  go_ret
  exact Adds.of rfl BEL0.out

set_option maxHeartbeats 2000000 in
set_option maxRecDepth 100000 in
theorem wFnExactFieldWorth (I : Impl8) (R0 C0 S0 : Int) (lr0 : (Lit.int .i64 R0).wf = true) (lc0 : (Lit.int .i64 C0).wf = true) (ls0 : (Lit.int .i64 S0).wf = true) (w : World)  :
    Calls Try.prog 14 #[.agg #[.int .i64 R0, .int .i64 C0, .int .i64 S0]] w (Adds (.bool true) w) := by
  obtain ⟨WA, hWA⟩ : ∃ WA : World, WA = w.alloc (.cells #[.int .i64 R0, .int .i64 C0, .int .i64 S0] 46) := ⟨_, rfl⟩
  have hbWA : Below w.heap.size w WA := by rw [hWA]; exact (Below.refl _ _).alloc (Nat.le_refl _) _
  have hltWA : w.heap.size < WA.heap.size := by rw [hWA]; simp
  have BX : Hid (Box3 WA w.heap.size R0 C0 S0) := by show Box3 _ _ _ _ _; rw [hWA]; exact ⟨by simp, by simp [go_sem], by simp [go_sem], by simp [go_sem]⟩
  have cX0 := BX.out.c0
  have cX1 := BX.out.c1
  have cX2 := BX.out.c2
  rw [hWA] at cX0 cX1 cX2
  have HWA := Lib.hid hWA
  clear hWA
  go_enter Try.func14, Try.ntmps14
  go_wp2_with fail
  rw [← HWA.out]
  clear cX0 cX1 cX2
  have BEL0 := Lib.hid hbWA
  clear hbWA
  clear hltWA
  refine (toField_c R0 C0 S0 _).mono ?_
  rintro e w1 ⟨rfl, hb1⟩
  replace BX := Lib.hid (BX.out.still hb1)
  replace BEL0 := Lib.hid (belT BEL0.out hb1)
  clear hb1
  go_wp2_with fail
  refine (fieldWorth_spec R0 C0 S0 _).mono ?_
  rintro e w2 ⟨rfl, hb2⟩
  replace BX := Lib.hid (BX.out.still hb2)
  replace BEL0 := Lib.hid (belT BEL0.out hb2)
  clear hb2
  try unfold FracRes
  have cX0 := BX.out.c0
  have cX1 := BX.out.c1
  have cX2 := BX.out.c2
  have ltBX := BX.out.lt
  go_wp2_with fail
  clear cX0 cX1 cX2 ltBX
  obtain ⟨WFA, hWFA⟩ : ∃ WFA : World, WFA = w2.alloc (.cells #[.int .i64 (fwU R0 C0 S0), .int .i64 (fwD R0 C0 S0)] 40) := ⟨_, rfl⟩
  have hbWFA : Below w2.heap.size w2 WFA := by rw [hWFA]; exact (Below.refl _ _).alloc (Nat.le_refl _) _
  have FA : Hid (Box2 WFA w2.heap.size (fwU R0 C0 S0) (fwD R0 C0 S0)) := by show Box2 _ _ _ _; rw [hWFA]; exact Box2.new _ _ _
  rw [← hWFA]
  clear hWFA
  replace BX := Lib.hid (BX.out.still hbWFA)
  replace BEL0 := Lib.hid (belT BEL0.out hbWFA)
  clear hbWFA
  have cX0 := BX.out.c0
  have cX1 := BX.out.c1
  have cX2 := BX.out.c2
  try go_wp2_with fail
  clear cX0 cX1 cX2
  refine (toField_c R0 C0 S0 _).mono ?_
  rintro e w3 ⟨rfl, hb3⟩
  replace BX := Lib.hid (BX.out.still hb3)
  replace FA := Lib.hid (FA.out.still hb3)
  replace BEL0 := Lib.hid (belT BEL0.out hb3)
  clear hb3
  go_wp2_with fail
  refine (I.worth R0 C0 S0 lr0 lc0 ls0 _).mono ?_
  rintro e w4 ⟨rfl, hb4⟩
  replace BX := Lib.hid (BX.out.still hb4)
  replace FA := Lib.hid (FA.out.still hb4)
  replace BEL0 := Lib.hid (belT BEL0.out hb4)
  clear hb4
  try unfold FracRes
  have zB : (fldB R0 C0 S0 != fldB R0 C0 S0) = false := by simp
  have cFA0 := FA.out.c0
  have cFA1 := FA.out.c1
  have ltFA := FA.out.lt
  go_wp2_with fail
  refine (eqFrac_same _ _ _).mono ?_
  rintro e w5 ⟨rfl, hb5'⟩
  have hb5 := bel1 hb5'
  clear hb5'
  clear cFA0 cFA1
  clear ltFA
  clear FA
  replace BX := Lib.hid (BX.out.still hb5)
  replace BEL0 := Lib.hid (belT BEL0.out hb5)
  clear hb5
  go_wp2_with fail
  go_ret
  exact Adds.of rfl BEL0.out

end Go.Proofs.Ytcfmfpkmcngacaa

namespace Go.Proofs.Ytcfmfpkmcngacaa
set_option linter.unusedSimpArgs false
set_option linter.unusedVariables false
open Go.RowKit

set_option maxHeartbeats 4000000 in
set_option maxRecDepth 100000 in
theorem wFnExactHideCells (I : Impl8) (R0 C0 S0 : Int) (lr0 : (Lit.int .i64 R0).wf = true) (lc0 : (Lit.int .i64 C0).wf = true) (ls0 : (Lit.int .i64 S0).wf = true) (w : World)  :
    Calls Try.prog 12 #[.agg #[.int .i64 R0, .int .i64 C0, .int .i64 S0]] w (Adds (.bool true) w) := by
  have le_w : w.heap.size ≤ w.heap.size := Nat.le_refl _
  have hsl := hidL_len R0 C0 S0
  have HSL : Hid ((hidL R0 C0 S0).length ≤ maxLen) := by show _ ≤ _; unfold maxLen; omega
  obtain ⟨WA, hWA⟩ : ∃ WA : World, WA = w.alloc (.cells #[.int .i64 R0, .int .i64 C0, .int .i64 S0] 46) := ⟨_, rfl⟩
  have hbWA : Below w.heap.size w WA := by rw [hWA]; exact (Below.refl _ _).alloc (Nat.le_refl _) _
  have hltWA : w.heap.size < WA.heap.size := by rw [hWA]; simp
  have BX : Hid (Box3 WA w.heap.size R0 C0 S0) := by show Box3 _ _ _ _ _; rw [hWA]; exact ⟨by simp, by simp [go_sem], by simp [go_sem], by simp [go_sem]⟩
  have cX0 := BX.out.c0
  have cX1 := BX.out.c1
  have cX2 := BX.out.c2
  rw [hWA] at cX0 cX1 cX2
  have HWA := Lib.hid hWA
  clear hWA
  go_enter Try.func12, Try.ntmps12
  go_wp2_with fail
  rw [← HWA.out]
  clear cX0 cX1 cX2
  replace le_w := Nat.le_trans le_w hbWA.size
  have BEL0 := Lib.hid hbWA
  clear hbWA
  have o_w_WA : w.heap.size ≤ WA.heap.size := le_w
  have le_WA : WA.heap.size ≤ WA.heap.size := Nat.le_refl _
  have ltX := Lib.hid hltWA
  clear hltWA
  refine (toField_c R0 C0 S0 _).mono ?_
  rintro e w1 ⟨rfl, hb1⟩
  replace BX := Lib.hid (BX.out.keepB (hb1.mono le_WA) ltX.out)
  replace le_w := Nat.le_trans le_w hb1.size
  replace le_WA := Nat.le_trans le_WA hb1.size
  replace BEL0 := Lib.hid (belT BEL0.out hb1)
  clear hb1
  have o_WA_w1 : WA.heap.size ≤ w1.heap.size := le_WA
  have le_w1 : w1.heap.size ≤ w1.heap.size := Nat.le_refl _
  go_wp2_with fail
  refine (hideCells_spec R0 C0 S0 _).mono ?_
  rintro e w2 ⟨TV, cV, rfl, hb2, ho2⟩
  have V := Lib.hid ho2.lt
  replace BX := Lib.hid (BX.out.keepB (hb2.mono le_WA) ltX.out)
  replace le_w := Nat.le_trans le_w hb2.size
  replace le_WA := Nat.le_trans le_WA hb2.size
  replace le_w1 := Nat.le_trans le_w1 hb2.size
  replace BEL0 := Lib.hid (belT BEL0.out hb2)
  have o_w1_w2 : w1.heap.size ≤ w2.heap.size := le_w1
  have le_w2 : w2.heap.size ≤ w2.heap.size := Nat.le_refl _
  clear hb2 ho2
  have cX0 := BX.out.c0
  have cX1 := BX.out.c1
  have cX2 := BX.out.c2
  try go_wp2_with fail
  clear cX0 cX1 cX2
  refine (toField_c R0 C0 S0 _).mono ?_
  rintro e w3 ⟨rfl, hb3⟩
  replace BX := Lib.hid (BX.out.keepB (hb3.mono le_WA) ltX.out)
  replace V := Lib.hid (keepInts (hb3.mono le_w2) V.out)
  replace le_w := Nat.le_trans le_w hb3.size
  replace le_WA := Nat.le_trans le_WA hb3.size
  replace le_w1 := Nat.le_trans le_w1 hb3.size
  replace le_w2 := Nat.le_trans le_w2 hb3.size
  replace BEL0 := Lib.hid (belT BEL0.out hb3)
  clear hb3
  have o_w2_w3 : w2.heap.size ≤ w3.heap.size := le_w2
  have le_w3 : w3.heap.size ≤ w3.heap.size := Nat.le_refl _
  go_wp2_with fail
  refine (I.hide R0 C0 S0 lr0 lc0 ls0 _).mono ?_
  rintro e w4 ⟨TG, cG, rfl, hb4, ho4⟩
  have G := Lib.hid ho4
  replace BX := Lib.hid (BX.out.keepB (hb4.mono le_WA) ltX.out)
  replace V := Lib.hid (keepInts (hb4.mono le_w2) V.out)
  replace le_w := Nat.le_trans le_w hb4.size
  replace le_WA := Nat.le_trans le_WA hb4.size
  replace le_w1 := Nat.le_trans le_w1 hb4.size
  replace le_w2 := Nat.le_trans le_w2 hb4.size
  replace le_w3 := Nat.le_trans le_w3 hb4.size
  replace BEL0 := Lib.hid (belT BEL0.out hb4)
  have o_w3_w4 : w3.heap.size ≤ w4.heap.size := le_w3
  have le_w4 : w4.heap.size ≤ w4.heap.size := Nat.le_refl _
  clear hb4 ho4
  go_wp2_with fail
  refine (eqIntS _ _ _ _ (hidL R0 C0 S0) _ _ HSL.out _ (G.out.lt.lt le_w4) (V.out.lt le_w2)).mono ?_
  rintro e w5 ⟨rfl, hq5⟩
  have hb5 : Below w4.heap.size w4 w5 := by obtain ⟨n, rfl⟩ := hq5; exact below_drewN (Below.refl _ _) n
  replace G := Lib.hid (G.out.below (hb5.mono le_w4))
  replace BX := Lib.hid (BX.out.keepB (hb5.mono le_WA) ltX.out)
  replace V := Lib.hid (keepInts (hb5.mono le_w2) V.out)
  replace le_w := Nat.le_trans le_w hb5.size
  replace le_WA := Nat.le_trans le_WA hb5.size
  replace le_w1 := Nat.le_trans le_w1 hb5.size
  replace le_w2 := Nat.le_trans le_w2 hb5.size
  replace le_w3 := Nat.le_trans le_w3 hb5.size
  replace le_w4 := Nat.le_trans le_w4 hb5.size
  replace BEL0 := Lib.hid (belT BEL0.out hb5)
  clear hq5 hb5
  have kpos : 0 ≤ 1 := by omega
  go_wp2_with fail
  refine (markIntS _ _ (hidL R0 C0 S0) _ _ 1 (by omega) (by omega) (by omega) _ G.out).mono ?_
  rintro e w6 ⟨rfl, ht6, ho6⟩
  have hf6 := ht6.off G.out
  clear ht6
  replace G := Lib.hid ho6
  have bx6 : Below WA.heap.size w5 w6 := hf6.below (by omega)
  replace BX := Lib.hid (BX.out.keepB bx6 ltX.out)
  clear bx6
  replace V := Lib.hid (keepInts (hf6.below (by omega)) V.out)
  have hz6 := hf6.size
  replace le_w : w.heap.size ≤ w6.heap.size := by omega
  replace le_WA : WA.heap.size ≤ w6.heap.size := by omega
  replace le_w1 : w1.heap.size ≤ w6.heap.size := by omega
  replace le_w2 : w2.heap.size ≤ w6.heap.size := by omega
  replace le_w3 : w3.heap.size ≤ w6.heap.size := by omega
  replace le_w4 : w4.heap.size ≤ w6.heap.size := by omega
  replace BEL0 := Lib.hid (BEL0.out.trans (hf6.below (by omega)))
  clear hf6 hz6 ho6
  have zz : ((1 + ((hidL R0 C0 S0).length : Int)) != (1 + ((hidL R0 C0 S0).length : Int))) = false := by simp
  go_wp2_with fail
  refine (heldIntS _ _ (hidL R0 C0 S0).length _ 1 (by omega) (by omega) (by omega) _ G.out.ints).mono ?_
  rintro e wz ⟨rfl, rfl⟩
  have cX0 := BX.out.c0
  have cX1 := BX.out.c1
  have cX2 := BX.out.c2
  try go_wp2_with fail
  clear cX0 cX1 cX2
  refine (toField_c R0 C0 S0 _).mono ?_
  rintro e w7 ⟨rfl, hb7⟩
  replace G := Lib.hid (G.out.below (hb7.mono le_w4))
  replace BX := Lib.hid (BX.out.keepB (hb7.mono le_WA) ltX.out)
  replace V := Lib.hid (keepInts (hb7.mono le_w2) V.out)
  replace le_w := Nat.le_trans le_w hb7.size
  replace le_WA := Nat.le_trans le_WA hb7.size
  replace le_w1 := Nat.le_trans le_w1 hb7.size
  replace le_w2 := Nat.le_trans le_w2 hb7.size
  replace le_w3 := Nat.le_trans le_w3 hb7.size
  replace le_w4 := Nat.le_trans le_w4 hb7.size
  replace BEL0 := Lib.hid (belT BEL0.out hb7)
  clear hb7
  have o_w4_w7 : w4.heap.size ≤ w7.heap.size := le_w4
  have le_w7 : w7.heap.size ≤ w7.heap.size := Nat.le_refl _
  go_wp2_with fail
  refine (I.hide R0 C0 S0 lr0 lc0 ls0 _).mono ?_
  rintro e w8 ⟨TH, cH, rfl, hb8, ho8⟩
  have H := Lib.hid ho8
  replace G := Lib.hid (G.out.below (hb8.mono le_w4))
  replace BX := Lib.hid (BX.out.keepB (hb8.mono le_WA) ltX.out)
  replace V := Lib.hid (keepInts (hb8.mono le_w2) V.out)
  replace le_w := Nat.le_trans le_w hb8.size
  replace le_WA := Nat.le_trans le_WA hb8.size
  replace le_w1 := Nat.le_trans le_w1 hb8.size
  replace le_w2 := Nat.le_trans le_w2 hb8.size
  replace le_w3 := Nat.le_trans le_w3 hb8.size
  replace le_w4 := Nat.le_trans le_w4 hb8.size
  replace le_w7 := Nat.le_trans le_w7 hb8.size
  replace BEL0 := Lib.hid (belT BEL0.out hb8)
  have o_w7_w8 : w7.heap.size ≤ w8.heap.size := le_w7
  have le_w8 : w8.heap.size ≤ w8.heap.size := Nat.le_refl _
  clear hb8 ho8
  go_wp2_with fail
  refine (eqIntS _ _ _ _ (hidL R0 C0 S0) _ _ HSL.out _ (H.out.lt.lt le_w8) (V.out.lt le_w2)).mono ?_
  rintro e w9 ⟨rfl, hq9⟩
  have hb9 : Below w8.heap.size w8 w9 := by obtain ⟨n, rfl⟩ := hq9; exact below_drewN (Below.refl _ _) n
  replace G := Lib.hid (G.out.below (hb9.mono le_w4))
  replace H := Lib.hid (H.out.below (hb9.mono le_w8))
  replace BX := Lib.hid (BX.out.keepB (hb9.mono le_WA) ltX.out)
  replace V := Lib.hid (keepInts (hb9.mono le_w2) V.out)
  replace le_w := Nat.le_trans le_w hb9.size
  replace le_WA := Nat.le_trans le_WA hb9.size
  replace le_w1 := Nat.le_trans le_w1 hb9.size
  replace le_w2 := Nat.le_trans le_w2 hb9.size
  replace le_w3 := Nat.le_trans le_w3 hb9.size
  replace le_w4 := Nat.le_trans le_w4 hb9.size
  replace le_w7 := Nat.le_trans le_w7 hb9.size
  replace le_w8 := Nat.le_trans le_w8 hb9.size
  replace BEL0 := Lib.hid (belT BEL0.out hb9)
  clear hq9 hb9
  clear H
  clear V
  go_wp2_with fail
  refine (heldIntS _ _ (hidL R0 C0 S0).length _ 1 (by omega) (by omega) (by omega) _ G.out.ints).mono ?_
  rintro e wz ⟨rfl, rfl⟩
  go_wp2_with fail
  go_ret
  exact Adds.of rfl BEL0.out

set_option maxHeartbeats 4000000 in
set_option maxRecDepth 100000 in
theorem wFnExactLookLines (I : Impl8) (R0 C0 S0 : Int) (lr0 : (Lit.int .i64 R0).wf = true) (lc0 : (Lit.int .i64 C0).wf = true) (ls0 : (Lit.int .i64 S0).wf = true) (w : World)  :
    Calls Try.prog 13 #[.agg #[.int .i64 R0, .int .i64 C0, .int .i64 S0]] w (Adds (.bool true) w) := by
  have le_w : w.heap.size ≤ w.heap.size := Nat.le_refl _
  have hsl := lokL_len R0 C0 S0
  have HSL : Hid ((lokL R0 C0 S0).length ≤ maxLen) := by show _ ≤ _; unfold maxLen; omega
  obtain ⟨WA, hWA⟩ : ∃ WA : World, WA = w.alloc (.cells #[.int .i64 R0, .int .i64 C0, .int .i64 S0] 46) := ⟨_, rfl⟩
  have hbWA : Below w.heap.size w WA := by rw [hWA]; exact (Below.refl _ _).alloc (Nat.le_refl _) _
  have hltWA : w.heap.size < WA.heap.size := by rw [hWA]; simp
  have BX : Hid (Box3 WA w.heap.size R0 C0 S0) := by show Box3 _ _ _ _ _; rw [hWA]; exact ⟨by simp, by simp [go_sem], by simp [go_sem], by simp [go_sem]⟩
  have cX0 := BX.out.c0
  have cX1 := BX.out.c1
  have cX2 := BX.out.c2
  rw [hWA] at cX0 cX1 cX2
  have HWA := Lib.hid hWA
  clear hWA
  go_enter Try.func13, Try.ntmps13
  go_wp2_with fail
  rw [← HWA.out]
  clear cX0 cX1 cX2
  replace le_w := Nat.le_trans le_w hbWA.size
  have BEL0 := Lib.hid hbWA
  clear hbWA
  have o_w_WA : w.heap.size ≤ WA.heap.size := le_w
  have le_WA : WA.heap.size ≤ WA.heap.size := Nat.le_refl _
  have ltX := Lib.hid hltWA
  clear hltWA
  refine (toField_c R0 C0 S0 _).mono ?_
  rintro e w1 ⟨rfl, hb1⟩
  replace BX := Lib.hid (BX.out.keepB (hb1.mono le_WA) ltX.out)
  replace le_w := Nat.le_trans le_w hb1.size
  replace le_WA := Nat.le_trans le_WA hb1.size
  replace BEL0 := Lib.hid (belT BEL0.out hb1)
  clear hb1
  have o_WA_w1 : WA.heap.size ≤ w1.heap.size := le_WA
  have le_w1 : w1.heap.size ≤ w1.heap.size := Nat.le_refl _
  go_wp2_with fail
  refine (lookLines_spec R0 C0 S0 _).mono ?_
  rintro e w2 ⟨TV, cV, rfl, hb2, ho2⟩
  have V := Lib.hid ho2.lt
  replace BX := Lib.hid (BX.out.keepB (hb2.mono le_WA) ltX.out)
  replace le_w := Nat.le_trans le_w hb2.size
  replace le_WA := Nat.le_trans le_WA hb2.size
  replace le_w1 := Nat.le_trans le_w1 hb2.size
  replace BEL0 := Lib.hid (belT BEL0.out hb2)
  have o_w1_w2 : w1.heap.size ≤ w2.heap.size := le_w1
  have le_w2 : w2.heap.size ≤ w2.heap.size := Nat.le_refl _
  clear hb2 ho2
  have cX0 := BX.out.c0
  have cX1 := BX.out.c1
  have cX2 := BX.out.c2
  try go_wp2_with fail
  clear cX0 cX1 cX2
  refine (toField_c R0 C0 S0 _).mono ?_
  rintro e w3 ⟨rfl, hb3⟩
  replace BX := Lib.hid (BX.out.keepB (hb3.mono le_WA) ltX.out)
  replace V := Lib.hid (keepInts (hb3.mono le_w2) V.out)
  replace le_w := Nat.le_trans le_w hb3.size
  replace le_WA := Nat.le_trans le_WA hb3.size
  replace le_w1 := Nat.le_trans le_w1 hb3.size
  replace le_w2 := Nat.le_trans le_w2 hb3.size
  replace BEL0 := Lib.hid (belT BEL0.out hb3)
  clear hb3
  have o_w2_w3 : w2.heap.size ≤ w3.heap.size := le_w2
  have le_w3 : w3.heap.size ≤ w3.heap.size := Nat.le_refl _
  go_wp2_with fail
  refine (I.look R0 C0 S0 lr0 lc0 ls0 _).mono ?_
  rintro e w4 ⟨TG, cG, rfl, hb4, ho4⟩
  have G := Lib.hid ho4
  replace BX := Lib.hid (BX.out.keepB (hb4.mono le_WA) ltX.out)
  replace V := Lib.hid (keepInts (hb4.mono le_w2) V.out)
  replace le_w := Nat.le_trans le_w hb4.size
  replace le_WA := Nat.le_trans le_WA hb4.size
  replace le_w1 := Nat.le_trans le_w1 hb4.size
  replace le_w2 := Nat.le_trans le_w2 hb4.size
  replace le_w3 := Nat.le_trans le_w3 hb4.size
  replace BEL0 := Lib.hid (belT BEL0.out hb4)
  have o_w3_w4 : w3.heap.size ≤ w4.heap.size := le_w3
  have le_w4 : w4.heap.size ≤ w4.heap.size := Nat.le_refl _
  clear hb4 ho4
  go_wp2_with fail
  refine (eqIntS _ _ _ _ (lokL R0 C0 S0) _ _ HSL.out _ (G.out.lt.lt le_w4) (V.out.lt le_w2)).mono ?_
  rintro e w5 ⟨rfl, hq5⟩
  have hb5 : Below w4.heap.size w4 w5 := by obtain ⟨n, rfl⟩ := hq5; exact below_drewN (Below.refl _ _) n
  replace G := Lib.hid (G.out.below (hb5.mono le_w4))
  replace BX := Lib.hid (BX.out.keepB (hb5.mono le_WA) ltX.out)
  replace V := Lib.hid (keepInts (hb5.mono le_w2) V.out)
  replace le_w := Nat.le_trans le_w hb5.size
  replace le_WA := Nat.le_trans le_WA hb5.size
  replace le_w1 := Nat.le_trans le_w1 hb5.size
  replace le_w2 := Nat.le_trans le_w2 hb5.size
  replace le_w3 := Nat.le_trans le_w3 hb5.size
  replace le_w4 := Nat.le_trans le_w4 hb5.size
  replace BEL0 := Lib.hid (belT BEL0.out hb5)
  clear hq5 hb5
  have kpos : 0 ≤ 1 := by omega
  go_wp2_with fail
  refine (markIntS _ _ (lokL R0 C0 S0) _ _ 1 (by omega) (by omega) (by omega) _ G.out).mono ?_
  rintro e w6 ⟨rfl, ht6, ho6⟩
  have hf6 := ht6.off G.out
  clear ht6
  replace G := Lib.hid ho6
  have bx6 : Below WA.heap.size w5 w6 := hf6.below (by omega)
  replace BX := Lib.hid (BX.out.keepB bx6 ltX.out)
  clear bx6
  replace V := Lib.hid (keepInts (hf6.below (by omega)) V.out)
  have hz6 := hf6.size
  replace le_w : w.heap.size ≤ w6.heap.size := by omega
  replace le_WA : WA.heap.size ≤ w6.heap.size := by omega
  replace le_w1 : w1.heap.size ≤ w6.heap.size := by omega
  replace le_w2 : w2.heap.size ≤ w6.heap.size := by omega
  replace le_w3 : w3.heap.size ≤ w6.heap.size := by omega
  replace le_w4 : w4.heap.size ≤ w6.heap.size := by omega
  replace BEL0 := Lib.hid (BEL0.out.trans (hf6.below (by omega)))
  clear hf6 hz6 ho6
  have zz : ((1 + ((lokL R0 C0 S0).length : Int)) != (1 + ((lokL R0 C0 S0).length : Int))) = false := by simp
  go_wp2_with fail
  refine (heldIntS _ _ (lokL R0 C0 S0).length _ 1 (by omega) (by omega) (by omega) _ G.out.ints).mono ?_
  rintro e wz ⟨rfl, rfl⟩
  have cX0 := BX.out.c0
  have cX1 := BX.out.c1
  have cX2 := BX.out.c2
  try go_wp2_with fail
  clear cX0 cX1 cX2
  refine (toField_c R0 C0 S0 _).mono ?_
  rintro e w7 ⟨rfl, hb7⟩
  replace G := Lib.hid (G.out.below (hb7.mono le_w4))
  replace BX := Lib.hid (BX.out.keepB (hb7.mono le_WA) ltX.out)
  replace V := Lib.hid (keepInts (hb7.mono le_w2) V.out)
  replace le_w := Nat.le_trans le_w hb7.size
  replace le_WA := Nat.le_trans le_WA hb7.size
  replace le_w1 := Nat.le_trans le_w1 hb7.size
  replace le_w2 := Nat.le_trans le_w2 hb7.size
  replace le_w3 := Nat.le_trans le_w3 hb7.size
  replace le_w4 := Nat.le_trans le_w4 hb7.size
  replace BEL0 := Lib.hid (belT BEL0.out hb7)
  clear hb7
  have o_w4_w7 : w4.heap.size ≤ w7.heap.size := le_w4
  have le_w7 : w7.heap.size ≤ w7.heap.size := Nat.le_refl _
  go_wp2_with fail
  refine (I.look R0 C0 S0 lr0 lc0 ls0 _).mono ?_
  rintro e w8 ⟨TH, cH, rfl, hb8, ho8⟩
  have H := Lib.hid ho8
  replace G := Lib.hid (G.out.below (hb8.mono le_w4))
  replace BX := Lib.hid (BX.out.keepB (hb8.mono le_WA) ltX.out)
  replace V := Lib.hid (keepInts (hb8.mono le_w2) V.out)
  replace le_w := Nat.le_trans le_w hb8.size
  replace le_WA := Nat.le_trans le_WA hb8.size
  replace le_w1 := Nat.le_trans le_w1 hb8.size
  replace le_w2 := Nat.le_trans le_w2 hb8.size
  replace le_w3 := Nat.le_trans le_w3 hb8.size
  replace le_w4 := Nat.le_trans le_w4 hb8.size
  replace le_w7 := Nat.le_trans le_w7 hb8.size
  replace BEL0 := Lib.hid (belT BEL0.out hb8)
  have o_w7_w8 : w7.heap.size ≤ w8.heap.size := le_w7
  have le_w8 : w8.heap.size ≤ w8.heap.size := Nat.le_refl _
  clear hb8 ho8
  go_wp2_with fail
  refine (eqIntS _ _ _ _ (lokL R0 C0 S0) _ _ HSL.out _ (H.out.lt.lt le_w8) (V.out.lt le_w2)).mono ?_
  rintro e w9 ⟨rfl, hq9⟩
  have hb9 : Below w8.heap.size w8 w9 := by obtain ⟨n, rfl⟩ := hq9; exact below_drewN (Below.refl _ _) n
  replace G := Lib.hid (G.out.below (hb9.mono le_w4))
  replace H := Lib.hid (H.out.below (hb9.mono le_w8))
  replace BX := Lib.hid (BX.out.keepB (hb9.mono le_WA) ltX.out)
  replace V := Lib.hid (keepInts (hb9.mono le_w2) V.out)
  replace le_w := Nat.le_trans le_w hb9.size
  replace le_WA := Nat.le_trans le_WA hb9.size
  replace le_w1 := Nat.le_trans le_w1 hb9.size
  replace le_w2 := Nat.le_trans le_w2 hb9.size
  replace le_w3 := Nat.le_trans le_w3 hb9.size
  replace le_w4 := Nat.le_trans le_w4 hb9.size
  replace le_w7 := Nat.le_trans le_w7 hb9.size
  replace le_w8 := Nat.le_trans le_w8 hb9.size
  replace BEL0 := Lib.hid (belT BEL0.out hb9)
  clear hq9 hb9
  clear H
  clear V
  go_wp2_with fail
  refine (heldIntS _ _ (lokL R0 C0 S0).length _ 1 (by omega) (by omega) (by omega) _ G.out.ints).mono ?_
  rintro e wz ⟨rfl, rfl⟩
  go_wp2_with fail
  go_ret
  exact Adds.of rfl BEL0.out

end Go.Proofs.Ytcfmfpkmcngacaa

namespace Go.Proofs.Ytcfmfpkmcngacaa
set_option linter.unusedSimpArgs false
set_option linter.unusedVariables false
open Go.RowKit

set_option maxHeartbeats 4000000 in
set_option maxRecDepth 100000 in
theorem wFnExactFieldGame (I : Impl8) (R0 C0 S0 : Int) (lr0 : (Lit.int .i64 R0).wf = true) (lc0 : (Lit.int .i64 C0).wf = true) (ls0 : (Lit.int .i64 S0).wf = true) (w : World)  :
    Calls Try.prog 10 #[.agg #[.int .i64 R0, .int .i64 C0, .int .i64 S0]] w (Adds (.bool true) w) := by
  have le_w : w.heap.size ≤ w.heap.size := Nat.le_refl _
  have hsl := (fldG_len R0 C0 S0).1
  have hsu : sumN (fldG R0 C0 S0) (fldG R0 C0 S0).length ≤ 16 * (fldG R0 C0 S0).length := sumN_le _ 16 _ (fldG_len R0 C0 S0).2
  have HSL : Hid ((fldG R0 C0 S0).length ≤ maxLen) := by show _ ≤ _; unfold maxLen; omega
  obtain ⟨WA, hWA⟩ : ∃ WA : World, WA = w.alloc (.cells #[.int .i64 R0, .int .i64 C0, .int .i64 S0] 46) := ⟨_, rfl⟩
  have hbWA : Below w.heap.size w WA := by rw [hWA]; exact (Below.refl _ _).alloc (Nat.le_refl _) _
  have hltWA : w.heap.size < WA.heap.size := by rw [hWA]; simp
  have BX : Hid (Box3 WA w.heap.size R0 C0 S0) := by show Box3 _ _ _ _ _; rw [hWA]; exact ⟨by simp, by simp [go_sem], by simp [go_sem], by simp [go_sem]⟩
  have cX0 := BX.out.c0
  have cX1 := BX.out.c1
  have cX2 := BX.out.c2
  rw [hWA] at cX0 cX1 cX2
  have HWA := Lib.hid hWA
  clear hWA
  go_enter Try.func10, Try.ntmps10
  go_wp2_with fail
  rw [← HWA.out]
  clear cX0 cX1 cX2
  replace le_w := Nat.le_trans le_w hbWA.size
  have BEL0 := Lib.hid hbWA
  clear hbWA
  have o_w_WA : w.heap.size ≤ WA.heap.size := le_w
  have le_WA : WA.heap.size ≤ WA.heap.size := Nat.le_refl _
  have ltX := Lib.hid hltWA
  clear hltWA
  refine (toField_c R0 C0 S0 _).mono ?_
  rintro e w1 ⟨rfl, hb1⟩
  replace BX := Lib.hid (BX.out.keepB (hb1.mono le_WA) ltX.out)
  replace le_w := Nat.le_trans le_w hb1.size
  replace le_WA := Nat.le_trans le_WA hb1.size
  replace BEL0 := Lib.hid (belT BEL0.out hb1)
  clear hb1
  have o_WA_w1 : WA.heap.size ≤ w1.heap.size := le_WA
  have le_w1 : w1.heap.size ≤ w1.heap.size := Nat.le_refl _
  go_wp2_with fail
  refine (fldGame_spec R0 C0 S0 _).mono ?_
  rintro e w2 ⟨TV, cV, rfl, hb2, ho2⟩
  have V := Lib.hid ho2.lt
  replace BX := Lib.hid (BX.out.keepB (hb2.mono le_WA) ltX.out)
  replace le_w := Nat.le_trans le_w hb2.size
  replace le_WA := Nat.le_trans le_WA hb2.size
  replace le_w1 := Nat.le_trans le_w1 hb2.size
  replace BEL0 := Lib.hid (belT BEL0.out hb2)
  have o_w1_w2 : w1.heap.size ≤ w2.heap.size := le_w1
  have le_w2 : w2.heap.size ≤ w2.heap.size := Nat.le_refl _
  clear hb2 ho2
  have cX0 := BX.out.c0
  have cX1 := BX.out.c1
  have cX2 := BX.out.c2
  try go_wp2_with fail
  clear cX0 cX1 cX2
  refine (toField_c R0 C0 S0 _).mono ?_
  rintro e w3 ⟨rfl, hb3⟩
  replace BX := Lib.hid (BX.out.keepB (hb3.mono le_WA) ltX.out)
  replace V := Lib.hid (keepRows (hb3.mono le_w2) V.out)
  replace le_w := Nat.le_trans le_w hb3.size
  replace le_WA := Nat.le_trans le_WA hb3.size
  replace le_w1 := Nat.le_trans le_w1 hb3.size
  replace le_w2 := Nat.le_trans le_w2 hb3.size
  replace BEL0 := Lib.hid (belT BEL0.out hb3)
  clear hb3
  have o_w2_w3 : w2.heap.size ≤ w3.heap.size := le_w2
  have le_w3 : w3.heap.size ≤ w3.heap.size := Nat.le_refl _
  go_wp2_with fail
  refine (I.game R0 C0 S0 lr0 lc0 ls0 _).mono ?_
  rintro e w4 ⟨TG, cG, rfl, hb4, ho4⟩
  have G := Lib.hid ho4
  replace BX := Lib.hid (BX.out.keepB (hb4.mono le_WA) ltX.out)
  replace V := Lib.hid (keepRows (hb4.mono le_w2) V.out)
  replace le_w := Nat.le_trans le_w hb4.size
  replace le_WA := Nat.le_trans le_WA hb4.size
  replace le_w1 := Nat.le_trans le_w1 hb4.size
  replace le_w2 := Nat.le_trans le_w2 hb4.size
  replace le_w3 := Nat.le_trans le_w3 hb4.size
  replace BEL0 := Lib.hid (belT BEL0.out hb4)
  have o_w3_w4 : w3.heap.size ≤ w4.heap.size := le_w3
  have le_w4 : w4.heap.size ≤ w4.heap.size := Nat.le_refl _
  clear hb4 ho4
  go_wp2_with fail
  refine (eqIntSS _ _ _ _ (fldG R0 C0 S0) _ _ HSL.out _ (G.out.lt.lt le_w4) (V.out.lt le_w2)).mono ?_
  rintro e w5 ⟨rfl, hq5⟩
  have hb5 : Below w4.heap.size w4 w5 := by obtain ⟨n, rfl⟩ := hq5; exact below_drewN (Below.refl _ _) n
  replace G := Lib.hid (G.out.below (hb5.mono le_w4))
  replace BX := Lib.hid (BX.out.keepB (hb5.mono le_WA) ltX.out)
  replace V := Lib.hid (keepRows (hb5.mono le_w2) V.out)
  replace le_w := Nat.le_trans le_w hb5.size
  replace le_WA := Nat.le_trans le_WA hb5.size
  replace le_w1 := Nat.le_trans le_w1 hb5.size
  replace le_w2 := Nat.le_trans le_w2 hb5.size
  replace le_w3 := Nat.le_trans le_w3 hb5.size
  replace le_w4 := Nat.le_trans le_w4 hb5.size
  replace BEL0 := Lib.hid (belT BEL0.out hb5)
  clear hq5 hb5
  have kpos : 0 ≤ 1 := by omega
  go_wp2_with fail
  refine (markIntSS _ _ (fldG R0 C0 S0) _ _ 1 (by omega) (by omega) (by omega) (by omega) _ G.out).mono ?_
  rintro e w6 ⟨rfl, hf6, ho6⟩
  replace G := Lib.hid ho6
  have bx6 : Below WA.heap.size w5 w6 := hf6.below (by omega)
  replace BX := Lib.hid (BX.out.keepB bx6 ltX.out)
  clear bx6
  replace V := Lib.hid (keepRows (hf6.below (by omega)) V.out)
  have hz6 := hf6.size
  replace le_w : w.heap.size ≤ w6.heap.size := by omega
  replace le_WA : WA.heap.size ≤ w6.heap.size := by omega
  replace le_w1 : w1.heap.size ≤ w6.heap.size := by omega
  replace le_w2 : w2.heap.size ≤ w6.heap.size := by omega
  replace le_w3 : w3.heap.size ≤ w6.heap.size := by omega
  replace le_w4 : w4.heap.size ≤ w6.heap.size := by omega
  replace BEL0 := Lib.hid (BEL0.out.trans (hf6.below (by omega)))
  clear hf6 hz6 ho6
  have zz : ((1 + (sumN (fldG R0 C0 S0) (fldG R0 C0 S0).length : Int)) != (1 + (sumN (fldG R0 C0 S0) (fldG R0 C0 S0).length : Int))) = false := by simp
  go_wp2_with fail
  refine (heldIntSS _ _ (fldG R0 C0 S0) _ 1 (by omega) (by omega) (by omega) (by omega) _ G.out.rows2).mono ?_
  rintro e wz ⟨rfl, rfl⟩
  have cX0 := BX.out.c0
  have cX1 := BX.out.c1
  have cX2 := BX.out.c2
  try go_wp2_with fail
  clear cX0 cX1 cX2
  refine (toField_c R0 C0 S0 _).mono ?_
  rintro e w7 ⟨rfl, hb7⟩
  replace G := Lib.hid (G.out.below (hb7.mono le_w4))
  replace BX := Lib.hid (BX.out.keepB (hb7.mono le_WA) ltX.out)
  replace V := Lib.hid (keepRows (hb7.mono le_w2) V.out)
  replace le_w := Nat.le_trans le_w hb7.size
  replace le_WA := Nat.le_trans le_WA hb7.size
  replace le_w1 := Nat.le_trans le_w1 hb7.size
  replace le_w2 := Nat.le_trans le_w2 hb7.size
  replace le_w3 := Nat.le_trans le_w3 hb7.size
  replace le_w4 := Nat.le_trans le_w4 hb7.size
  replace BEL0 := Lib.hid (belT BEL0.out hb7)
  clear hb7
  have o_w4_w7 : w4.heap.size ≤ w7.heap.size := le_w4
  have le_w7 : w7.heap.size ≤ w7.heap.size := Nat.le_refl _
  go_wp2_with fail
  refine (I.game R0 C0 S0 lr0 lc0 ls0 _).mono ?_
  rintro e w8 ⟨TH, cH, rfl, hb8, ho8⟩
  have H := Lib.hid ho8
  replace G := Lib.hid (G.out.below (hb8.mono le_w4))
  replace BX := Lib.hid (BX.out.keepB (hb8.mono le_WA) ltX.out)
  replace V := Lib.hid (keepRows (hb8.mono le_w2) V.out)
  replace le_w := Nat.le_trans le_w hb8.size
  replace le_WA := Nat.le_trans le_WA hb8.size
  replace le_w1 := Nat.le_trans le_w1 hb8.size
  replace le_w2 := Nat.le_trans le_w2 hb8.size
  replace le_w3 := Nat.le_trans le_w3 hb8.size
  replace le_w4 := Nat.le_trans le_w4 hb8.size
  replace le_w7 := Nat.le_trans le_w7 hb8.size
  replace BEL0 := Lib.hid (belT BEL0.out hb8)
  have o_w7_w8 : w7.heap.size ≤ w8.heap.size := le_w7
  have le_w8 : w8.heap.size ≤ w8.heap.size := Nat.le_refl _
  clear hb8 ho8
  go_wp2_with fail
  refine (eqIntSS _ _ _ _ (fldG R0 C0 S0) _ _ HSL.out _ (H.out.lt.lt le_w8) (V.out.lt le_w2)).mono ?_
  rintro e w9 ⟨rfl, hq9⟩
  have hb9 : Below w8.heap.size w8 w9 := by obtain ⟨n, rfl⟩ := hq9; exact below_drewN (Below.refl _ _) n
  replace G := Lib.hid (G.out.below (hb9.mono le_w4))
  replace H := Lib.hid (H.out.below (hb9.mono le_w8))
  replace BX := Lib.hid (BX.out.keepB (hb9.mono le_WA) ltX.out)
  replace V := Lib.hid (keepRows (hb9.mono le_w2) V.out)
  replace le_w := Nat.le_trans le_w hb9.size
  replace le_WA := Nat.le_trans le_WA hb9.size
  replace le_w1 := Nat.le_trans le_w1 hb9.size
  replace le_w2 := Nat.le_trans le_w2 hb9.size
  replace le_w3 := Nat.le_trans le_w3 hb9.size
  replace le_w4 := Nat.le_trans le_w4 hb9.size
  replace le_w7 := Nat.le_trans le_w7 hb9.size
  replace le_w8 := Nat.le_trans le_w8 hb9.size
  replace BEL0 := Lib.hid (belT BEL0.out hb9)
  clear hq9 hb9
  clear H
  clear V
  go_wp2_with fail
  refine (heldIntSS _ _ (fldG R0 C0 S0) _ 1 (by omega) (by omega) (by omega) (by omega) _ G.out.rows2).mono ?_
  rintro e wz ⟨rfl, rfl⟩
  go_wp2_with fail
  go_ret
  exact Adds.of rfl BEL0.out

end Go.Proofs.Ytcfmfpkmcngacaa

namespace Go.Proofs.Ytcfmfpkmcngacaa
set_option linter.unusedSimpArgs false
set_option linter.unusedVariables false
open Go.RowKit

theorem lnsI_ints {w : World} {r c s lo : Nat} {A : Option Addr} (h : OwnI w lo w.heap.size A (lnsI r c s)) : Ints w (· < w.heap.size) A ((lnsL r c s).map fun (z : Nat) => (z : Int)) := h.ints.mono fun _ h => h.2

set_option maxHeartbeats 2000000 in
set_option maxRecDepth 100000 in
theorem fldGame_impl (R C S : Int) (w : World) :
    Calls Try.prog 20 #[.agg #[.int .i64 R, .int .i64 C, .int .i64 S]] w (NewTable w (fldG R C S)) := by
  obtain ⟨W, hW, hB, hbW, hz⟩ := fld_world w R C S
  have c0 := hB.c0
  have c1 := hB.c1
  have c2 := hB.c2
  have s0 := stays hB.lt hB.c0
  have s1 := stays hB.lt hB.c1
  have s2 := stays hB.lt hB.c2
  have HBW := Lib.hid hbW
  have HW := Lib.hid hW
  have HOK := Lib.hid (fun w' => fldOk_impl R C S w')
  clear hW hB hbW hz
  rcases hb : fldB R C S with _ | _
  · rw [(fld_no hb).2.1]
    rw [hb] at HOK
    clear hb
    go_enter Try.func20, Try.ntmps20
    go_wp2_with fail
    rw [← HW.out]
    go_wp2_with (go_at_call 16; refine (HOK.out _).mono ?_; rintro e w1 ⟨rfl, hb1⟩)
    go_ret
    exact ⟨none, 0, rfl, belT HBW.out hb1, fun h0 => absurd h0 (by simp)⟩
  · rw [hb] at HOK
    obtain ⟨r, c, s, rfl, rfl, rfl, hf⟩ := fld_nat hb
    rw [(fld_yes hf).2.1, ← fld_sets hf]
    have HL := Lib.hid (fun w' => linesOfI hf w')
    have HI := Lib.hid (fun w' => linesInI r c (s : Nat) hf.rhi hf.chi w')
    have hlen : (lnsI r c s).length = (lnsL r c s).length := by rw [lnsI_length, lnsL_length]
    have HG : Hid (∀ (A : Option Addr) (cc : Nat) (w' : World), Ints w' (· < w'.heap.size) A ((lnsL r c s).map fun (z : Nat) => (z : Int)) → Calls Try.prog 56 #[.slice A (lnsI r c s).length cc, .int .i64 ((r + c : Nat) : Int)] w' (NewTable w' (setsG (lnsL r c s) (r + c)))) := fun A cc w' h' => by
      rw [hlen]
      exact gameOfSetsI A cc (lnsL r c s) (r + c) (lns_small hf) (by rw [lnsL_length]; exact hf.many.1) (by rw [lnsL_length]; exact hf.many.2) (by have := hf.rlo; omega) (by have := hf.rhi; have := hf.chi; omega) w' h'
    clear hb hf hlen
    go_enter Try.func20, Try.ntmps20
    go_wp2_with fail
    rw [← HW.out]
    go_wp2_with (first | (go_at_call 16; refine (HOK.out _).mono ?_; rintro e w1 ⟨rfl, hb1⟩))
    have t0 : ∀ w', Below w1.heap.size w1 w' → w'.cell? ⟨w.heap.size, 0, none⟩ = some (.int .i64 (r : Nat)) := fun w' h => s0 w' (belT hb1 h)
    have t1 : ∀ w', Below w1.heap.size w1 w' → w'.cell? ⟨w.heap.size, 1, none⟩ = some (.int .i64 (c : Nat)) := fun w' h => s1 w' (belT hb1 h)
    have t2 : ∀ w', Below w1.heap.size w1 w' → w'.cell? ⟨w.heap.size, 2, none⟩ = some (.int .i64 (s : Nat)) := fun w' h => s2 w' (belT hb1 h)
    have HB1 := Lib.hid (belT HBW.out hb1)
    clear hb1 s0 s1 s2 c0 c1 c2
    go_region_held3 (fun w' => Below w1.heap.size w1 w')
      (first | exact Below.refl _ _ | exact Below.drew (Below.refl _ _) | (refine Below.drew ?_; assumption) | exact belT (by assumption) (by assumption) | assumption)
      (first | (go_at_call 57; refine (HL.out _).mono ?_; rintro e w2 ⟨A, cc, rfl, hb2, ho2⟩) | (go_at_call 58; refine (HI.out _).mono ?_; rintro e w3 ⟨rfl, hb3⟩) | (go_at_call 56; refine (HG.out A cc _ ((keepInts hb3 (lnsI_ints ho2)).lt hb3.size)).mono ?_; rintro e w4 ⟨T, ct, rfl, hb4, ho4⟩))
    go_wp2_with fail
    go_ret
    have h4 : Below w1.heap.size w1 w4 := by assumption
    have e2 : w1.heap.size ≤ w2.heap.size := hb2.size
    exact ⟨T, ct, rfl, belT HB1.out h4, ho4.more (by have := HB1.out.size; have := hb3.size; omega) (Nat.le_refl _)⟩

set_option maxHeartbeats 2000000 in
set_option maxRecDepth 100000 in
theorem mostApart_impl (R C S : Int) (w : World) :
    Calls Try.prog 25 #[.agg #[.int .i64 R, .int .i64 C, .int .i64 S]] w (Adds (.int .i64 (mosV R C S)) w) := by
  obtain ⟨W, hW, hB, hbW, hz⟩ := fld_world w R C S
  have c0 := hB.c0
  have c1 := hB.c1
  have c2 := hB.c2
  have s0 := stays hB.lt hB.c0
  have s1 := stays hB.lt hB.c1
  have s2 := stays hB.lt hB.c2
  have HBW := Lib.hid hbW
  have HW := Lib.hid hW
  have HOK := Lib.hid (fun w' => fldOk_impl R C S w')
  clear hW hB hbW hz
  rcases hb : fldB R C S with _ | _
  · rw [(fld_no hb).1]
    rw [hb] at HOK
    clear hb
    go_enter Try.func25, Try.ntmps25
    go_wp2_with fail
    rw [← HW.out]
    go_wp2_with (go_at_call 16; refine (HOK.out _).mono ?_; rintro e w1 ⟨rfl, hb1⟩)
    go_ret
    exact Adds.of rfl (belT HBW.out hb1)
  · rw [hb] at HOK
    obtain ⟨r, c, s, rfl, rfl, rfl, hf⟩ := fld_nat hb
    rw [(fld_yes hf).1, ← (fld_fa hf).1]
    have HL := Lib.hid (fun w' => linesOfI hf w')
    have hlen : (lnsI r c s).length = (lnsL r c s).length := by rw [lnsI_length, lnsL_length]
    have hll := lnsL_length r c s
    have hmany := hf.many
    have HFA : Hid (∀ (A : Option Addr) (cc : Nat) (w' : World), Ints w' (· < w'.heap.size) A ((lnsL r c s).map fun (z : Nat) => (z : Int)) → Calls Try.prog 67 #[.slice A (lnsI r c s).length cc, .int .i64 0, .int .i64 0] w' (Adds (.int .i64 (faN (lnsL r c s) 0 0 : Nat)) w')) := fun A cc w' h' => by
      rw [hlen]
      exact firstApartI A cc (lnsL r c s) (lns_small hf) (by omega) (lnsL r c s).length 0 0 (by omega) (by omega) w' h'
    have hfa : faN (lnsL r c s) 0 0 < 65536 := faN_lt (lnsL r c s) 0 0 (by omega) (Nat.zero_le _)
    have HSZ : Hid (∀ w', Calls Try.prog 66 #[.int .i64 (faN (lnsL r c s) 0 0 : Nat)] w' (Same (.int .i64 (popN (faN (lnsL r c s) 0 0) : Nat)) w')) := fun w' => sizeOfW _ hfa w'
    clear hfa
    clear hb hf hlen hll hmany
    go_enter Try.func25, Try.ntmps25
    go_wp2_with fail
    rw [← HW.out]
    go_wp2_with (first | (go_at_call 16; refine (HOK.out _).mono ?_; rintro e w1 ⟨rfl, hb1⟩))
    have t0 : ∀ w', Below w1.heap.size w1 w' → w'.cell? ⟨w.heap.size, 0, none⟩ = some (.int .i64 (r : Nat)) := fun w' h => s0 w' (belT hb1 h)
    have t1 : ∀ w', Below w1.heap.size w1 w' → w'.cell? ⟨w.heap.size, 1, none⟩ = some (.int .i64 (c : Nat)) := fun w' h => s1 w' (belT hb1 h)
    have t2 : ∀ w', Below w1.heap.size w1 w' → w'.cell? ⟨w.heap.size, 2, none⟩ = some (.int .i64 (s : Nat)) := fun w' h => s2 w' (belT hb1 h)
    have HB1 := Lib.hid (belT HBW.out hb1)
    have u0 := t0 w1 (Below.refl _ _)
    have u1 := t1 w1 (Below.refl _ _)
    have u2 := t2 w1 (Below.refl _ _)
    clear hb1 s0 s1 s2 c0 c1 c2
    go_wp2_with (first | (go_at_call 57; refine (HL.out _).mono ?_; rintro e w2 ⟨A, cc, rfl, hb2, ho2⟩) | (go_at_call 67; refine (HFA.out A cc _ (lnsI_ints ho2)).mono ?_; rintro e w3 ⟨rfl, hb3⟩) | (go_at_call 66; refine (HSZ.out _).mono ?_; rintro e w4 ⟨rfl, rfl⟩))
    go_ret
    exact Adds.of rfl (belT HB1.out (belT hb2 hb3))

set_option maxHeartbeats 2000000 in
set_option maxRecDepth 100000 in
theorem hideCells_impl (R C S : Int) (w : World) :
    Calls Try.prog 29 #[.agg #[.int .i64 R, .int .i64 C, .int .i64 S]] w (NewList w (hidL R C S)) := by
  obtain ⟨W, hW, hB, hbW, hz⟩ := fld_world w R C S
  have c0 := hB.c0
  have c1 := hB.c1
  have c2 := hB.c2
  have s0 := stays hB.lt hB.c0
  have s1 := stays hB.lt hB.c1
  have s2 := stays hB.lt hB.c2
  have HBW := Lib.hid hbW
  have HW := Lib.hid hW
  have HOK := Lib.hid (fun w' => fldOk_impl R C S w')
  clear hW hB hbW hz
  rcases hb : fldB R C S with _ | _
  · rw [(fld_no hb).2.2.1]
    rw [hb] at HOK
    clear hb
    go_enter Try.func29, Try.ntmps29
    go_wp2_with fail
    rw [← HW.out]
    go_wp2_with (go_at_call 16; refine (HOK.out _).mono ?_; rintro e w1 ⟨rfl, hb1⟩)
    go_ret
    exact ⟨none, 0, rfl, belT HBW.out hb1, fun h0 => absurd h0 (by simp)⟩
  · rw [hb] at HOK
    obtain ⟨r, c, s, rfl, rfl, rfl, hf⟩ := fld_nat hb
    rw [(fld_yes hf).2.2.1, ← hid_mrk hf]
    have HL := Lib.hid (fun w' => linesOfI hf w')
    have hlen : (lnsI r c s).length = (lnsL r c s).length := by rw [lnsI_length, lnsL_length]
    have hll := lnsL_length r c s
    have hmany := hf.many
    have HFA : Hid (∀ (A : Option Addr) (cc : Nat) (w' : World), Ints w' (· < w'.heap.size) A ((lnsL r c s).map fun (z : Nat) => (z : Int)) → Calls Try.prog 67 #[.slice A (lnsI r c s).length cc, .int .i64 0, .int .i64 0] w' (Adds (.int .i64 (faN (lnsL r c s) 0 0 : Nat)) w')) := fun A cc w' h' => by
      rw [hlen]
      exact firstApartI A cc (lnsL r c s) (lns_small hf) (by omega) (lnsL r c s).length 0 0 (by omega) (by omega) w' h'
    have hfa : faN (lnsL r c s) 0 0 < 65536 := faN_lt (lnsL r c s) 0 0 (by omega) (Nat.zero_le _)
    have HMK : Hid (∀ w', Calls Try.prog 69 #[.int .i64 (faN (lnsL r c s) 0 0 : Nat), .int .i64 ((lnsI r c s).length : Nat)] w' (NewList w' (mrkL (faN (lnsL r c s) 0 0) (cellsL r c s).length))) := fun w' => by
      rw [hlen, hll]; exact marksOfI _ _ hfa hmany.2 w'
    clear hfa
    clear hb hf hlen hll hmany
    go_enter Try.func29, Try.ntmps29
    go_wp2_with fail
    rw [← HW.out]
    go_wp2_with (first | (go_at_call 16; refine (HOK.out _).mono ?_; rintro e w1 ⟨rfl, hb1⟩))
    have t0 : ∀ w', Below w1.heap.size w1 w' → w'.cell? ⟨w.heap.size, 0, none⟩ = some (.int .i64 (r : Nat)) := fun w' h => s0 w' (belT hb1 h)
    have t1 : ∀ w', Below w1.heap.size w1 w' → w'.cell? ⟨w.heap.size, 1, none⟩ = some (.int .i64 (c : Nat)) := fun w' h => s1 w' (belT hb1 h)
    have t2 : ∀ w', Below w1.heap.size w1 w' → w'.cell? ⟨w.heap.size, 2, none⟩ = some (.int .i64 (s : Nat)) := fun w' h => s2 w' (belT hb1 h)
    have HB1 := Lib.hid (belT HBW.out hb1)
    have u0 := t0 w1 (Below.refl _ _)
    have u1 := t1 w1 (Below.refl _ _)
    have u2 := t2 w1 (Below.refl _ _)
    clear hb1 s0 s1 s2 c0 c1 c2
    go_wp2_with (first | (go_at_call 57; refine (HL.out _).mono ?_; rintro e w2 ⟨A, cc, rfl, hb2, ho2⟩) | (go_at_call 67; refine (HFA.out A cc _ (lnsI_ints ho2)).mono ?_; rintro e w3 ⟨rfl, hb3⟩) | (go_at_call 69; refine (HMK.out _).mono ?_; rintro e w4 ⟨B, cb, rfl, hb4, ho4⟩))
    go_ret
    exact ⟨B, cb, rfl, belT HB1.out (belT (belT hb2 hb3) hb4), ho4.more (by have := HB1.out.size; have := hb2.size; have := hb3.size; omega) (Nat.le_refl _)⟩

set_option maxHeartbeats 2000000 in
set_option maxRecDepth 100000 in
theorem lookLines_impl (R C S : Int) (w : World) :
    Calls Try.prog 28 #[.agg #[.int .i64 R, .int .i64 C, .int .i64 S]] w (NewList w (lokL R C S)) := by
  obtain ⟨W, hW, hB, hbW, hz⟩ := fld_world w R C S
  have c0 := hB.c0
  have c1 := hB.c1
  have c2 := hB.c2
  have s0 := stays hB.lt hB.c0
  have s1 := stays hB.lt hB.c1
  have s2 := stays hB.lt hB.c2
  have HBW := Lib.hid hbW
  have HW := Lib.hid hW
  have HOK := Lib.hid (fun w' => fldOk_impl R C S w')
  clear hW hB hbW hz
  rcases hb : fldB R C S with _ | _
  · rw [(fld_no hb).2.2.2.1]
    rw [hb] at HOK
    clear hb
    go_enter Try.func28, Try.ntmps28
    go_wp2_with fail
    rw [← HW.out]
    go_wp2_with (go_at_call 16; refine (HOK.out _).mono ?_; rintro e w1 ⟨rfl, hb1⟩)
    go_ret
    exact ⟨none, 0, rfl, belT HBW.out hb1, fun h0 => absurd h0 (by simp)⟩
  · rw [hb] at HOK
    obtain ⟨r, c, s, rfl, rfl, rfl, hf⟩ := fld_nat hb
    rw [(fld_yes hf).2.2.2.1, ← lok_mrk]
    have HL := Lib.hid (fun w' => linesOfI hf w')
    have hlen : (lnsI r c s).length = (lnsL r c s).length := by rw [lnsI_length, lnsL_length]
    have hll := lnsL_length r c s
    have hmany := hf.many
    have HI := Lib.hid (fun w' => linesInI r c (s : Nat) hf.rhi hf.chi w')
    have HFM : Hid (∀ (A : Option Addr) (cc : Nat) (w' : World), Ints w' (· < w'.heap.size) A ((lnsL r c s).map fun (z : Nat) => (z : Int)) → Calls Try.prog 70 #[.slice A (lnsI r c s).length cc, .int .i64 ((r + c : Nat) : Int)] w' (Adds (.int .i64 (bstL r c s : Nat)) w')) := fun A cc w' h' => by
      rw [hlen]
      exact fewestMeetingI A cc (lnsL r c s) (r + c) (bstL r c s) (lns_small hf) (by omega) (by have := hf.rhi; have := hf.chi; omega) (fld_few hf) w' h'
    have HMK : Hid (∀ w', Calls Try.prog 69 #[.int .i64 (bstL r c s : Nat), .int .i64 ((r + c : Nat) : Int)] w' (NewList w' (mrkL (bstL r c s) (r + c)))) := fun w' => by
      refine marksOfI _ _ ?_ (by have := hf.rhi; have := hf.chi; omega) w'
      have h1 := (bstL_is hf).2.2
      have h2 : 2 ^ (r + c) ≤ 256 := two_le8 (by have := hf.rhi; have := hf.chi; omega)
      omega
    clear hb hf hlen hll hmany
    go_enter Try.func28, Try.ntmps28
    go_wp2_with fail
    rw [← HW.out]
    go_wp2_with (first | (go_at_call 16; refine (HOK.out _).mono ?_; rintro e w1 ⟨rfl, hb1⟩))
    have t0 : ∀ w', Below w1.heap.size w1 w' → w'.cell? ⟨w.heap.size, 0, none⟩ = some (.int .i64 (r : Nat)) := fun w' h => s0 w' (belT hb1 h)
    have t1 : ∀ w', Below w1.heap.size w1 w' → w'.cell? ⟨w.heap.size, 1, none⟩ = some (.int .i64 (c : Nat)) := fun w' h => s1 w' (belT hb1 h)
    have t2 : ∀ w', Below w1.heap.size w1 w' → w'.cell? ⟨w.heap.size, 2, none⟩ = some (.int .i64 (s : Nat)) := fun w' h => s2 w' (belT hb1 h)
    have HB1 := Lib.hid (belT HBW.out hb1)
    have u0 := t0 w1 (Below.refl _ _)
    have u1 := t1 w1 (Below.refl _ _)
    have u2 := t2 w1 (Below.refl _ _)
    clear hb1 s0 s1 s2 c0 c1 c2
    go_region_held3 (fun w' => Below w1.heap.size w1 w')
      (first | exact Below.refl _ _ | exact Below.drew (Below.refl _ _) | (refine Below.drew ?_; assumption) | exact belT (by assumption) (by assumption) | assumption)
      (first | (go_at_call 57; refine (HL.out _).mono ?_; rintro e w2 ⟨A, cc, rfl, hb2, ho2⟩) | (go_at_call 70; refine (HFM.out A cc _ ((keepInts hb3 (lnsI_ints ho2)).lt hb3.size)).mono ?_; rintro e w4 ⟨rfl, hb4⟩) | (go_at_call 58; refine (HI.out _).mono ?_; rintro e w3 ⟨rfl, hb3⟩; have hs3 := hb3.size) | (go_at_call 69; refine (HMK.out _).mono ?_; rintro e w6 ⟨B, cb, rfl, hb6, ho6⟩))
    have h6 : Below w1.heap.size w1 w6 := by assumption
    have e2 : w1.heap.size ≤ w2.heap.size := hb2.size
    have e4 := hb4.size
    go_wp2_with fail
    go_ret
    exact ⟨B, cb, rfl, belT HB1.out h6, ho6.more (by have := HB1.out.size; omega) (Nat.le_refl _)⟩

set_option maxHeartbeats 2000000 in
set_option maxRecDepth 100000 in
theorem fieldWorth_impl (R C S : Int) (w : World) :
    Calls Try.prog 39 #[.agg #[.int .i64 R, .int .i64 C, .int .i64 S]] w (Adds (FracRes (fwU R C S) (fwD R C S) (fldB R C S)) w) := by
  obtain ⟨W0, hW0, hB0, hbW0, hz0⟩ := fld_world w R C S
  obtain ⟨W, hW⟩ : ∃ W : World, W = W0.alloc (.cells #[.int .i64 0, .int .i64 0] 40) := ⟨_, rfl⟩
  have hbW1 : Below W0.heap.size W0 W := by rw [hW]; exact (Below.refl _ _).alloc (Nat.le_refl _) _
  have hB := hB0.still hbW1
  have hbW := belT hbW0 hbW1
  have hzW : W.heap.size = w.heap.size + 1 + 1 := by rw [hW]; simp [hz0]
  have hc0 : W.cell? ⟨w.heap.size + 1, 0, none⟩ = some (.int .i64 0) := by rw [hW, ← hz0]; simp [go_sem]
  have hc1 : W.cell? ⟨w.heap.size + 1, 1, none⟩ = some (.int .i64 0) := by rw [hW, ← hz0]; simp [go_sem]
  have hf0 : W.frozen? ⟨w.heap.size + 1, 0, none⟩ = false := by rw [hW, ← hz0]; simp [go_sem]
  have hf1 : W.frozen? ⟨w.heap.size + 1, 1, none⟩ = false := by rw [hW, ← hz0]; simp [go_sem]
  have r00 := stays (p := w.heap.size + 1) (o := 0) (by omega) hc0
  have r01 := stays (p := w.heap.size + 1) (o := 1) (by omega) hc1
  have g00 := staysF (p := w.heap.size + 1) (o := 0) (by omega) hf0
  have g01 := staysF (p := w.heap.size + 1) (o := 1) (by omega) hf1
  have c0 := hB.c0
  have c1 := hB.c1
  have c2 := hB.c2
  have s0 := stays hB.lt hB.c0
  have s1 := stays hB.lt hB.c1
  have s2 := stays hB.lt hB.c2
  have HBW := Lib.hid hbW
  have HzW := Lib.hid hzW
  rw [hW0] at hW
  have HW := Lib.hid hW
  have HOK := Lib.hid (fun w' => fldOk_impl R C S w')
  clear hW hW0 hB hB0 hbW hbW0 hbW1 hz0 hzW hc0 hc1 hf0 hf1
  rcases hb : fldB R C S with _ | _
  · rw [(fld_no hb).2.2.2.2.1, (fld_no hb).2.2.2.2.2]
    rw [hb] at HOK
    clear hb
    go_enter Try.func39, Try.ntmps39
    go_wp2_with fail
    rw [← HW.out]
    go_wp2_with (go_at_call 16; refine (HOK.out _).mono ?_; rintro e w1 ⟨rfl, hb1⟩; have e00 := r00 _ hb1; have e01 := r01 _ hb1; have f00 := g00 _ hb1; have f01 := g01 _ hb1)
    have hlt : w.heap.size + 1 < w1.heap.size := by have := hb1.size; have := HzW.out; omega
    refine bodyPost_ret (v := FracRes 0 0 false) (by simp [results, Try.results39, go_sem, FracRes, e00, e01, hlt, Nat.ne_of_lt hlt, Nat.ne_of_gt hlt]) rfl ⟨rfl, ?_⟩
    exact ((belT HBW.out hb1).setCell (by show w.heap.size ≤ w.heap.size + 1; omega) _).setCell (by show w.heap.size ≤ w.heap.size + 1; omega) _
  · rw [hb] at HOK
    obtain ⟨r, c, s, rfl, rfl, rfl, hf⟩ := fld_nat hb
    rw [(fld_yes hf).2.2.2.2.1, (fld_yes hf).2.2.2.2.2]
    have HMO : Hid (∀ w', Calls Try.prog 25 #[.agg #[.int .i64 (r : Nat), .int .i64 (c : Nat), .int .i64 (s : Nat)]] w' (Adds (.int .i64 (mst r c s r 0 : Nat)) w')) := fun w' => by
      have := mostApart_impl r c s w'; rwa [(fld_yes hf).1] at this
    have hp := mst_pos hf
    have hh := mst_le r c s r 0
    have h4 := hf.rhi
    have hofB : ofB 1 (mst r c s r 0 : Nat) = true := ofB_iff.2 ⟨by omega, by omega, by omega, by omega, by omega⟩
    obtain ⟨l1, l2⟩ := low_unit (n := (mst r c s r 0 : Nat)) (by omega)
    have HOF : Hid (∀ w', Calls Try.prog 81 #[.int .i64 1, .int .i64 (mst r c s r 0 : Nat)] w' (Adds (FracRes 1 (mst r c s r 0 : Nat) true) w')) := fun w' => by
      have := of_impl 1 (mst r c s r 0 : Nat) w'
      rw [show ofU 1 (mst r c s r 0 : Nat) = 1 by unfold ofU; rw [if_pos hofB, l1], show ofD 1 (mst r c s r 0 : Nat) = (mst r c s r 0 : Nat) by unfold ofD; rw [if_pos hofB, l2], hofB] at this
      exact this
    clear hp hh h4 hofB l1 l2 hb hf
    go_enter Try.func39, Try.ntmps39
    go_wp2_with fail
    rw [← HW.out]
    go_wp2_with (first | (go_at_call 16; refine (HOK.out _).mono ?_; rintro e w1 ⟨rfl, hb1⟩; have u0 := s0 _ hb1; have u1 := s1 _ hb1; have u2 := s2 _ hb1) | (go_at_call 25; refine (HMO.out _).mono ?_; rintro e w2 ⟨rfl, hb2⟩) | (go_at_call 81; refine (HOF.out _).mono ?_; rintro e w3 ⟨rfl, hb3⟩; unfold FracRes; have hb13 := belT (belT hb1 hb2) hb3; have e00 := r00 _ hb13; have e01 := r01 _ hb13; have f00 := g00 _ hb13; have f01 := g01 _ hb13))
    have hlt : w.heap.size + 1 < w3.heap.size := by have := hb13.size; have := HzW.out; omega
    refine bodyPost_ret (v := FracRes 1 (mst r c s r 0 : Nat) true) (by simp [results, Try.results39, go_sem, FracRes, e00, e01, hlt, Nat.ne_of_lt hlt, Nat.ne_of_gt hlt]) rfl ⟨rfl, ?_⟩
    exact ((belT HBW.out hb13).setCell (by show w.heap.size ≤ w.heap.size + 1; omega) _).setCell (by show w.heap.size ≤ w.heap.size + 1; omega) _

theorem impl8 : Impl8 where
  ok R C S _ _ _ w := fldOk_impl R C S w
  game R C S _ _ _ w := fldGame_impl R C S w
  most R C S _ _ _ w := mostApart_impl R C S w
  hide R C S _ _ _ w := hideCells_impl R C S w
  look R C S _ _ _ w := lookLines_impl R C S w
  worth R C S _ _ _ w := fieldWorth_impl R C S w

end Go.Proofs.Ytcfmfpkmcngacaa
