/- Texts in one: ExactU, SolX, CntX, ExactIa, ExactIb. -/
import Derived.Test.YtakkdpjgdmngkaaMG
import Derived.Test.YtakkdpjgdmngkaaPB
namespace Go.Proofs.Ytakkdpjgdmngkaa
set_option linter.unusedSimpArgs false
set_option linter.unusedVariables false
open Go.RowKit

theorem OwnI.touch {w w' : World} {lo hi n : Nat} {A B : Option Addr} {m : List Int} (h : OwnI w lo hi B m) (ht : Touch n A w w') (hd : 0 < n → 0 < m.length → A.map (·.block) ≠ B.map (·.block)) : OwnI w' lo hi B m := by
  intro h0
  obtain ⟨b, N, f, e, h1, h2, h3, h4, h5⟩ := h h0
  exact ⟨b, N, f, e, h1, h2, h3.of_block (ht.block b (fun hn ea => hd hn h0 (by rw [ea, e]))), h4, h5⟩

end Go.Proofs.Ytakkdpjgdmngkaa

namespace Go.Proofs.Ytakkdpjgdmngkaa
set_option linter.unusedSimpArgs false
set_option linter.unusedVariables false
open Go.RowKit

/-- blocks are added, and nothing that was there has turned but, perhaps, the blocks of lo .. hi - 1 -/
structure OffB (lo hi : Nat) (w w' : World) : Prop where
  os : w'.os = w.os
  tape : w'.tape = w.tape
  output : w'.output = w.output
  size : w.heap.size ≤ w'.heap.size
  block : ∀ b, b < w.heap.size → ¬ (lo ≤ b ∧ b < hi) → w'.heap[b]? = w.heap[b]?

theorem OffB.below {lo hi B : Nat} {w w' : World} (h : OffB lo hi w w') (hB : B ≤ lo) (hw : lo ≤ w.heap.size) : Below B w w' := ⟨h.os, h.tape, h.output, h.size, fun k hk => h.block k (by omega) (by omega)⟩

theorem OwnI.offB {w w' : World} {lo hi lo' hi' : Nat} {A : Option Addr} {l : List Int} (h : OwnI w lo' hi' A l) (hf : OffB lo hi w w') (ho : hi' ≤ lo ∨ hi ≤ lo') (hw : hi' ≤ w.heap.size) : OwnI w' lo' hi' A l :=
  h.keep fun b h1 h2 => hf.block b (by omega) (by omega)

end Go.Proofs.Ytakkdpjgdmngkaa

namespace Go.Proofs.Ytakkdpjgdmngkaa
set_option linter.unusedSimpArgs false
set_option linter.unusedVariables false
open Go.RowKit

set_option maxHeartbeats 2000000 in
theorem eqCounts_same (A B A' B' : Option Addr) (c k c' k' : Nat) (x y : List Int) (hx : x.length ≤ maxLen) (hy : y.length ≤ maxLen) (w : World) (h1 : Ints w (· < w.heap.size) A x) (h2 : Ints w (· < w.heap.size) B y) (h3 : Ints w (· < w.heap.size) A' x) (h4 : Ints w (· < w.heap.size) B' y) :
    Calls Try.prog 29 #[.agg #[.slice A x.length c, .slice B y.length k], .agg #[.slice A' x.length c', .slice B' y.length k']] w (Adds (.bool true) w) := by
  have H1 := Lib.hid h1
  have H2 := Lib.hid h2
  have H3 := Lib.hid h3
  have H4 := Lib.hid h4
  clear h1 h2 h3 h4
  go_enter Try.func29, Try.ntmps29
  go_wp2_with fail
  obtain ⟨W, hW⟩ : ∃ W : World, W = ((w.alloc (.cells #[(Value.slice A x.length c), (Value.slice B y.length k)] 28)).alloc (.cells #[(Value.slice A' x.length c'), (Value.slice B' y.length k')] 28)) := ⟨_, rfl⟩
  have hzW : W.heap.size = w.heap.size + 2 := by rw [hW]; simp
  have hbW : Below w.heap.size w W := by rw [hW]; exact (by repeat (first | exact Below.refl _ _ | assumption | exact bel1 (by assumption) | exact bel2 (by assumption) | exact bel3 (by assumption) | exact bel4 (by assumption) | refine Below.drew ?_ | refine below_drewN ?_ _ | refine Below.setCell ?_ (by first | (simp; done) | (simp; omega)) _ | refine Below.alloc ?_ (by first | (simp; done) | (simp; omega)) _))
  have r00 := stays (p := w.heap.size) (o := 0) (by omega) (show W.cell? ⟨w.heap.size, 0, none⟩ = some ((Value.slice A x.length c)) from by rw [hW]; simp [go_sem])
  have r01 := stays (p := w.heap.size) (o := 1) (by omega) (show W.cell? ⟨w.heap.size, 1, none⟩ = some ((Value.slice B y.length k)) from by rw [hW]; simp [go_sem])
  have r10 := stays (p := w.heap.size + 1) (o := 0) (by omega) (show W.cell? ⟨w.heap.size + 1, 0, none⟩ = some ((Value.slice A' x.length c')) from by rw [hW]; simp [go_sem])
  have r11 := stays (p := w.heap.size + 1) (o := 1) (by omega) (show W.cell? ⟨w.heap.size + 1, 1, none⟩ = some ((Value.slice B' y.length k')) from by rw [hW]; simp [go_sem])
  rw [← hW]
  clear hW
  have HzW := Lib.hid hzW
  clear hzW
  have HBW := Lib.hid hbW
  have hkk := Below.refl W.heap.size W
  have q00 := r00 _ hkk
  have q01 := r01 _ hkk
  have q10 := r10 _ hkk
  have q11 := r11 _ hkk
  clear r00 r10 hkk
  go_wp2_with fail
  refine (eqIntS _ _ _ _ x _ _ hx _ (keepInts HBW.out H1.out) (keepInts HBW.out H3.out)).mono ?_
  rintro e w2 ⟨rfl, n, rfl⟩
  have hk2 : Below W.heap.size W (W.drewN n) := below_drewN (Below.refl _ _) n
  have HB2 : Hid (Below w.heap.size w (W.drewN n)) := below_drewN HBW.out n
  go_wp2_with fail
  refine (eqIntS _ _ _ _ y _ _ hy _ (keepInts HB2.out H2.out) (keepInts HB2.out H4.out)).mono ?_
  rintro e w3 ⟨rfl, n2, rfl⟩
  go_wp2_with fail
  go_ret
  exact Adds.of rfl (below_drewN HBW.out _)

set_option maxHeartbeats 2000000 in
theorem markCounts_c (A B : Option Addr) (c k : Nat) (x y : List Int) (lo hi : Nat) (m : Int) (hx : x.length ≤ 16) (hy : y.length ≤ 16) (h0 : 0 ≤ m) (h1 : m ≤ 1000) (w : World) (hlo : lo ≤ hi) (hhi : hi ≤ w.heap.size) (h : OwnI w lo hi A x) (h' : OwnI w lo hi B y)
    (hd : 0 < x.length → 0 < y.length → A.map (·.block) ≠ B.map (·.block)) :
    Calls Try.prog 32 #[.agg #[.slice A x.length c, .slice B y.length k], .int .i64 m] w fun e w' => e = .returned (.int .i64 (m + (x.length : Int) + (y.length : Int))) ∧ OffB lo hi w w' ∧ OwnI w' lo hi A (seqN m x.length) ∧ OwnI w' lo hi B (seqN (m + (x.length : Int)) y.length) := by
  have H1 := Lib.hid h
  have H2 := Lib.hid h'
  have HD := Lib.hid hd
  clear h h' hd
  go_enter Try.func32, Try.ntmps32
  go_wp2_with fail
  obtain ⟨W, hW⟩ : ∃ W : World, W = (w.alloc (.cells #[(Value.slice A x.length c), (Value.slice B y.length k)] 28)) := ⟨_, rfl⟩
  have hzW : W.heap.size = w.heap.size + 1 := by rw [hW]; simp
  have hbW : Below w.heap.size w W := by rw [hW]; exact (by repeat (first | exact Below.refl _ _ | assumption | exact bel1 (by assumption) | exact bel2 (by assumption) | exact bel3 (by assumption) | exact bel4 (by assumption) | refine Below.drew ?_ | refine below_drewN ?_ _ | refine Below.setCell ?_ (by first | (simp; done) | (simp; omega)) _ | refine Below.alloc ?_ (by first | (simp; done) | (simp; omega)) _))
  have r00 := stays (p := w.heap.size) (o := 0) (by omega) (show W.cell? ⟨w.heap.size, 0, none⟩ = some ((Value.slice A x.length c)) from by rw [hW]; simp [go_sem])
  have r01 := stays (p := w.heap.size) (o := 1) (by omega) (show W.cell? ⟨w.heap.size, 1, none⟩ = some ((Value.slice B y.length k)) from by rw [hW]; simp [go_sem])
  rw [← hW]
  clear hW
  have HzW := Lib.hid hzW
  clear hzW
  have e00 := r00 _ (Below.refl _ _)
  have e01 := r01 _ (Below.refl _ _)
  have hO1 : OwnI W lo hi A x := H1.out.keep fun b _ hb => hbW.block b (by omega)
  have hO2 : OwnI W lo hi B y := H2.out.keep fun b _ hb => hbW.block b (by omega)
  have HO1 := Lib.hid hO1
  have HO2 := Lib.hid hO2
  clear r00 r01 hO1 hO2
  go_wp2_with fail
  refine (markIntS _ _ x _ _ m (by omega) (by omega) (by omega) _ HO1.out).mono ?_
  rintro e w1 ⟨rfl, ht1, ho1⟩
  have hf1 := ht1.off HO1.out
  have HO2' := Lib.hid (HO2.out.touch ht1 HD.out)
  have HO1' := Lib.hid ho1
  have e13 : w1.cell? ⟨w.heap.size, 1, none⟩ = some (.slice B y.length k) := (World.cell?_of_block (w := W) (hf1.block w.heap.size (by omega))).trans e01
  have HF1 := Lib.hid hf1
  clear ho1 ht1 hf1 e00 e01
  go_wp2_with fail
  refine (markIntS _ _ y _ _ (m + (x.length : Int)) (by omega) (by omega) (by omega) _ HO2'.out).mono ?_
  rintro e w2 ⟨rfl, ht2, ho2⟩
  have hf2 := ht2.off HO2'.out
  have HO1'' := Lib.hid (HO1'.out.touch ht2 (fun h1 h2 e => HD.out (by simpa [seqN_length] using h2) h1 e.symm))
  have HF2 := Lib.hid hf2
  have HO2'' := Lib.hid ho2
  clear hf2 ht2 ho2 e13
  go_wp2_with fail
  go_ret
  refine ⟨by first | rfl | (simp; omega), ⟨by rw [HF2.out.os, HF1.out.os, hbW.os], by rw [HF2.out.tape, HF1.out.tape, hbW.tape], by rw [HF2.out.output, HF1.out.output, hbW.output], by rw [HF2.out.size, HF1.out.size]; exact hbW.size, fun b hb hn => ?_⟩, HO1''.out, HO2''.out⟩
  rw [HF2.out.block b hn, HF1.out.block b hn, hbW.block b hb]

set_option maxHeartbeats 2000000 in
theorem heldCounts_c (A B : Option Addr) (c k : Nat) (x y : List Int) (S S' : Nat → Prop) (m : Int) (hx : x.length ≤ 16) (hy : y.length ≤ 16) (h0 : 0 ≤ m) (h1 : m ≤ 1000) (w : World) (hS : ∀ b, S b → b < w.heap.size) (hS' : ∀ b, S' b → b < w.heap.size) (h : Ints w S A (seqN m x.length)) (h' : Ints w S' B (seqN (m + (x.length : Int)) y.length)) :
    Calls Try.prog 33 #[.agg #[.slice A x.length c, .slice B y.length k], .int .i64 m] w (Adds (.int .i64 (m + (x.length : Int) + (y.length : Int))) w) := by
  have H1 := Lib.hid h
  have H2 := Lib.hid h'
  clear h h'
  go_enter Try.func33, Try.ntmps33
  go_wp2_with fail
  obtain ⟨W, hW⟩ : ∃ W : World, W = (w.alloc (.cells #[(Value.slice A x.length c), (Value.slice B y.length k)] 28)) := ⟨_, rfl⟩
  have hzW : W.heap.size = w.heap.size + 1 := by rw [hW]; simp
  have hbW : Below w.heap.size w W := by rw [hW]; exact (by repeat (first | exact Below.refl _ _ | assumption | exact bel1 (by assumption) | exact bel2 (by assumption) | exact bel3 (by assumption) | exact bel4 (by assumption) | refine Below.drew ?_ | refine below_drewN ?_ _ | refine Below.setCell ?_ (by first | (simp; done) | (simp; omega)) _ | refine Below.alloc ?_ (by first | (simp; done) | (simp; omega)) _))
  have r00 := stays (p := w.heap.size) (o := 0) (by omega) (show W.cell? ⟨w.heap.size, 0, none⟩ = some ((Value.slice A x.length c)) from by rw [hW]; simp [go_sem])
  have r01 := stays (p := w.heap.size) (o := 1) (by omega) (show W.cell? ⟨w.heap.size, 1, none⟩ = some ((Value.slice B y.length k)) from by rw [hW]; simp [go_sem])
  rw [← hW]
  clear hW
  have HzW := Lib.hid hzW
  clear hzW
  have e00 := r00 _ (Below.refl _ _)
  have e01 := r01 _ (Below.refl _ _)
  have HO1 : Hid (Ints W S A (seqN m x.length)) := H1.out.keep fun b hb => hbW.block b (hS b hb)
  have HO2 : Hid (Ints W S' B (seqN (m + (x.length : Int)) y.length)) := H2.out.keep fun b hb => hbW.block b (hS' b hb)
  clear r00 r01
  go_wp2_with fail
  refine (heldIntS _ _ x.length _ m (by omega) (by omega) (by omega) _ HO1.out).mono ?_
  rintro e w1 ⟨rfl, rfl⟩
  go_wp2_with fail
  refine (heldIntS _ _ y.length _ (m + (x.length : Int)) (by omega) (by omega) (by omega) _ HO2.out).mono ?_
  rintro e w1 ⟨rfl, rfl⟩
  go_wp2_with fail
  go_ret
  exact Adds.of rfl hbW

end Go.Proofs.Ytakkdpjgdmngkaa

namespace Go.Proofs.Ytakkdpjgdmngkaa
set_option linter.unusedSimpArgs false
set_option linter.unusedVariables false
open Go.RowKit

/-- what the program's functions on learning are asked -/
structure Impl11 : Prop where
  learn : ∀ (A : Option Addr) (c : Nat) (g : List (List Int)) (s : Int) (_ : (Lit.int .i64 s).wf = true) (_ : g.length ≤ maxLen) (w : World) (_ : Rows2 w (fun b => b < w.heap.size) A g), Calls Try.prog 10 #[.slice A g.length c, .int .i64 s] w (CntRes w (lrnB g s) (lrnX g s) (lrnY g s))
  gap : ∀ (A : Option Addr) (c : Nat) (g : List (List Int)) (s : Int) (_ : (Lit.int .i64 s).wf = true) (_ : g.length ≤ maxLen) (w : World) (_ : Rows2 w (fun b => b < w.heap.size) A g), Calls Try.prog 22 #[.slice A g.length c, .int .i64 s] w (Adds (FracRes (gapU g s) (gapD g s) (lrnB g s)) w)
  least : ∀ (A : Option Addr) (c : Nat) (g : List (List Int)) (s : Int) (_ : (Lit.int .i64 s).wf = true) (_ : g.length ≤ maxLen) (w : World) (_ : Rows2 w (fun b => b < w.heap.size) A g), Calls Try.prog 25 #[.slice A g.length c, .int .i64 s] w (Adds (.tuple #[.agg #[.int .i64 (lstU g s), .int .i64 (lstD g s)], .int .i64 (lstN g s), .bool (lrnB g s)]) w)

set_option maxHeartbeats 2000000 in
set_option maxRecDepth 100000 in
theorem wFnExactGapOf (I : Impl11) (A0 : Option Addr) (c0 : Nat) (x0 : List (List Int)) (l0 : x0.length ≤ maxLen) (x1 : Int) (l1 : (Lit.int .i64 x1).wf = true) (w : World) (r0 : Rows2 w (· < w.heap.size) A0 x0) :
    Calls Try.prog 7 #[.slice A0 x0.length c0, .int .i64 x1] w (Adds (.bool true) w) := by
  have R0 := Lib.hid r0
  clear r0
  go_enter Try.func7, Try.ntmps7
  go_wp2_with fail
  refine (szIntSS A0 c0 x0 _ 1048576 l0 (by omega) (by omega) _ R0.out).mono ?_
  rintro e wz ⟨q0, rfl, rfl, hq0⟩
  by_cases hz0 : q0 < 0
  · clear hq0
    go_wp2_with fail
    go_ret
    exact Adds.of rfl (Below.refl _ _)
  have hsum0 : (x0.length : Int) + (sumN x0 x0.length : Nat) ≤ 1048576 := by omega
  have hm0 : ∀ i, i < x0.length → (rowAt x0 i).length ≤ 4294967296 := fun i hi => by have := row_le_sumN x0 hi; omega
  have HM0 := Lib.hid hm0
  have t0 : x0.length ≤ 4294967296 := by omega
  have st0 : sumN x0 x0.length ≤ 1048576 := by omega
  clear hq0 hsum0 hm0
  go_wp2_with fail
  refine (toIntSS A0 c0 x0 t0 HM0.out _ R0.out).mono ?_
  rintro e w1 ⟨rfl, hL1⟩
  have S0 := Lib.hid (NewRows.reads hL1 HM0.out)
  have hb1 := NewRows.bel hL1
  replace R0 := Lib.hid (stillRows R0.out hb1)
  have BEL0 := Lib.hid hb1
  clear hb1 hL1
  go_wp2_with fail
  refine (gap_spec _ _ x0 x1 l0 _ S0.out).mono ?_
  rintro e w2 ⟨rfl, hb2⟩
  replace R0 := Lib.hid (stillRows R0.out hb2)
  replace S0 := Lib.hid (stillRows S0.out hb2)
  replace BEL0 := Lib.hid (belT BEL0.out hb2)
  clear hb2
  clear S0
  try unfold FracRes
  go_wp2_with fail
  obtain ⟨WFA, hWFA⟩ : ∃ WFA : World, WFA = w2.alloc (.cells #[.int .i64 (gapU x0 x1), .int .i64 (gapD x0 x1)] 34) := ⟨_, rfl⟩
  have hbWFA : Below w2.heap.size w2 WFA := by rw [hWFA]; exact (Below.refl _ _).alloc (Nat.le_refl _) _
  have FA : Hid (Box2 WFA w2.heap.size (gapU x0 x1) (gapD x0 x1)) := by show Box2 _ _ _ _; rw [hWFA]; exact Box2.new _ _ _
  rw [← hWFA]
  clear hWFA
  replace R0 := Lib.hid (stillRows R0.out hbWFA)
  replace BEL0 := Lib.hid (belT BEL0.out hbWFA)
  clear hbWFA
  go_wp2_with fail
  refine (toIntSS A0 c0 x0 t0 HM0.out _ R0.out).mono ?_
  rintro e w3 ⟨rfl, hL3⟩
  have X0 := Lib.hid (NewRows.reads hL3 HM0.out)
  have hb3 := NewRows.bel hL3
  replace R0 := Lib.hid (stillRows R0.out hb3)
  replace FA := Lib.hid (FA.out.still hb3)
  replace BEL0 := Lib.hid (belT BEL0.out hb3)
  clear hb3 hL3
  go_wp2_with fail
  refine (I.gap _ _ x0 x1 l1 l0 _ X0.out).mono ?_
  rintro e w4 ⟨rfl, hb4⟩
  replace R0 := Lib.hid (stillRows R0.out hb4)
  replace FA := Lib.hid (FA.out.still hb4)
  replace X0 := Lib.hid (stillRows X0.out hb4)
  replace BEL0 := Lib.hid (belT BEL0.out hb4)
  clear hb4
  try unfold FracRes
  have zB : (lrnB x0 x1 != lrnB x0 x1) = false := by simp
  have cFA0 := FA.out.c0
  have cFA1 := FA.out.c1
  have ltFA := FA.out.lt
  go_wp2_with fail
  refine (eqFrac_same _ _ _).mono ?_
  rintro e w5 ⟨rfl, hb5'⟩
  have hb5 := bel1 hb5'
  clear hb5'
  clear cFA0 cFA1
  clear ltFA
  clear FA
  replace R0 := Lib.hid (stillRows R0.out hb5)
  replace X0 := Lib.hid (stillRows X0.out hb5)
  replace BEL0 := Lib.hid (belT BEL0.out hb5)
  clear hb5
  go_wp2_with fail
  refine (toIntSS A0 c0 x0 t0 HM0.out _ R0.out).mono ?_
  rintro e w6 ⟨rfl, hL6⟩
  have E0 := Lib.hid (NewRows.reads hL6 HM0.out)
  have hb6 := NewRows.bel hL6
  replace R0 := Lib.hid (stillRows R0.out hb6)
  replace X0 := Lib.hid (stillRows X0.out hb6)
  replace BEL0 := Lib.hid (belT BEL0.out hb6)
  clear hb6 hL6
  go_wp2_with fail
  refine (eqIntSS _ _ _ _ x0 _ _ l0 _ X0.out E0.out).mono ?_
  rintro e w7 ⟨rfl, hq7⟩
  have hb7 : Below w6.heap.size w6 w7 := by obtain ⟨n, rfl⟩ := hq7; exact below_drewN (Below.refl _ _) n
  replace R0 := Lib.hid (stillRows R0.out hb7)
  replace X0 := Lib.hid (stillRows X0.out hb7)
  replace E0 := Lib.hid (stillRows E0.out hb7)
  replace BEL0 := Lib.hid (belT BEL0.out hb7)
  clear hq7 hb7
  clear E0
  clear X0
  go_wp2_with fail
  go_ret
  exact Adds.of rfl BEL0.out

set_option maxHeartbeats 2000000 in
set_option maxRecDepth 100000 in
theorem wFnExactLeastGap (I : Impl11) (A0 : Option Addr) (c0 : Nat) (x0 : List (List Int)) (l0 : x0.length ≤ maxLen) (x1 : Int) (l1 : (Lit.int .i64 x1).wf = true) (w : World) (r0 : Rows2 w (· < w.heap.size) A0 x0) :
    Calls Try.prog 8 #[.slice A0 x0.length c0, .int .i64 x1] w (Adds (.bool true) w) := by
  have R0 := Lib.hid r0
  clear r0
  have zI : (lstN x0 x1 != lstN x0 x1) = false := by simp
  go_enter Try.func8, Try.ntmps8
  go_wp2_with fail
  refine (szIntSS A0 c0 x0 _ 1048576 l0 (by omega) (by omega) _ R0.out).mono ?_
  rintro e wz ⟨q0, rfl, rfl, hq0⟩
  by_cases hz0 : q0 < 0
  · clear hq0
    go_wp2_with fail
    go_ret
    exact Adds.of rfl (Below.refl _ _)
  have hsum0 : (x0.length : Int) + (sumN x0 x0.length : Nat) ≤ 1048576 := by omega
  have hm0 : ∀ i, i < x0.length → (rowAt x0 i).length ≤ 4294967296 := fun i hi => by have := row_le_sumN x0 hi; omega
  have HM0 := Lib.hid hm0
  have t0 : x0.length ≤ 4294967296 := by omega
  have st0 : sumN x0 x0.length ≤ 1048576 := by omega
  clear hq0 hsum0 hm0
  go_wp2_with fail
  refine (toIntSS A0 c0 x0 t0 HM0.out _ R0.out).mono ?_
  rintro e w1 ⟨rfl, hL1⟩
  have S0 := Lib.hid (NewRows.reads hL1 HM0.out)
  have hb1 := NewRows.bel hL1
  replace R0 := Lib.hid (stillRows R0.out hb1)
  have BEL0 := Lib.hid hb1
  clear hb1 hL1
  go_wp2_with fail
  refine (least_spec _ _ x0 x1 l0 _ S0.out).mono ?_
  rintro e w2 ⟨rfl, hb2⟩
  replace R0 := Lib.hid (stillRows R0.out hb2)
  replace S0 := Lib.hid (stillRows S0.out hb2)
  replace BEL0 := Lib.hid (belT BEL0.out hb2)
  clear hb2
  clear S0
  try unfold FracRes
  go_wp2_with fail
  obtain ⟨WFA, hWFA⟩ : ∃ WFA : World, WFA = w2.alloc (.cells #[.int .i64 (lstU x0 x1), .int .i64 (lstD x0 x1)] 34) := ⟨_, rfl⟩
  have hbWFA : Below w2.heap.size w2 WFA := by rw [hWFA]; exact (Below.refl _ _).alloc (Nat.le_refl _) _
  have FA : Hid (Box2 WFA w2.heap.size (lstU x0 x1) (lstD x0 x1)) := by show Box2 _ _ _ _; rw [hWFA]; exact Box2.new _ _ _
  rw [← hWFA]
  clear hWFA
  replace R0 := Lib.hid (stillRows R0.out hbWFA)
  replace BEL0 := Lib.hid (belT BEL0.out hbWFA)
  clear hbWFA
  go_wp2_with fail
  refine (toIntSS A0 c0 x0 t0 HM0.out _ R0.out).mono ?_
  rintro e w3 ⟨rfl, hL3⟩
  have X0 := Lib.hid (NewRows.reads hL3 HM0.out)
  have hb3 := NewRows.bel hL3
  replace R0 := Lib.hid (stillRows R0.out hb3)
  replace FA := Lib.hid (FA.out.still hb3)
  replace BEL0 := Lib.hid (belT BEL0.out hb3)
  clear hb3 hL3
  go_wp2_with fail
  refine (I.least _ _ x0 x1 l1 l0 _ X0.out).mono ?_
  rintro e w4 ⟨rfl, hb4⟩
  replace R0 := Lib.hid (stillRows R0.out hb4)
  replace FA := Lib.hid (FA.out.still hb4)
  replace X0 := Lib.hid (stillRows X0.out hb4)
  replace BEL0 := Lib.hid (belT BEL0.out hb4)
  clear hb4
  try unfold FracRes
  have zB : (lrnB x0 x1 != lrnB x0 x1) = false := by simp
  have cFA0 := FA.out.c0
  have cFA1 := FA.out.c1
  have ltFA := FA.out.lt
  go_wp2_with fail
  refine (eqFrac_same _ _ _).mono ?_
  rintro e w5 ⟨rfl, hb5'⟩
  have hb5 := bel1 hb5'
  clear hb5'
  clear cFA0 cFA1
  clear ltFA
  clear FA
  replace R0 := Lib.hid (stillRows R0.out hb5)
  replace X0 := Lib.hid (stillRows X0.out hb5)
  replace BEL0 := Lib.hid (belT BEL0.out hb5)
  clear hb5
  go_wp2_with fail
  refine (toIntSS A0 c0 x0 t0 HM0.out _ R0.out).mono ?_
  rintro e w6 ⟨rfl, hL6⟩
  have E0 := Lib.hid (NewRows.reads hL6 HM0.out)
  have hb6 := NewRows.bel hL6
  replace R0 := Lib.hid (stillRows R0.out hb6)
  replace X0 := Lib.hid (stillRows X0.out hb6)
  replace BEL0 := Lib.hid (belT BEL0.out hb6)
  clear hb6 hL6
  go_wp2_with fail
  refine (eqIntSS _ _ _ _ x0 _ _ l0 _ X0.out E0.out).mono ?_
  rintro e w7 ⟨rfl, hq7⟩
  have hb7 : Below w6.heap.size w6 w7 := by obtain ⟨n, rfl⟩ := hq7; exact below_drewN (Below.refl _ _) n
  replace R0 := Lib.hid (stillRows R0.out hb7)
  replace X0 := Lib.hid (stillRows X0.out hb7)
  replace E0 := Lib.hid (stillRows E0.out hb7)
  replace BEL0 := Lib.hid (belT BEL0.out hb7)
  clear hq7 hb7
  clear E0
  clear X0
  go_wp2_with fail
  go_ret
  exact Adds.of rfl BEL0.out

end Go.Proofs.Ytakkdpjgdmngkaa

namespace Go.Proofs.Ytakkdpjgdmngkaa
set_option linter.unusedSimpArgs false
set_option linter.unusedVariables false
open Go.RowKit

/-- counts in a block of their own -/
structure BoxC (w : World) (b : Nat) (v0 v1 : Value) : Prop where
  lt : b < w.heap.size
  c0 : w.cell? ⟨b, 0, none⟩ = some v0
  c1 : w.cell? ⟨b, 1, none⟩ = some v1

theorem BoxC.new (w : World) (v0 v1 : Value) : BoxC (w.alloc (.cells #[v0, v1] 28)) w.heap.size v0 v1 := ⟨by simp, by simp [go_sem], by simp [go_sem]⟩

theorem BoxC.keep {w w' : World} {b : Nat} {v0 v1 : Value} (h : BoxC w b v0 v1) (hs : w.heap.size ≤ w'.heap.size) (hb : w'.heap[b]? = w.heap[b]?) : BoxC w' b v0 v1 :=
  ⟨Nat.lt_of_lt_of_le h.lt hs, (World.cell?_of_block (w := w) hb).trans h.c0, (World.cell?_of_block (w := w) hb).trans h.c1⟩

theorem BoxC.still {w w' : World} {b : Nat} {v0 v1 : Value} (h : BoxC w b v0 v1) (hb : Below w.heap.size w w') : BoxC w' b v0 v1 := h.keep hb.size (hb.block b h.lt)

theorem BoxC.off {w w' : World} {b lo hi : Nat} {v0 v1 : Value} (h : BoxC w b v0 v1) (hf : Off lo hi w w') (ho : ¬ (lo ≤ b ∧ b < hi)) : BoxC w' b v0 v1 := h.keep (Nat.le_of_eq hf.size.symm) (hf.block b ho)

theorem BoxC.offB {w w' : World} {b lo hi : Nat} {v0 v1 : Value} (h : BoxC w b v0 v1) (hf : OffB lo hi w w') (ho : ¬ (lo ≤ b ∧ b < hi)) : BoxC w' b v0 v1 := h.keep hf.size (hf.block b h.lt ho)

theorem lrn_len (g : List (List Int)) (s : Int) : (lrnX g s).length ≤ 16 ∧ (lrnY g s).length ≤ 16 := by
  rcases hb : lrnB g s with _ | _
  · rw [(lrn_no hb).1, (lrn_no hb).2]; simp
  · have hg : gameB g = true := by unfold lrnB at hb; rw [Bool.and_eq_true] at hb; exact hb.1
    unfold lrnX lrnY
    rw [hb, if_pos rfl, if_pos rfl, (lrnP_length g _).1, (lrnP_length g _).2]
    exact ⟨(Game.of hg).hi, (Game.of hg).mhi⟩

set_option maxHeartbeats 4000000 in
set_option maxRecDepth 100000 in
theorem wFnExactLearnedOf (I : Impl11) (A0 : Option Addr) (c0 : Nat) (x0 : List (List Int)) (l0 : x0.length ≤ maxLen) (x1 : Int) (l1 : (Lit.int .i64 x1).wf = true) (w : World) (r0 : Rows2 w (· < w.heap.size) A0 x0) :
    Calls Try.prog 6 #[.slice A0 x0.length c0, .int .i64 x1] w (Adds (.bool true) w) := by
  have R0 := Lib.hid r0
  clear r0
  have le_w : w.heap.size ≤ w.heap.size := Nat.le_refl _
  obtain ⟨hlx, hly⟩ := lrn_len x0 x1
  have HL1 : Hid ((lrnX x0 x1).length ≤ maxLen) := by show _ ≤ _; unfold maxLen; omega
  have HL2 : Hid ((lrnY x0 x1).length ≤ maxLen) := by show _ ≤ _; unfold maxLen; omega
  have zB : (lrnB x0 x1 != lrnB x0 x1) = false := by simp
  go_enter Try.func6, Try.ntmps6
  go_wp2_with fail
  refine (szIntSS A0 c0 x0 _ 1048576 l0 (by omega) (by omega) _ R0.out).mono ?_
  rintro e wz ⟨q0, rfl, rfl, hq0⟩
  by_cases hz0 : q0 < 0
  · clear hq0
    go_wp2_with fail
    go_ret
    exact Adds.of rfl (Below.refl _ _)
  have hsum0 : (x0.length : Int) + (sumN x0 x0.length : Nat) ≤ 1048576 := by omega
  have hm0 : ∀ i, i < x0.length → (rowAt x0 i).length ≤ 4294967296 := fun i hi => by have := row_le_sumN x0 hi; omega
  have hmm0 : ∀ i, i < x0.length → (rowAt x0 i).length ≤ maxLen := fun i hi => by have := hm0 i hi; unfold maxLen; omega
  have HM0 := Lib.hid hm0
  have HN0 := Lib.hid hmm0
  have t0 : x0.length ≤ 4294967296 := by omega
  have st0 : sumN x0 x0.length ≤ 1048576 := by omega
  clear hq0 hsum0 hm0 hmm0
  go_wp2_with fail
  refine (toIntSS A0 c0 x0 t0 HM0.out _ (Lib.hid (R0.out.lt le_w)).out).mono ?_
  rintro e w1 ⟨rfl, hL1⟩
  have S0 := Lib.hid (Laid.own hL1 HN0.out)
  have hb1 := NewRows.bel hL1
  replace R0 := Lib.hid (keepRows (hb1.mono le_w) R0.out)
  replace le_w := Nat.le_trans le_w hb1.size
  have BEL0 := Lib.hid hb1
  have o_w_w1 : w.heap.size ≤ w1.heap.size := le_w
  have le_w1 : w1.heap.size ≤ w1.heap.size := Nat.le_refl _
  clear hb1 hL1
  go_wp2_with fail
  refine (learned_spec _ _ x0 x1 l0 _ (S0.out.lt.lt le_w1)).mono ?_
  rintro e w2 ⟨TV1, cV1, TV2, cV2, rfl, hb2, ho2, hp2, hd2⟩
  have V1 := Lib.hid ho2.lt
  have V2 := Lib.hid hp2.lt
  clear hd2
  replace S0 := Lib.hid (S0.out.below (hb2.mono le_w1))
  replace R0 := Lib.hid (keepRows (hb2.mono le_w) R0.out)
  replace le_w := Nat.le_trans le_w hb2.size
  replace le_w1 := Nat.le_trans le_w1 hb2.size
  replace BEL0 := Lib.hid (belT BEL0.out hb2)
  have o_w1_w2 : w1.heap.size ≤ w2.heap.size := le_w1
  have le_w2 : w2.heap.size ≤ w2.heap.size := Nat.le_refl _
  clear hb2 ho2 hp2
  clear S0
  go_wp2_with fail
  obtain ⟨WBV, hWBV⟩ : ∃ WBV : World, WBV = w2.alloc (.cells #[.slice TV1 (lrnX x0 x1).length cV1, .slice TV2 (lrnY x0 x1).length cV2] 28) := ⟨_, rfl⟩
  have hbWBV : Below w2.heap.size w2 WBV := by rw [hWBV]; exact (Below.refl _ _).alloc (Nat.le_refl _) _
  have BV : Hid (BoxC WBV w2.heap.size (.slice TV1 (lrnX x0 x1).length cV1) (.slice TV2 (lrnY x0 x1).length cV2)) := by show BoxC _ _ _ _; rw [hWBV]; exact BoxC.new _ _ _
  have bzBV : w2.heap.size < WBV.heap.size := by rw [hWBV]; simp
  rw [← hWBV]
  clear hWBV
  replace R0 := Lib.hid (keepRows (hbWBV.mono le_w) R0.out)
  replace V1 := Lib.hid (keepInts (hbWBV.mono le_w2) V1.out)
  replace V2 := Lib.hid (keepInts (hbWBV.mono le_w2) V2.out)
  replace le_w := Nat.le_trans le_w hbWBV.size
  replace le_w1 := Nat.le_trans le_w1 hbWBV.size
  replace le_w2 := Nat.le_trans le_w2 hbWBV.size
  replace BEL0 := Lib.hid (belT BEL0.out hbWBV)
  have o_w2_WBV : w2.heap.size ≤ WBV.heap.size := le_w2
  have le_WBV : WBV.heap.size ≤ WBV.heap.size := Nat.le_refl _
  clear hbWBV
  go_wp2_with fail
  refine (toIntSS A0 c0 x0 t0 HM0.out _ (Lib.hid (R0.out.lt le_w)).out).mono ?_
  rintro e w3 ⟨rfl, hL3⟩
  have X0 := Lib.hid (Laid.own hL3 HN0.out)
  have hb3 := NewRows.bel hL3
  replace BV := Lib.hid (BV.out.still hb3)
  replace R0 := Lib.hid (keepRows (hb3.mono le_w) R0.out)
  replace V1 := Lib.hid (keepInts (hb3.mono le_w2) V1.out)
  replace V2 := Lib.hid (keepInts (hb3.mono le_w2) V2.out)
  replace le_w := Nat.le_trans le_w hb3.size
  replace le_w1 := Nat.le_trans le_w1 hb3.size
  replace le_w2 := Nat.le_trans le_w2 hb3.size
  replace le_WBV := Nat.le_trans le_WBV hb3.size
  replace BEL0 := Lib.hid (belT BEL0.out hb3)
  have o_WBV_w3 : WBV.heap.size ≤ w3.heap.size := le_WBV
  have le_w3 : w3.heap.size ≤ w3.heap.size := Nat.le_refl _
  clear hb3 hL3
  go_wp2_with fail
  refine (I.learn _ _ x0 x1 l1 l0 _ (X0.out.lt.lt le_w3)).mono ?_
  rintro e w4 ⟨TG1, cG1, TG2, cG2, rfl, hb4, ho4, hp4, hd4⟩
  have G1 := Lib.hid ho4
  have G2 := Lib.hid hp4
  have HDG1 := Lib.hid hd4
  clear hd4
  replace BV := Lib.hid (BV.out.still hb4)
  replace X0 := Lib.hid (X0.out.below (hb4.mono le_w3))
  replace R0 := Lib.hid (keepRows (hb4.mono le_w) R0.out)
  replace V1 := Lib.hid (keepInts (hb4.mono le_w2) V1.out)
  replace V2 := Lib.hid (keepInts (hb4.mono le_w2) V2.out)
  replace le_w := Nat.le_trans le_w hb4.size
  replace le_w1 := Nat.le_trans le_w1 hb4.size
  replace le_w2 := Nat.le_trans le_w2 hb4.size
  replace le_WBV := Nat.le_trans le_WBV hb4.size
  replace le_w3 := Nat.le_trans le_w3 hb4.size
  replace BEL0 := Lib.hid (belT BEL0.out hb4)
  have o_w3_w4 : w3.heap.size ≤ w4.heap.size := le_w3
  have le_w4 : w4.heap.size ≤ w4.heap.size := Nat.le_refl _
  clear hb4 ho4 hp4
  have cBV0 := BV.out.c0
  have cBV1 := BV.out.c1
  have ltBV := BV.out.lt
  go_wp2_with fail
  obtain ⟨WBG, hWBG⟩ : ∃ WBG : World, WBG = w4.alloc (.cells #[.slice TG1 (lrnX x0 x1).length cG1, .slice TG2 (lrnY x0 x1).length cG2] 28) := ⟨_, rfl⟩
  have hbWBG : Below w4.heap.size w4 WBG := by rw [hWBG]; exact (Below.refl _ _).alloc (Nat.le_refl _) _
  have BG : Hid (BoxC WBG w4.heap.size (.slice TG1 (lrnX x0 x1).length cG1) (.slice TG2 (lrnY x0 x1).length cG2)) := by show BoxC _ _ _ _; rw [hWBG]; exact BoxC.new _ _ _
  have bzBG : w4.heap.size < WBG.heap.size := by rw [hWBG]; simp
  rw [← hWBG]
  clear hWBG
  replace BV := Lib.hid (BV.out.still hbWBG)
  replace X0 := Lib.hid (X0.out.below (hbWBG.mono le_w3))
  replace G1 := Lib.hid (G1.out.below (hbWBG.mono le_w4))
  replace G2 := Lib.hid (G2.out.below (hbWBG.mono le_w4))
  replace R0 := Lib.hid (keepRows (hbWBG.mono le_w) R0.out)
  replace V1 := Lib.hid (keepInts (hbWBG.mono le_w2) V1.out)
  replace V2 := Lib.hid (keepInts (hbWBG.mono le_w2) V2.out)
  replace le_w := Nat.le_trans le_w hbWBG.size
  replace le_w1 := Nat.le_trans le_w1 hbWBG.size
  replace le_w2 := Nat.le_trans le_w2 hbWBG.size
  replace le_WBV := Nat.le_trans le_WBV hbWBG.size
  replace le_w3 := Nat.le_trans le_w3 hbWBG.size
  replace le_w4 := Nat.le_trans le_w4 hbWBG.size
  replace BEL0 := Lib.hid (belT BEL0.out hbWBG)
  have o_w4_WBG : w4.heap.size ≤ WBG.heap.size := le_w4
  have le_WBG : WBG.heap.size ≤ WBG.heap.size := Nat.le_refl _
  clear hbWBG
  clear cBV0 cBV1 ltBV
  have cBG0 := BG.out.c0
  have cBG1 := BG.out.c1
  have ltBG := BG.out.lt
  have cBV0 := BV.out.c0
  have cBV1 := BV.out.c1
  have ltBV := BV.out.lt
  go_wp2_with fail
  refine (eqCounts_same _ _ _ _ _ _ _ _ (lrnX x0 x1) (lrnY x0 x1) HL1.out HL2.out _ (G1.out.lt.lt le_w4) (G2.out.lt.lt le_w4) (V1.out.lt le_w2) (V2.out.lt le_w2)).mono ?_
  rintro e w5 ⟨rfl, hb5⟩
  replace BV := Lib.hid (BV.out.still hb5)
  replace BG := Lib.hid (BG.out.still hb5)
  replace X0 := Lib.hid (X0.out.below (hb5.mono le_w3))
  replace G1 := Lib.hid (G1.out.below (hb5.mono le_w4))
  replace G2 := Lib.hid (G2.out.below (hb5.mono le_w4))
  replace R0 := Lib.hid (keepRows (hb5.mono le_w) R0.out)
  replace V1 := Lib.hid (keepInts (hb5.mono le_w2) V1.out)
  replace V2 := Lib.hid (keepInts (hb5.mono le_w2) V2.out)
  replace le_w := Nat.le_trans le_w hb5.size
  replace le_w1 := Nat.le_trans le_w1 hb5.size
  replace le_w2 := Nat.le_trans le_w2 hb5.size
  replace le_WBV := Nat.le_trans le_WBV hb5.size
  replace le_w3 := Nat.le_trans le_w3 hb5.size
  replace le_w4 := Nat.le_trans le_w4 hb5.size
  replace le_WBG := Nat.le_trans le_WBG hb5.size
  replace BEL0 := Lib.hid (belT BEL0.out hb5)
  clear hb5
  clear cBG0 cBG1 ltBG
  clear cBV0 cBV1 ltBV
  have o_WBG_w5 : WBG.heap.size ≤ w5.heap.size := le_WBG
  have le_w5 : w5.heap.size ≤ w5.heap.size := Nat.le_refl _
  go_wp2_with fail
  refine (toIntSS A0 c0 x0 t0 HM0.out _ (Lib.hid (R0.out.lt le_w)).out).mono ?_
  rintro e w6 ⟨rfl, hL6⟩
  have E0 := Lib.hid (Laid.own hL6 HN0.out)
  have hb6 := NewRows.bel hL6
  replace BV := Lib.hid (BV.out.still hb6)
  replace BG := Lib.hid (BG.out.still hb6)
  replace X0 := Lib.hid (X0.out.below (hb6.mono le_w3))
  replace G1 := Lib.hid (G1.out.below (hb6.mono le_w4))
  replace G2 := Lib.hid (G2.out.below (hb6.mono le_w4))
  replace R0 := Lib.hid (keepRows (hb6.mono le_w) R0.out)
  replace V1 := Lib.hid (keepInts (hb6.mono le_w2) V1.out)
  replace V2 := Lib.hid (keepInts (hb6.mono le_w2) V2.out)
  replace le_w := Nat.le_trans le_w hb6.size
  replace le_w1 := Nat.le_trans le_w1 hb6.size
  replace le_w2 := Nat.le_trans le_w2 hb6.size
  replace le_WBV := Nat.le_trans le_WBV hb6.size
  replace le_w3 := Nat.le_trans le_w3 hb6.size
  replace le_w4 := Nat.le_trans le_w4 hb6.size
  replace le_WBG := Nat.le_trans le_WBG hb6.size
  replace le_w5 := Nat.le_trans le_w5 hb6.size
  replace BEL0 := Lib.hid (belT BEL0.out hb6)
  have o_w5_w6 : w5.heap.size ≤ w6.heap.size := le_w5
  have le_w6 : w6.heap.size ≤ w6.heap.size := Nat.le_refl _
  clear hb6 hL6
  go_wp2_with fail
  refine (eqIntSS _ _ _ _ x0 _ _ l0 _ (X0.out.lt.lt le_w3) (E0.out.lt.lt le_w6)).mono ?_
  rintro e w7 ⟨rfl, hq7⟩
  have hb7 : Below w6.heap.size w6 w7 := by obtain ⟨n, rfl⟩ := hq7; exact below_drewN (Below.refl _ _) n
  replace BV := Lib.hid (BV.out.still hb7)
  replace BG := Lib.hid (BG.out.still hb7)
  replace X0 := Lib.hid (X0.out.below (hb7.mono le_w3))
  replace G1 := Lib.hid (G1.out.below (hb7.mono le_w4))
  replace G2 := Lib.hid (G2.out.below (hb7.mono le_w4))
  replace E0 := Lib.hid (E0.out.below (hb7.mono le_w6))
  replace R0 := Lib.hid (keepRows (hb7.mono le_w) R0.out)
  replace V1 := Lib.hid (keepInts (hb7.mono le_w2) V1.out)
  replace V2 := Lib.hid (keepInts (hb7.mono le_w2) V2.out)
  replace le_w := Nat.le_trans le_w hb7.size
  replace le_w1 := Nat.le_trans le_w1 hb7.size
  replace le_w2 := Nat.le_trans le_w2 hb7.size
  replace le_WBV := Nat.le_trans le_WBV hb7.size
  replace le_w3 := Nat.le_trans le_w3 hb7.size
  replace le_w4 := Nat.le_trans le_w4 hb7.size
  replace le_WBG := Nat.le_trans le_WBG hb7.size
  replace le_w5 := Nat.le_trans le_w5 hb7.size
  replace le_w6 := Nat.le_trans le_w6 hb7.size
  replace BEL0 := Lib.hid (belT BEL0.out hb7)
  clear hq7 hb7
  clear E0
  go_wp2_with fail
  refine (markIntSS _ _ x0 _ _ 1 t0 (by omega) (by omega) (by omega) _ X0.out).mono ?_
  rintro e w8 ⟨rfl, hf8, ho8⟩
  replace BV := Lib.hid (BV.out.off hf8 (by omega))
  replace BG := Lib.hid (BG.out.off hf8 (by omega))
  replace X0 := Lib.hid ho8
  replace G1 := Lib.hid (G1.out.off hf8 (by omega))
  replace G2 := Lib.hid (G2.out.off hf8 (by omega))
  replace R0 := Lib.hid (keepRows (hf8.below (by omega)) R0.out)
  replace V1 := Lib.hid (keepInts (hf8.below (by omega)) V1.out)
  replace V2 := Lib.hid (keepInts (hf8.below (by omega)) V2.out)
  have hz8 := hf8.size
  replace le_w : w.heap.size ≤ w8.heap.size := by omega
  replace le_w1 : w1.heap.size ≤ w8.heap.size := by omega
  replace le_w2 : w2.heap.size ≤ w8.heap.size := by omega
  replace le_WBV : WBV.heap.size ≤ w8.heap.size := by omega
  replace le_w3 : w3.heap.size ≤ w8.heap.size := by omega
  replace le_w4 : w4.heap.size ≤ w8.heap.size := by omega
  replace le_WBG : WBG.heap.size ≤ w8.heap.size := by omega
  replace le_w5 : w5.heap.size ≤ w8.heap.size := by omega
  replace le_w6 : w6.heap.size ≤ w8.heap.size := by omega
  replace BEL0 := Lib.hid (BEL0.out.trans (hf8.below (by omega)))
  clear hf8 hz8 ho8
  clear X0
  have kpos : 0 ≤ (1 + (sumN x0 x0.length : Int)) := by omega
  have cBG0 := BG.out.c0
  have cBG1 := BG.out.c1
  have ltBG := BG.out.lt
  have cBV0 := BV.out.c0
  have cBV1 := BV.out.c1
  have ltBV := BV.out.lt
  go_wp2_with fail
  refine (eqCounts_same _ _ _ _ _ _ _ _ (lrnX x0 x1) (lrnY x0 x1) HL1.out HL2.out _ (G1.out.lt.lt le_w4) (G2.out.lt.lt le_w4) (V1.out.lt le_w2) (V2.out.lt le_w2)).mono ?_
  rintro e w9 ⟨rfl, hb9⟩
  replace BV := Lib.hid (BV.out.still hb9)
  replace BG := Lib.hid (BG.out.still hb9)
  replace G1 := Lib.hid (G1.out.below (hb9.mono le_w4))
  replace G2 := Lib.hid (G2.out.below (hb9.mono le_w4))
  replace R0 := Lib.hid (keepRows (hb9.mono le_w) R0.out)
  replace V1 := Lib.hid (keepInts (hb9.mono le_w2) V1.out)
  replace V2 := Lib.hid (keepInts (hb9.mono le_w2) V2.out)
  replace le_w := Nat.le_trans le_w hb9.size
  replace le_w1 := Nat.le_trans le_w1 hb9.size
  replace le_w2 := Nat.le_trans le_w2 hb9.size
  replace le_WBV := Nat.le_trans le_WBV hb9.size
  replace le_w3 := Nat.le_trans le_w3 hb9.size
  replace le_w4 := Nat.le_trans le_w4 hb9.size
  replace le_WBG := Nat.le_trans le_WBG hb9.size
  replace le_w5 := Nat.le_trans le_w5 hb9.size
  replace le_w6 := Nat.le_trans le_w6 hb9.size
  replace BEL0 := Lib.hid (belT BEL0.out hb9)
  clear hb9
  clear cBG0 cBG1 ltBG
  clear cBV0 cBV1 ltBV
  have cBG0 := BG.out.c0
  have cBG1 := BG.out.c1
  have ltBG := BG.out.lt
  go_wp2_with fail
  refine (markCounts_c _ _ _ _ (lrnX x0 x1) (lrnY x0 x1) _ _ 1 hlx hly (by omega) (by omega) _ (show w3.heap.size ≤ w4.heap.size by omega) le_w4 G1.out G2.out HDG1.out).mono ?_
  rintro e w10 ⟨rfl, hf10, ho10, hp10⟩
  clear cBG0 cBG1 ltBG
  have hfb10 := hf10.below (Nat.le_refl _) (show w3.heap.size ≤ w9.heap.size by omega)
  replace BV := Lib.hid (BV.out.offB hf10 (by omega))
  replace BG := Lib.hid (BG.out.offB hf10 (by omega))
  replace G1 := Lib.hid ho10
  replace G2 := Lib.hid hp10
  replace R0 := Lib.hid (keepRows (hfb10.mono (by omega)) R0.out)
  replace V1 := Lib.hid (keepInts (hfb10.mono (by omega)) V1.out)
  replace V2 := Lib.hid (keepInts (hfb10.mono (by omega)) V2.out)
  replace le_w := Nat.le_trans le_w hf10.size
  replace le_w1 := Nat.le_trans le_w1 hf10.size
  replace le_w2 := Nat.le_trans le_w2 hf10.size
  replace le_WBV := Nat.le_trans le_WBV hf10.size
  replace le_w3 := Nat.le_trans le_w3 hf10.size
  replace le_w4 := Nat.le_trans le_w4 hf10.size
  replace le_WBG := Nat.le_trans le_WBG hf10.size
  replace le_w5 := Nat.le_trans le_w5 hf10.size
  replace le_w6 := Nat.le_trans le_w6 hf10.size
  replace BEL0 := Lib.hid (BEL0.out.trans (hfb10.mono (by omega)))
  clear hf10 hfb10 ho10 hp10
  have zz : ((1 + ((lrnX x0 x1).length : Int) + ((lrnY x0 x1).length : Int)) != (1 + ((lrnX x0 x1).length : Int) + ((lrnY x0 x1).length : Int))) = false := by simp
  have cBG0 := BG.out.c0
  have cBG1 := BG.out.c1
  have ltBG := BG.out.lt
  go_wp2_with fail
  refine (heldCounts_c _ _ _ _ (lrnX x0 x1) (lrnY x0 x1) _ _ 1 hlx hly (by omega) (by omega) _ (fun b hb => Nat.lt_of_lt_of_le hb.2 le_w4) (fun b hb => Nat.lt_of_lt_of_le hb.2 le_w4) G1.out.ints G2.out.ints).mono ?_
  rintro e w11 ⟨rfl, hb11⟩
  replace BV := Lib.hid (BV.out.still hb11)
  replace BG := Lib.hid (BG.out.still hb11)
  replace G1 := Lib.hid (G1.out.below (hb11.mono le_w4))
  replace G2 := Lib.hid (G2.out.below (hb11.mono le_w4))
  replace R0 := Lib.hid (keepRows (hb11.mono le_w) R0.out)
  replace V1 := Lib.hid (keepInts (hb11.mono le_w2) V1.out)
  replace V2 := Lib.hid (keepInts (hb11.mono le_w2) V2.out)
  replace le_w := Nat.le_trans le_w hb11.size
  replace le_w1 := Nat.le_trans le_w1 hb11.size
  replace le_w2 := Nat.le_trans le_w2 hb11.size
  replace le_WBV := Nat.le_trans le_WBV hb11.size
  replace le_w3 := Nat.le_trans le_w3 hb11.size
  replace le_w4 := Nat.le_trans le_w4 hb11.size
  replace le_WBG := Nat.le_trans le_WBG hb11.size
  replace le_w5 := Nat.le_trans le_w5 hb11.size
  replace le_w6 := Nat.le_trans le_w6 hb11.size
  replace BEL0 := Lib.hid (belT BEL0.out hb11)
  clear hb11
  clear cBG0 cBG1 ltBG
  have o_w6_w11 : w6.heap.size ≤ w11.heap.size := le_w6
  have le_w11 : w11.heap.size ≤ w11.heap.size := Nat.le_refl _
  go_wp2_with fail
  refine (toIntSS A0 c0 x0 t0 HM0.out _ (Lib.hid (R0.out.lt le_w)).out).mono ?_
  rintro e w12 ⟨rfl, hL12⟩
  have Q0 := Lib.hid (Laid.own hL12 HN0.out)
  have hb12 := NewRows.bel hL12
  replace BV := Lib.hid (BV.out.still hb12)
  replace BG := Lib.hid (BG.out.still hb12)
  replace G1 := Lib.hid (G1.out.below (hb12.mono le_w4))
  replace G2 := Lib.hid (G2.out.below (hb12.mono le_w4))
  replace R0 := Lib.hid (keepRows (hb12.mono le_w) R0.out)
  replace V1 := Lib.hid (keepInts (hb12.mono le_w2) V1.out)
  replace V2 := Lib.hid (keepInts (hb12.mono le_w2) V2.out)
  replace le_w := Nat.le_trans le_w hb12.size
  replace le_w1 := Nat.le_trans le_w1 hb12.size
  replace le_w2 := Nat.le_trans le_w2 hb12.size
  replace le_WBV := Nat.le_trans le_WBV hb12.size
  replace le_w3 := Nat.le_trans le_w3 hb12.size
  replace le_w4 := Nat.le_trans le_w4 hb12.size
  replace le_WBG := Nat.le_trans le_WBG hb12.size
  replace le_w5 := Nat.le_trans le_w5 hb12.size
  replace le_w6 := Nat.le_trans le_w6 hb12.size
  replace le_w11 := Nat.le_trans le_w11 hb12.size
  replace BEL0 := Lib.hid (belT BEL0.out hb12)
  have o_w11_w12 : w11.heap.size ≤ w12.heap.size := le_w11
  have le_w12 : w12.heap.size ≤ w12.heap.size := Nat.le_refl _
  clear hb12 hL12
  go_wp2_with fail
  refine (I.learn _ _ x0 x1 l1 l0 _ (Q0.out.lt.lt le_w12)).mono ?_
  rintro e w13 ⟨TH1, cH1, TH2, cH2, rfl, hb13, ho13, hp13, hd13⟩
  have H1 := Lib.hid ho13
  have H2 := Lib.hid hp13
  have HDH1 := Lib.hid hd13
  clear hd13
  replace BV := Lib.hid (BV.out.still hb13)
  replace BG := Lib.hid (BG.out.still hb13)
  replace G1 := Lib.hid (G1.out.below (hb13.mono le_w4))
  replace G2 := Lib.hid (G2.out.below (hb13.mono le_w4))
  replace Q0 := Lib.hid (Q0.out.below (hb13.mono le_w12))
  replace R0 := Lib.hid (keepRows (hb13.mono le_w) R0.out)
  replace V1 := Lib.hid (keepInts (hb13.mono le_w2) V1.out)
  replace V2 := Lib.hid (keepInts (hb13.mono le_w2) V2.out)
  replace le_w := Nat.le_trans le_w hb13.size
  replace le_w1 := Nat.le_trans le_w1 hb13.size
  replace le_w2 := Nat.le_trans le_w2 hb13.size
  replace le_WBV := Nat.le_trans le_WBV hb13.size
  replace le_w3 := Nat.le_trans le_w3 hb13.size
  replace le_w4 := Nat.le_trans le_w4 hb13.size
  replace le_WBG := Nat.le_trans le_WBG hb13.size
  replace le_w5 := Nat.le_trans le_w5 hb13.size
  replace le_w6 := Nat.le_trans le_w6 hb13.size
  replace le_w11 := Nat.le_trans le_w11 hb13.size
  replace le_w12 := Nat.le_trans le_w12 hb13.size
  replace BEL0 := Lib.hid (belT BEL0.out hb13)
  have o_w12_w13 : w12.heap.size ≤ w13.heap.size := le_w12
  have le_w13 : w13.heap.size ≤ w13.heap.size := Nat.le_refl _
  clear hb13 ho13 hp13
  clear Q0
  have cBV0 := BV.out.c0
  have cBV1 := BV.out.c1
  have ltBV := BV.out.lt
  go_wp2_with fail
  obtain ⟨WBH, hWBH⟩ : ∃ WBH : World, WBH = w13.alloc (.cells #[.slice TH1 (lrnX x0 x1).length cH1, .slice TH2 (lrnY x0 x1).length cH2] 28) := ⟨_, rfl⟩
  have hbWBH : Below w13.heap.size w13 WBH := by rw [hWBH]; exact (Below.refl _ _).alloc (Nat.le_refl _) _
  have BH : Hid (BoxC WBH w13.heap.size (.slice TH1 (lrnX x0 x1).length cH1) (.slice TH2 (lrnY x0 x1).length cH2)) := by show BoxC _ _ _ _; rw [hWBH]; exact BoxC.new _ _ _
  have bzBH : w13.heap.size < WBH.heap.size := by rw [hWBH]; simp
  rw [← hWBH]
  clear hWBH
  replace BV := Lib.hid (BV.out.still hbWBH)
  replace BG := Lib.hid (BG.out.still hbWBH)
  replace G1 := Lib.hid (G1.out.below (hbWBH.mono le_w4))
  replace G2 := Lib.hid (G2.out.below (hbWBH.mono le_w4))
  replace H1 := Lib.hid (H1.out.below (hbWBH.mono le_w13))
  replace H2 := Lib.hid (H2.out.below (hbWBH.mono le_w13))
  replace R0 := Lib.hid (keepRows (hbWBH.mono le_w) R0.out)
  replace V1 := Lib.hid (keepInts (hbWBH.mono le_w2) V1.out)
  replace V2 := Lib.hid (keepInts (hbWBH.mono le_w2) V2.out)
  replace le_w := Nat.le_trans le_w hbWBH.size
  replace le_w1 := Nat.le_trans le_w1 hbWBH.size
  replace le_w2 := Nat.le_trans le_w2 hbWBH.size
  replace le_WBV := Nat.le_trans le_WBV hbWBH.size
  replace le_w3 := Nat.le_trans le_w3 hbWBH.size
  replace le_w4 := Nat.le_trans le_w4 hbWBH.size
  replace le_WBG := Nat.le_trans le_WBG hbWBH.size
  replace le_w5 := Nat.le_trans le_w5 hbWBH.size
  replace le_w6 := Nat.le_trans le_w6 hbWBH.size
  replace le_w11 := Nat.le_trans le_w11 hbWBH.size
  replace le_w12 := Nat.le_trans le_w12 hbWBH.size
  replace le_w13 := Nat.le_trans le_w13 hbWBH.size
  replace BEL0 := Lib.hid (belT BEL0.out hbWBH)
  have o_w13_WBH : w13.heap.size ≤ WBH.heap.size := le_w13
  have le_WBH : WBH.heap.size ≤ WBH.heap.size := Nat.le_refl _
  clear hbWBH
  clear cBV0 cBV1 ltBV
  have cBH0 := BH.out.c0
  have cBH1 := BH.out.c1
  have ltBH := BH.out.lt
  have cBV0 := BV.out.c0
  have cBV1 := BV.out.c1
  have ltBV := BV.out.lt
  go_wp2_with fail
  refine (eqCounts_same _ _ _ _ _ _ _ _ (lrnX x0 x1) (lrnY x0 x1) HL1.out HL2.out _ (H1.out.lt.lt le_w13) (H2.out.lt.lt le_w13) (V1.out.lt le_w2) (V2.out.lt le_w2)).mono ?_
  rintro e w14 ⟨rfl, hb14⟩
  replace BV := Lib.hid (BV.out.still hb14)
  replace BG := Lib.hid (BG.out.still hb14)
  replace BH := Lib.hid (BH.out.still hb14)
  replace G1 := Lib.hid (G1.out.below (hb14.mono le_w4))
  replace G2 := Lib.hid (G2.out.below (hb14.mono le_w4))
  replace H1 := Lib.hid (H1.out.below (hb14.mono le_w13))
  replace H2 := Lib.hid (H2.out.below (hb14.mono le_w13))
  replace R0 := Lib.hid (keepRows (hb14.mono le_w) R0.out)
  replace V1 := Lib.hid (keepInts (hb14.mono le_w2) V1.out)
  replace V2 := Lib.hid (keepInts (hb14.mono le_w2) V2.out)
  replace le_w := Nat.le_trans le_w hb14.size
  replace le_w1 := Nat.le_trans le_w1 hb14.size
  replace le_w2 := Nat.le_trans le_w2 hb14.size
  replace le_WBV := Nat.le_trans le_WBV hb14.size
  replace le_w3 := Nat.le_trans le_w3 hb14.size
  replace le_w4 := Nat.le_trans le_w4 hb14.size
  replace le_WBG := Nat.le_trans le_WBG hb14.size
  replace le_w5 := Nat.le_trans le_w5 hb14.size
  replace le_w6 := Nat.le_trans le_w6 hb14.size
  replace le_w11 := Nat.le_trans le_w11 hb14.size
  replace le_w12 := Nat.le_trans le_w12 hb14.size
  replace le_w13 := Nat.le_trans le_w13 hb14.size
  replace le_WBH := Nat.le_trans le_WBH hb14.size
  replace BEL0 := Lib.hid (belT BEL0.out hb14)
  clear hb14
  clear cBH0 cBH1 ltBH
  clear cBV0 cBV1 ltBV
  clear H1
  clear H2
  clear V1
  clear V2
  clear BH
  clear BV
  have cBG0 := BG.out.c0
  have cBG1 := BG.out.c1
  have ltBG := BG.out.lt
  go_wp2_with fail
  refine (heldCounts_c _ _ _ _ (lrnX x0 x1) (lrnY x0 x1) _ _ 1 hlx hly (by omega) (by omega) _ (fun b hb => Nat.lt_of_lt_of_le hb.2 le_w4) (fun b hb => Nat.lt_of_lt_of_le hb.2 le_w4) G1.out.ints G2.out.ints).mono ?_
  rintro e w15 ⟨rfl, hb15⟩
  replace BG := Lib.hid (BG.out.still hb15)
  replace G1 := Lib.hid (G1.out.below (hb15.mono le_w4))
  replace G2 := Lib.hid (G2.out.below (hb15.mono le_w4))
  replace R0 := Lib.hid (keepRows (hb15.mono le_w) R0.out)
  replace le_w := Nat.le_trans le_w hb15.size
  replace le_w1 := Nat.le_trans le_w1 hb15.size
  replace le_w2 := Nat.le_trans le_w2 hb15.size
  replace le_WBV := Nat.le_trans le_WBV hb15.size
  replace le_w3 := Nat.le_trans le_w3 hb15.size
  replace le_w4 := Nat.le_trans le_w4 hb15.size
  replace le_WBG := Nat.le_trans le_WBG hb15.size
  replace le_w5 := Nat.le_trans le_w5 hb15.size
  replace le_w6 := Nat.le_trans le_w6 hb15.size
  replace le_w11 := Nat.le_trans le_w11 hb15.size
  replace le_w12 := Nat.le_trans le_w12 hb15.size
  replace le_w13 := Nat.le_trans le_w13 hb15.size
  replace le_WBH := Nat.le_trans le_WBH hb15.size
  replace BEL0 := Lib.hid (belT BEL0.out hb15)
  clear hb15
  clear cBG0 cBG1 ltBG
  go_wp2_with fail
  go_ret
  exact Adds.of rfl BEL0.out

end Go.Proofs.Ytakkdpjgdmngkaa
