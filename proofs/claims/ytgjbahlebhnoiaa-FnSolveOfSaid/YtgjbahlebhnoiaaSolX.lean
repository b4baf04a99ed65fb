/- What the laws ask of solutions: are two alike, numbered through, held. (Written by wip/gen/solx.py.) -/
import Derived.Test.YtgjbahlebhnoiaaExactU
namespace Go.Proofs.Ytgjbahlebhnoiaa
set_option linter.unusedSimpArgs false
set_option linter.unusedVariables false
open Go.RowKit

set_option maxHeartbeats 2000000 in
theorem eqSolution_same (u d : Int) (A B A' B' : Option Addr) (c k c' k' : Nat) (x y : List Int) (hx : x.length ≤ maxLen) (hy : y.length ≤ maxLen) (w : World) (h1 : Ints w (· < w.heap.size) A x) (h2 : Ints w (· < w.heap.size) B y) (h3 : Ints w (· < w.heap.size) A' x) (h4 : Ints w (· < w.heap.size) B' y) :
    Calls Try.prog 47 #[.agg #[.int .i64 u, .int .i64 d, .slice A x.length c, .slice B y.length k], .agg #[.int .i64 u, .int .i64 d, .slice A' x.length c', .slice B' y.length k']] w (Adds (.bool true) w) := by
  have H1 := Lib.hid h1
  have H2 := Lib.hid h2
  have H3 := Lib.hid h3
  have H4 := Lib.hid h4
  clear h1 h2 h3 h4
  go_enter Try.func47, Try.ntmps47
  go_wp2_with fail
  obtain ⟨W, hW⟩ : ∃ W : World, W = ((w.alloc (.cells #[(Value.int .i64 u), (Value.int .i64 d), (Value.slice A x.length c), (Value.slice B y.length k)] 39)).alloc (.cells #[(Value.int .i64 u), (Value.int .i64 d), (Value.slice A' x.length c'), (Value.slice B' y.length k')] 39)) := ⟨_, rfl⟩
  have hzW : W.heap.size = w.heap.size + 2 := by rw [hW]; simp
  have hbW : Below w.heap.size w W := by rw [hW]; exact (by repeat (first | exact Below.refl _ _ | assumption | exact bel1 (by assumption) | exact bel2 (by assumption) | exact bel3 (by assumption) | exact bel4 (by assumption) | refine Below.drew ?_ | refine below_drewN ?_ _ | refine Below.setCell ?_ (by first | (simp; done) | (simp; omega)) _ | refine Below.alloc ?_ (by first | (simp; done) | (simp; omega)) _))
  have r00 := stays (p := w.heap.size) (o := 0) (by omega) (show W.cell? ⟨w.heap.size, 0, none⟩ = some ((Value.int .i64 u)) from by rw [hW]; simp [go_sem])
  have r01 := stays (p := w.heap.size) (o := 1) (by omega) (show W.cell? ⟨w.heap.size, 1, none⟩ = some ((Value.int .i64 d)) from by rw [hW]; simp [go_sem])
  have r02 := stays (p := w.heap.size) (o := 2) (by omega) (show W.cell? ⟨w.heap.size, 2, none⟩ = some ((Value.slice A x.length c)) from by rw [hW]; simp [go_sem])
  have r03 := stays (p := w.heap.size) (o := 3) (by omega) (show W.cell? ⟨w.heap.size, 3, none⟩ = some ((Value.slice B y.length k)) from by rw [hW]; simp [go_sem])
  have r10 := stays (p := w.heap.size + 1) (o := 0) (by omega) (show W.cell? ⟨w.heap.size + 1, 0, none⟩ = some ((Value.int .i64 u)) from by rw [hW]; simp [go_sem])
  have r11 := stays (p := w.heap.size + 1) (o := 1) (by omega) (show W.cell? ⟨w.heap.size + 1, 1, none⟩ = some ((Value.int .i64 d)) from by rw [hW]; simp [go_sem])
  have r12 := stays (p := w.heap.size + 1) (o := 2) (by omega) (show W.cell? ⟨w.heap.size + 1, 2, none⟩ = some ((Value.slice A' x.length c')) from by rw [hW]; simp [go_sem])
  have r13 := stays (p := w.heap.size + 1) (o := 3) (by omega) (show W.cell? ⟨w.heap.size + 1, 3, none⟩ = some ((Value.slice B' y.length k')) from by rw [hW]; simp [go_sem])
  rw [← hW]
  clear hW
  have HzW := Lib.hid hzW
  clear hzW
  refine (eqFrac_same _ _ _).mono ?_
  rintro e w1 ⟨rfl, hk⟩
  have HB1 := Lib.hid (belT hbW hk)
  go_wp2_with fail
  refine (eqIntS _ _ _ _ x _ _ hx _ (keepInts HB1.out H1.out) (keepInts HB1.out H3.out)).mono ?_
  rintro e w2 ⟨rfl, n, rfl⟩
  have hk2 : Below W.heap.size W (w1.drewN n) := below_drewN hk n
  have HB2 : Hid (Below w.heap.size w (w1.drewN n)) := below_drewN HB1.out n
  go_wp2_with fail
  refine (eqIntS _ _ _ _ y _ _ hy _ (keepInts HB2.out H2.out) (keepInts HB2.out H4.out)).mono ?_
  rintro e w3 ⟨rfl, n2, rfl⟩
  go_wp2_with fail
  go_ret
  exact Adds.of rfl (below_drewN HB1.out _)

/-- blocks are added, and nothing that was there has turned but, perhaps, the blocks of lo .. hi - 1 -/
structure OffB (lo hi : Nat) (w w' : World) : Prop where
  os : w'.os = w.os
  tape : w'.tape = w.tape
  output : w'.output = w.output
  size : w.heap.size ≤ w'.heap.size
  block : ∀ b, b < w.heap.size → ¬ (lo ≤ b ∧ b < hi) → w'.heap[b]? = w.heap[b]?

theorem OffB.below {lo hi B : Nat} {w w' : World} (h : OffB lo hi w w') (hB : B ≤ lo) (hw : lo ≤ w.heap.size) : Below B w w' := ⟨h.os, h.tape, h.output, h.size, fun k hk => h.block k (by omega) (by omega)⟩

theorem OwnI.offB {w w' : World} {lo hi lo' hi' : Nat} {A : Option Addr} {l : List Int} (h : OwnI w lo' hi' A l) (hf : OffB lo hi w w') (ho : hi' ≤ lo ∨ hi ≤ lo') (hw : hi' ≤ w.heap.size) : OwnI w' lo' hi' A l :=
  h.keep fun b h1 h2 => hf.block b (by omega) (by omega)

set_option maxHeartbeats 2000000 in
theorem markSolution (u d : Int) (A B : Option Addr) (c k : Nat) (x y : List Int) (lo hi : Nat) (m : Int) (hx : x.length ≤ 16) (hy : y.length ≤ 16) (h0 : 0 ≤ m) (h1 : m ≤ 1000) (w : World) (hlo : lo ≤ hi) (hhi : hi ≤ w.heap.size) (h : OwnI w lo hi A x) (h' : OwnI w lo hi B y)
    (hd : 0 < x.length → 0 < y.length → A.map (·.block) ≠ B.map (·.block)) :
    Calls Try.prog 48 #[.agg #[.int .i64 u, .int .i64 d, .slice A x.length c, .slice B y.length k], .int .i64 m] w fun e w' => e = .returned (.int .i64 (m + (x.length : Int) + (y.length : Int))) ∧ OffB lo hi w w' ∧ OwnI w' lo hi A (seqN m x.length) ∧ OwnI w' lo hi B (seqN (m + (x.length : Int)) y.length) := by
  have H1 := Lib.hid h
  have H2 := Lib.hid h'
  have HD := Lib.hid hd
  clear h h' hd
  go_enter Try.func48, Try.ntmps48
  go_wp2_with fail
  obtain ⟨W, hW⟩ : ∃ W : World, W = (w.alloc (.cells #[(Value.int .i64 u), (Value.int .i64 d), (Value.slice A x.length c), (Value.slice B y.length k)] 39)) := ⟨_, rfl⟩
  have hzW : W.heap.size = w.heap.size + 1 := by rw [hW]; simp
  have hbW : Below w.heap.size w W := by rw [hW]; exact (by repeat (first | exact Below.refl _ _ | assumption | exact bel1 (by assumption) | exact bel2 (by assumption) | exact bel3 (by assumption) | exact bel4 (by assumption) | refine Below.drew ?_ | refine below_drewN ?_ _ | refine Below.setCell ?_ (by first | (simp; done) | (simp; omega)) _ | refine Below.alloc ?_ (by first | (simp; done) | (simp; omega)) _))
  have r00 := stays (p := w.heap.size) (o := 0) (by omega) (show W.cell? ⟨w.heap.size, 0, none⟩ = some ((Value.int .i64 u)) from by rw [hW]; simp [go_sem])
  have r01 := stays (p := w.heap.size) (o := 1) (by omega) (show W.cell? ⟨w.heap.size, 1, none⟩ = some ((Value.int .i64 d)) from by rw [hW]; simp [go_sem])
  have r02 := stays (p := w.heap.size) (o := 2) (by omega) (show W.cell? ⟨w.heap.size, 2, none⟩ = some ((Value.slice A x.length c)) from by rw [hW]; simp [go_sem])
  have r03 := stays (p := w.heap.size) (o := 3) (by omega) (show W.cell? ⟨w.heap.size, 3, none⟩ = some ((Value.slice B y.length k)) from by rw [hW]; simp [go_sem])
  rw [← hW]
  clear hW
  have HzW := Lib.hid hzW
  clear hzW
  have e02 := r02 _ (Below.refl _ _)
  have e03 := r03 _ (Below.refl _ _)
  have hO1 : OwnI W lo hi A x := H1.out.keep fun b _ hb => hbW.block b (by omega)
  have hO2 : OwnI W lo hi B y := H2.out.keep fun b _ hb => hbW.block b (by omega)
  have HO1 := Lib.hid hO1
  have HO2 := Lib.hid hO2
  clear r00 r01 r02 r03 hO1 hO2
  go_wp2_with fail
  refine (markIntS _ _ x _ _ m (by omega) (by omega) (by omega) _ HO1.out).mono ?_
  rintro e w1 ⟨rfl, ht1, ho1⟩
  have hf1 := ht1.off HO1.out
  have HO2' := Lib.hid (HO2.out.touch ht1 HD.out)
  have HO1' := Lib.hid ho1
  have e13 : w1.cell? ⟨w.heap.size, 3, none⟩ = some (.slice B y.length k) := (World.cell?_of_block (w := W) (hf1.block w.heap.size (by omega))).trans e03
  have HF1 := Lib.hid hf1
  clear ho1 ht1 hf1 e02 e03
  go_wp2_with fail
  refine (markIntS _ _ y _ _ (m + (x.length : Int)) (by omega) (by omega) (by omega) _ HO2'.out).mono ?_
  rintro e w2 ⟨rfl, ht2, ho2⟩
  have hf2 := ht2.off HO2'.out
  have HO1'' := Lib.hid (HO1'.out.touch ht2 (fun h1 h2 e => HD.out (by simpa [seqN_length] using h2) h1 e.symm))
  have HF2 := Lib.hid hf2
  have HO2'' := Lib.hid ho2
  clear hf2 ht2 ho2 e13
  go_wp2_with fail
  go_ret
  refine ⟨by first | rfl | (simp; omega), ⟨by rw [HF2.out.os, HF1.out.os, hbW.os], by rw [HF2.out.tape, HF1.out.tape, hbW.tape], by rw [HF2.out.output, HF1.out.output, hbW.output], by rw [HF2.out.size, HF1.out.size]; exact hbW.size, fun b hb hn => ?_⟩, HO1''.out, HO2''.out⟩
  rw [HF2.out.block b hn, HF1.out.block b hn, hbW.block b hb]

set_option maxHeartbeats 2000000 in
theorem heldSolution (u d : Int) (A B : Option Addr) (c k : Nat) (x y : List Int) (S S' : Nat → Prop) (m : Int) (hx : x.length ≤ 16) (hy : y.length ≤ 16) (h0 : 0 ≤ m) (h1 : m ≤ 1000) (w : World) (hS : ∀ b, S b → b < w.heap.size) (hS' : ∀ b, S' b → b < w.heap.size) (h : Ints w S A (seqN m x.length)) (h' : Ints w S' B (seqN (m + (x.length : Int)) y.length)) :
    Calls Try.prog 49 #[.agg #[.int .i64 u, .int .i64 d, .slice A x.length c, .slice B y.length k], .int .i64 m] w (Adds (.int .i64 (m + (x.length : Int) + (y.length : Int))) w) := by
  have H1 := Lib.hid h
  have H2 := Lib.hid h'
  clear h h'
  go_enter Try.func49, Try.ntmps49
  go_wp2_with fail
  obtain ⟨W, hW⟩ : ∃ W : World, W = (w.alloc (.cells #[(Value.int .i64 u), (Value.int .i64 d), (Value.slice A x.length c), (Value.slice B y.length k)] 39)) := ⟨_, rfl⟩
  have hzW : W.heap.size = w.heap.size + 1 := by rw [hW]; simp
  have hbW : Below w.heap.size w W := by rw [hW]; exact (by repeat (first | exact Below.refl _ _ | assumption | exact bel1 (by assumption) | exact bel2 (by assumption) | exact bel3 (by assumption) | exact bel4 (by assumption) | refine Below.drew ?_ | refine below_drewN ?_ _ | refine Below.setCell ?_ (by first | (simp; done) | (simp; omega)) _ | refine Below.alloc ?_ (by first | (simp; done) | (simp; omega)) _))
  have r00 := stays (p := w.heap.size) (o := 0) (by omega) (show W.cell? ⟨w.heap.size, 0, none⟩ = some ((Value.int .i64 u)) from by rw [hW]; simp [go_sem])
  have r01 := stays (p := w.heap.size) (o := 1) (by omega) (show W.cell? ⟨w.heap.size, 1, none⟩ = some ((Value.int .i64 d)) from by rw [hW]; simp [go_sem])
  have r02 := stays (p := w.heap.size) (o := 2) (by omega) (show W.cell? ⟨w.heap.size, 2, none⟩ = some ((Value.slice A x.length c)) from by rw [hW]; simp [go_sem])
  have r03 := stays (p := w.heap.size) (o := 3) (by omega) (show W.cell? ⟨w.heap.size, 3, none⟩ = some ((Value.slice B y.length k)) from by rw [hW]; simp [go_sem])
  rw [← hW]
  clear hW
  have HzW := Lib.hid hzW
  clear hzW
  have e02 := r02 _ (Below.refl _ _)
  have e03 := r03 _ (Below.refl _ _)
  have HO1 : Hid (Ints W S A (seqN m x.length)) := H1.out.keep fun b hb => hbW.block b (hS b hb)
  have HO2 : Hid (Ints W S' B (seqN (m + (x.length : Int)) y.length)) := H2.out.keep fun b hb => hbW.block b (hS' b hb)
  clear r00 r01 r02 r03
  go_wp2_with fail
  refine (heldIntS _ _ x.length _ m (by omega) (by omega) (by omega) _ HO1.out).mono ?_
  rintro e w1 ⟨rfl, rfl⟩
  go_wp2_with fail
  refine (heldIntS _ _ y.length _ (m + (x.length : Int)) (by omega) (by omega) (by omega) _ HO2.out).mono ?_
  rintro e w1 ⟨rfl, rfl⟩
  go_wp2_with fail
  go_ret
  exact Adds.of rfl hbW

end Go.Proofs.Ytgjbahlebhnoiaa
