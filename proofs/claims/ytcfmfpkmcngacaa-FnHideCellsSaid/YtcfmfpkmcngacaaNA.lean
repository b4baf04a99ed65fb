/- Texts in one: DrawFd, DrawFe. -/
import Derived.Test.YtcfmfpkmcngacaaMH
import Derived.Test.YtcfmfpkmcngacaaMX
namespace Go.Proofs.Ytcfmfpkmcngacaa
set_option linter.unusedSimpArgs false
set_option linter.unusedVariables false
open Go.RowKit

/-- a drawn field -/
def DrawnFd (w : World) (e : Ending) (w' : World) : Prop :=
  ∃ R C S : Int, e = .returned (fldV R C S) ∧ (0 ≤ R ∧ R ≤ 5 ∧ 0 ≤ C ∧ C ≤ 5 ∧ (Lit.int .i64 S).wf = true) ∧ Below w.heap.size w w'

/-- the same, from a reader on -/
def DrawnFR (n : Nat) (w : World) (e : Ending) (w' : World) : Prop :=
  ∃ R C S : Int, e = .returned (fldV R C S) ∧ (0 ≤ R ∧ R ≤ 5 ∧ 0 ≤ C ∧ C ≤ 5 ∧ (Lit.int .i64 S).wf = true) ∧ Kept n w w'

/-- a field in its block, whatever its cells are; all other blocks but the reader's are as they were -/
structure FldS (n : Nat) (W : World) (b : Nat) (R C : Int) (w' : World) : Prop where
  size : W.heap.size ≤ w'.heap.size
  block : ∀ c, c < W.heap.size → c ≠ n → c ≠ b → w'.heap[c]? = W.heap[c]?
  row : ∃ z : Int, w'.rowIs b 24 3 (fun i => (#[.int .i64 R, .int .i64 C, .int .i64 z] : Array Value).getD i undef)

def zOf (w : World) (b : Nat) : Int := intOf ((w.cell? ⟨b, 2, none⟩).getD undef)

theorem FldS.drew {n b : Nat} {R C : Int} {W w' : World} (h : FldS n W b R C w') : FldS n W b R C w'.drew := ⟨h.size, h.block, h.row⟩

theorem FldS.call {n b : Nat} {R C : Int} {W w1 w2 : World} (hk : Kept n w1 w2) (hb : b < W.heap.size) (hn : b ≠ n) (h : FldS n W b R C w1) : FldS n W b R C w2 := by
  obtain ⟨z, hf⟩ := h.row
  have hs := h.size
  exact ⟨Nat.le_trans h.size hk.size, fun c hc h1 h2 => (hk.block c (by omega) h1).trans (h.block c hc h1 h2), z, hf.of_block (hk.block b (by omega) hn)⟩

theorem FldS.store {n b : Nat} {R C : Int} {W w1 : World} (z : Int) (h : FldS n W b R C w1) : FldS n W b R C (w1.setCell ⟨b, 2, none⟩ (.int .i64 z)) := by
  obtain ⟨z0, hf⟩ := h.row
  refine ⟨by simpa [World.setCell] using h.size, fun c hc h1 h2 => (Deep.blk_setCell_other _ _ _ _ (by simpa using h2)).trans (h.block c hc h1 h2), z, (hf.set 2 (.int .i64 z)).congr fun i hi => ?_⟩
  have : i = 0 ∨ i = 1 ∨ i = 2 := by omega
  rcases this with rfl | rfl | rfl <;> rfl

theorem FldS.cell {n b : Nat} {R C : Int} {W w' : World} (h : FldS n W b R C w') : w'.cell? ⟨b, 2, none⟩ = some (.int .i64 (zOf w' b)) := by
  obtain ⟨z, hf⟩ := h.row
  have := hf.cell (i := 2) (by omega)
  unfold zOf; rw [this]; rfl

theorem FldS.cells {n b : Nat} {R C : Int} {W w' : World} (h : FldS n W b R C w') : w'.cell? ⟨b, 0, none⟩ = some (.int .i64 R) ∧ w'.cell? ⟨b, 1, none⟩ = some (.int .i64 C) := by
  obtain ⟨z, hf⟩ := h.row
  exact ⟨hf.cell (i := 0) (by omega), hf.cell (i := 1) (by omega)⟩

theorem FldS.frozen {n b : Nat} {R C : Int} {W w' : World} (h : FldS n W b R C w') (o : Nat) : w'.frozen? ⟨b, o, none⟩ = false := by
  obtain ⟨z, hf⟩ := h.row
  exact hf.frozen o

/-- a field that is drawn: its block, the reader, all else as it was -/
structure FldR (n : Nat) (w : World) (b : Nat) (R C : Int) (a : Option Addr) (len cap : Nat) (zs : List Int) (q : Int) (V : World) : Prop where
  kept : Kept n w V
  rd : Reader n V a len cap zs q
  row : ∃ z : Int, (Lit.int .i64 z).wf = true ∧ V.rowIs b 24 3 (fun i => (#[.int .i64 R, .int .i64 C, .int .i64 z] : Array Value).getD i undef)
  lt : b < V.heap.size
  res : ∃ f, V.rowIs w.heap.size 24 3 f

theorem FldR.pick {n b : Nat} {w V V' : World} {R C : Int} {a : Option Addr} {len cap : Nat} {zs : List Int} {q q' : Int} (h : FldR n w b R C a len cap zs q V) (hn : b ≠ n) (hnw : n < w.heap.size) (hwb : w.heap.size < b) (k : Kept n V V') (r : Reader n V' a len cap zs q') : FldR n w b R C a len cap zs q' V' := by
  have hlt := h.lt
  obtain ⟨z, hw, hz⟩ := h.row
  exact ⟨h.kept.trans k, r, ⟨z, hw, hz.of_block (k.block b h.lt hn)⟩, Nat.lt_of_lt_of_le h.lt k.size, h.res.elim fun f hf => ⟨f, hf.of_block (k.block _ (by omega) (by omega))⟩⟩

theorem FldR.store {n b : Nat} {w V : World} {R C : Int} {a : Option Addr} {len cap : Nat} {zs : List Int} {q : Int} (h : FldR n w b R C a len cap zs q V) (hn : n < b) (hw' : w.heap.size < b) (z : Int) (hwz : (Lit.int .i64 z).wf = true) : FldR n w b R C a len cap zs q (V.setCell ⟨b, 2, none⟩ (.int .i64 z)) := by
  obtain ⟨z0, _, hf⟩ := h.row
  have hw : w.heap.size ≤ b := by omega
  refine ⟨h.kept.setNew (q := ⟨b, 2, none⟩) hw _, h.rd.setFar (q := ⟨b, 2, none⟩) hn _, ⟨z, hwz, (hf.set 2 (.int .i64 z)).congr fun i hi => ?_⟩, by simpa [World.setCell] using h.lt, h.res.elim fun f hf => ⟨f, hf.of_block (Deep.blk_setCell_other _ _ _ _ (by show w.heap.size ≠ b; omega))⟩⟩
  have : i = 0 ∨ i = 1 ∨ i = 2 := by omega
  rcases this with rfl | rfl | rfl <;> rfl

theorem FldR.s {n b : Nat} {w V : World} {R C : Int} {a : Option Addr} {len cap : Nat} {zs : List Int} {q : Int} (h : FldR n w b R C a len cap zs q V) : FldS n V b R C V := ⟨Nat.le_refl _, fun _ _ _ _ => rfl, h.row.elim fun z hz => ⟨z, hz.2⟩⟩

theorem FldR.wf {n b : Nat} {w V : World} {R C : Int} {a : Option Addr} {len cap : Nat} {zs : List Int} {q : Int} (h : FldR n w b R C a len cap zs q V) : (Lit.int .i64 (zOf V b)).wf = true := by
  obtain ⟨z, hz, hr⟩ := h.row
  have := hr.cell (i := 2) (by omega)
  unfold zOf; rw [this]; exact hz

theorem wf_16 {z : Int} (h0 : 0 ≤ z) (h1 : z ≤ 65536) : (Lit.int .i64 z).wf = true := by simp [Lit.wf, IntKind.min, IntKind.max, IntKind.signed, IntKind.bits]; omega

theorem use_store {n b : Nat} {w V : World} {R C : Int} {a : Option Addr} {len cap : Nat} {zs : List Int} {q z : Int} {Q : World → Prop} (h : ∀ W, FldR n w b R C a len cap zs q W → Q W) (hf : FldR n w b R C a len cap zs q V) (hn : n < b) (hw : w.heap.size < b) (hz : (Lit.int .i64 z).wf = true) : Q (V.setCell ⟨b, 2, none⟩ (.int .i64 z)) := h _ (hf.store hn hw z hz)

set_option maxHeartbeats 4000000 in
set_option maxRecDepth 100000 in
theorem l20Field (n : Nat) (w : World) (a : Option Addr) (len cap : Nat) (zs : List Int) (p m : Int) (h : Reader n w a len cap zs p) (hp : p < 18000) (hm : 1 ≤ m) (hm' : m ≤ 30000) :
    Calls Try.prog 50 #[.pointer (some ⟨n, 0, none⟩), .int .i64 m] w (DrawnFR n w) := by
  have hnw := h.lt
  have HR0 := Lib.hid h
  clear h
  obtain ⟨W0, hW0⟩ : ∃ W0, W0 = w.alloc (.cells #[.int .i64 0, .int .i64 0, .int .i64 0] 24) := ⟨_, rfl⟩
  have hz0 : W0.heap.size = w.heap.size + 1 := by rw [hW0]; simp
  have hb0 : Below w.heap.size w W0 := by rw [hW0]; exact (Below.refl _ _).alloc (Nat.le_refl _) _
  have hr0 : ∃ f, W0.rowIs w.heap.size 24 3 f := ⟨_, by rw [hW0]; exact World.rowIs_alloc w #[.int .i64 0, .int .i64 0, .int .i64 0] 24 (fun i => (#[.int .i64 0, .int .i64 0, .int .i64 0] : Array Value).getD i undef) (fun i hi => by simp at hi; have : i = 0 ∨ i = 1 ∨ i = 2 := (by omega); rcases this with rfl | rfl | rfl <;> rfl)⟩
  have HR := Lib.hid (HR0.out.of_below hb0)
  have HK := Lib.hid (Kept.of_below (n := n) hb0)
  have HW0 := Lib.hid hW0
  have HROW := Lib.hid hr0
  clear hW0 hb0 HR0 hr0
  go_enter Try.func50, Try.ntmps50
  go_wp2_with fail
  rw [← HW0.out]
  refine (pick n W0 a len cap zs p 4 HR.out (by omega) (by omega) (by omega)).mono ?_
  intro e w1 hP1
  obtain ⟨x, rfl, x0, x1, k1, R1⟩ := hP1
  have HK1 := Lib.hid (HK.out.trans k1)
  have HR1 := Lib.hid R1
  have hs1 := k1.size
  have hr1 : Hid (∃ f, w1.rowIs w.heap.size 24 3 f) := by obtain ⟨f, hf⟩ := HROW.out; exact ⟨f, hf.of_block (k1.block _ (by omega) (by omega))⟩
  clear k1 R1 HK HR HROW HW0
  have e1 : IntKind.i64.wrap (1 + x) = 1 + x := IntWalk.i64_in _ ⟨by omega, by omega⟩
  go_wp2_with fail
  refine (pick n w1 a len cap zs (p + 1) 4 HR1.out (by omega) (by omega) (by omega)).mono ?_
  intro e w2 hP2
  obtain ⟨y, rfl, y0, y1, k2, R2⟩ := hP2
  have HK2 := Lib.hid (HK1.out.trans k2)
  have HR2 := Lib.hid R2
  have hs2 := k2.size
  obtain ⟨f2, hf2⟩ : ∃ f, w2.rowIs w.heap.size 24 3 f := by obtain ⟨f, hf⟩ := hr1.out; exact ⟨f, hf.of_block (k2.block _ (by omega) (by omega))⟩
  clear k2 R2 HK1 HR1 hr1
  have e2 : IntKind.i64.wrap (1 + y) = 1 + y := IntWalk.i64_in _ ⟨by omega, by omega⟩
  have c0 := hf2.cell (i := 0) (by omega)
  have c1 := hf2.cell (i := 1) (by omega)
  have c2 := hf2.cell (i := 2) (by omega)
  have z0 := hf2.frozen 0
  have z1 := hf2.frozen 1
  have z2 := hf2.frozen 2
  obtain ⟨k, hk, hk1, hk16⟩ : ∃ k : Nat, (1 + x) * (1 + y) = (k : Int) ∧ 1 ≤ k ∧ k ≤ 16 := by
    have hx : x = 0 ∨ x = 1 ∨ x = 2 ∨ x = 3 := by omega
    have hy : y = 0 ∨ y = 1 ∨ y = 2 ∨ y = 3 := by omega
    exact ⟨((1 + x) * (1 + y)).toNat, by rcases hx with rfl | rfl | rfl | rfl <;> rcases hy with rfl | rfl | rfl | rfl <;> decide, by rcases hx with rfl | rfl | rfl | rfl <;> rcases hy with rfl | rfl | rfl | rfl <;> decide, by rcases hx with rfl | rfl | rfl | rfl <;> rcases hy with rfl | rfl | rfl | rfl <;> decide⟩
  obtain ⟨N, hN⟩ : ∃ N : Nat, 2 ^ k = N := ⟨_, rfl⟩
  have hN2 : N ≤ 65536 := by have := (pw16 hk16).2.2.2; rw [hN] at this; omega
  have hN1 : 1 ≤ N := by rw [← hN]; exact Nat.one_le_two_pow
  have e9 : ¬ (N : Int) = 0 := by clear hN; omega
  have e10 : ((N : Int) == 0) = false := beq_eq_false_iff_ne.2 e9
  have e11 : ¬ N = 0 := by clear hN; omega
  have e12 : (N == 0) = false := beq_eq_false_iff_ne.2 e11
  have e7 : wrap64 (2 ^ k) = (N : Int) := by rw [(pw16 hk16).2.1, hN]
  have e8 : IntKind.i64.wrap (2 ^ k) = (N : Int) := by rw [(pw16 hk16).2.2.1, hN]
  have e3 : wrap64 ((1 + x) * (1 + y)) = (k : Int) := by rw [hk]; unfold wrap64; omega
  have e4 : IntKind.i64.wrap ((1 + x) * (1 + y)) = (k : Int) := by rw [hk]; exact IntWalk.i64_in _ ⟨by omega, by omega⟩
  clear hk hN
  go_wp2_with fail
  obtain ⟨W2, hW2⟩ : ∃ W2, W2 = w2.alloc (.cells #[.int .i64 (1 + x), .int .i64 (1 + y), .int .i64 0] 24) := ⟨_, rfl⟩
  have hz2 : W2.heap.size = w2.heap.size + 1 := by rw [hW2]; simp
  have hb2 : Below w2.heap.size w2 W2 := by rw [hW2]; exact (Below.refl _ _).alloc (Nat.le_refl _) _
  have hr2 : W2.rowIs w2.heap.size 24 3 (fun i => (#[.int .i64 (1 + x), .int .i64 (1 + y), .int .i64 0] : Array Value).getD i undef) := by
    rw [hW2]; exact World.rowIs_alloc w2 #[.int .i64 (1 + x), .int .i64 (1 + y), .int .i64 0] 24 (fun i => (#[.int .i64 (1 + x), .int .i64 (1 + y), .int .i64 0] : Array Value).getD i undef) (fun i hi => by simp at hi; have : i = 0 ∨ i = 1 ∨ i = 2 := (by omega); rcases this with rfl | rfl | rfl <;> rfl)
  have HK3 := Lib.hid (HK2.out.trans (Kept.of_below (n := n) hb2))
  have RA := HR2.out.of_below hb2
  have RB : Reader n W2.drew a len cap zs (p + 1 + 1) := RA.of_below (Below.refl _ _).drew
  rw [← hW2]
  obtain ⟨b, hb⟩ : ∃ b, b = w2.heap.size := ⟨_, rfl⟩
  rw [← hb] at hr2 hz2 ⊢
  have hbn : b ≠ n := by have := HK2.out.size; omega
  have hbw : w.heap.size < b := by omega
  have HRES : Hid (∃ f, W2.rowIs w.heap.size 24 3 f) := ⟨f2, hf2.of_block (hb2.block _ (by omega))⟩
  have HX : Hid (0 ≤ x ∧ x < 4 ∧ 0 ≤ y ∧ y < 4) := ⟨x0, x1, y0, y1⟩
  have hbl : b < W2.heap.size := by omega
  have HF2 : Hid (FldR n w b (1 + x) (1 + y) a len cap zs (p + 1 + 1) W2) := ⟨HK3.out, RA, ⟨0, wf_16 (by omega) (by omega), hr2⟩, hbl, HRES.out⟩
  have P0 := HF2.out.s
  have E4 : ∀ w1, FldS n W2 b (1 + x) (1 + y) w1 → w1.cell? ⟨b, 2, none⟩ = some (.int .i64 (zOf w1 b)) := fun _ h => h.cell
  have E5 : ∀ w1, FldS n W2 b (1 + x) (1 + y) w1 → w1.frozen? ⟨b, 2, none⟩ = false := fun _ h => h.frozen 2
  clear hW2 hb2 hb c0 c1 c2 z0 z1 z2 hf2 HR2 HK2 e1 e2 e3 e4 x0 x1 y0 y1 hr2 hz2 hs1 hs2 hz0
  go_region_held3 (fun w' => FldS n W2 b (1 + x) (1 + y) w')
    (first | assumption | exact FldS.drew (by assumption) | exact FldS.call (by assumption) hbl hbn (by assumption) | exact FldS.store _ (by assumption))
    (first | (go_at_call 83; refine (pick n _ a len cap zs (p + 1 + 1 + 1) 256 (by first | exact R6 | exact R6.of_below (Below.refl _ _).drew) (by omega) (by omega) (by omega)).mono ?_; intro e w7 hP7; obtain ⟨v7, rfl, v70, v71, k7, R7⟩ := hP7) | (go_at_call 83; refine (pick n _ a len cap zs (p + 1 + 1) 256 (by first | exact RA | exact RB) (by omega) (by omega) (by omega)).mono ?_; intro e w6 hP; obtain ⟨v6, rfl, v60, v61, k6, R6⟩ := hP))
  have HF3 : Hid (FldR n w b (1 + x) (1 + y) a len cap zs (p + 1 + 1 + 1 + 1) (w7.setCell ⟨b, 2, none⟩ (.int .i64 ((v6 * 256 + v7) % (N : Int))))) :=
    ((HF2.out.pick hbn hnw hbw ((Kept.refl n W2).drew.trans k6) R6).pick hbn hnw hbw k7 R7).store (by omega) hbw _ (wf_16 (Int.emod_nonneg _ e9) (by have := Int.emod_lt_of_pos (v6 * 256 + v7) (show (0 : Int) < (N : Int) by omega); omega))
  have hzz : (IntKind.i64.wrap (IntKind.i64.wrap (v6 * 256) + v7)).tmod (N : Int) = (v6 * 256 + v7) % (N : Int) := by
    rw [IntWalk.i64_in (v6 * 256) ⟨by omega, by omega⟩, IntWalk.i64_in (v6 * 256 + v7) ⟨by omega, by omega⟩, Int.tmod_eq_emod_of_nonneg (by omega)]
  try rw [hzz]
  clear hzz
  obtain ⟨W3, hW3⟩ : ∃ W3, W3 = (w7.setCell ⟨b, 2, none⟩ (.int .i64 ((v6 * 256 + v7) % (N : Int)))) := ⟨_, rfl⟩
  rw [← hW3] at HF3 ⊢
  clear hW3 HF2 P0 k6 k7 R6 R7 RA RB v60 v61 v70 v71 E4 E5 HK3 e7 e8 e9 e10 e11 e12 hN1 hN2 hbl
  go_wp2_with fail
  refine (pick n W3 a len cap zs (p + 1 + 1 + 1 + 1) 2 HF3.out.rd (by omega) (by omega) (by omega)).mono ?_
  intro e w8 hP8
  obtain ⟨v8, rfl, v80, v81, k8, R8⟩ := hP8
  have HF4 := Lib.hid (HF3.out.pick hbn hnw hbw k8 R8)
  clear k8 R8 HF3
  have hv8 : v8 = 0 ∨ v8 = 1 := by omega
  clear v80 v81
  have E4 : ∀ w1, FldS n w8 b (1 + x) (1 + y) w1 → w1.cell? ⟨b, 2, none⟩ = some (.int .i64 (zOf w1 b)) := fun _ h => h.cell
  have E5 : ∀ w1, FldS n w8 b (1 + x) (1 + y) w1 → w1.frozen? ⟨b, 2, none⟩ = false := fun _ h => h.frozen 2
  have P0 := HF4.out.s
  have hbl := HF4.out.lt
  have RA := HF4.out.rd
  have RB : Reader n w8.drew a len cap zs (p + 1 + 1 + 1 + 1 + 1) := RA.of_below (Below.refl _ _).drew
  rcases hv8 with rfl | rfl
  · go_wp2_with fail
    go_cut [] (fun wx => Hid (FldR n w b (1 + x) (1 + y) a len cap zs (p + 1 + 1 + 1 + 1 + 1 + 1 + 1) wx))
    case first =>
      refine wp_region_held_drew (S := fun w' => FldS n w8 b (1 + x) (1 + y) w') (by kernel_rfl) (by first | exact FldS.drew (by assumption)) (fun hHeld => ?_)
      refine wpAnyH_take (i := 0) (v := ?vh1) rfl (by kernel_rfl) (by kernel_rfl) (by kernel_rfl) (fun _ _ _ h => h) (Or.inl ⟨by rfl, ?yh1⟩) (by assumption) ?zh1
      case yh1 => (intro w hSw; go_simp; first | done | with_reducible rfl)
      try simp only [List.getElem_toArray, List.getElem_cons_succ, List.getElem_cons_zero, Act.put, List.setIfInBounds_toArray, List.set_cons_zero, List.set_cons_succ]
      refine wpAnyH_take (i := 2) (v := ?vh2) rfl (by kernel_rfl) (by kernel_rfl) (by kernel_rfl) (fun _ _ _ h => h) (Or.inl ⟨by rfl, ?yh2⟩) (by assumption) ?zh2
      case yh2 => (intro w hSw; go_simp; first | done | with_reducible rfl)
      try simp only [List.getElem_toArray, List.getElem_cons_succ, List.getElem_cons_zero, Act.put, List.setIfInBounds_toArray, List.set_cons_zero, List.set_cons_succ]
      refine wpAnyH_take (i := 5) (v := ?vh3) rfl (by kernel_rfl) (by kernel_rfl) (by kernel_rfl) (fun _ _ _ h => h) (Or.inl ⟨by rfl, ?yh3⟩) (by assumption) ?zh3
      case yh3 => (intro w hSw; go_simp; first | done | with_reducible rfl)
      try simp only [List.getElem_toArray, List.getElem_cons_succ, List.getElem_cons_zero, Act.put, List.setIfInBounds_toArray, List.set_cons_zero, List.set_cons_succ]
      refine wpAnyH_ready (rs := [1, 3]) (by kernel_rfl) (by simp) ?_
      refine AllReadyH.cons rfl (fun K hK => ?_) (AllReadyH.cons rfl (fun K hK => ?_) AllReadyH.nil)
      · go_simp
        refine hK.out _ _ (by first | assumption | exact FldS.drew (by assumption) | exact FldS.call (by assumption) hbl hbn (by assumption) | exact FldS.store _ (by assumption)) (fun hHeld => ?_)
        clear hK K
        try simp only [List.getElem_toArray, List.getElem_cons_succ, List.getElem_cons_zero, Act.put, List.setIfInBounds_toArray, List.set_cons_zero, List.set_cons_succ]
        refine wpAnyH_ready (rs := [3]) (by kernel_rfl) (by simp) ?_
        refine AllReadyH.cons rfl (fun K hK => ?_) AllReadyH.nil
        go_simp
        (go_at_call 83; refine (pick n _ a len cap zs (p + 1 + 1 + 1 + 1 + 1) 256 (by first | exact RA | exact RB) (by omega) (by omega) (by omega)).mono ?_; intro e w9 hP; obtain ⟨v9, rfl, v90, v91, k9, R9⟩ := hP)
        refine hK.out _ _ (by first | assumption | exact FldS.drew (by assumption) | exact FldS.call (by assumption) hbl hbn (by assumption) | exact FldS.store _ (by assumption)) (fun hHeld => ?_)
        clear hK K
        try simp only [List.getElem_toArray, List.getElem_cons_succ, List.getElem_cons_zero, Act.put, List.setIfInBounds_toArray, List.set_cons_zero, List.set_cons_succ]
        refine wpAnyH_take (i := 4) (v := ?vh4) rfl (by kernel_rfl) (by kernel_rfl) (by kernel_rfl) (fun _ _ _ h => h) (Or.inl ⟨by rfl, ?yh4⟩) (by assumption) ?zh4
        case yh4 => (intro w hSw; go_simp; first | done | with_reducible rfl)
        try simp only [List.getElem_toArray, List.getElem_cons_succ, List.getElem_cons_zero, Act.put, List.setIfInBounds_toArray, List.set_cons_zero, List.set_cons_succ]
        refine wpAnyH_ready (rs := [6]) (by kernel_rfl) (by simp) ?_
        refine AllReadyH.cons rfl (fun K hK => ?_) AllReadyH.nil
        go_simp
        (go_at_call 83; refine (pick n _ a len cap zs (p + 1 + 1 + 1 + 1 + 1 + 1) 256 (by first | exact R9 | exact R9.of_below (Below.refl _ _).drew) (by omega) (by omega) (by omega)).mono ?_; intro e w10 hP10; obtain ⟨v10, rfl, v100, v101, k10, R10⟩ := hP10)
        refine hK.out _ _ (by first | assumption | exact FldS.drew (by assumption) | exact FldS.call (by assumption) hbl hbn (by assumption) | exact FldS.store _ (by assumption)) (fun hHeld => ?_)
        clear hK K
        try simp only [List.getElem_toArray, List.getElem_cons_succ, List.getElem_cons_zero, Act.put, List.setIfInBounds_toArray, List.set_cons_zero, List.set_cons_succ]
        refine wpAnyH_take (i := 7) (v := ?vh5) rfl (by kernel_rfl) (by kernel_rfl) (by kernel_rfl) (fun _ _ _ h => h) (Or.inl ⟨by rfl, ?yh5⟩) (by assumption) ?zh5
        case yh5 => (intro w hSw; go_simp; first | done | with_reducible rfl)
        try simp only [List.getElem_toArray, List.getElem_cons_succ, List.getElem_cons_zero, Act.put, List.setIfInBounds_toArray, List.set_cons_zero, List.set_cons_succ]
        refine wpAnyH_take (i := 8) (v := ?vh6) rfl (by kernel_rfl) (by kernel_rfl) (by kernel_rfl) (fun _ _ _ h => h) (Or.inl ⟨by rfl, ?yh6⟩) (by assumption) ?zh6
        case yh6 => (intro w hSw; go_simp; first | done | with_reducible rfl)
        try simp only [List.getElem_toArray, List.getElem_cons_succ, List.getElem_cons_zero, Act.put, List.setIfInBounds_toArray, List.set_cons_zero, List.set_cons_succ]
        refine wpAnyH_take (i := 9) (v := ?vh7) rfl (by kernel_rfl) (by kernel_rfl) (by kernel_rfl) (fun _ _ _ h => h) (Or.inl ⟨by rfl, ?yh7⟩) (by assumption) ?zh7
        case yh7 => (intro w hSw; go_simp; first | done | with_reducible rfl)
        try simp only [List.getElem_toArray, List.getElem_cons_succ, List.getElem_cons_zero, Act.put, List.setIfInBounds_toArray, List.set_cons_zero, List.set_cons_succ]
        refine wpAnyH_ready (rs := [10]) (by kernel_rfl) (by simp) ?_
        refine AllReadyH.cons rfl (fun K hK => ?_) AllReadyH.nil
        go_simp
        refine hK.out _ _ (by first | assumption | exact FldS.drew (by assumption) | exact FldS.call (by assumption) hbl hbn (by assumption) | exact FldS.store _ (by assumption)) (fun hHeld => ?_)
        clear hK K
        try simp only [List.getElem_toArray, List.getElem_cons_succ, List.getElem_cons_zero, Act.put, List.setIfInBounds_toArray, List.set_cons_zero, List.set_cons_succ]
        refine wpAnyH_done (by kernel_rfl) ?_ _
        go_wp2_with fail
        go_meet
        exact ((HF4.out.pick hbn hnw hbw (by first | exact k9 | exact (Kept.refl n w8).drew.trans k9) R9).pick hbn hnw hbw (by first | exact k10 | exact (Kept.refl n w9).drew.trans k10) R10).store (by omega) hbw _ (wf_bits _ _ _ _)
      · go_simp
        (go_at_call 83; refine (pick n _ a len cap zs (p + 1 + 1 + 1 + 1 + 1) 256 (by first | exact RA | exact RB) (by omega) (by omega) (by omega)).mono ?_; intro e w9 hP; obtain ⟨v9, rfl, v90, v91, k9, R9⟩ := hP)
        refine hK.out _ _ (by first | assumption | exact FldS.drew (by assumption) | exact FldS.call (by assumption) hbl hbn (by assumption) | exact FldS.store _ (by assumption)) (fun hHeld => ?_)
        clear hK K
        try simp only [List.getElem_toArray, List.getElem_cons_succ, List.getElem_cons_zero, Act.put, List.setIfInBounds_toArray, List.set_cons_zero, List.set_cons_succ]
        refine wpAnyH_take (i := 4) (v := ?vh8) rfl (by kernel_rfl) (by kernel_rfl) (by kernel_rfl) (fun _ _ _ h => h) (Or.inl ⟨by rfl, ?yh8⟩) (by assumption) ?zh8
        case yh8 => (intro w hSw; go_simp; first | done | with_reducible rfl)
        try simp only [List.getElem_toArray, List.getElem_cons_succ, List.getElem_cons_zero, Act.put, List.setIfInBounds_toArray, List.set_cons_zero, List.set_cons_succ]
        refine wpAnyH_ready (rs := [1, 6]) (by kernel_rfl) (by simp) ?_
        refine AllReadyH.cons rfl (fun K hK => ?_) (AllReadyH.cons rfl (fun K hK => ?_) AllReadyH.nil)
        · go_simp
          refine hK.out _ _ (by first | assumption | exact FldS.drew (by assumption) | exact FldS.call (by assumption) hbl hbn (by assumption) | exact FldS.store _ (by assumption)) (fun hHeld => ?_)
          clear hK K
          try simp only [List.getElem_toArray, List.getElem_cons_succ, List.getElem_cons_zero, Act.put, List.setIfInBounds_toArray, List.set_cons_zero, List.set_cons_succ]
          refine wpAnyH_ready (rs := [6]) (by kernel_rfl) (by simp) ?_
          refine AllReadyH.cons rfl (fun K hK => ?_) AllReadyH.nil
          go_simp
          (go_at_call 83; refine (pick n _ a len cap zs (p + 1 + 1 + 1 + 1 + 1 + 1) 256 (by first | exact R9 | exact R9.of_below (Below.refl _ _).drew) (by omega) (by omega) (by omega)).mono ?_; intro e w10 hP10; obtain ⟨v10, rfl, v100, v101, k10, R10⟩ := hP10)
          refine hK.out _ _ (by first | assumption | exact FldS.drew (by assumption) | exact FldS.call (by assumption) hbl hbn (by assumption) | exact FldS.store _ (by assumption)) (fun hHeld => ?_)
          clear hK K
          try simp only [List.getElem_toArray, List.getElem_cons_succ, List.getElem_cons_zero, Act.put, List.setIfInBounds_toArray, List.set_cons_zero, List.set_cons_succ]
          refine wpAnyH_take (i := 7) (v := ?vh9) rfl (by kernel_rfl) (by kernel_rfl) (by kernel_rfl) (fun _ _ _ h => h) (Or.inl ⟨by rfl, ?yh9⟩) (by assumption) ?zh9
          case yh9 => (intro w hSw; go_simp; first | done | with_reducible rfl)
          try simp only [List.getElem_toArray, List.getElem_cons_succ, List.getElem_cons_zero, Act.put, List.setIfInBounds_toArray, List.set_cons_zero, List.set_cons_succ]
          refine wpAnyH_take (i := 8) (v := ?vh10) rfl (by kernel_rfl) (by kernel_rfl) (by kernel_rfl) (fun _ _ _ h => h) (Or.inl ⟨by rfl, ?yh10⟩) (by assumption) ?zh10
          case yh10 => (intro w hSw; go_simp; first | done | with_reducible rfl)
          try simp only [List.getElem_toArray, List.getElem_cons_succ, List.getElem_cons_zero, Act.put, List.setIfInBounds_toArray, List.set_cons_zero, List.set_cons_succ]
          refine wpAnyH_take (i := 9) (v := ?vh11) rfl (by kernel_rfl) (by kernel_rfl) (by kernel_rfl) (fun _ _ _ h => h) (Or.inl ⟨by rfl, ?yh11⟩) (by assumption) ?zh11
          case yh11 => (intro w hSw; go_simp; first | done | with_reducible rfl)
          try simp only [List.getElem_toArray, List.getElem_cons_succ, List.getElem_cons_zero, Act.put, List.setIfInBounds_toArray, List.set_cons_zero, List.set_cons_succ]
          refine wpAnyH_ready (rs := [10]) (by kernel_rfl) (by simp) ?_
          refine AllReadyH.cons rfl (fun K hK => ?_) AllReadyH.nil
          go_simp
          refine hK.out _ _ (by first | assumption | exact FldS.drew (by assumption) | exact FldS.call (by assumption) hbl hbn (by assumption) | exact FldS.store _ (by assumption)) (fun hHeld => ?_)
          clear hK K
          try simp only [List.getElem_toArray, List.getElem_cons_succ, List.getElem_cons_zero, Act.put, List.setIfInBounds_toArray, List.set_cons_zero, List.set_cons_succ]
          refine wpAnyH_done (by kernel_rfl) ?_ _
          go_wp2_with fail
          go_meet
          exact ((HF4.out.pick hbn hnw hbw (by first | exact k9 | exact (Kept.refl n w8).drew.trans k9) R9).pick hbn hnw hbw (by first | exact k10 | exact (Kept.refl n w9).drew.trans k10) R10).store (by omega) hbw _ (wf_bits _ _ _ _)
        · go_simp
          (go_at_call 83; refine (pick n _ a len cap zs (p + 1 + 1 + 1 + 1 + 1 + 1) 256 (by first | exact R9 | exact R9.of_below (Below.refl _ _).drew) (by omega) (by omega) (by omega)).mono ?_; intro e w10 hP10; obtain ⟨v10, rfl, v100, v101, k10, R10⟩ := hP10)
          refine hK.out _ _ (by first | assumption | exact FldS.drew (by assumption) | exact FldS.call (by assumption) hbl hbn (by assumption) | exact FldS.store _ (by assumption)) (fun hHeld => ?_)
          clear hK K
          try simp only [List.getElem_toArray, List.getElem_cons_succ, List.getElem_cons_zero, Act.put, List.setIfInBounds_toArray, List.set_cons_zero, List.set_cons_succ]
          refine wpAnyH_take (i := 7) (v := ?vh12) rfl (by kernel_rfl) (by kernel_rfl) (by kernel_rfl) (fun _ _ _ h => h) (Or.inl ⟨by rfl, ?yh12⟩) (by assumption) ?zh12
          case yh12 => (intro w hSw; go_simp; first | done | with_reducible rfl)
          try simp only [List.getElem_toArray, List.getElem_cons_succ, List.getElem_cons_zero, Act.put, List.setIfInBounds_toArray, List.set_cons_zero, List.set_cons_succ]
          refine wpAnyH_ready (rs := [1]) (by kernel_rfl) (by simp) ?_
          refine AllReadyH.cons rfl (fun K hK => ?_) AllReadyH.nil
          go_simp
          refine hK.out _ _ (by first | assumption | exact FldS.drew (by assumption) | exact FldS.call (by assumption) hbl hbn (by assumption) | exact FldS.store _ (by assumption)) (fun hHeld => ?_)
          clear hK K
          try simp only [List.getElem_toArray, List.getElem_cons_succ, List.getElem_cons_zero, Act.put, List.setIfInBounds_toArray, List.set_cons_zero, List.set_cons_succ]
          refine wpAnyH_take (i := 8) (v := ?vh13) rfl (by kernel_rfl) (by kernel_rfl) (by kernel_rfl) (fun _ _ _ h => h) (Or.inl ⟨by rfl, ?yh13⟩) (by assumption) ?zh13
          case yh13 => (intro w hSw; go_simp; first | done | with_reducible rfl)
          try simp only [List.getElem_toArray, List.getElem_cons_succ, List.getElem_cons_zero, Act.put, List.setIfInBounds_toArray, List.set_cons_zero, List.set_cons_succ]
          refine wpAnyH_take (i := 9) (v := ?vh14) rfl (by kernel_rfl) (by kernel_rfl) (by kernel_rfl) (fun _ _ _ h => h) (Or.inl ⟨by rfl, ?yh14⟩) (by assumption) ?zh14
          case yh14 => (intro w hSw; go_simp; first | done | with_reducible rfl)
          try simp only [List.getElem_toArray, List.getElem_cons_succ, List.getElem_cons_zero, Act.put, List.setIfInBounds_toArray, List.set_cons_zero, List.set_cons_succ]
          refine wpAnyH_ready (rs := [10]) (by kernel_rfl) (by simp) ?_
          refine AllReadyH.cons rfl (fun K hK => ?_) AllReadyH.nil
          go_simp
          refine hK.out _ _ (by first | assumption | exact FldS.drew (by assumption) | exact FldS.call (by assumption) hbl hbn (by assumption) | exact FldS.store _ (by assumption)) (fun hHeld => ?_)
          clear hK K
          try simp only [List.getElem_toArray, List.getElem_cons_succ, List.getElem_cons_zero, Act.put, List.setIfInBounds_toArray, List.set_cons_zero, List.set_cons_succ]
          refine wpAnyH_done (by kernel_rfl) ?_ _
          go_wp2_with fail
          go_meet
          exact ((HF4.out.pick hbn hnw hbw (by first | exact k9 | exact (Kept.refl n w8).drew.trans k9) R9).pick hbn hnw hbw (by first | exact k10 | exact (Kept.refl n w9).drew.trans k10) R10).store (by omega) hbw _ (wf_bits _ _ _ _)
    case rest =>
      obtain ⟨W5, hW5⟩ : ∃ W5, W5 = wc := ⟨_, rfl⟩
      rw [← hW5] at hcut ⊢
      have HF5 := hcut
      clear hW5 hcut RA RB E4 E5 P0 HF4 hbl
      obtain ⟨q, hq⟩ : ∃ q, q = p + 1 + 1 + 1 + 1 + 1 + 1 + 1 := ⟨_, rfl⟩
      have hq1 : q < 20000 := by omega
      rw [← hq] at HF5
      clear hq hp
      have E4 : ∀ w1, FldS n W5 b (1 + x) (1 + y) w1 → w1.cell? ⟨b, 2, none⟩ = some (.int .i64 (zOf w1 b)) := fun _ h => h.cell
      have E5 : ∀ w1, FldS n W5 b (1 + x) (1 + y) w1 → w1.frozen? ⟨b, 2, none⟩ = false := fun _ h => h.frozen 2
      have P0 := HF5.out.s
      have hbl := HF5.out.lt
      have RA := HF5.out.rd
      have RB : Reader n W5.drew a len cap zs q := RA.of_below (Below.refl _ _).drew
      go_wp2_with fail
      go_cut [] (fun wx => Hid (FldR n w b (1 + x) (1 + y) a len cap zs (q + 1) wx))
      case first =>
        refine wp_region_held_drew (S := fun w' => FldS n W5 b (1 + x) (1 + y) w') (by kernel_rfl) (by first | exact FldS.drew (by assumption)) (fun hHeld => ?_)
        refine wpAnyH_take (i := 0) (v := ?vh15) rfl (by kernel_rfl) (by kernel_rfl) (by kernel_rfl) (fun _ _ _ h => h) (Or.inl ⟨by rfl, ?yh15⟩) (by assumption) ?zh15
        case yh15 => (intro w hSw; go_simp; first | done | with_reducible rfl)
        try simp only [List.getElem_toArray, List.getElem_cons_succ, List.getElem_cons_zero, Act.put, List.setIfInBounds_toArray, List.set_cons_zero, List.set_cons_succ]
        refine wpAnyH_take (i := 2) (v := ?vh16) rfl (by kernel_rfl) (by kernel_rfl) (by kernel_rfl) (fun _ _ _ h => h) (Or.inl ⟨by rfl, ?yh16⟩) (by assumption) ?zh16
        case yh16 => (intro w hSw; go_simp; first | done | with_reducible rfl)
        try simp only [List.getElem_toArray, List.getElem_cons_succ, List.getElem_cons_zero, Act.put, List.setIfInBounds_toArray, List.set_cons_zero, List.set_cons_succ]
        refine wpAnyH_take (i := 3) (v := ?vh17) rfl (by kernel_rfl) (by kernel_rfl) (by kernel_rfl) (fun _ _ _ h => h) (Or.inl ⟨by rfl, ?yh17⟩) (by assumption) ?zh17
        case yh17 => (intro w hSw; go_simp; first | done | with_reducible rfl)
        try simp only [List.getElem_toArray, List.getElem_cons_succ, List.getElem_cons_zero, Act.put, List.setIfInBounds_toArray, List.set_cons_zero, List.set_cons_succ]
        refine wpAnyH_ready (rs := [1, 4]) (by kernel_rfl) (by simp) ?_
        refine AllReadyH.cons rfl (fun K hK => ?_) (AllReadyH.cons rfl (fun K hK => ?_) AllReadyH.nil)
        · go_simp
          refine hK.out _ _ (by first | assumption | exact FldS.drew (by assumption) | exact FldS.call (by assumption) hbl hbn (by assumption) | exact FldS.store _ (by assumption)) (fun hHeld => ?_)
          clear hK K
          try simp only [List.getElem_toArray, List.getElem_cons_succ, List.getElem_cons_zero, Act.put, List.setIfInBounds_toArray, List.set_cons_zero, List.set_cons_succ]
          refine wpAnyH_ready (rs := [4]) (by kernel_rfl) (by simp) ?_
          refine AllReadyH.cons rfl (fun K hK => ?_) AllReadyH.nil
          go_simp
          (go_at_call 83; refine (pick n _ a len cap zs q (k : Int) (by first | exact RA | exact RB) (by omega) (by omega) (by omega)).mono ?_; intro e w14 hP; obtain ⟨v14, rfl, v140, v141, k14, R14⟩ := hP; obtain ⟨j, rfl⟩ : ∃ j : Nat, v14 = (j : Int) := ⟨v14.toNat, by omega⟩)
          refine hK.out _ _ (by first | assumption | exact FldS.drew (by assumption) | exact FldS.call (by assumption) hbl hbn (by assumption) | exact FldS.store _ (by assumption)) (fun hHeld => ?_)
          clear hK K
          try simp only [List.getElem_toArray, List.getElem_cons_succ, List.getElem_cons_zero, Act.put, List.setIfInBounds_toArray, List.set_cons_zero, List.set_cons_succ]
          refine wpAnyH_take (i := 5) (v := ?vh18) rfl (by kernel_rfl) (by kernel_rfl) (by kernel_rfl) (fun _ _ _ h => h) (Or.inl ⟨by rfl, ?yh18⟩) (by assumption) ?zh18
          case yh18 => (intro w hSw; go_simp; first | done | with_reducible rfl)
          try simp only [List.getElem_toArray, List.getElem_cons_succ, List.getElem_cons_zero, Act.put, List.setIfInBounds_toArray, List.set_cons_zero, List.set_cons_succ]
          refine wpAnyH_take (i := 6) (v := ?vh19) rfl (by kernel_rfl) (by kernel_rfl) (by kernel_rfl) (fun _ _ _ h => h) (Or.inl ⟨by rfl, ?yh19⟩) (by assumption) ?zh19
          case yh19 => (intro w hSw; go_simp; first | done | with_reducible rfl)
          try simp only [List.getElem_toArray, List.getElem_cons_succ, List.getElem_cons_zero, Act.put, List.setIfInBounds_toArray, List.set_cons_zero, List.set_cons_succ]
          refine wpAnyH_take (i := 7) (v := ?vh20) rfl (by kernel_rfl) (by kernel_rfl) (by kernel_rfl) (fun _ _ _ h => h) (Or.inl ⟨by rfl, ?yh20⟩) (by assumption) ?zh20
          case yh20 => (intro w hSw; go_simp; first | done | with_reducible rfl)
          try simp only [List.getElem_toArray, List.getElem_cons_succ, List.getElem_cons_zero, Act.put, List.setIfInBounds_toArray, List.set_cons_zero, List.set_cons_succ]
          refine wpAnyH_ready (rs := [8]) (by kernel_rfl) (by simp) ?_
          refine AllReadyH.cons rfl (fun K hK => ?_) AllReadyH.nil
          go_simp
          refine hK.out _ _ (by first | assumption | exact FldS.drew (by assumption) | exact FldS.call (by assumption) hbl hbn (by assumption) | exact FldS.store _ (by assumption)) (fun hHeld => ?_)
          clear hK K
          try simp only [List.getElem_toArray, List.getElem_cons_succ, List.getElem_cons_zero, Act.put, List.setIfInBounds_toArray, List.set_cons_zero, List.set_cons_succ]
          refine wpAnyH_done (by kernel_rfl) ?_ _
          go_wp2_with fail
          go_meet
          exact (HF5.out.pick hbn hnw hbw (by first | exact k14 | exact (Kept.refl n W5).drew.trans k14) R14).store (by omega) hbw _ (wf_bits _ _ _ _)
        · go_simp
          (go_at_call 83; refine (pick n _ a len cap zs q (k : Int) (by first | exact RA | exact RB) (by omega) (by omega) (by omega)).mono ?_; intro e w14 hP; obtain ⟨v14, rfl, v140, v141, k14, R14⟩ := hP; obtain ⟨j, rfl⟩ : ∃ j : Nat, v14 = (j : Int) := ⟨v14.toNat, by omega⟩)
          refine hK.out _ _ (by first | assumption | exact FldS.drew (by assumption) | exact FldS.call (by assumption) hbl hbn (by assumption) | exact FldS.store _ (by assumption)) (fun hHeld => ?_)
          clear hK K
          try simp only [List.getElem_toArray, List.getElem_cons_succ, List.getElem_cons_zero, Act.put, List.setIfInBounds_toArray, List.set_cons_zero, List.set_cons_succ]
          refine wpAnyH_take (i := 5) (v := ?vh21) rfl (by kernel_rfl) (by kernel_rfl) (by kernel_rfl) (fun _ _ _ h => h) (Or.inl ⟨by rfl, ?yh21⟩) (by assumption) ?zh21
          case yh21 => (intro w hSw; go_simp; first | done | with_reducible rfl)
          try simp only [List.getElem_toArray, List.getElem_cons_succ, List.getElem_cons_zero, Act.put, List.setIfInBounds_toArray, List.set_cons_zero, List.set_cons_succ]
          refine wpAnyH_ready (rs := [1]) (by kernel_rfl) (by simp) ?_
          refine AllReadyH.cons rfl (fun K hK => ?_) AllReadyH.nil
          go_simp
          refine hK.out _ _ (by first | assumption | exact FldS.drew (by assumption) | exact FldS.call (by assumption) hbl hbn (by assumption) | exact FldS.store _ (by assumption)) (fun hHeld => ?_)
          clear hK K
          try simp only [List.getElem_toArray, List.getElem_cons_succ, List.getElem_cons_zero, Act.put, List.setIfInBounds_toArray, List.set_cons_zero, List.set_cons_succ]
          refine wpAnyH_take (i := 6) (v := ?vh22) rfl (by kernel_rfl) (by kernel_rfl) (by kernel_rfl) (fun _ _ _ h => h) (Or.inl ⟨by rfl, ?yh22⟩) (by assumption) ?zh22
          case yh22 => (intro w hSw; go_simp; first | done | with_reducible rfl)
          try simp only [List.getElem_toArray, List.getElem_cons_succ, List.getElem_cons_zero, Act.put, List.setIfInBounds_toArray, List.set_cons_zero, List.set_cons_succ]
          refine wpAnyH_take (i := 7) (v := ?vh23) rfl (by kernel_rfl) (by kernel_rfl) (by kernel_rfl) (fun _ _ _ h => h) (Or.inl ⟨by rfl, ?yh23⟩) (by assumption) ?zh23
          case yh23 => (intro w hSw; go_simp; first | done | with_reducible rfl)
          try simp only [List.getElem_toArray, List.getElem_cons_succ, List.getElem_cons_zero, Act.put, List.setIfInBounds_toArray, List.set_cons_zero, List.set_cons_succ]
          refine wpAnyH_ready (rs := [8]) (by kernel_rfl) (by simp) ?_
          refine AllReadyH.cons rfl (fun K hK => ?_) AllReadyH.nil
          go_simp
          refine hK.out _ _ (by first | assumption | exact FldS.drew (by assumption) | exact FldS.call (by assumption) hbl hbn (by assumption) | exact FldS.store _ (by assumption)) (fun hHeld => ?_)
          clear hK K
          try simp only [List.getElem_toArray, List.getElem_cons_succ, List.getElem_cons_zero, Act.put, List.setIfInBounds_toArray, List.set_cons_zero, List.set_cons_succ]
          refine wpAnyH_done (by kernel_rfl) ?_ _
          go_wp2_with fail
          go_meet
          exact (HF5.out.pick hbn hnw hbw (by first | exact k14 | exact (Kept.refl n W5).drew.trans k14) R14).store (by omega) hbw _ (wf_bits _ _ _ _)
      case rest =>
        obtain ⟨W6, hW6⟩ : ∃ W6, W6 = wc := ⟨_, rfl⟩
        rw [← hW6] at hcut ⊢
        have HF6 := hcut
        clear hW6 hcut RA RB E4 E5 P0 HF5 hbl
        go_wp2_with fail
        refine (odd n W6 a len cap zs (q + 1) m HF6.out.rd (by omega) hm hm').mono ?_
        rintro e w15 ⟨tr, rfl, k15, R15⟩
        have HF7 := Lib.hid (HF6.out.pick hbn hnw hbw k15 R15)
        clear k15 R15 HF6
        rcases tr with _ | _
        · have c0 := HF7.out.s.cells.1
          have c1 := HF7.out.s.cells.2
          have c2 := HF7.out.s.cell
          obtain ⟨fr, hfr⟩ := HF7.out.res
          have r0 := hfr.cell (i := 0) (by omega)
          have r1 := hfr.cell (i := 1) (by omega)
          have r2 := hfr.cell (i := 2) (by omega)
          have z0 := hfr.frozen 0
          have z1 := hfr.frozen 1
          have z2 := hfr.frozen 2
          have hne : w.heap.size ≠ b := by omega
          have hne' : b ≠ w.heap.size := by omega
          have hlr := hfr.lt
          have hrs := ((hfr.set 0 (.int .i64 (1 + x))).set 1 (.int .i64 (1 + y))).set 2 (.int .i64 (zOf w15 b))
          have q0 := hrs.cell (i := 0) (by omega)
          have q1 := hrs.cell (i := 1) (by omega)
          have q2 := hrs.cell (i := 2) (by omega)
          clear hrs hfr
          go_wp2_with fail
          refine bodyPost_ret (v := .agg #[.int .i64 (1 + x), .int .i64 (1 + y), .int .i64 (zOf w15 b)]) (by simp [results, Try.results50, go_sem, q0, q1, q2]) rfl ?_
          exact ⟨_, _, _, rfl, ⟨by have := HX.out; omega, by have := HX.out; omega, by have := HX.out; omega, by have := HX.out; omega, HF7.out.wf⟩, ((HF7.out.kept.setNew (q := ⟨w.heap.size, 0, none⟩) (Nat.le_refl _) _).setNew (q := ⟨w.heap.size, 1, none⟩) (Nat.le_refl _) _).setNew (q := ⟨w.heap.size, 2, none⟩) (Nat.le_refl _) _⟩
        · obtain ⟨WL, hWL⟩ : ∃ WL, WL = w15.alloc (.cells #[.int .i64 0, .int .i64 0, .int .i64 0, .int .i64 5, .int .i64 1, .int .i64 1, .int .i64 2, .int .i64 2, .int .i64 0, .int .i64 1, .int .i64 1, .int .i64 2] 24) := ⟨_, rfl⟩
          have hbL : Below w15.heap.size w15 WL := by rw [hWL]; exact (Below.refl _ _).alloc (Nat.le_refl _) _
          have hzL : WL.heap.size = w15.heap.size + 1 := by rw [hWL]; simp
          have HFL := Lib.hid (HF7.out.pick hbn hnw hbw (Kept.of_below (n := n) hbL) (HF7.out.rd.of_below hbL))
          have hrl : WL.rowIs w15.heap.size 24 12 (fun i => (#[.int .i64 0, .int .i64 0, .int .i64 0, .int .i64 5, .int .i64 1, .int .i64 1, .int .i64 2, .int .i64 2, .int .i64 0, .int .i64 1, .int .i64 1, .int .i64 2] : Array Value).getD i undef) := by
            rw [hWL]; exact World.rowIs_alloc w15 #[.int .i64 0, .int .i64 0, .int .i64 0, .int .i64 5, .int .i64 1, .int .i64 1, .int .i64 2, .int .i64 2, .int .i64 0, .int .i64 1, .int .i64 1, .int .i64 2] 24 _ (fun i hi => by simp at hi; rw [Array.getD_eq_getD_getElem?, Array.getElem?_eq_getElem (by simpa using hi)]; rfl)
          have HWL := Lib.hid hWL
          have hlr : w.heap.size < w15.heap.size := by have := HF7.out.lt; omega
          have hnl : n < w15.heap.size := by omega
          clear hWL hbL HF7
          go_wp2_with fail
          rw [← HWL.out]
          refine (pick n WL a len cap zs (q + 1 + 1) 4 HFL.out.rd (by omega) (by omega) (by omega)).mono ?_
          intro e w16 hP16
          obtain ⟨v16, rfl, v160, v161, k16, R16⟩ := hP16
          have hrl2 := hrl.of_block (k16.block _ (by omega) (by omega))
          have HF8 := Lib.hid (HFL.out.pick hbn hnw hbw k16 R16)
          have hs16 := k16.size
          obtain ⟨fr, hfr⟩ := HF8.out.res
          have r0 := hfr.cell (i := 0) (by omega)
          have r1 := hfr.cell (i := 1) (by omega)
          have r2 := hfr.cell (i := 2) (by omega)
          have z0 := hfr.frozen 0
          have z1 := hfr.frozen 1
          have z2 := hfr.frozen 2
          have hne : w.heap.size ≠ w15.heap.size := by omega
          have hne' : w15.heap.size ≠ w.heap.size := by omega
          have hv : v16 = 0 ∨ v16 = 1 ∨ v16 = 2 ∨ v16 = 3 := by omega
          have d0 := hrl2.cell (i := 0) (by omega)
          have d1 := hrl2.cell (i := 1) (by omega)
          have d2 := hrl2.cell (i := 2) (by omega)
          have d3 := hrl2.cell (i := 3) (by omega)
          have d4 := hrl2.cell (i := 4) (by omega)
          have d5 := hrl2.cell (i := 5) (by omega)
          have d6 := hrl2.cell (i := 6) (by omega)
          have d7 := hrl2.cell (i := 7) (by omega)
          have d8 := hrl2.cell (i := 8) (by omega)
          have d9 := hrl2.cell (i := 9) (by omega)
          have d10 := hrl2.cell (i := 10) (by omega)
          have d11 := hrl2.cell (i := 11) (by omega)
          have hlr2 := hfr.lt
          have HFR : Hid (w16.rowIs w.heap.size 24 3 fr) := hfr
          clear k16 R16 HFL hrl hrl2 v160 v161 HWL hzL hfr
          rcases hv with rfl | rfl | rfl | rfl
          · have hrs := ((HFR.out.set 0 (.int .i64 0)).set 1 (.int .i64 0)).set 2 (.int .i64 0)
            have q0 := hrs.cell (i := 0) (by omega)
            have q1 := hrs.cell (i := 1) (by omega)
            have q2 := hrs.cell (i := 2) (by omega)
            clear hrs
            go_wp2_with fail
            refine bodyPost_ret (v := .agg #[.int .i64 0, .int .i64 0, .int .i64 0]) (by simp [results, Try.results50, go_sem, q0, q1, q2]) rfl ?_
            exact ⟨_, _, _, rfl, ⟨by omega, by omega, by omega, by omega, wf_16 (by omega) (by omega)⟩, ((HF8.out.kept.setNew (q := ⟨w.heap.size, 0, none⟩) (Nat.le_refl _) _).setNew (q := ⟨w.heap.size, 1, none⟩) (Nat.le_refl _) _).setNew (q := ⟨w.heap.size, 2, none⟩) (Nat.le_refl _) _⟩
          · have hrs := ((HFR.out.set 0 (.int .i64 5)).set 1 (.int .i64 1)).set 2 (.int .i64 1)
            have q0 := hrs.cell (i := 0) (by omega)
            have q1 := hrs.cell (i := 1) (by omega)
            have q2 := hrs.cell (i := 2) (by omega)
            clear hrs
            go_wp2_with fail
            refine bodyPost_ret (v := .agg #[.int .i64 5, .int .i64 1, .int .i64 1]) (by simp [results, Try.results50, go_sem, q0, q1, q2]) rfl ?_
            exact ⟨_, _, _, rfl, ⟨by omega, by omega, by omega, by omega, wf_16 (by omega) (by omega)⟩, ((HF8.out.kept.setNew (q := ⟨w.heap.size, 0, none⟩) (Nat.le_refl _) _).setNew (q := ⟨w.heap.size, 1, none⟩) (Nat.le_refl _) _).setNew (q := ⟨w.heap.size, 2, none⟩) (Nat.le_refl _) _⟩
          · have hrs := ((HFR.out.set 0 (.int .i64 2)).set 1 (.int .i64 2)).set 2 (.int .i64 0)
            have q0 := hrs.cell (i := 0) (by omega)
            have q1 := hrs.cell (i := 1) (by omega)
            have q2 := hrs.cell (i := 2) (by omega)
            clear hrs
            go_wp2_with fail
            refine bodyPost_ret (v := .agg #[.int .i64 2, .int .i64 2, .int .i64 0]) (by simp [results, Try.results50, go_sem, q0, q1, q2]) rfl ?_
            exact ⟨_, _, _, rfl, ⟨by omega, by omega, by omega, by omega, wf_16 (by omega) (by omega)⟩, ((HF8.out.kept.setNew (q := ⟨w.heap.size, 0, none⟩) (Nat.le_refl _) _).setNew (q := ⟨w.heap.size, 1, none⟩) (Nat.le_refl _) _).setNew (q := ⟨w.heap.size, 2, none⟩) (Nat.le_refl _) _⟩
          · have hrs := ((HFR.out.set 0 (.int .i64 1)).set 1 (.int .i64 1)).set 2 (.int .i64 2)
            have q0 := hrs.cell (i := 0) (by omega)
            have q1 := hrs.cell (i := 1) (by omega)
            have q2 := hrs.cell (i := 2) (by omega)
            clear hrs
            go_wp2_with fail
            refine bodyPost_ret (v := .agg #[.int .i64 1, .int .i64 1, .int .i64 2]) (by simp [results, Try.results50, go_sem, q0, q1, q2]) rfl ?_
            exact ⟨_, _, _, rfl, ⟨by omega, by omega, by omega, by omega, wf_16 (by omega) (by omega)⟩, ((HF8.out.kept.setNew (q := ⟨w.heap.size, 0, none⟩) (Nat.le_refl _) _).setNew (q := ⟨w.heap.size, 1, none⟩) (Nat.le_refl _) _).setNew (q := ⟨w.heap.size, 2, none⟩) (Nat.le_refl _) _⟩
  · obtain ⟨q, hq⟩ : ∃ q, q = p + 1 + 1 + 1 + 1 + 1 := ⟨_, rfl⟩
    have hq1 : q < 20000 := by omega
    obtain ⟨W5, hW5⟩ : ∃ W5, W5 = w8 := ⟨_, rfl⟩
    have HF5 : Hid (FldR n w b (1 + x) (1 + y) a len cap zs q W5) := by rw [hW5, hq]; exact HF4.out
    clear RA RB E4 E5 P0 HF4 hbl
    rw [← hW5]
    clear hq hp hW5
    have E4 : ∀ w1, FldS n W5 b (1 + x) (1 + y) w1 → w1.cell? ⟨b, 2, none⟩ = some (.int .i64 (zOf w1 b)) := fun _ h => h.cell
    have E5 : ∀ w1, FldS n W5 b (1 + x) (1 + y) w1 → w1.frozen? ⟨b, 2, none⟩ = false := fun _ h => h.frozen 2
    have P0 := HF5.out.s
    have hbl := HF5.out.lt
    have RA := HF5.out.rd
    have RB : Reader n W5.drew a len cap zs q := RA.of_below (Below.refl _ _).drew
    go_wp2_with fail
    go_cut [] (fun wx => Hid (FldR n w b (1 + x) (1 + y) a len cap zs (q + 1) wx))
    case first =>
      refine wp_region_held_drew (S := fun w' => FldS n W5 b (1 + x) (1 + y) w') (by kernel_rfl) (by first | exact FldS.drew (by assumption)) (fun hHeld => ?_)
      refine wpAnyH_take (i := 0) (v := ?vh24) rfl (by kernel_rfl) (by kernel_rfl) (by kernel_rfl) (fun _ _ _ h => h) (Or.inl ⟨by rfl, ?yh24⟩) (by assumption) ?zh24
      case yh24 => (intro w hSw; go_simp; first | done | with_reducible rfl)
      try simp only [List.getElem_toArray, List.getElem_cons_succ, List.getElem_cons_zero, Act.put, List.setIfInBounds_toArray, List.set_cons_zero, List.set_cons_succ]
      refine wpAnyH_take (i := 2) (v := ?vh25) rfl (by kernel_rfl) (by kernel_rfl) (by kernel_rfl) (fun _ _ _ h => h) (Or.inl ⟨by rfl, ?yh25⟩) (by assumption) ?zh25
      case yh25 => (intro w hSw; go_simp; first | done | with_reducible rfl)
      try simp only [List.getElem_toArray, List.getElem_cons_succ, List.getElem_cons_zero, Act.put, List.setIfInBounds_toArray, List.set_cons_zero, List.set_cons_succ]
      refine wpAnyH_take (i := 3) (v := ?vh26) rfl (by kernel_rfl) (by kernel_rfl) (by kernel_rfl) (fun _ _ _ h => h) (Or.inl ⟨by rfl, ?yh26⟩) (by assumption) ?zh26
      case yh26 => (intro w hSw; go_simp; first | done | with_reducible rfl)
      try simp only [List.getElem_toArray, List.getElem_cons_succ, List.getElem_cons_zero, Act.put, List.setIfInBounds_toArray, List.set_cons_zero, List.set_cons_succ]
      refine wpAnyH_ready (rs := [1, 4]) (by kernel_rfl) (by simp) ?_
      refine AllReadyH.cons rfl (fun K hK => ?_) (AllReadyH.cons rfl (fun K hK => ?_) AllReadyH.nil)
      · go_simp
        refine hK.out _ _ (by first | assumption | exact FldS.drew (by assumption) | exact FldS.call (by assumption) hbl hbn (by assumption) | exact FldS.store _ (by assumption)) (fun hHeld => ?_)
        clear hK K
        try simp only [List.getElem_toArray, List.getElem_cons_succ, List.getElem_cons_zero, Act.put, List.setIfInBounds_toArray, List.set_cons_zero, List.set_cons_succ]
        refine wpAnyH_ready (rs := [4]) (by kernel_rfl) (by simp) ?_
        refine AllReadyH.cons rfl (fun K hK => ?_) AllReadyH.nil
        go_simp
        (go_at_call 83; refine (pick n _ a len cap zs q (k : Int) (by first | exact RA | exact RB) (by omega) (by omega) (by omega)).mono ?_; intro e w14 hP; obtain ⟨v14, rfl, v140, v141, k14, R14⟩ := hP; obtain ⟨j, rfl⟩ : ∃ j : Nat, v14 = (j : Int) := ⟨v14.toNat, by omega⟩)
        refine hK.out _ _ (by first | assumption | exact FldS.drew (by assumption) | exact FldS.call (by assumption) hbl hbn (by assumption) | exact FldS.store _ (by assumption)) (fun hHeld => ?_)
        clear hK K
        try simp only [List.getElem_toArray, List.getElem_cons_succ, List.getElem_cons_zero, Act.put, List.setIfInBounds_toArray, List.set_cons_zero, List.set_cons_succ]
        refine wpAnyH_take (i := 5) (v := ?vh27) rfl (by kernel_rfl) (by kernel_rfl) (by kernel_rfl) (fun _ _ _ h => h) (Or.inl ⟨by rfl, ?yh27⟩) (by assumption) ?zh27
        case yh27 => (intro w hSw; go_simp; first | done | with_reducible rfl)
        try simp only [List.getElem_toArray, List.getElem_cons_succ, List.getElem_cons_zero, Act.put, List.setIfInBounds_toArray, List.set_cons_zero, List.set_cons_succ]
        refine wpAnyH_take (i := 6) (v := ?vh28) rfl (by kernel_rfl) (by kernel_rfl) (by kernel_rfl) (fun _ _ _ h => h) (Or.inl ⟨by rfl, ?yh28⟩) (by assumption) ?zh28
        case yh28 => (intro w hSw; go_simp; first | done | with_reducible rfl)
        try simp only [List.getElem_toArray, List.getElem_cons_succ, List.getElem_cons_zero, Act.put, List.setIfInBounds_toArray, List.set_cons_zero, List.set_cons_succ]
        refine wpAnyH_take (i := 7) (v := ?vh29) rfl (by kernel_rfl) (by kernel_rfl) (by kernel_rfl) (fun _ _ _ h => h) (Or.inl ⟨by rfl, ?yh29⟩) (by assumption) ?zh29
        case yh29 => (intro w hSw; go_simp; first | done | with_reducible rfl)
        try simp only [List.getElem_toArray, List.getElem_cons_succ, List.getElem_cons_zero, Act.put, List.setIfInBounds_toArray, List.set_cons_zero, List.set_cons_succ]
        refine wpAnyH_ready (rs := [8]) (by kernel_rfl) (by simp) ?_
        refine AllReadyH.cons rfl (fun K hK => ?_) AllReadyH.nil
        go_simp
        refine hK.out _ _ (by first | assumption | exact FldS.drew (by assumption) | exact FldS.call (by assumption) hbl hbn (by assumption) | exact FldS.store _ (by assumption)) (fun hHeld => ?_)
        clear hK K
        try simp only [List.getElem_toArray, List.getElem_cons_succ, List.getElem_cons_zero, Act.put, List.setIfInBounds_toArray, List.set_cons_zero, List.set_cons_succ]
        refine wpAnyH_done (by kernel_rfl) ?_ _
        go_wp2_with fail
        go_meet
        exact (HF5.out.pick hbn hnw hbw (by first | exact k14 | exact (Kept.refl n W5).drew.trans k14) R14).store (by omega) hbw _ (wf_bits _ _ _ _)
      · go_simp
        (go_at_call 83; refine (pick n _ a len cap zs q (k : Int) (by first | exact RA | exact RB) (by omega) (by omega) (by omega)).mono ?_; intro e w14 hP; obtain ⟨v14, rfl, v140, v141, k14, R14⟩ := hP; obtain ⟨j, rfl⟩ : ∃ j : Nat, v14 = (j : Int) := ⟨v14.toNat, by omega⟩)
        refine hK.out _ _ (by first | assumption | exact FldS.drew (by assumption) | exact FldS.call (by assumption) hbl hbn (by assumption) | exact FldS.store _ (by assumption)) (fun hHeld => ?_)
        clear hK K
        try simp only [List.getElem_toArray, List.getElem_cons_succ, List.getElem_cons_zero, Act.put, List.setIfInBounds_toArray, List.set_cons_zero, List.set_cons_succ]
        refine wpAnyH_take (i := 5) (v := ?vh30) rfl (by kernel_rfl) (by kernel_rfl) (by kernel_rfl) (fun _ _ _ h => h) (Or.inl ⟨by rfl, ?yh30⟩) (by assumption) ?zh30
        case yh30 => (intro w hSw; go_simp; first | done | with_reducible rfl)
        try simp only [List.getElem_toArray, List.getElem_cons_succ, List.getElem_cons_zero, Act.put, List.setIfInBounds_toArray, List.set_cons_zero, List.set_cons_succ]
        refine wpAnyH_ready (rs := [1]) (by kernel_rfl) (by simp) ?_
        refine AllReadyH.cons rfl (fun K hK => ?_) AllReadyH.nil
        go_simp
        refine hK.out _ _ (by first | assumption | exact FldS.drew (by assumption) | exact FldS.call (by assumption) hbl hbn (by assumption) | exact FldS.store _ (by assumption)) (fun hHeld => ?_)
        clear hK K
        try simp only [List.getElem_toArray, List.getElem_cons_succ, List.getElem_cons_zero, Act.put, List.setIfInBounds_toArray, List.set_cons_zero, List.set_cons_succ]
        refine wpAnyH_take (i := 6) (v := ?vh31) rfl (by kernel_rfl) (by kernel_rfl) (by kernel_rfl) (fun _ _ _ h => h) (Or.inl ⟨by rfl, ?yh31⟩) (by assumption) ?zh31
        case yh31 => (intro w hSw; go_simp; first | done | with_reducible rfl)
        try simp only [List.getElem_toArray, List.getElem_cons_succ, List.getElem_cons_zero, Act.put, List.setIfInBounds_toArray, List.set_cons_zero, List.set_cons_succ]
        refine wpAnyH_take (i := 7) (v := ?vh32) rfl (by kernel_rfl) (by kernel_rfl) (by kernel_rfl) (fun _ _ _ h => h) (Or.inl ⟨by rfl, ?yh32⟩) (by assumption) ?zh32
        case yh32 => (intro w hSw; go_simp; first | done | with_reducible rfl)
        try simp only [List.getElem_toArray, List.getElem_cons_succ, List.getElem_cons_zero, Act.put, List.setIfInBounds_toArray, List.set_cons_zero, List.set_cons_succ]
        refine wpAnyH_ready (rs := [8]) (by kernel_rfl) (by simp) ?_
        refine AllReadyH.cons rfl (fun K hK => ?_) AllReadyH.nil
        go_simp
        refine hK.out _ _ (by first | assumption | exact FldS.drew (by assumption) | exact FldS.call (by assumption) hbl hbn (by assumption) | exact FldS.store _ (by assumption)) (fun hHeld => ?_)
        clear hK K
        try simp only [List.getElem_toArray, List.getElem_cons_succ, List.getElem_cons_zero, Act.put, List.setIfInBounds_toArray, List.set_cons_zero, List.set_cons_succ]
        refine wpAnyH_done (by kernel_rfl) ?_ _
        go_wp2_with fail
        go_meet
        exact (HF5.out.pick hbn hnw hbw (by first | exact k14 | exact (Kept.refl n W5).drew.trans k14) R14).store (by omega) hbw _ (wf_bits _ _ _ _)
    case rest =>
      obtain ⟨W6, hW6⟩ : ∃ W6, W6 = wc := ⟨_, rfl⟩
      rw [← hW6] at hcut ⊢
      have HF6 := hcut
      clear hW6 hcut RA RB E4 E5 P0 HF5 hbl
      go_wp2_with fail
      refine (odd n W6 a len cap zs (q + 1) m HF6.out.rd (by omega) hm hm').mono ?_
      rintro e w15 ⟨tr, rfl, k15, R15⟩
      have HF7 := Lib.hid (HF6.out.pick hbn hnw hbw k15 R15)
      clear k15 R15 HF6
      rcases tr with _ | _
      · have c0 := HF7.out.s.cells.1
        have c1 := HF7.out.s.cells.2
        have c2 := HF7.out.s.cell
        obtain ⟨fr, hfr⟩ := HF7.out.res
        have r0 := hfr.cell (i := 0) (by omega)
        have r1 := hfr.cell (i := 1) (by omega)
        have r2 := hfr.cell (i := 2) (by omega)
        have z0 := hfr.frozen 0
        have z1 := hfr.frozen 1
        have z2 := hfr.frozen 2
        have hne : w.heap.size ≠ b := by omega
        have hne' : b ≠ w.heap.size := by omega
        have hlr := hfr.lt
        have hrs := ((hfr.set 0 (.int .i64 (1 + x))).set 1 (.int .i64 (1 + y))).set 2 (.int .i64 (zOf w15 b))
        have q0 := hrs.cell (i := 0) (by omega)
        have q1 := hrs.cell (i := 1) (by omega)
        have q2 := hrs.cell (i := 2) (by omega)
        clear hrs hfr
        go_wp2_with fail
        refine bodyPost_ret (v := .agg #[.int .i64 (1 + x), .int .i64 (1 + y), .int .i64 (zOf w15 b)]) (by simp [results, Try.results50, go_sem, q0, q1, q2]) rfl ?_
        exact ⟨_, _, _, rfl, ⟨by have := HX.out; omega, by have := HX.out; omega, by have := HX.out; omega, by have := HX.out; omega, HF7.out.wf⟩, ((HF7.out.kept.setNew (q := ⟨w.heap.size, 0, none⟩) (Nat.le_refl _) _).setNew (q := ⟨w.heap.size, 1, none⟩) (Nat.le_refl _) _).setNew (q := ⟨w.heap.size, 2, none⟩) (Nat.le_refl _) _⟩
      · obtain ⟨WL, hWL⟩ : ∃ WL, WL = w15.alloc (.cells #[.int .i64 0, .int .i64 0, .int .i64 0, .int .i64 5, .int .i64 1, .int .i64 1, .int .i64 2, .int .i64 2, .int .i64 0, .int .i64 1, .int .i64 1, .int .i64 2] 24) := ⟨_, rfl⟩
        have hbL : Below w15.heap.size w15 WL := by rw [hWL]; exact (Below.refl _ _).alloc (Nat.le_refl _) _
        have hzL : WL.heap.size = w15.heap.size + 1 := by rw [hWL]; simp
        have HFL := Lib.hid (HF7.out.pick hbn hnw hbw (Kept.of_below (n := n) hbL) (HF7.out.rd.of_below hbL))
        have hrl : WL.rowIs w15.heap.size 24 12 (fun i => (#[.int .i64 0, .int .i64 0, .int .i64 0, .int .i64 5, .int .i64 1, .int .i64 1, .int .i64 2, .int .i64 2, .int .i64 0, .int .i64 1, .int .i64 1, .int .i64 2] : Array Value).getD i undef) := by
          rw [hWL]; exact World.rowIs_alloc w15 #[.int .i64 0, .int .i64 0, .int .i64 0, .int .i64 5, .int .i64 1, .int .i64 1, .int .i64 2, .int .i64 2, .int .i64 0, .int .i64 1, .int .i64 1, .int .i64 2] 24 _ (fun i hi => by simp at hi; rw [Array.getD_eq_getD_getElem?, Array.getElem?_eq_getElem (by simpa using hi)]; rfl)
        have HWL := Lib.hid hWL
        have hlr : w.heap.size < w15.heap.size := by have := HF7.out.lt; omega
        have hnl : n < w15.heap.size := by omega
        clear hWL hbL HF7
        go_wp2_with fail
        rw [← HWL.out]
        refine (pick n WL a len cap zs (q + 1 + 1) 4 HFL.out.rd (by omega) (by omega) (by omega)).mono ?_
        intro e w16 hP16
        obtain ⟨v16, rfl, v160, v161, k16, R16⟩ := hP16
        have hrl2 := hrl.of_block (k16.block _ (by omega) (by omega))
        have HF8 := Lib.hid (HFL.out.pick hbn hnw hbw k16 R16)
        have hs16 := k16.size
        obtain ⟨fr, hfr⟩ := HF8.out.res
        have r0 := hfr.cell (i := 0) (by omega)
        have r1 := hfr.cell (i := 1) (by omega)
        have r2 := hfr.cell (i := 2) (by omega)
        have z0 := hfr.frozen 0
        have z1 := hfr.frozen 1
        have z2 := hfr.frozen 2
        have hne : w.heap.size ≠ w15.heap.size := by omega
        have hne' : w15.heap.size ≠ w.heap.size := by omega
        have hv : v16 = 0 ∨ v16 = 1 ∨ v16 = 2 ∨ v16 = 3 := by omega
        have d0 := hrl2.cell (i := 0) (by omega)
        have d1 := hrl2.cell (i := 1) (by omega)
        have d2 := hrl2.cell (i := 2) (by omega)
        have d3 := hrl2.cell (i := 3) (by omega)
        have d4 := hrl2.cell (i := 4) (by omega)
        have d5 := hrl2.cell (i := 5) (by omega)
        have d6 := hrl2.cell (i := 6) (by omega)
        have d7 := hrl2.cell (i := 7) (by omega)
        have d8 := hrl2.cell (i := 8) (by omega)
        have d9 := hrl2.cell (i := 9) (by omega)
        have d10 := hrl2.cell (i := 10) (by omega)
        have d11 := hrl2.cell (i := 11) (by omega)
        have hlr2 := hfr.lt
        have HFR : Hid (w16.rowIs w.heap.size 24 3 fr) := hfr
        clear k16 R16 HFL hrl hrl2 v160 v161 HWL hzL hfr
        rcases hv with rfl | rfl | rfl | rfl
        · have hrs := ((HFR.out.set 0 (.int .i64 0)).set 1 (.int .i64 0)).set 2 (.int .i64 0)
          have q0 := hrs.cell (i := 0) (by omega)
          have q1 := hrs.cell (i := 1) (by omega)
          have q2 := hrs.cell (i := 2) (by omega)
          clear hrs
          go_wp2_with fail
          refine bodyPost_ret (v := .agg #[.int .i64 0, .int .i64 0, .int .i64 0]) (by simp [results, Try.results50, go_sem, q0, q1, q2]) rfl ?_
          exact ⟨_, _, _, rfl, ⟨by omega, by omega, by omega, by omega, wf_16 (by omega) (by omega)⟩, ((HF8.out.kept.setNew (q := ⟨w.heap.size, 0, none⟩) (Nat.le_refl _) _).setNew (q := ⟨w.heap.size, 1, none⟩) (Nat.le_refl _) _).setNew (q := ⟨w.heap.size, 2, none⟩) (Nat.le_refl _) _⟩
        · have hrs := ((HFR.out.set 0 (.int .i64 5)).set 1 (.int .i64 1)).set 2 (.int .i64 1)
          have q0 := hrs.cell (i := 0) (by omega)
          have q1 := hrs.cell (i := 1) (by omega)
          have q2 := hrs.cell (i := 2) (by omega)
          clear hrs
          go_wp2_with fail
          refine bodyPost_ret (v := .agg #[.int .i64 5, .int .i64 1, .int .i64 1]) (by simp [results, Try.results50, go_sem, q0, q1, q2]) rfl ?_
          exact ⟨_, _, _, rfl, ⟨by omega, by omega, by omega, by omega, wf_16 (by omega) (by omega)⟩, ((HF8.out.kept.setNew (q := ⟨w.heap.size, 0, none⟩) (Nat.le_refl _) _).setNew (q := ⟨w.heap.size, 1, none⟩) (Nat.le_refl _) _).setNew (q := ⟨w.heap.size, 2, none⟩) (Nat.le_refl _) _⟩
        · have hrs := ((HFR.out.set 0 (.int .i64 2)).set 1 (.int .i64 2)).set 2 (.int .i64 0)
          have q0 := hrs.cell (i := 0) (by omega)
          have q1 := hrs.cell (i := 1) (by omega)
          have q2 := hrs.cell (i := 2) (by omega)
          clear hrs
          go_wp2_with fail
          refine bodyPost_ret (v := .agg #[.int .i64 2, .int .i64 2, .int .i64 0]) (by simp [results, Try.results50, go_sem, q0, q1, q2]) rfl ?_
          exact ⟨_, _, _, rfl, ⟨by omega, by omega, by omega, by omega, wf_16 (by omega) (by omega)⟩, ((HF8.out.kept.setNew (q := ⟨w.heap.size, 0, none⟩) (Nat.le_refl _) _).setNew (q := ⟨w.heap.size, 1, none⟩) (Nat.le_refl _) _).setNew (q := ⟨w.heap.size, 2, none⟩) (Nat.le_refl _) _⟩
        · have hrs := ((HFR.out.set 0 (.int .i64 1)).set 1 (.int .i64 1)).set 2 (.int .i64 2)
          have q0 := hrs.cell (i := 0) (by omega)
          have q1 := hrs.cell (i := 1) (by omega)
          have q2 := hrs.cell (i := 2) (by omega)
          clear hrs
          go_wp2_with fail
          refine bodyPost_ret (v := .agg #[.int .i64 1, .int .i64 1, .int .i64 2]) (by simp [results, Try.results50, go_sem, q0, q1, q2]) rfl ?_
          exact ⟨_, _, _, rfl, ⟨by omega, by omega, by omega, by omega, wf_16 (by omega) (by omega)⟩, ((HF8.out.kept.setNew (q := ⟨w.heap.size, 0, none⟩) (Nat.le_refl _) _).setNew (q := ⟨w.heap.size, 1, none⟩) (Nat.le_refl _) _).setNew (q := ⟨w.heap.size, 2, none⟩) (Nat.le_refl _) _⟩

end Go.Proofs.Ytcfmfpkmcngacaa

namespace Go.Proofs.Ytcfmfpkmcngacaa
set_option linter.unusedSimpArgs false
set_option linter.unusedVariables false
open Go.RowKit

set_option maxHeartbeats 1000000 in
set_option maxRecDepth 100000 in
theorem dDrawFieldOk (a : Option Addr) (len cap : Nat) (zs : List Int) (w : World) (h : IsRow .u8 w a len cap zs) :
    Calls Try.prog 15 #[.slice a len cap] w (DrawnFd w) := by
  go_enter Try.func15, Try.ntmps15
  obtain ⟨W, hW⟩ : ∃ W : World, W = (w.alloc (.cells #[.int .i64 0, .int .i64 0, .int .i64 0] 24)) := ⟨_, rfl⟩
  have hz : W.heap.size = w.heap.size + 1 := by rw [hW]; simp
  have hbW : Below w.heap.size w W := by rw [hW]; exact (Below.refl _ _).alloc (Nat.le_refl _) _
  have hr0 : ∃ f, W.rowIs w.heap.size 24 3 f := ⟨_, by rw [hW]; exact World.rowIs_alloc w #[.int .i64 0, .int .i64 0, .int .i64 0] 24 (fun i => (#[.int .i64 0, .int .i64 0, .int .i64 0] : Array Value).getD i undef) (fun i hi => by simp at hi; have : i = 0 ∨ i = 1 ∨ i = 2 := (by omega); rcases this with rfl | rfl | rfl <;> rfl)⟩
  have HI := Lib.hid (h.below hbW)
  have HW := Lib.hid hW
  have HBW := Lib.hid hbW
  have HROW := Lib.hid hr0
  have hlt : w.heap.size < W.heap.size := by omega
  clear hW hbW h hr0 hz
  go_wp2_with fail
  try rw [← HW.out]
  refine (l20Open a len cap zs W HI.out).mono ?_
  rintro e w1 ⟨rfl, hb1, a1, len1, cap1, zs1, R1⟩
  have HB1 := Lib.hid hb1
  have HR1 := Lib.hid R1
  have hs1 := hb1.size
  clear hb1 R1
  go_wp2_with fail
  refine (l20Field W.heap.size w1 a1 len1 cap1 zs1 0 2 HR1.out (by omega) (by omega) (by omega)).mono ?_
  rintro e w2 ⟨R, C, S, rfl, hRCS, k2⟩
  have hb2 : Below W.heap.size W w2 := HB1.out.trans (k2.below (Nat.le_refl _) HB1.out.size)
  have HB2 := Lib.hid hb2
  have HRC := Lib.hid hRCS
  obtain ⟨fr, hf⟩ := HROW.out
  have hfr := hf.of_block (hb2.block _ (by omega))
  have r0 := hfr.cell (i := 0) (by omega)
  have r1 := hfr.cell (i := 1) (by omega)
  have r2 := hfr.cell (i := 2) (by omega)
  have z0 := hfr.frozen 0
  have z1 := hfr.frozen 1
  have z2 := hfr.frozen 2
  have hlr := hfr.lt
  have hrs := ((hfr.set 0 (.int .i64 R)).set 1 (.int .i64 C)).set 2 (.int .i64 S)
  have q0 := hrs.cell (i := 0) (by omega)
  have q1 := hrs.cell (i := 1) (by omega)
  have q2 := hrs.cell (i := 2) (by omega)
  clear k2 hRCS hf hfr hrs hb2
  unfold fldV
  go_wp2_with fail
  refine bodyPost_ret (v := .agg #[.int .i64 R, .int .i64 C, .int .i64 S]) (by simp [results, Try.results15, go_sem, q0, q1, q2]) rfl ?_
  exact ⟨R, C, S, rfl, HRC.out, ((belT HBW.out HB2.out).setCell (Nat.le_refl _) _ |>.setCell (Nat.le_refl _) _).setCell (Nat.le_refl _) _⟩

set_option maxHeartbeats 1000000 in
set_option maxRecDepth 100000 in
theorem dDrawFieldGame (a : Option Addr) (len cap : Nat) (zs : List Int) (w : World) (h : IsRow .u8 w a len cap zs) :
    Calls Try.prog 19 #[.slice a len cap] w (DrawnFd w) := by
  go_enter Try.func19, Try.ntmps19
  obtain ⟨W, hW⟩ : ∃ W : World, W = (w.alloc (.cells #[.int .i64 0, .int .i64 0, .int .i64 0] 24)) := ⟨_, rfl⟩
  have hz : W.heap.size = w.heap.size + 1 := by rw [hW]; simp
  have hbW : Below w.heap.size w W := by rw [hW]; exact (Below.refl _ _).alloc (Nat.le_refl _) _
  have hr0 : ∃ f, W.rowIs w.heap.size 24 3 f := ⟨_, by rw [hW]; exact World.rowIs_alloc w #[.int .i64 0, .int .i64 0, .int .i64 0] 24 (fun i => (#[.int .i64 0, .int .i64 0, .int .i64 0] : Array Value).getD i undef) (fun i hi => by simp at hi; have : i = 0 ∨ i = 1 ∨ i = 2 := (by omega); rcases this with rfl | rfl | rfl <;> rfl)⟩
  have HI := Lib.hid (h.below hbW)
  have HW := Lib.hid hW
  have HBW := Lib.hid hbW
  have HROW := Lib.hid hr0
  have hlt : w.heap.size < W.heap.size := by omega
  clear hW hbW h hr0 hz
  go_wp2_with fail
  try rw [← HW.out]
  refine (l20Open a len cap zs W HI.out).mono ?_
  rintro e w1 ⟨rfl, hb1, a1, len1, cap1, zs1, R1⟩
  have HB1 := Lib.hid hb1
  have HR1 := Lib.hid R1
  have hs1 := hb1.size
  clear hb1 R1
  go_wp2_with fail
  refine (l20Field W.heap.size w1 a1 len1 cap1 zs1 0 9 HR1.out (by omega) (by omega) (by omega)).mono ?_
  rintro e w2 ⟨R, C, S, rfl, hRCS, k2⟩
  have hb2 : Below W.heap.size W w2 := HB1.out.trans (k2.below (Nat.le_refl _) HB1.out.size)
  have HB2 := Lib.hid hb2
  have HRC := Lib.hid hRCS
  obtain ⟨fr, hf⟩ := HROW.out
  have hfr := hf.of_block (hb2.block _ (by omega))
  have r0 := hfr.cell (i := 0) (by omega)
  have r1 := hfr.cell (i := 1) (by omega)
  have r2 := hfr.cell (i := 2) (by omega)
  have z0 := hfr.frozen 0
  have z1 := hfr.frozen 1
  have z2 := hfr.frozen 2
  have hlr := hfr.lt
  have hrs := ((hfr.set 0 (.int .i64 R)).set 1 (.int .i64 C)).set 2 (.int .i64 S)
  have q0 := hrs.cell (i := 0) (by omega)
  have q1 := hrs.cell (i := 1) (by omega)
  have q2 := hrs.cell (i := 2) (by omega)
  clear k2 hRCS hf hfr hrs hb2
  unfold fldV
  go_wp2_with fail
  refine bodyPost_ret (v := .agg #[.int .i64 R, .int .i64 C, .int .i64 S]) (by simp [results, Try.results19, go_sem, q0, q1, q2]) rfl ?_
  exact ⟨R, C, S, rfl, HRC.out, ((belT HBW.out HB2.out).setCell (Nat.le_refl _) _ |>.setCell (Nat.le_refl _) _).setCell (Nat.le_refl _) _⟩

set_option maxHeartbeats 1000000 in
set_option maxRecDepth 100000 in
theorem dDrawMostApart (a : Option Addr) (len cap : Nat) (zs : List Int) (w : World) (h : IsRow .u8 w a len cap zs) :
    Calls Try.prog 26 #[.slice a len cap] w (DrawnFd w) := by
  go_enter Try.func26, Try.ntmps26
  obtain ⟨W, hW⟩ : ∃ W : World, W = (w.alloc (.cells #[.int .i64 0, .int .i64 0, .int .i64 0] 24)) := ⟨_, rfl⟩
  have hz : W.heap.size = w.heap.size + 1 := by rw [hW]; simp
  have hbW : Below w.heap.size w W := by rw [hW]; exact (Below.refl _ _).alloc (Nat.le_refl _) _
  have hr0 : ∃ f, W.rowIs w.heap.size 24 3 f := ⟨_, by rw [hW]; exact World.rowIs_alloc w #[.int .i64 0, .int .i64 0, .int .i64 0] 24 (fun i => (#[.int .i64 0, .int .i64 0, .int .i64 0] : Array Value).getD i undef) (fun i hi => by simp at hi; have : i = 0 ∨ i = 1 ∨ i = 2 := (by omega); rcases this with rfl | rfl | rfl <;> rfl)⟩
  have HI := Lib.hid (h.below hbW)
  have HW := Lib.hid hW
  have HBW := Lib.hid hbW
  have HROW := Lib.hid hr0
  have hlt : w.heap.size < W.heap.size := by omega
  clear hW hbW h hr0 hz
  go_wp2_with fail
  try rw [← HW.out]
  refine (l20Open a len cap zs W HI.out).mono ?_
  rintro e w1 ⟨rfl, hb1, a1, len1, cap1, zs1, R1⟩
  have HB1 := Lib.hid hb1
  have HR1 := Lib.hid R1
  have hs1 := hb1.size
  clear hb1 R1
  go_wp2_with fail
  refine (l20Field W.heap.size w1 a1 len1 cap1 zs1 0 9 HR1.out (by omega) (by omega) (by omega)).mono ?_
  rintro e w2 ⟨R, C, S, rfl, hRCS, k2⟩
  have hb2 : Below W.heap.size W w2 := HB1.out.trans (k2.below (Nat.le_refl _) HB1.out.size)
  have HB2 := Lib.hid hb2
  have HRC := Lib.hid hRCS
  obtain ⟨fr, hf⟩ := HROW.out
  have hfr := hf.of_block (hb2.block _ (by omega))
  have r0 := hfr.cell (i := 0) (by omega)
  have r1 := hfr.cell (i := 1) (by omega)
  have r2 := hfr.cell (i := 2) (by omega)
  have z0 := hfr.frozen 0
  have z1 := hfr.frozen 1
  have z2 := hfr.frozen 2
  have hlr := hfr.lt
  have hrs := ((hfr.set 0 (.int .i64 R)).set 1 (.int .i64 C)).set 2 (.int .i64 S)
  have q0 := hrs.cell (i := 0) (by omega)
  have q1 := hrs.cell (i := 1) (by omega)
  have q2 := hrs.cell (i := 2) (by omega)
  clear k2 hRCS hf hfr hrs hb2
  unfold fldV
  go_wp2_with fail
  refine bodyPost_ret (v := .agg #[.int .i64 R, .int .i64 C, .int .i64 S]) (by simp [results, Try.results26, go_sem, q0, q1, q2]) rfl ?_
  exact ⟨R, C, S, rfl, HRC.out, ((belT HBW.out HB2.out).setCell (Nat.le_refl _) _ |>.setCell (Nat.le_refl _) _).setCell (Nat.le_refl _) _⟩

set_option maxHeartbeats 1000000 in
set_option maxRecDepth 100000 in
theorem dDrawHideCells (a : Option Addr) (len cap : Nat) (zs : List Int) (w : World) (h : IsRow .u8 w a len cap zs) :
    Calls Try.prog 30 #[.slice a len cap] w (DrawnFd w) := by
  go_enter Try.func30, Try.ntmps30
  obtain ⟨W, hW⟩ : ∃ W : World, W = (w.alloc (.cells #[.int .i64 0, .int .i64 0, .int .i64 0] 24)) := ⟨_, rfl⟩
  have hz : W.heap.size = w.heap.size + 1 := by rw [hW]; simp
  have hbW : Below w.heap.size w W := by rw [hW]; exact (Below.refl _ _).alloc (Nat.le_refl _) _
  have hr0 : ∃ f, W.rowIs w.heap.size 24 3 f := ⟨_, by rw [hW]; exact World.rowIs_alloc w #[.int .i64 0, .int .i64 0, .int .i64 0] 24 (fun i => (#[.int .i64 0, .int .i64 0, .int .i64 0] : Array Value).getD i undef) (fun i hi => by simp at hi; have : i = 0 ∨ i = 1 ∨ i = 2 := (by omega); rcases this with rfl | rfl | rfl <;> rfl)⟩
  have HI := Lib.hid (h.below hbW)
  have HW := Lib.hid hW
  have HBW := Lib.hid hbW
  have HROW := Lib.hid hr0
  have hlt : w.heap.size < W.heap.size := by omega
  clear hW hbW h hr0 hz
  go_wp2_with fail
  try rw [← HW.out]
  refine (l20Open a len cap zs W HI.out).mono ?_
  rintro e w1 ⟨rfl, hb1, a1, len1, cap1, zs1, R1⟩
  have HB1 := Lib.hid hb1
  have HR1 := Lib.hid R1
  have hs1 := hb1.size
  clear hb1 R1
  go_wp2_with fail
  refine (l20Field W.heap.size w1 a1 len1 cap1 zs1 0 9 HR1.out (by omega) (by omega) (by omega)).mono ?_
  rintro e w2 ⟨R, C, S, rfl, hRCS, k2⟩
  have hb2 : Below W.heap.size W w2 := HB1.out.trans (k2.below (Nat.le_refl _) HB1.out.size)
  have HB2 := Lib.hid hb2
  have HRC := Lib.hid hRCS
  obtain ⟨fr, hf⟩ := HROW.out
  have hfr := hf.of_block (hb2.block _ (by omega))
  have r0 := hfr.cell (i := 0) (by omega)
  have r1 := hfr.cell (i := 1) (by omega)
  have r2 := hfr.cell (i := 2) (by omega)
  have z0 := hfr.frozen 0
  have z1 := hfr.frozen 1
  have z2 := hfr.frozen 2
  have hlr := hfr.lt
  have hrs := ((hfr.set 0 (.int .i64 R)).set 1 (.int .i64 C)).set 2 (.int .i64 S)
  have q0 := hrs.cell (i := 0) (by omega)
  have q1 := hrs.cell (i := 1) (by omega)
  have q2 := hrs.cell (i := 2) (by omega)
  clear k2 hRCS hf hfr hrs hb2
  unfold fldV
  go_wp2_with fail
  refine bodyPost_ret (v := .agg #[.int .i64 R, .int .i64 C, .int .i64 S]) (by simp [results, Try.results30, go_sem, q0, q1, q2]) rfl ?_
  exact ⟨R, C, S, rfl, HRC.out, ((belT HBW.out HB2.out).setCell (Nat.le_refl _) _ |>.setCell (Nat.le_refl _) _).setCell (Nat.le_refl _) _⟩

set_option maxHeartbeats 1000000 in
set_option maxRecDepth 100000 in
theorem dDrawLookLines (a : Option Addr) (len cap : Nat) (zs : List Int) (w : World) (h : IsRow .u8 w a len cap zs) :
    Calls Try.prog 34 #[.slice a len cap] w (DrawnFd w) := by
  go_enter Try.func34, Try.ntmps34
  obtain ⟨W, hW⟩ : ∃ W : World, W = (w.alloc (.cells #[.int .i64 0, .int .i64 0, .int .i64 0] 24)) := ⟨_, rfl⟩
  have hz : W.heap.size = w.heap.size + 1 := by rw [hW]; simp
  have hbW : Below w.heap.size w W := by rw [hW]; exact (Below.refl _ _).alloc (Nat.le_refl _) _
  have hr0 : ∃ f, W.rowIs w.heap.size 24 3 f := ⟨_, by rw [hW]; exact World.rowIs_alloc w #[.int .i64 0, .int .i64 0, .int .i64 0] 24 (fun i => (#[.int .i64 0, .int .i64 0, .int .i64 0] : Array Value).getD i undef) (fun i hi => by simp at hi; have : i = 0 ∨ i = 1 ∨ i = 2 := (by omega); rcases this with rfl | rfl | rfl <;> rfl)⟩
  have HI := Lib.hid (h.below hbW)
  have HW := Lib.hid hW
  have HBW := Lib.hid hbW
  have HROW := Lib.hid hr0
  have hlt : w.heap.size < W.heap.size := by omega
  clear hW hbW h hr0 hz
  go_wp2_with fail
  try rw [← HW.out]
  refine (l20Open a len cap zs W HI.out).mono ?_
  rintro e w1 ⟨rfl, hb1, a1, len1, cap1, zs1, R1⟩
  have HB1 := Lib.hid hb1
  have HR1 := Lib.hid R1
  have hs1 := hb1.size
  clear hb1 R1
  go_wp2_with fail
  refine (l20Field W.heap.size w1 a1 len1 cap1 zs1 0 9 HR1.out (by omega) (by omega) (by omega)).mono ?_
  rintro e w2 ⟨R, C, S, rfl, hRCS, k2⟩
  have hb2 : Below W.heap.size W w2 := HB1.out.trans (k2.below (Nat.le_refl _) HB1.out.size)
  have HB2 := Lib.hid hb2
  have HRC := Lib.hid hRCS
  obtain ⟨fr, hf⟩ := HROW.out
  have hfr := hf.of_block (hb2.block _ (by omega))
  have r0 := hfr.cell (i := 0) (by omega)
  have r1 := hfr.cell (i := 1) (by omega)
  have r2 := hfr.cell (i := 2) (by omega)
  have z0 := hfr.frozen 0
  have z1 := hfr.frozen 1
  have z2 := hfr.frozen 2
  have hlr := hfr.lt
  have hrs := ((hfr.set 0 (.int .i64 R)).set 1 (.int .i64 C)).set 2 (.int .i64 S)
  have q0 := hrs.cell (i := 0) (by omega)
  have q1 := hrs.cell (i := 1) (by omega)
  have q2 := hrs.cell (i := 2) (by omega)
  clear k2 hRCS hf hfr hrs hb2
  unfold fldV
  go_wp2_with fail
  refine bodyPost_ret (v := .agg #[.int .i64 R, .int .i64 C, .int .i64 S]) (by simp [results, Try.results34, go_sem, q0, q1, q2]) rfl ?_
  exact ⟨R, C, S, rfl, HRC.out, ((belT HBW.out HB2.out).setCell (Nat.le_refl _) _ |>.setCell (Nat.le_refl _) _).setCell (Nat.le_refl _) _⟩

set_option maxHeartbeats 1000000 in
set_option maxRecDepth 100000 in
theorem dDrawFieldWorth (a : Option Addr) (len cap : Nat) (zs : List Int) (w : World) (h : IsRow .u8 w a len cap zs) :
    Calls Try.prog 38 #[.slice a len cap] w (DrawnFd w) := by
  go_enter Try.func38, Try.ntmps38
  obtain ⟨W, hW⟩ : ∃ W : World, W = (w.alloc (.cells #[.int .i64 0, .int .i64 0, .int .i64 0] 24)) := ⟨_, rfl⟩
  have hz : W.heap.size = w.heap.size + 1 := by rw [hW]; simp
  have hbW : Below w.heap.size w W := by rw [hW]; exact (Below.refl _ _).alloc (Nat.le_refl _) _
  have hr0 : ∃ f, W.rowIs w.heap.size 24 3 f := ⟨_, by rw [hW]; exact World.rowIs_alloc w #[.int .i64 0, .int .i64 0, .int .i64 0] 24 (fun i => (#[.int .i64 0, .int .i64 0, .int .i64 0] : Array Value).getD i undef) (fun i hi => by simp at hi; have : i = 0 ∨ i = 1 ∨ i = 2 := (by omega); rcases this with rfl | rfl | rfl <;> rfl)⟩
  have HI := Lib.hid (h.below hbW)
  have HW := Lib.hid hW
  have HBW := Lib.hid hbW
  have HROW := Lib.hid hr0
  have hlt : w.heap.size < W.heap.size := by omega
  clear hW hbW h hr0 hz
  go_wp2_with fail
  try rw [← HW.out]
  refine (l20Open a len cap zs W HI.out).mono ?_
  rintro e w1 ⟨rfl, hb1, a1, len1, cap1, zs1, R1⟩
  have HB1 := Lib.hid hb1
  have HR1 := Lib.hid R1
  have hs1 := hb1.size
  clear hb1 R1
  go_wp2_with fail
  refine (l20Field W.heap.size w1 a1 len1 cap1 zs1 0 9 HR1.out (by omega) (by omega) (by omega)).mono ?_
  rintro e w2 ⟨R, C, S, rfl, hRCS, k2⟩
  have hb2 : Below W.heap.size W w2 := HB1.out.trans (k2.below (Nat.le_refl _) HB1.out.size)
  have HB2 := Lib.hid hb2
  have HRC := Lib.hid hRCS
  obtain ⟨fr, hf⟩ := HROW.out
  have hfr := hf.of_block (hb2.block _ (by omega))
  have r0 := hfr.cell (i := 0) (by omega)
  have r1 := hfr.cell (i := 1) (by omega)
  have r2 := hfr.cell (i := 2) (by omega)
  have z0 := hfr.frozen 0
  have z1 := hfr.frozen 1
  have z2 := hfr.frozen 2
  have hlr := hfr.lt
  have hrs := ((hfr.set 0 (.int .i64 R)).set 1 (.int .i64 C)).set 2 (.int .i64 S)
  have q0 := hrs.cell (i := 0) (by omega)
  have q1 := hrs.cell (i := 1) (by omega)
  have q2 := hrs.cell (i := 2) (by omega)
  clear k2 hRCS hf hfr hrs hb2
  unfold fldV
  go_wp2_with fail
  refine bodyPost_ret (v := .agg #[.int .i64 R, .int .i64 C, .int .i64 S]) (by simp [results, Try.results38, go_sem, q0, q1, q2]) rfl ?_
  exact ⟨R, C, S, rfl, HRC.out, ((belT HBW.out HB2.out).setCell (Nat.le_refl _) _ |>.setCell (Nat.le_refl _) _).setCell (Nat.le_refl _) _⟩

end Go.Proofs.Ytcfmfpkmcngacaa
