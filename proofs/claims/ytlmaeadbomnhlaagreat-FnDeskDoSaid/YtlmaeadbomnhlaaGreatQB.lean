/- Texts in one: DeskT, DeskU, DeskS, DeskV, DeskW. -/
import Derived.Test.YtlmaeadbomnhlaaGreatQA
import Derived.Test.YtlmaeadbomnhlaaGreatMC
import Derived.Test.YtlmaeadbomnhlaaGreatMQ
import Derived.Test.YtlmaeadbomnhlaaGreatNI
namespace Go.Proofs.YtlmaeadbomnhlaaGreat
set_option linter.unusedSimpArgs false
set_option linter.unusedVariables false
open Go.RowKit
theorem infoT : (Tryz.prog.info? 23).map (fun i => (i.zero, i.size, i.bytes)) = some (some (.slice none 0 0), 1, 24) := by kernel_rfl
def offP (p : List (List (List Int))) : Nat → Nat
  | 0 => 0
  | i + 1 => offP p i + (1 + (tabAt p i).length)
theorem offP_mono (p : List (List (List Int))) {i j : Nat} (h : i ≤ j) : offP p i ≤ offP p j := by
  induction j with
  | zero => have : i = 0 := by omega
            subst this; exact Nat.le_refl _
  | succ j ih =>
    by_cases e : i = j + 1
    · subst e; exact Nat.le_refl _
    · have := ih (by omega); simp only [offP]; omega
theorem Laid.tab {w w' : World} {g : List (List Int)} (h : Laid w w' g) (hm : ∀ i, i < g.length → (rowAt g i).length ≤ maxLen) : TabOwn w' w.heap.size w'.heap.size (some ⟨w.heap.size, 0, none⟩) (fun i => some ⟨w.heap.size + 1 + i, 0, none⟩) (fun i => (rowAt g i).length) g := by
  have hz := Laying.size h
  intro h0
  refine ⟨w.heap.size, g.length, _, rfl, Nat.le_refl _, by omega, Nat.le_refl _, Laying.top h, fun i hi => by rw [if_pos hi], ⟨fun i hi => ⟨Nat.le_refl _, hm i hi⟩, fun i hi _ => ?_, fun i j hi hj hne _ _ e => ?_⟩⟩
  · exact ⟨w.heap.size + 1 + i, _, _, rfl, by omega, by omega, Laying.rows h i hi, Nat.le_refl _, fun j _ => rfl⟩
  · injection e with e; injection e with e; omega
structure LayP (w wr : World) (p : List (List (List Int))) (k : Nat) : Prop where
  bel : Below w.heap.size w wr
  size : wr.heap.size = w.heap.size + 1 + offP p k
  top : wr.rowIs w.heap.size 23 p.length (fun j => if j < k then .slice (some ⟨w.heap.size + 1 + offP p j, 0, none⟩) (tabAt p j).length (tabAt p j).length else .slice none 0 0)
  tabs : ∀ j, j < k → TabOwn wr (w.heap.size + 1 + offP p j) (w.heap.size + 1 + offP p (j + 1)) (some ⟨w.heap.size + 1 + offP p j, 0, none⟩) (fun i => some ⟨w.heap.size + 1 + offP p j + 1 + i, 0, none⟩) (fun i => (rowAt (tabAt p j) i).length) (tabAt p j)
theorem LayP.start (w : World) (p : List (List (List Int))) : LayP w (w.alloc (.cells (madeCells #[.slice none 0 0] p.length) 23)) p 0 :=
  ⟨(Below.refl _ _).alloc (Nat.le_refl _) _, by simp [offP], (World.rowIs_made w _ _ _).congr (fun j _ => by simp), fun j hj => absurd hj (Nat.not_lt_zero _)⟩
theorem LayP.next {w wr w2 : World} {p : List (List (List Int))} {k : Nat} (h : LayP w wr p k) (hL : Laid wr w2 (tabAt p k)) (hm : ∀ i, i < (tabAt p k).length → (rowAt (tabAt p k) i).length ≤ maxLen) :
    LayP w (w2.setCell ⟨w.heap.size, k, none⟩ (.slice (some ⟨wr.heap.size, 0, none⟩) (tabAt p k).length (tabAt p k).length)) p (k + 1) := by
  have hz := h.size
  have hb := Laying.bel hL
  have hs := Laying.size hL
  have ht := hL.tab hm
  have hs2 : w2.heap.size = w.heap.size + 1 + offP p (k + 1) := by rw [hs, hz]; simp only [offP]; omega
  rw [hs2] at ht
  rw [hz] at ht ⊢
  have stay : ∀ b, w.heap.size < b → (w2.setCell ⟨w.heap.size, k, none⟩ (.slice (some ⟨w.heap.size + 1 + offP p k, 0, none⟩) (tabAt p k).length (tabAt p k).length)).heap[b]? = w2.heap[b]? := fun b hb => Below.heap_setCell _ _ _ _ (by show b ≠ w.heap.size; omega)
  refine ⟨(h.bel.trans (hb.mono (by omega))).setCell (Nat.le_refl _) _, by simp only [World.setCell, Array.size_modify]; exact hs2, ((h.top.of_block (hb.block _ (by omega))).set k _).congr (fun j _ => ?_), fun j hj => ?_⟩
  · by_cases e : j = k
    · subst e; simp
    · rw [if_neg e]
      by_cases hlt : j < k
      · rw [if_pos hlt, if_pos (by omega)]
      · rw [if_neg hlt, if_neg (by omega)]
  · by_cases e : j = k
    · subst e; exact ht.keep fun b h1 _ => stay b (by omega)
    · have hmo := offP_mono p (show j + 1 ≤ k by omega)
      exact (h.tabs j (by omega)).keep fun b h1 h2 => (stay b (by omega)).trans (hb.block b (by omega))
def layA (B : Nat) (p : List (List (List Int))) (j i : Nat) : Option Addr := some ⟨B + 1 + offP p j + 1 + i, 0, none⟩
def layC (p : List (List (List Int))) (j i : Nat) : Nat := (rowAt (tabAt p j) i).length
def lytT (B : Nat) (p : List (List (List Int))) (j : Nat) : Option Addr := some ⟨B + 1 + offP p j, 0, none⟩
def layN (p : List (List (List Int))) (j : Nat) : Nat := (tabAt p j).length
theorem LayP.own {w wr : World} {p : List (List (List Int))} (h : LayP w wr p p.length) (hm : ∀ i, i < p.length → (tabAt p i).length ≤ maxLen) : PastOwn wr w.heap.size wr.heap.size (some ⟨w.heap.size, 0, none⟩) p (layA w.heap.size p) (layC p) (lytT w.heap.size p) (layN p) := by
  have hz := h.size
  refine ⟨fun h0 => ⟨w.heap.size, 0, p.length, _, rfl, Nat.le_refl _, by omega, by omega, h.top, fun i hi => ⟨by rw [Nat.zero_add, if_pos hi]; rfl, Nat.le_refl _, hm i hi⟩⟩, fun i hi => (h.tabs i hi).more (by omega) (by have := offP_mono p (show i + 1 ≤ p.length by omega); omega), fun s t b hs ht hne h1 h2 => ?_⟩
  have k1 := (h.tabs s hs).rows_in h1
  have k2 := (h.tabs t ht).rows_in h2
  rcases Nat.lt_or_gt_of_ne hne with q | q
  · have := offP_mono p (show s + 1 ≤ t by omega); omega
  · have := offP_mono p (show t + 1 ≤ s by omega); omega
end Go.Proofs.YtlmaeadbomnhlaaGreat

namespace Go.Proofs.YtlmaeadbomnhlaaGreat
set_option linter.unusedSimpArgs false
set_option linter.unusedVariables false
open Go.RowKit
theorem PastOwn.keep {w w' : World} {lo hi : Nat} {TP : Option Addr} {p : List (List (List Int))} {A : Nat → Nat → Option Addr} {C : Nat → Nat → Nat} {TT : Nat → Option Addr} {CC : Nat → Nat} (h : PastOwn w lo hi TP p A C TT CC) (hk : ∀ b, lo ≤ b → b < hi → w'.heap[b]? = w.heap[b]?) : PastOwn w' lo hi TP p A C TT CC := by
  refine ⟨fun h0 => ?_, fun i hi => (h.tabs i hi).keep hk, h.apart⟩
  obtain ⟨b, off, N, f, e, h1, h2, h3, h4, h5⟩ := h.top h0
  exact ⟨b, off, N, f, e, h1, h2, h3, h4.of_block (hk b h1 h2), h5⟩
theorem PastOwn.more {w : World} {lo hi lo' hi' : Nat} {TP : Option Addr} {p : List (List (List Int))} {A : Nat → Nat → Option Addr} {C : Nat → Nat → Nat} {TT : Nat → Option Addr} {CC : Nat → Nat} (h : PastOwn w lo hi TP p A C TT CC) (h1 : lo' ≤ lo) (h2 : hi ≤ hi') : PastOwn w lo' hi' TP p A C TT CC := by
  refine ⟨fun h0 => ?_, fun i hi => (h.tabs i hi).more h1 h2, h.apart⟩
  obtain ⟨b, off, N, f, e, k1, k2, h3, h4, h5⟩ := h.top h0
  exact ⟨b, off, N, f, e, by omega, by omega, h3, h4, h5⟩
end Go.Proofs.YtlmaeadbomnhlaaGreat

namespace Go.Proofs.YtlmaeadbomnhlaaGreat
set_option linter.unusedSimpArgs false
set_option linter.unusedVariables false
open Go.RowKit
set_option maxHeartbeats 1000000 in
theorem laid_spec (A : Option Addr) (c : Nat) (g : List (List Int)) (S : Nat → Prop) (hl : g.length ≤ maxLen) (w : World) (h : Rows2 w S A g) :
    Calls Tryz.prog 19 #[.slice A g.length c] w (Quiet (.bool (laidB g)) w) := by
  have hl' := hl
  unfold maxLen at hl'
  rcases hb : gameB g with _ | _
  · have H1 : Hid (laidB g = false) := by show _ = _; unfold laidB; rw [hb]; rfl
    have HB := Lib.hid hb
    have HR := Lib.hid h
    clear hb h
    go_enter Tryz.func19, Tryz.ntmps19
    go_wp2_with fail
    refine (game_spec _ _ _ _ hl _ HR.out).mono ?_
    rintro e w1 ⟨rfl, n, rfl⟩
    rw [HB.out]
    go_wp2_with fail
    go_ret
    rw [H1.out]
    exact ⟨rfl, n, rfl⟩
  have hg := Game.of hb
  have hg1 := hg.lo
  have hg2 := hg.hi
  have HB := Lib.hid hb
  have HR := Lib.hid h
  obtain ⟨b, off, rfl⟩ := h.some (by omega)
  by_cases h4 : g.length ≤ 4
  · by_cases h5 : (rowAt g 0).length ≤ 4
    · have gd : decide (((rowAt g 0).length : Int) ≤ 4) = true := decide_eq_true (by omega)
      have H1 : Hid (laidB g = true) := laid_iff.2 ⟨hb, h4, h5⟩
      clear hb h
      go_enter Tryz.func19, Tryz.ntmps19
      go_wp2_with fail
      refine (game_spec _ _ _ _ hl _ HR.out).mono ?_
      rintro e w1 ⟨rfl, n, rfl⟩
      rw [HB.out]
      have R := Lib.hid (HR.out.drewN n)
      obtain ⟨hS, A0, c0, hc0, hl0, hm0, _⟩ := R.out.row (i := 0) (by omega)
      rw [Nat.add_zero] at hc0
      unfold maxLen at hm0
      go_wp2_with fail
      go_ret
      rw [H1.out]
      exact ⟨rfl, n, rfl⟩
    · have gd : decide (((rowAt g 0).length : Int) ≤ 4) = false := decide_eq_false (by omega)
      have H1 : Hid (laidB g = false) := by
        rcases hx : laidB g with _ | _
        · rfl
        · exact absurd (laid_iff.1 hx).2.2 h5
      clear hb h
      go_enter Tryz.func19, Tryz.ntmps19
      go_wp2_with fail
      refine (game_spec _ _ _ _ hl _ HR.out).mono ?_
      rintro e w1 ⟨rfl, n, rfl⟩
      rw [HB.out]
      have R := Lib.hid (HR.out.drewN n)
      obtain ⟨hS, A0, c0, hc0, hl0, hm0, _⟩ := R.out.row (i := 0) (by omega)
      rw [Nat.add_zero] at hc0
      unfold maxLen at hm0
      go_wp2_with fail
      go_ret
      rw [H1.out]
      exact ⟨rfl, n, rfl⟩
  · have H1 : Hid (laidB g = false) := by
      rcases hx : laidB g with _ | _
      · rfl
      · exact absurd (laid_iff.1 hx).2.1 h4
    clear hb h
    go_enter Tryz.func19, Tryz.ntmps19
    go_wp2_with fail
    refine (game_spec _ _ _ _ hl _ HR.out).mono ?_
    rintro e w1 ⟨rfl, n, rfl⟩
    rw [HB.out]
    go_wp2_with fail
    go_ret
    rw [H1.out]
    exact ⟨rfl, n, rfl⟩
structure BoxD (w : World) (b : Nat) (v0 v1 : Value) : Prop where
  lt : b < w.heap.size
  c0 : w.cell? ⟨b, 0, none⟩ = some v0
  c1 : w.cell? ⟨b, 1, none⟩ = some v1
theorem BoxD.new (w : World) (v0 v1 : Value) : BoxD (w.alloc (.cells #[v0, v1] 26)) w.heap.size v0 v1 := ⟨by simp, by simp [go_sem], by simp [go_sem]⟩
theorem BoxD.keep {w w' : World} {b : Nat} {v0 v1 : Value} (h : BoxD w b v0 v1) (hs : w.heap.size ≤ w'.heap.size) (hb : w'.heap[b]? = w.heap[b]?) : BoxD w' b v0 v1 :=
  ⟨Nat.lt_of_lt_of_le h.lt hs, (World.cell?_of_block (w := w) hb).trans h.c0, (World.cell?_of_block (w := w) hb).trans h.c1⟩
theorem BoxD.still {w w' : World} {b : Nat} {v0 v1 : Value} (h : BoxD w b v0 v1) (hb : Below w.heap.size w w') : BoxD w' b v0 v1 := h.keep hb.size (hb.block b h.lt)
theorem BoxD.off {w w' : World} {b lo hi : Nat} {v0 v1 : Value} (h : BoxD w b v0 v1) (hf : Off lo hi w w') (ho : ¬ (lo ≤ b ∧ b < hi)) : BoxD w' b v0 v1 := h.keep (Nat.le_of_eq hf.size.symm) (hf.block b ho)
theorem dsk_world (w : World) (v0 v1 : Value) : ∃ W, W = w.alloc (.cells #[v0, v1] 26) ∧ BoxD W w.heap.size v0 v1 ∧ Below w.heap.size w W ∧ W.heap.size = w.heap.size + 1 :=
  ⟨_, rfl, BoxD.new w v0 v1, (Below.refl _ _).alloc (Nat.le_refl _) _, by simp⟩
def dskV (A : Option Addr) (n c : Nat) (B : Option Addr) (m k : Nat) : Value := .agg #[.slice A n c, .slice B m k]
theorem dk_not_past {d : Dk} {i : Nat} (hi : i < d.past.length) (h : laidB (tabAt d.past i) = false) : dkB d = false := by
  rcases hx : dkB d with _ | _
  · rfl
  · have := pastB_at.1 (dkB_iff.1 hx).1 i hi; rw [h] at this; cases this
theorem dk_not_now {d : Dk} (h : laidB d.now = false) : dkB d = false := by unfold dkB; rw [h]; simp
theorem dk_not_many {d : Dk} (h : ¬ d.past.length ≤ 8) : dkB d = false := by
  rcases hx : dkB d with _ | _
  · rfl
  · exact absurd (dkB_iff.1 hx).2.2 h
set_option maxHeartbeats 2000000 in
theorem deskOk_spec (A B : Option Addr) (c k : Nat) (d : Dk) (hx : d.now.length ≤ maxLen) (hy : d.past.length ≤ maxLen) (w : World) (h : Rows2 w (· < w.heap.size) A d.now) (h' : Rows3 w (· < w.heap.size) B d.past) :
    Calls Tryz.prog 16 #[dskV A d.now.length c B d.past.length k] w (Adds (.bool (dkB d)) w) := by
  have hy' := hy
  unfold maxLen at hy'
  unfold dskV
  have H1 := Lib.hid h
  have H2 := Lib.hid h'
  clear h h'
  obtain ⟨W, hW, hB, hbW, hzW⟩ := dsk_world w (.slice A d.now.length c) (.slice B d.past.length k)
  go_enter Tryz.func16, Tryz.ntmps16
  go_wp2_with fail
  rw [← hW]
  clear hW
  have HB := Lib.hid hB
  have HW := Lib.hid hbW
  have e1 := hB.c1
  clear hB hbW
  go_loopw [3] (fun i wr => ∃ j : Nat, j ≤ d.past.length ∧ i = .int .i64 j ∧ Hid (∀ i, i < j → laidB (tabAt d.past i) = true) ∧ ∃ n, wr = W.drewN n) (fun i _ => d.past.length - (intOf i).toNat)
  case atStart => exact ⟨0, Nat.zero_le _, rfl, fun i hi => absurd hi (Nat.not_lt_zero _), ⟨0, rfl⟩⟩
  case round =>
    obtain ⟨j, hj, rfl, HA, n, rfl⟩ := hrel
    have HBn := Lib.hid (HB.out.still (below_drewN (Below.refl _ _) n))
    have HWn := Lib.hid (below_drewN HW.out n)
    have f0 := HBn.out.c0
    have f1 := HBn.out.c1
    by_cases hlt : j < d.past.length
    · obtain ⟨b, off, rfl⟩ := H2.out.some (by omega)
      obtain ⟨hS, Aj, cj, hcj, hlj, hmj, hij⟩ := (keepTabs HWn.out H2.out).tab hlt
      have hmj2 := Nat.le_trans hlj hmj
      have HI := Lib.hid hij
      unfold maxLen at hmj
      clear hij
      go_wp2_with fail
      refine (laid_spec _ _ (tabAt d.past j) _ hmj2 _ HI.out).mono ?_
      rintro e w1 ⟨rfl, n2, rfl⟩
      rcases hb : laidB (tabAt d.past j) with _ | _
      · have HF := Lib.hid (dk_not_past hlt hb)
        clear hb
        go_wp2_with fail
        go_ret
        rw [HF.out]
        exact ⟨rfl, below_drewN HW.out _⟩
      · have HN : Hid (∀ i, i < j + 1 → laidB (tabAt d.past i) = true) := fun i hi => by
          by_cases e : i = j
          · rw [e]; exact hb
          · exact HA.out i (by omega)
        clear hb
        go_wp2_with fail
        go_roundw
        case rel => exact ⟨j + 1, by omega, by go_num, HN, ⟨_, rfl⟩⟩
        case measure => simp [intOf]; omega
    · obtain rfl : j = d.past.length := by omega
      have HN := Lib.hid (keepRows HWn.out H1.out)
      go_wp2_with fail
      refine (laid_spec _ _ d.now _ hx _ HN.out).mono ?_
      rintro e w1 ⟨rfl, n2, rfl⟩
      have HBm := Lib.hid (HBn.out.still (below_drewN (Below.refl _ _) n2))
      have g1 := HBm.out.c1
      rcases hb : laidB d.now with _ | _
      · have HF := Lib.hid (dk_not_now hb)
        clear hb
        go_wp2_with fail
        go_ret
        rw [HF.out]
        exact ⟨rfl, below_drewN HW.out _⟩
      · by_cases h8 : d.past.length ≤ 8
        · have gd : decide ((d.past.length : Int) ≤ 8) = true := decide_eq_true (by omega)
          have HF : Hid (dkB d = true) := dkB_iff.2 ⟨pastB_at.2 HA.out, hb, h8⟩
          clear hb
          go_wp2_with fail
          go_ret
          rw [HF.out]
          exact ⟨rfl, below_drewN HW.out _⟩
        · have gd : decide ((d.past.length : Int) ≤ 8) = false := decide_eq_false (by omega)
          have HF := Lib.hid (dk_not_many h8)
          clear hb
          go_wp2_with fail
          go_ret
          rw [HF.out]
          exact ⟨rfl, below_drewN HW.out _⟩
end Go.Proofs.YtlmaeadbomnhlaaGreat

namespace Go.Proofs.YtlmaeadbomnhlaaGreat
set_option linter.unusedSimpArgs false
set_option linter.unusedVariables false
open Go.RowKit
def tkT (g : List (List Int)) (k : Nat) : List (List Int) := g.take k
theorem tkT_length (g : List (List Int)) {k : Nat} (h : k ≤ g.length) : (tkT g k).length = k := by unfold tkT; rw [List.length_take]; omega
theorem tkT_all (g : List (List Int)) : tkT g g.length = g := List.take_length
theorem take_snoc (g : List (List Int)) {k : Nat} (h : k < g.length) : tkT g (k + 1) = tkT g k ++ [rowAt g k] := by
  unfold tkT
  rw [List.take_add_one]
  have : g[k]? = some (rowAt g k) := by unfold rowAt; simp [h]
  rw [this]; rfl
set_option maxHeartbeats 2000000 in
set_option maxRecDepth 100000 in
theorem copyG_spec (A : Option Addr) (c : Nat) (g : List (List Int)) (hb : gameB g = true) (w : World) (h : Rows2 w (· < w.heap.size) A g) :
    Calls Tryz.prog 36 #[.slice A g.length c] w (NewTableC w g) := by
  have hb0 : Below w.heap.size w (w.alloc (.cells #[] 52)) := (Below.refl _ _).alloc (Nat.le_refl _) _
  have HB0 := Lib.hid hb0
  have hg := Game.of hb
  have G0 := Lib.hid (GrowsR.lit w (base := w.heap.size) (Nat.le_refl _) (fun _ => none) (fun _ => 0))
  have HR := Lib.hid h
  have HG := Lib.hid hg
  have hg2 := hg.hi
  obtain ⟨i0, hi0, hz0, hz1, hz2⟩ := info_parts infoI
  obtain ⟨i1, hi1, hy0, hy1, hy2⟩ := info_parts infoR
  have HI0 := Lib.hid hi0
  have HZ0 := Lib.hid hz0
  have HZ1 := Lib.hid hz1
  have HZ2 := Lib.hid hz2
  have HI1 := Lib.hid hi1
  have HY0 := Lib.hid hy0
  have HY1 := Lib.hid hy1
  have HY2 := Lib.hid hy2
  clear h hb hg hi0 hz0 hz1 hz2 hi1 hy0 hy1 hy2 hb0
  go_enter Tryz.func36, Tryz.ntmps36
  go_wp2_with fail
  go_loopw [3, 4] (fun v i wr => ∃ k : Nat, k ≤ g.length ∧ i = .int .i64 k ∧ Hid (∃ (A : Nat → Option Addr) (C : Nat → Nat), GrowsR wr w.heap.size wr.heap.size v A C (tkT g k)) ∧ Hid (Below w.heap.size w wr)) (fun _ i _ => g.length - (intOf i).toNat)
  case atStart => exact ⟨0, Nat.zero_le _, rfl, ⟨_, _, G0.out.up (by simp) (Nat.le_refl _)⟩, HB0.out⟩
  case round =>
    obtain ⟨k, hk, rfl, HT, HW⟩ := hrel
    by_cases hlt : k < g.length
    · have hyes := take_snoc g hlt
      obtain ⟨AA, CC, hgr⟩ := HT.out
      have HGR := Lib.hid hgr
      have hws := HW.out.size
      have hr1 := HG.out.len k hlt
      have hn16 := HG.out.mhi
      have hnlo := HG.out.mlo
      have R2 := keepRows HW.out HR.out
      obtain ⟨bt, ot, rfl⟩ := R2.some (by omega)
      obtain ⟨hSk, Ak, ck, hck, hlk, hmk, hik⟩ := R2.row hlt
      obtain ⟨bk, ok, rfl, hSb, hcells⟩ := hik.at_ (i := 0) (by omega)
      have HN : Hid (∀ j u, (vals (rowAt g k))[j]? = some u → (wr.alloc (.cells #[] 3)).cell? ((⟨bk, ok, none⟩ : Addr).add j) = some u) := news_of fun i hi => (((Below.refl wr.heap.size wr).alloc (Nat.le_refl _) _).cell (p := ⟨bk, ok + i, none⟩) (Nat.lt_of_lt_of_le hSb hws)).trans (hcells i hi)
      have GL := Lib.hid (Grows.lit wr (base := wr.heap.size) (Nat.le_refl _))
      unfold maxLen at hmk
      have hcko : ∀ o, (wr.alloc o).cell? ⟨bt, ot + k, none⟩ = some (.slice (some ⟨bk, ok, none⟩) (rowAt g k).length ck) := fun o => (((Below.refl wr.heap.size wr).alloc (Nat.le_refl _) o).cell (p := ⟨bt, ot + k, none⟩) (Nat.lt_of_lt_of_le hSk hws)).trans hck
      have HR1 := Lib.hid hr1
      have hr16 : (rowAt g k).length ≤ 16 := by omega
      clear hgr HT R2 hik hcells hr1
      go_wp2_with (at_builtin; refine wpList_append_own_at _ rfl (.tmp 13) (.tmp 17) _ rfl wr.heap.size 3 i0 (.int .i64 0) 1 8 Tryz.underlying52 HI0.out HZ0.out HZ1.out HZ2.out rfl (by decide) _ _ _ rfl GL.out ⟨bk, ok, none⟩ (rowAt g k).length ck (vals (rowAt g k)) rfl (by rw [vals_length]; omega) HN.out vals_one ?c3 ?c4 ?c5 ?_)
      case c3 => unfold maxLen; first | omega | (simp; done) | (simp; omega)
      case c4 => first | omega | (simp; done) | (simp; omega)
      case c5 => first | omega | (simp; done) | (simp; omega)
      intro v' w4 hown hgrow _ _
      have hgn : Grows w4 wr.heap.size v' (rowAt g k) := by unfold Grows; simpa [vals] using hown
      have hb4 : Below wr.heap.size wr w4 := ((Below.refl wr.heap.size wr).alloc (Nat.le_refl _) _).grown hgrow (by simp) (fun k hk => by simp [Value.ownBlock] at hk; omega)
      obtain ⟨An, cn, hv, hcn1, hcn2, hon⟩ := hgn.own'
      subst hv
      have HV := Lib.hid hb4
      have HGV := Lib.hid (HGR.out.keep hb4)
      have HON := Lib.hid hon
      have hvs := hb4.size
      clear hown hgrow hgn hb4 hon HN GL
      have HLT : Hid ((tkT g k).length = k) := tkT_length g hk
      go_wp2_with (at_builtin; refine wpList_append_own_at _ rfl (.tmp 12) (.tmp 19) _ rfl w.heap.size 52 i1 (.slice none 0 0) 1 24 Tryz.underlying23 HI1.out HY0.out HY1.out HY2.out rfl (by decide) _ _ _ rfl (HGV.out.alloc _) ⟨w4.heap.size, 0, none⟩ 1 1 [.slice An (rowAt g k).length cn] rfl rfl (cell_one_new _ _ _) ?c2 ?c3 ?c4 ?c5 ?_)
      case c2 => first | rfl | (intro u hu; simp at hu; subst hu; rfl)
      case c3 => rw [HLT.out]; unfold maxLen; omega
      case c4 => rw [HLT.out]; omega
      case c5 => first | omega | (simp; omega)
      intro v' w5 hown hgrow _ hat
      have HN : Hid (∃ (A : Nat → Option Addr) (C : Nat → Nat), GrowsR w5 w.heap.size w5.heap.size v' A C (tkT g (k + 1))) := by
        rw [hyes]
        exact HGV.out.snoc HON.out hcn1 hcn2 hws hown hgrow (by rcases hat with e | e; exact .inl e; exact .inr (by rw [e]; try simp))
      have HW2 : Hid (Below w.heap.size w w5) := HGV.out.below hgrow (belT HW.out HV.out) (Nat.le_refl _) (by omega)
      clear hown hgrow hat
      go_wp2_with fail
      go_roundw
      case rel => exact ⟨k + 1, by omega, by go_num, HN, HW2⟩
      case measure => simp [intOf]; omega
    · obtain rfl : k = g.length := by omega
      obtain ⟨AA, CC, hgr⟩ := HT.out
      rw [tkT_all] at hgr
      obtain ⟨T1, c1, hv1, hcl1, hcl2, hot⟩ := hgr.table
      subst hv1
      have HO := Lib.hid hot
      clear hgr hot HT
      go_wp2_with fail
      go_ret
      exact ⟨T1, c1, rfl, hcl1, hcl2, HW.out, HO.out⟩
end Go.Proofs.YtlmaeadbomnhlaaGreat

namespace Go.Proofs.YtlmaeadbomnhlaaGreat
set_option linter.unusedSimpArgs false
set_option linter.unusedVariables false
open Go.RowKit
def newD (g : List (List Int)) : Dk := if laidB g = true then ⟨g, []⟩ else dkZero
theorem newD_no {g : List (List Int)} (h : laidB g = false) : newD g = dkZero := by unfold newD; rw [h]; rfl
theorem newD_yes {g : List (List Int)} (h : laidB g = true) : newD g = ⟨g, []⟩ := if_pos h
theorem newD_ok {g : List (List Int)} (h : laidB g = true) : dkB (newD g) = true := by
  rw [newD_yes h]; exact dkB_iff.2 ⟨rfl, h, Nat.zero_le _⟩
def DeskRes (w : World) (d : Dk) (x : Value) (e : Ending) (w' : World) : Prop :=
  ∃ (TN : Option Addr) (cN : Nat) (TP : Option Addr) (cP : CapN d.past.length) (A : Nat → Nat → Option Addr) (C : Nat → Nat → Nat) (TT : Nat → Option Addr) (CC : Nat → Nat),
    e = .returned (.tuple #[dskV TN d.now.length cN TP d.past.length cP, x]) ∧ Below w.heap.size w w' ∧ OwnDk w' w.heap.size w'.heap.size TN TP d A C TT CC
def Room (w : World) (lo hi : Nat) (TP : Option Addr) (c : Nat) : Prop := 0 < c → ∃ (b off N : Nat) (f : Nat → Value), TP = some ⟨b, off, none⟩ ∧ lo ≤ b ∧ b < hi ∧ off + c ≤ N ∧ w.rowIs b 23 N f
theorem Room.keep {w w' : World} {lo hi c : Nat} {TP : Option Addr} (h : Room w lo hi TP c) (hk : ∀ b, lo ≤ b → b < hi → w'.heap[b]? = w.heap[b]?) : Room w' lo hi TP c := fun h0 => by
  obtain ⟨b, off, N, f, e, h1, h2, h3, h4⟩ := h h0
  exact ⟨b, off, N, f, e, h1, h2, h3, h4.of_block (hk b h1 h2)⟩
theorem Room.more {w : World} {lo hi lo' hi' c : Nat} {TP : Option Addr} (h : Room w lo hi TP c) (h1 : lo' ≤ lo) (h2 : hi ≤ hi') : Room w lo' hi' TP c := fun h0 => by
  obtain ⟨b, off, N, f, e, k1, k2, h3, h4⟩ := h h0
  exact ⟨b, off, N, f, e, by omega, by omega, h3, h4⟩
def DeskResR (w : World) (d : Dk) (x : Value) (e : Ending) (w' : World) : Prop :=
  ∃ (TN : Option Addr) (cN : Nat) (TP : Option Addr) (cP : CapN d.past.length) (A : Nat → Nat → Option Addr) (C : Nat → Nat → Nat) (TT : Nat → Option Addr) (CC : Nat → Nat),
    e = .returned (.tuple #[dskV TN d.now.length cN TP d.past.length cP, x]) ∧ Below w.heap.size w w' ∧ OwnDk w' w.heap.size w'.heap.size TN TP d A C TT CC ∧ Room w' w.heap.size w'.heap.size TP cP
theorem DeskResR.res {w w' : World} {d : Dk} {x : Value} {e : Ending} (h : DeskResR w d x e w') : DeskRes w d x e w' := by
  obtain ⟨TN, cN, TP, cP, A, C, TT, CC, h1, h2, h3, _⟩ := h
  exact ⟨TN, cN, TP, cP, A, C, TT, CC, h1, h2, h3⟩
theorem OwnDk.zero (w : World) (lo hi : Nat) (TN TP : Option Addr) (A : Nat → Nat → Option Addr) (C : Nat → Nat → Nat) (TT : Nat → Option Addr) (CC : Nat → Nat) : OwnDk w lo hi TN TP dkZero A C TT CC :=
  ⟨fun h => absurd h (by simp [dkZero]), fun h => absurd h (by simp [dkZero]), fun i hi => absurd hi (by simp [dkZero]), fun s t b hs ht hne => by simp [dkZero] at hs ht; omega⟩
theorem OwnDk.one {w : World} {lo hi : Nat} {TN : Option Addr} {g : List (List Int)} {A : Nat → Option Addr} {C : Nat → Nat} (TP : Option Addr) (TT : Nat → Option Addr) (CC : Nat → Nat) (h : TabOwn w lo hi TN A C g) : OwnDk w lo hi TN TP ⟨g, []⟩ (fun _ => A) (fun _ => C) TT CC :=
  ⟨h, fun h => absurd h (by simp), fun i hi => absurd hi (by simp), fun s t b hs ht hne => by simp at hs ht; omega⟩
theorem DeskRes.zero {w w' : World} {x v : Value} {TN TP : Option Addr} (hv : v = .tuple #[dskV TN 0 0 TP 0 0, x]) (hb : Below w.heap.size w w') : DeskRes w dkZero x (.returned v) w' :=
  ⟨TN, 0, TP, ⟨0, Nat.le_refl _, Nat.zero_le _⟩, fun _ _ => none, fun _ _ => 0, fun _ => none, fun _ => 0, by rw [hv]; rfl, hb, OwnDk.zero _ _ _ _ _ _ _ _ _⟩
theorem DeskResR.zero {w w' : World} {x v : Value} {TN TP : Option Addr} (hv : v = .tuple #[dskV TN 0 0 TP 0 0, x]) (hb : Below w.heap.size w w') : DeskResR w dkZero x (.returned v) w' :=
  ⟨TN, 0, TP, ⟨0, Nat.le_refl _, Nat.zero_le _⟩, fun _ _ => none, fun _ _ => 0, fun _ => none, fun _ => 0, by rw [hv]; rfl, hb, OwnDk.zero _ _ _ _ _ _ _ _ _, fun h => absurd h (by simp)⟩
set_option maxHeartbeats 2000000 in
set_option maxRecDepth 100000 in
theorem deskNew_room (A : Option Addr) (c : Nat) (g : List (List Int)) (hl : g.length ≤ maxLen) (w : World) (h : Rows2 w (· < w.heap.size) A g) :
    Calls Tryz.prog 25 #[.slice A g.length c] w (DeskResR w (newD g) (.bool (laidB g))) := by
  have HR := Lib.hid h
  clear h
  obtain ⟨W, hW, hB, hbW, hzW⟩ := dsk_world w (.slice none 0 0) (.slice none 0 0)
  have hf0 : W.frozen? ⟨w.heap.size, 0, none⟩ = false := by rw [hW]; simp [go_sem]
  have hf1 : W.frozen? ⟨w.heap.size, 1, none⟩ = false := by rw [hW]; simp [go_sem]
  have HS := Lib.hid (laid_spec A c g _ hl W (keepRows hbW HR.out))
  have HW := Lib.hid hbW
  have ne : (⟨w.heap.size, 0, none⟩ : Addr) ≠ ⟨w.heap.size, 1, none⟩ := by intro e; injection e with e1 e2; omega
  rcases hb : laidB g with _ | _
  · rw [hb] at HS
    have HN := Lib.hid (newD_no hb)
    clear hb
    go_enter Tryz.func25, Tryz.ntmps25
    go_wp2_with fail
    rw [← hW]
    clear hW
    refine HS.out.mono ?_
    rintro e w1 ⟨rfl, n, rfl⟩
    have b0 : (W.drewN n).cell? ⟨w.heap.size, 0, none⟩ = some (.slice none 0 0) := hB.c0
    have b1 : (W.drewN n).cell? ⟨w.heap.size, 1, none⟩ = some (.slice none 0 0) := hB.c1
    have f0 : (W.drewN n).frozen? ⟨w.heap.size, 0, none⟩ = false := hf0
    have f1 : (W.drewN n).frozen? ⟨w.heap.size, 1, none⟩ = false := hf1
    clear hB hf0 hf1 hbW
    go_wp2_with fail
    have r0 : (((W.drewN n).setCell ⟨w.heap.size, 0, none⟩ (.slice none 0 0)).setCell ⟨w.heap.size, 1, none⟩ (.slice none 0 0)).cell? ⟨w.heap.size, 0, none⟩ = some (.slice none 0 0) := by
      rw [World.cell?_setCell_other (h := ne.symm)]; exact World.cell?_setCell_same _ _ _ b0
    have r1 : (((W.drewN n).setCell ⟨w.heap.size, 0, none⟩ (.slice none 0 0)).setCell ⟨w.heap.size, 1, none⟩ (.slice none 0 0)).cell? ⟨w.heap.size, 1, none⟩ = some (.slice none 0 0) :=
      World.cell?_setCell_same _ _ _ (by rw [World.cell?_setCell_other (h := ne)]; exact b1)
    rw [HN.out]
    refine bodyPost_ret (v := .tuple #[dskV none 0 0 none 0 0, .bool false]) (by simp [results, dskV, Tryz.results25, go_sem, r0, r1]) rfl (DeskResR.zero rfl ?_)
    exact ((below_drewN HW.out n).setCell (p := ⟨w.heap.size, 0, none⟩) (Nat.le_refl _) _).setCell (p := ⟨w.heap.size, 1, none⟩) (Nat.le_refl _) _
  · rw [hb] at HS
    have HN := Lib.hid (newD_yes hb)
    have HG := Lib.hid (laid_game hb)
    clear hb
    go_enter Tryz.func25, Tryz.ntmps25
    go_wp2_with fail
    rw [← hW]
    clear hW
    refine HS.out.mono ?_
    rintro e w1 ⟨rfl, n, rfl⟩
    go_wp2_with fail
    refine (copyG_spec _ _ g HG.out _ ((keepRows (below_drewN HW.out n) HR.out).lt (below_drewN HW.out n).size)).mono ?_
    rintro e w2 ⟨TN, cN, rfl, hc1, hc2, hb2, ho2⟩
    have k2 : ∀ o, w2.cell? ⟨w.heap.size, o, none⟩ = W.cell? ⟨w.heap.size, o, none⟩ := fun o => (hb2.cell (p := ⟨w.heap.size, o, none⟩) (by show w.heap.size < W.heap.size; omega))
    have kf : ∀ o, w2.frozen? ⟨w.heap.size, o, none⟩ = W.frozen? ⟨w.heap.size, o, none⟩ := fun o => (hb2.frozen (p := ⟨w.heap.size, o, none⟩) (by show w.heap.size < W.heap.size; omega))
    have b0 := (k2 0).trans hB.c0
    have b1 := (k2 1).trans hB.c1
    have f0 := (kf 0).trans hf0
    have f1 := (kf 1).trans hf1
    have HB2 := Lib.hid hb2
    have HO2 := Lib.hid ho2
    clear hB hf0 hf1 hbW k2 kf hb2 ho2
    go_wp2_with fail
    have r0 : ((w2.setCell ⟨w.heap.size, 0, none⟩ (.slice TN g.length cN)).setCell ⟨w.heap.size, 1, none⟩ (.slice none 0 0)).cell? ⟨w.heap.size, 0, none⟩ = some (.slice TN g.length cN) := by
      rw [World.cell?_setCell_other (h := ne.symm)]; exact World.cell?_setCell_same _ _ _ b0
    have r1 : ((w2.setCell ⟨w.heap.size, 0, none⟩ (.slice TN g.length cN)).setCell ⟨w.heap.size, 1, none⟩ (.slice none 0 0)).cell? ⟨w.heap.size, 1, none⟩ = some (.slice none 0 0) :=
      World.cell?_setCell_same _ _ _ (by rw [World.cell?_setCell_other (h := ne)]; exact b1)
    rw [HN.out]
    refine bodyPost_ret (v := .tuple #[dskV TN g.length cN none 0 0, .bool true]) (by simp [results, dskV, Tryz.results25, go_sem, r0, r1]) rfl ?_
    obtain ⟨AA, CC, hT⟩ := HO2.out.tab
    have hz2 : W.heap.size ≤ w2.heap.size := HB2.out.size
    refine ⟨TN, cN, none, ⟨0, Nat.le_refl _, Nat.zero_le _⟩, fun _ => AA, fun _ => CC, fun _ => none, fun _ => 0, rfl, (((below_drewN HW.out n).trans (HB2.out.mono (by show w.heap.size ≤ W.heap.size; omega))).setCell (p := ⟨w.heap.size, 0, none⟩) (Nat.le_refl _) _).setCell (p := ⟨w.heap.size, 1, none⟩) (Nat.le_refl _) _, OwnDk.one _ _ _ ?_, fun h => absurd h (by simp)⟩
    refine (hT.keep (w' := ((w2.setCell ⟨w.heap.size, 0, none⟩ (.slice TN g.length cN)).setCell ⟨w.heap.size, 1, none⟩ (.slice none 0 0))) fun b h1 _ => ?_).more (by show w.heap.size ≤ W.heap.size; omega) (by simp [World.setCell])
    have hne : b ≠ w.heap.size := by have : W.heap.size ≤ b := h1; omega
    rw [Below.heap_setCell _ _ _ _ hne, Below.heap_setCell _ _ _ _ hne]
end Go.Proofs.YtlmaeadbomnhlaaGreat
