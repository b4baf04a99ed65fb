/- Texts in one: DeskIb, DeskIc, DeskId, DeskIe. -/
import Derived.Test.YtlmaeadbomnhlaaGreatDeskIa
import Derived.Test.YtlmaeadbomnhlaaGreatNI
import Derived.Test.YtlmaeadbomnhlaaGreatQD
import Derived.Test.YtlmaeadbomnhlaaGreatQB
import Derived.Deep.AppendLies
namespace Go.Proofs.YtlmaeadbomnhlaaGreat
set_option linter.unusedSimpArgs false
set_option linter.unusedVariables false
open Go.RowKit
theorem copied_game (T : Option Addr) (c : Nat) (g : List (List Int)) (hb : gameB g = true) (w : World) (h : Rows2 w (· < w.heap.size) T g) :
    Calls Tryz.prog 35 #[.slice T g.length c] w (NewTableC w g) := by
  have hg := Game.of hb
  have h1 := hg.lo
  have h2 := hg.hi
  have h3 := hg.mlo
  have h4 := hg.mhi
  exact copied T c g (by omega) (by omega) (fun i hi => by have := hg.len i hi; omega) w h
def lastD (g : List (List Int)) (p : List (List (List Int))) : Dk := ⟨g, p.drop (p.length - 8)⟩
theorem lastD_few (g : List (List Int)) {p : List (List (List Int))} (h : p.length ≤ 8) : lastD g p = ⟨g, p⟩ := by unfold lastD; rw [show p.length - 8 = 0 by omega]; rfl
theorem lastD_push (g : List (List Int)) {p : List (List (List Int))} {n : List (List Int)} (h : p.length ≤ 8) : lastD g (p ++ [n]) = ⟨g, pushP p n⟩ := by
  unfold lastD pushP
  rw [List.length_append, List.length_singleton]
  split
  · rw [show p.length + 1 - 8 = 0 by omega]; rfl
  · rw [show p.length + 1 - 8 = 1 by omega]
theorem tabAt_dropN (p : List (List (List Int))) (s i : Nat) : tabAt (p.drop s) i = tabAt p (s + i) := by unfold tabAt; simp
def Tabs3 (w : World) (S : Nat → Prop) (A : Option Addr) (p : List (List (List Int))) : Prop :=
  0 < p.length → ∃ b off : Nat, A = some ⟨b, off, none⟩ ∧ S b ∧ ∀ i, i < p.length → ∃ (A' : Option Addr) (c : Nat), w.cell? ⟨b, off + i, none⟩ = some (.slice A' (tabAt p i).length c) ∧ Rows2 w S A' (tabAt p i)
theorem tabs_of {w : World} {S : Nat → Prop} {A : Option Addr} {p : List (List (List Int))} (h : Rows3 w S A p) : Tabs3 w S A p := by
  intro h0
  obtain ⟨b, off, e, hb, hc⟩ := h h0
  refine ⟨b, off, e, hb, fun i hi => ?_⟩
  obtain ⟨A', c, h1, _, _, h4⟩ := hc i hi
  exact ⟨A', c, h1, h4⟩
theorem tabs_keep {w w' : World} {S : Nat → Prop} {A : Option Addr} {p : List (List (List Int))} (h : Tabs3 w S A p) (hk : ∀ b, S b → w'.heap[b]? = w.heap[b]?) : Tabs3 w' S A p := by
  intro h0
  obtain ⟨b, off, e, hb, hc⟩ := h h0
  refine ⟨b, off, e, hb, fun i hi => ?_⟩
  obtain ⟨A', c, h1, h4⟩ := hc i hi
  exact ⟨A', c, (World.cell?_of_block (w := w) (hk b hb)).trans h1, h4.keep hk⟩
theorem tabs_mono {w : World} {S T : Nat → Prop} {A : Option Addr} {p : List (List (List Int))} (h : Tabs3 w S A p) (hk : ∀ b, S b → T b) : Tabs3 w T A p := by
  intro h0
  obtain ⟨b, off, e, hb, hc⟩ := h h0
  refine ⟨b, off, e, hk b hb, fun i hi => ?_⟩
  obtain ⟨A', c, h1, h4⟩ := hc i hi
  exact ⟨A', c, h1, h4.mono hk⟩
theorem tabs_below {B : Nat} {w w' : World} {A : Option Addr} {p : List (List (List Int))} (hb : Below B w w') (h : Tabs3 w (· < B) A p) : Tabs3 w' (· < B) A p := tabs_keep h fun b hS => hb.block b hS
theorem tabs_some {w : World} {S : Nat → Prop} {A : Option Addr} {p : List (List (List Int))} (h : Tabs3 w S A p) (h0 : 0 < p.length) : ∃ b off : Nat, A = some ⟨b, off, none⟩ := by
  obtain ⟨b, off, e, _⟩ := h h0; exact ⟨b, off, e⟩
theorem tabs_tab {w : World} {S : Nat → Prop} {b off : Nat} {p : List (List (List Int))} (h : Tabs3 w S (some ⟨b, off, none⟩) p) {i : Nat} (hi : i < p.length) :
    S b ∧ ∃ (A' : Option Addr) (c : Nat), w.cell? ⟨b, off + i, none⟩ = some (.slice A' (tabAt p i).length c) ∧ Rows2 w S A' (tabAt p i) := by
  obtain ⟨b', off', e, hb, hc⟩ := h (by omega)
  injection e with e; injection e with e1 e2
  subst e1 e2
  exact ⟨hb, hc i hi⟩
theorem tabs_drop {w : World} {S : Nat → Prop} {b off : Nat} {p : List (List (List Int))} (h : Tabs3 w S (some ⟨b, off, none⟩) p) {s : Nat} (hs : s ≤ p.length) : Tabs3 w S (some ⟨b, off + s, none⟩) (p.drop s) := by
  intro h0
  rw [List.length_drop] at h0
  obtain ⟨b', off', e, hb, hc⟩ := h (by omega)
  injection e with e; injection e with e1 e2
  subst e1 e2
  refine ⟨b, off + s, rfl, hb, fun i hi => ?_⟩
  rw [List.length_drop] at hi
  obtain ⟨A', c, h1, h2⟩ := hc (s + i) (by omega)
  rw [tabAt_dropN]
  exact ⟨A', c, by rw [Nat.add_assoc]; exact h1, h2⟩
end Go.Proofs.YtlmaeadbomnhlaaGreat

namespace Go.Proofs.YtlmaeadbomnhlaaGreat
set_option linter.unusedSimpArgs false
set_option linter.unusedVariables false
open Go.RowKit
def DeskVal (w : World) (d : Dk) (e : Ending) (w' : World) : Prop :=
  ∃ (TN : Option Addr) (cN : Nat) (TP : Option Addr) (cP : CapN d.past.length), e = .returned (.agg #[.slice TN d.now.length cN, .slice TP d.past.length cP]) ∧ Below w.heap.size w w' ∧ ∃ A C TT CC, OwnDk w' w.heap.size w'.heap.size TN TP d A C TT CC
set_option maxHeartbeats 4000000 in
set_option maxRecDepth 100000 in
theorem deskOf_few (A B : Option Addr) (c kk : Nat) (g : List (List Int)) (p : List (List (List Int))) (hg : gameB g = true) (hp : ∀ i, i < p.length → laidB (tabAt p i) = true) (hl : p.length ≤ 9) (hkk : p.length ≤ kk) (hkm : kk ≤ maxLen) (hcs : p.length ≤ 8) (w : World) (h : Rows2 w (· < w.heap.size) A g) (h' : Tabs3 w (· < w.heap.size) B p) :
    Calls Tryz.prog 15 #[.slice A g.length c, .slice B p.length kk] w (DeskVal w (lastD g p)) := by
  obtain ⟨q, hq⟩ : ∃ q, q = p.drop (p.length - 8) := ⟨_, rfl⟩
  have HQ := Lib.hid hq
  have HLD : Hid (lastD g p = ⟨g, q⟩) := by show _ = _; rw [HQ.out]; rfl
  clear hq
  have hs0 : p.length - 8 = 0 := by omega
  have hq : q = p := by rw [HQ.out, hs0]; rfl
  subst hq
  clear hs0
  have hmx : max (0 : Int) ((q.length : Int) - 8) = 0 := by omega
  have HN := Lib.hid hg
  have HP : Hid (∀ i, i < q.length → laidB (tabAt q i) = true) := fun i hi => by
    rw [HQ.out] at hi ⊢
    rw [List.length_drop] at hi
    rw [tabAt_dropN]; exact hp _ (by omega)
  have hq9 : q.length ≤ 9 := by rw [HQ.out, List.length_drop]; omega
  have H1 := Lib.hid h
  have H2 := Lib.hid h'
  obtain ⟨i1, hi1, hy0, hy1, hy2⟩ := info_parts infoT
  have HI1 := Lib.hid hi1
  have HY0 := Lib.hid hy0
  have HY1 := Lib.hid hy1
  have HY2 := Lib.hid hy2
  unfold maxLen at hkm
  clear h h' hg hp hi1 hy0 hy1 hy2
  obtain ⟨W, hW⟩ : ∃ W, W = w.alloc (.cells #[.slice none 0 0, .slice none 0 0] 26) := ⟨_, rfl⟩
  have hzW : W.heap.size = w.heap.size + 1 := by rw [hW]; simp
  have y0 : W.cell? ⟨w.heap.size, 0, none⟩ = some (.slice none 0 0) := by rw [hW]; simp [go_sem]
  have y1 : W.cell? ⟨w.heap.size, 1, none⟩ = some (.slice none 0 0) := by rw [hW]; simp [go_sem]
  have fy0 : W.frozen? ⟨w.heap.size, 0, none⟩ = false := by rw [hW]; simp [go_sem]
  have fy1 : W.frozen? ⟨w.heap.size, 1, none⟩ = false := by rw [hW]; simp [go_sem]
  have hbW : Below w.heap.size w W := by rw [hW]; exact (Below.refl _ _).alloc (Nat.le_refl _) _
  have HBW := Lib.hid hbW
  have HzW := Lib.hid hzW
  have HYF := Lib.hid (And.intro (And.intro y0 y1) (And.intro fy0 fy1))
  go_enter Tryz.func15, Tryz.ntmps15
  go_wp2_with fail
  rw [← hW]
  clear hW y0 y1 fy0 fy1 hbW hzW
  refine (copied_game _ _ g HN.out _ ((keepRows HBW.out H1.out).lt HBW.out.size)).mono ?_
  rintro e w2 ⟨TN, cN, rfl, hcN1, hcN2, hb2, ho2⟩
  obtain ⟨A0, C0, hT2⟩ := ho2.tab
  have HB2 := Lib.hid hb2
  have HT2 := Lib.hid hT2
  clear ho2 hT2
  obtain ⟨pO, hpO⟩ : ∃ pO, w2.heap.size = pO := ⟨_, rfl⟩
  have HWO : Hid (W.heap.size ≤ pO) := by show _ ≤ _; rw [← hpO]; exact hb2.size
  clear hb2
  go_wp2_with fail
  obtain ⟨w3, hw3⟩ : ∃ w3, w3 = w2.alloc (.cells #[.slice TN g.length cN, .slice none 0 0] 26) := ⟨_, rfl⟩
  have hC3 : CopyAt w3 W.heap.size pO TN g.length cN A0 C0 g (tkP q 0) := by
    have hz : w3.heap.size = pO + 1 := by rw [hw3]; simp [hpO]
    refine ⟨by omega, by rw [hw3, ← hpO]; simp [go_sem], HT2.out.keep (w' := w3) (fun b _ h2 => by rw [hw3]; exact Below.heap_alloc _ _ _ h2) |>.more (Nat.le_refl _) (by omega), ?_⟩
    exact ⟨.slice none 0 0, fun _ _ => none, fun _ _ => 0, fun _ => none, fun _ => 0, ⟨by omega, by rw [hw3, ← hpO]; simp [go_sem], by rw [hw3, ← hpO]; simp [go_sem]⟩, GrowsP.nil w3 (Nat.le_refl _) _ _ _ _⟩
  have HC3 := Lib.hid hC3
  have HW3 : Hid (Below W.heap.size W w3) := by
    show Below _ _ _
    rw [hw3]
    exact (HB2.out).alloc HB2.out.size _
  rw [← hw3]
  clear hw3 hC3 hpO
  clear hmx
  go_loopw [18] (fun i wr => ∃ k : Nat, k ≤ q.length ∧ i = .int .i64 k ∧ Hid (CopyAt wr W.heap.size pO TN g.length cN A0 C0 g (tkP q k)) ∧ Hid (Below W.heap.size W wr)) (fun i _ => q.length - (intOf i).toNat)
  case atStart => exact ⟨0, Nat.zero_le _, rfl, HC3.out, HW3.out⟩
  case round =>
    obtain ⟨k, hk, rfl, HC, HW⟩ := hrel
    by_cases hlt : k < q.length
    · obtain ⟨bt, ot, hbo⟩ := tabs_some H2.out (by omega)
      subst hbo
      obtain ⟨hS, Ak, ck, hck, hik⟩ := tabs_tab (tabs_below HBW.out H2.out) hlt
      have hS' : bt < w.heap.size := hS
      have s2 := stays (W := W) (p := bt) (o := ot + k) (by rw [HzW.out]; omega) hck
      obtain ⟨hlt0, hfr, hnow, v, AA, CC, TT, UU, hB, hGP⟩ := HC.out
      have HB := Lib.hid hB
      have HF := Lib.hid hfr
      have HT := Lib.hid hnow
      have HWp := HWO.out
      have HWd : Hid (Below W.heap.size W wr.drew) := HW.out.drew
      have HGm := Lib.hid (laid_game (HP.out k hlt))
      have HIk : Hid (Rows2 wr.drew (· < wr.drew.heap.size) Ak (tabAt q k)) := (keepRows (HWd.out.mono HBW.out.size) hik).lt (Nat.le_trans HBW.out.size HWd.out.size)
      have HpO : Hid (pO < wr.drew.heap.size) := hB.lt
      have HBc : Hid (wr.drew.cell? ⟨pO, 1, none⟩ = some v) := hB.c1
      have hBc := HBc.out
      have HFr : Hid (wr.drew.frozen? ⟨pO, 1, none⟩ = false) := hfr
      have HGP : Hid (GrowsP wr.drew (pO + 1) wr.drew.heap.size v AA CC TT UU (tkP q k)) := hGP.keep (Below.refl _ _).drew
      have HLT := Lib.hid (tkP_length q hk)
      have s3 := s2 wr HW.out
      clear hB hfr hnow hGP hik hck hlt0 HC hS
      go_wp2_with fail
      refine wp_region_held_drew (S := fun w' => Below W.heap.size W w') (by kernel_rfl) HWd.out (fun hHeld => ?_)
      refine wpAnyH_take (i := 0) (v := ?v1) rfl (by kernel_rfl) (by kernel_rfl) (by kernel_rfl) (fun _ _ _ h => h) (Or.inl ⟨by rfl, ?y1⟩) (by assumption) ?z1
      case y1 => (intro w hSw; go_simp; first | done | with_reducible rfl)
      try simp only [List.getElem_toArray, List.getElem_cons_succ, List.getElem_cons_zero, Act.put, List.setIfInBounds_toArray, List.set_cons_zero, List.set_cons_succ]
      refine wpAnyH_take (i := 2) (v := ?v2) rfl (by kernel_rfl) (by kernel_rfl) (by kernel_rfl) (fun _ _ _ h => h) (Or.inl ⟨by rfl, ?y2⟩) (by assumption) ?z2
      case y2 => (intro w hSw; go_simp; first | done | with_reducible rfl)
      try simp only [List.getElem_toArray, List.getElem_cons_succ, List.getElem_cons_zero, Act.put, List.setIfInBounds_toArray, List.set_cons_zero, List.set_cons_succ]
      refine wpAnyH_ready (rs := [1, 3]) (by kernel_rfl) (by simp) ?_
      refine AllReadyH.cons rfl (fun K hK => ?_) (AllReadyH.cons rfl (fun K hK => ?_) AllReadyH.nil)
      · go_simp
        refine hK.out _ _ (by first | assumption | exact hS9 | exact hSa _ | exact hS5 () | exact hSs () _) (fun hHeld => ?_)
        clear hK K
        try simp only [List.getElem_toArray, List.getElem_cons_succ, List.getElem_cons_zero, Act.put, List.setIfInBounds_toArray, List.set_cons_zero, List.set_cons_succ]
        refine wpAnyH_ready (rs := [3]) (by kernel_rfl) (by simp) ?_
        refine AllReadyH.cons rfl (fun K hK => ?_) AllReadyH.nil
        go_simp
        (go_at_call 35; refine (copied_game _ _ (tabAt q k) HGm.out _ HIk.out).mono ?_; rintro e w9 ⟨T9, c9, rfl, hc1, hc2, hb9, ho9⟩; have hS9 : Below W.heap.size W w9 := HWd.out.trans (hb9.mono HWd.out.size); have hSa : ∀ o, Below W.heap.size W (w9.alloc o) := fun o => hS9.alloc hS9.size o; have hc9 : w9.cell? ⟨pO, 1, none⟩ = some v := (hb9.cell (p := ⟨pO, 1, none⟩) HpO.out).trans HBc.out; have hd9 : ∀ o, (w9.alloc o).cell? ⟨pO, 1, none⟩ = some v := fun o => (World.cell?_alloc_lt _ _ _ (Nat.lt_of_lt_of_le HpO.out hb9.size)).trans hc9)
        refine hK.out _ _ (by first | assumption | exact hS9 | exact hSa _ | exact hS5 () | exact hSs () _) (fun hHeld => ?_)
        clear hK K
        try simp only [List.getElem_toArray, List.getElem_cons_succ, List.getElem_cons_zero, Act.put, List.setIfInBounds_toArray, List.set_cons_zero, List.set_cons_succ]
        refine wpAnyH_ready (rs := [4]) (by kernel_rfl) (by simp) ?_
        refine AllReadyH.cons rfl (fun K hK => ?_) AllReadyH.nil
        go_simp
        refine hK.out _ _ (by first | assumption | exact hS9 | exact hSa _ | exact hS5 () | exact hSs () _) (fun hHeld => ?_)
        clear hK K
        try simp only [List.getElem_toArray, List.getElem_cons_succ, List.getElem_cons_zero, Act.put, List.setIfInBounds_toArray, List.set_cons_zero, List.set_cons_succ]
        refine wpAnyH_ready (rs := [5]) (by kernel_rfl) (by simp) ?_
        refine AllReadyH.cons rfl (fun K hK => ?_) AllReadyH.nil
        have g9 : GrowsP w9 (pO + 1) w9.heap.size v AA CC TT UU (tkP q k) := (HGP.out.keep hb9).up hb9.size (Nat.le_refl _)
        refine step_append_lies _ rfl (.tmp 23) (.tmp 26) _ rfl (pO + 1) 23 i1 (.slice none 0 0) 1 24 Tryz.underlying24 HI1.out HY0.out HY1.out HY2.out rfl (by decide) _ (tkP q k).length (tabVals TT UU (tkP q k)) rfl (World.ownsRow.alloc g9.top _) ⟨w9.heap.size, 0, none⟩ 1 1 [.slice T9 (tabAt q k).length c9] rfl rfl (cell_one_new _ _ _) (by intro u hu; simp at hu; subst hu; rfl) (by decide) (by rw [HLT.out]; unfold maxLen; omega) (by rw [HLT.out]; omega) (by have := HpO.out; have := hb9.size; simp; omega) _ rfl ?_
        intro g5 c5 w5 hown hgrow hat hg5
        have hN5 := copy_next HGP.out hb9 ho9 hc1 hc2 HpO.out hown hgrow hat
        have hS5 : ∀ _ : Unit, Below W.heap.size W w5 := fun _ => HWd.out.trans (hN5.1.mono (Nat.le_succ_of_le HWO.out))
        have hSs : ∀ (_ : Unit) x, Below W.heap.size W (w5.setCell ⟨pO, 1, none⟩ x) := fun _ x => (hS5 ()).setCell (p := ⟨pO, 1, none⟩) HWp x
        have hc5 : w5.cell? ⟨pO, 1, none⟩ = some v := (hN5.1.cell (p := ⟨pO, 1, none⟩) (Nat.lt_succ_self pO)).trans HBc.out
        have hf5 : w5.frozen? ⟨pO, 1, none⟩ = false := (hN5.1.frozen (p := ⟨pO, 1, none⟩) (Nat.lt_succ_self pO)).trans HFr.out
        go_simp
        refine hK.out _ _ (by first | assumption | exact hS9 | exact hSa _ | exact hS5 () | exact hSs () _) (fun hHeld => ?_)
        clear hK K
        try simp only [List.getElem_toArray, List.getElem_cons_succ, List.getElem_cons_zero, Act.put, List.setIfInBounds_toArray, List.set_cons_zero, List.set_cons_succ]
        refine wpAnyH_take (i := 6) (v := ?v3) rfl (by kernel_rfl) (by kernel_rfl) (by kernel_rfl) (fun _ _ _ h => h) (Or.inl ⟨by rfl, ?y3⟩) (by assumption) ?z3
        case y3 => (intro w hSw; go_simp; first | done | with_reducible rfl)
        try simp only [List.getElem_toArray, List.getElem_cons_succ, List.getElem_cons_zero, Act.put, List.setIfInBounds_toArray, List.set_cons_zero, List.set_cons_succ]
        refine wpAnyH_ready (rs := [7]) (by kernel_rfl) (by simp) ?_
        refine AllReadyH.cons rfl (fun K hK => ?_) AllReadyH.nil
        go_simp
        refine hK.out _ _ (by first | assumption | exact hS9 | exact hSa _ | exact hS5 () | exact hSs () _) (fun hHeld => ?_)
        clear hK K
        try simp only [List.getElem_toArray, List.getElem_cons_succ, List.getElem_cons_zero, Act.put, List.setIfInBounds_toArray, List.set_cons_zero, List.set_cons_succ]
        refine wpAnyH_done (by kernel_rfl) ?_ _
        have hk2 : Below (pO + 1) wr w5 := ((Below.refl (pO + 1) wr).drew).trans hN5.1
        go_wp2_with fail
        go_roundw
        case rel => exact ⟨k + 1, by omega, by go_num, by rw [tkP_snoc q hlt]; exact copy_round HB.out HF.out HT.out hN5.2 hk2 (Nat.lt_succ_self pO), (by first | exact hSs () _)⟩
        case measure => simp [intOf]; omega
      · go_simp
        (go_at_call 35; refine (copied_game _ _ (tabAt q k) HGm.out _ HIk.out).mono ?_; rintro e w9 ⟨T9, c9, rfl, hc1, hc2, hb9, ho9⟩; have hS9 : Below W.heap.size W w9 := HWd.out.trans (hb9.mono HWd.out.size); have hSa : ∀ o, Below W.heap.size W (w9.alloc o) := fun o => hS9.alloc hS9.size o; have hc9 : w9.cell? ⟨pO, 1, none⟩ = some v := (hb9.cell (p := ⟨pO, 1, none⟩) HpO.out).trans HBc.out; have hd9 : ∀ o, (w9.alloc o).cell? ⟨pO, 1, none⟩ = some v := fun o => (World.cell?_alloc_lt _ _ _ (Nat.lt_of_lt_of_le HpO.out hb9.size)).trans hc9)
        refine hK.out _ _ (by first | assumption | exact hS9 | exact hSa _ | exact hS5 () | exact hSs () _) (fun hHeld => ?_)
        clear hK K
        try simp only [List.getElem_toArray, List.getElem_cons_succ, List.getElem_cons_zero, Act.put, List.setIfInBounds_toArray, List.set_cons_zero, List.set_cons_succ]
        refine wpAnyH_ready (rs := [1, 4]) (by kernel_rfl) (by simp) ?_
        refine AllReadyH.cons rfl (fun K hK => ?_) (AllReadyH.cons rfl (fun K hK => ?_) AllReadyH.nil)
        · go_simp
          refine hK.out _ _ (by first | assumption | exact hS9 | exact hSa _ | exact hS5 () | exact hSs () _) (fun hHeld => ?_)
          clear hK K
          try simp only [List.getElem_toArray, List.getElem_cons_succ, List.getElem_cons_zero, Act.put, List.setIfInBounds_toArray, List.set_cons_zero, List.set_cons_succ]
          refine wpAnyH_ready (rs := [4]) (by kernel_rfl) (by simp) ?_
          refine AllReadyH.cons rfl (fun K hK => ?_) AllReadyH.nil
          go_simp
          refine hK.out _ _ (by first | assumption | exact hS9 | exact hSa _ | exact hS5 () | exact hSs () _) (fun hHeld => ?_)
          clear hK K
          try simp only [List.getElem_toArray, List.getElem_cons_succ, List.getElem_cons_zero, Act.put, List.setIfInBounds_toArray, List.set_cons_zero, List.set_cons_succ]
          refine wpAnyH_ready (rs := [5]) (by kernel_rfl) (by simp) ?_
          refine AllReadyH.cons rfl (fun K hK => ?_) AllReadyH.nil
          have g9 : GrowsP w9 (pO + 1) w9.heap.size v AA CC TT UU (tkP q k) := (HGP.out.keep hb9).up hb9.size (Nat.le_refl _)
          refine step_append_lies _ rfl (.tmp 23) (.tmp 26) _ rfl (pO + 1) 23 i1 (.slice none 0 0) 1 24 Tryz.underlying24 HI1.out HY0.out HY1.out HY2.out rfl (by decide) _ (tkP q k).length (tabVals TT UU (tkP q k)) rfl (World.ownsRow.alloc g9.top _) ⟨w9.heap.size, 0, none⟩ 1 1 [.slice T9 (tabAt q k).length c9] rfl rfl (cell_one_new _ _ _) (by intro u hu; simp at hu; subst hu; rfl) (by decide) (by rw [HLT.out]; unfold maxLen; omega) (by rw [HLT.out]; omega) (by have := HpO.out; have := hb9.size; simp; omega) _ rfl ?_
          intro g5 c5 w5 hown hgrow hat hg5
          have hN5 := copy_next HGP.out hb9 ho9 hc1 hc2 HpO.out hown hgrow hat
          have hS5 : ∀ _ : Unit, Below W.heap.size W w5 := fun _ => HWd.out.trans (hN5.1.mono (Nat.le_succ_of_le HWO.out))
          have hSs : ∀ (_ : Unit) x, Below W.heap.size W (w5.setCell ⟨pO, 1, none⟩ x) := fun _ x => (hS5 ()).setCell (p := ⟨pO, 1, none⟩) HWp x
          have hc5 : w5.cell? ⟨pO, 1, none⟩ = some v := (hN5.1.cell (p := ⟨pO, 1, none⟩) (Nat.lt_succ_self pO)).trans HBc.out
          have hf5 : w5.frozen? ⟨pO, 1, none⟩ = false := (hN5.1.frozen (p := ⟨pO, 1, none⟩) (Nat.lt_succ_self pO)).trans HFr.out
          go_simp
          refine hK.out _ _ (by first | assumption | exact hS9 | exact hSa _ | exact hS5 () | exact hSs () _) (fun hHeld => ?_)
          clear hK K
          try simp only [List.getElem_toArray, List.getElem_cons_succ, List.getElem_cons_zero, Act.put, List.setIfInBounds_toArray, List.set_cons_zero, List.set_cons_succ]
          refine wpAnyH_take (i := 6) (v := ?v4) rfl (by kernel_rfl) (by kernel_rfl) (by kernel_rfl) (fun _ _ _ h => h) (Or.inl ⟨by rfl, ?y4⟩) (by assumption) ?z4
          case y4 => (intro w hSw; go_simp; first | done | with_reducible rfl)
          try simp only [List.getElem_toArray, List.getElem_cons_succ, List.getElem_cons_zero, Act.put, List.setIfInBounds_toArray, List.set_cons_zero, List.set_cons_succ]
          refine wpAnyH_ready (rs := [7]) (by kernel_rfl) (by simp) ?_
          refine AllReadyH.cons rfl (fun K hK => ?_) AllReadyH.nil
          go_simp
          refine hK.out _ _ (by first | assumption | exact hS9 | exact hSa _ | exact hS5 () | exact hSs () _) (fun hHeld => ?_)
          clear hK K
          try simp only [List.getElem_toArray, List.getElem_cons_succ, List.getElem_cons_zero, Act.put, List.setIfInBounds_toArray, List.set_cons_zero, List.set_cons_succ]
          refine wpAnyH_done (by kernel_rfl) ?_ _
          have hk2 : Below (pO + 1) wr w5 := ((Below.refl (pO + 1) wr).drew).trans hN5.1
          go_wp2_with fail
          go_roundw
          case rel => exact ⟨k + 1, by omega, by go_num, by rw [tkP_snoc q hlt]; exact copy_round HB.out HF.out HT.out hN5.2 hk2 (Nat.lt_succ_self pO), (by first | exact hSs () _)⟩
          case measure => simp [intOf]; omega
        · go_simp
          refine hK.out _ _ (by first | assumption | exact hS9 | exact hSa _ | exact hS5 () | exact hSs () _) (fun hHeld => ?_)
          clear hK K
          try simp only [List.getElem_toArray, List.getElem_cons_succ, List.getElem_cons_zero, Act.put, List.setIfInBounds_toArray, List.set_cons_zero, List.set_cons_succ]
          refine wpAnyH_ready (rs := [1]) (by kernel_rfl) (by simp) ?_
          refine AllReadyH.cons rfl (fun K hK => ?_) AllReadyH.nil
          go_simp
          refine hK.out _ _ (by first | assumption | exact hS9 | exact hSa _ | exact hS5 () | exact hSs () _) (fun hHeld => ?_)
          clear hK K
          try simp only [List.getElem_toArray, List.getElem_cons_succ, List.getElem_cons_zero, Act.put, List.setIfInBounds_toArray, List.set_cons_zero, List.set_cons_succ]
          refine wpAnyH_ready (rs := [5]) (by kernel_rfl) (by simp) ?_
          refine AllReadyH.cons rfl (fun K hK => ?_) AllReadyH.nil
          have g9 : GrowsP w9 (pO + 1) w9.heap.size v AA CC TT UU (tkP q k) := (HGP.out.keep hb9).up hb9.size (Nat.le_refl _)
          refine step_append_lies _ rfl (.tmp 23) (.tmp 26) _ rfl (pO + 1) 23 i1 (.slice none 0 0) 1 24 Tryz.underlying24 HI1.out HY0.out HY1.out HY2.out rfl (by decide) _ (tkP q k).length (tabVals TT UU (tkP q k)) rfl (World.ownsRow.alloc g9.top _) ⟨w9.heap.size, 0, none⟩ 1 1 [.slice T9 (tabAt q k).length c9] rfl rfl (cell_one_new _ _ _) (by intro u hu; simp at hu; subst hu; rfl) (by decide) (by rw [HLT.out]; unfold maxLen; omega) (by rw [HLT.out]; omega) (by have := HpO.out; have := hb9.size; simp; omega) _ rfl ?_
          intro g5 c5 w5 hown hgrow hat hg5
          have hN5 := copy_next HGP.out hb9 ho9 hc1 hc2 HpO.out hown hgrow hat
          have hS5 : ∀ _ : Unit, Below W.heap.size W w5 := fun _ => HWd.out.trans (hN5.1.mono (Nat.le_succ_of_le HWO.out))
          have hSs : ∀ (_ : Unit) x, Below W.heap.size W (w5.setCell ⟨pO, 1, none⟩ x) := fun _ x => (hS5 ()).setCell (p := ⟨pO, 1, none⟩) HWp x
          have hc5 : w5.cell? ⟨pO, 1, none⟩ = some v := (hN5.1.cell (p := ⟨pO, 1, none⟩) (Nat.lt_succ_self pO)).trans HBc.out
          have hf5 : w5.frozen? ⟨pO, 1, none⟩ = false := (hN5.1.frozen (p := ⟨pO, 1, none⟩) (Nat.lt_succ_self pO)).trans HFr.out
          go_simp
          refine hK.out _ _ (by first | assumption | exact hS9 | exact hSa _ | exact hS5 () | exact hSs () _) (fun hHeld => ?_)
          clear hK K
          try simp only [List.getElem_toArray, List.getElem_cons_succ, List.getElem_cons_zero, Act.put, List.setIfInBounds_toArray, List.set_cons_zero, List.set_cons_succ]
          refine wpAnyH_take (i := 6) (v := ?v5) rfl (by kernel_rfl) (by kernel_rfl) (by kernel_rfl) (fun _ _ _ h => h) (Or.inl ⟨by rfl, ?y5⟩) (by assumption) ?z5
          case y5 => (intro w hSw; go_simp; first | done | with_reducible rfl)
          try simp only [List.getElem_toArray, List.getElem_cons_succ, List.getElem_cons_zero, Act.put, List.setIfInBounds_toArray, List.set_cons_zero, List.set_cons_succ]
          refine wpAnyH_ready (rs := [7]) (by kernel_rfl) (by simp) ?_
          refine AllReadyH.cons rfl (fun K hK => ?_) AllReadyH.nil
          go_simp
          refine hK.out _ _ (by first | assumption | exact hS9 | exact hSa _ | exact hS5 () | exact hSs () _) (fun hHeld => ?_)
          clear hK K
          try simp only [List.getElem_toArray, List.getElem_cons_succ, List.getElem_cons_zero, Act.put, List.setIfInBounds_toArray, List.set_cons_zero, List.set_cons_succ]
          refine wpAnyH_done (by kernel_rfl) ?_ _
          have hk2 : Below (pO + 1) wr w5 := ((Below.refl (pO + 1) wr).drew).trans hN5.1
          go_wp2_with fail
          go_roundw
          case rel => exact ⟨k + 1, by omega, by go_num, by rw [tkP_snoc q hlt]; exact copy_round HB.out HF.out HT.out hN5.2 hk2 (Nat.lt_succ_self pO), (by first | exact hSs () _)⟩
          case measure => simp [intOf]; omega
    · obtain rfl : k = q.length := by omega
      obtain ⟨hlt0, hfr, hnow, v, AA, CC, TT, UU, hB, hGP⟩ := HC.out
      rw [tkP_all] at hGP
      have hzw := HzW.out
      have l0 : w.heap.size < W.heap.size := by omega
      have f0 := hB.c0
      have f1 := hB.c1
      have b0 := (HW.out.cell (p := ⟨w.heap.size, 0, none⟩) l0).trans HYF.out.1.1
      have b1 := (HW.out.cell (p := ⟨w.heap.size, 1, none⟩) l0).trans HYF.out.1.2
      have g0 := (HW.out.frozen (p := ⟨w.heap.size, 0, none⟩) l0).trans HYF.out.2.1
      have g1 := (HW.out.frozen (p := ⟨w.heap.size, 1, none⟩) l0).trans HYF.out.2.2
      have ne : (⟨w.heap.size, 0, none⟩ : Addr) ≠ ⟨w.heap.size, 1, none⟩ := by intro e; injection e with e1 e2; omega
      have HGP := Lib.hid hGP
      have HT := Lib.hid hnow
      have HL0 := Lib.hid hlt0
      obtain ⟨TPv, cP, hv, hcP1, hcP2, _⟩ := hGP.past
      subst hv
      clear hB hGP hnow hfr hlt0 HC hzw l0
      go_wp2_with fail
      have r0 : ((wr.setCell ⟨w.heap.size, 0, none⟩ (.slice TN g.length cN)).setCell ⟨w.heap.size, 1, none⟩ (.slice TPv q.length cP)).cell? ⟨w.heap.size, 0, none⟩ = some (.slice TN g.length cN) := by
        rw [World.cell?_setCell_other (h := ne.symm)]; exact World.cell?_setCell_same _ _ _ b0
      have r1 : ((wr.setCell ⟨w.heap.size, 0, none⟩ (.slice TN g.length cN)).setCell ⟨w.heap.size, 1, none⟩ (.slice TPv q.length cP)).cell? ⟨w.heap.size, 1, none⟩ = some (.slice TPv q.length cP) :=
        World.cell?_setCell_same _ _ _ (by rw [World.cell?_setCell_other (h := ne)]; exact b1)
      refine bodyPost_ret (v := .agg #[.slice TN g.length cN, .slice TPv q.length cP]) (by simp [results, Tryz.results15, go_sem, r0, r1]) rfl ?_
      have hzw := HzW.out
      have hwo := HWO.out
      obtain ⟨w9, hw9⟩ : ∃ w9, w9 = (wr.setCell ⟨w.heap.size, 0, none⟩ (.slice TN g.length cN)).setCell ⟨w.heap.size, 1, none⟩ (.slice TPv q.length cP) := ⟨_, rfl⟩
      have st : ∀ b, w.heap.size < b → w9.heap[b]? = wr.heap[b]? := fun b hb => by
        have hne : b ≠ w.heap.size := by omega
        rw [hw9, Below.heap_setCell _ _ _ _ hne, Below.heap_setCell _ _ _ _ hne]
      have hz9 : w9.heap.size = wr.heap.size := by rw [hw9]; simp [World.setCell]
      have hb9 : Below w.heap.size w w9 := by
        rw [hw9]
        exact ((HBW.out.trans (HW.out.mono HBW.out.size)).setCell (p := ⟨w.heap.size, 0, none⟩) (Nat.le_refl _) _).setCell (p := ⟨w.heap.size, 1, none⟩) (Nat.le_refl _) _
      rw [← hw9]
      have hlo : ∀ k, (Value.slice TPv q.length cP).ownBlock = some k → pO + 1 ≤ k := fun k hk => ((World.ownsRow.lt HGP.out.top) k hk).1
      have hGP9 : GrowsP w9 (pO + 1) w9.heap.size (.slice TPv q.length cP) AA CC TT UU q :=
        ⟨ownsRow_of_block HGP.out.top fun k hk => st k (by have := hlo k hk; omega), HGP.out.cap, fun i hi => by rw [hz9]; exact (HGP.out.tabs i hi).keep fun b h1 _ => st b (by omega), HGP.out.apart, by rw [hz9]; exact HGP.out.hib, Nat.le_refl _⟩
      have hT9 : TabOwn w9 W.heap.size pO TN A0 C0 g := HT.out.keep fun b h1 _ => st b (by omega)
      rw [HLD.out]
      obtain ⟨TPx, cPx, hvx, hcPl, hcPx, hpo⟩ := (hGP9.base (base' := w.heap.size) (by omega)).past
      injection hvx with hv1 hv2 hv3
      subst hv1 hv3
      exact ⟨TN, cN, TPv, ⟨cP, hcPl, hcPx⟩, rfl, hb9, _, _, _, _, own_copy (d := ⟨g, q⟩) (hT9.more (by omega) (by have := HL0.out; omega)) hpo (fun t b ht h1 h2 => by
        have k1 := hT9.rows_in h1
        have k2 := (hGP9.tabs t ht).rows_in h2
        omega)⟩
set_option maxHeartbeats 4000000 in
set_option maxRecDepth 100000 in
theorem deskOf_nine (A B : Option Addr) (c kk : Nat) (g : List (List Int)) (p : List (List (List Int))) (hg : gameB g = true) (hp : ∀ i, i < p.length → laidB (tabAt p i) = true) (hl : p.length ≤ 9) (hkk : p.length ≤ kk) (hkm : kk ≤ maxLen) (hcs : ¬ p.length ≤ 8) (w : World) (h : Rows2 w (· < w.heap.size) A g) (h' : Tabs3 w (· < w.heap.size) B p) :
    Calls Tryz.prog 15 #[.slice A g.length c, .slice B p.length kk] w (DeskVal w (lastD g p)) := by
  obtain ⟨q, hq⟩ : ∃ q, q = p.drop (p.length - 8) := ⟨_, rfl⟩
  have HQ := Lib.hid hq
  have HLD : Hid (lastD g p = ⟨g, q⟩) := by show _ = _; rw [HQ.out]; rfl
  clear hq
  have h9 : p.length = 9 := by omega
  have hmx : max (0 : Int) ((p.length : Int) - 8) = 1 := by omega
  obtain ⟨bB, oB, rfl⟩ := tabs_some h' (by omega)
  have hql : p.length - 1 = q.length := by rw [HQ.out, List.length_drop]; omega
  have hk1 : ¬ kk = 1 := by omega
  replace h' : Tabs3 w (· < w.heap.size) (some ⟨bB, oB + 1, none⟩) q := by rw [HQ.out, show p.length - 8 = 1 by omega]; exact tabs_drop h' (by omega)
  clear h9
  have HN := Lib.hid hg
  have HP : Hid (∀ i, i < q.length → laidB (tabAt q i) = true) := fun i hi => by
    rw [HQ.out] at hi ⊢
    rw [List.length_drop] at hi
    rw [tabAt_dropN]; exact hp _ (by omega)
  have hq9 : q.length ≤ 9 := by rw [HQ.out, List.length_drop]; omega
  have H1 := Lib.hid h
  have H2 := Lib.hid h'
  obtain ⟨i1, hi1, hy0, hy1, hy2⟩ := info_parts infoT
  have HI1 := Lib.hid hi1
  have HY0 := Lib.hid hy0
  have HY1 := Lib.hid hy1
  have HY2 := Lib.hid hy2
  unfold maxLen at hkm
  clear h h' hg hp hi1 hy0 hy1 hy2
  obtain ⟨W, hW⟩ : ∃ W, W = w.alloc (.cells #[.slice none 0 0, .slice none 0 0] 26) := ⟨_, rfl⟩
  have hzW : W.heap.size = w.heap.size + 1 := by rw [hW]; simp
  have y0 : W.cell? ⟨w.heap.size, 0, none⟩ = some (.slice none 0 0) := by rw [hW]; simp [go_sem]
  have y1 : W.cell? ⟨w.heap.size, 1, none⟩ = some (.slice none 0 0) := by rw [hW]; simp [go_sem]
  have fy0 : W.frozen? ⟨w.heap.size, 0, none⟩ = false := by rw [hW]; simp [go_sem]
  have fy1 : W.frozen? ⟨w.heap.size, 1, none⟩ = false := by rw [hW]; simp [go_sem]
  have hbW : Below w.heap.size w W := by rw [hW]; exact (Below.refl _ _).alloc (Nat.le_refl _) _
  have HBW := Lib.hid hbW
  have HzW := Lib.hid hzW
  have HYF := Lib.hid (And.intro (And.intro y0 y1) (And.intro fy0 fy1))
  go_enter Tryz.func15, Tryz.ntmps15
  go_wp2_with fail
  rw [← hW]
  clear hW y0 y1 fy0 fy1 hbW hzW
  refine (copied_game _ _ g HN.out _ ((keepRows HBW.out H1.out).lt HBW.out.size)).mono ?_
  rintro e w2 ⟨TN, cN, rfl, hcN1, hcN2, hb2, ho2⟩
  obtain ⟨A0, C0, hT2⟩ := ho2.tab
  have HB2 := Lib.hid hb2
  have HT2 := Lib.hid hT2
  clear ho2 hT2
  obtain ⟨pO, hpO⟩ : ∃ pO, w2.heap.size = pO := ⟨_, rfl⟩
  have HWO : Hid (W.heap.size ≤ pO) := by show _ ≤ _; rw [← hpO]; exact hb2.size
  clear hb2
  go_wp2_with fail
  obtain ⟨w3, hw3⟩ : ∃ w3, w3 = w2.alloc (.cells #[.slice TN g.length cN, .slice none 0 0] 26) := ⟨_, rfl⟩
  have hC3 : CopyAt w3 W.heap.size pO TN g.length cN A0 C0 g (tkP q 0) := by
    have hz : w3.heap.size = pO + 1 := by rw [hw3]; simp [hpO]
    refine ⟨by omega, by rw [hw3, ← hpO]; simp [go_sem], HT2.out.keep (w' := w3) (fun b _ h2 => by rw [hw3]; exact Below.heap_alloc _ _ _ h2) |>.more (Nat.le_refl _) (by omega), ?_⟩
    exact ⟨.slice none 0 0, fun _ _ => none, fun _ _ => 0, fun _ => none, fun _ => 0, ⟨by omega, by rw [hw3, ← hpO]; simp [go_sem], by rw [hw3, ← hpO]; simp [go_sem]⟩, GrowsP.nil w3 (Nat.le_refl _) _ _ _ _⟩
  have HC3 := Lib.hid hC3
  have HW3 : Hid (Below W.heap.size W w3) := by
    show Below _ _ _
    rw [hw3]
    exact (HB2.out).alloc HB2.out.size _
  rw [← hw3]
  clear hw3 hC3 hpO
  clear hmx hk1
  go_loopw [18] (fun i wr => ∃ k : Nat, k ≤ q.length ∧ i = .int .i64 k ∧ Hid (CopyAt wr W.heap.size pO TN g.length cN A0 C0 g (tkP q k)) ∧ Hid (Below W.heap.size W wr)) (fun i _ => q.length - (intOf i).toNat)
  case atStart => exact ⟨0, Nat.zero_le _, rfl, HC3.out, HW3.out⟩
  case round =>
    obtain ⟨k, hk, rfl, HC, HW⟩ := hrel
    by_cases hlt : k < q.length
    · obtain ⟨bt, ot, hbo⟩ := tabs_some H2.out (by omega)
      obtain ⟨rfl, rfl⟩ : bt = bB ∧ ot = oB + 1 := by injection hbo with hbo; injection hbo with e1 e2; exact ⟨e1.symm, e2.symm⟩
      clear hbo
      obtain ⟨hS, Ak, ck, hck, hik⟩ := tabs_tab (tabs_below HBW.out H2.out) hlt
      have hS' : bt < w.heap.size := hS
      have s2 := stays (W := W) (p := bt) (o := (oB + 1) + k) (by rw [HzW.out]; omega) hck
      obtain ⟨hlt0, hfr, hnow, v, AA, CC, TT, UU, hB, hGP⟩ := HC.out
      have HB := Lib.hid hB
      have HF := Lib.hid hfr
      have HT := Lib.hid hnow
      have HWp := HWO.out
      have HWd : Hid (Below W.heap.size W wr.drew) := HW.out.drew
      have HGm := Lib.hid (laid_game (HP.out k hlt))
      have HIk : Hid (Rows2 wr.drew (· < wr.drew.heap.size) Ak (tabAt q k)) := (keepRows (HWd.out.mono HBW.out.size) hik).lt (Nat.le_trans HBW.out.size HWd.out.size)
      have HpO : Hid (pO < wr.drew.heap.size) := hB.lt
      have HBc : Hid (wr.drew.cell? ⟨pO, 1, none⟩ = some v) := hB.c1
      have hBc := HBc.out
      have HFr : Hid (wr.drew.frozen? ⟨pO, 1, none⟩ = false) := hfr
      have HGP : Hid (GrowsP wr.drew (pO + 1) wr.drew.heap.size v AA CC TT UU (tkP q k)) := hGP.keep (Below.refl _ _).drew
      have HLT := Lib.hid (tkP_length q hk)
      have s3 := s2 wr HW.out
      clear hB hfr hnow hGP hik hck hlt0 HC hS
      go_wp2_with fail
      refine wp_region_held_drew (S := fun w' => Below W.heap.size W w') (by kernel_rfl) HWd.out (fun hHeld => ?_)
      refine wpAnyH_take (i := 0) (v := ?v1) rfl (by kernel_rfl) (by kernel_rfl) (by kernel_rfl) (fun _ _ _ h => h) (Or.inl ⟨by rfl, ?y1⟩) (by assumption) ?z1
      case y1 => (intro w hSw; go_simp; first | done | with_reducible rfl)
      try simp only [List.getElem_toArray, List.getElem_cons_succ, List.getElem_cons_zero, Act.put, List.setIfInBounds_toArray, List.set_cons_zero, List.set_cons_succ]
      refine wpAnyH_take (i := 2) (v := ?v2) rfl (by kernel_rfl) (by kernel_rfl) (by kernel_rfl) (fun _ _ _ h => h) (Or.inl ⟨by rfl, ?y2⟩) (by assumption) ?z2
      case y2 => (intro w hSw; go_simp; first | done | with_reducible rfl)
      try simp only [List.getElem_toArray, List.getElem_cons_succ, List.getElem_cons_zero, Act.put, List.setIfInBounds_toArray, List.set_cons_zero, List.set_cons_succ]
      refine wpAnyH_ready (rs := [1, 3]) (by kernel_rfl) (by simp) ?_
      refine AllReadyH.cons rfl (fun K hK => ?_) (AllReadyH.cons rfl (fun K hK => ?_) AllReadyH.nil)
      · go_simp
        refine hK.out _ _ (by first | assumption | exact hS9 | exact hSa _ | exact hS5 () | exact hSs () _) (fun hHeld => ?_)
        clear hK K
        try simp only [List.getElem_toArray, List.getElem_cons_succ, List.getElem_cons_zero, Act.put, List.setIfInBounds_toArray, List.set_cons_zero, List.set_cons_succ]
        refine wpAnyH_ready (rs := [3]) (by kernel_rfl) (by simp) ?_
        refine AllReadyH.cons rfl (fun K hK => ?_) AllReadyH.nil
        go_simp
        (go_at_call 35; refine (copied_game _ _ (tabAt q k) HGm.out _ HIk.out).mono ?_; rintro e w9 ⟨T9, c9, rfl, hc1, hc2, hb9, ho9⟩; have hS9 : Below W.heap.size W w9 := HWd.out.trans (hb9.mono HWd.out.size); have hSa : ∀ o, Below W.heap.size W (w9.alloc o) := fun o => hS9.alloc hS9.size o; have hc9 : w9.cell? ⟨pO, 1, none⟩ = some v := (hb9.cell (p := ⟨pO, 1, none⟩) HpO.out).trans HBc.out; have hd9 : ∀ o, (w9.alloc o).cell? ⟨pO, 1, none⟩ = some v := fun o => (World.cell?_alloc_lt _ _ _ (Nat.lt_of_lt_of_le HpO.out hb9.size)).trans hc9)
        refine hK.out _ _ (by first | assumption | exact hS9 | exact hSa _ | exact hS5 () | exact hSs () _) (fun hHeld => ?_)
        clear hK K
        try simp only [List.getElem_toArray, List.getElem_cons_succ, List.getElem_cons_zero, Act.put, List.setIfInBounds_toArray, List.set_cons_zero, List.set_cons_succ]
        refine wpAnyH_ready (rs := [4]) (by kernel_rfl) (by simp) ?_
        refine AllReadyH.cons rfl (fun K hK => ?_) AllReadyH.nil
        go_simp
        refine hK.out _ _ (by first | assumption | exact hS9 | exact hSa _ | exact hS5 () | exact hSs () _) (fun hHeld => ?_)
        clear hK K
        try simp only [List.getElem_toArray, List.getElem_cons_succ, List.getElem_cons_zero, Act.put, List.setIfInBounds_toArray, List.set_cons_zero, List.set_cons_succ]
        refine wpAnyH_ready (rs := [5]) (by kernel_rfl) (by simp) ?_
        refine AllReadyH.cons rfl (fun K hK => ?_) AllReadyH.nil
        have g9 : GrowsP w9 (pO + 1) w9.heap.size v AA CC TT UU (tkP q k) := (HGP.out.keep hb9).up hb9.size (Nat.le_refl _)
        refine step_append_lies _ rfl (.tmp 23) (.tmp 26) _ rfl (pO + 1) 23 i1 (.slice none 0 0) 1 24 Tryz.underlying24 HI1.out HY0.out HY1.out HY2.out rfl (by decide) _ (tkP q k).length (tabVals TT UU (tkP q k)) rfl (World.ownsRow.alloc g9.top _) ⟨w9.heap.size, 0, none⟩ 1 1 [.slice T9 (tabAt q k).length c9] rfl rfl (cell_one_new _ _ _) (by intro u hu; simp at hu; subst hu; rfl) (by decide) (by rw [HLT.out]; unfold maxLen; omega) (by rw [HLT.out]; omega) (by have := HpO.out; have := hb9.size; simp; omega) _ rfl ?_
        intro g5 c5 w5 hown hgrow hat hg5
        have hN5 := copy_next HGP.out hb9 ho9 hc1 hc2 HpO.out hown hgrow hat
        have hS5 : ∀ _ : Unit, Below W.heap.size W w5 := fun _ => HWd.out.trans (hN5.1.mono (Nat.le_succ_of_le HWO.out))
        have hSs : ∀ (_ : Unit) x, Below W.heap.size W (w5.setCell ⟨pO, 1, none⟩ x) := fun _ x => (hS5 ()).setCell (p := ⟨pO, 1, none⟩) HWp x
        have hc5 : w5.cell? ⟨pO, 1, none⟩ = some v := (hN5.1.cell (p := ⟨pO, 1, none⟩) (Nat.lt_succ_self pO)).trans HBc.out
        have hf5 : w5.frozen? ⟨pO, 1, none⟩ = false := (hN5.1.frozen (p := ⟨pO, 1, none⟩) (Nat.lt_succ_self pO)).trans HFr.out
        go_simp
        refine hK.out _ _ (by first | assumption | exact hS9 | exact hSa _ | exact hS5 () | exact hSs () _) (fun hHeld => ?_)
        clear hK K
        try simp only [List.getElem_toArray, List.getElem_cons_succ, List.getElem_cons_zero, Act.put, List.setIfInBounds_toArray, List.set_cons_zero, List.set_cons_succ]
        refine wpAnyH_take (i := 6) (v := ?v3) rfl (by kernel_rfl) (by kernel_rfl) (by kernel_rfl) (fun _ _ _ h => h) (Or.inl ⟨by rfl, ?y3⟩) (by assumption) ?z3
        case y3 => (intro w hSw; go_simp; first | done | with_reducible rfl)
        try simp only [List.getElem_toArray, List.getElem_cons_succ, List.getElem_cons_zero, Act.put, List.setIfInBounds_toArray, List.set_cons_zero, List.set_cons_succ]
        refine wpAnyH_ready (rs := [7]) (by kernel_rfl) (by simp) ?_
        refine AllReadyH.cons rfl (fun K hK => ?_) AllReadyH.nil
        go_simp
        refine hK.out _ _ (by first | assumption | exact hS9 | exact hSa _ | exact hS5 () | exact hSs () _) (fun hHeld => ?_)
        clear hK K
        try simp only [List.getElem_toArray, List.getElem_cons_succ, List.getElem_cons_zero, Act.put, List.setIfInBounds_toArray, List.set_cons_zero, List.set_cons_succ]
        refine wpAnyH_done (by kernel_rfl) ?_ _
        have hk2 : Below (pO + 1) wr w5 := ((Below.refl (pO + 1) wr).drew).trans hN5.1
        go_wp2_with fail
        go_roundw
        case rel => exact ⟨k + 1, by omega, by go_num, by rw [tkP_snoc q hlt]; exact copy_round HB.out HF.out HT.out hN5.2 hk2 (Nat.lt_succ_self pO), (by first | exact hSs () _)⟩
        case measure => simp [intOf]; omega
      · go_simp
        (go_at_call 35; refine (copied_game _ _ (tabAt q k) HGm.out _ HIk.out).mono ?_; rintro e w9 ⟨T9, c9, rfl, hc1, hc2, hb9, ho9⟩; have hS9 : Below W.heap.size W w9 := HWd.out.trans (hb9.mono HWd.out.size); have hSa : ∀ o, Below W.heap.size W (w9.alloc o) := fun o => hS9.alloc hS9.size o; have hc9 : w9.cell? ⟨pO, 1, none⟩ = some v := (hb9.cell (p := ⟨pO, 1, none⟩) HpO.out).trans HBc.out; have hd9 : ∀ o, (w9.alloc o).cell? ⟨pO, 1, none⟩ = some v := fun o => (World.cell?_alloc_lt _ _ _ (Nat.lt_of_lt_of_le HpO.out hb9.size)).trans hc9)
        refine hK.out _ _ (by first | assumption | exact hS9 | exact hSa _ | exact hS5 () | exact hSs () _) (fun hHeld => ?_)
        clear hK K
        try simp only [List.getElem_toArray, List.getElem_cons_succ, List.getElem_cons_zero, Act.put, List.setIfInBounds_toArray, List.set_cons_zero, List.set_cons_succ]
        refine wpAnyH_ready (rs := [1, 4]) (by kernel_rfl) (by simp) ?_
        refine AllReadyH.cons rfl (fun K hK => ?_) (AllReadyH.cons rfl (fun K hK => ?_) AllReadyH.nil)
        · go_simp
          refine hK.out _ _ (by first | assumption | exact hS9 | exact hSa _ | exact hS5 () | exact hSs () _) (fun hHeld => ?_)
          clear hK K
          try simp only [List.getElem_toArray, List.getElem_cons_succ, List.getElem_cons_zero, Act.put, List.setIfInBounds_toArray, List.set_cons_zero, List.set_cons_succ]
          refine wpAnyH_ready (rs := [4]) (by kernel_rfl) (by simp) ?_
          refine AllReadyH.cons rfl (fun K hK => ?_) AllReadyH.nil
          go_simp
          refine hK.out _ _ (by first | assumption | exact hS9 | exact hSa _ | exact hS5 () | exact hSs () _) (fun hHeld => ?_)
          clear hK K
          try simp only [List.getElem_toArray, List.getElem_cons_succ, List.getElem_cons_zero, Act.put, List.setIfInBounds_toArray, List.set_cons_zero, List.set_cons_succ]
          refine wpAnyH_ready (rs := [5]) (by kernel_rfl) (by simp) ?_
          refine AllReadyH.cons rfl (fun K hK => ?_) AllReadyH.nil
          have g9 : GrowsP w9 (pO + 1) w9.heap.size v AA CC TT UU (tkP q k) := (HGP.out.keep hb9).up hb9.size (Nat.le_refl _)
          refine step_append_lies _ rfl (.tmp 23) (.tmp 26) _ rfl (pO + 1) 23 i1 (.slice none 0 0) 1 24 Tryz.underlying24 HI1.out HY0.out HY1.out HY2.out rfl (by decide) _ (tkP q k).length (tabVals TT UU (tkP q k)) rfl (World.ownsRow.alloc g9.top _) ⟨w9.heap.size, 0, none⟩ 1 1 [.slice T9 (tabAt q k).length c9] rfl rfl (cell_one_new _ _ _) (by intro u hu; simp at hu; subst hu; rfl) (by decide) (by rw [HLT.out]; unfold maxLen; omega) (by rw [HLT.out]; omega) (by have := HpO.out; have := hb9.size; simp; omega) _ rfl ?_
          intro g5 c5 w5 hown hgrow hat hg5
          have hN5 := copy_next HGP.out hb9 ho9 hc1 hc2 HpO.out hown hgrow hat
          have hS5 : ∀ _ : Unit, Below W.heap.size W w5 := fun _ => HWd.out.trans (hN5.1.mono (Nat.le_succ_of_le HWO.out))
          have hSs : ∀ (_ : Unit) x, Below W.heap.size W (w5.setCell ⟨pO, 1, none⟩ x) := fun _ x => (hS5 ()).setCell (p := ⟨pO, 1, none⟩) HWp x
          have hc5 : w5.cell? ⟨pO, 1, none⟩ = some v := (hN5.1.cell (p := ⟨pO, 1, none⟩) (Nat.lt_succ_self pO)).trans HBc.out
          have hf5 : w5.frozen? ⟨pO, 1, none⟩ = false := (hN5.1.frozen (p := ⟨pO, 1, none⟩) (Nat.lt_succ_self pO)).trans HFr.out
          go_simp
          refine hK.out _ _ (by first | assumption | exact hS9 | exact hSa _ | exact hS5 () | exact hSs () _) (fun hHeld => ?_)
          clear hK K
          try simp only [List.getElem_toArray, List.getElem_cons_succ, List.getElem_cons_zero, Act.put, List.setIfInBounds_toArray, List.set_cons_zero, List.set_cons_succ]
          refine wpAnyH_take (i := 6) (v := ?v4) rfl (by kernel_rfl) (by kernel_rfl) (by kernel_rfl) (fun _ _ _ h => h) (Or.inl ⟨by rfl, ?y4⟩) (by assumption) ?z4
          case y4 => (intro w hSw; go_simp; first | done | with_reducible rfl)
          try simp only [List.getElem_toArray, List.getElem_cons_succ, List.getElem_cons_zero, Act.put, List.setIfInBounds_toArray, List.set_cons_zero, List.set_cons_succ]
          refine wpAnyH_ready (rs := [7]) (by kernel_rfl) (by simp) ?_
          refine AllReadyH.cons rfl (fun K hK => ?_) AllReadyH.nil
          go_simp
          refine hK.out _ _ (by first | assumption | exact hS9 | exact hSa _ | exact hS5 () | exact hSs () _) (fun hHeld => ?_)
          clear hK K
          try simp only [List.getElem_toArray, List.getElem_cons_succ, List.getElem_cons_zero, Act.put, List.setIfInBounds_toArray, List.set_cons_zero, List.set_cons_succ]
          refine wpAnyH_done (by kernel_rfl) ?_ _
          have hk2 : Below (pO + 1) wr w5 := ((Below.refl (pO + 1) wr).drew).trans hN5.1
          go_wp2_with fail
          go_roundw
          case rel => exact ⟨k + 1, by omega, by go_num, by rw [tkP_snoc q hlt]; exact copy_round HB.out HF.out HT.out hN5.2 hk2 (Nat.lt_succ_self pO), (by first | exact hSs () _)⟩
          case measure => simp [intOf]; omega
        · go_simp
          refine hK.out _ _ (by first | assumption | exact hS9 | exact hSa _ | exact hS5 () | exact hSs () _) (fun hHeld => ?_)
          clear hK K
          try simp only [List.getElem_toArray, List.getElem_cons_succ, List.getElem_cons_zero, Act.put, List.setIfInBounds_toArray, List.set_cons_zero, List.set_cons_succ]
          refine wpAnyH_ready (rs := [1]) (by kernel_rfl) (by simp) ?_
          refine AllReadyH.cons rfl (fun K hK => ?_) AllReadyH.nil
          go_simp
          refine hK.out _ _ (by first | assumption | exact hS9 | exact hSa _ | exact hS5 () | exact hSs () _) (fun hHeld => ?_)
          clear hK K
          try simp only [List.getElem_toArray, List.getElem_cons_succ, List.getElem_cons_zero, Act.put, List.setIfInBounds_toArray, List.set_cons_zero, List.set_cons_succ]
          refine wpAnyH_ready (rs := [5]) (by kernel_rfl) (by simp) ?_
          refine AllReadyH.cons rfl (fun K hK => ?_) AllReadyH.nil
          have g9 : GrowsP w9 (pO + 1) w9.heap.size v AA CC TT UU (tkP q k) := (HGP.out.keep hb9).up hb9.size (Nat.le_refl _)
          refine step_append_lies _ rfl (.tmp 23) (.tmp 26) _ rfl (pO + 1) 23 i1 (.slice none 0 0) 1 24 Tryz.underlying24 HI1.out HY0.out HY1.out HY2.out rfl (by decide) _ (tkP q k).length (tabVals TT UU (tkP q k)) rfl (World.ownsRow.alloc g9.top _) ⟨w9.heap.size, 0, none⟩ 1 1 [.slice T9 (tabAt q k).length c9] rfl rfl (cell_one_new _ _ _) (by intro u hu; simp at hu; subst hu; rfl) (by decide) (by rw [HLT.out]; unfold maxLen; omega) (by rw [HLT.out]; omega) (by have := HpO.out; have := hb9.size; simp; omega) _ rfl ?_
          intro g5 c5 w5 hown hgrow hat hg5
          have hN5 := copy_next HGP.out hb9 ho9 hc1 hc2 HpO.out hown hgrow hat
          have hS5 : ∀ _ : Unit, Below W.heap.size W w5 := fun _ => HWd.out.trans (hN5.1.mono (Nat.le_succ_of_le HWO.out))
          have hSs : ∀ (_ : Unit) x, Below W.heap.size W (w5.setCell ⟨pO, 1, none⟩ x) := fun _ x => (hS5 ()).setCell (p := ⟨pO, 1, none⟩) HWp x
          have hc5 : w5.cell? ⟨pO, 1, none⟩ = some v := (hN5.1.cell (p := ⟨pO, 1, none⟩) (Nat.lt_succ_self pO)).trans HBc.out
          have hf5 : w5.frozen? ⟨pO, 1, none⟩ = false := (hN5.1.frozen (p := ⟨pO, 1, none⟩) (Nat.lt_succ_self pO)).trans HFr.out
          go_simp
          refine hK.out _ _ (by first | assumption | exact hS9 | exact hSa _ | exact hS5 () | exact hSs () _) (fun hHeld => ?_)
          clear hK K
          try simp only [List.getElem_toArray, List.getElem_cons_succ, List.getElem_cons_zero, Act.put, List.setIfInBounds_toArray, List.set_cons_zero, List.set_cons_succ]
          refine wpAnyH_take (i := 6) (v := ?v5) rfl (by kernel_rfl) (by kernel_rfl) (by kernel_rfl) (fun _ _ _ h => h) (Or.inl ⟨by rfl, ?y5⟩) (by assumption) ?z5
          case y5 => (intro w hSw; go_simp; first | done | with_reducible rfl)
          try simp only [List.getElem_toArray, List.getElem_cons_succ, List.getElem_cons_zero, Act.put, List.setIfInBounds_toArray, List.set_cons_zero, List.set_cons_succ]
          refine wpAnyH_ready (rs := [7]) (by kernel_rfl) (by simp) ?_
          refine AllReadyH.cons rfl (fun K hK => ?_) AllReadyH.nil
          go_simp
          refine hK.out _ _ (by first | assumption | exact hS9 | exact hSa _ | exact hS5 () | exact hSs () _) (fun hHeld => ?_)
          clear hK K
          try simp only [List.getElem_toArray, List.getElem_cons_succ, List.getElem_cons_zero, Act.put, List.setIfInBounds_toArray, List.set_cons_zero, List.set_cons_succ]
          refine wpAnyH_done (by kernel_rfl) ?_ _
          have hk2 : Below (pO + 1) wr w5 := ((Below.refl (pO + 1) wr).drew).trans hN5.1
          go_wp2_with fail
          go_roundw
          case rel => exact ⟨k + 1, by omega, by go_num, by rw [tkP_snoc q hlt]; exact copy_round HB.out HF.out HT.out hN5.2 hk2 (Nat.lt_succ_self pO), (by first | exact hSs () _)⟩
          case measure => simp [intOf]; omega
    · obtain rfl : k = q.length := by omega
      obtain ⟨hlt0, hfr, hnow, v, AA, CC, TT, UU, hB, hGP⟩ := HC.out
      rw [tkP_all] at hGP
      have hzw := HzW.out
      have l0 : w.heap.size < W.heap.size := by omega
      have f0 := hB.c0
      have f1 := hB.c1
      have b0 := (HW.out.cell (p := ⟨w.heap.size, 0, none⟩) l0).trans HYF.out.1.1
      have b1 := (HW.out.cell (p := ⟨w.heap.size, 1, none⟩) l0).trans HYF.out.1.2
      have g0 := (HW.out.frozen (p := ⟨w.heap.size, 0, none⟩) l0).trans HYF.out.2.1
      have g1 := (HW.out.frozen (p := ⟨w.heap.size, 1, none⟩) l0).trans HYF.out.2.2
      have ne : (⟨w.heap.size, 0, none⟩ : Addr) ≠ ⟨w.heap.size, 1, none⟩ := by intro e; injection e with e1 e2; omega
      have HGP := Lib.hid hGP
      have HT := Lib.hid hnow
      have HL0 := Lib.hid hlt0
      obtain ⟨TPv, cP, hv, hcP1, hcP2, _⟩ := hGP.past
      subst hv
      clear hB hGP hnow hfr hlt0 HC hzw l0
      go_wp2_with fail
      have r0 : ((wr.setCell ⟨w.heap.size, 0, none⟩ (.slice TN g.length cN)).setCell ⟨w.heap.size, 1, none⟩ (.slice TPv q.length cP)).cell? ⟨w.heap.size, 0, none⟩ = some (.slice TN g.length cN) := by
        rw [World.cell?_setCell_other (h := ne.symm)]; exact World.cell?_setCell_same _ _ _ b0
      have r1 : ((wr.setCell ⟨w.heap.size, 0, none⟩ (.slice TN g.length cN)).setCell ⟨w.heap.size, 1, none⟩ (.slice TPv q.length cP)).cell? ⟨w.heap.size, 1, none⟩ = some (.slice TPv q.length cP) :=
        World.cell?_setCell_same _ _ _ (by rw [World.cell?_setCell_other (h := ne)]; exact b1)
      refine bodyPost_ret (v := .agg #[.slice TN g.length cN, .slice TPv q.length cP]) (by simp [results, Tryz.results15, go_sem, r0, r1]) rfl ?_
      have hzw := HzW.out
      have hwo := HWO.out
      obtain ⟨w9, hw9⟩ : ∃ w9, w9 = (wr.setCell ⟨w.heap.size, 0, none⟩ (.slice TN g.length cN)).setCell ⟨w.heap.size, 1, none⟩ (.slice TPv q.length cP) := ⟨_, rfl⟩
      have st : ∀ b, w.heap.size < b → w9.heap[b]? = wr.heap[b]? := fun b hb => by
        have hne : b ≠ w.heap.size := by omega
        rw [hw9, Below.heap_setCell _ _ _ _ hne, Below.heap_setCell _ _ _ _ hne]
      have hz9 : w9.heap.size = wr.heap.size := by rw [hw9]; simp [World.setCell]
      have hb9 : Below w.heap.size w w9 := by
        rw [hw9]
        exact ((HBW.out.trans (HW.out.mono HBW.out.size)).setCell (p := ⟨w.heap.size, 0, none⟩) (Nat.le_refl _) _).setCell (p := ⟨w.heap.size, 1, none⟩) (Nat.le_refl _) _
      rw [← hw9]
      have hlo : ∀ k, (Value.slice TPv q.length cP).ownBlock = some k → pO + 1 ≤ k := fun k hk => ((World.ownsRow.lt HGP.out.top) k hk).1
      have hGP9 : GrowsP w9 (pO + 1) w9.heap.size (.slice TPv q.length cP) AA CC TT UU q :=
        ⟨ownsRow_of_block HGP.out.top fun k hk => st k (by have := hlo k hk; omega), HGP.out.cap, fun i hi => by rw [hz9]; exact (HGP.out.tabs i hi).keep fun b h1 _ => st b (by omega), HGP.out.apart, by rw [hz9]; exact HGP.out.hib, Nat.le_refl _⟩
      have hT9 : TabOwn w9 W.heap.size pO TN A0 C0 g := HT.out.keep fun b h1 _ => st b (by omega)
      rw [HLD.out]
      obtain ⟨TPx, cPx, hvx, hcPl, hcPx, hpo⟩ := (hGP9.base (base' := w.heap.size) (by omega)).past
      injection hvx with hv1 hv2 hv3
      subst hv1 hv3
      exact ⟨TN, cN, TPv, ⟨cP, hcPl, hcPx⟩, rfl, hb9, _, _, _, _, own_copy (d := ⟨g, q⟩) (hT9.more (by omega) (by have := HL0.out; omega)) hpo (fun t b ht h1 h2 => by
        have k1 := hT9.rows_in h1
        have k2 := (hGP9.tabs t ht).rows_in h2
        omega)⟩
end Go.Proofs.YtlmaeadbomnhlaaGreat

namespace Go.Proofs.YtlmaeadbomnhlaaGreat
set_option linter.unusedSimpArgs false
set_option linter.unusedVariables false
open Go.RowKit
theorem deskOf_impl (A B : Option Addr) (c kk : Nat) (g : List (List Int)) (p : List (List (List Int))) (hg : gameB g = true) (hp : ∀ i, i < p.length → laidB (tabAt p i) = true) (hl : p.length ≤ 9) (hkk : p.length ≤ kk) (hkm : kk ≤ maxLen) (w : World) (h : Rows2 w (· < w.heap.size) A g) (h' : Tabs3 w (· < w.heap.size) B p) :
    Calls Tryz.prog 15 #[.slice A g.length c, .slice B p.length kk] w (DeskVal w (lastD g p)) := by
  by_cases hcs : p.length ≤ 8
  · exact deskOf_few A B c kk g p hg hp hl hkk hkm hcs w h h'
  · exact deskOf_nine A B c kk g p hg hp hl hkk hkm hcs w h h'
theorem deskOf_desk (A B : Option Addr) (c kk : Nat) (d : Dk) (hd : dkB d = true) (hkk : d.past.length ≤ kk ∧ kk ≤ maxLen) (w : World) (h : Rows2 w (· < w.heap.size) A d.now) (h' : Rows3 w (· < w.heap.size) B d.past) :
    Calls Tryz.prog 15 #[.slice A d.now.length c, .slice B d.past.length kk] w (DeskVal w d) := by
  obtain ⟨h1, h2, h3⟩ := dkB_iff.1 hd
  have := deskOf_impl A B c kk d.now d.past (laid_game h2) (pastB_at.1 h1) (by omega) hkk.1 hkk.2 w h (tabs_of h')
  rw [lastD_few _ h3] at this
  exact this
structure BoxS (W : World) (R : Nat) (w' : World) : Prop where
  size : W.heap.size ≤ w'.heap.size
  block : ∀ k, k < W.heap.size → k ≠ R → w'.heap[k]? = W.heap[k]?
  row : ∃ f, w'.rowIs R 26 2 f
theorem BoxS.refl {W : World} {R : Nat} {f : Nat → Value} (h : W.rowIs R 26 2 f) : BoxS W R W := ⟨Nat.le_refl _, fun _ _ _ => rfl, f, h⟩
theorem BoxS.drew {W w' : World} {R : Nat} (h : BoxS W R w') : BoxS W R w'.drew := ⟨h.size, h.block, h.row⟩
theorem BoxS.call {W w1 w2 : World} {R : Nat} (hb : Below w1.heap.size w1 w2) (h : BoxS W R w1) : BoxS W R w2 := by
  obtain ⟨f, hf⟩ := h.row
  exact ⟨Nat.le_trans h.size hb.size, fun k h1 h2 => (hb.block k (Nat.lt_of_lt_of_le h1 h.size)).trans (h.block k h1 h2), f, hf.of_block (hb.block _ hf.lt)⟩
theorem BoxS.store {W w1 : World} {R o : Nat} (v : Value) (h : BoxS W R w1) : BoxS W R (w1.setCell ⟨R, o, none⟩ v) := by
  obtain ⟨f, hf⟩ := h.row
  exact ⟨by simp [World.setCell]; exact h.size, fun k h1 h2 => (Below.heap_setCell _ _ _ _ h2).trans (h.block k h1 h2), _, hf.set o v⟩
theorem BoxS.cell {W w' : World} {R o : Nat} (h : BoxS W R w') (ho : o < 2) : w'.cell? ⟨R, o, none⟩ = some (held w' R o) := by
  obtain ⟨f, hf⟩ := h.row
  have := hf.cell ho
  unfold held; rw [this]; rfl
theorem BoxS.frozen {W w' : World} {R : Nat} (h : BoxS W R w') (o : Nat) : w'.frozen? ⟨R, o, none⟩ = false := by
  obtain ⟨f, hf⟩ := h.row
  exact hf.frozen o
theorem staysBx {W : World} {R p o : Nat} {a : Value} (hp : p < W.heap.size) (hn : p ≠ R) (h : W.cell? ⟨p, o, none⟩ = some a) : ∀ w1, BoxS W R w1 → w1.cell? ⟨p, o, none⟩ = some a :=
  fun w1 hs => (World.cell?_of_block (w := W) (hs.block p hp hn)).trans h
theorem BoxS.rows {W w' : World} {R B : Nat} {A : Option Addr} {g : List (List Int)} (h : BoxS W R w') (hB : B ≤ W.heap.size) (hR : B ≤ R) (hr : Rows2 W (· < B) A g) : Rows2 w' (· < w'.heap.size) A g :=
  (hr.keep fun b (hb : b < B) => h.block b (by omega) (by omega)).mono fun b (hb : b < B) => by have := h.size; show b < _; omega
theorem BoxS.tabs {W w' : World} {R B : Nat} {A : Option Addr} {p : List (List (List Int))} (h : BoxS W R w') (hB : B ≤ W.heap.size) (hR : B ≤ R) (hr : Rows3 W (· < B) A p) : Rows3 w' (· < w'.heap.size) A p :=
  (hr.keep fun b (hb : b < B) => h.block b (by omega) (by omega)).mono fun b (hb : b < B) => by have := h.size; show b < _; omega
theorem desk_put {w w2 : World} {R : Nat} {d : Dk} {TN TP : Option Addr} {lo hi : Nat} (v0 v1 : Value) (h : ∃ A C TT CC, OwnDk w2 lo hi TN TP d A C TT CC) (hR : R < lo) (hw : w.heap.size ≤ lo) (hh : hi ≤ w2.heap.size) :
    ∃ A C TT CC, OwnDk ((w2.setCell ⟨R, 0, none⟩ v0).setCell ⟨R, 1, none⟩ v1) w.heap.size ((w2.setCell ⟨R, 0, none⟩ v0).setCell ⟨R, 1, none⟩ v1).heap.size TN TP d A C TT CC := by
  obtain ⟨A, C, TT, CC, ho⟩ := h
  refine ⟨A, C, TT, CC, (ho.keep fun b h1 _ => ?_).more hw (by simp [World.setCell]; exact hh)⟩
  have hne : b ≠ R := by omega
  rw [Below.heap_setCell _ _ _ _ hne, Below.heap_setCell _ _ _ _ hne]
end Go.Proofs.YtlmaeadbomnhlaaGreat

namespace Go.Proofs.YtlmaeadbomnhlaaGreat
set_option linter.unusedSimpArgs false
set_option linter.unusedVariables false
open Go.RowKit
def backD (d : Dk) : Dk := if 0 < d.past.length then ⟨tabAt d.past (d.past.length - 1), d.past.take (d.past.length - 1)⟩ else dkZero
set_option maxHeartbeats 4000000 in
set_option maxRecDepth 100000 in
theorem back_impl (A B : Option Addr) (c kk : Nat) (d : Dk) (hd : dkB d = true) (hkk : d.past.length ≤ kk ∧ kk ≤ maxLen) (w : World) (h : Rows2 w (· < w.heap.size) A d.now) (h' : Rows3 w (· < w.heap.size) B d.past) :
    Calls Tryz.prog 30 #[.agg #[.slice A d.now.length c, .slice B d.past.length kk]] w (DeskRes w (backD d) (.bool (decide (0 < d.past.length)))) := by
  obtain ⟨hd1, hd2, hd3⟩ := dkB_iff.1 hd
  have HP := Lib.hid (pastB_at.1 hd1)
  have H1 := Lib.hid h
  have H2 := Lib.hid h'
  obtain ⟨k1, k2⟩ := hkk
  have HKK := Lib.hid (And.intro k1 k2)
  unfold maxLen at k2
  obtain ⟨W, hW⟩ : ∃ W, W = (w.alloc (.cells #[.slice A d.now.length c, .slice B d.past.length kk] 26)).alloc (.cells #[.slice none 0 0, .slice none 0 0] 26) := ⟨_, rfl⟩
  have hzW : W.heap.size = w.heap.size + 1 + 1 := by rw [hW]; simp
  have a1 : W.cell? ⟨w.heap.size, 1, none⟩ = some (.slice B d.past.length kk) := by rw [hW]; simp [go_sem]
  have y0 : W.cell? ⟨w.heap.size + 1, 0, none⟩ = some (.slice none 0 0) := by rw [hW]; simp [go_sem]
  have y1 : W.cell? ⟨w.heap.size + 1, 1, none⟩ = some (.slice none 0 0) := by rw [hW]; simp [go_sem]
  have fy0 : W.frozen? ⟨w.heap.size + 1, 0, none⟩ = false := by rw [hW]; simp [go_sem]
  have fy1 : W.frozen? ⟨w.heap.size + 1, 1, none⟩ = false := by rw [hW]; simp [go_sem]
  have hrow : W.rowIs (w.heap.size + 1) 26 2 (fun _ => .slice none 0 0) := by
    rw [hW, show w.heap.size + 1 = (w.alloc (.cells #[.slice A d.now.length c, .slice B d.past.length kk] 26)).heap.size by simp]
    exact World.rowIs_alloc _ #[.slice none 0 0, .slice none 0 0] _ _ (fun i hi => by have : i = 0 ∨ i = 1 := (by simp at hi; omega); rcases this with rfl | rfl <;> rfl)
  have hbW : Below w.heap.size w W := by rw [hW]; exact ((Below.refl _ _).alloc (Nat.le_refl _) _).alloc (by simp) _
  have HBW := Lib.hid hbW
  have HzW := Lib.hid hzW
  by_cases h0 : 0 < d.past.length
  · have HB : Hid (backD d = ⟨tabAt d.past (d.past.length - 1), d.past.take (d.past.length - 1)⟩) := if_pos h0
    have hdec : decide (0 < d.past.length) = true := decide_eq_true h0
    rw [HB.out, hdec]
    obtain ⟨D, hD⟩ : ∃ D, (⟨tabAt d.past (d.past.length - 1), d.past.take (d.past.length - 1)⟩ : Dk) = D := ⟨_, rfl⟩
    rw [hD]
    obtain ⟨bt, ot, hbo⟩ := h'.some h0
    subst hbo
    obtain ⟨hS, Ak, ck, hck, hlk, hmk, hik⟩ := h'.tab (i := d.past.length - 1) (by omega)
    have hS' : bt < w.heap.size := hS
    have BR := Lib.hid (BoxS.refl hrow)
    have R1 := staysBx (R := w.heap.size + 1) (p := w.heap.size) (o := 1) (by omega) (by omega) a1
    have R2 := staysBx (R := w.heap.size + 1) (p := bt) (o := ot + (d.past.length - 1)) (by omega) (by omega) ((hbW.cell (p := ⟨bt, ot + (d.past.length - 1), none⟩) hS').trans hck)
    have E0 : ∀ w1, BoxS W (w.heap.size + 1) w1 → w1.cell? ⟨w.heap.size + 1, 0, none⟩ = some (held w1 (w.heap.size + 1) 0) := fun _ h => h.cell (by omega)
    have E1 : ∀ w1, BoxS W (w.heap.size + 1) w1 → w1.cell? ⟨w.heap.size + 1, 1, none⟩ = some (held w1 (w.heap.size + 1) 1) := fun _ h => h.cell (by omega)
    have E2 : ∀ w1, BoxS W (w.heap.size + 1) w1 → w1.frozen? ⟨w.heap.size + 1, 0, none⟩ = false := fun _ h => h.frozen 0
    have E3 : ∀ w1, BoxS W (w.heap.size + 1) w1 → w1.frozen? ⟨w.heap.size + 1, 1, none⟩ = false := fun _ h => h.frozen 1
    have hl : (d.past.take (d.past.length - 1)).length = d.past.length - 1 := by rw [List.length_take]; omega
    have HCALL : Hid (∀ w1, BoxS W (w.heap.size + 1) w1 → Calls Tryz.prog 15 #[.slice Ak (tabAt d.past (d.past.length - 1)).length ck, .slice (some ⟨bt, ot, none⟩) (d.past.length - 1) kk] w1 (DeskVal w1 D)) := fun w1 hs => by
      have r2 : Rows2 w1 (· < w1.heap.size) Ak (tabAt d.past (d.past.length - 1)) := hs.rows (B := w.heap.size) (by omega) (by omega) (keepRows HBW.out hik)
      have r3 : Tabs3 w1 (· < w1.heap.size) (some ⟨bt, ot, none⟩) (d.past.take (d.past.length - 1)) := by
        have := tabs_of <| hs.tabs (B := w.heap.size) (by omega) (by omega) (keepTabs HBW.out H2.out)
        intro hh
        obtain ⟨b, off, e, hb, hc⟩ := this h0
        refine ⟨b, off, e, hb, fun i hi => ?_⟩
        rw [hl] at hi
        rw [tabAt_take _ hi]
        exact hc i (by omega)
      have := deskOf_impl Ak (some ⟨bt, ot, none⟩) ck kk (tabAt d.past (d.past.length - 1)) (d.past.take (d.past.length - 1)) (laid_game (HP.out _ (by omega))) (fun i hi => by rw [hl] at hi; rw [tabAt_take _ hi]; exact HP.out i (by omega)) (by omega) (by omega) HKK.out.2 w1 r2 r3
      rw [lastD_few _ (by omega), hl, hD] at this
      exact this
    have q1 : IntKind.i64.wrap ((d.past.length : Int) - 1) = (d.past.length : Int) - 1 := IntWalk.i64_in _ (by omega)
    have q2 : ((d.past.length : Int) - 1).toNat = d.past.length - 1 := by omega
    unfold maxLen at hmk
    have n1 : ¬ ((d.past.length : Int) - 1 < 0) := by omega
    have i1 : (0 : Int) ≤ (d.past.length : Int) - 1 := by omega
    have i2 : (d.past.length : Int) - 1 < (d.past.length : Int) := by omega
    have i3 : (d.past.length : Int) - 1 ≤ (kk : Int) := by omega
    have i4 : (1 : Int) ≤ (d.past.length : Int) := by omega
    have i5 : (d.past.length : Int) ≤ (kk : Int) + 1 := by omega
    clear hd hd1 hd2 hck hik hrow a1 y0 y1 fy0 fy1 h h' hS hbW hl hD
    go_enter Tryz.func30, Tryz.ntmps30
    go_wp2_with fail
    rw [← hW]
    clear hW
    refine wp_region_held_drew (S := fun w' => BoxS W (w.heap.size + 1) w') (by kernel_rfl) BR.out.drew (fun hHeld => ?_)
    clear hHeld
    have hHeld := BR.out.drew
    refine wpAnyH_take (i := 0) (v := ?v1) rfl (by kernel_rfl) (by kernel_rfl) (by kernel_rfl) (fun _ _ _ h => h) (Or.inl ⟨by rfl, ?y1⟩) (by assumption) ?z1
    case y1 => (intro w hSw; go_simp; first | done | with_reducible rfl)
    try simp only [List.getElem_toArray, List.getElem_cons_succ, List.getElem_cons_zero, Act.put, List.setIfInBounds_toArray, List.set_cons_zero, List.set_cons_succ]
    refine wpAnyH_take (i := 1) (v := ?v2) rfl (by kernel_rfl) (by kernel_rfl) (by kernel_rfl) (fun _ _ _ h => h) (Or.inl ⟨by rfl, ?y2⟩) (by assumption) ?z2
    case y2 => (intro w hSw; go_simp; first | done | with_reducible rfl)
    try simp only [List.getElem_toArray, List.getElem_cons_succ, List.getElem_cons_zero, Act.put, List.setIfInBounds_toArray, List.set_cons_zero, List.set_cons_succ]
    refine wpAnyH_take (i := 2) (v := ?v3) rfl (by kernel_rfl) (by kernel_rfl) (by kernel_rfl) (fun _ _ _ h => h) (Or.inl ⟨by rfl, ?y3⟩) (by assumption) ?z3
    case y3 => (intro w hSw; go_simp; first | done | with_reducible rfl)
    try simp only [List.getElem_toArray, List.getElem_cons_succ, List.getElem_cons_zero, Act.put, List.setIfInBounds_toArray, List.set_cons_zero, List.set_cons_succ]
    refine wpAnyH_take (i := 3) (v := ?v4) rfl (by kernel_rfl) (by kernel_rfl) (by kernel_rfl) (fun _ _ _ h => h) (Or.inl ⟨by rfl, ?y4⟩) (by assumption) ?z4
    case y4 => (intro w hSw; go_simp; first | done | with_reducible rfl)
    try simp only [List.getElem_toArray, List.getElem_cons_succ, List.getElem_cons_zero, Act.put, List.setIfInBounds_toArray, List.set_cons_zero, List.set_cons_succ]
    refine wpAnyH_take (i := 4) (v := ?v5) rfl (by kernel_rfl) (by kernel_rfl) (by kernel_rfl) (fun _ _ _ h => h) (Or.inl ⟨by rfl, ?y5⟩) (by assumption) ?z5
    case y5 => (intro w hSw; go_simp; first | done | with_reducible rfl)
    try simp only [List.getElem_toArray, List.getElem_cons_succ, List.getElem_cons_zero, Act.put, List.setIfInBounds_toArray, List.set_cons_zero, List.set_cons_succ]
    refine wpAnyH_take (i := 5) (v := ?v6) rfl (by kernel_rfl) (by kernel_rfl) (by kernel_rfl) (fun _ _ _ h => h) (Or.inl ⟨by rfl, ?y6⟩) (by assumption) ?z6
    case y6 => (intro w hSw; go_simp; first | done | with_reducible rfl)
    try simp only [List.getElem_toArray, List.getElem_cons_succ, List.getElem_cons_zero, Act.put, List.setIfInBounds_toArray, List.set_cons_zero, List.set_cons_succ]
    refine wpAnyH_take (i := 6) (v := ?v7) rfl (by kernel_rfl) (by kernel_rfl) (by kernel_rfl) (fun _ _ _ h => h) (Or.inl ⟨by rfl, ?y7⟩) (by assumption) ?z7
    case y7 => (intro w hSw; go_simp; first | done | with_reducible rfl)
    try simp only [List.getElem_toArray, List.getElem_cons_succ, List.getElem_cons_zero, Act.put, List.setIfInBounds_toArray, List.set_cons_zero, List.set_cons_succ]
    refine wpAnyH_take (i := 7) (v := ?v8) rfl (by kernel_rfl) (by kernel_rfl) (by kernel_rfl) (fun _ _ _ h => h) (Or.inl ⟨by rfl, ?y8⟩) (by assumption) ?z8
    case y8 => (intro w hSw; go_simp; first | done | with_reducible rfl)
    try simp only [List.getElem_toArray, List.getElem_cons_succ, List.getElem_cons_zero, Act.put, List.setIfInBounds_toArray, List.set_cons_zero, List.set_cons_succ]
    refine wpAnyH_take (i := 8) (v := ?v9) rfl (by kernel_rfl) (by kernel_rfl) (by kernel_rfl) (fun _ _ _ h => h) (Or.inl ⟨by rfl, ?y9⟩) (by assumption) ?z9
    case y9 => (intro w hSw; go_simp; first | done | with_reducible rfl)
    try simp only [List.getElem_toArray, List.getElem_cons_succ, List.getElem_cons_zero, Act.put, List.setIfInBounds_toArray, List.set_cons_zero, List.set_cons_succ]
    refine wpAnyH_ready (rs := [9]) (by kernel_rfl) (by simp) ?_
    refine AllReadyH.cons rfl (fun K hK => ?_) AllReadyH.nil
    go_simp
    go_at_call 15
    refine (HCALL.out _ BR.out.drew).mono ?_
    rintro e w6 ⟨TN, cN, TP, cP, rfl, hb6, ho6⟩
    have S6 : BoxS W (w.heap.size + 1) w6 := BoxS.call hb6 BR.out.drew
    have g0 := E0 _ S6
    have g1 := E1 _ S6
    have g2 := E2 _ S6
    have g3 := E3 _ S6
    refine hK.out _ _ S6 (fun hHeld => ?_)
    clear hK K
    try simp only [List.getElem_toArray, List.getElem_cons_succ, List.getElem_cons_zero, Act.put, List.setIfInBounds_toArray, List.set_cons_zero, List.set_cons_succ]
    refine wpAnyH_ready (rs := [10]) (by kernel_rfl) (by simp) ?_
    refine AllReadyH.cons rfl (fun K hK => ?_) AllReadyH.nil
    go_simp
    refine hK.out _ _ (BoxS.store _ (BoxS.store _ S6)) (fun hHeld => ?_)
    clear hK K
    try simp only [List.getElem_toArray, List.getElem_cons_succ, List.getElem_cons_zero, Act.put, List.setIfInBounds_toArray, List.set_cons_zero, List.set_cons_succ]
    refine wpAnyH_take (i := 11) (v := ?v10) rfl (by kernel_rfl) (by kernel_rfl) (by kernel_rfl) (fun _ _ _ h => h) (Or.inl ⟨by rfl, ?y10⟩) (by assumption) ?z10
    case y10 => (intro w hSw; go_simp; first | done | with_reducible rfl)
    try simp only [List.getElem_toArray, List.getElem_cons_succ, List.getElem_cons_zero, Act.put, List.setIfInBounds_toArray, List.set_cons_zero, List.set_cons_succ]
    refine wpAnyH_done (by kernel_rfl) ?_ _
    go_wp2_with fail
    obtain ⟨v0, hv0⟩ : ∃ v0 : Value, v0 = .slice TN D.now.length cN := ⟨_, rfl⟩
    obtain ⟨v1, hv1⟩ : ∃ v1 : Value, v1 = .slice TP D.past.length cP.val := ⟨_, rfl⟩
    obtain ⟨r0, r1, rz, rb⟩ := box_put v0 v1 g0 g1
    have hF := desk_put (w := w) (R := w.heap.size + 1) v0 v1 ho6 (show w.heap.size + 1 < W.drew.heap.size by show w.heap.size + 1 < W.heap.size; omega) (show w.heap.size ≤ W.drew.heap.size by show w.heap.size ≤ W.heap.size; omega) (Nat.le_refl _)
    have hbF := below_put (HBW.out.drew.trans (hb6.mono (show w.heap.size ≤ W.drew.heap.size by show w.heap.size ≤ W.heap.size; omega))) (show w.heap.size ≤ w.heap.size + 1 by omega) v0 v1
    obtain ⟨A', C', TT', CC', hO⟩ := hF
    subst hv0 hv1
    refine bodyPost_ret (v := .tuple #[dskV TN D.now.length cN TP D.past.length cP.val, .bool true]) (by simp [results, dskV, Tryz.results30, go_sem, r0, r1]) rfl ?_
    exact ⟨TN, cN, TP, cP, A', C', TT', CC', rfl, hbF, hO⟩
  · have hp0 : d.past.length = 0 := by omega
    have HB : Hid (backD d = dkZero) := if_neg h0
    have hdec : decide (0 < d.past.length) = false := decide_eq_false h0
    rw [HB.out, hdec]
    have q1 : IntKind.i64.wrap ((d.past.length : Int) - 1) = (d.past.length : Int) - 1 := IntWalk.i64_in _ (by omega)
    have n1 : (d.past.length : Int) - 1 < 0 := by omega
    clear hd hd1 hd2 hrow h h' hbW h0 hp0 hdec k1 k2
    go_enter Tryz.func30, Tryz.ntmps30
    go_wp2_with fail
    rw [← hW]
    clear hW
    exact bodyPost_ret (v := .tuple #[dskV none 0 0 none 0 0, .bool false]) (by simp [results, dskV, Tryz.results30, go_sem, y0, y1]) rfl (DeskRes.zero rfl HBW.out)
end Go.Proofs.YtlmaeadbomnhlaaGreat
