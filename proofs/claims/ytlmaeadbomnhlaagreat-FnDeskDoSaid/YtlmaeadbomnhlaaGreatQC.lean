/- Texts in one: GrowP, DeskC, DeskD. -/
import Derived.Test.YtlmaeadbomnhlaaGreatQB
import Derived.Deep.AppendLies
namespace Go.Proofs.YtlmaeadbomnhlaaGreat
set_option linter.unusedSimpArgs false
set_option linter.unusedVariables false
open Go.RowKit
def tabVals (TT : Nat → Option Addr) (CC : Nat → Nat) (p : List (List (List Int))) : List Value := (List.range p.length).map fun i => .slice (TT i) (tabAt p i).length (CC i)
theorem tabVals_length (TT : Nat → Option Addr) (CC : Nat → Nat) (p : List (List (List Int))) : (tabVals TT CC p).length = p.length := by simp [tabVals]
theorem tabVals_get (TT : Nat → Option Addr) (CC : Nat → Nat) (p : List (List (List Int))) (i : Nat) (h : i < p.length) : (tabVals TT CC p)[i]? = some (.slice (TT i) (tabAt p i).length (CC i)) := by simp [tabVals, h]
theorem tabAt_snoc_lt (p : List (List (List Int))) (g : List (List Int)) (i : Nat) (h : i < p.length) : tabAt (p ++ [g]) i = tabAt p i := by unfold tabAt; simp [List.getElem?_append, h]
theorem tabAt_snoc_eq (p : List (List (List Int))) (g : List (List Int)) : tabAt (p ++ [g]) p.length = g := by unfold tabAt; simp
structure GrowsP (w : World) (base hi : Nat) (v : Value) (A : Nat → Nat → Option Addr) (C : Nat → Nat → Nat) (TT : Nat → Option Addr) (CC : Nat → Nat) (p : List (List (List Int))) : Prop where
  top : w.ownsRow base 23 1 v p.length (tabVals TT CC p)
  cap : ∀ i, i < p.length → (tabAt p i).length ≤ CC i ∧ CC i ≤ maxLen
  tabs : ∀ i, i < p.length → TabOwn w base hi (TT i) (A i) (C i) (tabAt p i)
  apart : ∀ s t b, s < p.length → t < p.length → s ≠ t → RowAtB (A s) (tabAt p s) b → ¬ RowAtB (A t) (tabAt p t) b
  hib : ∀ k, v.ownBlock = some k → k < hi
  hile : hi ≤ w.heap.size
theorem GrowsP.nil (w : World) {base hi : Nat} (h : hi ≤ w.heap.size) (A : Nat → Nat → Option Addr) (C : Nat → Nat → Nat) (TT : Nat → Option Addr) (CC : Nat → Nat) : GrowsP w base hi (.slice none 0 0) A C TT CC [] :=
  ⟨World.ownsRow_nil w base _ _, fun i hi => absurd hi (by simp), fun i hi => absurd hi (by simp), fun s t b hs => absurd hs (by simp), (fun k hk => by cases hk), h⟩
theorem GrowsP.keep {w w' : World} {base hi : Nat} {v : Value} {A : Nat → Nat → Option Addr} {C : Nat → Nat → Nat} {TT : Nat → Option Addr} {CC : Nat → Nat} {p : List (List (List Int))} (h : GrowsP w base hi v A C TT CC p) (hb : Below hi w w') : GrowsP w' base hi v A C TT CC p :=
  ⟨ownsRow_of_block h.top fun k hk => hb.block k (h.hib k hk), h.cap, fun i hi => (h.tabs i hi).keep fun b _ h2 => hb.block b h2, h.apart, h.hib, Nat.le_trans h.hile hb.size⟩
theorem GrowsP.up {w : World} {base hi hi' : Nat} {v : Value} {A : Nat → Nat → Option Addr} {C : Nat → Nat → Nat} {TT : Nat → Option Addr} {CC : Nat → Nat} {p : List (List (List Int))} (h : GrowsP w base hi v A C TT CC p) (h1 : hi ≤ hi') (h2 : hi' ≤ w.heap.size) : GrowsP w base hi' v A C TT CC p :=
  ⟨h.top, h.cap, fun i hi => (h.tabs i hi).more (Nat.le_refl _) h1, h.apart, fun k hk => Nat.lt_of_lt_of_le (h.hib k hk) h1, h2⟩
theorem GrowsP.top_row {w : World} {base hi : Nat} {v : Value} {A : Nat → Nat → Option Addr} {C : Nat → Nat → Nat} {TT : Nat → Option Addr} {CC : Nat → Nat} {p : List (List (List Int))} (h : GrowsP w base hi v A C TT CC p) :
    (v = .slice none 0 0 ∧ p = []) ∨ ∃ (b cap : Nat) (f : Nat → Value), v = .slice (some ⟨b, 0, none⟩) p.length cap ∧ base ≤ b ∧ p.length ≤ cap ∧ cap ≤ maxLen ∧ w.rowIs b 23 cap f ∧ ∀ i, i < p.length → f i = .slice (TT i) (tabAt p i).length (CC i) := by
  obtain ⟨h1, ⟨rfl, h2⟩ | ⟨b, cap, cur, rfl, h3, h4, h5, h6, h7, h8⟩⟩ := h.top
  · exact .inl ⟨rfl, List.eq_nil_of_length_eq_zero h2⟩
  · have hcs : cur.size = cap := by rw [h7, Nat.mul_one]
    refine .inr ⟨b, cap, fun i => cur.getD i undef, rfl, h3, h5, h6, ⟨cur, h4, hcs, fun i hi => by rw [← hcs] at hi; simp [hi]⟩, fun i hi => ?_⟩
    have e := tabVals_get TT CC p i hi
    rw [← h8, List.getElem?_take, if_pos (by omega)] at e
    have : cur[i]? = some (.slice (TT i) (tabAt p i).length (CC i)) := by simpa using e
    simp [Array.getD_eq_getD_getElem?, this]
theorem GrowsP.past {w : World} {base hi : Nat} {v : Value} {A : Nat → Nat → Option Addr} {C : Nat → Nat → Nat} {TT : Nat → Option Addr} {CC : Nat → Nat} {p : List (List (List Int))} (h : GrowsP w base hi v A C TT CC p) :
    ∃ (TP : Option Addr) (c : Nat), v = .slice TP p.length c ∧ p.length ≤ c ∧ c ≤ maxLen ∧ PastOwn w base hi TP p A C TT CC := by
  rcases h.top_row with ⟨rfl, rfl⟩ | ⟨b, cap, f, rfl, h1, h2, h3, h4, h5⟩
  · exact ⟨none, 0, rfl, Nat.le_refl _, Nat.zero_le _, ⟨fun h0 => absurd h0 (by simp), h.tabs, h.apart⟩⟩
  · exact ⟨_, cap, rfl, h2, h3, ⟨fun _ => ⟨b, 0, cap, f, rfl, h1, h.hib b rfl, by omega, h4, fun i hi => ⟨by rw [Nat.zero_add]; exact h5 i hi, h.cap i hi⟩⟩, h.tabs, h.apart⟩⟩
theorem GrowsP.stays {w w2 : World} {base hi : Nat} {v : Value} {A : Nat → Nat → Option Addr} {C : Nat → Nat → Nat} {TT : Nat → Option Addr} {CC : Nat → Nat} {p : List (List (List Int))} {o : Obj} (h : GrowsP w base hi v A C TT CC p) (hg : (w.alloc o).grownBy w2 v.ownBlock)
    {lo hi' : Nat} {T : Option Addr} {A' : Nat → Option Addr} {C' : Nat → Nat} {g : List (List Int)} (hhi : hi' ≤ w.heap.size) (ht : TabOwn w lo hi' T A' C' g) : TabOwn w2 lo hi' T A' C' g := by
  have key : ∀ b N f t, w.rowIs b t N f → t ≠ 23 → b < w.heap.size → w2.heap[b]? = w.heap[b]? := fun b N f t hr hne hb => by
    have hne2 : some b ≠ v.ownBlock := by
      intro e'
      rcases h.top_row with ⟨rfl, _⟩ | ⟨b', cap, f', rfl, _, _, _, h4, _⟩
      · cases e'
      · simp [Value.ownBlock] at e'
        exact rowIs_ne hr h4 hne e'
    rw [hg.block b (by simp; omega) hne2, Below.heap_alloc _ _ _ (by omega)]
  intro h0
  obtain ⟨b, N, f, e, k1, k2, k3, k4, k5, k6⟩ := ht h0
  refine ⟨b, N, f, e, k1, k2, k3, k4.of_block (key b N f _ k4 (by decide) (by omega)), k5, ⟨k6.cap, fun i hi h0' => ?_, k6.apart⟩⟩
  obtain ⟨b', N', f', e', q1, q2, q3, q4, q5⟩ := k6.own i hi h0'
  exact ⟨b', N', f', e', q1, q2, q3.of_block (key b' N' f' _ q3 (by decide) (by omega)), q4, q5⟩
theorem GrowsP.snoc {w w2 : World} {base : Nat} {v v' : Value} {A : Nat → Nat → Option Addr} {C : Nat → Nat → Nat} {TT : Nat → Option Addr} {CC : Nat → Nat} {p : List (List (List Int))} {g : List (List Int)} {Tn : Option Addr} {An : Nat → Option Addr} {Cn : Nat → Nat} {cn : Nat} {o : Obj}
    (h : GrowsP w base w.heap.size v A C TT CC p) (hT : TabOwn w base w.heap.size Tn An Cn g) (hc1 : g.length ≤ cn) (hc2 : cn ≤ maxLen) (hap : ∀ t b, t < p.length → RowAtB (A t) (tabAt p t) b → ¬ RowAtB An g b)
    (hown : w2.ownsRow base 23 1 v' (p.length + 1) (tabVals TT CC p ++ [.slice Tn g.length cn])) (hg : (w.alloc o).grownBy w2 v.ownBlock) (hat : v'.ownBlock = v.ownBlock ∨ v'.ownBlock = some (w.heap.size + 1)) :
    GrowsP w2 base w2.heap.size v' (fun t => if t < p.length then A t else An) (fun t => if t < p.length then C t else Cn) (fun t => if t < p.length then TT t else Tn) (fun t => if t < p.length then CC t else cn) (p ++ [g]) := by
  have hsz := hg.size
  simp at hsz
  have hget : ∀ i, i < p.length → tabAt (p ++ [g]) i = tabAt p i := fun i hi => tabAt_snoc_lt p g i hi
  have hget' : tabAt (p ++ [g]) p.length = g := tabAt_snoc_eq p g
  refine ⟨?_, fun i hi => ?_, fun i hi => ?_, fun s t b hs ht hne => ?_, fun k hk => ?_, Nat.le_refl _⟩
  · have e : tabVals (fun t => if t < p.length then TT t else Tn) (fun t => if t < p.length then CC t else cn) (p ++ [g]) = tabVals TT CC p ++ [.slice Tn g.length cn] := by
      unfold tabVals
      rw [List.length_append, List.length_singleton, List.range_succ, List.map_append]
      congr 1
      · refine List.map_congr_left fun i hi => ?_
        have hi := List.mem_range.1 hi
        simp only [if_pos hi, hget i hi]
      · simp [hget']
    rw [e, List.length_append]; exact hown
  · rw [List.length_append, List.length_singleton] at hi
    by_cases e : i < p.length
    · simp only [if_pos e]; rw [hget i e]; exact h.cap i e
    · obtain rfl : i = p.length := by omega
      simp only [if_neg e]; rw [hget']; exact ⟨hc1, hc2⟩
  · rw [List.length_append, List.length_singleton] at hi
    by_cases e : i < p.length
    · simp only [if_pos e]; rw [hget i e]; exact (h.stays hg (Nat.le_refl _) (h.tabs i e)).more (Nat.le_refl _) (by omega)
    · obtain rfl : i = p.length := by omega
      simp only [if_neg e]; rw [hget']; exact (h.stays hg (Nat.le_refl _) hT).more (Nat.le_refl _) (by omega)
  · rw [List.length_append, List.length_singleton] at hs ht
    by_cases es : s < p.length
    · by_cases et : t < p.length
      · simp only [if_pos es, if_pos et]; rw [hget s es, hget t et]; exact h.apart s t b es et hne
      · obtain rfl : t = p.length := by omega
        simp only [if_pos es, if_neg et]; rw [hget s es, hget']; exact hap s b es
    · obtain rfl : s = p.length := by omega
      have et : t < p.length := by omega
      simp only [if_neg es, if_pos et]; rw [hget t et, hget']; exact fun h1 h2 => hap t b et h2 h1
  · rcases hat with e | e
    · rw [e] at hk; have := h.hib k hk; omega
    · rw [e] at hk; injection hk with hk
      have := (World.ownsRow.lt hown) k (by rw [e, hk])
      exact this.2
theorem GrowsP.below {w w1 W : World} {B base hi : Nat} {v : Value} {A : Nat → Nat → Option Addr} {C : Nat → Nat → Nat} {TT : Nat → Option Addr} {CC : Nat → Nat} {p : List (List (List Int))} {o : Obj} (h : GrowsP w base hi v A C TT CC p) (hg : (w.alloc o).grownBy w1 v.ownBlock) (hb : Below B W w) (hB : B ≤ base) (hw : B ≤ w.heap.size) : Below B W w1 :=
  (hb.alloc hw o).grown hg (by simp; omega) (fun k hk => by have := (World.ownsRow.lt h.top) k hk; omega)
end Go.Proofs.YtlmaeadbomnhlaaGreat

namespace Go.Proofs.YtlmaeadbomnhlaaGreat
set_option linter.unusedSimpArgs false
set_option linter.unusedVariables false
open Go.RowKit
def tkP (p : List (List (List Int))) (k : Nat) : List (List (List Int)) := p.take k
theorem tkP_length (p : List (List (List Int))) {k : Nat} (h : k ≤ p.length) : (tkP p k).length = k := by unfold tkP; rw [List.length_take]; omega
theorem tkP_all (p : List (List (List Int))) : tkP p p.length = p := List.take_length
theorem tkP_snoc (p : List (List (List Int))) {k : Nat} (h : k < p.length) : tkP p (k + 1) = tkP p k ++ [tabAt p k] := by
  unfold tkP
  rw [List.take_add_one]
  have : p[k]? = some (tabAt p k) := by unfold tabAt; simp [h]
  rw [this]; rfl
theorem GrowsP.base {w : World} {base base' hi : Nat} {v : Value} {A : Nat → Nat → Option Addr} {C : Nat → Nat → Nat} {TT : Nat → Option Addr} {CC : Nat → Nat} {p : List (List (List Int))} (h : GrowsP w base hi v A C TT CC p) (hb : base' ≤ base) : GrowsP w base' hi v A C TT CC p :=
  ⟨ownsRow_base h.top hb, h.cap, fun i hi => (h.tabs i hi).more hb (Nat.le_refl _), h.apart, h.hib, h.hile⟩
def CopyRes (w : World) (d : Dk) (e : Ending) (w' : World) : Prop :=
  ∃ (TN : Option Addr) (cN : Nat) (v : Value) (A0 : Nat → Option Addr) (C0 : Nat → Nat) (A : Nat → Nat → Option Addr) (C : Nat → Nat → Nat) (TT : Nat → Option Addr) (CC : Nat → Nat),
    e = .returned (.agg #[.slice TN d.now.length cN, v]) ∧ d.now.length ≤ cN ∧ cN ≤ maxLen ∧ Below w.heap.size w w' ∧ TabOwn w' w.heap.size w'.heap.size TN A0 C0 d.now ∧ GrowsP w' w.heap.size w'.heap.size v A C TT CC d.past ∧
    ∀ t b, t < d.past.length → RowAtB A0 d.now b → ¬ RowAtB (A t) (tabAt d.past t) b
theorem copy_next {wr w9 w5 : World} {pO : Nat} {v : Value} {AA : Nat → Nat → Option Addr} {CC : Nat → Nat → Nat} {TT : Nat → Option Addr} {UU : Nat → Nat} {p : List (List (List Int))} {g : List (List Int)} {T9 : Option Addr} {c9 g5 c5 : Nat} {o : Obj}
    (h : GrowsP wr.drew (pO + 1) wr.drew.heap.size v AA CC TT UU p) (hb : Below wr.drew.heap.size wr.drew w9) (ho : OwnR w9 wr.drew.heap.size w9.heap.size T9 g) (hc1 : g.length ≤ c9) (hc2 : c9 ≤ maxLen) (hp : pO < wr.drew.heap.size)
    (hown : w5.ownsRow (pO + 1) 23 1 (.slice (some ⟨g5, 0, none⟩) (p.length + 1) c5) (p.length + 1) (tabVals TT UU p ++ [.slice T9 g.length c9])) (hg : (w9.alloc o).grownBy w5 v.ownBlock) (hat : v.ownBlock = some g5 ∨ g5 = (w9.alloc o).heap.size) :
    Below (pO + 1) wr.drew w5 ∧ ∃ A C T U, GrowsP w5 (pO + 1) w5.heap.size (.slice (some ⟨g5, 0, none⟩) (p.length + 1) c5) A C T U (p ++ [g]) := by
  have g9 : GrowsP w9 (pO + 1) w9.heap.size v AA CC TT UU p := (h.keep hb).up hb.size (Nat.le_refl _)
  obtain ⟨An, Cn, hT⟩ := ho.tab
  have hz := hb.size
  refine ⟨g9.below hg (hb.mono (by omega)) (Nat.le_refl _) (by omega), _, _, _, _, g9.snoc (hT.more (by omega) (Nat.le_refl _)) hc1 hc2 (fun t b ht h1 h2 => ?_) hown hg ?_⟩
  · have k1 := (h.tabs t ht).rows_in h1
    have k2 := hT.rows_in h2
    omega
  · rcases hat with e | e
    · exact .inl (by rw [e]; rfl)
    · exact .inr (by rw [e]; simp [Value.ownBlock])
structure CopyAt (w : World) (lo pO : Nat) (TN : Option Addr) (n cN : Nat) (A0 : Nat → Option Addr) (C0 : Nat → Nat) (g : List (List Int)) (p : List (List (List Int))) : Prop where
  lt : pO < w.heap.size
  fr : w.frozen? ⟨pO, 1, none⟩ = false
  now : TabOwn w lo pO TN A0 C0 g
  ex : ∃ v A C T U, BoxD w pO (.slice TN n cN) v ∧ GrowsP w (pO + 1) w.heap.size v A C T U p
theorem copy_round {wr w5 : World} {lo pO : Nat} {TN : Option Addr} {n cN : Nat} {A0 : Nat → Option Addr} {C0 : Nat → Nat} {g : List (List Int)} {q : List (List (List Int))} {v x : Value} (hB : BoxD wr pO (.slice TN n cN) v) (hF : wr.frozen? ⟨pO, 1, none⟩ = false) (hT : TabOwn wr lo pO TN A0 C0 g)
    (hN : ∃ A C T U, GrowsP w5 (pO + 1) w5.heap.size x A C T U q) (hk : Below (pO + 1) wr w5) (hp : pO < pO + 1) : CopyAt (w5.setCell ⟨pO, 1, none⟩ x) lo pO TN n cN A0 C0 g q := by
  have hs := hk.size
  have hlt := hB.lt
  have ne : (⟨pO, 1, none⟩ : Addr) ≠ ⟨pO, 0, none⟩ := by intro e; injection e with e1 e2; omega
  have c0 : w5.cell? ⟨pO, 0, none⟩ = some (.slice TN n cN) := (hk.cell (p := ⟨pO, 0, none⟩) hp).trans hB.c0
  have c1 : w5.cell? ⟨pO, 1, none⟩ = some v := (hk.cell (p := ⟨pO, 1, none⟩) hp).trans hB.c1
  have hz : (w5.setCell ⟨pO, 1, none⟩ x).heap.size = w5.heap.size := by simp [World.setCell]
  refine ⟨by rw [hz]; omega, by rw [World.frozen?_setCell]; exact (hk.frozen (p := ⟨pO, 1, none⟩) hp).trans hF, (hT.keep fun b _ hb => ?_), ?_⟩
  · rw [Below.heap_setCell _ _ _ _ (by show b ≠ pO; omega)]; exact hk.block b (by omega)
  · obtain ⟨A, C, T, U, hg⟩ := hN
    refine ⟨x, A, C, T, U, ⟨by rw [hz]; omega, by rw [World.cell?_setCell_other (h := ne)]; exact c0, World.cell?_setCell_same _ _ _ c1⟩, ?_⟩
    have hlo : ∀ k, x.ownBlock = some k → pO + 1 ≤ k := fun k hk => ((World.ownsRow.lt hg.top) k hk).1
    rw [hz]
    exact ⟨ownsRow_of_block hg.top fun k hk => Below.heap_setCell _ _ _ _ (by have := hlo k hk; show k ≠ pO; omega), hg.cap, fun i hi => (hg.tabs i hi).keep fun b h1 _ => Below.heap_setCell _ _ _ _ (by show b ≠ pO; omega), hg.apart, hg.hib, by rw [hz]; exact Nat.le_refl _⟩
set_option maxHeartbeats 4000000 in
set_option maxRecDepth 100000 in
theorem copyD_spec (A B : Option Addr) (c kk : Nat) (d : Dk) (hd : dkB d = true) (w : World) (h : Rows2 w (· < w.heap.size) A d.now) (h' : Rows3 w (· < w.heap.size) B d.past) :
    Calls Tryz.prog 17 #[dskV A d.now.length c B d.past.length kk] w (CopyRes w d) := by
  unfold dskV
  obtain ⟨hd1, hd2, hd3⟩ := dkB_iff.1 hd
  have HP := Lib.hid (pastB_at.1 hd1)
  have HN := Lib.hid (laid_game hd2)
  have H1 := Lib.hid h
  have H2 := Lib.hid h'
  obtain ⟨i1, hi1, hy0, hy1, hy2⟩ := info_parts infoT
  have HI1 := Lib.hid hi1
  have HY0 := Lib.hid hy0
  have HY1 := Lib.hid hy1
  have HY2 := Lib.hid hy2
  clear h h' hd hd1 hd2 hi1 hy0 hy1 hy2
  obtain ⟨W, hW⟩ : ∃ W, W = (w.alloc (.cells #[.slice A d.now.length c, .slice B d.past.length kk] 26)).alloc (.cells #[.slice none 0 0, .slice none 0 0] 26) := ⟨_, rfl⟩
  have hzW : W.heap.size = w.heap.size + 1 + 1 := by rw [hW]; simp
  have a0 : W.cell? ⟨w.heap.size, 0, none⟩ = some (.slice A d.now.length c) := by rw [hW]; simp [go_sem]
  have a1 : W.cell? ⟨w.heap.size, 1, none⟩ = some (.slice B d.past.length kk) := by rw [hW]; simp [go_sem]
  have y0 : W.cell? ⟨w.heap.size + 1, 0, none⟩ = some (.slice none 0 0) := by rw [hW]; simp [go_sem]
  have y1 : W.cell? ⟨w.heap.size + 1, 1, none⟩ = some (.slice none 0 0) := by rw [hW]; simp [go_sem]
  have fy0 : W.frozen? ⟨w.heap.size + 1, 0, none⟩ = false := by rw [hW]; simp [go_sem]
  have fy1 : W.frozen? ⟨w.heap.size + 1, 1, none⟩ = false := by rw [hW]; simp [go_sem]
  have hbW : Below w.heap.size w W := by rw [hW]; exact ((Below.refl _ _).alloc (Nat.le_refl _) _).alloc (by simp) _
  have HBW := Lib.hid hbW
  have HzW := Lib.hid hzW
  have HA1 := Lib.hid a1
  have HYF := Lib.hid (And.intro (And.intro y0 y1) (And.intro fy0 fy1))
  go_enter Tryz.func17, Tryz.ntmps17
  go_wp2_with fail
  rw [← hW]
  clear hW y0 y1 fy0 fy1 hbW a1 hzW
  refine (copyG_spec _ _ d.now HN.out _ ((keepRows HBW.out H1.out).lt HBW.out.size)).mono ?_
  rintro e w2 ⟨TN, cN, rfl, hcN1, hcN2, hb2, ho2⟩
  obtain ⟨A0, C0, hT2⟩ := ho2.tab
  have HB2 := Lib.hid hb2
  have HT2 := Lib.hid hT2
  clear ho2 hT2 a0
  obtain ⟨pO, hpO⟩ : ∃ pO, w2.heap.size = pO := ⟨_, rfl⟩
  have HWO : Hid (W.heap.size ≤ pO) := by show _ ≤ _; rw [← hpO]; exact hb2.size
  clear hb2
  go_wp2_with fail
  obtain ⟨w3, hw3⟩ : ∃ w3, w3 = w2.alloc (.cells #[.slice TN d.now.length cN, .slice none 0 0] 26) := ⟨_, rfl⟩
  have hC3 : CopyAt w3 W.heap.size pO TN d.now.length cN A0 C0 d.now (tkP d.past 0) := by
    have hz : w3.heap.size = pO + 1 := by rw [hw3]; simp [hpO]
    refine ⟨by omega, by rw [hw3, ← hpO]; simp [go_sem], HT2.out.keep (w' := w3) (fun b _ h2 => by rw [hw3]; exact Below.heap_alloc _ _ _ h2) |>.more (Nat.le_refl _) (by omega), ?_⟩
    exact ⟨.slice none 0 0, fun _ _ => none, fun _ _ => 0, fun _ => none, fun _ => 0, ⟨by omega, by rw [hw3, ← hpO]; simp [go_sem], by rw [hw3, ← hpO]; simp [go_sem]⟩, GrowsP.nil w3 (Nat.le_refl _) _ _ _ _⟩
  have HC3 := Lib.hid hC3
  have HW3 : Hid (Below W.heap.size W w3) := by
    show Below _ _ _
    rw [hw3]
    exact (HB2.out).alloc HB2.out.size _
  rw [← hw3]
  clear hw3 hC3 hpO
  have HS1 := Lib.hid (stays (W := W) (p := w.heap.size) (o := 1) (by rw [HzW.out]; omega) HA1.out)
  go_loopw [4] (fun i wr => ∃ k : Nat, k ≤ d.past.length ∧ i = .int .i64 k ∧ Hid (CopyAt wr W.heap.size pO TN d.now.length cN A0 C0 d.now (tkP d.past k)) ∧ Hid (Below W.heap.size W wr)) (fun i _ => d.past.length - (intOf i).toNat)
  case atStart => exact ⟨0, Nat.zero_le _, rfl, HC3.out, HW3.out⟩
  case round =>
    obtain ⟨k, hk, rfl, HC, HW⟩ := hrel
    have q1 := HS1.out wr HW.out
    by_cases hlt : k < d.past.length
    · obtain ⟨bt, ot, rfl⟩ := H2.out.some (by omega)
      obtain ⟨hS, Ak, ck, hck, hlk, hmk, hik⟩ := (keepTabs HBW.out H2.out).tab hlt
      have hS' : bt < w.heap.size := hS
      have s2 := stays (W := W) (p := bt) (o := ot + k) (by rw [HzW.out]; omega) hck
      have s1 := HS1.out
      obtain ⟨hlt0, hfr, hnow, v, AA, CC, TT, UU, hB, hGP⟩ := HC.out
      have HB := Lib.hid hB
      have HF := Lib.hid hfr
      have HT := Lib.hid hnow
      have HWp := HWO.out
      have HWd : Hid (Below W.heap.size W wr.drew) := HW.out.drew
      have HGm := Lib.hid (laid_game (HP.out k hlt))
      have HIk : Hid (Rows2 wr.drew (· < wr.drew.heap.size) Ak (tabAt d.past k)) := (keepRows (HWd.out.mono HBW.out.size) hik).lt (Nat.le_trans HBW.out.size HWd.out.size)
      have HpO : Hid (pO < wr.drew.heap.size) := hB.lt
      have HBc : Hid (wr.drew.cell? ⟨pO, 1, none⟩ = some v) := hB.c1
      have hBc := HBc.out
      have HFr : Hid (wr.drew.frozen? ⟨pO, 1, none⟩ = false) := hfr
      have HGP : Hid (GrowsP wr.drew (pO + 1) wr.drew.heap.size v AA CC TT UU (tkP d.past k)) := hGP.keep (Below.refl _ _).drew
      have HLT := Lib.hid (tkP_length d.past hk)
      unfold maxLen at hmk
      clear hB hfr hnow hGP hik hck hlt0 HC hS
      go_wp2_with fail
      refine wp_region_held_drew (S := fun w' => Below W.heap.size W w') (by kernel_rfl) HWd.out (fun hHeld => ?_)
      refine wpAnyH_take (i := 0) (v := ?v1) rfl (by kernel_rfl) (by kernel_rfl) (by kernel_rfl) (fun _ _ _ h => h) (Or.inl ⟨by rfl, ?y1⟩) (by assumption) ?z1
      case y1 => (intro w hSw; go_simp; first | done | with_reducible rfl)
      try simp only [List.getElem_toArray, List.getElem_cons_succ, List.getElem_cons_zero, Act.put, List.setIfInBounds_toArray, List.set_cons_zero, List.set_cons_succ]
      refine wpAnyH_take (i := 2) (v := ?v2) rfl (by kernel_rfl) (by kernel_rfl) (by kernel_rfl) (fun _ _ _ h => h) (Or.inl ⟨by rfl, ?y2⟩) (by assumption) ?z2
      case y2 => (intro w hSw; go_simp; first | done | with_reducible rfl)
      try simp only [List.getElem_toArray, List.getElem_cons_succ, List.getElem_cons_zero, Act.put, List.setIfInBounds_toArray, List.set_cons_zero, List.set_cons_succ]
      refine wpAnyH_take (i := 3) (v := ?v3) rfl (by kernel_rfl) (by kernel_rfl) (by kernel_rfl) (fun _ _ _ h => h) (Or.inl ⟨by rfl, ?y3⟩) (by assumption) ?z3
      case y3 => (intro w hSw; go_simp; first | done | with_reducible rfl)
      try simp only [List.getElem_toArray, List.getElem_cons_succ, List.getElem_cons_zero, Act.put, List.setIfInBounds_toArray, List.set_cons_zero, List.set_cons_succ]
      refine wpAnyH_take (i := 4) (v := ?v4) rfl (by kernel_rfl) (by kernel_rfl) (by kernel_rfl) (fun _ _ _ h => h) (Or.inl ⟨by rfl, ?y4⟩) (by assumption) ?z4
      case y4 => (intro w hSw; go_simp; first | done | with_reducible rfl)
      try simp only [List.getElem_toArray, List.getElem_cons_succ, List.getElem_cons_zero, Act.put, List.setIfInBounds_toArray, List.set_cons_zero, List.set_cons_succ]
      refine wpAnyH_take (i := 5) (v := ?v5) rfl (by kernel_rfl) (by kernel_rfl) (by kernel_rfl) (fun _ _ _ h => h) (Or.inl ⟨by rfl, ?y5⟩) (by assumption) ?z5
      case y5 => (intro w hSw; go_simp; first | done | with_reducible rfl)
      try simp only [List.getElem_toArray, List.getElem_cons_succ, List.getElem_cons_zero, Act.put, List.setIfInBounds_toArray, List.set_cons_zero, List.set_cons_succ]
      refine wpAnyH_take (i := 6) (v := ?v6) rfl (by kernel_rfl) (by kernel_rfl) (by kernel_rfl) (fun _ _ _ h => h) (Or.inl ⟨by rfl, ?y6⟩) (by assumption) ?z6
      case y6 => (intro w hSw; go_simp; first | done | with_reducible rfl)
      try simp only [List.getElem_toArray, List.getElem_cons_succ, List.getElem_cons_zero, Act.put, List.setIfInBounds_toArray, List.set_cons_zero, List.set_cons_succ]
      refine wpAnyH_ready (rs := [1, 7]) (by kernel_rfl) (by simp) ?_
      refine AllReadyH.cons rfl (fun K hK => ?_) (AllReadyH.cons rfl (fun K hK => ?_) AllReadyH.nil)
      · go_simp
        refine hK.out _ _ (by first | assumption | exact hS9 | exact hSa _ | exact hS5 () | exact hSs () _) (fun hHeld => ?_)
        clear hK K
        try simp only [List.getElem_toArray, List.getElem_cons_succ, List.getElem_cons_zero, Act.put, List.setIfInBounds_toArray, List.set_cons_zero, List.set_cons_succ]
        refine wpAnyH_ready (rs := [7]) (by kernel_rfl) (by simp) ?_
        refine AllReadyH.cons rfl (fun K hK => ?_) AllReadyH.nil
        go_simp
        (go_at_call 36; refine (copyG_spec _ _ (tabAt d.past k) HGm.out _ HIk.out).mono ?_; rintro e w9 ⟨T9, c9, rfl, hc1, hc2, hb9, ho9⟩; have hS9 : Below W.heap.size W w9 := HWd.out.trans (hb9.mono HWd.out.size); have hSa : ∀ o, Below W.heap.size W (w9.alloc o) := fun o => hS9.alloc hS9.size o; have hc9 : w9.cell? ⟨pO, 1, none⟩ = some v := (hb9.cell (p := ⟨pO, 1, none⟩) HpO.out).trans HBc.out; have hd9 : ∀ o, (w9.alloc o).cell? ⟨pO, 1, none⟩ = some v := fun o => (World.cell?_alloc_lt _ _ _ (Nat.lt_of_lt_of_le HpO.out hb9.size)).trans hc9)
        refine hK.out _ _ (by first | assumption | exact hS9 | exact hSa _ | exact hS5 () | exact hSs () _) (fun hHeld => ?_)
        clear hK K
        try simp only [List.getElem_toArray, List.getElem_cons_succ, List.getElem_cons_zero, Act.put, List.setIfInBounds_toArray, List.set_cons_zero, List.set_cons_succ]
        refine wpAnyH_ready (rs := [8]) (by kernel_rfl) (by simp) ?_
        refine AllReadyH.cons rfl (fun K hK => ?_) AllReadyH.nil
        go_simp
        refine hK.out _ _ (by first | assumption | exact hS9 | exact hSa _ | exact hS5 () | exact hSs () _) (fun hHeld => ?_)
        clear hK K
        try simp only [List.getElem_toArray, List.getElem_cons_succ, List.getElem_cons_zero, Act.put, List.setIfInBounds_toArray, List.set_cons_zero, List.set_cons_succ]
        refine wpAnyH_ready (rs := [9]) (by kernel_rfl) (by simp) ?_
        refine AllReadyH.cons rfl (fun K hK => ?_) AllReadyH.nil
        have g9 : GrowsP w9 (pO + 1) w9.heap.size v AA CC TT UU (tkP d.past k) := (HGP.out.keep hb9).up hb9.size (Nat.le_refl _)
        refine step_append_lies _ rfl (.tmp 17) (.tmp 24) _ rfl (pO + 1) 23 i1 (.slice none 0 0) 1 24 Tryz.underlying24 HI1.out HY0.out HY1.out HY2.out rfl (by decide) _ (tkP d.past k).length (tabVals TT UU (tkP d.past k)) rfl (World.ownsRow.alloc g9.top _) ⟨w9.heap.size, 0, none⟩ 1 1 [.slice T9 (tabAt d.past k).length c9] rfl rfl (cell_one_new _ _ _) (by intro u hu; simp at hu; subst hu; rfl) (by decide) (by rw [HLT.out]; unfold maxLen; omega) (by rw [HLT.out]; omega) (by have := HpO.out; have := hb9.size; simp; omega) _ rfl ?_
        intro g5 c5 w5 hown hgrow hat hg5
        have hN5 := copy_next HGP.out hb9 ho9 hc1 hc2 HpO.out hown hgrow hat
        have hS5 : ∀ _ : Unit, Below W.heap.size W w5 := fun _ => HWd.out.trans (hN5.1.mono (Nat.le_succ_of_le HWO.out))
        have hSs : ∀ (_ : Unit) x, Below W.heap.size W (w5.setCell ⟨pO, 1, none⟩ x) := fun _ x => (hS5 ()).setCell (p := ⟨pO, 1, none⟩) HWp x
        have hc5 : w5.cell? ⟨pO, 1, none⟩ = some v := (hN5.1.cell (p := ⟨pO, 1, none⟩) (Nat.lt_succ_self pO)).trans HBc.out
        have hf5 : w5.frozen? ⟨pO, 1, none⟩ = false := (hN5.1.frozen (p := ⟨pO, 1, none⟩) (Nat.lt_succ_self pO)).trans HFr.out
        go_simp
        refine hK.out _ _ (by first | assumption | exact hS9 | exact hSa _ | exact hS5 () | exact hSs () _) (fun hHeld => ?_)
        clear hK K
        try simp only [List.getElem_toArray, List.getElem_cons_succ, List.getElem_cons_zero, Act.put, List.setIfInBounds_toArray, List.set_cons_zero, List.set_cons_succ]
        refine wpAnyH_take (i := 10) (v := ?v7) rfl (by kernel_rfl) (by kernel_rfl) (by kernel_rfl) (fun _ _ _ h => h) (Or.inl ⟨by rfl, ?y7⟩) (by assumption) ?z7
        case y7 => (intro w hSw; go_simp; first | done | with_reducible rfl)
        try simp only [List.getElem_toArray, List.getElem_cons_succ, List.getElem_cons_zero, Act.put, List.setIfInBounds_toArray, List.set_cons_zero, List.set_cons_succ]
        refine wpAnyH_ready (rs := [11]) (by kernel_rfl) (by simp) ?_
        refine AllReadyH.cons rfl (fun K hK => ?_) AllReadyH.nil
        go_simp
        refine hK.out _ _ (by first | assumption | exact hS9 | exact hSa _ | exact hS5 () | exact hSs () _) (fun hHeld => ?_)
        clear hK K
        try simp only [List.getElem_toArray, List.getElem_cons_succ, List.getElem_cons_zero, Act.put, List.setIfInBounds_toArray, List.set_cons_zero, List.set_cons_succ]
        refine wpAnyH_done (by kernel_rfl) ?_ _
        have hk2 : Below (pO + 1) wr w5 := ((Below.refl (pO + 1) wr).drew).trans hN5.1
        go_wp2_with fail
        go_roundw
        case rel => exact ⟨k + 1, by omega, by go_num, by rw [tkP_snoc d.past hlt]; exact copy_round HB.out HF.out HT.out hN5.2 hk2 (Nat.lt_succ_self pO), (by first | exact hSs () _)⟩
        case measure => simp [intOf]; omega
      · go_simp
        (go_at_call 36; refine (copyG_spec _ _ (tabAt d.past k) HGm.out _ HIk.out).mono ?_; rintro e w9 ⟨T9, c9, rfl, hc1, hc2, hb9, ho9⟩; have hS9 : Below W.heap.size W w9 := HWd.out.trans (hb9.mono HWd.out.size); have hSa : ∀ o, Below W.heap.size W (w9.alloc o) := fun o => hS9.alloc hS9.size o; have hc9 : w9.cell? ⟨pO, 1, none⟩ = some v := (hb9.cell (p := ⟨pO, 1, none⟩) HpO.out).trans HBc.out; have hd9 : ∀ o, (w9.alloc o).cell? ⟨pO, 1, none⟩ = some v := fun o => (World.cell?_alloc_lt _ _ _ (Nat.lt_of_lt_of_le HpO.out hb9.size)).trans hc9)
        refine hK.out _ _ (by first | assumption | exact hS9 | exact hSa _ | exact hS5 () | exact hSs () _) (fun hHeld => ?_)
        clear hK K
        try simp only [List.getElem_toArray, List.getElem_cons_succ, List.getElem_cons_zero, Act.put, List.setIfInBounds_toArray, List.set_cons_zero, List.set_cons_succ]
        refine wpAnyH_ready (rs := [1, 8]) (by kernel_rfl) (by simp) ?_
        refine AllReadyH.cons rfl (fun K hK => ?_) (AllReadyH.cons rfl (fun K hK => ?_) AllReadyH.nil)
        · go_simp
          refine hK.out _ _ (by first | assumption | exact hS9 | exact hSa _ | exact hS5 () | exact hSs () _) (fun hHeld => ?_)
          clear hK K
          try simp only [List.getElem_toArray, List.getElem_cons_succ, List.getElem_cons_zero, Act.put, List.setIfInBounds_toArray, List.set_cons_zero, List.set_cons_succ]
          refine wpAnyH_ready (rs := [8]) (by kernel_rfl) (by simp) ?_
          refine AllReadyH.cons rfl (fun K hK => ?_) AllReadyH.nil
          go_simp
          refine hK.out _ _ (by first | assumption | exact hS9 | exact hSa _ | exact hS5 () | exact hSs () _) (fun hHeld => ?_)
          clear hK K
          try simp only [List.getElem_toArray, List.getElem_cons_succ, List.getElem_cons_zero, Act.put, List.setIfInBounds_toArray, List.set_cons_zero, List.set_cons_succ]
          refine wpAnyH_ready (rs := [9]) (by kernel_rfl) (by simp) ?_
          refine AllReadyH.cons rfl (fun K hK => ?_) AllReadyH.nil
          have g9 : GrowsP w9 (pO + 1) w9.heap.size v AA CC TT UU (tkP d.past k) := (HGP.out.keep hb9).up hb9.size (Nat.le_refl _)
          refine step_append_lies _ rfl (.tmp 17) (.tmp 24) _ rfl (pO + 1) 23 i1 (.slice none 0 0) 1 24 Tryz.underlying24 HI1.out HY0.out HY1.out HY2.out rfl (by decide) _ (tkP d.past k).length (tabVals TT UU (tkP d.past k)) rfl (World.ownsRow.alloc g9.top _) ⟨w9.heap.size, 0, none⟩ 1 1 [.slice T9 (tabAt d.past k).length c9] rfl rfl (cell_one_new _ _ _) (by intro u hu; simp at hu; subst hu; rfl) (by decide) (by rw [HLT.out]; unfold maxLen; omega) (by rw [HLT.out]; omega) (by have := HpO.out; have := hb9.size; simp; omega) _ rfl ?_
          intro g5 c5 w5 hown hgrow hat hg5
          have hN5 := copy_next HGP.out hb9 ho9 hc1 hc2 HpO.out hown hgrow hat
          have hS5 : ∀ _ : Unit, Below W.heap.size W w5 := fun _ => HWd.out.trans (hN5.1.mono (Nat.le_succ_of_le HWO.out))
          have hSs : ∀ (_ : Unit) x, Below W.heap.size W (w5.setCell ⟨pO, 1, none⟩ x) := fun _ x => (hS5 ()).setCell (p := ⟨pO, 1, none⟩) HWp x
          have hc5 : w5.cell? ⟨pO, 1, none⟩ = some v := (hN5.1.cell (p := ⟨pO, 1, none⟩) (Nat.lt_succ_self pO)).trans HBc.out
          have hf5 : w5.frozen? ⟨pO, 1, none⟩ = false := (hN5.1.frozen (p := ⟨pO, 1, none⟩) (Nat.lt_succ_self pO)).trans HFr.out
          go_simp
          refine hK.out _ _ (by first | assumption | exact hS9 | exact hSa _ | exact hS5 () | exact hSs () _) (fun hHeld => ?_)
          clear hK K
          try simp only [List.getElem_toArray, List.getElem_cons_succ, List.getElem_cons_zero, Act.put, List.setIfInBounds_toArray, List.set_cons_zero, List.set_cons_succ]
          refine wpAnyH_take (i := 10) (v := ?v8) rfl (by kernel_rfl) (by kernel_rfl) (by kernel_rfl) (fun _ _ _ h => h) (Or.inl ⟨by rfl, ?y8⟩) (by assumption) ?z8
          case y8 => (intro w hSw; go_simp; first | done | with_reducible rfl)
          try simp only [List.getElem_toArray, List.getElem_cons_succ, List.getElem_cons_zero, Act.put, List.setIfInBounds_toArray, List.set_cons_zero, List.set_cons_succ]
          refine wpAnyH_ready (rs := [11]) (by kernel_rfl) (by simp) ?_
          refine AllReadyH.cons rfl (fun K hK => ?_) AllReadyH.nil
          go_simp
          refine hK.out _ _ (by first | assumption | exact hS9 | exact hSa _ | exact hS5 () | exact hSs () _) (fun hHeld => ?_)
          clear hK K
          try simp only [List.getElem_toArray, List.getElem_cons_succ, List.getElem_cons_zero, Act.put, List.setIfInBounds_toArray, List.set_cons_zero, List.set_cons_succ]
          refine wpAnyH_done (by kernel_rfl) ?_ _
          have hk2 : Below (pO + 1) wr w5 := ((Below.refl (pO + 1) wr).drew).trans hN5.1
          go_wp2_with fail
          go_roundw
          case rel => exact ⟨k + 1, by omega, by go_num, by rw [tkP_snoc d.past hlt]; exact copy_round HB.out HF.out HT.out hN5.2 hk2 (Nat.lt_succ_self pO), (by first | exact hSs () _)⟩
          case measure => simp [intOf]; omega
        · go_simp
          refine hK.out _ _ (by first | assumption | exact hS9 | exact hSa _ | exact hS5 () | exact hSs () _) (fun hHeld => ?_)
          clear hK K
          try simp only [List.getElem_toArray, List.getElem_cons_succ, List.getElem_cons_zero, Act.put, List.setIfInBounds_toArray, List.set_cons_zero, List.set_cons_succ]
          refine wpAnyH_ready (rs := [1]) (by kernel_rfl) (by simp) ?_
          refine AllReadyH.cons rfl (fun K hK => ?_) AllReadyH.nil
          go_simp
          refine hK.out _ _ (by first | assumption | exact hS9 | exact hSa _ | exact hS5 () | exact hSs () _) (fun hHeld => ?_)
          clear hK K
          try simp only [List.getElem_toArray, List.getElem_cons_succ, List.getElem_cons_zero, Act.put, List.setIfInBounds_toArray, List.set_cons_zero, List.set_cons_succ]
          refine wpAnyH_ready (rs := [9]) (by kernel_rfl) (by simp) ?_
          refine AllReadyH.cons rfl (fun K hK => ?_) AllReadyH.nil
          have g9 : GrowsP w9 (pO + 1) w9.heap.size v AA CC TT UU (tkP d.past k) := (HGP.out.keep hb9).up hb9.size (Nat.le_refl _)
          refine step_append_lies _ rfl (.tmp 17) (.tmp 24) _ rfl (pO + 1) 23 i1 (.slice none 0 0) 1 24 Tryz.underlying24 HI1.out HY0.out HY1.out HY2.out rfl (by decide) _ (tkP d.past k).length (tabVals TT UU (tkP d.past k)) rfl (World.ownsRow.alloc g9.top _) ⟨w9.heap.size, 0, none⟩ 1 1 [.slice T9 (tabAt d.past k).length c9] rfl rfl (cell_one_new _ _ _) (by intro u hu; simp at hu; subst hu; rfl) (by decide) (by rw [HLT.out]; unfold maxLen; omega) (by rw [HLT.out]; omega) (by have := HpO.out; have := hb9.size; simp; omega) _ rfl ?_
          intro g5 c5 w5 hown hgrow hat hg5
          have hN5 := copy_next HGP.out hb9 ho9 hc1 hc2 HpO.out hown hgrow hat
          have hS5 : ∀ _ : Unit, Below W.heap.size W w5 := fun _ => HWd.out.trans (hN5.1.mono (Nat.le_succ_of_le HWO.out))
          have hSs : ∀ (_ : Unit) x, Below W.heap.size W (w5.setCell ⟨pO, 1, none⟩ x) := fun _ x => (hS5 ()).setCell (p := ⟨pO, 1, none⟩) HWp x
          have hc5 : w5.cell? ⟨pO, 1, none⟩ = some v := (hN5.1.cell (p := ⟨pO, 1, none⟩) (Nat.lt_succ_self pO)).trans HBc.out
          have hf5 : w5.frozen? ⟨pO, 1, none⟩ = false := (hN5.1.frozen (p := ⟨pO, 1, none⟩) (Nat.lt_succ_self pO)).trans HFr.out
          go_simp
          refine hK.out _ _ (by first | assumption | exact hS9 | exact hSa _ | exact hS5 () | exact hSs () _) (fun hHeld => ?_)
          clear hK K
          try simp only [List.getElem_toArray, List.getElem_cons_succ, List.getElem_cons_zero, Act.put, List.setIfInBounds_toArray, List.set_cons_zero, List.set_cons_succ]
          refine wpAnyH_take (i := 10) (v := ?v9) rfl (by kernel_rfl) (by kernel_rfl) (by kernel_rfl) (fun _ _ _ h => h) (Or.inl ⟨by rfl, ?y9⟩) (by assumption) ?z9
          case y9 => (intro w hSw; go_simp; first | done | with_reducible rfl)
          try simp only [List.getElem_toArray, List.getElem_cons_succ, List.getElem_cons_zero, Act.put, List.setIfInBounds_toArray, List.set_cons_zero, List.set_cons_succ]
          refine wpAnyH_ready (rs := [11]) (by kernel_rfl) (by simp) ?_
          refine AllReadyH.cons rfl (fun K hK => ?_) AllReadyH.nil
          go_simp
          refine hK.out _ _ (by first | assumption | exact hS9 | exact hSa _ | exact hS5 () | exact hSs () _) (fun hHeld => ?_)
          clear hK K
          try simp only [List.getElem_toArray, List.getElem_cons_succ, List.getElem_cons_zero, Act.put, List.setIfInBounds_toArray, List.set_cons_zero, List.set_cons_succ]
          refine wpAnyH_done (by kernel_rfl) ?_ _
          have hk2 : Below (pO + 1) wr w5 := ((Below.refl (pO + 1) wr).drew).trans hN5.1
          go_wp2_with fail
          go_roundw
          case rel => exact ⟨k + 1, by omega, by go_num, by rw [tkP_snoc d.past hlt]; exact copy_round HB.out HF.out HT.out hN5.2 hk2 (Nat.lt_succ_self pO), (by first | exact hSs () _)⟩
          case measure => simp [intOf]; omega
    · obtain rfl : k = d.past.length := by omega
      obtain ⟨hlt0, hfr, hnow, v, AA, CC, TT, UU, hB, hGP⟩ := HC.out
      rw [tkP_all] at hGP
      have hzw := HzW.out
      have l0 : w.heap.size + 1 < W.heap.size := by omega
      have f0 := hB.c0
      have f1 := hB.c1
      have b0 := (HW.out.cell (p := ⟨w.heap.size + 1, 0, none⟩) l0).trans HYF.out.1.1
      have b1 := (HW.out.cell (p := ⟨w.heap.size + 1, 1, none⟩) l0).trans HYF.out.1.2
      have g0 := (HW.out.frozen (p := ⟨w.heap.size + 1, 0, none⟩) l0).trans HYF.out.2.1
      have g1 := (HW.out.frozen (p := ⟨w.heap.size + 1, 1, none⟩) l0).trans HYF.out.2.2
      have ne : (⟨w.heap.size + 1, 0, none⟩ : Addr) ≠ ⟨w.heap.size + 1, 1, none⟩ := by intro e; injection e with e1 e2; omega
      have HGP := Lib.hid hGP
      have HT := Lib.hid hnow
      have HL0 := Lib.hid hlt0
      obtain ⟨TPv, cP, hv, hcP1, hcP2, _⟩ := hGP.past
      subst hv
      clear hB hGP hnow hfr hlt0 HC hzw l0
      go_wp2_with fail
      have r0 : ((wr.setCell ⟨w.heap.size + 1, 0, none⟩ (.slice TN d.now.length cN)).setCell ⟨w.heap.size + 1, 1, none⟩ (.slice TPv d.past.length cP)).cell? ⟨w.heap.size + 1, 0, none⟩ = some (.slice TN d.now.length cN) := by
        rw [World.cell?_setCell_other (h := ne.symm)]; exact World.cell?_setCell_same _ _ _ b0
      have r1 : ((wr.setCell ⟨w.heap.size + 1, 0, none⟩ (.slice TN d.now.length cN)).setCell ⟨w.heap.size + 1, 1, none⟩ (.slice TPv d.past.length cP)).cell? ⟨w.heap.size + 1, 1, none⟩ = some (.slice TPv d.past.length cP) :=
        World.cell?_setCell_same _ _ _ (by rw [World.cell?_setCell_other (h := ne)]; exact b1)
      refine bodyPost_ret (v := .agg #[.slice TN d.now.length cN, .slice TPv d.past.length cP]) (by simp [results, Tryz.results17, go_sem, r0, r1]) rfl ?_
      have hzw := HzW.out
      have hwo := HWO.out
      obtain ⟨w9, hw9⟩ : ∃ w9, w9 = (wr.setCell ⟨w.heap.size + 1, 0, none⟩ (.slice TN d.now.length cN)).setCell ⟨w.heap.size + 1, 1, none⟩ (.slice TPv d.past.length cP) := ⟨_, rfl⟩
      have st : ∀ b, w.heap.size + 1 < b → w9.heap[b]? = wr.heap[b]? := fun b hb => by
        have hne : b ≠ w.heap.size + 1 := by omega
        rw [hw9, Below.heap_setCell _ _ _ _ hne, Below.heap_setCell _ _ _ _ hne]
      have hz9 : w9.heap.size = wr.heap.size := by rw [hw9]; simp [World.setCell]
      have hb9 : Below w.heap.size w w9 := by
        rw [hw9]
        exact ((HBW.out.trans (HW.out.mono HBW.out.size)).setCell (p := ⟨w.heap.size + 1, 0, none⟩) (by show w.heap.size ≤ w.heap.size + 1; omega) _).setCell (p := ⟨w.heap.size + 1, 1, none⟩) (by show w.heap.size ≤ w.heap.size + 1; omega) _
      rw [← hw9]
      have hlo : ∀ k, (Value.slice TPv d.past.length cP).ownBlock = some k → pO + 1 ≤ k := fun k hk => ((World.ownsRow.lt HGP.out.top) k hk).1
      have hGP9 : GrowsP w9 (pO + 1) w9.heap.size (.slice TPv d.past.length cP) AA CC TT UU d.past :=
        ⟨ownsRow_of_block HGP.out.top fun k hk => st k (by have := hlo k hk; omega), HGP.out.cap, fun i hi => by rw [hz9]; exact (HGP.out.tabs i hi).keep fun b h1 _ => st b (by omega), HGP.out.apart, by rw [hz9]; exact HGP.out.hib, Nat.le_refl _⟩
      have hT9 : TabOwn w9 W.heap.size pO TN A0 C0 d.now := HT.out.keep fun b h1 _ => st b (by omega)
      refine ⟨TN, cN, _, A0, C0, AA, CC, TT, UU, rfl, hcN1, hcN2, hb9, hT9.more (by omega) (by have := HL0.out; omega), hGP9.base (by omega), fun t b ht h1 h2 => ?_⟩
      have k1 := hT9.rows_in h1
      have k2 := (hGP9.tabs t ht).rows_in h2
      omega
end Go.Proofs.YtlmaeadbomnhlaaGreat

namespace Go.Proofs.YtlmaeadbomnhlaaGreat
set_option linter.unusedSimpArgs false
set_option linter.unusedVariables false
open Go.RowKit
theorem tab_ext {g h : List (List Int)} (hl : g.length = h.length) (hr : ∀ i, i < g.length → rowAt g i = rowAt h i) : g = h := by
  refine List.ext_getElem hl fun i h1 h2 => ?_
  have := hr i h1
  unfold rowAt at this
  simpa [h1, h2] using this
theorem row_ext {x y : List Int} (hl : x.length = y.length) (hr : ∀ i, i < x.length → nth x i = nth y i) : x = y := by
  refine List.ext_getElem hl fun i h1 h2 => ?_
  have := hr i h1
  unfold nth at this
  simpa [h1, h2] using this
set_option maxHeartbeats 2000000 in
set_option maxRecDepth 100000 in
theorem sameG_spec (A B : Option Addr) (c d : Nat) (g h : List (List Int)) (S T : Nat → Prop) (hg : g.length ≤ maxLen) (hh : h.length ≤ maxLen) (w : World) (r : Rows2 w S A g) (r' : Rows2 w T B h) :
    Calls Tryz.prog 20 #[.slice A g.length c, .slice B h.length d] w (Quiet (.bool (decide (g = h))) w) := by
  unfold maxLen at hg hh
  have HR := Lib.hid r
  have HK := Lib.hid r'
  clear r r'
  by_cases hlen : g.length = h.length
  · have z1 : ((g.length : Int) != (h.length : Int)) = false := by rw [hlen]; simp
    have HL := Lib.hid hlen
    clear hlen
    go_enter Tryz.func20, Tryz.ntmps20
    go_wp2_with fail
    go_loopw [5] (fun i wr => ∃ k : Nat, k ≤ g.length ∧ i = .int .i64 k ∧ Hid (∀ i, i < k → rowAt g i = rowAt h i) ∧ Hid (∃ q, wr = w.drewN q)) (fun i _ => g.length - (intOf i).toNat)
    case atStart => exact ⟨0, Nat.zero_le _, rfl, fun i hi => absurd hi (Nat.not_lt_zero _), ⟨0, rfl⟩⟩
    case round =>
      obtain ⟨k, hk, rfl, HA, HQ⟩ := hrel
      obtain ⟨q, rfl⟩ := HQ.out
      clear HQ
      by_cases hlt : k < g.length
      · have hlt' : k < h.length := by have := HL.out; omega
        obtain ⟨b, off, rfl⟩ := HR.out.some (by omega)
        obtain ⟨b', off', rfl⟩ := HK.out.some (by omega)
        obtain ⟨hS, Ak, ck, hck, hlk, hmk, hik⟩ := HR.out.row hlt
        obtain ⟨hS', Bk, dk, hdk, hlk', hmk', hik'⟩ := HK.out.row hlt'
        have HI := Lib.hid hik
        have HJ := Lib.hid hik'
        clear hik hik'
        have hmk2 := Nat.le_trans hlk hmk
        have hmk2' := Nat.le_trans hlk' hmk'
        unfold maxLen at hmk hmk' hmk2 hmk2'
        by_cases hrl : (rowAt g k).length = (rowAt h k).length
        · have z2 : (((rowAt g k).length : Int) != ((rowAt h k).length : Int)) = false := by rw [hrl]; simp
          have HRL := Lib.hid hrl
          clear hrl
          go_wp2_with fail
          go_quiet (fail)
          go_wp2_with fail
          go_loopw [6] (fun i wr => ∃ m : Nat, m ≤ (rowAt g k).length ∧ i = .int .i64 m ∧ Hid (∀ s, s < m → nth (rowAt g k) s = nth (rowAt h k) s) ∧ Hid (∃ q, wr = w.drewN q)) (fun i _ => (rowAt g k).length - (intOf i).toNat)
          case atStart => exact ⟨0, Nat.zero_le _, rfl, fun i hi => absurd hi (Nat.not_lt_zero _), ⟨_, World.drewN_drewN _ _ _⟩⟩
          case round =>
            obtain ⟨m, hm, rfl, HE, HQ⟩ := hrel
            obtain ⟨q2, rfl⟩ := HQ.out
            clear HQ
            by_cases hlm : m < (rowAt g k).length
            · have hlm' : m < (rowAt h k).length := by have := HRL.out; omega
              obtain ⟨bm, om, rfl, hSm, hcm⟩ := HI.out.at_ hlm
              obtain ⟨bn, on, rfl, hSn, hcn⟩ := HJ.out.at_ hlm'
              have hcm' := hcm m hlm
              have hcn' := hcn m hlm'
              clear hcm hcn
              rcases he : (nth (rowAt g k) m != nth (rowAt h k) m) with _ | _
              · have HN : Hid (∀ s, s < m + 1 → nth (rowAt g k) s = nth (rowAt h k) s) := fun s hs => by
                  by_cases e : s = m
                  · rw [e]; simpa using he
                  · exact HE.out s (by omega)
                go_wp2_with fail
                go_quiet (fail)
                go_wp2_with fail
                go_roundw
                case rel => exact ⟨m + 1, by omega, by go_num, HN, ⟨_, rfl⟩⟩
                case measure => simp [intOf]; omega
              · have HF : Hid (decide (g = h) = false) := decide_eq_false fun e => by rw [e] at he; simp at he
                go_wp2_with fail
                go_quiet (fail)
                go_wp2_with fail
                go_ret
                rw [HF.out]
                exact ⟨rfl, _, World.drewN_drewN _ _ _⟩
            · obtain rfl : m = (rowAt g k).length := by omega
              have HN : Hid (∀ i, i < k + 1 → rowAt g i = rowAt h i) := fun i hi => by
                by_cases e : i = k
                · rw [e]; exact row_ext HRL.out HE.out
                · exact HA.out i (by omega)
              go_wp2_with fail
              go_roundw
              case rel => exact ⟨k + 1, by omega, by go_num, HN, ⟨_, rfl⟩⟩
              case measure => simp [intOf]; omega
        · have z2 : (((rowAt g k).length : Int) != ((rowAt h k).length : Int)) = true := by rw [bne_iff_ne]; omega
          have HF : Hid (decide (g = h) = false) := decide_eq_false fun e => hrl (by rw [e])
          clear hrl
          go_wp2_with fail
          go_quiet (fail)
          go_wp2_with fail
          go_ret
          rw [HF.out]
          exact ⟨rfl, _, World.drewN_drewN _ _ _⟩
      · obtain rfl : k = g.length := by omega
        have HF : Hid (decide (g = h) = true) := decide_eq_true (tab_ext HL.out HA.out)
        go_wp2_with fail
        go_ret
        rw [HF.out]
        exact ⟨rfl, _, rfl⟩
  · have z1 : ((g.length : Int) != (h.length : Int)) = true := by rw [bne_iff_ne]; omega
    have HF : Hid (decide (g = h) = false) := decide_eq_false fun e => hlen (by rw [e])
    clear hlen
    go_enter Tryz.func20, Tryz.ntmps20
    go_wp2_with fail
    go_ret
    rw [HF.out]
    exact ⟨rfl, 0, rfl⟩
end Go.Proofs.YtlmaeadbomnhlaaGreat
