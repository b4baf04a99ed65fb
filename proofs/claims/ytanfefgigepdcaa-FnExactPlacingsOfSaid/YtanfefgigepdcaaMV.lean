/- Texts in one: WinI, Collect, CollectB, CollectC, ExactWa, Impl7. -/
import Derived.Test.YtanfefgigepdcaaML
import Derived.Test.YtanfefgigepdcaaMT
import Derived.Test.YtanfefgigepdcaaMC
import Derived.RangeFuncBox
import Derived.Maps.OwnIn
import Derived.Maps.AppendAt
import Derived.Test.YtanfefgigepdcaaMG
import Derived.Test.YtanfefgigepdcaaMI
namespace Go.Proofs.Ytanfefgigepdcaa
set_option linter.unusedSimpArgs false
set_option linter.unusedVariables false
open Go.RowKit Go.Shelf

attribute [local go_sem] Oper.semAt_some



end Go.Proofs.Ytanfefgigepdcaa

namespace Go.Proofs.Ytanfefgigepdcaa
set_option linter.unusedSimpArgs false
set_option linter.unusedVariables false
open Go.RowKit Go.Shelf

attribute [local go_sem] Oper.semAt_some

/-- the blocks that a table uses -/
def Uses (v : Value) (A : Nat → Option Addr) (g : List (List Int)) (k : Nat) : Prop := v.ownBlock = some k ∨ ∃ i, i < g.length ∧ 0 < (rowAt g i).length ∧ A i = some ⟨k, 0, none⟩

theorem GrowsR.uses_lt {w : World} {base hi : Nat} {v : Value} {A : Nat → Option Addr} {C : Nat → Nat} {g : List (List Int)} (h : GrowsR w base hi v A C g) {k : Nat} (hk : Uses v A g k) : base ≤ k ∧ k < hi := by
  rcases hk with h1 | ⟨i, h1, h2, h3⟩
  · exact ⟨((World.ownsRow.lt h.top) k h1).1, h.hib k h1⟩
  · obtain ⟨b, N, f, e, k1, k2, _⟩ := h.rows.own i h1 h2
    rw [h3] at e; injection e with e; injection e with e; subst e; exact ⟨k1, k2⟩

theorem GrowsR.keepS {w w' : World} {base hi : Nat} {v : Value} {A : Nat → Option Addr} {C : Nat → Nat} {g : List (List Int)} (h : GrowsR w base hi v A C g) (hk : ∀ k, Uses v A g k → w'.heap[k]? = w.heap[k]?) (hs : w.heap.size ≤ w'.heap.size) : GrowsR w' base hi v A C g := by
  refine ⟨ownsRow_of_block h.top fun k h1 => hk k (.inl h1), ⟨h.rows.cap, fun i hi h0 => ?_, h.rows.apart⟩, h.hib, Nat.le_trans h.hile hs⟩
  obtain ⟨b, N, f, e, k1, k2, k3, k4, k5⟩ := h.rows.own i hi h0
  exact ⟨b, N, f, e, k1, k2, k3.of_block (hk b (.inr ⟨i, hi, h0, e⟩)), k4, k5⟩

/-- behind an append of one row, which lies wherever, apart from the table's -/
theorem GrowsR.snocS {w w2 : World} {base : Nat} {v v' : Value} {A : Nat → Option Addr} {C : Nat → Nat} {g : List (List Int)} {l : List Int} {bn cn : Nat} {o : Obj}
    (h : GrowsR w base w.heap.size v A C g) (hl : OwnI w base w.heap.size (some ⟨bn, 0, none⟩) l) (hap : ¬ Uses v A g bn) (hc1 : l.length ≤ cn) (hc2 : cn ≤ maxLen)
    (hown : w2.ownsRow base 31 1 v' (g.length + 1) (rowVals A C g ++ [.slice (some ⟨bn, 0, none⟩) l.length cn])) (hg : (w.alloc o).grownBy w2 v.ownBlock) (hat : v'.ownBlock = v.ownBlock ∨ v'.ownBlock = some (w.heap.size + 1)) :
    GrowsR w2 base w2.heap.size v' (fun i => if i < g.length then A i else some ⟨bn, 0, none⟩) (fun i => if i < g.length then C i else cn) (g ++ [l]) ∧
      ∀ k, Uses v' (fun i => if i < g.length then A i else some ⟨bn, 0, none⟩) (g ++ [l]) k → Uses v A g k ∨ k = bn ∨ w.heap.size < k := by
  have hsz := hg.size
  simp at hsz
  have stays : ∀ (A0 : Option Addr) (l0 : List Int), OwnI w base w.heap.size A0 l0 → OwnI w2 base w2.heap.size A0 l0 := by
    intro A0 l0 ho h0
    obtain ⟨b, N, f, e, k1, k2, k3, k4, k5⟩ := ho h0
    refine ⟨b, N, f, e, k1, by omega, k3.of_block ?_, k4, k5⟩
    have hne : some b ≠ v.ownBlock := by
      intro e'
      rcases h.top_row with ⟨rfl, _⟩ | ⟨b', cap, f', rfl, _, _, _, h4, _⟩
      · cases e'
      · simp [Value.ownBlock] at e'
        exact rowIs_ne' k3 h4 e'
    rw [hg.block b (by simp; omega) hne, Below.heap_alloc _ _ _ (by omega)]
  have hget : ∀ i, i < g.length → rowAt (g ++ [l]) i = rowAt g i := fun i hi => rowAt_snoc_lt g l i hi
  have hget' : rowAt (g ++ [l]) g.length = l := rowAt_snoc_eq g l
  refine ⟨⟨?_, ⟨fun i hi => ?_, fun i hi => ?_, fun i j hi hj hne p q => ?_⟩, fun k hk => ?_, Nat.le_refl _⟩, fun k hk => ?_⟩
  · have e : rowVals (fun i => if i < g.length then A i else some ⟨bn, 0, none⟩) (fun i => if i < g.length then C i else cn) (g ++ [l]) = rowVals A C g ++ [.slice (some ⟨bn, 0, none⟩) l.length cn] := by
      unfold rowVals
      rw [List.length_append, List.length_singleton, List.range_succ, List.map_append]
      congr 1
      · refine List.map_congr_left fun i hi => ?_
        have hi := List.mem_range.1 hi
        simp only [if_pos hi, hget i hi]
      · simp [hget']
    rw [e, List.length_append]; exact hown
  · rw [List.length_append, List.length_singleton] at hi
    by_cases e : i < g.length
    · simp only [if_pos e]; rw [hget i e]; exact h.rows.cap i e
    · obtain rfl : i = g.length := by omega
      simp only [if_neg e]; rw [hget']; exact ⟨hc1, hc2⟩
  · rw [List.length_append, List.length_singleton] at hi
    by_cases e : i < g.length
    · simp only [if_pos e]; rw [hget i e]; exact stays _ _ (h.rows.own i e)
    · obtain rfl : i = g.length := by omega
      simp only [if_neg e]; rw [hget']; exact stays _ _ hl
  · rw [List.length_append, List.length_singleton] at hi hj
    by_cases ei : i < g.length
    · by_cases ej : j < g.length
      · simp only [if_pos ei, if_pos ej]
        rw [hget i ei] at p
        rw [hget j ej] at q
        exact h.rows.apart i j ei ej hne p q
      · simp only [if_pos ei, if_neg ej]
        rw [hget i ei] at p
        exact fun e => hap (.inr ⟨i, ei, p, e⟩)
    · obtain rfl : i = g.length := by omega
      have ej : j < g.length := by omega
      simp only [if_neg ei, if_pos ej]
      rw [hget j ej] at q
      exact fun e => hap (.inr ⟨j, ej, q, e.symm⟩)
  · rcases hat with e | e
    · rw [e] at hk; have := h.hib k hk; omega
    · rw [e] at hk; injection hk with hk
      have := (World.ownsRow.lt hown) k (by rw [e, hk])
      exact this.2
  · rcases hk with hk | ⟨i, hi, h0, hk⟩
    · rcases hat with e | e
      · rw [e] at hk; exact .inl (.inl hk)
      · rw [e] at hk; injection hk with hk; right; right; omega
    · rw [List.length_append, List.length_singleton] at hi
      by_cases ei : i < g.length
      · simp only [if_pos ei] at hk; rw [hget i ei] at h0; exact .inl (.inr ⟨i, ei, h0, hk⟩)
      · simp only [if_neg ei] at hk; injection hk with hk; injection hk with hk; exact .inr (.inl hk.symm)

/-- what AppendSeq keeps between two rounds: its variable in block w.heap.size, the table from there on -/
structure Collects (w : World) (pre : List (List Int)) (S : Nat → Prop) (W : World) : Prop where
  bel : Below w.heap.size w W
  ex : ∃ (v : Value) (A : Nat → Option Addr) (C : Nat → Nat), Cell1 W w.heap.size 23 v ∧ GrowsR W (w.heap.size + 1) W.heap.size v A C pre ∧ (∀ k, S k ↔ k = w.heap.size ∨ Uses v A pre k)

theorem Collects.own {w : World} {B : Nat} (hB : w.heap.size ≤ B) : Own1 B (fun pre S W => Collects w pre S W) := by
  intro pre S W W' ⟨hb, v, A, C, h1, h2, h3⟩ hl
  refine ⟨hb.trans (hl.below hb.size fun k hk => .inl (by omega)), v, A, C, h1.keep (hl.block _ h1.lt (.inr ((h3 _).2 (.inl rfl)))), ?_, h3⟩
  exact (h2.keepS (fun k hk => hl.block k (h2.uses_lt hk).2 (.inr ((h3 k).2 (.inr hk)))) hl.size).up hl.size (Nat.le_refl _)

end Go.Proofs.Ytanfefgigepdcaa

namespace Go.Proofs.Ytanfefgigepdcaa
set_option linter.unusedSimpArgs false
set_option linter.unusedVariables false
open Go.RowKit Go.Shelf

attribute [local go_sem] Oper.semAt_some

/-- a table of the call's own, its capacity told -/
def NewTableD (w : World) (g : List (List Int)) (e : Ending) (w' : World) : Prop :=
  ∃ (T : Option Addr) (c : Nat), e = .returned (.slice T g.length c) ∧ g.length ≤ c ∧ c ≤ maxLen ∧ Below w.heap.size w w' ∧ OwnR w' w.heap.size w'.heap.size T g

theorem NewTableD.plain {w w' : World} {g : List (List Int)} {e : Ending} (h : NewTableD w g e w') : NewTable w g e w' := by
  obtain ⟨T, c, h1, _, _, h2, h3⟩ := h; exact ⟨T, c, h1, h2, h3⟩

theorem GrowsR.base {w : World} {base base' hi : Nat} {v : Value} {A : Nat → Option Addr} {C : Nat → Nat} {g : List (List Int)} (h : GrowsR w base hi v A C g) (hb : base' ≤ base) : GrowsR w base' hi v A C g := by
  refine ⟨?_, ⟨h.rows.cap, fun i hi => (h.rows.own i hi).more hb (Nat.le_refl _), h.rows.apart⟩, h.hib, h.hile⟩
  obtain ⟨h1, h2 | ⟨b, cap, cur, h3, h4, h5⟩⟩ := h.top
  · exact ⟨h1, .inl h2⟩
  · exact ⟨h1, .inr ⟨b, cap, cur, h3, Nat.le_trans hb h4, h5⟩⟩

end Go.Proofs.Ytanfefgigepdcaa

namespace Go.Proofs.Ytanfefgigepdcaa
set_option linter.unusedSimpArgs false
set_option linter.unusedVariables false
open Go.RowKit Go.Shelf

attribute [local go_sem] Oper.semAt_some

/-- a round is handed a row of numbers, freshly made, with room behind it -/
def RowGot (x : List Int) (v : Array Value) (G : Nat → Prop) (W : World) : Prop :=
  ∃ b cb, v = #[.slice (some ⟨b, 0, none⟩) x.length cb] ∧ x.length ≤ cb ∧ cb ≤ maxLen ∧ G = (fun k => k = b) ∧ ∃ (N : Nat) (f : Nat → Value), x.length ≤ N ∧ W.rowIs b 3 N f ∧ ∀ i, i < x.length → f i = .int .i64 (nth x i)

theorem RowGot.size (x : List Int) (v : Array Value) (G : Nat → Prop) (W : World) (h : RowGot x v G W) : v.size = 1 := by obtain ⟨b, cb, rfl, _⟩ := h; rfl

set_option maxRecDepth 100000 in
set_option maxHeartbeats 2000000 in
theorem appendSeqG (gf : Nat) (lb : Array Value) (xs : List (List Int)) (K : Nat → Prop) (w0 w : World) (hit : IterS Try.prog gf lb RowGot xs K w0) (eg : ∀ args w, (callFunc gf args).run Try.prog w = .ok (.enter gf args) w)
    (hKw : Lies K w0 w) (hK1 : ∀ k, K k → k < w0.heap.size) (hlen : xs.length ≤ 65536) (hrow : ∀ x, x ∈ xs → 0 < x.length ∧ x.length ≤ 65536) :
    Calls Try.prog 94 #[.slice none 0 0, .func (.func gf) #[] lb] w (NewTableD w xs) := by
  have hKs := hKw.size
  obtain ⟨i0, hi1, hy0, hy1, hy2⟩ := info_parts infoR
  have HI1 := Lib.hid hi1
  have HY0 := Lib.hid hy0
  have HY1 := Lib.hid hy1
  have HY2 := Lib.hid hy2
  have HIT := Lib.hid hit
  have EG := Lib.hid eg
  have HROW := Lib.hid hrow
  clear hi1 hy0 hy1 hy2 hit eg hrow
  refine (callsIn_wide (n := 9)).1 ?_
  refine callsIn_of_wp_marks Try.func94 rfl trivial ?_ rfl
  refine wpIn_wide.2 ?_
  simp only [Try.ntmps94, List.size_toArray, List.length_cons, List.length_nil, Nat.reduceAdd, Nat.reduceSub, Array.replicate_succ, Array.replicate_zero, List.push_toArray, List.append_toArray, List.nil_append, List.cons_append]
  go_wp2_with fail
  obtain ⟨W1, hW1⟩ : ∃ W1 : World, W1 = w.alloc (.cells #[.slice none 0 0] 23) := ⟨_, rfl⟩
  have hz1 : W1.heap.size = w.heap.size + 1 := by rw [hW1]; simp
  have hb1 : Below w.heap.size w W1 := by rw [hW1]; exact (Below.refl _ w).alloc (Nat.le_refl _) _
  have hc1 : Cell1 W1 w.heap.size 23 (.slice none 0 0) := by rw [hW1]; exact Cell1.new _ _ _
  have h0 : Collects w [] (fun k => k = w.heap.size) W1 :=
    ⟨hb1, _, (fun _ => none), (fun _ => 0), hc1, GrowsR.nil W1 (Nat.le_refl _) _ _, fun k => ⟨.inl, fun h => h.elim id (fun h => by rcases h with h | ⟨i, hi, _⟩; cases h; cases hi)⟩⟩
  rw [← hW1]
  clear hW1 hc1
  have hKW := hKw.trans (Lies.of_below (K := K) hb1 (fun k _ hk => Nat.lt_of_lt_of_le (hK1 k hk) hKs))
  refine (wpIn_wide (n := 9)).1 ?_
  refine overOuterS (gf := gf) (lb := lb) rfl EG.out HIT.out hKW hK1 RowGot.size
    (fun k => k = w.heap.size) (fun k hk => ⟨by omega, fun h => by have := hK1 k h; omega⟩)
    (fun pre S W => Collects w pre S W) (fun _ _ _ => False) (Collects.own (by omega)) (fun _ _ _ _ h _ => h) h0 ?hround ?hdone ?hstop
  case hstop => intro _ _ _ _ _ _ h; exact h.elim
  case hdone =>
    rintro D S W hD hS hSD ⟨hb, v, A, C, k1, k2, k3⟩ hKD
    have hsz := hb.size
    have k4 : GrowsR (W.putObj D (.deferred none)) w.heap.size (W.putObj D (.deferred none)).heap.size v A C xs := by
      refine ((k2.keepS (fun k hk => World.putObj_heap_other fun e => hSD ?_) (by simp)).up (by simp) (Nat.le_refl _)).base (by omega)
      rw [← e]; exact (k3 k).2 (.inr hk)
    obtain ⟨T, c, rfl, hl1, hl2, hot⟩ := k4.table
    have e1 := k1.cell
    have hb2 : Below w.heap.size w (W.putObj D (.deferred none)) := hb.trans ⟨rfl, rfl, rfl, by simp, fun k hk => World.putObj_heap_other (by omega)⟩
    have HL2 := Lib.hid hl2
    have HK4 := Lib.hid hot
    clear k4 hot hl2
    go_wp2_with fail
    refine ⟨by simp, .inl ⟨_, _, rfl, run_takeDeferred hKD, ?_⟩⟩
    exact ⟨.slice T xs.length c, by simp [results, Try.results94, go_sem], T, c, rfl, hl1, HL2.out, hb2, HK4.out⟩
  case hround =>
    rintro l pre x post S G v W hx hl1 hl2 hbg hSo hSl hGl ⟨hb, vs, A, C, k1, k2, k3⟩ ⟨b, cb, rfl, hcb1, hcb2, rfl, N, f, hN, hrw, hf⟩ K' hK'
    gi_wp2
    refine hK' _ _ (Below.refl _ W) ?_
    intro W2 ht
    clear hK' K'
    have hs2 := ht.size
    have hmem : x ∈ xs := by rw [hx]; simp
    have hxl := HROW.out x hmem
    have hpl : pre.length + 1 ≤ 65536 := by rw [hx, List.length_append, List.length_cons] at hlen; omega
    have q1 : Cell1 W2 w.heap.size 23 vs := k1.turn ht (by omega)
    have hus : ∀ k, Uses vs A pre k → S k := fun k hk => (k3 k).2 (.inr hk)
    have g2 : GrowsR W2 (w.heap.size + 1) W2.heap.size vs A C pre := (k2.keepS (fun k hk => ht.other fun e => hSl (by rw [← e]; exact hus k hk)) (by omega)).up (by omega) (Nat.le_refl _)
    have hbb := hbg.fresh b rfl
    have hr2 : W2.rowIs b 3 N f := World.rowIs.of_block hrw (ht.other (by intro e; exact hGl e.symm))
    have ho2 : OwnI W2 (w.heap.size + 1) W2.heap.size (some ⟨b, 0, none⟩) x := fun _ => ⟨b, N, f, rfl, by omega, by omega, hr2, hN, hf⟩
    have hap : ¬ Uses vs A pre b := fun h => hbb.2.2 (hus b h)
    have e1 := q1.cell
    have hb2 : Below w.heap.size w W2 := hb.trans (ht.below (by omega))
    have G2 := Lib.hid g2
    have hnb : vs.ownBlock ≠ some w.heap.size := fun e => by have := (g2.uses_lt (.inl e)).1; omega
    have h24 : (pre.length + 1) * 24 ≤ 140737488355328 := by omega
    have hmax : pre.length + 1 ≤ maxLen := by unfold maxLen; omega
    have HMX := Lib.hid hcb2
    have HMC := Lib.hid hcb1
    have HO2 := Lib.hid ho2
    have HAP := Lib.hid hap
    have HUS := Lib.hid hus
    have HB2 := Lib.hid hb2
    have K3 := Lib.hid k3
    have HNB := Lib.hid hnb
    have Q1 := Lib.hid q1
    have HS2 := Lib.hid hs2
    have hlo : w.heap.size + 1 ≤ W2.heap.size := by omega
    have HWL : Hid (w.heap.size < W.heap.size) := by show _ < _; omega
    clear k1 k2 k3 hrw hf hN hcb1 hcb2 hbg hus g2 hr2 ho2 hap hb2 hnb q1 hmem hxl hlen hs2 hx hpl hbb hb h0 hb1 hz1 hSo hSl hGl hl1 hl2 ht
    gi_wp2_with (gi_at_builtin; refine wpListIn_append_own_at _ rfl (.tmp 8) (.tmp 10) _ rfl (w.heap.size + 1) 31 i0 (.slice none 0 0) 1 24 Try.underlying23 HI1.out HY0.out HY1.out HY2.out rfl (by decide) _ _ _ rfl (G2.out.alloc _) ⟨W2.heap.size, 0, none⟩ 1 1 [.slice (some ⟨b, 0, none⟩) x.length cb] rfl rfl ?c1 ?c2 ?c3 ?c4 ?c5 ?_)
    case c1 => exact cell_one_new _ _ _
    case c2 => first | rfl | (intro u hu; simp at hu; subst hu; rfl)
    case c3 => exact hmax
    case c4 => exact h24
    case c5 => simp; omega
    intro v' w5 hown hgrow _ hat
    obtain ⟨gb, cap', rfl⟩ := ownsRow_succ hown
    obtain ⟨A', C', hgr, huse⟩ : ∃ (A' : Nat → Option Addr) (C' : Nat → Nat), GrowsR w5 (w.heap.size + 1) w5.heap.size (.slice (some ⟨gb, 0, none⟩) (pre.length + 1) cap') A' C' (pre ++ [x]) ∧ ∀ k, Uses (.slice (some ⟨gb, 0, none⟩) (pre.length + 1) cap') A' (pre ++ [x]) k → Uses vs A pre k ∨ k = b ∨ W2.heap.size < k :=
      ⟨_, _, G2.out.snocS (l := x) (bn := b) (cn := cb) HO2.out HAP.out HMC.out HMX.out hown hgrow (by rcases hat with e | e; exact .inl e; exact .inr (by first | (rw [e]; done) | (rw [e]; simp)))⟩
    have q5 : Cell1 w5 w.heap.size 23 vs := (Q1.out.alloc _).keep (hgrow.block _ (by simp; omega) (fun e => HNB.out e.symm))
    have e5 := q5.cell
    have f5 := q5.frozen
    have hsz5 := hgrow.size
    simp only [World.size_alloc] at hsz5
    have HGR := Lib.hid hgr
    have HUSE := Lib.hid huse
    have Q5 := Lib.hid q5
    have HGROW := Lib.hid hgrow
    clear hown hgrow hat hgr huse q5
    gi_wp2
    have hb5 : Below w.heap.size w w5 := (HB2.out.alloc (by omega) _).grown HGROW.out (by simp; omega) (fun k hk => by have := (G2.out.uses_lt (.inl hk)).1; omega)
    refine ⟨fun k => k = w.heap.size ∨ Uses (.slice (some ⟨gb, 0, none⟩) (pre.length + 1) cap') A' (pre ++ [x]) k, ⟨fun k hk => ?_, fun k hk => ?_⟩, ⟨hb5.setCell (Nat.le_refl _) _, _, A', C', Q5.out.set _, ?_, fun k => Iff.rfl⟩, ?_⟩
    · rcases hk with rfl | hk
      · exact .inl ((K3.out _).2 (.inl rfl))
      · rcases HUSE.out k hk with h | h | h
        · exact .inl (HUS.out k h)
        · exact .inr (.inl h)
        · right; right; have := HS2.out; omega
    · simp only [World.setCell, Array.size_modify]
      rcases hk with rfl | hk
      · omega
      · exact (HGR.out.uses_lt hk).2
    · refine (HGR.out.keepS (fun k hk => Below.heap_setCell _ _ _ _ ?_) (by simp [World.setCell])).up (by simp [World.setCell]) (Nat.le_refl _)
      have := (HGR.out.uses_lt hk).1; show k ≠ w.heap.size; omega
    · refine ((Lies.alloc _ _).trans (Lies.grown HGROW.out (fun k hk h => h.2.1 (HUS.out k (.inl hk))))).trans (Lies.setCell _ _ _ (fun h => h.2.1 ((K3.out _).2 (.inl rfl))))

set_option maxHeartbeats 1000000 in
theorem collectG (gf : Nat) (lb : Array Value) (xs : List (List Int)) (K : Nat → Prop) (w0 w : World) (hit : IterS Try.prog gf lb RowGot xs K w0) (eg : ∀ args w, (callFunc gf args).run Try.prog w = .ok (.enter gf args) w)
    (hKw : Lies K w0 w) (hK1 : ∀ k, K k → k < w0.heap.size) (hlen : xs.length ≤ 65536) (hrow : ∀ x, x ∈ xs → 0 < x.length ∧ x.length ≤ 65536) :
    Calls Try.prog 61 #[.func (.func gf) #[] lb] w (NewTableD w xs) := by
  have HA := Lib.hid (fun w' (hb : Below w.heap.size w w') => appendSeqG gf lb xs K w0 w' hit eg (hKw.trans (Lies.of_below hb (fun k h _ => h))) hK1 hlen hrow)
  clear hit eg hKw hK1 hlen hrow
  go_enter Try.func61, Try.ntmps61
  go_wp2_with (go_at_call 94; refine (HA.out _ (by repeat (first | exact Below.refl _ _ | assumption | exact bel1 (by assumption) | exact bel2 (by assumption) | exact bel3 (by assumption) | exact bel4 (by assumption) | refine Below.drew ?_ | refine below_drewN ?_ _ | refine Below.setCell ?_ (by first | (simp; done) | (simp; omega)) _ | refine Below.alloc ?_ (by first | (simp; done) | (simp; omega)) _))).mono ?_; rintro e w1 ⟨T, c, rfl, h1, h2, h3, h4⟩)
  go_ret
  exact ⟨T, c, rfl, h1, h2, h3, h4⟩

end Go.Proofs.Ytanfefgigepdcaa

namespace Go.Proofs.Ytanfefgigepdcaa
set_option linter.unusedSimpArgs false
set_option linter.unusedVariables false
open Go.RowKit



end Go.Proofs.Ytanfefgigepdcaa

namespace Go.Proofs.Ytanfefgigepdcaa
set_option linter.unusedSimpArgs false
set_option linter.unusedVariables false
open Go.RowKit Go.Shelf

attribute [local go_sem] Oper.semAt_some

theorem IntRow.poke {W : World} {b : Nat} {l : List Int} (h : IntRow W b l) (k : Nat) (x : Int) : IntRow (W.setCell ⟨b, k, none⟩ (.int .i64 x)) b (l.set k x) := by
  show World.rowIs _ _ _ _ _
  rw [List.length_set]
  refine (World.rowIs.set h k _).congr fun i hi => ?_
  rw [nth_setk _ _ _ _ hi]
  by_cases e : i = k
  · rw [if_pos e, if_pos e]
  · rw [if_neg e, if_neg e]

/-- a plan, in a row that was made ahead; where it lies stands in a box -/
structure Plans (w : World) (rb bb : Nat) (l : List Int) (S : Nat → Prop) (W : World) : Prop where
  bel : Below w.heap.size w W
  row : IntRow W rb l
  box : Cell1 W bb 31 (.slice (some ⟨rb, 0, none⟩) l.length l.length)
  only : ∀ k, S k ↔ k = rb

theorem Plans.own {w : World} {rb bb B : Nat} {f : List Int → List Int} (hB : w.heap.size ≤ B) (hb : bb < B) : Own1 B (fun pre S W => Plans w rb bb (f pre) S W) := by
  intro pre S W W' h hl
  exact ⟨h.bel.trans (hl.below h.bel.size fun k hk => .inl (by omega)), World.rowIs.of_block h.row (hl.block _ (World.rowIs.lt h.row) (.inr ((h.only _).2 rfl))), h.box.keep (hl.block _ h.box.lt (.inl hb)), h.only⟩

theorem Plans.done {w : World} {rb bb D : Nat} {l : List Int} {S : Nat → Prop} {W : World} (h : Plans w rb bb l S W) (hrb : w.heap.size ≤ rb) (hD : w.heap.size ≤ D) (hSD : ¬ S D) (x : Obj) :
    NewList w l (.returned (.slice (some ⟨rb, 0, none⟩) l.length l.length)) (W.putObj D x) := by
  have hne : rb ≠ D := fun e => hSD (by rw [← e]; exact (h.only _).2 rfl)
  have hr := World.rowIs.of_block h.row (World.putObj_heap_other (w := W) (r := D) (o := x) hne)
  exact ⟨_, _, rfl, h.bel.trans ⟨rfl, rfl, rfl, by simp, fun k hk => World.putObj_heap_other (by omega)⟩, fun _ => ⟨rb, l.length, _, rfl, hrb, World.rowIs.lt hr, hr, Nat.le_refl _, fun _ _ => rfl⟩⟩

end Go.Proofs.Ytanfefgigepdcaa
