/- Texts in one: Gather, Sorted. -/
import Derived.Test.YtcminkifdbdaaaaML
import Derived.Test.YtcminkifdbdaaaaMC
import Derived.Test.YtcminkifdbdaaaaSort
import Derived.RangeFuncBox
import Derived.Maps.OwnIn
import Derived.Maps.AppendAt
namespace Go.Proofs.Ytcminkifdbdaaaa
set_option linter.unusedSimpArgs false
set_option linter.unusedVariables false
open Go.RowKit Go.Shelf

attribute [local go_sem] Oper.semAt_some

/-- what AppendSeq keeps between two rounds: its variable in block w.heap.size, the numbers from there on -/
structure Gathers (w : World) (pre : List Int) (S : Nat → Prop) (W : World) : Prop where
  bel : Below w.heap.size w W
  ex : ∃ v : Value, Cell1 W w.heap.size 23 v ∧ Grows W (w.heap.size + 1) v pre ∧ (∀ k, S k ↔ k = w.heap.size ∨ v.ownBlock = some k)

theorem Gathers.own {w : World} {B : Nat} (hB : w.heap.size ≤ B) : Own1 B (fun pre S W => Gathers w pre S W) := by
  intro pre S W W' ⟨hb, v, h1, h2, h3⟩ hl
  exact ⟨hb.trans (hl.below hb.size fun k hk => .inl (by omega)), v, h1.keep (hl.block _ h1.lt (.inr ((h3 _).2 (.inl rfl)))), ownsRow_of_block h2 fun k hk => hl.block k (World.ownsRow.lt h2 k hk).2 (.inr ((h3 k).2 (.inr hk))), h3⟩

/-- a list of the call's own that lies in a block of its own, its capacity told -/
def NewListD (w : World) (l : List Int) (e : Ending) (w' : World) : Prop :=
  ∃ (v : Value), e = .returned v ∧ Below w.heap.size w w' ∧ Grows w' w.heap.size v l

theorem Grows.lowerN {w : World} {base base' : Nat} {v : Value} {l : List Int} (h : Grows w base v l) (hb : base' ≤ base) : Grows w base' v l := by
  obtain ⟨h1, h2 | ⟨b, cap, cur, h3, h4, h5⟩⟩ := h
  · exact ⟨h1, .inl h2⟩
  · exact ⟨h1, .inr ⟨b, cap, cur, h3, Nat.le_trans hb h4, h5⟩⟩

set_option maxRecDepth 100000 in
set_option maxHeartbeats 2000000 in
theorem appendSeqN (gf : Nat) (lb : Array Value) (xs : List Int) (K : Nat → Prop) (w0 w : World) (hit : IterS Try.prog gf lb IntGiven xs K w0) (eg : ∀ args w, (callFunc gf args).run Try.prog w = .ok (.enter gf args) w)
    (hKw : Lies K w0 w) (hK1 : ∀ k, K k → k < w0.heap.size) (hlen : xs.length ≤ 65536) :
    Calls Try.prog 101 #[.slice none 0 0, .func (.func gf) #[] lb] w (NewListD w xs) := by
  have hKs := hKw.size
  obtain ⟨i0, hi1, hy0, hy1, hy2⟩ := info_parts infoI
  have HI1 := Lib.hid hi1
  have HY0 := Lib.hid hy0
  have HY1 := Lib.hid hy1
  have HY2 := Lib.hid hy2
  have HIT := Lib.hid hit
  have EG := Lib.hid eg
  clear hi1 hy0 hy1 hy2 hit eg
  refine (callsIn_wide (n := 9)).1 ?_
  refine callsIn_of_wp_marks Try.func101 rfl trivial ?_ rfl
  refine wpIn_wide.2 ?_
  simp only [Try.ntmps101, List.size_toArray, List.length_cons, List.length_nil, Nat.reduceAdd, Nat.reduceSub, Array.replicate_succ, Array.replicate_zero, List.push_toArray, List.append_toArray, List.nil_append, List.cons_append]
  go_wp2_with fail
  obtain ⟨W1, hW1⟩ : ∃ W1 : World, W1 = w.alloc (.cells #[.slice none 0 0] 23) := ⟨_, rfl⟩
  have hz1 : W1.heap.size = w.heap.size + 1 := by rw [hW1]; simp
  have hb1 : Below w.heap.size w W1 := by rw [hW1]; exact (Below.refl _ w).alloc (Nat.le_refl _) _
  have hc1 : Cell1 W1 w.heap.size 23 (.slice none 0 0) := by rw [hW1]; exact Cell1.new _ _ _
  have h0 : Gathers w [] (fun k => k = w.heap.size) W1 :=
    ⟨hb1, _, hc1, Grows.nil W1 _, fun k => ⟨.inl, fun h => h.elim id (fun h => by cases h)⟩⟩
  rw [← hW1]
  clear hW1 hc1
  have hKW := hKw.trans (Lies.of_below (K := K) hb1 (fun k _ hk => Nat.lt_of_lt_of_le (hK1 k hk) hKs))
  refine (wpIn_wide (n := 9)).1 ?_
  refine overOuterS (gf := gf) (lb := lb) rfl EG.out HIT.out hKW hK1 IntGiven.size
    (fun k => k = w.heap.size) (fun k hk => ⟨by omega, fun h => by have := hK1 k h; omega⟩)
    (fun pre S W => Gathers w pre S W) (fun _ _ _ => False) (Gathers.own (by omega)) (fun _ _ _ _ h _ => h) h0 ?hround ?hdone ?hstop
  case hstop => intro _ _ _ _ _ _ h; exact h.elim
  case hdone =>
    rintro D S W hD hS hSD ⟨hb, v, k1, k2, k3⟩ hKD
    have hsz := hb.size
    have k4 : Grows (W.putObj D (.deferred none)) w.heap.size v xs := by
      refine Grows.lowerN (ownsRow_of_block k2 fun k hk => World.putObj_heap_other fun e => hSD ?_) (by omega)
      rw [← e]; exact (k3 k).2 (.inr hk)
    have e1 := k1.cell
    have hb2 : Below w.heap.size w (W.putObj D (.deferred none)) := hb.trans ⟨rfl, rfl, rfl, by simp, fun k hk => World.putObj_heap_other (by omega)⟩
    have HK4 := Lib.hid k4
    clear k4 k2
    go_wp2_with fail
    refine ⟨by simp, .inl ⟨_, _, rfl, run_takeDeferred hKD, ?_⟩⟩
    exact ⟨v, by simp [results, Try.results101, go_sem], v, rfl, hb2, HK4.out⟩
  case hround =>
    rintro l pre x post S G v W hx hl1 hl2 hbg hSo hSl hGl ⟨hb, vs, k1, k2, k3⟩ ⟨rfl, rfl⟩ K' hK'
    gi_wp2
    refine hK' _ _ (Below.refl _ W) ?_
    intro W2 ht
    clear hK' K'
    have hs2 := ht.size
    have hpl : pre.length + 1 ≤ 65536 := by rw [hx, List.length_append, List.length_cons] at hlen; omega
    have q1 : Cell1 W2 w.heap.size 23 vs := k1.turn ht (by omega)
    have hus : ∀ k, vs.ownBlock = some k → S k := fun k hk => (k3 k).2 (.inr hk)
    have g2 : Grows W2 (w.heap.size + 1) vs pre := ownsRow_of_block k2 fun k hk => ht.other fun e => hSl (by rw [← e]; exact hus k hk)
    have e1 := q1.cell
    have hb2 : Below w.heap.size w W2 := hb.trans (ht.below (by omega))
    have G2 := Lib.hid g2
    have hnb : vs.ownBlock ≠ some w.heap.size := fun e => by have := (World.ownsRow.lt g2 _ e).1; omega
    have h24 : (pre.length + 1) * 8 ≤ 140737488355328 := by omega
    have hmax : pre.length + 1 ≤ maxLen := by unfold maxLen; omega
    have HUS := Lib.hid hus
    have HB2 := Lib.hid hb2
    have K3 := Lib.hid k3
    have HNB := Lib.hid hnb
    have Q1 := Lib.hid q1
    have HS2 := Lib.hid hs2
    have hlo : w.heap.size + 1 ≤ W2.heap.size := by omega
    have HWL : Hid (w.heap.size < W.heap.size) := by show _ < _; omega
    clear k1 k2 k3 hbg hus g2 hb2 hnb q1 hlen hs2 hx hpl hb h0 hb1 hz1 hSo hSl hGl hl1 hl2 ht
    gi_wp2_with (gi_at_builtin; refine wpListIn_append_own_at _ rfl (.tmp 8) (.tmp 10) _ rfl (w.heap.size + 1) 3 i0 (.int .i64 0) 1 8 Try.underlying23 HI1.out HY0.out HY1.out HY2.out rfl (by decide) _ _ _ rfl (G2.out.alloc _) ⟨W2.heap.size, 0, none⟩ 1 1 [.int .i64 x] rfl rfl ?c1 ?c2 ?c3 ?c4 ?c5 ?_)
    case c1 => exact cell_one_new _ _ _
    case c2 => first | rfl | (intro u hu; simp at hu; subst hu; rfl)
    case c3 => exact hmax
    case c4 => exact h24
    case c5 => simp; omega
    intro v' w5 hown hgrow _ hat
    have hgr : Grows w5 (w.heap.size + 1) v' (pre ++ [x]) := Grows.snoc hown
    have hat' : v'.ownBlock = vs.ownBlock ∨ v'.ownBlock = some (W2.heap.size + 1) := by rcases hat with e | e; exact .inl e; exact .inr (by first | (rw [e]; done) | (rw [e]; simp))
    obtain ⟨gb, cap', rfl⟩ := ownsRow_succ hown
    have q5 : Cell1 w5 w.heap.size 23 vs := (Q1.out.alloc _).keep (hgrow.block _ (by simp; omega) (fun e => HNB.out e.symm))
    have e5 := q5.cell
    have f5 := q5.frozen
    have hsz5 := hgrow.size
    simp only [World.size_alloc] at hsz5
    have HGR := Lib.hid hgr
    have HAT := Lib.hid hat'
    have Q5 := Lib.hid q5
    have HGROW := Lib.hid hgrow
    clear hown hgrow hat hat' hgr q5
    gi_wp2
    have hb5 : Below w.heap.size w w5 := (HB2.out.alloc (by omega) _).grown HGROW.out (by simp; omega) (fun k hk => by have := (World.ownsRow.lt G2.out k hk).1; omega)
    refine ⟨fun k => k = w.heap.size ∨ (Value.slice (some ⟨gb, 0, none⟩) (pre.length + 1) cap').ownBlock = some k, ⟨fun k hk => ?_, fun k hk => ?_⟩, ⟨hb5.setCell (Nat.le_refl _) _, _, Q5.out.set _, ?_, fun k => Iff.rfl⟩, ?_⟩
    · rcases hk with rfl | hk
      · exact .inl ((K3.out _).2 (.inl rfl))
      · rcases HAT.out with e | e
        · rw [e] at hk; exact .inl (HUS.out k hk)
        · rw [e] at hk; injection hk with hk
          right; right; have := HS2.out; omega
    · simp only [World.setCell, Array.size_modify]
      rcases hk with rfl | hk
      · omega
      · exact (World.ownsRow.lt HGR.out k hk).2
    · refine ownsRow_of_block HGR.out fun k hk => Below.heap_setCell _ _ _ _ ?_
      have := (World.ownsRow.lt HGR.out k hk).1; show k ≠ w.heap.size; omega
    · refine ((Lies.alloc _ _).trans (Lies.grown HGROW.out (fun k hk h => h.2.1 (HUS.out k hk)))).trans (Lies.setCell _ _ _ (fun h => h.2.1 ((K3.out _).2 (.inl rfl))))

set_option maxHeartbeats 1000000 in
theorem collectN (gf : Nat) (lb : Array Value) (xs : List Int) (K : Nat → Prop) (w0 w : World) (hit : IterS Try.prog gf lb IntGiven xs K w0) (eg : ∀ args w, (callFunc gf args).run Try.prog w = .ok (.enter gf args) w)
    (hKw : Lies K w0 w) (hK1 : ∀ k, K k → k < w0.heap.size) (hlen : xs.length ≤ 65536) :
    Calls Try.prog 84 #[.func (.func gf) #[] lb] w (NewListD w xs) := by
  have HA := Lib.hid (fun w' (hb : Below w.heap.size w w') => appendSeqN gf lb xs K w0 w' hit eg (hKw.trans (Lies.of_below hb (fun k h _ => Nat.lt_of_lt_of_le (hK1 k ‹_›) hKw.size))) hK1 hlen)
  clear hit eg hKw hK1 hlen
  go_enter Try.func84, Try.ntmps84
  go_wp2_with (go_at_call 101; refine (HA.out _ (by repeat (first | exact Below.refl _ _ | assumption | exact bel1 (by assumption) | exact bel2 (by assumption) | exact bel3 (by assumption) | exact bel4 (by assumption) | refine Below.drew ?_ | refine below_drewN ?_ _ | refine Below.setCell ?_ (by first | (simp; done) | (simp; omega)) _ | refine Below.alloc ?_ (by first | (simp; done) | (simp; omega)) _))).mono ?_; rintro e w1 ⟨v, rfl, h1, h2⟩)
  go_ret
  exact ⟨v, rfl, h1, h2⟩

end Go.Proofs.Ytcminkifdbdaaaa

namespace Go.Proofs.Ytcminkifdbdaaaa
set_option linter.unusedSimpArgs false
set_option linter.unusedVariables false
open Go.RowKit Go.Shelf Go.Sort

attribute [local go_sem] Oper.semAt_some

/-- the numbers of a list in ascending order -/
def srtL (l : List Int) : List Int := l.mergeSort fun x y => decide (x ≤ y)

theorem srtL_length (l : List Int) : (srtL l).length = l.length := by unfold srtL; exact List.length_mergeSort l

theorem putRow_heap_other (w : World) (b off q : Nat) (d : Array Int) (os : Array Obj) {k : Nat} (hk : k < w.heap.size) (hb : k ≠ b) : (grow (putRow (Value.int .i64) (Sort.ahead w q) b off d) os).heap[k]? = w.heap[k]? := by
  rw [heap_grow_old _ _ (by rw [size_putRow]; exact hk)]
  unfold putRow mapBlock Sort.ahead
  rw [Array.getElem?_modify, if_neg (fun e => hb e.symm)]

theorem putRow_heap_same (w : World) (b off q : Nat) (d : Array Int) (os : Array Obj) {c : Array Value} {t : TypeId} {fr : Nat × Nat} (hb : w.heap[b]? = some (.cells c t fr)) :
    (grow (putRow (Value.int .i64) (Sort.ahead w q) b off d) os).heap[b]? = some (.cells (putCells (Value.int .i64) off d c) t fr) := by
  have hlt := (Array.getElem?_eq_some_iff.1 hb).1
  rw [heap_grow_old _ _ (by rw [size_putRow]; exact hlt)]
  unfold putRow mapBlock Sort.ahead
  rw [Array.getElem?_modify, if_pos rfl, hb]; rfl

theorem grows_sorted {w : World} {base b n cap q : Nat} {l : List Int} {os : Array Obj} (h : Grows w base (.slice (some ⟨b, 0, none⟩) n cap) l) :
    OwnI (grow (putRow (Value.int .i64) (Sort.ahead w q) b 0 (srtL l).toArray) os) base (grow (putRow (Value.int .i64) (Sort.ahead w q) b 0 (srtL l).toArray) os).heap.size (some ⟨b, 0, none⟩) (srtL l) ∧
      Below base w (grow (putRow (Value.int .i64) (Sort.ahead w q) b 0 (srtL l).toArray) os) := by
  have hlt := World.ownsRow.lt h b rfl
  obtain ⟨h1, ⟨h2, _⟩ | ⟨b', cap', cur, e, h3, h4, h5, h6, h7, h8⟩⟩ := h
  · cases h2
  · injection e with e1 e2 e3
    injection e1 with e1
    injection e1 with e1
    subst e1
    refine ⟨fun h0 => ⟨b, cap', fun i => (putCells (Value.int .i64) 0 (srtL l).toArray cur).getD i undef, rfl, h3, ?_, ⟨_, putRow_heap_same w b 0 q _ os h4, ?_, fun i hi => ?_⟩, ?_, fun i hi => ?_⟩, ⟨rfl, rfl, rfl, ?_, fun k hk => putRow_heap_other w b 0 q _ os (by omega) (by omega)⟩⟩
    · rw [size_grow, size_putRow]; have := hlt.2; show b < w.heap.size + _; omega
    · unfold putCells; rw [Array.size_mapIdx]; omega
    · have : i < (putCells (Value.int .i64) 0 (srtL l).toArray cur).size := by unfold putCells; rw [Array.size_mapIdx]; omega
      simp [this]
    · rw [srtL_length]; omega
    · have hl := srtL_length l
      have hc : i < cur.size := by omega
      have hp : (putCells (Value.int .i64) 0 (srtL l).toArray cur)[i]? = some (.int .i64 (nth (srtL l) i)) := by
        unfold putCells
        rw [Array.getElem?_mapIdx, Array.getElem?_eq_getElem hc, Option.map_some, if_pos ⟨by omega, by rw [List.size_toArray]; omega⟩, nth_eq _ _ hi]
        simp [hi]
      simp [Array.getD_eq_getD_getElem?, hp]
    · rw [size_grow, size_putRow]; show w.heap.size ≤ w.heap.size + _; omega

theorem grows_holds {w : World} {base b n cap : Nat} {l : List Int} (h : Grows w base (.slice (some ⟨b, 0, none⟩) n cap) l) : Holds (Value.int .i64) w b 0 l.toArray ∧ b < w.heap.size ∧ n = l.length := by
  have hlt := World.ownsRow.lt h b rfl
  obtain ⟨h1, ⟨h2, _⟩ | ⟨b', cap', cur, e, h3, h4, h5, h6, h7, h8⟩⟩ := h
  · cases h2
  · injection e with e1 e2 e3
    injection e1 with e1
    injection e1 with e1
    subst e1
    refine ⟨fun j hj => ?_, hlt.2, e2⟩
    rw [List.size_toArray] at hj
    have e := vals_get l j hj
    rw [← h8, List.getElem?_take, if_pos (by omega)] at e
    have e' : cur[j]? = some (.int .i64 (nth l j)) := by simpa using e
    have hn : l.toArray[j]! = nth l j := by rw [nth_eq _ _ hj]; simp [hj]
    rw [hn]
    refine ⟨?_, ?_⟩
    · simp [World.cell?, h4, e']
    · simp [World.frozen?, h4]

set_option maxHeartbeats 1000000 in
theorem sortedN (gf : Nat) (lb : Array Value) (xs : List Int) (K : Nat → Prop) (w0 w : World) (hit : IterS Try.prog gf lb IntGiven xs K w0) (eg : ∀ args w, (callFunc gf args).run Try.prog w = .ok (.enter gf args) w)
    (hKw : Lies K w0 w) (hK1 : ∀ k, K k → k < w0.heap.size) (hlen : xs.length ≤ 65536) :
    Calls Try.prog 57 #[.func (.func gf) #[] lb] w (NewList w (srtL xs)) := by
  have HA := Lib.hid (fun w' (hb : Below w.heap.size w w') => collectN gf lb xs K w0 w' hit eg (hKw.trans (Lies.of_below hb (fun k h _ => Nat.lt_of_lt_of_le (hK1 k ‹_›) hKw.size))) hK1 hlen)
  have HLEN := Lib.hid hlen
  clear hit eg hKw hK1 hlen
  go_enter Try.func57, Try.ntmps57
  go_wp2_with (go_at_call 84; refine (HA.out _ (by repeat (first | exact Below.refl _ _ | assumption | exact bel1 (by assumption) | exact bel2 (by assumption) | exact bel3 (by assumption) | exact bel4 (by assumption) | refine Below.drew ?_ | refine below_drewN ?_ _ | refine Below.setCell ?_ (by first | (simp; done) | (simp; omega)) _ | refine Below.alloc ?_ (by first | (simp; done) | (simp; omega)) _))).mono ?_; rintro e w1 ⟨v, rfl, hb1, hg1⟩)
  have HG := Lib.hid hg1
  have HB := Lib.hid hb1
  by_cases h0 : xs = []
  · subst h0
    obtain ⟨A, c, rfl, hc, _⟩ := hg1.own
    clear hb1 hg1
    go_wp2_with (go_at_call 85; refine (Try.slices_Sort_int_none _ _ _).mono ?_; rintro e w2 ⟨rfl, rfl⟩)
    go_ret
    exact ⟨A, c, by simp [srtL], HB.out, fun h => absurd h (by simp [srtL])⟩
  · obtain ⟨x, ys, rfl⟩ : ∃ x ys, xs = x :: ys := by cases xs with | nil => exact absurd rfl h0 | cons x ys => exact ⟨x, ys, rfl⟩
    obtain ⟨b, cap, rfl⟩ := ownsRow_succ hg1
    obtain ⟨g1, g2, -⟩ := grows_holds hg1
    have HS := Lib.hid (Try.slices_Sort_int b 0 cap (x :: ys) w1 g1 g2 (by have := HLEN.out; omega))
    clear hb1 hg1 g1 g2 h0
    go_wp2_with (go_at_call 85; refine HS.out.mono ?_; rintro e w2 ⟨rfl, q, os, hw2⟩; have kk := grows_sorted (q := q) (os := os) HG.out; rw [← show w2 = grow (putRow (Value.int .i64) (Sort.ahead w1 q) b 0 (srtL (x :: ys)).toArray) os from hw2] at kk; have KK := Lib.hid kk; clear hw2 kk)
    go_ret
    exact ⟨some ⟨b, 0, none⟩, cap, by rw [srtL_length]; simp, HB.out.trans KK.out.2, KK.out.1⟩

end Go.Proofs.Ytcminkifdbdaaaa
