/- Texts in one: DrawTn, DrawTo. -/
import Derived.Lib.AppendZeros
import Derived.Test.YtcminkifdbdaaaaMH
import Derived.Test.YtcminkifdbdaaaaNC
import Derived.Test.YtcminkifdbdaaaaND
namespace Go.Proofs.Ytcminkifdbdaaaa
set_option linter.unusedSimpArgs false
set_option linter.unusedVariables false
open Go.RowKit

/-- a drawn town, from a reader on -/
def DrawnTR (n : Nat) (w : World) (e : Ending) (w' : World) : Prop :=
  ∃ (P : Int) (A : Option Addr) (c : Nat) (l : List Int), e = .returned (twnV P A l.length c) ∧ (0 ≤ P ∧ P ≤ 5) ∧ (l.length ≤ 9 ∧ ∀ z, z ∈ l → 0 ≤ z ∧ z ≤ 99) ∧ l.length ≤ c ∧ Kept n w w' ∧ OwnI w' w.heap.size w'.heap.size A l

/-- a town that is drawn: its block, the reader, all else as it was -/
structure TwR (n : Nat) (w : World) (b : Nat) (P : Int) (l : List Int) (a : Option Addr) (len cap : Nat) (zs : List Int) (q : Int) (V : World) : Prop where
  kept : Kept n w V
  rd : Reader n V a len cap zs q
  row : ∃ v, V.rowIs b 25 2 (fun i => (#[.int .i64 P, v] : Array Value).getD i undef) ∧ Grows V (b + 1) v l
  lt : b < V.heap.size
  res : ∃ f, V.rowIs w.heap.size 25 2 f

theorem TwR.pick {n b : Nat} {w V V' : World} {P : Int} {l : List Int} {a : Option Addr} {len cap : Nat} {zs : List Int} {q q' : Int} (h : TwR n w b P l a len cap zs q V) (hn : b ≠ n) (hnw : n < w.heap.size) (hwb : w.heap.size < b) (k : Kept n V V') (r : Reader n V' a len cap zs q') : TwR n w b P l a len cap zs q' V' := by
  have hlt := h.lt
  obtain ⟨v, hw, hg⟩ := h.row
  exact ⟨h.kept.trans k, r, ⟨v, hw.of_block (k.block b h.lt hn), hg.kept k (by omega)⟩, Nat.lt_of_lt_of_le h.lt k.size, h.res.elim fun f hf => ⟨f, hf.of_block (k.block _ (by omega) (by omega))⟩⟩

theorem TwR.more {n b : Nat} {w V V' : World} {P : Int} {l : List Int} {a : Option Addr} {len cap : Nat} {zs : List Int} {q q' : Int} (h : TwR n w b P l a len cap zs q V) (hn : b ≠ n) (hnw : n < w.heap.size) (hwb : w.heap.size < b) (hb : Below V.heap.size V V') (hq : q' = q) : TwR n w b P l a len cap zs q' V' := by
  subst hq; exact h.pick hn hnw hwb (Kept.of_below hb) (h.rd.of_below hb)

/-- a street put behind them -/
theorem TwR.app {n b : Nat} {w V V4 : World} {P : Int} {l : List Int} {a : Option Addr} {len cap : Nat} {zs : List Int} {q z : Int} {v v' : Value} {o : Obj} (h : TwR n w b P l a len cap zs q V) (hnb : n < b) (hwb : w.heap.size < b)
    (hr : V.rowIs b 25 2 (fun i => (#[.int .i64 P, v] : Array Value).getD i undef)) (hv : Grows V (b + 1) v l) (hg : (V.alloc o).grownBy V4 v.ownBlock) (ho : Grows V4 (b + 1) v' (l ++ [z])) : TwR n w b P (l ++ [z]) a len cap zs q (V4.setCell ⟨b, 1, none⟩ v') := by
  have hlo := hv.lo
  have hlt := h.lt
  have far : ∀ k, k < V.heap.size → k ≤ b → V4.heap[k]? = V.heap[k]? := fun k hk hkb => by
    rw [hg.block k (by simp; omega) (fun e => by have := hlo k e.symm; omega), Below.heap_alloc _ _ _ (by omega)]
  have hs : V.heap.size ≤ V4.heap.size := Nat.le_trans (by simp) hg.size
  obtain ⟨f, hf⟩ := h.res
  refine ⟨(h.kept.appended hg (fun k hk => by have := hlo k hk; omega)).setNew (q := ⟨b, 1, none⟩) (by show w.heap.size ≤ b; omega) _, (h.rd.appended hg (fun k hk => by have := hlo k hk; omega)).setFar (q := ⟨b, 1, none⟩) hnb _,
    ⟨v', ?_, ownsRow_of_block ho fun k hk => Below.heap_setCell _ _ _ _ (by have := (World.ownsRow.lt ho k hk).1; show k ≠ b; omega)⟩, by simpa [World.setCell] using Nat.lt_of_lt_of_le hlt hs, f, (hf.of_block (far _ (by omega) (by omega))).setOther (by show w.heap.size ≠ b; omega) _⟩
  refine World.rowIs.congr ((hr.of_block (far b hlt (Nat.le_refl _))).set 1 v') fun i hi => ?_
  have : i = 0 ∨ i = 1 := by omega
  rcases this with rfl | rfl <;> rfl

/-- other streets, stored in the town's block -/
theorem TwR.put {n b : Nat} {w V : World} {P : Int} {l l' : List Int} {a : Option Addr} {len cap : Nat} {zs : List Int} {q : Int} {v' : Value} (h : TwR n w b P l a len cap zs q V) (hnb : n < b) (hwb : w.heap.size < b) (hv : Grows V (b + 1) v' l') : TwR n w b P l' a len cap zs q (V.setCell ⟨b, 1, none⟩ v') := by
  have hlt := h.lt
  obtain ⟨f, hf⟩ := h.res
  obtain ⟨v, hr, _⟩ := h.row
  refine ⟨h.kept.setNew (q := ⟨b, 1, none⟩) (by show w.heap.size ≤ b; omega) _, h.rd.setFar (q := ⟨b, 1, none⟩) hnb _,
    ⟨v', ?_, ownsRow_of_block hv fun k hk => Below.heap_setCell _ _ _ _ (by have := (World.ownsRow.lt hv k hk).1; show k ≠ b; omega)⟩, by simpa [World.setCell] using hlt, f, hf.setOther (by show w.heap.size ≠ b; omega) _⟩
  refine World.rowIs.congr (hr.set 1 v') fun i hi => ?_
  have : i = 0 ∨ i = 1 := by omega
  rcases this with rfl | rfl <;> rfl

theorem grows_one (w : World) {base : Nat} (hb : base ≤ w.heap.size) (x : Int) : Grows (w.alloc (.cells #[.int .i64 x] 3)) base (.slice (some ⟨w.heap.size, 0, none⟩) 1 1) [x] :=
  ⟨rfl, .inr ⟨w.heap.size, 1, #[.int .i64 x], rfl, hb, by unfold World.alloc; simp, Nat.le_refl _, by unfold maxLen; omega, rfl, rfl⟩⟩

/-- append of a list to a list of the call's own, whatever the list -/
theorem run_append_list (ty : TypeId) (base b n cap : Nat) (l F : List Int) (w : World) (hg : Grows w base (.slice (some ⟨b, 0, none⟩) n cap) l) (S : Nat → Prop) (Ax : Option Addr) (m c2 : Nat) (hm : F.length = m) (hI : Ints w S Ax F) (hlen : n + m ≤ 1000000) (hbase : base ≤ w.heap.size) :
    ∃ b' cap' w', (Builtin.append_ #[23, 23] ty #[.slice (some ⟨b, 0, none⟩) n cap, .slice Ax m c2]).run Try.prog w = .ok (.slice (some ⟨b', 0, none⟩) (n + m) cap') w' ∧ Grows w' base (.slice (some ⟨b', 0, none⟩) (n + m) cap') (l ++ F) ∧ w.grownBy w' (some b) := by
  obtain ⟨i0, hi0, hz0, hz1, hz2⟩ := info_parts infoI
  obtain ⟨hcap, hln⟩ := grows_cap hg
  cases Ax with
  | none =>
    have h0 : F.length = 0 := by
      rcases Nat.eq_zero_or_pos F.length with e | e
      · exact e
      · obtain ⟨_, _, e', _⟩ := hI e; cases e'
    have hF : F = [] := List.eq_nil_of_length_eq_zero h0
    subst hF
    have hm0 : m = 0 := by rw [← hm]; rfl
    subst hm0
    refine ⟨b, cap, w, ?_, by simpa using hg, World.grownBy.refl w _⟩
    simp [Builtin.append_, run_underlying Try.underlying23, sizeOf, typeInfo, hi0, Builtin.lenOf, Builtin.firstCells, loadCells, loadCellsFrom, storeCells, hcap]
  | some ad =>
    have hnews : ∀ j u, (vals F)[j]? = some u → w.cell? (ad.add j) = some u := by
      rcases Nat.eq_zero_or_pos F.length with e | e
      · intro j u hj
        have : F = [] := List.eq_nil_of_length_eq_zero e
        subst this; simp [vals] at hj
      · obtain ⟨b', off, e', hS, hc⟩ := hI e
        injection e' with e'; subst e'
        exact news_of hc
    have hg' : w.ownsRow base 3 1 (.slice (some ⟨b, 0, none⟩) n cap) n (vals l) := by rw [← hln]; rw [← hln] at hg; exact hg
    obtain ⟨v', w', hr, h2, h3, h4, _⟩ := run_append_own_at (P := Try.prog) w base 23 ty 3 i0 (.int .i64 0) 1 8 Try.underlying23 hi0 hz0 hz1 hz2 rfl (by decide) _ n (vals l) hg' ad m c2 (vals F) (by rw [vals_length]; omega) hnews vals_one (by unfold maxLen; omega) (by omega) hbase
    have hg6 : Grows w' base v' (l ++ F) := by
      show World.ownsRow _ _ _ _ _ _ _
      rw [List.length_append, hln, hm, show vals (l ++ F) = vals l ++ vals F from by simp [vals]]
      exact h2
    obtain ⟨k1, ⟨k2, k3⟩ | ⟨g, cp, cur, k2, k3⟩⟩ := h2
    · have := h4.1 k2; cases this.1
    · subst k2
      exact ⟨g, cp, w', hr, hg6, h3⟩

/-- the town's block, behind the append -/
theorem TwR.appRow {n b d : Nat} {w V V4 : World} {P : Int} {l : List Int} {a : Option Addr} {len cap : Nat} {zs : List Int} {q : Int} {v : Value} {o : Obj} (h : TwR n w b P l a len cap zs q V) {N : Nat} {f : Nat → Value}
    (hr : V.rowIs d 25 N f) (hd : d ≤ b) (hv : Grows V (b + 1) v l) (hg : (V.alloc o).grownBy V4 v.ownBlock) : V4.rowIs d 25 N f := by
  have hlo := hv.lo
  have hlt := h.lt
  exact hr.of_block (by rw [hg.block d (by simp; omega) (fun e => by have := hlo d e.symm; omega), Below.heap_alloc _ _ _ (by omega)])

set_option maxHeartbeats 4000000 in
set_option maxRecDepth 100000 in
theorem l20Town (n : Nat) (w : World) (a : Option Addr) (len cap : Nat) (zs : List Int) (p m : Int) (h : Reader n w a len cap zs p) (hp : p < 18000) (hm : 1 ≤ m) (hm' : m ≤ 30000) :
    Calls Try.prog 52 #[.pointer (some ⟨n, 0, none⟩), .int .i64 m] w (DrawnTR n w) := by
  have hnw := h.lt
  have HR0 := Lib.hid h
  clear h
  obtain ⟨W0, hW0⟩ : ∃ W0, W0 = w.alloc (.cells #[.int .i64 0, .slice none 0 0] 25) := ⟨_, rfl⟩
  have hz0 : W0.heap.size = w.heap.size + 1 := by rw [hW0]; simp
  have hb0 : Below w.heap.size w W0 := by rw [hW0]; exact (Below.refl _ _).alloc (Nat.le_refl _) _
  have hr0 : ∃ f, W0.rowIs w.heap.size 25 2 f := ⟨_, by rw [hW0]; exact World.rowIs_alloc w #[.int .i64 0, .slice none 0 0] 25 (fun i => (#[.int .i64 0, .slice none 0 0] : Array Value).getD i undef) (fun i hi => by simp at hi; have : i = 0 ∨ i = 1 := (by omega); rcases this with rfl | rfl <;> rfl)⟩
  have HR := Lib.hid (HR0.out.of_below hb0)
  have HK := Lib.hid (Kept.of_below (n := n) hb0)
  have HW0 := Lib.hid hW0
  have HROW := Lib.hid hr0
  clear hW0 hb0 HR0 hr0
  go_enter Try.func52, Try.ntmps52
  go_wp2_with fail
  rw [← HW0.out]
  refine (pick n W0 a len cap zs p 4 HR.out (by omega) (by omega) (by omega)).mono ?_
  intro e w1 hP1
  obtain ⟨x, rfl, x0, x1, k1, R1⟩ := hP1
  have HK1 := Lib.hid (HK.out.trans k1)
  have HR1 := Lib.hid R1
  have hs1 := k1.size
  obtain ⟨f0, hf0⟩ := HROW.out
  have hf1 := hf0.of_block (k1.block _ (by omega) (by omega))
  have wx : IntKind.i64.wrap (2 + x) = 2 + x := IntWalk.i64_in _ ⟨by omega, by omega⟩
  obtain ⟨W2, hW2⟩ : ∃ W2, W2 = w1.alloc (.cells #[.int .i64 (2 + x), .slice none 0 0] 25) := ⟨_, rfl⟩
  have hz2 : W2.heap.size = w1.heap.size + 1 := by rw [hW2]; simp
  have hb2 : Below w1.heap.size w1 W2 := by rw [hW2]; exact (Below.refl _ _).alloc (Nat.le_refl _) _
  have hr2 : W2.rowIs w1.heap.size 25 2 (fun i => (#[.int .i64 (2 + x), .slice none 0 0] : Array Value).getD i undef) := by
    rw [hW2]; exact World.rowIs_alloc w1 #[.int .i64 (2 + x), .slice none 0 0] 25 _ (fun i hi => by simp at hi; have : i = 0 ∨ i = 1 := (by omega); rcases this with rfl | rfl <;> rfl)
  obtain ⟨b, hb⟩ : ∃ b, b = w1.heap.size := ⟨_, rfl⟩
  rw [← hb] at hr2 hz2
  have hbn : b ≠ n := by have := HK1.out.size; omega
  have hbw : w.heap.size < b := by omega
  have HT0 : Hid (TwR n w b (2 + x) [] a len cap zs (p + 1) W2) :=
    ⟨HK1.out.trans (Kept.of_below hb2), HR1.out.of_below hb2, ⟨_, hr2, Grows.nil _ _⟩, by omega, f0, hf1.of_block (hb2.block _ (by omega))⟩
  have HW2 := Lib.hid hW2
  clear k1 R1 HK HR HROW hf0 HK1 HR1 hf1 hr2 hb2 hW2 HW0
  go_wp2_with fail
  rw [← HW2.out, ← hb]
  have hb' := Lib.hid hb
  clear hb
  refine (pick n W2 a len cap zs (p + 1) 3 HT0.out.rd (by omega) (by omega) (by omega)).mono ?_
  intro e w2 hP2
  obtain ⟨y, rfl, y0, y1, k2, R2⟩ := hP2
  have HT1 := Lib.hid (HT0.out.pick hbn hnw hbw k2 R2)
  have wy : IntKind.i64.wrap (1 + y) = 1 + y := IntWalk.i64_in _ ⟨by omega, by omega⟩
  obtain ⟨o, ho⟩ : ∃ o, o = 1 + y := ⟨_, rfl⟩
  have hor : 1 ≤ o ∧ o ≤ 3 := by omega
  have wy' : wrap64 (1 + y) = o := by rw [ho]; exact IntWalk.wrap64_in _ (by omega)
  have wy2 : IntKind.i64.wrap (1 + y) = o := by rw [ho]; exact wy
  clear wy
  have ho' := Lib.hid ho
  obtain ⟨s, hs, hs2, hs5⟩ : ∃ s : Nat, 2 + x = (s : Int) ∧ 2 ≤ s ∧ s ≤ 5 := ⟨(2 + x).toNat, by omega, by omega, by omega⟩
  rw [hs] at HT1
  have HS := Lib.hid hs
  clear HT0 k2 R2 ho y0 y1 wx hs x0 x1 hs1 hz2 hz0 HW2
  go_wp2_with fail
  go_loopw [7] (fun i wr => ∃ (k : Nat) (l : List Int) (q : Int), k ≤ s ∧ i = .int .i64 (k : Nat) ∧ Hid (p ≤ q ∧ q ≤ p + 2 + 5 * k) ∧ Hid (l.length ≤ 8 ∧ ∀ z, z ∈ l → 0 ≤ z ∧ z ≤ 99) ∧ Hid (TwR n w b (s : Nat) l a len cap zs q wr)) (fun i _ => s - (intOf i).toNat)
  case atStart => exact ⟨0, [], p + 1 + 1, Nat.zero_le _, rfl, ⟨by omega, by omega⟩, ⟨by simp, fun z hz => by cases hz⟩, HT1.out⟩
  case round =>
    obtain ⟨k, l, q, hk, rfl, HQ, HL, HT⟩ := hrel
    obtain ⟨v, hrow, hgr⟩ := HT.out.row
    have c0 := hrow.cell (i := 0) (by omega)
    have c1 := hrow.cell (i := 1) (by omega)
    by_cases hlt : k < s
    · have wk : IntKind.i64.wrap ((k : Int) + 1) = (k : Int) + 1 := IntWalk.i64_in _ ⟨by omega, by omega⟩
      have HLT := Lib.hid hlt
      clear hrow hgr
      go_wp2_with fail
      clear c0 c1
      go_loopw [8] (fun j wq => ∃ (c : Nat) (l : List Int) (q : Int), k + 1 ≤ c ∧ c ≤ s ∧ j = .int .i64 (c : Nat) ∧ Hid (p ≤ q ∧ q ≤ p + 2 + 5 * k + (c - k - 1 : Nat)) ∧ Hid (l.length ≤ 8 ∧ ∀ z, z ∈ l → 0 ≤ z ∧ z ≤ 99) ∧ Hid (TwR n w b (s : Nat) l a len cap zs q wq)) (fun j _ => s - (intOf j).toNat)
      case atStart => exact ⟨k + 1, l, q, Nat.le_refl _, by omega, by go_num, ⟨HQ.out.1, by have := HQ.out.2; omega⟩, HL.out, HT.out⟩
      case round =>
        clear HQ HL HT
        obtain ⟨c, l, q, hc, hcs, rfl, HQ, HL, HT⟩ := hrel
        obtain ⟨v, hrow, hgr⟩ := HT.out.row
        have c0 := hrow.cell (i := 0) (by omega)
        by_cases hlc : c < s
        · have wc : IntKind.i64.wrap ((c : Int) + 1) = (c : Int) + 1 := IntWalk.i64_in _ ⟨by omega, by omega⟩
          have wm : IntKind.i64.wrap (10 * (k : Int)) = 10 * (k : Int) := IntWalk.i64_in _ ⟨by omega, by omega⟩
          have wa : IntKind.i64.wrap (10 * (k : Int) + (c : Int)) = 10 * (k : Int) + (c : Int) := IntWalk.i64_in _ ⟨by omega, by omega⟩
          have wo : IntKind.i64.wrap (o + 1) = o + 1 := IntWalk.i64_in _ ⟨by omega, by omega⟩
          have wo' : wrap64 (o + 1) = o + 1 := IntWalk.wrap64_in _ (by omega)
          have HR := Lib.hid HT.out.rd
          have hq := HQ.out
          have hql : q < 30000 := by omega
          clear hq
          clear hrow hgr
          obtain ⟨i0, hi0, hz0, hz1, hz2⟩ := info_parts infoI
          have HI0 := Lib.hid hi0
          have HZ0 := Lib.hid hz0
          have HZ1 := Lib.hid hz1
          have HZ2 := Lib.hid hz2
          clear hi0 hz0 hz1 hz2
          go_wp2_with fail
          refine (pick n _ a len cap zs q 4 HR.out (by omega) (by omega) (by omega)).mono ?_
          intro e w3 hP3
          obtain ⟨y3, rfl, y30, y31, k3, R3⟩ := hP3
          have HT3 := Lib.hid (HT.out.pick hbn hnw hbw k3 R3)
          clear k3 R3 c0 HR HT
          obtain ⟨v, hrow, hgr⟩ := HT3.out.row
          obtain ⟨A, cA, rfl, hcA, hown⟩ := hgr.own
          have d1 := hrow.cell (i := 1) (by omega)
          have d0 := hrow.cell (i := 0) (by omega)
          have HGR := Lib.hid hgr
          have HROW3 := Lib.hid hrow
          have hfr := fun wx (h : World.rowIs wx b 25 2 (fun i => (#[.int .i64 (s : Nat), .slice A l.length cA] : Array Value).getD i undef)) => h.frozen 1
          clear hgr hrow hown hfr
          have HQ3 : Hid (p ≤ q + 1 ∧ q + 1 ≤ p + 2 + 5 * k + (c + 1 - k - 1 : Nat)) := ⟨by have := HQ.out.1; omega, by have := HQ.out.2; omega⟩
          by_cases hlo : y3 < o + 1
          · by_cases hl8 : l.length < 8
            · go_wp2_with (at_builtin; refine wpList_append_own_at _ rfl (.tmp 42) (.tmp 47) _ rfl (b + 1) 3 i0 (.int .i64 0) 1 8 Try.underlying23 HI0.out HZ0.out HZ1.out HZ2.out rfl (by decide) _ l.length (vals l) rfl (HGR.out.alloc _) ⟨w3.heap.size, 0, none⟩ 1 1 [.int .i64 (10 * (k : Int) + (c : Int))] rfl rfl (cell_one_new _ _ _) ?c2 ?c3 ?c4 ?c5 ?_)
              case c2 => intro u hu; simp at hu; subst hu; rfl
              case c3 => unfold maxLen; omega
              case c4 => omega
              case c5 => have := HT3.out.lt; simp; omega
              intro v' w4 hown4 hgrow4 _ _
              have HR4 := HT3.out.appRow HROW3.out (Nat.le_refl _) HGR.out hgrow4
              have e1 := HR4.cell (i := 1) (by omega)
              have z1 := HR4.frozen 1
              have HT4 : Hid (TwR n w b (s : Nat) (l ++ [10 * (k : Int) + (c : Int)]) a len cap zs (q + 1) (w4.setCell ⟨b, 1, none⟩ v')) :=
                HT3.out.app (by omega) hbw HROW3.out HGR.out hgrow4 (Grows.snoc hown4)
              have HL4 : Hid ((l ++ [10 * (k : Int) + (c : Int)]).length ≤ 8 ∧ ∀ z, z ∈ l ++ [10 * (k : Int) + (c : Int)] → 0 ≤ z ∧ z ≤ 99) := ⟨by rw [List.length_append]; simp; omega, fun z hz => by
                rcases List.mem_append.1 hz with hz | hz
                · exact HL.out.2 z hz
                · rw [List.mem_singleton] at hz; have := HLT.out; omega⟩
              obtain ⟨A4, cA4, rfl, _, _⟩ := (Grows.snoc hown4).own
              have hle : (l ++ [10 * (k : Int) + (c : Int)]).length = l.length + 1 := by simp
              rw [hle] at HT4
              clear hown4 hgrow4 HR4 hle
              go_wp2_with fail
              go_roundw
              case rel => exact ⟨c + 1, _, q + 1, by omega, by omega, by go_num, HQ3, HL4, HT4⟩
              case measure => simp [intOf]; omega
            · have hd8 : decide ((l.length : Int) < 8) = false := decide_eq_false (by omega)
              go_wp2_with fail
              go_roundw
              case rel => exact ⟨c + 1, l, q + 1, by omega, by omega, by go_num, HQ3, HL, HT3⟩
              case measure => simp [intOf]; omega
          · have hdl : decide (y3 < o + 1) = false := decide_eq_false (by omega)
            go_wp2_with fail
            go_roundw
            case rel => exact ⟨c + 1, l, q + 1, by omega, by omega, by go_num, HQ3, HL, HT3⟩
            case measure => simp [intOf]; omega
        · obtain rfl : c = s := by omega
          have HQ' : Hid (p ≤ q ∧ q ≤ p + 2 + 5 * ((k + 1 : Nat) : Int)) := ⟨HQ.out.1, by have := HQ.out.2; omega⟩
          clear hrow hgr
          go_wp2_with fail
          go_roundw
          case rel => exact ⟨k + 1, l, q, by omega, by go_num, HQ', HL, HT⟩
          case measure => simp [intOf]; omega
    · obtain rfl : k = s := by omega
      have hq := HQ.out
      have HR := Lib.hid HT.out.rd
      have hql : q < 30000 := by omega
      clear hrow hgr hq
      go_wp2_with fail
      refine (odd n wr a len cap zs q m HR.out (by omega) hm hm').mono ?_
      rintro e w5 ⟨tr, rfl, k5, R5⟩
      have HT5 := Lib.hid (HT.out.pick hbn hnw hbw k5 R5)
      clear k5 R5 HR HT c0 c1
      obtain ⟨v, hrow, hgr⟩ := HT5.out.row
      obtain ⟨A, cA, rfl, hcA, hown⟩ := hgr.own
      obtain ⟨fr, hfr⟩ := HT5.out.res
      have HL9 : Hid (l.length ≤ 9 ∧ ∀ z, z ∈ l → 0 ≤ z ∧ z ≤ 99) := ⟨by have := HL.out.1; omega, HL.out.2⟩
      rcases tr with _ | _
      · have c0 := hrow.cell (i := 0) (by omega)
        have c1 := hrow.cell (i := 1) (by omega)
        have r0 := hfr.cell (i := 0) (by omega)
        have r1 := hfr.cell (i := 1) (by omega)
        have z0 := hfr.frozen 0
        have z1 := hfr.frozen 1
        have hlr := hfr.lt
        have hne : w.heap.size ≠ b := by omega
        have hne' : b ≠ w.heap.size := by omega
        have hrs := (hfr.set 0 (.int .i64 (k : Nat))).set 1 (.slice A l.length cA)
        have q0 := hrs.cell (i := 0) (by omega)
        have q1 := hrs.cell (i := 1) (by omega)
        have HOW := Lib.hid hown
        clear hrs hrow hgr hfr hown
        go_wp2_with fail
        refine bodyPost_ret (v := .agg #[.int .i64 (k : Nat), .slice A l.length cA]) (by simp [results, Try.results52, go_sem, q0, q1]) rfl ?_
        have hk0 := (HT5.out.kept.setNew (q := ⟨w.heap.size, 0, none⟩) (Nat.le_refl _) (.int .i64 (k : Nat))).setNew (q := ⟨w.heap.size, 1, none⟩) (Nat.le_refl _) (.slice A l.length cA)
        refine ⟨(k : Nat), A, cA, l, rfl, by omega, HL9.out, hcA, hk0, fun h0 => ?_⟩
        obtain ⟨g, N, f, e1, k1, k2, k3, k4, k5⟩ := HOW.out h0
        exact ⟨g, N, f, e1, by omega, by simpa [World.setCell] using k2, (k3.setOther (by show g ≠ w.heap.size; omega) _).setOther (by show g ≠ w.heap.size; omega) _, k4, k5⟩
      · have HR5 := Lib.hid HT5.out.rd
        have hq := HQ.out
        have hql : q + 1 < 30000 := by omega
        clear hq hrow hgr hown hfr
        go_wp2_with fail
        refine (pick n w5 a len cap zs _ 3 HR5.out (by omega) (by omega) (by omega)).mono ?_
        intro e w6 hP6
        obtain ⟨y6, rfl, y60, y61, k6, R6⟩ := hP6
        have HT6 := Lib.hid (HT5.out.pick hbn hnw hbw k6 R6)
        clear k6 R6 HR5 HT5
        obtain ⟨fr, hfr⟩ := HT6.out.res
        obtain ⟨v, hrow, hgr⟩ := HT6.out.row
        obtain ⟨A, cA, rfl, hcA, hown⟩ := hgr.own
        have c0 := hrow.cell (i := 0) (by omega)
        have c1 := hrow.cell (i := 1) (by omega)
        have z1 := hrow.frozen 1
        have r0 := hfr.cell (i := 0) (by omega)
        have r1 := hfr.cell (i := 1) (by omega)
        have g0 := hfr.frozen 0
        have g1 := hfr.frozen 1
        have hlr := hfr.lt
        have hne : w.heap.size ≠ b := by omega
        have hne' : b ≠ w.heap.size := by omega
        have hv : y6 = 0 ∨ y6 = 1 ∨ y6 = 2 := by omega
        clear y60 y61
        rcases hv with rfl | rfl | rfl
        · have hrs := (hfr.set 0 (.int .i64 0)).set 1 (.slice none 0 0)
          have q0 := hrs.cell (i := 0) (by omega)
          have q1 := hrs.cell (i := 1) (by omega)
          clear hrs
          go_wp2_with fail
          refine bodyPost_ret (v := .agg #[.int .i64 0, .slice none 0 0]) (by simp [results, Try.results52, go_sem, q0, q1]) rfl ?_
          have hk0 := (HT6.out.kept.setNew (q := ⟨w.heap.size, 0, none⟩) (Nat.le_refl _) (.int .i64 0)).setNew (q := ⟨w.heap.size, 1, none⟩) (Nat.le_refl _) (.slice none 0 0)
          exact ⟨0, none, 0, [], rfl, by omega, ⟨by simp, fun z hz => by cases hz⟩, Nat.le_refl _, hk0, fun h0 => absurd h0 (by simp)⟩
        · have HGR := Lib.hid hgr
          have HRW := Lib.hid hrow
          have HFR := Lib.hid hfr
          clear hgr hrow hfr hown
          obtain ⟨i0, hi0, hz0, hz1, hz2⟩ := info_parts infoI
          have HI0 := Lib.hid hi0
          have HZ0 := Lib.hid hz0
          have HZ1 := Lib.hid hz1
          have HZ2 := Lib.hid hz2
          have hl8 := HL.out.1
          clear hi0 hz0 hz1 hz2
          go_wp2_with (at_builtin; refine wpList_append_own_at _ rfl (.tmp 66) (.tmp 67) _ rfl (b + 1) 3 i0 (.int .i64 0) 1 8 Try.underlying23 HI0.out HZ0.out HZ1.out HZ2.out rfl (by decide) _ l.length (vals l) rfl (HGR.out.alloc _) ⟨w6.heap.size, 0, none⟩ 1 1 [.int .i64 5] rfl rfl (cell_one_new _ _ _) ?d2 ?d3 ?d4 ?d5 ?_)
          case d2 => intro u hu; simp at hu; subst hu; rfl
          case d3 => unfold maxLen; omega
          case d4 => omega
          case d5 => have := HT6.out.lt; simp; omega
          intro v' w7 hown7 hgrow7 _ _
          have HR7 := HT6.out.appRow HRW.out (Nat.le_refl _) HGR.out hgrow7
          have HF7 := HT6.out.appRow HFR.out (by omega) HGR.out hgrow7
          have HT7 : Hid (TwR n w b (k : Nat) (l ++ [5]) a len cap zs (q + 1 + 1) (w7.setCell ⟨b, 1, none⟩ v')) :=
            HT6.out.app (by omega) hbw HRW.out HGR.out hgrow7 (Grows.snoc hown7)
          obtain ⟨A7, cA7, rfl, hcA7, hown8⟩ := (Grows.snoc hown7).own
          have hle : (l ++ [5]).length = l.length + 1 := by simp
          have HOW := Lib.hid hown8
          rw [hle] at HT7 hcA7
          have e0 := HR7.cell (i := 0) (by omega)
          have e1 := HR7.cell (i := 1) (by omega)
          have ez := HR7.frozen 1
          have f0 := HF7.cell (i := 0) (by omega)
          have f1 := HF7.cell (i := 1) (by omega)
          have fz0 := HF7.frozen 0
          have fz1 := HF7.frozen 1
          have hlr7 := HF7.lt
          have hrs := ((HF7.setOther (a := ⟨b, 1, none⟩) (by show w.heap.size ≠ b; omega) (.slice A7 (l.length + 1) cA7)).set 0 (.int .i64 (k : Nat))).set 1 (.slice A7 (l.length + 1) cA7)
          have q0 := hrs.cell (i := 0) (by omega)
          have q1 := hrs.cell (i := 1) (by omega)
          clear hrs HR7 HF7 hgrow7 hown7 hown8 c0 c1 z1 r0 r1 g0 g1 hlr
          rw [hle]
          go_wp2_with fail
          refine bodyPost_ret (v := .agg #[.int .i64 (k : Nat), .slice A7 (l.length + 1) cA7]) (by simp [results, Try.results52, go_sem, q0, q1]) rfl ?_
          have hk0 := (HT7.out.kept.setNew (q := ⟨w.heap.size, 0, none⟩) (Nat.le_refl _) (.int .i64 (k : Nat))).setNew (q := ⟨w.heap.size, 1, none⟩) (Nat.le_refl _) (.slice A7 (l.length + 1) cA7)
          refine ⟨(k : Nat), A7, cA7, l ++ [5], by rw [hle]; rfl, by omega, ⟨by rw [hle]; omega, fun z hz => ?_⟩, by rw [hle]; exact hcA7, hk0, fun h0 => ?_⟩
          · rcases List.mem_append.1 hz with hz | hz
            · exact HL.out.2 z hz
            · rw [List.mem_singleton] at hz; omega
          · obtain ⟨g, N, f, e1, k1, k2, k3, k4, k5⟩ := HOW.out h0
            exact ⟨g, N, f, e1, by omega, by simpa [World.setCell] using k2, ((k3.setOther (by show g ≠ b; omega) _).setOther (by show g ≠ w.heap.size; omega) _).setOther (by show g ≠ w.heap.size; omega) _, k4, k5⟩
        · have hbl := HT6.out.lt
          have hl8 := HL.out.1
          obtain ⟨g7, cA7, w7, hrun, hgr7, hgrow7⟩ := run_append_list 23 (b + 1) w6.heap.size 1 1 [10] l (w6.alloc (.cells #[.int .i64 10] 3)) (grows_one w6 (by omega) 10) _ A l.length cA rfl (hown.ints.keep fun d hd => Below.heap_alloc _ _ _ hd.2) (by omega) (by simp; omega)
          have hb7 : Below w6.heap.size w6 w7 := ⟨hgrow7.os, hgrow7.tape, hgrow7.output, Nat.le_trans (by simp) hgrow7.size, fun d hd => by
            rw [hgrow7.block d (by simp; omega) (fun e => by injection e with e; omega), Below.heap_alloc _ _ _ hd]⟩
          have HT8 := HT6.out.more hbn hnw hbw hb7 rfl
          have HT7 : Hid (TwR n w b (k : Nat) ([10] ++ l) a len cap zs (q + 1 + 1) (w7.setCell ⟨b, 1, none⟩ (.slice (some ⟨g7, 0, none⟩) (1 + l.length) cA7))) := HT8.put (by omega) hbw hgr7
          obtain ⟨A8, cA8, e8, hcA8, hown8⟩ := hgr7.own
          have hle : ([10] ++ l).length = 1 + l.length := by simp; omega
          rw [hle] at e8 hcA8
          injection e8 with e81 e82 e83
          subst e81 e83
          have HOW := Lib.hid hown8
          have HR7 := hrow.of_block (hb7.block _ hbl)
          have HF7 := hfr.of_block (hb7.block _ hfr.lt)
          have e0 := HR7.cell (i := 0) (by omega)
          have e1 := HR7.cell (i := 1) (by omega)
          have ez := HR7.frozen 1
          have f0 := HF7.cell (i := 0) (by omega)
          have f1 := HF7.cell (i := 1) (by omega)
          have fz0 := HF7.frozen 0
          have fz1 := HF7.frozen 1
          have hlr7 := HF7.lt
          have hrs := ((HF7.setOther (a := ⟨b, 1, none⟩) (by show w.heap.size ≠ b; omega) (.slice (some ⟨g7, 0, none⟩) (1 + l.length) cA7)).set 0 (.int .i64 (k : Nat))).set 1 (.slice (some ⟨g7, 0, none⟩) (1 + l.length) cA7)
          have q0 := hrs.cell (i := 0) (by omega)
          have q1 := hrs.cell (i := 1) (by omega)
          clear hrs HR7 HF7 hgrow7 hgr7 hown8 HT8 hb7 hown hgr hrow hfr g0 g1 hlr z1 r0 r1 c0
          go_wp2_with (at_builtin; refine Lib.wpList_append_run _ rfl (.tmp 55) (.tmp 57) 23 23 rfl (.slice (some ⟨w6.heap.size, 0, none⟩) 1 1) (.slice A l.length cA) rfl rfl _ _ hrun ?_)
          clear hrun
          go_wp2_with fail
          refine bodyPost_ret (v := .agg #[.int .i64 (k : Nat), .slice (some ⟨g7, 0, none⟩) (1 + l.length) cA7]) (by simp [results, Try.results52, go_sem, q0, q1]) rfl ?_
          have hk0 := (HT7.out.kept.setNew (q := ⟨w.heap.size, 0, none⟩) (Nat.le_refl _) (.int .i64 (k : Nat))).setNew (q := ⟨w.heap.size, 1, none⟩) (Nat.le_refl _) (.slice (some ⟨g7, 0, none⟩) (1 + l.length) cA7)
          refine ⟨(k : Nat), some ⟨g7, 0, none⟩, cA7, [10] ++ l, by rw [hle]; rfl, by omega, ⟨by rw [hle]; omega, fun z hz => ?_⟩, by rw [hle]; exact hcA8, hk0, fun h0 => ?_⟩
          · rcases List.mem_append.1 hz with hz | hz
            · rw [List.mem_singleton] at hz; omega
            · exact HL.out.2 z hz
          · obtain ⟨g, N, f, e1, k1, k2, k3, k4, k5⟩ := HOW.out h0
            exact ⟨g, N, f, e1, by omega, by simpa [World.setCell] using k2, ((k3.setOther (by show g ≠ b; omega) _).setOther (by show g ≠ w.heap.size; omega) _).setOther (by show g ≠ w.heap.size; omega) _, k4, k5⟩

end Go.Proofs.Ytcminkifdbdaaaa

namespace Go.Proofs.Ytcminkifdbdaaaa
set_option linter.unusedSimpArgs false
set_option linter.unusedVariables false
open Go.RowKit

/-- a drawn town -/
def DrawnTw (w : World) (e : Ending) (w' : World) : Prop :=
  ∃ (P : Int) (A : Option Addr) (c : Nat) (l : List Int), e = .returned (twnV P A l.length c) ∧ (0 ≤ P ∧ P ≤ 5) ∧ (l.length ≤ 9 ∧ ∀ z, z ∈ l → 0 ≤ z ∧ z ≤ 99) ∧ l.length ≤ c ∧ Below w.heap.size w w' ∧ OwnI w' w.heap.size w'.heap.size A l

set_option maxHeartbeats 1000000 in
theorem dDrawTownOk (a : Option Addr) (len cap : Nat) (zs : List Int) (w : World) (h : IsRow .u8 w a len cap zs) :
    Calls Try.prog 15 #[.slice a len cap] w (DrawnTw w) := by
  go_enter Try.func15, Try.ntmps15
  obtain ⟨W, hW⟩ : ∃ W : World, W = (w.alloc (.cells #[.int .i64 0, .slice none 0 0] 25)) := ⟨_, rfl⟩
  have hz : W.heap.size = w.heap.size + 1 := by rw [hW]; simp
  have hbW : Below w.heap.size w W := by rw [hW]; exact (Below.refl _ _).alloc (Nat.le_refl _) _
  have hr0 : ∃ f, W.rowIs w.heap.size 25 2 f := ⟨_, by rw [hW]; exact World.rowIs_alloc w #[.int .i64 0, .slice none 0 0] 25 (fun i => (#[.int .i64 0, .slice none 0 0] : Array Value).getD i undef) (fun i hi => by simp at hi; have : i = 0 ∨ i = 1 := (by omega); rcases this with rfl | rfl <;> rfl)⟩
  have HI := Lib.hid (h.below hbW)
  have HW := Lib.hid hW
  have HBW := Lib.hid hbW
  have HROW := Lib.hid hr0
  have hlt : w.heap.size < W.heap.size := by omega
  clear hW hbW h hr0 hz
  go_wp2_with fail
  try rw [← HW.out]
  refine (l20Open a len cap zs W HI.out).mono ?_
  rintro e w1 ⟨rfl, hb1, a1, len1, cap1, zs1, R1⟩
  have HB1 := Lib.hid hb1
  have HR1 := Lib.hid R1
  have hs1 := hb1.size
  clear hb1 R1
  go_wp2_with fail
  refine (l20Town W.heap.size w1 a1 len1 cap1 zs1 0 2 HR1.out (by omega) (by omega) (by omega)).mono ?_
  rintro e w2 ⟨P, A, c, l, rfl, hP, hl, hc, k2, ho2⟩
  have hb2 : Below W.heap.size W w2 := HB1.out.trans (k2.below (Nat.le_refl _) HB1.out.size)
  have HB2 := Lib.hid hb2
  have HF := Lib.hid (And.intro hP (And.intro hl hc))
  have HO2 := Lib.hid ho2
  obtain ⟨fr, hf⟩ := HROW.out
  have hfr := hf.of_block (hb2.block _ (by omega))
  have r0 := hfr.cell (i := 0) (by omega)
  have r1 := hfr.cell (i := 1) (by omega)
  have z0 := hfr.frozen 0
  have z1 := hfr.frozen 1
  have hlr := hfr.lt
  have hrs := (hfr.set 0 (.int .i64 P)).set 1 (.slice A l.length c)
  have q0 := hrs.cell (i := 0) (by omega)
  have q1 := hrs.cell (i := 1) (by omega)
  clear k2 hf hfr hrs hb2 ho2 hP hl hc
  unfold twnV
  go_wp2_with fail
  refine bodyPost_ret (v := .agg #[.int .i64 P, .slice A l.length c]) (by simp [results, Try.results15, go_sem, q0, q1]) rfl ?_
  refine ⟨P, A, c, l, rfl, HF.out.1, HF.out.2.1, HF.out.2.2, ((belT HBW.out HB2.out).setCell (Nat.le_refl _) _).setCell (Nat.le_refl _) _, fun h0 => ?_⟩
  obtain ⟨g, N, f, e1, k1, k2, k3, k4, k5⟩ := HO2.out h0
  have hs2 : W.heap.size ≤ w1.heap.size := HB1.out.size
  exact ⟨g, N, f, e1, by omega, by simpa [World.setCell] using k2, (k3.setOther (by show g ≠ w.heap.size; omega) _).setOther (by show g ≠ w.heap.size; omega) _, k4, k5⟩

set_option maxHeartbeats 1000000 in
theorem dDrawWaysOf (a : Option Addr) (len cap : Nat) (zs : List Int) (w : World) (h : IsRow .u8 w a len cap zs) :
    Calls Try.prog 19 #[.slice a len cap] w (DrawnTw w) := by
  go_enter Try.func19, Try.ntmps19
  obtain ⟨W, hW⟩ : ∃ W : World, W = (w.alloc (.cells #[.int .i64 0, .slice none 0 0] 25)) := ⟨_, rfl⟩
  have hz : W.heap.size = w.heap.size + 1 := by rw [hW]; simp
  have hbW : Below w.heap.size w W := by rw [hW]; exact (Below.refl _ _).alloc (Nat.le_refl _) _
  have hr0 : ∃ f, W.rowIs w.heap.size 25 2 f := ⟨_, by rw [hW]; exact World.rowIs_alloc w #[.int .i64 0, .slice none 0 0] 25 (fun i => (#[.int .i64 0, .slice none 0 0] : Array Value).getD i undef) (fun i hi => by simp at hi; have : i = 0 ∨ i = 1 := (by omega); rcases this with rfl | rfl <;> rfl)⟩
  have HI := Lib.hid (h.below hbW)
  have HW := Lib.hid hW
  have HBW := Lib.hid hbW
  have HROW := Lib.hid hr0
  have hlt : w.heap.size < W.heap.size := by omega
  clear hW hbW h hr0 hz
  go_wp2_with fail
  try rw [← HW.out]
  refine (l20Open a len cap zs W HI.out).mono ?_
  rintro e w1 ⟨rfl, hb1, a1, len1, cap1, zs1, R1⟩
  have HB1 := Lib.hid hb1
  have HR1 := Lib.hid R1
  have hs1 := hb1.size
  clear hb1 R1
  go_wp2_with fail
  refine (l20Town W.heap.size w1 a1 len1 cap1 zs1 0 9 HR1.out (by omega) (by omega) (by omega)).mono ?_
  rintro e w2 ⟨P, A, c, l, rfl, hP, hl, hc, k2, ho2⟩
  have hb2 : Below W.heap.size W w2 := HB1.out.trans (k2.below (Nat.le_refl _) HB1.out.size)
  have HB2 := Lib.hid hb2
  have HF := Lib.hid (And.intro hP (And.intro hl hc))
  have HO2 := Lib.hid ho2
  obtain ⟨fr, hf⟩ := HROW.out
  have hfr := hf.of_block (hb2.block _ (by omega))
  have r0 := hfr.cell (i := 0) (by omega)
  have r1 := hfr.cell (i := 1) (by omega)
  have z0 := hfr.frozen 0
  have z1 := hfr.frozen 1
  have hlr := hfr.lt
  have hrs := (hfr.set 0 (.int .i64 P)).set 1 (.slice A l.length c)
  have q0 := hrs.cell (i := 0) (by omega)
  have q1 := hrs.cell (i := 1) (by omega)
  clear k2 hf hfr hrs hb2 ho2 hP hl hc
  unfold twnV
  go_wp2_with fail
  refine bodyPost_ret (v := .agg #[.int .i64 P, .slice A l.length c]) (by simp [results, Try.results19, go_sem, q0, q1]) rfl ?_
  refine ⟨P, A, c, l, rfl, HF.out.1, HF.out.2.1, HF.out.2.2, ((belT HBW.out HB2.out).setCell (Nat.le_refl _) _).setCell (Nat.le_refl _) _, fun h0 => ?_⟩
  obtain ⟨g, N, f, e1, k1, k2, k3, k4, k5⟩ := HO2.out h0
  have hs2 : W.heap.size ≤ w1.heap.size := HB1.out.size
  exact ⟨g, N, f, e1, by omega, by simpa [World.setCell] using k2, (k3.setOther (by show g ≠ w.heap.size; omega) _).setOther (by show g ≠ w.heap.size; omega) _, k4, k5⟩

set_option maxHeartbeats 1000000 in
theorem dDrawGuardGame (a : Option Addr) (len cap : Nat) (zs : List Int) (w : World) (h : IsRow .u8 w a len cap zs) :
    Calls Try.prog 24 #[.slice a len cap] w (DrawnTw w) := by
  go_enter Try.func24, Try.ntmps24
  obtain ⟨W, hW⟩ : ∃ W : World, W = (w.alloc (.cells #[.int .i64 0, .slice none 0 0] 25)) := ⟨_, rfl⟩
  have hz : W.heap.size = w.heap.size + 1 := by rw [hW]; simp
  have hbW : Below w.heap.size w W := by rw [hW]; exact (Below.refl _ _).alloc (Nat.le_refl _) _
  have hr0 : ∃ f, W.rowIs w.heap.size 25 2 f := ⟨_, by rw [hW]; exact World.rowIs_alloc w #[.int .i64 0, .slice none 0 0] 25 (fun i => (#[.int .i64 0, .slice none 0 0] : Array Value).getD i undef) (fun i hi => by simp at hi; have : i = 0 ∨ i = 1 := (by omega); rcases this with rfl | rfl <;> rfl)⟩
  have HI := Lib.hid (h.below hbW)
  have HW := Lib.hid hW
  have HBW := Lib.hid hbW
  have HROW := Lib.hid hr0
  have hlt : w.heap.size < W.heap.size := by omega
  clear hW hbW h hr0 hz
  go_wp2_with fail
  try rw [← HW.out]
  refine (l20Open a len cap zs W HI.out).mono ?_
  rintro e w1 ⟨rfl, hb1, a1, len1, cap1, zs1, R1⟩
  have HB1 := Lib.hid hb1
  have HR1 := Lib.hid R1
  have hs1 := hb1.size
  clear hb1 R1
  go_wp2_with fail
  refine (l20Town W.heap.size w1 a1 len1 cap1 zs1 0 9 HR1.out (by omega) (by omega) (by omega)).mono ?_
  rintro e w2 ⟨P, A, c, l, rfl, hP, hl, hc, k2, ho2⟩
  have hb2 : Below W.heap.size W w2 := HB1.out.trans (k2.below (Nat.le_refl _) HB1.out.size)
  have HB2 := Lib.hid hb2
  have HF := Lib.hid (And.intro hP (And.intro hl hc))
  have HO2 := Lib.hid ho2
  obtain ⟨fr, hf⟩ := HROW.out
  have hfr := hf.of_block (hb2.block _ (by omega))
  have r0 := hfr.cell (i := 0) (by omega)
  have r1 := hfr.cell (i := 1) (by omega)
  have z0 := hfr.frozen 0
  have z1 := hfr.frozen 1
  have hlr := hfr.lt
  have hrs := (hfr.set 0 (.int .i64 P)).set 1 (.slice A l.length c)
  have q0 := hrs.cell (i := 0) (by omega)
  have q1 := hrs.cell (i := 1) (by omega)
  clear k2 hf hfr hrs hb2 ho2 hP hl hc
  unfold twnV
  go_wp2_with fail
  refine bodyPost_ret (v := .agg #[.int .i64 P, .slice A l.length c]) (by simp [results, Try.results24, go_sem, q0, q1]) rfl ?_
  refine ⟨P, A, c, l, rfl, HF.out.1, HF.out.2.1, HF.out.2.2, ((belT HBW.out HB2.out).setCell (Nat.le_refl _) _).setCell (Nat.le_refl _) _, fun h0 => ?_⟩
  obtain ⟨g, N, f, e1, k1, k2, k3, k4, k5⟩ := HO2.out h0
  have hs2 : W.heap.size ≤ w1.heap.size := HB1.out.size
  exact ⟨g, N, f, e1, by omega, by simpa [World.setCell] using k2, (k3.setOther (by show g ≠ w.heap.size; omega) _).setOther (by show g ≠ w.heap.size; omega) _, k4, k5⟩

set_option maxHeartbeats 1000000 in
theorem dDrawMostWays (a : Option Addr) (len cap : Nat) (zs : List Int) (w : World) (h : IsRow .u8 w a len cap zs) :
    Calls Try.prog 31 #[.slice a len cap] w (DrawnTw w) := by
  go_enter Try.func31, Try.ntmps31
  obtain ⟨W, hW⟩ : ∃ W : World, W = (w.alloc (.cells #[.int .i64 0, .slice none 0 0] 25)) := ⟨_, rfl⟩
  have hz : W.heap.size = w.heap.size + 1 := by rw [hW]; simp
  have hbW : Below w.heap.size w W := by rw [hW]; exact (Below.refl _ _).alloc (Nat.le_refl _) _
  have hr0 : ∃ f, W.rowIs w.heap.size 25 2 f := ⟨_, by rw [hW]; exact World.rowIs_alloc w #[.int .i64 0, .slice none 0 0] 25 (fun i => (#[.int .i64 0, .slice none 0 0] : Array Value).getD i undef) (fun i hi => by simp at hi; have : i = 0 ∨ i = 1 := (by omega); rcases this with rfl | rfl <;> rfl)⟩
  have HI := Lib.hid (h.below hbW)
  have HW := Lib.hid hW
  have HBW := Lib.hid hbW
  have HROW := Lib.hid hr0
  have hlt : w.heap.size < W.heap.size := by omega
  clear hW hbW h hr0 hz
  go_wp2_with fail
  try rw [← HW.out]
  refine (l20Open a len cap zs W HI.out).mono ?_
  rintro e w1 ⟨rfl, hb1, a1, len1, cap1, zs1, R1⟩
  have HB1 := Lib.hid hb1
  have HR1 := Lib.hid R1
  have hs1 := hb1.size
  clear hb1 R1
  go_wp2_with fail
  refine (l20Town W.heap.size w1 a1 len1 cap1 zs1 0 9 HR1.out (by omega) (by omega) (by omega)).mono ?_
  rintro e w2 ⟨P, A, c, l, rfl, hP, hl, hc, k2, ho2⟩
  have hb2 : Below W.heap.size W w2 := HB1.out.trans (k2.below (Nat.le_refl _) HB1.out.size)
  have HB2 := Lib.hid hb2
  have HF := Lib.hid (And.intro hP (And.intro hl hc))
  have HO2 := Lib.hid ho2
  obtain ⟨fr, hf⟩ := HROW.out
  have hfr := hf.of_block (hb2.block _ (by omega))
  have r0 := hfr.cell (i := 0) (by omega)
  have r1 := hfr.cell (i := 1) (by omega)
  have z0 := hfr.frozen 0
  have z1 := hfr.frozen 1
  have hlr := hfr.lt
  have hrs := (hfr.set 0 (.int .i64 P)).set 1 (.slice A l.length c)
  have q0 := hrs.cell (i := 0) (by omega)
  have q1 := hrs.cell (i := 1) (by omega)
  clear k2 hf hfr hrs hb2 ho2 hP hl hc
  unfold twnV
  go_wp2_with fail
  refine bodyPost_ret (v := .agg #[.int .i64 P, .slice A l.length c]) (by simp [results, Try.results31, go_sem, q0, q1]) rfl ?_
  refine ⟨P, A, c, l, rfl, HF.out.1, HF.out.2.1, HF.out.2.2, ((belT HBW.out HB2.out).setCell (Nat.le_refl _) _).setCell (Nat.le_refl _) _, fun h0 => ?_⟩
  obtain ⟨g, N, f, e1, k1, k2, k3, k4, k5⟩ := HO2.out h0
  have hs2 : W.heap.size ≤ w1.heap.size := HB1.out.size
  exact ⟨g, N, f, e1, by omega, by simpa [World.setCell] using k2, (k3.setOther (by show g ≠ w.heap.size; omega) _).setOther (by show g ≠ w.heap.size; omega) _, k4, k5⟩

set_option maxHeartbeats 1000000 in
theorem dDrawGoPlan (a : Option Addr) (len cap : Nat) (zs : List Int) (w : World) (h : IsRow .u8 w a len cap zs) :
    Calls Try.prog 35 #[.slice a len cap] w (DrawnTw w) := by
  go_enter Try.func35, Try.ntmps35
  obtain ⟨W, hW⟩ : ∃ W : World, W = (w.alloc (.cells #[.int .i64 0, .slice none 0 0] 25)) := ⟨_, rfl⟩
  have hz : W.heap.size = w.heap.size + 1 := by rw [hW]; simp
  have hbW : Below w.heap.size w W := by rw [hW]; exact (Below.refl _ _).alloc (Nat.le_refl _) _
  have hr0 : ∃ f, W.rowIs w.heap.size 25 2 f := ⟨_, by rw [hW]; exact World.rowIs_alloc w #[.int .i64 0, .slice none 0 0] 25 (fun i => (#[.int .i64 0, .slice none 0 0] : Array Value).getD i undef) (fun i hi => by simp at hi; have : i = 0 ∨ i = 1 := (by omega); rcases this with rfl | rfl <;> rfl)⟩
  have HI := Lib.hid (h.below hbW)
  have HW := Lib.hid hW
  have HBW := Lib.hid hbW
  have HROW := Lib.hid hr0
  have hlt : w.heap.size < W.heap.size := by omega
  clear hW hbW h hr0 hz
  go_wp2_with fail
  try rw [← HW.out]
  refine (l20Open a len cap zs W HI.out).mono ?_
  rintro e w1 ⟨rfl, hb1, a1, len1, cap1, zs1, R1⟩
  have HB1 := Lib.hid hb1
  have HR1 := Lib.hid R1
  have hs1 := hb1.size
  clear hb1 R1
  go_wp2_with fail
  refine (l20Town W.heap.size w1 a1 len1 cap1 zs1 0 9 HR1.out (by omega) (by omega) (by omega)).mono ?_
  rintro e w2 ⟨P, A, c, l, rfl, hP, hl, hc, k2, ho2⟩
  have hb2 : Below W.heap.size W w2 := HB1.out.trans (k2.below (Nat.le_refl _) HB1.out.size)
  have HB2 := Lib.hid hb2
  have HF := Lib.hid (And.intro hP (And.intro hl hc))
  have HO2 := Lib.hid ho2
  obtain ⟨fr, hf⟩ := HROW.out
  have hfr := hf.of_block (hb2.block _ (by omega))
  have r0 := hfr.cell (i := 0) (by omega)
  have r1 := hfr.cell (i := 1) (by omega)
  have z0 := hfr.frozen 0
  have z1 := hfr.frozen 1
  have hlr := hfr.lt
  have hrs := (hfr.set 0 (.int .i64 P)).set 1 (.slice A l.length c)
  have q0 := hrs.cell (i := 0) (by omega)
  have q1 := hrs.cell (i := 1) (by omega)
  clear k2 hf hfr hrs hb2 ho2 hP hl hc
  unfold twnV
  go_wp2_with fail
  refine bodyPost_ret (v := .agg #[.int .i64 P, .slice A l.length c]) (by simp [results, Try.results35, go_sem, q0, q1]) rfl ?_
  refine ⟨P, A, c, l, rfl, HF.out.1, HF.out.2.1, HF.out.2.2, ((belT HBW.out HB2.out).setCell (Nat.le_refl _) _).setCell (Nat.le_refl _) _, fun h0 => ?_⟩
  obtain ⟨g, N, f, e1, k1, k2, k3, k4, k5⟩ := HO2.out h0
  have hs2 : W.heap.size ≤ w1.heap.size := HB1.out.size
  exact ⟨g, N, f, e1, by omega, by simpa [World.setCell] using k2, (k3.setOther (by show g ≠ w.heap.size; omega) _).setOther (by show g ≠ w.heap.size; omega) _, k4, k5⟩

set_option maxHeartbeats 1000000 in
theorem dDrawGuardPlan (a : Option Addr) (len cap : Nat) (zs : List Int) (w : World) (h : IsRow .u8 w a len cap zs) :
    Calls Try.prog 38 #[.slice a len cap] w (DrawnTw w) := by
  go_enter Try.func38, Try.ntmps38
  obtain ⟨W, hW⟩ : ∃ W : World, W = (w.alloc (.cells #[.int .i64 0, .slice none 0 0] 25)) := ⟨_, rfl⟩
  have hz : W.heap.size = w.heap.size + 1 := by rw [hW]; simp
  have hbW : Below w.heap.size w W := by rw [hW]; exact (Below.refl _ _).alloc (Nat.le_refl _) _
  have hr0 : ∃ f, W.rowIs w.heap.size 25 2 f := ⟨_, by rw [hW]; exact World.rowIs_alloc w #[.int .i64 0, .slice none 0 0] 25 (fun i => (#[.int .i64 0, .slice none 0 0] : Array Value).getD i undef) (fun i hi => by simp at hi; have : i = 0 ∨ i = 1 := (by omega); rcases this with rfl | rfl <;> rfl)⟩
  have HI := Lib.hid (h.below hbW)
  have HW := Lib.hid hW
  have HBW := Lib.hid hbW
  have HROW := Lib.hid hr0
  have hlt : w.heap.size < W.heap.size := by omega
  clear hW hbW h hr0 hz
  go_wp2_with fail
  try rw [← HW.out]
  refine (l20Open a len cap zs W HI.out).mono ?_
  rintro e w1 ⟨rfl, hb1, a1, len1, cap1, zs1, R1⟩
  have HB1 := Lib.hid hb1
  have HR1 := Lib.hid R1
  have hs1 := hb1.size
  clear hb1 R1
  go_wp2_with fail
  refine (l20Town W.heap.size w1 a1 len1 cap1 zs1 0 9 HR1.out (by omega) (by omega) (by omega)).mono ?_
  rintro e w2 ⟨P, A, c, l, rfl, hP, hl, hc, k2, ho2⟩
  have hb2 : Below W.heap.size W w2 := HB1.out.trans (k2.below (Nat.le_refl _) HB1.out.size)
  have HB2 := Lib.hid hb2
  have HF := Lib.hid (And.intro hP (And.intro hl hc))
  have HO2 := Lib.hid ho2
  obtain ⟨fr, hf⟩ := HROW.out
  have hfr := hf.of_block (hb2.block _ (by omega))
  have r0 := hfr.cell (i := 0) (by omega)
  have r1 := hfr.cell (i := 1) (by omega)
  have z0 := hfr.frozen 0
  have z1 := hfr.frozen 1
  have hlr := hfr.lt
  have hrs := (hfr.set 0 (.int .i64 P)).set 1 (.slice A l.length c)
  have q0 := hrs.cell (i := 0) (by omega)
  have q1 := hrs.cell (i := 1) (by omega)
  clear k2 hf hfr hrs hb2 ho2 hP hl hc
  unfold twnV
  go_wp2_with fail
  refine bodyPost_ret (v := .agg #[.int .i64 P, .slice A l.length c]) (by simp [results, Try.results38, go_sem, q0, q1]) rfl ?_
  refine ⟨P, A, c, l, rfl, HF.out.1, HF.out.2.1, HF.out.2.2, ((belT HBW.out HB2.out).setCell (Nat.le_refl _) _).setCell (Nat.le_refl _) _, fun h0 => ?_⟩
  obtain ⟨g, N, f, e1, k1, k2, k3, k4, k5⟩ := HO2.out h0
  have hs2 : W.heap.size ≤ w1.heap.size := HB1.out.size
  exact ⟨g, N, f, e1, by omega, by simpa [World.setCell] using k2, (k3.setOther (by show g ≠ w.heap.size; omega) _).setOther (by show g ≠ w.heap.size; omega) _, k4, k5⟩

end Go.Proofs.Ytcminkifdbdaaaa
