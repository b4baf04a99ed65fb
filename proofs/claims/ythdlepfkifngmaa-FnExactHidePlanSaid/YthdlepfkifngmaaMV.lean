/- Texts in one: WinI, Collect, CollectB, ExactWa, Impl7. -/
import Derived.Test.YthdlepfkifngmaaML
import Derived.Test.YthdlepfkifngmaaMT
import Derived.Test.YthdlepfkifngmaaMC
import Derived.RangeFuncBox
import Derived.Maps.OwnIn
import Derived.Maps.AppendAt
import Derived.Test.YthdlepfkifngmaaMG
import Derived.Test.YthdlepfkifngmaaMI
namespace Go.Proofs.Ythdlepfkifngmaa
set_option linter.unusedSimpArgs false
set_option linter.unusedVariables false
open Go.RowKit Go.Shelf

attribute [local go_sem] Oper.semAt_some

theorem windowsOfI (m n many : Int) (w : World) :
    Calls Try.prog 48 #[.int .i64 m, .int .i64 n, .int .i64 many] w fun e w' => ∃ b1 b2 b3, e = .returned (.func (.func 66) #[] #[.pointer (some ⟨b1, 0, none⟩), .pointer (some ⟨b2, 0, none⟩), .pointer (some ⟨b3, 0, none⟩)]) ∧ Below w.heap.size w w' ∧
      Cell1 w' b1 3 (.int .i64 many) ∧ Cell1 w' b2 3 (.int .i64 m) ∧ Cell1 w' b3 3 (.int .i64 n) ∧ w.heap.size ≤ b1 ∧ w.heap.size ≤ b2 ∧ w.heap.size ≤ b3 := by
  go_enter Try.func48, Try.ntmps48
  go_wp2_with fail
  go_ret
  refine ⟨w.heap.size + 2, w.heap.size, w.heap.size + 1, by simp, (((Below.refl _ w).alloc (Nat.le_refl _) _).alloc (by simp) _).alloc (by simp; omega) _, ?_, ?_, ?_, by omega, by omega, by omega⟩
  · have := Cell1.new ((w.alloc (.cells #[.int .i64 m] 3)).alloc (.cells #[.int .i64 n] 3)) 3 (.int .i64 many)
    simp only [World.size_alloc] at this; exact this
  · exact ((Cell1.new _ _ _).alloc _).alloc _
  · have := (Cell1.new (w.alloc (.cells #[.int .i64 m] 3)) 3 (.int .i64 n)).alloc (.cells #[.int .i64 many] 3)
    simp only [World.size_alloc] at this; exact this

theorem cellsApartI (m n : Int) (w : World) :
    Calls Try.prog 55 #[.int .i64 m, .int .i64 n] w fun e w' => ∃ b1 b2, e = .returned (.func (.func 72) #[] #[.pointer (some ⟨b1, 0, none⟩), .pointer (some ⟨b2, 0, none⟩)]) ∧ Below w.heap.size w w' ∧
      Cell1 w' b1 3 (.int .i64 m) ∧ Cell1 w' b2 3 (.int .i64 n) ∧ w.heap.size ≤ b1 ∧ w.heap.size ≤ b2 := by
  go_enter Try.func55, Try.ntmps55
  go_wp2_with fail
  go_ret
  refine ⟨w.heap.size, w.heap.size + 1, by simp, ((Below.refl _ w).alloc (Nat.le_refl _) _).alloc (by simp) _, (Cell1.new _ _ _).alloc _, ?_, by omega, by omega⟩
  have := Cell1.new (w.alloc (.cells #[.int .i64 m] 3)) 3 (.int .i64 n)
  simp only [World.size_alloc] at this; exact this

theorem Lies.cell1 {K : Nat → Prop} {w w' : World} {b : Nat} {t : TypeId} {v : Value} (h : Lies K w w') (hb : K b) (hc : Cell1 w b t v) : Cell1 w' b t v := hc.keep (h.block b hc.lt hb)

theorem rinTo_prefix (m n : Nat) {k many : Nat} (h : k < many) : ∃ post, rinTo m n many = rinTo m n k ++ ringTo m k n :: post := by
  induction many with
  | zero => omega
  | succ r ih =>
    by_cases e : k = r
    · subst e; exact ⟨[], rfl⟩
    · obtain ⟨post, hp⟩ := ih (by omega)
      exact ⟨post ++ [ringTo m r n], by show rinTo m n r ++ _ = _; rw [hp]; simp⟩

set_option maxRecDepth 100000 in
set_option maxHeartbeats 2000000 in
theorem windowsIter (m n many b1 b2 b3 : Nat) (hm : 1 ≤ m) (hm2 : m ≤ 16) (hn : 1 ≤ n) (hnm : n ≤ m) (hmany : many ≤ m) (w : World)
    (h1 : Cell1 w b1 3 (.int .i64 (many : Nat))) (h2 : Cell1 w b2 3 (.int .i64 (m : Nat))) (h3 : Cell1 w b3 3 (.int .i64 (n : Nat))) :
    IterS Try.prog 66 #[.pointer (some ⟨b1, 0, none⟩), .pointer (some ⟨b2, 0, none⟩), .pointer (some ⟨b3, 0, none⟩)] RowGiven (rinTo m n many) (fun k => k = b1 ∨ k = b2 ∨ k = b3) w := by
  intro l S0 J Jx W hW hK hS0 hJ hJx hY h0 hl nn
  refine callsIn_wide.2 ((callsIn_wide (n := 9)).1 ?_)
  refine callsIn_of_wp Try.func66 rfl trivial ?_ rfl
  simp only [Try.ntmps66, List.size_toArray, List.length_cons, List.length_nil, Nat.reduceAdd, Nat.reduceSub, Array.replicate_succ, Array.replicate_zero, List.push_toArray, List.append_toArray, List.nil_append, List.cons_append]
  have hwW := hW.size
  have c1 := (hW.cell1 (.inl rfl) h1).cell
  have G0 := Lib.hid (Going.start hW hS0 h0)
  have HRD := Lib.hid (fun (pre post : List (List Int)) (x : List Int) (S G : Nat → Prop) (v : Array Value) (wr W1 : World) (g : Going _ S0 S w W wr J pre) (hb : Below wr.heap.size wr W1) (hx : rinTo m n many = pre ++ x :: post) (hR : RowGiven x v G W1) (hG : ∀ k, G k → wr.heap.size ≤ k ∧ k < W1.heap.size) => Going.round hY hJ hK hwW hS0 hl g hb hx hR hG)
  have HC := Lib.hid (fun (wr : World) (hL : Lies (fun k => k = b1 ∨ k = b2 ∨ k = b3) w wr) => And.intro (hL.cell1 (.inl rfl) h1) (And.intro (hL.cell1 (.inr (.inl rfl)) h2) (hL.cell1 (.inr (.inr rfl)) h3)))
  have hmk := run_make_row' (P := Try.prog) 36 3 _ 8 Try.underlying36 infoI rfl .i64 .i64 m (by omega) (by omega)
  have hmx : Try.prog.follows .mixedOrders = true := by kernel_rfl
  clear hY hJ hJx hK hS0 hl h0 h1 h2 h3 hW
  gi_wp2
  gi_loopw [9] (fun i wr => ∃ (k : Nat) (S : Nat → Prop), k ≤ many ∧ i = .int .i64 (k : Nat) ∧ Hid (Going (fun k => k = b1 ∨ k = b2 ∨ k = b3) S0 S w W wr J (rinTo m n k))) (fun i _ => many - (intOf i).toNat)
  case atStart => exact ⟨0, S0, Nat.zero_le _, rfl, G0⟩
  case round =>
    obtain ⟨k, S, hk, rfl, HG⟩ := hrel
    by_cases hlt : k < many
    · obtain ⟨wo, hwo⟩ : ∃ wo, wo = wr := ⟨_, rfl⟩
      subst hwo
      have HCo := Lib.hid (HC.out wo HG.out.lies)
      have e2 := HCo.out.2.1.cell
      have R0 := Lib.hid (RowNow.start wo m)
      have HL := Lib.hid (ringTo_length m k)
      have hw1 : IntKind.i64.wrap ((k : Int) + (n : Int)) = (k : Int) + (n : Int) := IntWalk.i64_in _ ⟨by omega, by omega⟩
      gi_wp2
      gi_loopw [7] (fun i wq => ∃ j : Nat, j ≤ n ∧ i = .int .i64 ((k : Int) + (j : Int)) ∧ Hid (RowNow wo wq (ringTo m k j))) (fun i _ => k + n - (intOf i).toNat)
      case atStart => exact ⟨0, Nat.zero_le _, by simp, R0⟩
      case round =>
        obtain ⟨j, hj, rfl, HR⟩ := hrel
        have d2 := (HCo.out.2.1.below HR.out.bel HCo.out.2.1.lt).cell
        have d3 := (HCo.out.2.2.below HR.out.bel HCo.out.2.2.lt).cell
        by_cases hlj : j < n
        · obtain ⟨q, hq⟩ : ∃ q, q = (k + j) % m := ⟨_, rfl⟩
          have hqm : q < m := by rw [hq]; exact Nat.mod_lt _ (by omega)
          have HN2 : Hid (RowNow wo (wr.setCell ⟨wo.heap.size, q, none⟩ (.int .i64 1)) (ringTo m k (j + 1))) := by
            have := HR.out.poke q 1
            rw [hq] at this ⊢; exact this
          have hrow : World.rowIs _ _ _ _ _ := HR.out.row
          rw [HL.out j] at hrow
          have hc0 := hrow.cell (i := q) hqm
          have hf0 := hrow.frozen q
          have hlt2 : (k : Int) + (j : Int) < (k : Int) + (n : Int) := by omega
          have hmod : ((k : Int) + (j : Int)).tmod (m : Int) = (q : Int) := by rw [hq, Int.tmod_eq_emod_of_nonneg (by omega)]; rfl
          have hm0 : ¬ (m : Int) = 0 := by omega
          have hm1 : ((m : Int) == 0) = false := by rw [beq_eq_false_iff_ne]; omega
          have hqw : IntKind.i64.wrap (q : Int) = (q : Int) := IntWalk.i64_in _ ⟨by omega, by omega⟩
          have hw3 : IntKind.i64.wrap ((k : Int) + (j : Int) + 1) = (k : Int) + (j : Int) + 1 := IntWalk.i64_in _ ⟨by omega, by omega⟩
          clear hq
          clear hrow
          gi_wp2
          go_roundw
          case rel => exact ⟨j + 1, by omega, by first | (congr 1; done) | (congr 1; omega), HN2⟩
          case measure => simp [intOf]; omega
        · have hjn : j = n := by omega
          have hnlt : ¬ (k : Int) + (j : Int) < (k : Int) + (n : Int) := by omega
          have HR2 : Hid (RowNow wo wr (ringTo m k n)) := by rw [hjn] at HR; exact HR
          obtain ⟨post, hpost⟩ := rinTo_prefix m n hlt
          have hrd := HRD.out (rinTo m n k) post (ringTo m k n) S (fun b => b = wo.heap.size) _ wo wr HG.out HR2.out.bel hpost ⟨wo.heap.size, rfl, rfl, HR2.out.row⟩ (fun b hb => by subst hb; have := HR2.out.size; omega)
          rw [HL.out n] at hrd
          obtain ⟨fn, tmps, assign, body, hy, hR⟩ := hrd (9 - 1)
          have HRR := Lib.hid hR
          have HPOST := Lib.hid hpost
          clear hrd hR hpost hjn hlj
          gi_wp2_with (refine HRR.out.mono ?_; rintro e W3 ⟨b, rfl, hb1, hb2⟩; cases b <;> first | (have HJX := Lib.hid (hb2 rfl); clear hb1 hb2) | (obtain ⟨S', hg'⟩ := hb1 rfl; have HG' := Lib.hid hg'; clear hb1 hb2 hg'))
          all_goals first
            | (refine bodyPost_ret (results_none rfl _ _ _) rfl ?_
               exact ⟨⟨_, rfl⟩, .inr ⟨rinTo m n k ++ [ringTo m k n], by rw [HPOST.out]; exact ⟨post, by simp⟩, HJX.out⟩⟩)
            | (refine ⟨⟨k + 1, S', by omega, by simp, HG'.out⟩, ?_⟩
               simp [intOf]; omega)
            | (go_roundw
               case rel => exact ⟨k + 1, S', by omega, by go_num, HG'.out⟩
               case measure => simp [intOf]; omega)
    · have hkm : k = many := by omega
      have hnlt : ¬ (k : Int) < (many : Int) := by omega
      have HG' : Hid (Going (fun k => k = b1 ∨ k = b2 ∨ k = b3) S0 S w W wr J (rinTo m n many)) := by rw [hkm] at HG; exact HG
      clear hkm
      gi_wp2
      go_end0
      exact ⟨⟨_, rfl⟩, .inl ⟨S, HG'.out.of, HG'.out.inv⟩⟩

/-- the first k cells that are apart -/
def apartTo (n k : Nat) : List Int := (List.range k).map fun i => ((i * n : Nat) : Int)

theorem apartTo_succ (n k : Nat) : apartTo n (k + 1) = apartTo n k ++ [((k * n : Nat) : Int)] := by unfold apartTo; rw [List.range_succ, List.map_append]; rfl

theorem apartTo_length (n k : Nat) : (apartTo n k).length = k := by simp [apartTo]

theorem apartTo_prefix (n : Nat) {k many : Nat} (h : k < many) : ∃ post, apartTo n many = apartTo n k ++ ((k * n : Nat) : Int) :: post := by
  induction many with
  | zero => omega
  | succ r ih =>
    by_cases e : k = r
    · subst e; exact ⟨[], apartTo_succ n k⟩
    · obtain ⟨post, hp⟩ := ih (by omega)
      exact ⟨post ++ [((r * n : Nat) : Int)], by rw [apartTo_succ, hp]; simp⟩

set_option maxRecDepth 100000 in
set_option maxHeartbeats 2000000 in
theorem cellsIter (m n b1 b2 : Nat) (hm : 1 ≤ m) (hm2 : m ≤ 16) (hn : 1 ≤ n) (hnm : n ≤ m) (w : World)
    (h1 : Cell1 w b1 3 (.int .i64 (m : Nat))) (h2 : Cell1 w b2 3 (.int .i64 (n : Nat))) :
    IterS Try.prog 72 #[.pointer (some ⟨b1, 0, none⟩), .pointer (some ⟨b2, 0, none⟩)] IntGiven (apartTo n (wins m n)) (fun k => k = b1 ∨ k = b2) w := by
  intro l S0 J Jx W hW hK hS0 hJ hJx hY h0 hl nn
  refine callsIn_wide.2 ((callsIn_wide (n := 9)).1 ?_)
  refine callsIn_of_wp Try.func72 rfl trivial ?_ rfl
  simp only [Try.ntmps72, List.size_toArray, List.length_cons, List.length_nil, Nat.reduceAdd, Nat.reduceSub, Array.replicate_succ, Array.replicate_zero, List.push_toArray, List.append_toArray, List.nil_append, List.cons_append]
  have hwW := hW.size
  have G0 := Lib.hid (Going.start hW hS0 h0)
  have HRD := Lib.hid (fun (pre post : List Int) (x : Int) (S G : Nat → Prop) (v : Array Value) (wr W1 : World) (g : Going _ S0 S w W wr J pre) (hb : Below wr.heap.size wr W1) (hx : apartTo n (wins m n) = pre ++ x :: post) (hR : IntGiven x v G W1) (hG : ∀ k, G k → wr.heap.size ≤ k ∧ k < W1.heap.size) => Going.round hY hJ hK hwW hS0 hl g hb hx hR hG)
  have HC := Lib.hid (fun (wr : World) (hL : Lies (fun k => k = b1 ∨ k = b2) w wr) => And.intro (hL.cell1 (.inl rfl) h1) (hL.cell1 (.inr rfl) h2))
  have hmx : Try.prog.follows .mixedOrders = true := by kernel_rfl
  clear hY hJ hJx hK hS0 hl h0 h1 h2 hW
  gi_wp2
  gi_loopw [4] (fun i wr => ∃ (k p : Nat) (S : Nat → Prop), k ≤ wins m n ∧ Hid (p = k * n) ∧ i = .int .i64 (p : Nat) ∧ Hid (Going (fun k => k = b1 ∨ k = b2) S0 S w W wr J (apartTo n k))) (fun i _ => m - (intOf i).toNat)
  case atStart => exact ⟨0, 0, S0, Nat.zero_le _, (by show _ = _; simp), rfl, G0⟩
  case round =>
    obtain ⟨k, p, S, hk, HP, rfl, HG⟩ := hrel
    have HCo := Lib.hid (HC.out wr HG.out.lies)
    have e1 := HCo.out.1.cell
    have hkw := @wins_lt m n k hn
    rw [← HP.out] at hkw
    by_cases hlt : p < m
    · have hkl := hkw.2 hlt
      have hpn : Hid (p + n = (k + 1) * n) := by show _ = _; rw [Nat.add_mul, Nat.one_mul, HP.out]
      have hw1 : IntKind.i64.wrap ((p : Int) + (n : Int)) = (p : Int) + (n : Int) := IntWalk.i64_in _ ⟨by omega, by omega⟩
      have hlt2 : (p : Int) < (m : Int) := by omega
      obtain ⟨post, hpost⟩ := apartTo_prefix n hkl
      rw [← HP.out] at hpost
      have hrd := HRD.out (apartTo n k) post (p : Nat) S (fun _ => False) _ wr wr HG.out (Below.refl _ _) hpost ⟨rfl, rfl⟩ (fun b hb => hb.elim)
      obtain ⟨fn, tmps, assign, body, hy, hR⟩ := hrd (9 - 1)
      have HRR := Lib.hid hR
      have HPOST := Lib.hid hpost
      clear hrd hR hpost hkw
      gi_wp2_with (refine HRR.out.mono ?_; rintro e W3 ⟨b, rfl, hb1, hb2⟩; cases b <;> first | (have HJX := Lib.hid (hb2 rfl); clear hb1 hb2) | (obtain ⟨S', hg'⟩ := hb1 rfl; have HG' : Hid (Going (fun k => k = b1 ∨ k = b2) S0 S' w W W3 J (apartTo n (k + 1))) := (by rw [apartTo_succ, ← HP.out]; exact hg'); have e3 := (HC.out W3 HG'.out.lies).2.cell; clear hb1 hb2 hg'))
      all_goals first
        | (refine bodyPost_ret (results_none rfl _ _ _) rfl ?_
           exact ⟨⟨_, rfl⟩, .inr ⟨apartTo n k ++ [((p : Nat) : Int)], by rw [HPOST.out]; exact ⟨post, by simp⟩, HJX.out⟩⟩)
        | (refine ⟨⟨k + 1, p + n, S', by omega, hpn, by simp, HG'⟩, ?_⟩
           simp [intOf]; omega)
        | (go_roundw
           case rel => exact ⟨k + 1, p + n, S', by omega, hpn, by go_num, HG'⟩
           case measure => simp [intOf]; omega)
    · have hkm : k = wins m n := by omega
      have hnlt : ¬ (p : Int) < (m : Int) := by omega
      have HG' : Hid (Going (fun k => k = b1 ∨ k = b2) S0 S w W wr J (apartTo n (wins m n))) := by rw [hkm] at HG; exact HG
      clear hkm hkw
      gi_wp2
      go_end0
      exact ⟨⟨_, rfl⟩, .inl ⟨S, HG'.out.of, HG'.out.inv⟩⟩

end Go.Proofs.Ythdlepfkifngmaa

namespace Go.Proofs.Ythdlepfkifngmaa
set_option linter.unusedSimpArgs false
set_option linter.unusedVariables false
open Go.RowKit Go.Shelf

attribute [local go_sem] Oper.semAt_some

/-- the blocks that a table uses -/
def Uses (v : Value) (A : Nat → Option Addr) (g : List (List Int)) (k : Nat) : Prop := v.ownBlock = some k ∨ ∃ i, i < g.length ∧ 0 < (rowAt g i).length ∧ A i = some ⟨k, 0, none⟩

theorem GrowsR.uses_lt {w : World} {base hi : Nat} {v : Value} {A : Nat → Option Addr} {C : Nat → Nat} {g : List (List Int)} (h : GrowsR w base hi v A C g) {k : Nat} (hk : Uses v A g k) : base ≤ k ∧ k < hi := by
  rcases hk with h1 | ⟨i, h1, h2, h3⟩
  · exact ⟨((World.ownsRow.lt h.top) k h1).1, h.hib k h1⟩
  · obtain ⟨b, N, f, e, k1, k2, _⟩ := h.rows.own i h1 h2
    rw [h3] at e; injection e with e; injection e with e; subst e; exact ⟨k1, k2⟩

theorem GrowsR.keepS {w w' : World} {base hi : Nat} {v : Value} {A : Nat → Option Addr} {C : Nat → Nat} {g : List (List Int)} (h : GrowsR w base hi v A C g) (hk : ∀ k, Uses v A g k → w'.heap[k]? = w.heap[k]?) (hs : w.heap.size ≤ w'.heap.size) : GrowsR w' base hi v A C g := by
  refine ⟨ownsRow_of_block h.top fun k h1 => hk k (.inl h1), ⟨h.rows.cap, fun i hi h0 => ?_, h.rows.apart⟩, h.hib, Nat.le_trans h.hile hs⟩
  obtain ⟨b, N, f, e, k1, k2, k3, k4, k5⟩ := h.rows.own i hi h0
  exact ⟨b, N, f, e, k1, k2, k3.of_block (hk b (.inr ⟨i, hi, h0, e⟩)), k4, k5⟩

/-- behind an append of one row, which lies wherever, apart from the table's -/
theorem GrowsR.snocS {w w2 : World} {base : Nat} {v v' : Value} {A : Nat → Option Addr} {C : Nat → Nat} {g : List (List Int)} {l : List Int} {bn cn : Nat} {o : Obj}
    (h : GrowsR w base w.heap.size v A C g) (hl : OwnI w base w.heap.size (some ⟨bn, 0, none⟩) l) (hap : ¬ Uses v A g bn) (hc1 : l.length ≤ cn) (hc2 : cn ≤ maxLen)
    (hown : w2.ownsRow base 36 1 v' (g.length + 1) (rowVals A C g ++ [.slice (some ⟨bn, 0, none⟩) l.length cn])) (hg : (w.alloc o).grownBy w2 v.ownBlock) (hat : v'.ownBlock = v.ownBlock ∨ v'.ownBlock = some (w.heap.size + 1)) :
    GrowsR w2 base w2.heap.size v' (fun i => if i < g.length then A i else some ⟨bn, 0, none⟩) (fun i => if i < g.length then C i else cn) (g ++ [l]) ∧
      ∀ k, Uses v' (fun i => if i < g.length then A i else some ⟨bn, 0, none⟩) (g ++ [l]) k → Uses v A g k ∨ k = bn ∨ w.heap.size < k := by
  have hsz := hg.size
  simp at hsz
  have stays : ∀ (A0 : Option Addr) (l0 : List Int), OwnI w base w.heap.size A0 l0 → OwnI w2 base w2.heap.size A0 l0 := by
    intro A0 l0 ho h0
    obtain ⟨b, N, f, e, k1, k2, k3, k4, k5⟩ := ho h0
    refine ⟨b, N, f, e, k1, by omega, k3.of_block ?_, k4, k5⟩
    have hne : some b ≠ v.ownBlock := by
      intro e'
      rcases h.top_row with ⟨rfl, _⟩ | ⟨b', cap, f', rfl, _, _, _, h4, _⟩
      · cases e'
      · simp [Value.ownBlock] at e'
        exact rowIs_ne' k3 h4 e'
    rw [hg.block b (by simp; omega) hne, Below.heap_alloc _ _ _ (by omega)]
  have hget : ∀ i, i < g.length → rowAt (g ++ [l]) i = rowAt g i := fun i hi => rowAt_snoc_lt g l i hi
  have hget' : rowAt (g ++ [l]) g.length = l := rowAt_snoc_eq g l
  refine ⟨⟨?_, ⟨fun i hi => ?_, fun i hi => ?_, fun i j hi hj hne p q => ?_⟩, fun k hk => ?_, Nat.le_refl _⟩, fun k hk => ?_⟩
  · have e : rowVals (fun i => if i < g.length then A i else some ⟨bn, 0, none⟩) (fun i => if i < g.length then C i else cn) (g ++ [l]) = rowVals A C g ++ [.slice (some ⟨bn, 0, none⟩) l.length cn] := by
      unfold rowVals
      rw [List.length_append, List.length_singleton, List.range_succ, List.map_append]
      congr 1
      · refine List.map_congr_left fun i hi => ?_
        have hi := List.mem_range.1 hi
        simp only [if_pos hi, hget i hi]
      · simp [hget']
    rw [e, List.length_append]; exact hown
  · rw [List.length_append, List.length_singleton] at hi
    by_cases e : i < g.length
    · simp only [if_pos e]; rw [hget i e]; exact h.rows.cap i e
    · obtain rfl : i = g.length := by omega
      simp only [if_neg e]; rw [hget']; exact ⟨hc1, hc2⟩
  · rw [List.length_append, List.length_singleton] at hi
    by_cases e : i < g.length
    · simp only [if_pos e]; rw [hget i e]; exact stays _ _ (h.rows.own i e)
    · obtain rfl : i = g.length := by omega
      simp only [if_neg e]; rw [hget']; exact stays _ _ hl
  · rw [List.length_append, List.length_singleton] at hi hj
    by_cases ei : i < g.length
    · by_cases ej : j < g.length
      · simp only [if_pos ei, if_pos ej]
        rw [hget i ei] at p
        rw [hget j ej] at q
        exact h.rows.apart i j ei ej hne p q
      · simp only [if_pos ei, if_neg ej]
        rw [hget i ei] at p
        exact fun e => hap (.inr ⟨i, ei, p, e⟩)
    · obtain rfl : i = g.length := by omega
      have ej : j < g.length := by omega
      simp only [if_neg ei, if_pos ej]
      rw [hget j ej] at q
      exact fun e => hap (.inr ⟨j, ej, q, e.symm⟩)
  · rcases hat with e | e
    · rw [e] at hk; have := h.hib k hk; omega
    · rw [e] at hk; injection hk with hk
      have := (World.ownsRow.lt hown) k (by rw [e, hk])
      exact this.2
  · rcases hk with hk | ⟨i, hi, h0, hk⟩
    · rcases hat with e | e
      · rw [e] at hk; exact .inl (.inl hk)
      · rw [e] at hk; injection hk with hk; right; right; omega
    · rw [List.length_append, List.length_singleton] at hi
      by_cases ei : i < g.length
      · simp only [if_pos ei] at hk; rw [hget i ei] at h0; exact .inl (.inr ⟨i, ei, h0, hk⟩)
      · simp only [if_neg ei] at hk; injection hk with hk; injection hk with hk; exact .inr (.inl hk.symm)

/-- what AppendSeq keeps between two rounds: its variable in block w.heap.size, the table from there on -/
structure Collects (w : World) (pre : List (List Int)) (S : Nat → Prop) (W : World) : Prop where
  bel : Below w.heap.size w W
  ex : ∃ (v : Value) (A : Nat → Option Addr) (C : Nat → Nat), Cell1 W w.heap.size 25 v ∧ GrowsR W (w.heap.size + 1) W.heap.size v A C pre ∧ (∀ k, S k ↔ k = w.heap.size ∨ Uses v A pre k)

theorem Collects.own {w : World} {B : Nat} (hB : w.heap.size ≤ B) : Own1 B (fun pre S W => Collects w pre S W) := by
  intro pre S W W' ⟨hb, v, A, C, h1, h2, h3⟩ hl
  refine ⟨hb.trans (hl.below hb.size fun k hk => .inl (by omega)), v, A, C, h1.keep (hl.block _ h1.lt (.inr ((h3 _).2 (.inl rfl)))), ?_, h3⟩
  exact (h2.keepS (fun k hk => hl.block k (h2.uses_lt hk).2 (.inr ((h3 k).2 (.inr hk)))) hl.size).up hl.size (Nat.le_refl _)

end Go.Proofs.Ythdlepfkifngmaa

namespace Go.Proofs.Ythdlepfkifngmaa
set_option linter.unusedSimpArgs false
set_option linter.unusedVariables false
open Go.RowKit Go.Shelf

attribute [local go_sem] Oper.semAt_some

/-- a table of the call's own, its capacity told -/
def NewTableD (w : World) (g : List (List Int)) (e : Ending) (w' : World) : Prop :=
  ∃ (T : Option Addr) (c : Nat), e = .returned (.slice T g.length c) ∧ g.length ≤ c ∧ c ≤ maxLen ∧ Below w.heap.size w w' ∧ OwnR w' w.heap.size w'.heap.size T g

theorem NewTableD.plain {w w' : World} {g : List (List Int)} {e : Ending} (h : NewTableD w g e w') : NewTable w g e w' := by
  obtain ⟨T, c, h1, _, _, h2, h3⟩ := h; exact ⟨T, c, h1, h2, h3⟩

theorem GrowsR.base {w : World} {base base' hi : Nat} {v : Value} {A : Nat → Option Addr} {C : Nat → Nat} {g : List (List Int)} (h : GrowsR w base hi v A C g) (hb : base' ≤ base) : GrowsR w base' hi v A C g := by
  refine ⟨?_, ⟨h.rows.cap, fun i hi => (h.rows.own i hi).more hb (Nat.le_refl _), h.rows.apart⟩, h.hib, h.hile⟩
  obtain ⟨h1, h2 | ⟨b, cap, cur, h3, h4, h5⟩⟩ := h.top
  · exact ⟨h1, .inl h2⟩
  · exact ⟨h1, .inr ⟨b, cap, cur, h3, Nat.le_trans hb h4, h5⟩⟩

set_option maxRecDepth 100000 in
set_option maxHeartbeats 2000000 in
theorem appendSeqT (gf : Nat) (lb : Array Value) (xs : List (List Int)) (K : Nat → Prop) (w0 w : World) (hit : IterS Try.prog gf lb RowGiven xs K w0) (eg : ∀ args w, (callFunc gf args).run Try.prog w = .ok (.enter gf args) w)
    (hKw : Lies K w0 w) (hK1 : ∀ k, K k → k < w0.heap.size) (hlen : xs.length ≤ 65536) (hrow : ∀ x, x ∈ xs → 0 < x.length ∧ x.length ≤ 65536) :
    Calls Try.prog 65 #[.slice none 0 0, .func (.func gf) #[] lb] w (NewTableD w xs) := by
  have hKs := hKw.size
  obtain ⟨i0, hi1, hy0, hy1, hy2⟩ := info_parts infoR
  have HI1 := Lib.hid hi1
  have HY0 := Lib.hid hy0
  have HY1 := Lib.hid hy1
  have HY2 := Lib.hid hy2
  have HIT := Lib.hid hit
  have EG := Lib.hid eg
  have HROW := Lib.hid hrow
  clear hi1 hy0 hy1 hy2 hit eg hrow
  refine (callsIn_wide (n := 9)).1 ?_
  refine callsIn_of_wp_marks Try.func65 rfl trivial ?_ rfl
  refine wpIn_wide.2 ?_
  simp only [Try.ntmps65, List.size_toArray, List.length_cons, List.length_nil, Nat.reduceAdd, Nat.reduceSub, Array.replicate_succ, Array.replicate_zero, List.push_toArray, List.append_toArray, List.nil_append, List.cons_append]
  go_wp2_with fail
  obtain ⟨W1, hW1⟩ : ∃ W1 : World, W1 = w.alloc (.cells #[.slice none 0 0] 25) := ⟨_, rfl⟩
  have hz1 : W1.heap.size = w.heap.size + 1 := by rw [hW1]; simp
  have hb1 : Below w.heap.size w W1 := by rw [hW1]; exact (Below.refl _ w).alloc (Nat.le_refl _) _
  have hc1 : Cell1 W1 w.heap.size 25 (.slice none 0 0) := by rw [hW1]; exact Cell1.new _ _ _
  have h0 : Collects w [] (fun k => k = w.heap.size) W1 :=
    ⟨hb1, _, (fun _ => none), (fun _ => 0), hc1, GrowsR.nil W1 (Nat.le_refl _) _ _, fun k => ⟨.inl, fun h => h.elim id (fun h => by rcases h with h | ⟨i, hi, _⟩; cases h; cases hi)⟩⟩
  rw [← hW1]
  clear hW1 hc1
  have hKW := hKw.trans (Lies.of_below (K := K) hb1 (fun k _ hk => Nat.lt_of_lt_of_le (hK1 k hk) hKs))
  refine (wpIn_wide (n := 9)).1 ?_
  refine overOuterS (gf := gf) (lb := lb) rfl EG.out HIT.out hKW hK1 RowGiven.size
    (fun k => k = w.heap.size) (fun k hk => ⟨by omega, fun h => by have := hK1 k h; omega⟩)
    (fun pre S W => Collects w pre S W) (fun _ _ _ => False) (Collects.own (by omega)) (fun _ _ _ _ h _ => h) h0 ?hround ?hdone ?hstop
  case hstop => intro _ _ _ _ _ _ h; exact h.elim
  case hdone =>
    rintro D S W hD hS hSD ⟨hb, v, A, C, k1, k2, k3⟩ hKD
    have hsz := hb.size
    have k4 : GrowsR (W.putObj D (.deferred none)) w.heap.size (W.putObj D (.deferred none)).heap.size v A C xs := by
      refine ((k2.keepS (fun k hk => World.putObj_heap_other fun e => hSD ?_) (by simp)).up (by simp) (Nat.le_refl _)).base (by omega)
      rw [← e]; exact (k3 k).2 (.inr hk)
    obtain ⟨T, c, rfl, hl1, hl2, hot⟩ := k4.table
    have e1 := k1.cell
    have hb2 : Below w.heap.size w (W.putObj D (.deferred none)) := hb.trans ⟨rfl, rfl, rfl, by simp, fun k hk => World.putObj_heap_other (by omega)⟩
    have HL2 := Lib.hid hl2
    have HK4 := Lib.hid hot
    clear k4 hot hl2
    go_wp2_with fail
    refine ⟨by simp, .inl ⟨_, _, rfl, run_takeDeferred hKD, ?_⟩⟩
    exact ⟨.slice T xs.length c, by simp [results, Try.results65, go_sem], T, c, rfl, hl1, HL2.out, hb2, HK4.out⟩
  case hround =>
    rintro l pre x post S G v W hx hl1 hl2 hbg hSo hSl hGl ⟨hb, vs, A, C, k1, k2, k3⟩ ⟨b, rfl, rfl, hrw⟩ K' hK'
    gi_wp2
    refine hK' _ _ (Below.refl _ W) ?_
    intro W2 ht
    clear hK' K'
    have hs2 := ht.size
    have hmem : x ∈ xs := by rw [hx]; simp
    have hxl := HROW.out x hmem
    have hpl : pre.length + 1 ≤ 65536 := by rw [hx, List.length_append, List.length_cons] at hlen; omega
    have q1 : Cell1 W2 w.heap.size 25 vs := k1.turn ht (by omega)
    have hus : ∀ k, Uses vs A pre k → S k := fun k hk => (k3 k).2 (.inr hk)
    have g2 : GrowsR W2 (w.heap.size + 1) W2.heap.size vs A C pre := (k2.keepS (fun k hk => ht.other fun e => hSl (by rw [← e]; exact hus k hk)) (by omega)).up (by omega) (Nat.le_refl _)
    have hbb := hbg.fresh b rfl
    have hr2 : IntRow W2 b x := World.rowIs.of_block hrw (ht.other (by intro e; exact hGl e.symm))
    have ho2 : OwnI W2 (w.heap.size + 1) W2.heap.size (some ⟨b, 0, none⟩) x := fun _ => ⟨b, x.length, _, rfl, by omega, by omega, hr2, Nat.le_refl _, fun _ _ => rfl⟩
    have hap : ¬ Uses vs A pre b := fun h => hbb.2.2 (hus b h)
    have e1 := q1.cell
    have hb2 : Below w.heap.size w W2 := hb.trans (ht.below (by omega))
    have G2 := Lib.hid g2
    have hnb : vs.ownBlock ≠ some w.heap.size := fun e => by have := (g2.uses_lt (.inl e)).1; omega
    have h24 : (pre.length + 1) * 24 ≤ 140737488355328 := by omega
    have hmax : pre.length + 1 ≤ maxLen := by unfold maxLen; omega
    have HMX : Hid (x.length ≤ maxLen) := by show _ ≤ _; unfold maxLen; omega
    have HO2 := Lib.hid ho2
    have HAP := Lib.hid hap
    have HUS := Lib.hid hus
    have HB2 := Lib.hid hb2
    have K3 := Lib.hid k3
    have HNB := Lib.hid hnb
    have Q1 := Lib.hid q1
    have HS2 := Lib.hid hs2
    have hlo : w.heap.size + 1 ≤ W2.heap.size := by omega
    have HWL : Hid (w.heap.size < W.heap.size) := by show _ < _; omega
    clear k1 k2 k3 hrw hbg hus g2 hr2 ho2 hap hb2 hnb q1 hmem hxl hlen hs2 hx hpl hbb hb h0 hb1 hz1 hSo hSl hGl hl1 hl2 ht
    gi_wp2_with (gi_at_builtin; refine wpListIn_append_own_at _ rfl (.tmp 8) (.tmp 10) _ rfl (w.heap.size + 1) 36 i0 (.slice none 0 0) 1 24 Try.underlying25 HI1.out HY0.out HY1.out HY2.out rfl (by decide) _ _ _ rfl (G2.out.alloc _) ⟨W2.heap.size, 0, none⟩ 1 1 [.slice (some ⟨b, 0, none⟩) x.length x.length] rfl rfl ?c1 ?c2 ?c3 ?c4 ?c5 ?_)
    case c1 => exact cell_one_new _ _ _
    case c2 => first | rfl | (intro u hu; simp at hu; subst hu; rfl)
    case c3 => exact hmax
    case c4 => exact h24
    case c5 => simp; omega
    intro v' w5 hown hgrow _ hat
    obtain ⟨gb, cap', rfl⟩ := ownsRow_succ hown
    obtain ⟨A', C', hgr, huse⟩ : ∃ (A' : Nat → Option Addr) (C' : Nat → Nat), GrowsR w5 (w.heap.size + 1) w5.heap.size (.slice (some ⟨gb, 0, none⟩) (pre.length + 1) cap') A' C' (pre ++ [x]) ∧ ∀ k, Uses (.slice (some ⟨gb, 0, none⟩) (pre.length + 1) cap') A' (pre ++ [x]) k → Uses vs A pre k ∨ k = b ∨ W2.heap.size < k :=
      ⟨_, _, G2.out.snocS (l := x) (bn := b) (cn := x.length) HO2.out HAP.out (Nat.le_refl _) HMX.out hown hgrow (by rcases hat with e | e; exact .inl e; exact .inr (by first | (rw [e]; done) | (rw [e]; simp)))⟩
    have q5 : Cell1 w5 w.heap.size 25 vs := (Q1.out.alloc _).keep (hgrow.block _ (by simp; omega) (fun e => HNB.out e.symm))
    have e5 := q5.cell
    have f5 := q5.frozen
    have hsz5 := hgrow.size
    simp only [World.size_alloc] at hsz5
    have HGR := Lib.hid hgr
    have HUSE := Lib.hid huse
    have Q5 := Lib.hid q5
    have HGROW := Lib.hid hgrow
    clear hown hgrow hat hgr huse q5
    gi_wp2
    have hb5 : Below w.heap.size w w5 := (HB2.out.alloc (by omega) _).grown HGROW.out (by simp; omega) (fun k hk => by have := (G2.out.uses_lt (.inl hk)).1; omega)
    refine ⟨fun k => k = w.heap.size ∨ Uses (.slice (some ⟨gb, 0, none⟩) (pre.length + 1) cap') A' (pre ++ [x]) k, ⟨fun k hk => ?_, fun k hk => ?_⟩, ⟨hb5.setCell (Nat.le_refl _) _, _, A', C', Q5.out.set _, ?_, fun k => Iff.rfl⟩, ?_⟩
    · rcases hk with rfl | hk
      · exact .inl ((K3.out _).2 (.inl rfl))
      · rcases HUSE.out k hk with h | h | h
        · exact .inl (HUS.out k h)
        · exact .inr (.inl h)
        · right; right; have := HS2.out; omega
    · simp only [World.setCell, Array.size_modify]
      rcases hk with rfl | hk
      · omega
      · exact (HGR.out.uses_lt hk).2
    · refine (HGR.out.keepS (fun k hk => Below.heap_setCell _ _ _ _ ?_) (by simp [World.setCell])).up (by simp [World.setCell]) (Nat.le_refl _)
      have := (HGR.out.uses_lt hk).1; show k ≠ w.heap.size; omega
    · refine ((Lies.alloc _ _).trans (Lies.grown HGROW.out (fun k hk h => h.2.1 (HUS.out k (.inl hk))))).trans (Lies.setCell _ _ _ (fun h => h.2.1 ((K3.out _).2 (.inl rfl))))

set_option maxHeartbeats 1000000 in
theorem collectT (gf : Nat) (lb : Array Value) (xs : List (List Int)) (K : Nat → Prop) (w0 w : World) (hit : IterS Try.prog gf lb RowGiven xs K w0) (eg : ∀ args w, (callFunc gf args).run Try.prog w = .ok (.enter gf args) w)
    (hKw : Lies K w0 w) (hK1 : ∀ k, K k → k < w0.heap.size) (hlen : xs.length ≤ 65536) (hrow : ∀ x, x ∈ xs → 0 < x.length ∧ x.length ≤ 65536) :
    Calls Try.prog 47 #[.func (.func gf) #[] lb] w (NewTableD w xs) := by
  have HA := Lib.hid (fun w' (hb : Below w.heap.size w w') => appendSeqT gf lb xs K w0 w' hit eg (hKw.trans (Lies.of_below hb (fun k h _ => h))) hK1 hlen hrow)
  clear hit eg hKw hK1 hlen hrow
  go_enter Try.func47, Try.ntmps47
  go_wp2_with (go_at_call 65; refine (HA.out _ (by repeat (first | exact Below.refl _ _ | assumption | exact bel1 (by assumption) | exact bel2 (by assumption) | exact bel3 (by assumption) | exact bel4 (by assumption) | refine Below.drew ?_ | refine below_drewN ?_ _ | refine Below.setCell ?_ (by first | (simp; done) | (simp; omega)) _ | refine Below.alloc ?_ (by first | (simp; done) | (simp; omega)) _))).mono ?_; rintro e w1 ⟨T, c, rfl, h1, h2, h3, h4⟩)
  go_ret
  exact ⟨T, c, rfl, h1, h2, h3, h4⟩

end Go.Proofs.Ythdlepfkifngmaa

namespace Go.Proofs.Ythdlepfkifngmaa
set_option linter.unusedSimpArgs false
set_option linter.unusedVariables false
open Go.RowKit

theorem winG_len (c d : Int) : (winG c d).length ≤ 16 ∧ ∀ i, i < (winG c d).length → (rowAt (winG c d) i).length ≤ 16 := by
  rcases hb : winB c d with _ | _
  · rw [(win_no hb).1]; exact ⟨by decide, fun i hi => by simp at hi⟩
  · obtain ⟨m, n, rfl, rfl, h1, h2, h3, h4⟩ := win_nat hb
    rw [(win_yes hb).1]
    have hg := allWin_at win_all_game hb
    rw [Bool.and_eq_true] at hg
    have hk := Game.of hg.1
    exact ⟨hk.hi, fun i hi => by rw [hk.len i hi]; exact hk.mhi⟩

theorem rinG_len (c d : Int) : (rinG c d).length ≤ 16 ∧ ∀ i, i < (rinG c d).length → (rowAt (rinG c d) i).length ≤ 16 := by
  rcases hb : winB c d with _ | _
  · rw [(win_no hb).2.1]; exact ⟨by decide, fun i hi => by simp at hi⟩
  · obtain ⟨m, n, rfl, rfl, h1, h2, h3, h4⟩ := win_nat hb
    rw [(win_yes hb).2.1]
    have hg := allWin_at win_all_game hb
    rw [Bool.and_eq_true] at hg
    have hk := Game.of hg.2
    exact ⟨hk.hi, fun i hi => by rw [hk.len i hi]; exact hk.mhi⟩

theorem lookL_len (c d : Int) : (lookL c d).length ≤ 16 := by
  rcases hb : winB c d with _ | _
  · rw [(win_no hb).2.2.2.1]; decide
  · obtain ⟨m, n, rfl, rfl, h1, h2, h3, h4⟩ := win_nat hb
    rw [(win_yes hb).2.2.2.1, show (lookT m n).length = m - n + 1 from lookTo_length _ _ _]; omega

theorem hideL_len (c d : Int) : (hideL c d).length ≤ 16 := by
  rcases hb : winB c d with _ | _
  · rw [(win_no hb).2.2.2.2]; decide
  · obtain ⟨m, n, rfl, rfl, h1, h2, h3, h4⟩ := win_nat hb
    rw [(win_yes hb).2.2.2.2, show (hideT m n).length = m from hideTo_length _ _ _]; omega

/-- what the program's functions on windows are asked -/
structure Impl7 : Prop where
  wins : ∀ (c d : Int) (_ : (Lit.int .i64 c).wf = true) (_ : (Lit.int .i64 d).wf = true) (w : World), Calls Try.prog 17 #[.int .i64 c, .int .i64 d] w (Adds (.int .i64 (winV c d)) w)
  game : ∀ (c d : Int) (_ : (Lit.int .i64 c).wf = true) (_ : (Lit.int .i64 d).wf = true) (w : World), Calls Try.prog 14 #[.int .i64 c, .int .i64 d] w (NewTable w (winG c d))
  look : ∀ (c d : Int) (_ : (Lit.int .i64 c).wf = true) (_ : (Lit.int .i64 d).wf = true) (w : World), Calls Try.prog 23 #[.int .i64 c, .int .i64 d] w (NewList w (lookL c d))
  hide : ∀ (c d : Int) (_ : (Lit.int .i64 c).wf = true) (_ : (Lit.int .i64 d).wf = true) (w : World), Calls Try.prog 24 #[.int .i64 c, .int .i64 d] w (NewList w (hideL c d))
  ring : ∀ (c d : Int) (_ : (Lit.int .i64 c).wf = true) (_ : (Lit.int .i64 d).wf = true) (w : World), Calls Try.prog 34 #[.int .i64 c, .int .i64 d] w (NewTable w (rinG c d))

set_option maxHeartbeats 2000000 in
set_option maxRecDepth 100000 in
theorem wFnExactWindowsFor (I : Impl7) (x0 : Int) (l0 : (Lit.int .i64 x0).wf = true) (x1 : Int) (l1 : (Lit.int .i64 x1).wf = true) (w : World)  :
    Calls Try.prog 9 #[.int .i64 x0, .int .i64 x1] w (Adds (.bool true) w) := by
  go_enter Try.func9, Try.ntmps9
  go_wp2_with fail
  refine ((winsFor_spec x0 x1 _).mono fun _ _ => Same.adds).mono ?_
  rintro e w1 ⟨rfl, hb1⟩
  have BEL0 := Lib.hid hb1
  clear hb1
  go_wp2_with fail
  refine (I.wins x0 x1 l0 l1 _).mono ?_
  rintro e w2 ⟨rfl, hb2⟩
  replace BEL0 := Lib.hid (belT BEL0.out hb2)
  clear hb2
  have zB : (winV x0 x1 != winV x0 x1) = false := by simp
  go_wp2_with fail
  go_ret
  exact Adds.of rfl BEL0.out

set_option maxHeartbeats 4000000 in
set_option maxRecDepth 100000 in
theorem wFnExactLookPlan (I : Impl7) (x0 : Int) (l0 : (Lit.int .i64 x0).wf = true) (x1 : Int) (l1 : (Lit.int .i64 x1).wf = true) (w : World)  :
    Calls Try.prog 10 #[.int .i64 x0, .int .i64 x1] w (Adds (.bool true) w) := by
  have le_w : w.heap.size ≤ w.heap.size := Nat.le_refl _
  have hsl := lookL_len x0 x1
  have HSL : Hid ((lookL x0 x1).length ≤ maxLen) := by show _ ≤ _; unfold maxLen; omega
  go_enter Try.func10, Try.ntmps10
  go_wp2_with fail
  refine (lookPlan_spec x0 x1 _).mono ?_
  rintro e w1 ⟨TV, cV, rfl, hb1, ho1⟩
  have V := Lib.hid ho1.lt
  replace le_w := Nat.le_trans le_w hb1.size
  have BEL0 := Lib.hid hb1
  have o_w_w1 : w.heap.size ≤ w1.heap.size := le_w
  have le_w1 : w1.heap.size ≤ w1.heap.size := Nat.le_refl _
  clear hb1 ho1
  go_wp2_with fail
  refine (I.look x0 x1 l0 l1 _).mono ?_
  rintro e w2 ⟨TG, cG, rfl, hb2, ho2⟩
  have G := Lib.hid ho2
  replace V := Lib.hid (keepInts (hb2.mono le_w1) V.out)
  replace le_w := Nat.le_trans le_w hb2.size
  replace le_w1 := Nat.le_trans le_w1 hb2.size
  replace BEL0 := Lib.hid (belT BEL0.out hb2)
  have o_w1_w2 : w1.heap.size ≤ w2.heap.size := le_w1
  have le_w2 : w2.heap.size ≤ w2.heap.size := Nat.le_refl _
  clear hb2 ho2
  go_wp2_with fail
  refine (eqIntS _ _ _ _ (lookL x0 x1) _ _ HSL.out _ (G.out.lt.lt le_w2) (V.out.lt le_w1)).mono ?_
  rintro e w3 ⟨rfl, hq3⟩
  have hb3 : Below w2.heap.size w2 w3 := by obtain ⟨n, rfl⟩ := hq3; exact below_drewN (Below.refl _ _) n
  replace G := Lib.hid (G.out.below (hb3.mono le_w2))
  replace V := Lib.hid (keepInts (hb3.mono le_w1) V.out)
  replace le_w := Nat.le_trans le_w hb3.size
  replace le_w1 := Nat.le_trans le_w1 hb3.size
  replace le_w2 := Nat.le_trans le_w2 hb3.size
  replace BEL0 := Lib.hid (belT BEL0.out hb3)
  clear hq3 hb3
  have kpos : 0 ≤ 1 := by omega
  go_wp2_with fail
  refine (markIntS _ _ (lookL x0 x1) _ _ 1 (by omega) (by omega) (by omega) _ G.out).mono ?_
  rintro e w4 ⟨rfl, ht4, ho4⟩
  have hf4 := ht4.off G.out
  clear ht4
  replace G := Lib.hid ho4
  replace V := Lib.hid (keepInts (hf4.below (by omega)) V.out)
  have hz4 := hf4.size
  replace le_w : w.heap.size ≤ w4.heap.size := by omega
  replace le_w1 : w1.heap.size ≤ w4.heap.size := by omega
  replace le_w2 : w2.heap.size ≤ w4.heap.size := by omega
  replace BEL0 := Lib.hid (BEL0.out.trans (hf4.below (by omega)))
  clear hf4 hz4 ho4
  have zz : ((1 + ((lookL x0 x1).length : Int)) != (1 + ((lookL x0 x1).length : Int))) = false := by simp
  go_wp2_with fail
  refine (heldIntS _ _ (lookL x0 x1).length _ 1 (by omega) (by omega) (by omega) _ G.out.ints).mono ?_
  rintro e wz ⟨rfl, rfl⟩
  have o_w2_w4 : w2.heap.size ≤ w4.heap.size := le_w2
  have le_w4 : w4.heap.size ≤ w4.heap.size := Nat.le_refl _
  go_wp2_with fail
  refine (I.look x0 x1 l0 l1 _).mono ?_
  rintro e w5 ⟨TH, cH, rfl, hb5, ho5⟩
  have H := Lib.hid ho5
  replace G := Lib.hid (G.out.below (hb5.mono le_w2))
  replace V := Lib.hid (keepInts (hb5.mono le_w1) V.out)
  replace le_w := Nat.le_trans le_w hb5.size
  replace le_w1 := Nat.le_trans le_w1 hb5.size
  replace le_w2 := Nat.le_trans le_w2 hb5.size
  replace le_w4 := Nat.le_trans le_w4 hb5.size
  replace BEL0 := Lib.hid (belT BEL0.out hb5)
  have o_w4_w5 : w4.heap.size ≤ w5.heap.size := le_w4
  have le_w5 : w5.heap.size ≤ w5.heap.size := Nat.le_refl _
  clear hb5 ho5
  go_wp2_with fail
  refine (eqIntS _ _ _ _ (lookL x0 x1) _ _ HSL.out _ (H.out.lt.lt le_w5) (V.out.lt le_w1)).mono ?_
  rintro e w6 ⟨rfl, hq6⟩
  have hb6 : Below w5.heap.size w5 w6 := by obtain ⟨n, rfl⟩ := hq6; exact below_drewN (Below.refl _ _) n
  replace G := Lib.hid (G.out.below (hb6.mono le_w2))
  replace H := Lib.hid (H.out.below (hb6.mono le_w5))
  replace V := Lib.hid (keepInts (hb6.mono le_w1) V.out)
  replace le_w := Nat.le_trans le_w hb6.size
  replace le_w1 := Nat.le_trans le_w1 hb6.size
  replace le_w2 := Nat.le_trans le_w2 hb6.size
  replace le_w4 := Nat.le_trans le_w4 hb6.size
  replace le_w5 := Nat.le_trans le_w5 hb6.size
  replace BEL0 := Lib.hid (belT BEL0.out hb6)
  clear hq6 hb6
  clear H
  clear V
  go_wp2_with fail
  refine (heldIntS _ _ (lookL x0 x1).length _ 1 (by omega) (by omega) (by omega) _ G.out.ints).mono ?_
  rintro e wz ⟨rfl, rfl⟩
  go_wp2_with fail
  go_ret
  exact Adds.of rfl BEL0.out

set_option maxHeartbeats 4000000 in
set_option maxRecDepth 100000 in
theorem wFnExactHidePlan (I : Impl7) (x0 : Int) (l0 : (Lit.int .i64 x0).wf = true) (x1 : Int) (l1 : (Lit.int .i64 x1).wf = true) (w : World)  :
    Calls Try.prog 11 #[.int .i64 x0, .int .i64 x1] w (Adds (.bool true) w) := by
  have le_w : w.heap.size ≤ w.heap.size := Nat.le_refl _
  have hsl := hideL_len x0 x1
  have HSL : Hid ((hideL x0 x1).length ≤ maxLen) := by show _ ≤ _; unfold maxLen; omega
  go_enter Try.func11, Try.ntmps11
  go_wp2_with fail
  refine (hidePlan_spec x0 x1 _).mono ?_
  rintro e w1 ⟨TV, cV, rfl, hb1, ho1⟩
  have V := Lib.hid ho1.lt
  replace le_w := Nat.le_trans le_w hb1.size
  have BEL0 := Lib.hid hb1
  have o_w_w1 : w.heap.size ≤ w1.heap.size := le_w
  have le_w1 : w1.heap.size ≤ w1.heap.size := Nat.le_refl _
  clear hb1 ho1
  go_wp2_with fail
  refine (I.hide x0 x1 l0 l1 _).mono ?_
  rintro e w2 ⟨TG, cG, rfl, hb2, ho2⟩
  have G := Lib.hid ho2
  replace V := Lib.hid (keepInts (hb2.mono le_w1) V.out)
  replace le_w := Nat.le_trans le_w hb2.size
  replace le_w1 := Nat.le_trans le_w1 hb2.size
  replace BEL0 := Lib.hid (belT BEL0.out hb2)
  have o_w1_w2 : w1.heap.size ≤ w2.heap.size := le_w1
  have le_w2 : w2.heap.size ≤ w2.heap.size := Nat.le_refl _
  clear hb2 ho2
  go_wp2_with fail
  refine (eqIntS _ _ _ _ (hideL x0 x1) _ _ HSL.out _ (G.out.lt.lt le_w2) (V.out.lt le_w1)).mono ?_
  rintro e w3 ⟨rfl, hq3⟩
  have hb3 : Below w2.heap.size w2 w3 := by obtain ⟨n, rfl⟩ := hq3; exact below_drewN (Below.refl _ _) n
  replace G := Lib.hid (G.out.below (hb3.mono le_w2))
  replace V := Lib.hid (keepInts (hb3.mono le_w1) V.out)
  replace le_w := Nat.le_trans le_w hb3.size
  replace le_w1 := Nat.le_trans le_w1 hb3.size
  replace le_w2 := Nat.le_trans le_w2 hb3.size
  replace BEL0 := Lib.hid (belT BEL0.out hb3)
  clear hq3 hb3
  have kpos : 0 ≤ 1 := by omega
  go_wp2_with fail
  refine (markIntS _ _ (hideL x0 x1) _ _ 1 (by omega) (by omega) (by omega) _ G.out).mono ?_
  rintro e w4 ⟨rfl, ht4, ho4⟩
  have hf4 := ht4.off G.out
  clear ht4
  replace G := Lib.hid ho4
  replace V := Lib.hid (keepInts (hf4.below (by omega)) V.out)
  have hz4 := hf4.size
  replace le_w : w.heap.size ≤ w4.heap.size := by omega
  replace le_w1 : w1.heap.size ≤ w4.heap.size := by omega
  replace le_w2 : w2.heap.size ≤ w4.heap.size := by omega
  replace BEL0 := Lib.hid (BEL0.out.trans (hf4.below (by omega)))
  clear hf4 hz4 ho4
  have zz : ((1 + ((hideL x0 x1).length : Int)) != (1 + ((hideL x0 x1).length : Int))) = false := by simp
  go_wp2_with fail
  refine (heldIntS _ _ (hideL x0 x1).length _ 1 (by omega) (by omega) (by omega) _ G.out.ints).mono ?_
  rintro e wz ⟨rfl, rfl⟩
  have o_w2_w4 : w2.heap.size ≤ w4.heap.size := le_w2
  have le_w4 : w4.heap.size ≤ w4.heap.size := Nat.le_refl _
  go_wp2_with fail
  refine (I.hide x0 x1 l0 l1 _).mono ?_
  rintro e w5 ⟨TH, cH, rfl, hb5, ho5⟩
  have H := Lib.hid ho5
  replace G := Lib.hid (G.out.below (hb5.mono le_w2))
  replace V := Lib.hid (keepInts (hb5.mono le_w1) V.out)
  replace le_w := Nat.le_trans le_w hb5.size
  replace le_w1 := Nat.le_trans le_w1 hb5.size
  replace le_w2 := Nat.le_trans le_w2 hb5.size
  replace le_w4 := Nat.le_trans le_w4 hb5.size
  replace BEL0 := Lib.hid (belT BEL0.out hb5)
  have o_w4_w5 : w4.heap.size ≤ w5.heap.size := le_w4
  have le_w5 : w5.heap.size ≤ w5.heap.size := Nat.le_refl _
  clear hb5 ho5
  go_wp2_with fail
  refine (eqIntS _ _ _ _ (hideL x0 x1) _ _ HSL.out _ (H.out.lt.lt le_w5) (V.out.lt le_w1)).mono ?_
  rintro e w6 ⟨rfl, hq6⟩
  have hb6 : Below w5.heap.size w5 w6 := by obtain ⟨n, rfl⟩ := hq6; exact below_drewN (Below.refl _ _) n
  replace G := Lib.hid (G.out.below (hb6.mono le_w2))
  replace H := Lib.hid (H.out.below (hb6.mono le_w5))
  replace V := Lib.hid (keepInts (hb6.mono le_w1) V.out)
  replace le_w := Nat.le_trans le_w hb6.size
  replace le_w1 := Nat.le_trans le_w1 hb6.size
  replace le_w2 := Nat.le_trans le_w2 hb6.size
  replace le_w4 := Nat.le_trans le_w4 hb6.size
  replace le_w5 := Nat.le_trans le_w5 hb6.size
  replace BEL0 := Lib.hid (belT BEL0.out hb6)
  clear hq6 hb6
  clear H
  clear V
  go_wp2_with fail
  refine (heldIntS _ _ (hideL x0 x1).length _ 1 (by omega) (by omega) (by omega) _ G.out.ints).mono ?_
  rintro e wz ⟨rfl, rfl⟩
  go_wp2_with fail
  go_ret
  exact Adds.of rfl BEL0.out

end Go.Proofs.Ythdlepfkifngmaa

namespace Go.Proofs.Ythdlepfkifngmaa
set_option linter.unusedSimpArgs false
set_option linter.unusedVariables false
open Go.RowKit Go.Shelf

attribute [local go_sem] Oper.semAt_some

theorem ring_row (m k : Nat) : ∀ (n : Nat), k + n ≤ m → ringTo m k n = rowTo m k n
  | 0, _ => rfl
  | n + 1, h => by
    show (ringTo m k n).set ((k + n) % m) 1 = (rowTo m k n).set (k + n) 1
    rw [ring_row m k n (by omega), Nat.mod_eq_of_lt (by omega)]

theorem rin_win (m n : Nat) (hn : n ≤ m) : ∀ (k : Nat), k ≤ m - n + 1 → rinTo m n k = winTo m n k
  | 0, _ => rfl
  | k + 1, h => by
    show rinTo m n k ++ [ringTo m k n] = winTo m n k ++ [rowTo m k n]
    rw [rin_win m n hn k (by omega), ring_row m k n (by omega)]

theorem rinTo_rows (m n : Nat) : ∀ (k : Nat), ∀ x, x ∈ rinTo m n k → x.length = m
  | 0, x, h => by cases h
  | k + 1, x, h => by
    rcases List.mem_append.1 h with h | h
    · exact rinTo_rows m n k x h
    · rw [List.mem_singleton.1 h]; exact ringTo_length m k n

theorem apartTo_at {n many : Nat} {pre post : List Int} {x : Int} (h : apartTo n many = pre ++ x :: post) : pre.length < many ∧ x = ((pre.length * n : Nat) : Int) ∧ pre.length + 1 ≤ many := by
  have hl : (apartTo n many).length = many := apartTo_length n many
  have h1 : pre.length < many := by rw [h] at hl; simp at hl; omega
  refine ⟨h1, ?_, h1⟩
  have h2 : (apartTo n many)[pre.length]? = some x := by rw [h]; simp
  unfold apartTo at h2
  rw [List.getElem?_map, List.getElem?_range h1] at h2
  simpa using h2.symm

theorem IntRow.poke {W : World} {b : Nat} {l : List Int} (h : IntRow W b l) (k : Nat) (x : Int) : IntRow (W.setCell ⟨b, k, none⟩ (.int .i64 x)) b (l.set k x) := by
  show World.rowIs _ _ _ _ _
  rw [List.length_set]
  refine (World.rowIs.set h k _).congr fun i hi => ?_
  rw [nth_setk _ _ _ _ hi]
  by_cases e : i = k
  · rw [if_pos e, if_pos e]
  · rw [if_neg e, if_neg e]

set_option maxHeartbeats 400000 in
theorem viewOkI (c d : Int) (w : World) : Calls Try.prog 46 #[.int .i64 c, .int .i64 d] w (Same (.bool (winB c d)) w) := by
  rcases h1 : inR c 1 16 with _ | _
  · have h2 : winB c d = false := by unfold winB; rw [h1]; rfl
    rw [h2]
    go_enter Try.func46, Try.ntmps46
    go_wp2_with (go_at_call 53; refine (sideOkI _ _).mono ?_; rintro e w1 ⟨rfl, rfl⟩; rw [h1])
    go_ret
    exact Same.of rfl
  · by_cases h3 : 1 ≤ d
    · by_cases h4 : d ≤ c
      · have h2 : winB c d = true := by unfold winB; rw [h1]; simp [inR, h3, h4]
        rw [h2]
        go_enter Try.func46, Try.ntmps46
        go_wp2_with (go_at_call 53; refine (sideOkI _ _).mono ?_; rintro e w1 ⟨rfl, rfl⟩; rw [h1])
        go_ret
        exact Same.of (by simp)
      · have h2 : winB c d = false := by unfold winB; rw [h1]; simp [inR, h4]
        rw [h2]
        go_enter Try.func46, Try.ntmps46
        go_wp2_with (go_at_call 53; refine (sideOkI _ _).mono ?_; rintro e w1 ⟨rfl, rfl⟩; rw [h1])
        go_ret
        exact Same.of (by simp; try omega)
    · have h2 : winB c d = false := by unfold winB; rw [h1]; simp [inR, h3]
      rw [h2]
      have hd : decide ((1 : Int) ≤ d) = false := by simp; omega
      go_enter Try.func46, Try.ntmps46
      go_wp2_with (go_at_call 53; refine (sideOkI _ _).mono ?_; rintro e w1 ⟨rfl, rfl⟩; rw [h1])
      go_ret
      exact Same.of (by simp)

theorem windowsInI (m n : Nat) (h1 : n ≤ m) (h2 : m ≤ 16) (w : World) : Calls Try.prog 49 #[.int .i64 (m : Nat), .int .i64 (n : Nat)] w (Same (.int .i64 ((m - n + 1 : Nat) : Int)) w) := by
  have e1 : IntKind.i64.wrap ((m : Int) - (n : Int)) = (m : Int) - (n : Int) := IntWalk.i64_in _ ⟨by omega, by omega⟩
  have e2 : IntKind.i64.wrap ((m : Int) - (n : Int) + 1) = (m : Int) - (n : Int) + 1 := IntWalk.i64_in _ ⟨by omega, by omega⟩
  have e3 : (m : Int) - (n : Int) + 1 = ((m - n + 1 : Nat) : Int) := by omega
  rw [← e3]
  clear e3
  go_enter Try.func49, Try.ntmps49
  go_wp2_with fail
  go_ret
  exact Same.of rfl

set_option maxHeartbeats 1000000 in
theorem winsFor_impl (c d : Int) (w : World) :
    Calls Try.prog 17 #[.int .i64 c, .int .i64 d] w (Adds (.int .i64 (winV c d)) w) := by
  have hv := viewOkI c d
  rcases hb : winB c d with _ | _
  · have HN := Lib.hid (win_no hb)
    rw [HN.out.2.2.1]
    rw [hb] at hv
    have HV := Lib.hid hv
    clear hb hv
    go_enter Try.func17, Try.ntmps17
    go_wp2_with (go_at_call 46; refine (HV.out _).mono ?_; rintro e w1 ⟨rfl, rfl⟩)
    go_ret
    exact ⟨rfl, by first | exact Below.refl _ _ | exact (Below.refl _ _).drew⟩
  · rw [hb] at hv
    obtain ⟨m, n, rfl, rfl, h1, h2, h3, h4⟩ := win_nat hb
    rw [(win_yes hb).2.2.1]
    have hw1 : IntKind.i64.wrap ((m : Int) + (n : Int)) = (m : Int) + (n : Int) := IntWalk.i64_in _ ⟨by omega, by omega⟩
    have hw2 : IntKind.i64.wrap ((m : Int) + (n : Int) - 1) = (m : Int) + (n : Int) - 1 := IntWalk.i64_in _ ⟨by omega, by omega⟩
    have hq : ((m : Int) + (n : Int) - 1).tdiv (n : Int) = (wins m n : Int) := by
      rw [Int.tdiv_eq_ediv_of_nonneg (by omega), show (m : Int) + (n : Int) - 1 = ((m + n - 1 : Nat) : Int) by omega]; rfl
    have hb1 : wins m n ≤ 31 := Nat.le_trans (Nat.div_le_self _ _) (by omega)
    have hw3 : IntKind.i64.wrap (wins m n : Int) = (wins m n : Int) := IntWalk.i64_in _ ⟨by omega, by omega⟩
    have hz : ((n : Int) == 0) = false := by rw [beq_eq_false_iff_ne]; omega
    have hz' : ¬ (n : Int) = 0 := by omega
    have HV := Lib.hid hv
    clear hb hv
    go_enter Try.func17, Try.ntmps17
    go_wp2_with (go_at_call 46; refine (HV.out _).mono ?_; rintro e w1 ⟨rfl, rfl⟩)
    go_ret
    exact ⟨by simp [hq, hw3], by first | exact Below.refl _ _ | exact (Below.refl _ _).drew⟩

set_option maxHeartbeats 2000000 in
theorem winGame_impl (c d : Int) (w : World) :
    Calls Try.prog 14 #[.int .i64 c, .int .i64 d] w (NewTable w (winG c d)) := by
  have hv := viewOkI c d
  rcases hb : winB c d with _ | _
  · have HN := Lib.hid (win_no hb)
    rw [hb] at hv
    have HV := Lib.hid hv
    clear hb hv
    go_enter Try.func14, Try.ntmps14
    go_wp2_with (go_at_call 46; refine (HV.out _).mono ?_; rintro e w1 ⟨rfl, rfl⟩)
    go_ret
    rw [HN.out.1]
    exact ⟨none, 0, rfl, by first | exact Below.refl _ _ | exact (Below.refl _ _).drew, fun h0 => absurd h0 (by simp)⟩
  · rw [hb] at hv
    obtain ⟨m, n, rfl, rfl, h1, h2, h3, h4⟩ := win_nat hb
    rw [(win_yes hb).1]
    have hx : rinTo m n (m - n + 1) = winT m n := rin_win m n h4 _ (Nat.le_refl _)
    have HV := Lib.hid hv
    have HI := Lib.hid (windowsInI m n h4 h2)
    have HO := Lib.hid (windowsOfI (m : Nat) (n : Nat) ((m - n + 1 : Nat) : Int))
    have HC : Hid (∀ (b1 b2 b3 : Nat) (w2 w' : World), Below w2.heap.size w2 w' → Cell1 w2 b1 3 (.int .i64 ((m - n + 1 : Nat) : Int)) → Cell1 w2 b2 3 (.int .i64 (m : Nat)) → Cell1 w2 b3 3 (.int .i64 (n : Nat)) →
        Calls Try.prog 47 #[.func (.func 66) #[] #[.pointer (some ⟨b1, 0, none⟩), .pointer (some ⟨b2, 0, none⟩), .pointer (some ⟨b3, 0, none⟩)]] w' (NewTableD w' (winT m n))) := fun b1 b2 b3 w2 w' hb c1 c2 c3 => by
      have := collectT _ _ _ _ w2 w' (windowsIter m n (m - n + 1) b1 b2 b3 h1 h2 h3 h4 (by omega) w2 c1 c2 c3) (enters_of Try.func66 (by kernel_rfl) rfl) (Lies.of_below hb (fun k h _ => h)) (fun k hk => by rcases hk with rfl | rfl | rfl; exact c1.lt; exact c2.lt; exact c3.lt)
        (by rw [rinTo_length]; omega) (fun x hx => by rw [rinTo_rows m n _ x hx]; omega)
      rw [hx] at this; exact this
    clear hb hv hx
    go_enter Try.func14, Try.ntmps14
    go_wp2_with (first | (go_at_call 46; refine (HV.out _).mono ?_; rintro e w1 ⟨rfl, rfl⟩) | (go_at_call 49; refine (HI.out _).mono ?_; rintro e w1 ⟨rfl, rfl⟩) | (go_at_call 48; refine (HO.out _).mono ?_; rintro e w2 ⟨b1, b2, b3, rfl, hb2, c1, c2, c3, -, -, -⟩) | (go_at_call 47; refine (HC.out b1 b2 b3 w2 _ (by repeat (first | exact Below.refl _ _ | assumption | exact bel1 (by assumption) | exact bel2 (by assumption) | exact bel3 (by assumption) | exact bel4 (by assumption) | refine Below.drew ?_ | refine below_drewN ?_ _ | refine Below.setCell ?_ (by first | (simp; done) | (simp; omega)) _ | refine Below.alloc ?_ (by first | (simp; done) | (simp; omega)) _)) c1 c2 c3).mono ?_; rintro e w3 ⟨T, ct, rfl, -, -, hb3, hot⟩))
    go_ret
    exact ⟨T, ct, rfl, belT hb2 hb3, hot.more hb2.size (Nat.le_refl _)⟩

set_option maxHeartbeats 2000000 in
theorem rinGame_impl (c d : Int) (w : World) :
    Calls Try.prog 34 #[.int .i64 c, .int .i64 d] w (NewTable w (rinG c d)) := by
  have hv := viewOkI c d
  rcases hb : winB c d with _ | _
  · have HN := Lib.hid (win_no hb)
    rw [hb] at hv
    have HV := Lib.hid hv
    clear hb hv
    go_enter Try.func34, Try.ntmps34
    go_wp2_with (go_at_call 46; refine (HV.out _).mono ?_; rintro e w1 ⟨rfl, rfl⟩)
    go_ret
    rw [HN.out.2.1]
    exact ⟨none, 0, rfl, by first | exact Below.refl _ _ | exact (Below.refl _ _).drew, fun h0 => absurd h0 (by simp)⟩
  · rw [hb] at hv
    obtain ⟨m, n, rfl, rfl, h1, h2, h3, h4⟩ := win_nat hb
    rw [(win_yes hb).2.1]
    have hx : rinTo m n m = rinT m n := rfl
    have HV := Lib.hid hv
    have HO := Lib.hid (windowsOfI (m : Nat) (n : Nat) (m : Nat))
    have HC : Hid (∀ (b1 b2 b3 : Nat) (w2 w' : World), Below w2.heap.size w2 w' → Cell1 w2 b1 3 (.int .i64 (m : Nat)) → Cell1 w2 b2 3 (.int .i64 (m : Nat)) → Cell1 w2 b3 3 (.int .i64 (n : Nat)) →
        Calls Try.prog 47 #[.func (.func 66) #[] #[.pointer (some ⟨b1, 0, none⟩), .pointer (some ⟨b2, 0, none⟩), .pointer (some ⟨b3, 0, none⟩)]] w' (NewTableD w' (rinT m n))) := fun b1 b2 b3 w2 w' hb c1 c2 c3 => by
      have := collectT _ _ _ _ w2 w' (windowsIter m n m b1 b2 b3 h1 h2 h3 h4 (by omega) w2 c1 c2 c3) (enters_of Try.func66 (by kernel_rfl) rfl) (Lies.of_below hb (fun k h _ => h)) (fun k hk => by rcases hk with rfl | rfl | rfl; exact c1.lt; exact c2.lt; exact c3.lt)
        (by rw [rinTo_length]; omega) (fun x hx => by rw [rinTo_rows m n _ x hx]; omega)
      rw [hx] at this; exact this
    clear hb hv hx
    go_enter Try.func34, Try.ntmps34
    go_wp2_with (first | (go_at_call 46; refine (HV.out _).mono ?_; rintro e w1 ⟨rfl, rfl⟩) | (go_at_call 48; refine (HO.out _).mono ?_; rintro e w2 ⟨b1, b2, b3, rfl, hb2, c1, c2, c3, -, -, -⟩) | (go_at_call 47; refine (HC.out b1 b2 b3 w2 _ (by repeat (first | exact Below.refl _ _ | assumption | exact bel1 (by assumption) | exact bel2 (by assumption) | exact bel3 (by assumption) | exact bel4 (by assumption) | refine Below.drew ?_ | refine below_drewN ?_ _ | refine Below.setCell ?_ (by first | (simp; done) | (simp; omega)) _ | refine Below.alloc ?_ (by first | (simp; done) | (simp; omega)) _)) c1 c2 c3).mono ?_; rintro e w3 ⟨T, ct, rfl, -, -, hb3, hot⟩))
    go_ret
    exact ⟨T, ct, rfl, belT hb2 hb3, hot.more hb2.size (Nat.le_refl _)⟩

/-- a plan, in a row that was made ahead; where it lies stands in a box -/
structure Plans (w : World) (rb bb : Nat) (l : List Int) (S : Nat → Prop) (W : World) : Prop where
  bel : Below w.heap.size w W
  row : IntRow W rb l
  box : Cell1 W bb 36 (.slice (some ⟨rb, 0, none⟩) l.length l.length)
  only : ∀ k, S k ↔ k = rb

theorem Plans.own {w : World} {rb bb B : Nat} {f : List Int → List Int} (hB : w.heap.size ≤ B) (hb : bb < B) : Own1 B (fun pre S W => Plans w rb bb (f pre) S W) := by
  intro pre S W W' h hl
  exact ⟨h.bel.trans (hl.below h.bel.size fun k hk => .inl (by omega)), World.rowIs.of_block h.row (hl.block _ (World.rowIs.lt h.row) (.inr ((h.only _).2 rfl))), h.box.keep (hl.block _ h.box.lt (.inl hb)), h.only⟩

theorem Plans.done {w : World} {rb bb D : Nat} {l : List Int} {S : Nat → Prop} {W : World} (h : Plans w rb bb l S W) (hrb : w.heap.size ≤ rb) (hD : w.heap.size ≤ D) (hSD : ¬ S D) (x : Obj) :
    NewList w l (.returned (.slice (some ⟨rb, 0, none⟩) l.length l.length)) (W.putObj D x) := by
  have hne : rb ≠ D := fun e => hSD (by rw [← e]; exact (h.only _).2 rfl)
  have hr := World.rowIs.of_block h.row (World.putObj_heap_other (w := W) (r := D) (o := x) hne)
  exact ⟨_, _, rfl, h.bel.trans ⟨rfl, rfl, rfl, by simp, fun k hk => World.putObj_heap_other (by omega)⟩, fun _ => ⟨rb, l.length, _, rfl, hrb, World.rowIs.lt hr, hr, Nat.le_refl _, fun _ _ => rfl⟩⟩

set_option maxRecDepth 100000 in
set_option maxHeartbeats 2000000 in
theorem hidePlan_impl (c d : Int) (w : World) :
    Calls Try.prog 24 #[.int .i64 c, .int .i64 d] w (NewList w (hideL c d)) := by
  have hv := viewOkI c d
  rcases hb : winB c d with _ | _
  · have HN := Lib.hid (win_no hb)
    rw [hb] at hv
    have HV := Lib.hid hv
    clear hb hv
    go_enter Try.func24, Try.ntmps24
    go_wp2_with (go_at_call 46; refine (HV.out _).mono ?_; rintro e w1 ⟨rfl, rfl⟩)
    go_ret
    rw [HN.out.2.2.2.2]
    exact ⟨none, 0, rfl, by first | exact Below.refl _ _ | exact (Below.refl _ _).drew, fun h0 => absurd h0 (by simp)⟩
  · rw [hb] at hv
    obtain ⟨m, n, rfl, rfl, h1, h2, h3, h4⟩ := win_nat hb
    have HY := Lib.hid (win_yes hb)
    have HV := Lib.hid hv
    have HO := Lib.hid (cellsApartI (m : Nat) (n : Nat))
    have hmk := run_make_row' (P := Try.prog) 36 3 _ 8 Try.underlying36 infoI rfl .i64 .i64 m (by omega) (by omega)
    clear hb hv
    refine (callsIn_wide (n := 9)).1 ?_
    refine callsIn_of_wp_marks Try.func24 rfl trivial ?_ rfl
    refine wpIn_wide.2 ?_
    simp only [Try.ntmps24, List.size_toArray, List.length_cons, List.length_nil, Nat.reduceAdd, Nat.reduceSub, Array.replicate_succ, Array.replicate_zero, List.push_toArray, List.append_toArray, List.nil_append, List.cons_append]
    go_wp2_with (first | (go_at_call 46; refine (HV.out _).mono ?_; rintro e w1 ⟨rfl, rfl⟩) | (go_at_call 55; refine (HO.out _).mono ?_; rintro e w2 ⟨b1, b2, rfl, hb2, c1, c2, l1, l2⟩))
    obtain ⟨W1, hW1⟩ : ∃ W1 : World, W1 = (w.alloc (.cells (madeCells #[.int .i64 0] m) 3)).alloc (.cells #[.slice (some ⟨w.heap.size, 0, none⟩) m m] 36) := ⟨_, rfl⟩
    rw [← hW1] at hb2 l1 l2
    have hz1 : W1.heap.size = w.heap.size + 2 := by rw [hW1]; simp
    have hb1 : Below w.heap.size w W1 := by rw [hW1]; exact ((Below.refl _ w).alloc (Nat.le_refl _) _).alloc (by simp) _
    have hr1 : IntRow W1 w.heap.size (hideTo m n 0) := by rw [hW1]; exact World.rowIs.alloc (RowNow.start w m).row _
    have hx1 : Cell1 W1 (w.heap.size + 1) 36 (.slice (some ⟨w.heap.size, 0, none⟩) m m) := by
      rw [hW1]; have := Cell1.new (w.alloc (.cells (madeCells #[.int .i64 0] m) 3)) 36 (.slice (some ⟨w.heap.size, 0, none⟩) m m); rw [World.size_alloc] at this; exact this
    clear hW1
    have hz2 := hb2.size
    have hp0 : Plans w w.heap.size (w.heap.size + 1) (hideTo m n ([] : List Int).length) (fun k => k = w.heap.size) w2 :=
      ⟨hb1.trans (hb2.mono (by omega)), World.rowIs.of_block hr1 (hb2.block _ (by omega)), by rw [hideTo_length]; exact hx1.below hb2 (by omega), fun k => Iff.rfl⟩
    have HIT := Lib.hid (cellsIter m n b1 b2 h1 h2 h3 h4 w2 c1 c2)
    have l3 := c1.lt
    have l4 := c2.lt
    clear c1 c2 hb1 hr1 hx1 hmk
    refine (wpIn_wide (n := 9)).1 ?_
    refine overOuterS (gf := 72) (lb := #[.pointer (some ⟨b1, 0, none⟩), .pointer (some ⟨b2, 0, none⟩)]) rfl (enters_of Try.func72 (by kernel_rfl) rfl) HIT.out (Lies.refl _ _) (fun k hk => by rcases hk with rfl | rfl; exact l3; exact l4) IntGiven.size
      (fun k => k = w.heap.size) (fun k hk => ⟨by omega, fun h => by omega⟩)
      (fun pre S W => Plans w w.heap.size (w.heap.size + 1) (hideTo m n pre.length) S W) (fun _ _ _ => False) (Plans.own (f := fun pre => hideTo m n pre.length) (by omega) (by omega)) (fun _ _ _ _ h _ => h) hp0 ?hround ?hdone ?hstop
    case hstop => intro _ _ _ _ _ _ h; exact h.elim
    case hdone =>
      rintro D S W hD hS hSD hpl hKD
      have hpl2 : Plans w w.heap.size (w.heap.size + 1) (hideT m n) S W := by rw [apartTo_length] at hpl; exact hpl
      have e1 := hpl2.box.cell
      have HD : Hid (NewList w (hideL (m : Nat) (n : Nat)) (.returned (.slice (some ⟨w.heap.size, 0, none⟩) (hideT m n).length (hideT m n).length)) (W.putObj D (.deferred none))) := by rw [HY.out.2.2.2.2]; exact hpl2.done (Nat.le_refl _) (D := D) (by omega) hSD (.deferred none)
      clear hpl hpl2
      go_wp2_with fail
      refine ⟨by simp, .inl ⟨_, _, rfl, run_takeDeferred hKD, ?_⟩⟩
      exact ⟨_, by simp [results, Try.results24, go_sem], HD.out⟩
    case hround =>
      rintro l pre x post S G v W hx hl1 hl2 hbg hSo hSl hGl hpl ⟨rfl, rfl⟩ K' hK'
      obtain ⟨hk, hxe, -⟩ := apartTo_at hx
      have hpk : pre.length * n < m := (wins_lt h3).1 hk
      obtain ⟨p, hp⟩ : ∃ p, p = pre.length * n := ⟨_, rfl⟩
      rw [← hp] at hxe hpk
      subst hxe
      have hpre : (pre ++ [((p : Nat) : Int)]).length = pre.length + 1 := by simp
      have HP : Hid ((hideTo m n pre.length).set p 1 = hideTo m n (pre.length + 1)) := by show _ = _; rw [hp]; rfl
      clear hx hk hp
      gi_wp2
      refine hK' _ _ (Below.refl _ W) ?_
      intro W2 ht
      clear hK' K'
      have hpl2 : Plans w w.heap.size (w.heap.size + 1) (hideTo m n pre.length) S W2 :=
        ⟨hpl.bel.trans (ht.below (by omega)), World.rowIs.of_block hpl.row (ht.other (by omega)), hpl.box.turn ht (by omega), hpl.only⟩
      have hs2 := ht.size
      have e1 := hpl2.box.cell
      rw [hideTo_length] at e1
      have hrow : World.rowIs _ _ _ _ _ := hpl2.row
      rw [hideTo_length] at hrow
      have hc0 := hrow.cell (i := p) hpk
      have hf0 := hrow.frozen p
      have HPL := Lib.hid hpl2
      have HPRE := Lib.hid hpre
      have HLT : Hid (w.heap.size + 1 < W.heap.size) := by show _ < _; omega
      have HS2 := Lib.hid hs2
      clear hpl hpl2 ht hrow hpre hs2 hbg hSo hSl hGl hl1 hl2 hb2 hz1 hz2 hp0
      gi_wp2
      refine ⟨S, ⟨fun k hk => .inl hk, fun k hk => ?_⟩, ⟨?_, ?_, ?_, HPL.out.only⟩, ?_⟩
      · have := (HPL.out.only k).1 hk; simp [World.setCell]; have := HLT.out; have := HS2.out; omega
      · exact HPL.out.bel.setCell (Nat.le_refl _) _
      · rw [HPRE.out, ← HP.out]; exact HPL.out.row.poke p 1
      · rw [HPRE.out, ← HP.out, List.length_set]; exact HPL.out.box.keep (Below.heap_setCell _ _ _ _ (by show w.heap.size + 1 ≠ w.heap.size; omega))
      · exact Lies.setCell _ _ _ (fun h => h.2.1 ((HPL.out.only _).2 rfl))

set_option maxRecDepth 100000 in
set_option maxHeartbeats 2000000 in
theorem lookPlan_impl (c d : Int) (w : World) :
    Calls Try.prog 23 #[.int .i64 c, .int .i64 d] w (NewList w (lookL c d)) := by
  have hv := viewOkI c d
  rcases hb : winB c d with _ | _
  · have HN := Lib.hid (win_no hb)
    rw [hb] at hv
    have HV := Lib.hid hv
    clear hb hv
    go_enter Try.func23, Try.ntmps23
    go_wp2_with (go_at_call 46; refine (HV.out _).mono ?_; rintro e w1 ⟨rfl, rfl⟩)
    go_ret
    rw [HN.out.2.2.2.1]
    exact ⟨none, 0, rfl, by first | exact Below.refl _ _ | exact (Below.refl _ _).drew, fun h0 => absurd h0 (by simp)⟩
  · rw [hb] at hv
    obtain ⟨m, n, rfl, rfl, h1, h2, h3, h4⟩ := win_nat hb
    have HY := Lib.hid (win_yes hb)
    have HV := Lib.hid hv
    have HO := Lib.hid (cellsApartI (m : Nat) (n : Nat))
    have HI := Lib.hid (windowsInI m n h4 h2)
    obtain ⟨s, hs⟩ : ∃ s, s = m - n := ⟨_, rfl⟩
    rw [← hs] at HI
    have hmk := run_make_row' (P := Try.prog) 36 3 _ 8 Try.underlying36 infoI rfl .i64 .i64 (s + 1) (by omega) (by omega)
    simp only [show ((s + 1 : Nat) : Int) = (s : Int) + 1 by omega] at hmk
    have HL : Hid (∀ k, (lookTo m n k).length = s + 1) := fun k => by rw [lookTo_length, hs]
    have HS := Lib.hid hs
    have hsb : s ≤ 15 := by omega
    have hws : IntKind.i64.wrap (s : Int) = (s : Int) := IntWalk.i64_in _ ⟨by omega, by omega⟩
    have hw1 : (s : Int) + 1 - 1 = (s : Int) := by omega
    clear hb hv hs
    refine (callsIn_wide (n := 9)).1 ?_
    refine callsIn_of_wp_marks Try.func23 rfl trivial ?_ rfl
    refine wpIn_wide.2 ?_
    simp only [Try.ntmps23, List.size_toArray, List.length_cons, List.length_nil, Nat.reduceAdd, Nat.reduceSub, Array.replicate_succ, Array.replicate_zero, List.push_toArray, List.append_toArray, List.nil_append, List.cons_append]
    go_wp2_with (first | (go_at_call 46; refine (HV.out _).mono ?_; rintro e w1 ⟨rfl, rfl⟩) | (go_at_call 49; refine (HI.out _).mono ?_; rintro e w1 ⟨rfl, rfl⟩) | (go_at_call 55; refine (HO.out _).mono ?_; rintro e w2 ⟨b1, b2, rfl, hb2, c1, c2, l1, l2⟩))
    obtain ⟨W1, hW1⟩ : ∃ W1 : World, W1 = ((w.alloc (.cells (madeCells #[.int .i64 0] (s + 1)) 3)).alloc (.cells #[.slice (some ⟨w.heap.size, 0, none⟩) (s + 1) (s + 1)] 36)).alloc (.cells #[.int .i64 (s : Nat)] 3) := ⟨_, rfl⟩
    rw [← hW1] at hb2 l1 l2
    have hz1 : W1.heap.size = w.heap.size + 3 := by rw [hW1]; simp
    have hb1 : Below w.heap.size w W1 := by rw [hW1]; exact (((Below.refl _ w).alloc (Nat.le_refl _) _).alloc (by simp) _).alloc (by simp; omega) _
    have h00 : lookTo m n 0 = List.replicate (s + 1) 0 := by rw [HS.out]; rfl
    have hr1 : IntRow W1 w.heap.size (lookTo m n 0) := by rw [hW1, h00]; exact World.rowIs.alloc (World.rowIs.alloc (RowNow.start w (s + 1)).row _) _
    have hx1 : Cell1 W1 (w.heap.size + 1) 36 (.slice (some ⟨w.heap.size, 0, none⟩) (s + 1) (s + 1)) := by
      rw [hW1]; have := (Cell1.new (w.alloc (.cells (madeCells #[.int .i64 0] (s + 1)) 3)) 36 (.slice (some ⟨w.heap.size, 0, none⟩) (s + 1) (s + 1))).alloc (.cells #[.int .i64 (s : Nat)] 3); rw [World.size_alloc] at this; exact this
    have hx2 : Cell1 W1 (w.heap.size + 1 + 1) 3 (.int .i64 (s : Nat)) := by
      rw [hW1]; have := Cell1.new ((w.alloc (.cells (madeCells #[.int .i64 0] (s + 1)) 3)).alloc (.cells #[.slice (some ⟨w.heap.size, 0, none⟩) (s + 1) (s + 1)] 36)) 3 (.int .i64 (s : Nat)); simp only [World.size_alloc] at this; exact this
    clear hW1 h00
    have hz2 := hb2.size
    have hp0 : Plans w w.heap.size (w.heap.size + 1) (lookTo m n ([] : List Int).length) (fun k => k = w.heap.size) w2 :=
      ⟨hb1.trans (hb2.mono (by omega)), World.rowIs.of_block hr1 (hb2.block _ (by omega)), by rw [HL.out]; exact hx1.below hb2 (by omega), fun k => Iff.rfl⟩
    have hq0 : Cell1 w2 (w.heap.size + 1 + 1) 3 (.int .i64 (s : Nat)) := hx2.below hb2 (by omega)
    have HIT := Lib.hid (cellsIter m n b1 b2 h1 h2 h3 h4 w2 c1 c2)
    have l3 := c1.lt
    have l4 := c2.lt
    clear c1 c2 hb1 hr1 hx1 hx2 hmk hw1 hws
    refine (wpIn_wide (n := 9)).1 ?_
    refine overOuterS (gf := 72) (lb := #[.pointer (some ⟨b1, 0, none⟩), .pointer (some ⟨b2, 0, none⟩)]) rfl (enters_of Try.func72 (by kernel_rfl) rfl) HIT.out (Lies.refl _ _) (fun k hk => by rcases hk with rfl | rfl; exact l3; exact l4) IntGiven.size
      (fun k => k = w.heap.size) (fun k hk => ⟨by omega, fun h => by omega⟩)
      (fun pre S W => Plans w w.heap.size (w.heap.size + 1) (lookTo m n pre.length) S W ∧ Cell1 W (w.heap.size + 1 + 1) 3 (.int .i64 (s : Nat))) (fun _ _ _ => False)
      (fun pre S A A' hs hl => ⟨Plans.own (f := fun pre => lookTo m n pre.length) (B := w2.heap.size) (by omega) (by omega) pre S A A' hs.1 hl, hs.2.keep (hl.block _ hs.2.lt (.inl (by omega)))⟩) (fun _ _ _ _ h _ => h) ⟨hp0, hq0⟩ ?hround ?hdone ?hstop
    case hstop => intro _ _ _ _ _ _ h; exact h.elim
    case hdone =>
      rintro D S W hD hS hSD ⟨hpl, -⟩ hKD
      have hpl2 : Plans w w.heap.size (w.heap.size + 1) (lookT m n) S W := by rw [apartTo_length] at hpl; exact hpl
      have e1 := hpl2.box.cell
      have HD : Hid (NewList w (lookL (m : Nat) (n : Nat)) (.returned (.slice (some ⟨w.heap.size, 0, none⟩) (lookT m n).length (lookT m n).length)) (W.putObj D (.deferred none))) := by rw [HY.out.2.2.2.1]; exact hpl2.done (Nat.le_refl _) (D := D) (by omega) hSD (.deferred none)
      clear hpl hpl2
      go_wp2_with fail
      refine ⟨by simp, .inl ⟨_, _, rfl, run_takeDeferred hKD, ?_⟩⟩
      exact ⟨_, by simp [results, Try.results23, go_sem], HD.out⟩
    case hround =>
      rintro l pre x post S G v W hx hl1 hl2 hbg hSo hSl hGl ⟨hpl, hqc⟩ ⟨rfl, rfl⟩ K' hK'
      obtain ⟨hk, hxe, -⟩ := apartTo_at hx
      have hpk : pre.length * n < m := (wins_lt h3).1 hk
      obtain ⟨p, hp⟩ : ∃ p, p = pre.length * n := ⟨_, rfl⟩
      rw [← hp] at hxe hpk
      subst hxe
      have hpre : (pre ++ [((p : Nat) : Int)]).length = pre.length + 1 := by simp
      obtain ⟨q, hq⟩ : ∃ q, q = min p s := ⟨_, rfl⟩
      have HP : Hid ((lookTo m n pre.length).set q 1 = lookTo m n (pre.length + 1)) := by show _ = _; rw [hq, hp, HS.out]; rfl
      have hqs : q ≤ s := by omega
      have hqq : (s < p ∧ q = s) ∨ (¬ s < p ∧ q = p) := by omega
      clear hx hk hp hq
      gi_wp2
      refine hK' _ _ (Below.refl _ W) ?_
      intro W2 ht
      clear hK' K'
      have hpl2 : Plans w w.heap.size (w.heap.size + 1) (lookTo m n pre.length) S W2 :=
        ⟨hpl.bel.trans (ht.below (by omega)), World.rowIs.of_block hpl.row (ht.other (by omega)), hpl.box.turn ht (by omega), hpl.only⟩
      have hqc2 := hqc.turn ht (by omega)
      have hs2 := ht.size
      have e1 := hpl2.box.cell
      rw [HL.out] at e1
      have e2 := hqc2.cell
      have hrow : World.rowIs _ _ _ _ _ := hpl2.row
      rw [HL.out] at hrow
      have hc0 := hrow.cell (i := q) (by omega)
      have hf0 := hrow.frozen q
      have HPL := Lib.hid hpl2
      have HQC := Lib.hid hqc2
      have HPRE := Lib.hid hpre
      have HLT : Hid (w.heap.size + 2 < W.heap.size) := by show _ < _; omega
      have HS2 := Lib.hid hs2
      have fin : Hid (∃ S', Owns S (fun _ => False) W.heap.size S' (W2.setCell ⟨w.heap.size, q, none⟩ (.int .i64 1)) ∧ (Plans w w.heap.size (w.heap.size + 1) (lookTo m n (pre.length + 1)) S' (W2.setCell ⟨w.heap.size, q, none⟩ (.int .i64 1)) ∧ Cell1 (W2.setCell ⟨w.heap.size, q, none⟩ (.int .i64 1)) (w.heap.size + 1 + 1) 3 (.int .i64 (s : Nat))) ∧
          Lies (fun k => k < W.heap.size ∧ ¬ S k ∧ ¬ (fun _ => False) k) W2 (W2.setCell ⟨w.heap.size, q, none⟩ (.int .i64 1))) := by
        refine ⟨S, ⟨fun k hk => .inl hk, fun k hk => ?_⟩, ⟨⟨?_, ?_, ?_, HPL.out.only⟩, ?_⟩, ?_⟩
        · have := (HPL.out.only k).1 hk; simp [World.setCell]; have := HLT.out; have := HS2.out; omega
        · exact HPL.out.bel.setCell (Nat.le_refl _) _
        · rw [← HP.out]; exact HPL.out.row.poke q 1
        · rw [← HP.out, List.length_set]; exact HPL.out.box.keep (Below.heap_setCell _ _ _ _ (by show w.heap.size + 1 ≠ w.heap.size; omega))
        · exact HQC.out.keep (Below.heap_setCell _ _ _ _ (by show w.heap.size + 1 + 1 ≠ w.heap.size; omega))
        · exact Lies.setCell _ _ _ (fun h => h.2.1 ((HPL.out.only _).2 rfl))
      clear hpl hpl2 ht hrow hpre hs2 hbg hSo hSl hGl hl1 hl2 hb2 hz1 hz2 hp0 hqc hqc2 hq0
      rcases hqq with ⟨hsp, rfl⟩ | ⟨hsp, rfl⟩
      · gi_wp2
        first | exact fin.out | (show ∃ S', _; rw [HPRE.out]; exact fin.out)
      · gi_wp2
        first | exact fin.out | (show ∃ S', _; rw [HPRE.out]; exact fin.out)

theorem impl7 : Impl7 where
  wins c d _ _ w := winsFor_impl c d w
  game c d _ _ w := winGame_impl c d w
  look c d _ _ w := lookPlan_impl c d w
  hide c d _ _ w := hidePlan_impl c d w
  ring c d _ _ w := rinGame_impl c d w

end Go.Proofs.Ythdlepfkifngmaa
