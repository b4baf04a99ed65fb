/- Texts in one: TownT, TownU, TownV, TownW, TownX. -/
import Derived.Test.YtcminkifdbdaaaaNC
import Derived.Test.YtcminkifdbdaaaaMX
import Derived.Test.YtcminkifdbdaaaaMY
namespace Go.Proofs.Ytcminkifdbdaaaa
set_option linter.unusedSimpArgs false
set_option linter.unusedVariables false
open Go.RowKit

/-- what a call leaves that hands back a list in a block of its own -/
def ListB (w : World) (l : List Int) (e : Ending) (w' : World) : Prop :=
  ∃ b cap : Nat, e = .returned (.slice (some ⟨b, 0, none⟩) l.length cap) ∧ Below w.heap.size w w' ∧ Grows w' w.heap.size (.slice (some ⟨b, 0, none⟩) l.length cap) l

theorem grows_cap {w : World} {base b n cap : Nat} {l : List Int} (h : Grows w base (.slice (some ⟨b, 0, none⟩) n cap) l) : n ≤ cap ∧ l.length = n := by
  obtain ⟨A, c, e, hc, _⟩ := h.own
  injection e with e1 e2 e3
  omega

/-- append of a list as a step of a region that draws -/
theorem step_append_list {ops : Array Oper} {o : Oper} {a : Act} {w : World} {K : Act → World → Prop} {Q : Exit → Act → World → Prop} {E : Prop} (hgd : o.guard = none) (s x : Operand)
    (ho : o.op = .call { callee := .builtin .append, args := #[s, x], argTypes := #[23, 23] })
    (base b n cap : Nat) (l F : List Int) (hs : a.eval s = .slice (some ⟨b, 0, none⟩) n cap) (hg : Grows w base (.slice (some ⟨b, 0, none⟩) n cap) l)
    (S : Nat → Prop) (Ax : Option Addr) (m c2 : Nat) (hx : a.eval x = .slice Ax m c2) (hm : F.length = m) (hI : Ints w S Ax F) (hlen : n + m ≤ 1000000) (hbase : base ≤ w.heap.size)
    (h : ∀ b' cap' w', Grows w' base (.slice (some ⟨b', 0, none⟩) (n + m) cap') (l ++ F) → w.grownBy w' (some b) → K (a.put o.dst (.slice (some ⟨b', 0, none⟩) (n + m) cap')) w') :
    if Region.wanted o (yielded ops a.tmps) = true then Oper.wp Try.prog o a w K Q else E := by
  have hw : Region.wanted o (yielded ops a.tmps) = true := by simp [Region.wanted, hgd]
  rw [if_pos hw]
  obtain ⟨i0, hi0, hz0, hz1, hz2⟩ := info_parts infoI
  obtain ⟨hcap, hln⟩ := grows_cap hg
  have key : ∃ b' cap' w', (Builtin.append_ #[23, 23] o.type #[.slice (some ⟨b, 0, none⟩) n cap, .slice Ax m c2]).run Try.prog w = .ok (.slice (some ⟨b', 0, none⟩) (n + m) cap') w' ∧ Grows w' base (.slice (some ⟨b', 0, none⟩) (n + m) cap') (l ++ F) ∧ w.grownBy w' (some b) := by
    cases Ax with
    | none =>
      have h0 : F.length = 0 := by
        rcases Nat.eq_zero_or_pos F.length with e | e
        · exact e
        · obtain ⟨_, _, e', _⟩ := hI e; cases e'
      have hF : F = [] := List.eq_nil_of_length_eq_zero h0
      subst hF
      have hm0 : m = 0 := by rw [← hm]; rfl
      subst hm0
      refine ⟨b, cap, w, ?_, by simpa using hg, World.grownBy.refl w _⟩
      simp [Builtin.append_, run_underlying Try.underlying23, sizeOf, typeInfo, hi0, Builtin.lenOf, Builtin.firstCells, loadCells, loadCellsFrom, storeCells, hcap]
    | some ad =>
      have hnews : ∀ j u, (vals F)[j]? = some u → w.cell? (ad.add j) = some u := by
        rcases Nat.eq_zero_or_pos F.length with e | e
        · intro j u hj
          have : F = [] := List.eq_nil_of_length_eq_zero e
          subst this; simp [vals] at hj
        · obtain ⟨b', off, e', hS, hc⟩ := hI e
          injection e' with e'; subst e'
          exact news_of hc
      have hg' : w.ownsRow base 3 1 (.slice (some ⟨b, 0, none⟩) n cap) n (vals l) := by rw [← hln]; rw [← hln] at hg; exact hg
      obtain ⟨v', w', hr, h2, h3, h4, _⟩ := run_append_own_at (P := Try.prog) w base 23 o.type 3 i0 (.int .i64 0) 1 8 Try.underlying23 hi0 hz0 hz1 hz2 rfl (by decide) _ n (vals l) hg' ad m c2 (vals F) (by rw [vals_length]; omega) hnews vals_one (by unfold maxLen; omega) (by omega) hbase
      have hg6 : Grows w' base v' (l ++ F) := by
        show World.ownsRow _ _ _ _ _ _ _
        rw [List.length_append, hln, hm, show vals (l ++ F) = vals l ++ vals F from by simp [vals]]
        exact h2
      obtain ⟨k1, ⟨k2, k3⟩ | ⟨g, cp, cur, k2, k3⟩⟩ := h2
      · have := h4.1 k2; cases this.1
      · subst k2
        exact ⟨g, cp, w', hr, hg6, h3⟩
  obtain ⟨b', cap', w', hr, h2, h3⟩ := key
  unfold Oper.wp
  simp [execOp, ho, resolve, invoke, builtin, hs, hx, hr, Result.andThen]
  exact h b' cap' w' h2 h3

/-- plain: the ways on by the first streets -/
def pcT (p : Nat) (st : List Nat) (f a seen used k : Nat) : List Nat :=
  if toT (st.getD k 0) a == 99 || bP seen (toT (st.getD k 0) a) then [] else wayF p st f (toT (st.getD k 0) a) (seen + 2 ^ toT (st.getD k 0) a) (used ||| 2 ^ k)

def wayN (p : Nat) (st : List Nat) (f a seen used : Nat) : Nat → List Nat
  | 0 => []
  | k + 1 => wayN p st f a seen used k ++ pcT p st f a seen used k

theorem wayN_flat (p : Nat) (st : List Nat) (f a seen used : Nat) : ∀ n, (List.range n).flatMap (pcT p st f a seen used) = wayN p st f a seen used n
  | 0 => rfl
  | n + 1 => by rw [List.range_succ, List.flatMap_append, wayN_flat p st f a seen used n]; simp [wayN]

theorem wayF_on {p : Nat} (st : List Nat) {f a : Nat} (seen used : Nat) (h : a + 1 ≠ p) : wayF p st (f + 1) a seen used = wayN p st f a seen used st.length := by
  rw [← wayN_flat]
  simp only [wayF]
  rw [if_neg (by rw [beq_iff_eq]; exact h)]
  rfl

theorem wayF_end {p : Nat} (st : List Nat) {f a : Nat} (seen used : Nat) (h : a + 1 = p) : wayF p st (f + 1) a seen used = [used] := by
  simp only [wayF]
  rw [if_pos (by rw [beq_iff_eq]; exact h)]

theorem wayF_len {p : Nat} {st : List Nat} (hst : st.length ≤ 8) : ∀ f a seen used : Nat, (wayF p st f a seen used).length ≤ 8 ^ f ∧ ∀ k, (wayN p st f a seen used k).length ≤ k * 8 ^ f := by
  have step : ∀ f, (∀ a seen used : Nat, (wayF p st f a seen used).length ≤ 8 ^ f) → ∀ a seen used k, (wayN p st f a seen used k).length ≤ k * 8 ^ f := fun f hf a seen used k => by
    induction k with
    | zero => simp [wayN]
    | succ k ih =>
      have : (pcT p st f a seen used k).length ≤ 8 ^ f := by
        unfold pcT; split
        · simp
        · exact hf _ _ _
      simp only [wayN, List.length_append]
      rw [Nat.add_mul]; omega
  have main : ∀ f a seen used : Nat, (wayF p st f a seen used).length ≤ 8 ^ f := fun f => by
    induction f with
    | zero => intro a seen used; simp only [wayF]; split <;> simp
    | succ f ih =>
      intro a seen used
      by_cases h : a + 1 = p
      · rw [wayF_end st seen used h]; exact Nat.one_le_pow _ _ (by decide)
      · rw [wayF_on st seen used h]
        have := step f ih a seen used st.length
        have h2 : st.length * 8 ^ f ≤ 8 * 8 ^ f := Nat.mul_le_mul_right _ hst
        rw [Nat.pow_succ]; omega
  exact fun f a seen used => ⟨main f a seen used, step f (main f) a seen used⟩

theorem seen_set : ∀ T : Fin 32, ∀ j : Fin 5, ∀ p : Fin 6, j.val < p.val → bP T.val j.val = false → T.val + 2 ^ j.val < 32 ∧ cnt (fun i => !bP (T.val + 2 ^ j.val) i) p.val + 1 = cnt (fun i => !bP T.val i) p.val ∧ T.val ||| 2 ^ j.val = T.val + 2 ^ j.val := by decide +kernel

theorem or_small {s k n : Nat} (hn : n ≤ 30) (hs : s < 2 ^ n) (hk : k < n) : bits BinOp.or IntKind.i64 (s : Int) (wrap64 (2 ^ k)) = ((s ||| 2 ^ k : Nat) : Int) ∧ bits BinOp.or IntKind.i64 (s : Int) (IntKind.i64.wrap (2 ^ k)) = ((s ||| 2 ^ k : Nat) : Int) ∧ s ||| 2 ^ k < 2 ^ n := by
  have hk2 : 2 ^ k < 2 ^ n := Nat.pow_lt_pow_right (by decide) hk
  have hn2 : 2 ^ n ≤ 2 ^ 30 := Nat.pow_le_pow_right (by decide) hn
  have e : (2 : Int) ^ k = ((2 ^ k : Nat) : Int) := by simp
  have hw : IntKind.i64.wrap (2 ^ k) = ((2 ^ k : Nat) : Int) := by
    rw [e]
    obtain ⟨N, hN⟩ : ∃ N, 2 ^ k = N := ⟨_, rfl⟩
    rw [hN] at hk2 ⊢
    exact IntWalk.i64_in _ ⟨by omega, by omega⟩
  have hw2 : wrap64 (2 ^ k) = ((2 ^ k : Nat) : Int) := by rw [← IntWalk.i64_left]; exact hw
  refine ⟨?_, ?_, Nat.or_lt_two_pow hs hk2⟩
  · rw [hw2]; exact bits_or_i64 _ _ (by omega) (by omega)
  · rw [hw]; exact bits_or_i64 _ _ (by omega) (by omega)

end Go.Proofs.Ytcminkifdbdaaaa

namespace Go.Proofs.Ytcminkifdbdaaaa
set_option linter.unusedSimpArgs false
set_option linter.unusedVariables false
open Go.RowKit

theorem grown_one (X : World) (u : Int) {base : Nat} (hb : base ≤ X.heap.size + 1) (cap : Nat) (h1 : 1 ≤ cap) (h2 : cap ≤ maxLen) (q : Obj) :
    Grows (((X.alloc q).alloc (.cells (#[.int .i64 u] ++ Builtin.zeroCells #[.int .i64 0] (cap - 1)) 3)).drew) base (.slice (some ⟨X.heap.size + 1, 0, none⟩) 1 cap) [u] := by
  have h : Grows ((X.alloc q).alloc (.cells (#[.int .i64 u] ++ Builtin.zeroCells #[.int .i64 0] (cap - 1)) 3)) base (.slice (some ⟨X.heap.size + 1, 0, none⟩) 1 cap) [u] := by
    refine ⟨rfl, .inr ⟨X.heap.size + 1, cap, #[.int .i64 u] ++ Builtin.zeroCells #[.int .i64 0] (cap - 1), rfl, hb, ?_, h1, h2, ?_, ?_⟩⟩
    · have := heap_alloc_new (X.alloc q) (.cells (#[.int .i64 u] ++ Builtin.zeroCells #[.int .i64 0] (cap - 1)) 3)
      rwa [show (X.alloc q).heap.size = X.heap.size + 1 from by simp] at this
    · rw [Array.size_append, size_zeroCells]; simp; omega
    · simp [vals]
  exact h.drewN 1

theorem ints_grows {w : World} {base b n cap : Nat} {l : List Int} (h : Grows w base (.slice (some ⟨b, 0, none⟩) n cap) l) : Ints w (fun q => base ≤ q ∧ q < w.heap.size) (some ⟨b, 0, none⟩) l := by
  obtain ⟨A, c, e, _, ho⟩ := h.own
  injection e with e1 e2 e3
  rw [e1]; exact ho.ints

set_option maxHeartbeats 4000000 in
set_option maxRecDepth 100000 in
theorem ways_spec {p : Nat} {st : List Nat} (ht : Twn p st) : ∀ f a seen used : Nat, f ≤ 5 → a < p → seen < 32 → used < 2 ^ st.length → cnt (fun i => !bP seen i) p < f → ∀ (A : Option Addr) (c : Nat) (w : World), Ints w (fun b => b < w.heap.size) A (castT st) →
    Calls Try.prog 59 #[twnV (p : Int) A st.length c, .int .i64 (a : Int), .int .i64 (seen : Int), .int .i64 (used : Int)] w (ListB w (castT (wayF p st f a seen used))) := by
  intro f
  induction f with
  | zero => intro a seen used _ _ _ _ h; exact absurd h (Nat.not_lt_zero _)
  | succ f ih =>
    intro a seen used hf hap hseen hused hcnt A c w hA
    unfold twnV
    obtain ⟨W, hW, hB, hbW, hz⟩ := twn_world w (p : Int) A st.length c
    have hb0 : Below W.heap.size W (W.alloc (.cells #[] 3)) := (Below.refl _ _).alloc (Nat.le_refl _) _
    have G0 : Hid (Grows (W.alloc (.cells #[] 3)) W.heap.size (.slice (some ⟨w.heap.size + 1, 0, none⟩) 0 0) []) := by
      have := Grows.lit W (base := W.heap.size) (Nat.le_refl _); rw [hz] at this ⊢; exact this
    obtain ⟨X, hX⟩ : ∃ X, X = W.alloc (.cells #[] 3) := ⟨_, rfl⟩
    rw [← hX] at hb0 G0
    have HB0 := Lib.hid hb0
    have HX := Lib.hid hX
    have HW := Lib.hid hW
    have HBW := Lib.hid hbW
    have HB := Lib.hid hB
    have HA := Lib.hid hA
    have HIH := Lib.hid ih
    have hBX := hB.still hb0
    have c0 := hBX.c0
    have c1 := hBX.c1
    have hp5 := ht.phi
    have hp2 := ht.plo
    have hst := ht.len
    have HMEM := Lib.hid ht.mem
    have hwp : IntKind.i64.wrap ((p : Int) - 1) = (p : Int) - 1 := IntWalk.i64_in _ ⟨by omega, by omega⟩
    obtain ⟨i0, hi0, hz0, hz1, hz2⟩ := info_parts infoI
    have HI0 := Lib.hid hi0
    have HZ0 := Lib.hid hz0
    have HZ1 := Lib.hid hz1
    have HZ2 := Lib.hid hz2
    have HUSED := Lib.hid hused
    have HCNT := Lib.hid hcnt
    have hws0 := hb0.size
    have hws1 := hbW.size
    clear hi0 hz0 hz1 hz2 hW hX hB hbW hb0 hBX hz ih hA hused hcnt ht
    by_cases hend : a + 1 = p
    · have ea : ((a : Int) == (p : Int) - 1) = true := by rw [beq_iff_eq]; omega
      have HE := Lib.hid (wayF_end (f := f) st seen used hend)
      have HC1 : Hid (1 ≤ grownCap w 1 0 3 ∧ grownCap w 1 0 3 ≤ maxLen) := ⟨grownCap_ge _ _ _ _, grownCap_le_maxLen _ _ _ _ (by decide)⟩
      clear hend
      go_enter Try.func59, Try.ntmps59
      go_wp2_with fail
      rw [← HW.out, ← HX.out]
      have HWX : X.heap.size = w.heap.size + 1 + 1 := by rw [HX.out, HW.out]; simp
      have hg6 := grown_one X (used : Int) (base := w.heap.size) (by omega) _ HC1.out.1 HC1.out.2 (.cells #[.int .i64 (used : Int)] 3)
      rw [HWX] at hg6
      go_ret
      rw [HE.out]
      refine ⟨_, _, rfl, ?_, hg6⟩
      have := belT HBW.out HB0.out
      exact Below.drew ((this.alloc this.size _).alloc (by have := this.size; simp; omega) _)
    have ea : ((a : Int) == (p : Int) - 1) = false := by rw [beq_eq_false_iff_ne]; omega
    have HE := Lib.hid (wayF_on (f := f) st seen used hend)
    have h8 : 8 ^ f ≤ 4096 := Nat.pow_le_pow_right (n := 8) (by decide) (show f ≤ 4 by omega)
    have HLEN : Hid (∀ k, k ≤ 8 → (wayN p st f a seen used k).length ≤ 32768) := fun k hk => by
      have := (wayF_len (p := p) hst f a seen used).2 k
      have h2 : k * 8 ^ f ≤ 8 * 4096 := Nat.mul_le_mul hk h8
      omega
    have HLF : Hid (∀ a' seen' used', (wayF p st f a' seen' used').length ≤ 4096) := fun a' s' u' => by have := (wayF_len (p := p) hst f a' s' u').1; omega
    clear hend h8
    go_enter Try.func59, Try.ntmps59
    go_wp2_with fail
    rw [← HW.out, ← HX.out]
    go_wp2_with fail
    go_loopw [9, 10] (fun v i wr => ∃ k n b cap : Nat, k ≤ st.length ∧ i = .int .i64 (k : Int) ∧ v = .slice (some ⟨b, 0, none⟩) n cap ∧ Hid (Grows wr W.heap.size (.slice (some ⟨b, 0, none⟩) n cap) (castT (wayN p st f a seen used k))) ∧ Hid (Below W.heap.size W wr)) (fun _ i _ => st.length - (intOf i).toNat)
    case atStart => exact ⟨0, 0, _, _, Nat.zero_le _, rfl, rfl, G0, HB0⟩
    case round =>
      clear G0
      obtain ⟨k, n, b, cap, hk, rfl, rfl, HG, HV⟩ := hrel
      have hB3 := HB.out.still HV.out
      have c0 := hB3.c0
      have c1 := hB3.c1
      have s0 := stays HB.out.lt HB.out.c0
      have s1 := stays HB.out.lt HB.out.c1
      have hws := HV.out.size
      clear hB3
      by_cases hlt : k < st.length
      · obtain ⟨x, hx⟩ : ∃ x, st.getD k 0 = x := ⟨_, rfl⟩
        have hxm : x / 10 < x % 10 ∧ x % 10 < p ∧ x < 100 := (mem_pairs5 hp5).1 (HMEM.out x (by rw [← hx, List.getD_eq_getElem?_getD, List.getElem?_eq_getElem hlt]; exact List.getElem_mem _))
        obtain ⟨ba, oa, hAe, hba, hca⟩ := HA.out (by rw [castT_length]; omega)
        have HVW := Lib.hid (belT HBW.out HV.out)
        have HA2 := Lib.hid ((keepInts HVW.out HA.out).lt HVW.out.size)
        have hcx : wr.cell? ⟨ba, oa + k, none⟩ = some (.int .i64 (x : Int)) := by
          have := hca k (by rw [castT_length]; omega)
          rw [nth_castT, hx] at this
          exact (HVW.out.cell (p := ⟨ba, oa + k, none⟩) hba).trans this
        have hxs : ba < wr.heap.size := by have := HVW.out.size; omega
        clear hca
        subst hAe
        clear hxs
        obtain ⟨d, hd⟩ : ∃ d, x / 10 = d := ⟨_, rfl⟩
        obtain ⟨m, hm⟩ : ∃ m, x % 10 = m := ⟨_, rfl⟩
        rw [hd, hm] at hxm
        obtain ⟨hx1, hx2, hx3⟩ := hxm
        have q1 : (x : Int).tdiv 10 = (d : Int) := by rw [Int.tdiv_eq_ediv_of_nonneg (by omega), ← hd]; rfl
        have q2 : (x : Int).tmod 10 = (m : Int) := by rw [Int.tmod_eq_emod_of_nonneg (by omega), ← hm]; rfl
        have q3 : IntKind.i64.wrap (d : Int) = (d : Int) := IntWalk.i64_in _ ⟨by omega, by omega⟩
        have q4 : IntKind.i64.wrap (m : Int) = (m : Int) := IntWalk.i64_in _ ⟨by omega, by omega⟩
        have HPC : Hid (pcT p st f a seen used k = if (if m == a then d else if d == a then m else 99) == 99 || bP seen (if m == a then d else if d == a then m else 99) then [] else wayF p st f (if m == a then d else if d == a then m else 99) (seen + 2 ^ (if m == a then d else if d == a then m else 99)) (used ||| 2 ^ k)) := by
          show _ = _; unfold pcT toT; rw [hx, hd, hm]
        have HN1 : Hid (wayN p st f a seen used (k + 1) = wayN p st f a seen used k ++ pcT p st f a seen used k) := rfl
        clear hx hd hm
        by_cases hma : m = a
        · have e1 : ((d : Int) == (a : Int)) = false := by rw [beq_eq_false_iff_ne]; omega
          have e2 : ((m : Int) == (a : Int)) = true := by rw [beq_iff_eq]; omega
          have HTO : Hid ((if m == a then d else if d == a then m else 99) = d) := by show _ = _; rw [if_pos (by rw [beq_iff_eq]; exact hma)]
          have HT9 : Hid ((d == 99) = false) := by show _ = _; rw [beq_eq_false_iff_ne]; omega
          clear hma
          rcases hb : bP seen d with _ | _
          · have e3 := bit_no hb
            obtain ⟨b1, b2, b3⟩ := seen_set ⟨seen, hseen⟩ ⟨d, by omega⟩ ⟨p, by omega⟩ (by show d < p; omega) hb
            dsimp only at b1 b2 b3
            obtain ⟨o1, o2, _⟩ := or_small (n := 5) (by decide) (show seen < 2 ^ 5 by omega) (show d < 5 by omega)
            rw [b3] at o1 o2
            obtain ⟨o3, o4, o5⟩ := or_small (n := st.length) (by omega) HUSED.out hlt
            obtain ⟨S2, hS2⟩ : ∃ s, seen + 2 ^ d = s := ⟨_, rfl⟩
            obtain ⟨U2, hU2⟩ : ∃ s, used ||| 2 ^ k = s := ⟨_, rfl⟩
            rw [hS2] at o1 o2 b1 b2
            rw [hU2] at o3 o4 o5
            obtain ⟨F, hF⟩ : ∃ F, wayF p st f d S2 U2 = F := ⟨_, rfl⟩
            have HFL : Hid (F.length ≤ 4096) := by show _ ≤ _; rw [← hF]; exact HLF.out _ _ _
            have HNN : Hid (wayN p st f a seen used (k + 1) = wayN p st f a seen used k ++ F) := by show _ = _; rw [HN1.out, HPC.out, HTO.out, HT9.out, hb, hS2, hU2, hF]; rfl
            have HREC : Hid (∀ w', Below wr.heap.size wr w' → Calls Try.prog 59 #[.agg #[.int .i64 (p : Int), .slice (some ⟨ba, oa, none⟩) st.length c], .int .i64 (d : Int), .int .i64 (S2 : Int), .int .i64 (U2 : Int)] w' (ListB w' (castT F))) := fun w' hb' => by
              have := HIH.out d S2 U2 (by omega) (by omega) b1 o5 (by have := HCNT.out; omega) (some ⟨ba, oa, none⟩) c w' ((keepInts hb' HA2.out).lt hb'.size)
              rw [hF] at this; exact this
            have HNL : Hid (n ≤ 32768) := by show _ ≤ _; have h1 := (grows_cap HG.out).2; rw [castT_length] at h1; rw [← h1]; exact HLEN.out k (by omega)
            clear hS2 hU2 hF b1 b2 b3 o5 hb HPC HN1
            go_wp2_with fail
            go_region_held_law (fun w' => Below W.heap.size W w')
              (first | assumption | exact HV.out | exact Below.drew HV.out | (refine Below.drew ?_; assumption) | exact belT HV.out (by assumption))
              (first
                | (go_simp; go_at_call 59; refine (HREC.out _ (by first | exact Below.refl _ _ | exact Below.drew (Below.refl _ _) | assumption)).mono ?_; rintro e w5 ⟨bx, cx, rfl, hb5, hg5⟩; dsimp only
                   have hk5 : Below wr.heap.size wr w5 := belT (by first | exact Below.refl _ _ | exact Below.drew (Below.refl _ _) | assumption) hb5)
                | (refine step_append_list rfl (.tmp 66) (.tmp 77) rfl W.heap.size b n cap (castT (wayN p st f a seen used k)) (castT F) rfl (HG.out.keep hk5) _ (some ⟨bx, 0, none⟩) (castT F).length cx rfl rfl (ints_grows hg5) (by rw [castT_length]; have h1 := HFL.out; have h2 := HNL.out; omega) (by have := hk5.size; omega) ?_
                   intro b6 cap6 w6 hg6 hgrow6
                   have hk6 : Below W.heap.size W w6 := (belT HV.out hk5).grown hgrow6 (by have := hk5.size; omega) (fun q hq => by have := (World.ownsRow.lt HG.out) q hq; omega)))
            have HG6 : Hid (Grows w6 W.heap.size (.slice (some ⟨b6, 0, none⟩) (n + (castT F).length) cap6) (castT (wayN p st f a seen used (k + 1)))) := by
              show Grows _ _ _ _; rw [HNN.out]; unfold castT; rw [List.map_append]; exact hg6
            have HK6 := Lib.hid hk6
            clear hk5 hb5 hg5 hg6 hgrow6 hk6 c0 c1 s0 s1
            go_wp2_with fail
            go_roundw
            case rel => exact ⟨k + 1, _, b6, cap6, by omega, by go_num, rfl, HG6, HK6⟩
            case measure => simp [intOf]; omega
          · have e3 := bit_yes hb
            have HNN : Hid (wayN p st f a seen used (k + 1) = wayN p st f a seen used k) := by show _ = _; rw [HN1.out, HPC.out, HTO.out, HT9.out, hb, Bool.or_true]; simp
            clear hb HPC HN1
            go_wp2_with fail
            go_roundw
            case rel => exact ⟨k + 1, n, b, cap, by omega, by go_num, rfl, by rw [HNN.out]; exact HG.out, HV.out⟩
            case measure => simp [intOf]; omega
        by_cases hda : d = a
        · have e1 : ((d : Int) == (a : Int)) = true := by rw [beq_iff_eq]; omega
          have e2 : ((m : Int) == (a : Int)) = false := by rw [beq_eq_false_iff_ne]; omega
          have HTO : Hid ((if m == a then d else if d == a then m else 99) = m) := by show _ = _; rw [if_neg (by rw [beq_iff_eq]; exact hma), if_pos (by rw [beq_iff_eq]; exact hda)]
          have HT9 : Hid ((m == 99) = false) := by show _ = _; rw [beq_eq_false_iff_ne]; omega
          clear hma hda
          rcases hb : bP seen m with _ | _
          · have e3 := bit_no hb
            obtain ⟨b1, b2, b3⟩ := seen_set ⟨seen, hseen⟩ ⟨m, by omega⟩ ⟨p, by omega⟩ (by show m < p; omega) hb
            dsimp only at b1 b2 b3
            obtain ⟨o1, o2, _⟩ := or_small (n := 5) (by decide) (show seen < 2 ^ 5 by omega) (show m < 5 by omega)
            rw [b3] at o1 o2
            obtain ⟨o3, o4, o5⟩ := or_small (n := st.length) (by omega) HUSED.out hlt
            obtain ⟨S2, hS2⟩ : ∃ s, seen + 2 ^ m = s := ⟨_, rfl⟩
            obtain ⟨U2, hU2⟩ : ∃ s, used ||| 2 ^ k = s := ⟨_, rfl⟩
            rw [hS2] at o1 o2 b1 b2
            rw [hU2] at o3 o4 o5
            obtain ⟨F, hF⟩ : ∃ F, wayF p st f m S2 U2 = F := ⟨_, rfl⟩
            have HFL : Hid (F.length ≤ 4096) := by show _ ≤ _; rw [← hF]; exact HLF.out _ _ _
            have HNN : Hid (wayN p st f a seen used (k + 1) = wayN p st f a seen used k ++ F) := by show _ = _; rw [HN1.out, HPC.out, HTO.out, HT9.out, hb, hS2, hU2, hF]; rfl
            have HREC : Hid (∀ w', Below wr.heap.size wr w' → Calls Try.prog 59 #[.agg #[.int .i64 (p : Int), .slice (some ⟨ba, oa, none⟩) st.length c], .int .i64 (m : Int), .int .i64 (S2 : Int), .int .i64 (U2 : Int)] w' (ListB w' (castT F))) := fun w' hb' => by
              have := HIH.out m S2 U2 (by omega) (by omega) b1 o5 (by have := HCNT.out; omega) (some ⟨ba, oa, none⟩) c w' ((keepInts hb' HA2.out).lt hb'.size)
              rw [hF] at this; exact this
            have HNL : Hid (n ≤ 32768) := by show _ ≤ _; have h1 := (grows_cap HG.out).2; rw [castT_length] at h1; rw [← h1]; exact HLEN.out k (by omega)
            clear hS2 hU2 hF b1 b2 b3 o5 hb HPC HN1
            go_wp2_with fail
            go_region_held_law (fun w' => Below W.heap.size W w')
              (first | assumption | exact HV.out | exact Below.drew HV.out | (refine Below.drew ?_; assumption) | exact belT HV.out (by assumption))
              (first
                | (go_simp; go_at_call 59; refine (HREC.out _ (by first | exact Below.refl _ _ | exact Below.drew (Below.refl _ _) | assumption)).mono ?_; rintro e w5 ⟨bx, cx, rfl, hb5, hg5⟩; dsimp only
                   have hk5 : Below wr.heap.size wr w5 := belT (by first | exact Below.refl _ _ | exact Below.drew (Below.refl _ _) | assumption) hb5)
                | (refine step_append_list rfl (.tmp 66) (.tmp 77) rfl W.heap.size b n cap (castT (wayN p st f a seen used k)) (castT F) rfl (HG.out.keep hk5) _ (some ⟨bx, 0, none⟩) (castT F).length cx rfl rfl (ints_grows hg5) (by rw [castT_length]; have h1 := HFL.out; have h2 := HNL.out; omega) (by have := hk5.size; omega) ?_
                   intro b6 cap6 w6 hg6 hgrow6
                   have hk6 : Below W.heap.size W w6 := (belT HV.out hk5).grown hgrow6 (by have := hk5.size; omega) (fun q hq => by have := (World.ownsRow.lt HG.out) q hq; omega)))
            have HG6 : Hid (Grows w6 W.heap.size (.slice (some ⟨b6, 0, none⟩) (n + (castT F).length) cap6) (castT (wayN p st f a seen used (k + 1)))) := by
              show Grows _ _ _ _; rw [HNN.out]; unfold castT; rw [List.map_append]; exact hg6
            have HK6 := Lib.hid hk6
            clear hk5 hb5 hg5 hg6 hgrow6 hk6 c0 c1 s0 s1
            go_wp2_with fail
            go_roundw
            case rel => exact ⟨k + 1, _, b6, cap6, by omega, by go_num, rfl, HG6, HK6⟩
            case measure => simp [intOf]; omega
          · have e3 := bit_yes hb
            have HNN : Hid (wayN p st f a seen used (k + 1) = wayN p st f a seen used k) := by show _ = _; rw [HN1.out, HPC.out, HTO.out, HT9.out, hb, Bool.or_true]; simp
            clear hb HPC HN1
            go_wp2_with fail
            go_roundw
            case rel => exact ⟨k + 1, n, b, cap, by omega, by go_num, rfl, by rw [HNN.out]; exact HG.out, HV.out⟩
            case measure => simp [intOf]; omega
        have e1 : ((d : Int) == (a : Int)) = false := by rw [beq_eq_false_iff_ne]; omega
        have e2 : ((m : Int) == (a : Int)) = false := by rw [beq_eq_false_iff_ne]; omega
        have HTO : Hid ((if m == a then d else if d == a then m else 99) = 99) := by show _ = _; rw [if_neg (by rw [beq_iff_eq]; exact hma), if_neg (by rw [beq_iff_eq]; exact hda)]
        have HNN : Hid (wayN p st f a seen used (k + 1) = wayN p st f a seen used k) := by show _ = _; rw [HN1.out, HPC.out, HTO.out]; simp
        clear HPC HN1 hma hda
        go_wp2_with fail
        go_roundw
        case rel => exact ⟨k + 1, n, b, cap, by omega, by go_num, rfl, by rw [HNN.out]; exact HG.out, HV.out⟩
        case measure => simp [intOf]; omega
      · obtain rfl : k = st.length := by omega
        go_wp2_with fail
        go_ret
        rw [HE.out]
        have hln := (grows_cap HG.out).2
        exact ⟨b, cap, by rw [hln]; rfl, belT HBW.out HV.out, by rw [hln]; exact HG.out.base HBW.out.size⟩

end Go.Proofs.Ytcminkifdbdaaaa

namespace Go.Proofs.Ytcminkifdbdaaaa
set_option linter.unusedSimpArgs false
set_option linter.unusedVariables false
open Go.RowKit

/-- the first cells of block b are these numbers -/
def RowB (w : World) (b N : Nat) (l : List Nat) : Prop := ∃ f, w.rowIs b 3 N f ∧ l.length ≤ N ∧ ∀ i, i < l.length → f i = .int .i64 ((l.getD i 0 : Nat) : Int)

theorem RowB.of {w : World} {base b n cap : Nat} {l : List Nat} (h : Grows w base (.slice (some ⟨b, 0, none⟩) n cap) (castT l)) : base ≤ b ∧ RowB w b cap l := by
  obtain ⟨h1, ⟨h2, _⟩ | ⟨b', cap', cur, e, h3, h4, h5, h6, h7, h8⟩⟩ := h
  · cases h2
  · injection e with e1 e2 e3
    injection e1 with e1
    injection e1 with e1
    subst e1
    subst e3
    rw [castT_length] at h5
    refine ⟨h3, fun i => cur.getD i undef, ⟨cur, h4, by omega, fun i hi => ?_⟩, h5, fun i hi => ?_⟩
    · simp [show i < cur.size by omega]
    · have e := vals_get (castT l) i (by rw [castT_length]; exact hi)
      rw [← h8, List.getElem?_take, if_pos (by rw [castT_length]; omega), nth_castT] at e
      have : cur[i]? = some (.int .i64 ((l.getD i 0 : Nat) : Int)) := by simpa using e
      simp [Array.getD_eq_getD_getElem?, this]

theorem RowB.cell {w : World} {b N : Nat} {l : List Nat} (h : RowB w b N l) {i : Nat} (hi : i < l.length) : w.cell? ⟨b, i, none⟩ = some (.int .i64 ((l.getD i 0 : Nat) : Int)) := by
  obtain ⟨f, h1, h2, h3⟩ := h
  rw [h1.cell (by omega), h3 i hi]

theorem RowB.free {w : World} {b N : Nat} {l : List Nat} (h : RowB w b N l) (i : Nat) : w.frozen? ⟨b, i, none⟩ = false := by
  obtain ⟨f, h1, _⟩ := h; exact h1.frozen i

theorem RowB.lt {w : World} {b N : Nat} {l : List Nat} (h : RowB w b N l) : b < w.heap.size := by
  obtain ⟨f, h1, _⟩ := h; exact h1.lt

theorem RowB.keep {w w' : World} {b N : Nat} {l : List Nat} (h : RowB w b N l) (hb : Below w.heap.size w w') : RowB w' b N l := by
  have hlt := h.lt
  obtain ⟨f, h1, h2⟩ := h; exact ⟨f, h1.of_block (hb.block b hlt), h2⟩

theorem getD_setT (l : List Nat) (k i x : Nat) (h : i < l.length) : (l.set k x).getD i 0 = if i = k then x else l.getD i 0 := by
  rw [List.getD_eq_getElem?_getD, List.getD_eq_getElem?_getD, List.getElem?_set]
  by_cases e : i = k
  · subst e; simp [h]
  · rw [if_neg e, if_neg (fun h => e h.symm)]

theorem RowB.poke {w : World} {b N : Nat} {l : List Nat} (h : RowB w b N l) (k x : Nat) : RowB (w.setCell ⟨b, k, none⟩ (.int .i64 (x : Int))) b N (l.set k x) := by
  obtain ⟨f, h1, h2, h3⟩ := h
  refine ⟨_, h1.set k _, by rw [List.length_set]; exact h2, fun i hi => ?_⟩
  rw [List.length_set] at hi
  rw [getD_setT _ _ _ _ hi]
  by_cases e : i = k
  · rw [if_pos e, if_pos e]
  · rw [if_neg e, if_neg e]; exact h3 i hi

theorem RowB.own {w : World} {b N lo : Nat} {l : List Nat} (h : RowB w b N l) (hb : lo ≤ b) : OwnI w lo w.heap.size (some ⟨b, 0, none⟩) (castT l) := by
  have hlt := h.lt
  obtain ⟨f, h1, h2, h3⟩ := h
  exact fun _ => ⟨b, N, f, rfl, hb, hlt, h1, by rw [castT_length]; exact h2, fun i hi => by rw [nth_castT]; exact h3 i (by rwa [castT_length] at hi)⟩

theorem sinkT_length : ∀ (j : Nat) (l : List Nat), (sinkT l j).length = l.length
  | 0, _ => rfl
  | j + 1, l => by
    simp only [sinkT]; split
    · rw [sinkT_length j]; simp
    · rfl

theorem sortT_length (l : List Nat) : ∀ k, (sortT l k).length = l.length
  | 0 => rfl
  | k + 1 => by simp only [sortT]; rw [sinkT_length, sortT_length l k]

/-- the ways of what may be no town -/
def waysI (P : Int) (l : List Int) : List Int := if townB P l = true then castT (waysT P.toNat (l.map Int.toNat)) else []

theorem castT_back (st : List Nat) : (castT st).map Int.toNat = st := by
  unfold castT; rw [List.map_map]
  exact (List.map_congr_left fun x _ => by simp).trans (List.map_id st)

theorem waysI_no {P : Int} {l : List Int} (h : townB P l = false) : waysI P l = [] := by unfold waysI; rw [h]; rfl

theorem waysI_yes {p : Nat} {st : List Nat} (h : Twn p st) : waysI (p : Int) (castT st) = castT (waysT p st) := by
  unfold waysI; rw [if_pos (twn_town h), castT_back]; rfl

theorem unseen_lt {p : Nat} (h1 : 2 ≤ p) (h2 : p ≤ 5) : cnt (fun i => !bP 1 i) p < p := by
  have : ∀ q : Fin 6, 2 ≤ q.val → cnt (fun i => !bP 1 i) q.val < q.val := by decide +kernel
  exact this ⟨p, by omega⟩ h1

set_option maxHeartbeats 4000000 in
set_option maxRecDepth 100000 in
theorem waysOf_spec (P : Int) (A : Option Addr) (c : Nat) (l : List Int) (hl : l.length ≤ maxLen) (w : World) (h : Ints w (fun b => b < w.heap.size) A l) :
    Calls Try.prog 22 #[twnV P A l.length c] w (NewList w (waysI P l)) := by
  unfold twnV
  obtain ⟨W, hW, hB, hbW, hz⟩ := twn_world w P A l.length c
  have HW := Lib.hid hW
  have HBW := Lib.hid hbW
  have c0 := hB.c0
  have c1 := hB.c1
  have HB := Lib.hid hB
  have HI := Lib.hid ((keepInts hbW h).lt hbW.size)
  have HOK : Hid (Calls Try.prog 17 #[.agg #[.int .i64 P, .slice A l.length c]] W (Adds (.bool (townB P l)) W)) := townOk_spec P A c l hl W HI.out
  clear hW hB hbW hz h hl
  rcases hb : townB P l with _ | _
  · have HN := Lib.hid (waysI_no hb)
    rw [hb] at HOK
    clear hb
    go_enter Try.func22, Try.ntmps22
    go_wp2_with fail
    rw [← HW.out]
    go_wp2_with fail
    refine HOK.out.mono ?_
    rintro e w1 ⟨rfl, hb1⟩
    have HB1 := Lib.hid (belT HBW.out hb1)
    clear hb1
    go_wp2_with fail
    go_ret
    rw [HN.out]
    exact ⟨_, 0, rfl, HB1.out.alloc HB1.out.size _, fun h0 => absurd h0 (by simp)⟩
  obtain ⟨p, st, rfl, rfl, ht⟩ := town_nat hb
  rw [hb] at HOK
  rw [castT_length] at HOK HW HB c1 ⊢
  have hlo := ht.plo
  have hhi := ht.phi
  obtain ⟨W0, hW0⟩ : ∃ x, wayF p st p 0 1 0 = x := ⟨_, rfl⟩
  have HWS : Hid (∀ w', Below W.heap.size W w' → Calls Try.prog 59 #[.agg #[.int .i64 (p : Int), .slice A st.length c], .int .i64 0, .int .i64 1, .int .i64 0] w' (ListB w' (castT W0))) := fun w' hb' => by
    have := ways_spec ht p 0 1 0 hhi (by omega) (by decide) (Nat.two_pow_pos _) (unseen_lt hlo hhi) A c w' ((keepInts hb' HI.out).lt hb'.size)
    rw [hW0] at this; exact this
  have HE : Hid (waysI (p : Int) (castT st) = castT (sortT W0 (W0.length - 1))) := by
    show _ = _; rw [waysI_yes ht]; unfold waysT; rw [hW0]
  have HMAX : Hid (W0.length ≤ 32768) := by
    show _ ≤ _
    have h1 := (wayF_len (p := p) ht.len p 0 1 0).1
    rw [hW0] at h1
    exact Nat.le_trans h1 (Nat.le_trans (Nat.pow_le_pow_right (by decide) hhi) (by decide))
  have hmax := HMAX.out
  clear hb ht hW0 hlo hhi
  go_enter Try.func22, Try.ntmps22
  go_wp2_with fail
  rw [← HW.out]
  go_wp2_with fail
  refine HOK.out.mono ?_
  rintro e w1 ⟨rfl, hb1⟩
  have hB1 := HB.out.still hb1
  have c0 := hB1.c0
  have c1 := hB1.c1
  have HB1 := Lib.hid hb1
  clear hb1 hB1
  go_wp2_with fail
  refine (HWS.out _ HB1.out).mono ?_
  rintro e w2 ⟨b, cap, rfl, hb2, hg2⟩
  obtain ⟨hlob, hrow⟩ := RowB.of hg2
  have HR0 := Lib.hid hrow
  have HB2 := Lib.hid hb2
  have HLO := Lib.hid hlob
  obtain ⟨N, hN⟩ : ∃ N, W0.length = N := ⟨_, rfl⟩
  have HN := Lib.hid hN
  have hcn : (castT W0).length = N := by rw [castT_length]; exact hN
  rw [hcn]
  rw [hN] at hmax HE
  clear hb2 hg2 hlob hrow hN hcn HMAX c0 c1
  go_wp2_with fail
  go_loopw [4] (fun i wr => ∃ k : Nat, 1 ≤ k ∧ (k ≤ N ∨ k = 1) ∧ i = .int .i64 (k : Int) ∧ Hid (RowB wr b cap (sortT W0 (k - 1))) ∧ Hid (Below w1.heap.size w1 wr)) (fun i _ => N - (intOf i).toNat)
  case atStart => exact ⟨1, Nat.le_refl _, .inr rfl, rfl, HR0, HB2⟩
  case round =>
    clear HR0 HB2
    obtain ⟨k, hk1, hk, rfl, HR, HV⟩ := hrel
    by_cases hlt : k < N
    · obtain ⟨wo, rfl⟩ : ∃ wo : World, wo = wr := ⟨_, rfl⟩
      have hks : Hid (sinkT (sortT W0 (k - 1)) k = sortT W0 k) := by
        show _ = _
        obtain ⟨j, rfl⟩ : ∃ j, k = j + 1 := ⟨k - 1, by omega⟩
        rfl
      have w0 : decide ((k : Int) < (N : Int)) = true := decide_eq_true (by omega)
      have w0' : decide (k < N) = true := decide_eq_true (by omega)
      go_wp2_with fail
      go_loopw [5] (fun i wr => ∃ (j : Nat) (L : List Nat), j ≤ k ∧ i = .int .i64 (j : Int) ∧ L.length = N ∧ Hid (sinkT L j = sortT W0 k) ∧ Hid (RowB wr b cap L) ∧ Hid (Below w1.heap.size w1 wr)) (fun i _ => (intOf i).toNat)
      case atStart => exact ⟨k, sortT W0 (k - 1), Nat.le_refl _, rfl, by rw [sortT_length]; exact HN.out, hks, HR, HV⟩
      case round =>
        clear HR HV hks
        obtain ⟨j, L, hj, rfl, hL, HS, HR, HV⟩ := hrel
        have hbl := HR.out.lt
        by_cases hj0 : j = 0
        · have g1 : decide ((0 : Int) < (j : Int)) = false := decide_eq_false (by omega)
          have g2 : decide (0 < j) = false := decide_eq_false (by omega)
          have HS2 : Hid (L = sortT W0 k) := by show _ = _; rw [← HS.out, hj0]; rfl
          clear hj0
          go_wp2_with fail
          refine wp_region_held_drew (S := fun w' => Below wr.heap.size wr w') (by kernel_rfl) (by first | exact Below.drew (Below.refl _ _) | exact Below.drew (by assumption)) (fun hHeld => ?_)
          refine wpAnyH_take (i := 0) (v := ?v21_0) rfl (by kernel_rfl) (by kernel_rfl) (by kernel_rfl) (fun _ _ _ h => h) (Or.inl ⟨by rfl, ?y21_0⟩) (by assumption) ?z21_0
          case y21_0 => (intro w hSw; go_simp; first | done | with_reducible rfl)
          try simp only [List.getElem_toArray, List.getElem_cons_succ, List.getElem_cons_zero, Act.put, List.setIfInBounds_toArray, List.set_cons_zero, List.set_cons_succ]
          refine wpAnyH_take (i := 1) (v := ?v21_1) rfl (by kernel_rfl) (by kernel_rfl) (by kernel_rfl) (fun _ _ _ h => h) (Or.inl ⟨by rfl, ?y21_1⟩) (by assumption) ?z21_1
          case y21_1 => (intro w hSw; go_simp; first | done | with_reducible rfl)
          try simp only [List.getElem_toArray, List.getElem_cons_succ, List.getElem_cons_zero, Act.put, List.setIfInBounds_toArray, List.set_cons_zero, List.set_cons_succ]
          refine wpAnyH_take (i := 2) (v := ?v21_2) rfl (by kernel_rfl) (by kernel_rfl) (by kernel_rfl) (fun _ _ _ h => h) (Or.inl ⟨by rfl, ?y21_2⟩) (by assumption) ?z21_2
          case y21_2 => (intro w hSw; go_simp; first | done | with_reducible rfl)
          try simp only [List.getElem_toArray, List.getElem_cons_succ, List.getElem_cons_zero, Act.put, List.setIfInBounds_toArray, List.set_cons_zero, List.set_cons_succ]
          refine wpAnyH_take (i := 3) rfl (by kernel_rfl) (by kernel_rfl) (by kernel_rfl) (fun _ _ _ h => h) (Or.inr ⟨by rfl, rfl⟩) (by assumption) ?_
          try simp only [List.getElem_toArray, List.getElem_cons_succ, List.getElem_cons_zero, Act.put, List.setIfInBounds_toArray, List.set_cons_zero, List.set_cons_succ]
          refine wpAnyH_take (i := 4) rfl (by kernel_rfl) (by kernel_rfl) (by kernel_rfl) (fun _ _ _ h => h) (Or.inr ⟨by rfl, rfl⟩) (by assumption) ?_
          try simp only [List.getElem_toArray, List.getElem_cons_succ, List.getElem_cons_zero, Act.put, List.setIfInBounds_toArray, List.set_cons_zero, List.set_cons_succ]
          refine wpAnyH_take (i := 5) rfl (by kernel_rfl) (by kernel_rfl) (by kernel_rfl) (fun _ _ _ h => h) (Or.inr ⟨by rfl, rfl⟩) (by assumption) ?_
          try simp only [List.getElem_toArray, List.getElem_cons_succ, List.getElem_cons_zero, Act.put, List.setIfInBounds_toArray, List.set_cons_zero, List.set_cons_succ]
          refine wpAnyH_take (i := 6) rfl (by kernel_rfl) (by kernel_rfl) (by kernel_rfl) (fun _ _ _ h => h) (Or.inr ⟨by rfl, rfl⟩) (by assumption) ?_
          try simp only [List.getElem_toArray, List.getElem_cons_succ, List.getElem_cons_zero, Act.put, List.setIfInBounds_toArray, List.set_cons_zero, List.set_cons_succ]
          refine wpAnyH_take (i := 7) rfl (by kernel_rfl) (by kernel_rfl) (by kernel_rfl) (fun _ _ _ h => h) (Or.inr ⟨by rfl, rfl⟩) (by assumption) ?_
          try simp only [List.getElem_toArray, List.getElem_cons_succ, List.getElem_cons_zero, Act.put, List.setIfInBounds_toArray, List.set_cons_zero, List.set_cons_succ]
          refine wpAnyH_take (i := 8) rfl (by kernel_rfl) (by kernel_rfl) (by kernel_rfl) (fun _ _ _ h => h) (Or.inr ⟨by rfl, rfl⟩) (by assumption) ?_
          try simp only [List.getElem_toArray, List.getElem_cons_succ, List.getElem_cons_zero, Act.put, List.setIfInBounds_toArray, List.set_cons_zero, List.set_cons_succ]
          refine wpAnyH_take (i := 9) rfl (by kernel_rfl) (by kernel_rfl) (by kernel_rfl) (fun _ _ _ h => h) (Or.inr ⟨by rfl, rfl⟩) (by assumption) ?_
          try simp only [List.getElem_toArray, List.getElem_cons_succ, List.getElem_cons_zero, Act.put, List.setIfInBounds_toArray, List.set_cons_zero, List.set_cons_succ]
          refine wpAnyH_take (i := 10) rfl (by kernel_rfl) (by kernel_rfl) (by kernel_rfl) (fun _ _ _ h => h) (Or.inr ⟨by rfl, rfl⟩) (by assumption) ?_
          try simp only [List.getElem_toArray, List.getElem_cons_succ, List.getElem_cons_zero, Act.put, List.setIfInBounds_toArray, List.set_cons_zero, List.set_cons_succ]
          refine wpAnyH_take (i := 11) rfl (by kernel_rfl) (by kernel_rfl) (by kernel_rfl) (fun _ _ _ h => h) (Or.inr ⟨by rfl, rfl⟩) (by assumption) ?_
          try simp only [List.getElem_toArray, List.getElem_cons_succ, List.getElem_cons_zero, Act.put, List.setIfInBounds_toArray, List.set_cons_zero, List.set_cons_succ]
          refine wpAnyH_take (i := 12) rfl (by kernel_rfl) (by kernel_rfl) (by kernel_rfl) (fun _ _ _ h => h) (Or.inr ⟨by rfl, rfl⟩) (by assumption) ?_
          try simp only [List.getElem_toArray, List.getElem_cons_succ, List.getElem_cons_zero, Act.put, List.setIfInBounds_toArray, List.set_cons_zero, List.set_cons_succ]
          refine wpAnyH_take (i := 13) (v := ?v21_13) rfl (by kernel_rfl) (by kernel_rfl) (by kernel_rfl) (fun _ _ _ h => h) (Or.inl ⟨by rfl, ?y21_13⟩) (by assumption) ?z21_13
          case y21_13 => (intro w hSw; go_simp; first | done | with_reducible rfl)
          try simp only [List.getElem_toArray, List.getElem_cons_succ, List.getElem_cons_zero, Act.put, List.setIfInBounds_toArray, List.set_cons_zero, List.set_cons_succ]
          refine wpAnyH_done (by kernel_rfl) ?_ _
          go_wp2_with fail
          go_roundw
          case rel => exact ⟨k + 1, by omega, by omega, by go_num, by rw [Nat.add_sub_cancel, ← HS2.out]; exact HR.out.keep (by assumption), belT HV.out (by assumption)⟩
          case measure => simp [intOf]; omega
        obtain ⟨i, hi⟩ : ∃ i, j = i + 1 := ⟨j - 1, by omega⟩
        obtain ⟨x, hx⟩ : ∃ x, L.getD j 0 = x := ⟨_, rfl⟩
        obtain ⟨y, hy⟩ : ∃ y, L.getD i 0 = y := ⟨_, rfl⟩
        have hjN : j < N := by omega
        have hiN : i < N := by omega
        have hcx := HR.out.cell (i := j) (by omega)
        have hcy := HR.out.cell (i := i) (by omega)
        rw [hx] at hcx
        rw [hy] at hcy
        have sx := stays hbl hcx
        have sy := stays hbl hcy
        have g1 : decide ((0 : Int) < (j : Int)) = true := decide_eq_true (by omega)
        have g2 : decide (0 < j) = true := decide_eq_true (by omega)
        have q6 : IntKind.i64.wrap ((j : Int) - 1) = (i : Int) := by rw [hi, IntWalk.i64_in _ ⟨by omega, by omega⟩]; omega
        have HST : Hid (sinkT L j = if x < y then sinkT ((L.set j y).set i x) i else L) := by show _ = _; subst hi; simp only [sinkT]; rw [hx, hy]
        have HJI := Lib.hid hi
        clear hi hj0 hx hy
        by_cases hxy : x < y
        · have f1 : decide ((x : Int) < (y : Int)) = true := decide_eq_true (by omega)
          have f2 : decide (x < y) = true := decide_eq_true hxy
          have HS2 : Hid (sinkT ((L.set j y).set i x) i = sortT W0 k) := by show _ = _; rw [← HS.out, HST.out, if_pos hxy]
          clear hxy
          go_wp2_with fail
          have hfj := HR.out.free j
          have hfi := HR.out.free i
          have hd : Below wr.heap.size wr wr.drew := Below.drew (Below.refl _ _)
          have HR3 : Hid (RowB ((wr.drew.setCell ⟨b, j, none⟩ (.int .i64 (y : Int))).setCell ⟨b, i, none⟩ (.int .i64 (x : Int))) b cap ((L.set j y).set i x)) := ((HR.out.keep hd).poke j y).poke i x
          have HV3 : Hid (Below w1.heap.size w1 ((wr.drew.setCell ⟨b, j, none⟩ (.int .i64 (y : Int))).setCell ⟨b, i, none⟩ (.int .i64 (x : Int)))) := ((belT HV.out hd).setCell HLO.out _).setCell HLO.out _
          have hR4 : RowB (wr.drew.setCell ⟨b, j, none⟩ (.int .i64 (y : Int))) b cap (L.set j y) := (HR.out.keep hd).poke j y
          have hne : ¬ i = j := by have := HJI.out; omega
          have hne' : ¬ j = i := by have := HJI.out; omega
          have hcz := hR4.cell (i := i) (by simp [hL]; omega)
          rw [getD_setT _ _ _ _ (by omega), if_neg hne] at hcz
          have hfz := hR4.free i
          clear hd hR4
          refine wp_region_held_drew (S := fun w' => Below wr.heap.size wr w') (by kernel_rfl) (by first | exact Below.drew (Below.refl _ _) | exact Below.drew (by assumption)) (fun hHeld => ?_)
          refine wpAnyH_take (i := 0) (v := ?v22_0) rfl (by kernel_rfl) (by kernel_rfl) (by kernel_rfl) (fun _ _ _ h => h) (Or.inl ⟨by rfl, ?y22_0⟩) (by assumption) ?z22_0
          case y22_0 => (intro w hSw; go_simp; first | done | with_reducible rfl)
          try simp only [List.getElem_toArray, List.getElem_cons_succ, List.getElem_cons_zero, Act.put, List.setIfInBounds_toArray, List.set_cons_zero, List.set_cons_succ]
          refine wpAnyH_take (i := 1) (v := ?v22_1) rfl (by kernel_rfl) (by kernel_rfl) (by kernel_rfl) (fun _ _ _ h => h) (Or.inl ⟨by rfl, ?y22_1⟩) (by assumption) ?z22_1
          case y22_1 => (intro w hSw; go_simp; first | done | with_reducible rfl)
          try simp only [List.getElem_toArray, List.getElem_cons_succ, List.getElem_cons_zero, Act.put, List.setIfInBounds_toArray, List.set_cons_zero, List.set_cons_succ]
          refine wpAnyH_take (i := 2) (v := ?v22_2) rfl (by kernel_rfl) (by kernel_rfl) (by kernel_rfl) (fun _ _ _ h => h) (Or.inl ⟨by rfl, ?y22_2⟩) (by assumption) ?z22_2
          case y22_2 => (intro w hSw; go_simp; first | done | with_reducible rfl)
          try simp only [List.getElem_toArray, List.getElem_cons_succ, List.getElem_cons_zero, Act.put, List.setIfInBounds_toArray, List.set_cons_zero, List.set_cons_succ]
          refine wpAnyH_take (i := 3) (v := ?v22_3) rfl (by kernel_rfl) (by kernel_rfl) (by kernel_rfl) (fun _ _ _ h => h) (Or.inl ⟨by rfl, ?y22_3⟩) (by assumption) ?z22_3
          case y22_3 => (intro w hSw; go_simp; first | done | with_reducible rfl)
          try simp only [List.getElem_toArray, List.getElem_cons_succ, List.getElem_cons_zero, Act.put, List.setIfInBounds_toArray, List.set_cons_zero, List.set_cons_succ]
          refine wpAnyH_take (i := 4) (v := ?v22_4) rfl (by kernel_rfl) (by kernel_rfl) (by kernel_rfl) (fun _ _ _ h => h) (Or.inl ⟨by rfl, ?y22_4⟩) (by assumption) ?z22_4
          case y22_4 => (intro w hSw; go_simp; first | done | with_reducible rfl)
          try simp only [List.getElem_toArray, List.getElem_cons_succ, List.getElem_cons_zero, Act.put, List.setIfInBounds_toArray, List.set_cons_zero, List.set_cons_succ]
          refine wpAnyH_take (i := 5) (v := ?v22_5) rfl (by kernel_rfl) (by kernel_rfl) (by kernel_rfl) (fun _ _ _ h => h) (Or.inl ⟨by rfl, ?y22_5⟩) (by assumption) ?z22_5
          case y22_5 => (intro w hSw; go_simp; first | done | with_reducible rfl)
          try simp only [List.getElem_toArray, List.getElem_cons_succ, List.getElem_cons_zero, Act.put, List.setIfInBounds_toArray, List.set_cons_zero, List.set_cons_succ]
          refine wpAnyH_take (i := 6) (v := ?v22_6) rfl (by kernel_rfl) (by kernel_rfl) (by kernel_rfl) (fun _ _ _ h => h) (Or.inl ⟨by rfl, ?y22_6⟩) (by assumption) ?z22_6
          case y22_6 => (intro w hSw; go_simp; first | done | with_reducible rfl)
          try simp only [List.getElem_toArray, List.getElem_cons_succ, List.getElem_cons_zero, Act.put, List.setIfInBounds_toArray, List.set_cons_zero, List.set_cons_succ]
          refine wpAnyH_take (i := 7) (v := ?v22_7) rfl (by kernel_rfl) (by kernel_rfl) (by kernel_rfl) (fun _ _ _ h => h) (Or.inl ⟨by rfl, ?y22_7⟩) (by assumption) ?z22_7
          case y22_7 => (intro w hSw; go_simp; first | done | with_reducible rfl)
          try simp only [List.getElem_toArray, List.getElem_cons_succ, List.getElem_cons_zero, Act.put, List.setIfInBounds_toArray, List.set_cons_zero, List.set_cons_succ]
          refine wpAnyH_take (i := 8) (v := ?v22_8) rfl (by kernel_rfl) (by kernel_rfl) (by kernel_rfl) (fun _ _ _ h => h) (Or.inl ⟨by rfl, ?y22_8⟩) (by assumption) ?z22_8
          case y22_8 => (intro w hSw; go_simp; first | done | with_reducible rfl)
          try simp only [List.getElem_toArray, List.getElem_cons_succ, List.getElem_cons_zero, Act.put, List.setIfInBounds_toArray, List.set_cons_zero, List.set_cons_succ]
          refine wpAnyH_take (i := 9) (v := ?v22_9) rfl (by kernel_rfl) (by kernel_rfl) (by kernel_rfl) (fun _ _ _ h => h) (Or.inl ⟨by rfl, ?y22_9⟩) (by assumption) ?z22_9
          case y22_9 => (intro w hSw; go_simp; first | done | with_reducible rfl)
          try simp only [List.getElem_toArray, List.getElem_cons_succ, List.getElem_cons_zero, Act.put, List.setIfInBounds_toArray, List.set_cons_zero, List.set_cons_succ]
          refine wpAnyH_take (i := 10) (v := ?v22_10) rfl (by kernel_rfl) (by kernel_rfl) (by kernel_rfl) (fun _ _ _ h => h) (Or.inl ⟨by rfl, ?y22_10⟩) (by assumption) ?z22_10
          case y22_10 => (intro w hSw; go_simp; first | done | with_reducible rfl)
          try simp only [List.getElem_toArray, List.getElem_cons_succ, List.getElem_cons_zero, Act.put, List.setIfInBounds_toArray, List.set_cons_zero, List.set_cons_succ]
          refine wpAnyH_take (i := 11) (v := ?v22_11) rfl (by kernel_rfl) (by kernel_rfl) (by kernel_rfl) (fun _ _ _ h => h) (Or.inl ⟨by rfl, ?y22_11⟩) (by assumption) ?z22_11
          case y22_11 => (intro w hSw; go_simp; first | done | with_reducible rfl)
          try simp only [List.getElem_toArray, List.getElem_cons_succ, List.getElem_cons_zero, Act.put, List.setIfInBounds_toArray, List.set_cons_zero, List.set_cons_succ]
          refine wpAnyH_take (i := 12) (v := ?v22_12) rfl (by kernel_rfl) (by kernel_rfl) (by kernel_rfl) (fun _ _ _ h => h) (Or.inl ⟨by rfl, ?y22_12⟩) (by assumption) ?z22_12
          case y22_12 => (intro w hSw; go_simp; first | done | with_reducible rfl)
          try simp only [List.getElem_toArray, List.getElem_cons_succ, List.getElem_cons_zero, Act.put, List.setIfInBounds_toArray, List.set_cons_zero, List.set_cons_succ]
          refine wpAnyH_take (i := 13) (v := ?v22_13) rfl (by kernel_rfl) (by kernel_rfl) (by kernel_rfl) (fun _ _ _ h => h) (Or.inl ⟨by rfl, ?y22_13⟩) (by assumption) ?z22_13
          case y22_13 => (intro w hSw; go_simp; first | done | with_reducible rfl)
          try simp only [List.getElem_toArray, List.getElem_cons_succ, List.getElem_cons_zero, Act.put, List.setIfInBounds_toArray, List.set_cons_zero, List.set_cons_succ]
          refine wpAnyH_done (by kernel_rfl) ?_ _
          go_wp2_with fail
          go_roundw
          case rel => exact ⟨i, (L.set j y).set i x, by have := HJI.out; omega, by go_num, by simp [hL], HS2, HR3, HV3⟩
          case measure => have := HJI.out; simp [intOf]; omega
        · have f1 : decide ((x : Int) < (y : Int)) = false := decide_eq_false (by omega)
          have f2 : decide (x < y) = false := decide_eq_false hxy
          have HS2 : Hid (L = sortT W0 k) := by show _ = _; rw [← HS.out, HST.out, if_neg hxy]
          clear hxy
          go_wp2_with fail
          refine wp_region_held_drew (S := fun w' => Below wr.heap.size wr w') (by kernel_rfl) (by first | exact Below.drew (Below.refl _ _) | exact Below.drew (by assumption)) (fun hHeld => ?_)
          refine wpAnyH_take (i := 0) (v := ?v23_0) rfl (by kernel_rfl) (by kernel_rfl) (by kernel_rfl) (fun _ _ _ h => h) (Or.inl ⟨by rfl, ?y23_0⟩) (by assumption) ?z23_0
          case y23_0 => (intro w hSw; go_simp; first | done | with_reducible rfl)
          try simp only [List.getElem_toArray, List.getElem_cons_succ, List.getElem_cons_zero, Act.put, List.setIfInBounds_toArray, List.set_cons_zero, List.set_cons_succ]
          refine wpAnyH_take (i := 1) (v := ?v23_1) rfl (by kernel_rfl) (by kernel_rfl) (by kernel_rfl) (fun _ _ _ h => h) (Or.inl ⟨by rfl, ?y23_1⟩) (by assumption) ?z23_1
          case y23_1 => (intro w hSw; go_simp; first | done | with_reducible rfl)
          try simp only [List.getElem_toArray, List.getElem_cons_succ, List.getElem_cons_zero, Act.put, List.setIfInBounds_toArray, List.set_cons_zero, List.set_cons_succ]
          refine wpAnyH_take (i := 2) (v := ?v23_2) rfl (by kernel_rfl) (by kernel_rfl) (by kernel_rfl) (fun _ _ _ h => h) (Or.inl ⟨by rfl, ?y23_2⟩) (by assumption) ?z23_2
          case y23_2 => (intro w hSw; go_simp; first | done | with_reducible rfl)
          try simp only [List.getElem_toArray, List.getElem_cons_succ, List.getElem_cons_zero, Act.put, List.setIfInBounds_toArray, List.set_cons_zero, List.set_cons_succ]
          refine wpAnyH_take (i := 3) (v := ?v23_3) rfl (by kernel_rfl) (by kernel_rfl) (by kernel_rfl) (fun _ _ _ h => h) (Or.inl ⟨by rfl, ?y23_3⟩) (by assumption) ?z23_3
          case y23_3 => (intro w hSw; go_simp; first | done | with_reducible rfl)
          try simp only [List.getElem_toArray, List.getElem_cons_succ, List.getElem_cons_zero, Act.put, List.setIfInBounds_toArray, List.set_cons_zero, List.set_cons_succ]
          refine wpAnyH_take (i := 4) (v := ?v23_4) rfl (by kernel_rfl) (by kernel_rfl) (by kernel_rfl) (fun _ _ _ h => h) (Or.inl ⟨by rfl, ?y23_4⟩) (by assumption) ?z23_4
          case y23_4 => (intro w hSw; go_simp; first | done | with_reducible rfl)
          try simp only [List.getElem_toArray, List.getElem_cons_succ, List.getElem_cons_zero, Act.put, List.setIfInBounds_toArray, List.set_cons_zero, List.set_cons_succ]
          refine wpAnyH_take (i := 5) (v := ?v23_5) rfl (by kernel_rfl) (by kernel_rfl) (by kernel_rfl) (fun _ _ _ h => h) (Or.inl ⟨by rfl, ?y23_5⟩) (by assumption) ?z23_5
          case y23_5 => (intro w hSw; go_simp; first | done | with_reducible rfl)
          try simp only [List.getElem_toArray, List.getElem_cons_succ, List.getElem_cons_zero, Act.put, List.setIfInBounds_toArray, List.set_cons_zero, List.set_cons_succ]
          refine wpAnyH_take (i := 6) (v := ?v23_6) rfl (by kernel_rfl) (by kernel_rfl) (by kernel_rfl) (fun _ _ _ h => h) (Or.inl ⟨by rfl, ?y23_6⟩) (by assumption) ?z23_6
          case y23_6 => (intro w hSw; go_simp; first | done | with_reducible rfl)
          try simp only [List.getElem_toArray, List.getElem_cons_succ, List.getElem_cons_zero, Act.put, List.setIfInBounds_toArray, List.set_cons_zero, List.set_cons_succ]
          refine wpAnyH_take (i := 7) (v := ?v23_7) rfl (by kernel_rfl) (by kernel_rfl) (by kernel_rfl) (fun _ _ _ h => h) (Or.inl ⟨by rfl, ?y23_7⟩) (by assumption) ?z23_7
          case y23_7 => (intro w hSw; go_simp; first | done | with_reducible rfl)
          try simp only [List.getElem_toArray, List.getElem_cons_succ, List.getElem_cons_zero, Act.put, List.setIfInBounds_toArray, List.set_cons_zero, List.set_cons_succ]
          refine wpAnyH_take (i := 8) (v := ?v23_8) rfl (by kernel_rfl) (by kernel_rfl) (by kernel_rfl) (fun _ _ _ h => h) (Or.inl ⟨by rfl, ?y23_8⟩) (by assumption) ?z23_8
          case y23_8 => (intro w hSw; go_simp; first | done | with_reducible rfl)
          try simp only [List.getElem_toArray, List.getElem_cons_succ, List.getElem_cons_zero, Act.put, List.setIfInBounds_toArray, List.set_cons_zero, List.set_cons_succ]
          refine wpAnyH_take (i := 9) (v := ?v23_9) rfl (by kernel_rfl) (by kernel_rfl) (by kernel_rfl) (fun _ _ _ h => h) (Or.inl ⟨by rfl, ?y23_9⟩) (by assumption) ?z23_9
          case y23_9 => (intro w hSw; go_simp; first | done | with_reducible rfl)
          try simp only [List.getElem_toArray, List.getElem_cons_succ, List.getElem_cons_zero, Act.put, List.setIfInBounds_toArray, List.set_cons_zero, List.set_cons_succ]
          refine wpAnyH_take (i := 10) (v := ?v23_10) rfl (by kernel_rfl) (by kernel_rfl) (by kernel_rfl) (fun _ _ _ h => h) (Or.inl ⟨by rfl, ?y23_10⟩) (by assumption) ?z23_10
          case y23_10 => (intro w hSw; go_simp; first | done | with_reducible rfl)
          try simp only [List.getElem_toArray, List.getElem_cons_succ, List.getElem_cons_zero, Act.put, List.setIfInBounds_toArray, List.set_cons_zero, List.set_cons_succ]
          refine wpAnyH_take (i := 11) (v := ?v23_11) rfl (by kernel_rfl) (by kernel_rfl) (by kernel_rfl) (fun _ _ _ h => h) (Or.inl ⟨by rfl, ?y23_11⟩) (by assumption) ?z23_11
          case y23_11 => (intro w hSw; go_simp; first | done | with_reducible rfl)
          try simp only [List.getElem_toArray, List.getElem_cons_succ, List.getElem_cons_zero, Act.put, List.setIfInBounds_toArray, List.set_cons_zero, List.set_cons_succ]
          refine wpAnyH_take (i := 12) (v := ?v23_12) rfl (by kernel_rfl) (by kernel_rfl) (by kernel_rfl) (fun _ _ _ h => h) (Or.inl ⟨by rfl, ?y23_12⟩) (by assumption) ?z23_12
          case y23_12 => (intro w hSw; go_simp; first | done | with_reducible rfl)
          try simp only [List.getElem_toArray, List.getElem_cons_succ, List.getElem_cons_zero, Act.put, List.setIfInBounds_toArray, List.set_cons_zero, List.set_cons_succ]
          refine wpAnyH_take (i := 13) (v := ?v23_13) rfl (by kernel_rfl) (by kernel_rfl) (by kernel_rfl) (fun _ _ _ h => h) (Or.inl ⟨by rfl, ?y23_13⟩) (by assumption) ?z23_13
          case y23_13 => (intro w hSw; go_simp; first | done | with_reducible rfl)
          try simp only [List.getElem_toArray, List.getElem_cons_succ, List.getElem_cons_zero, Act.put, List.setIfInBounds_toArray, List.set_cons_zero, List.set_cons_succ]
          refine wpAnyH_done (by kernel_rfl) ?_ _
          go_wp2_with fail
          go_roundw
          case rel => exact ⟨k + 1, by omega, by omega, by go_num, by rw [Nat.add_sub_cancel, ← HS2.out]; exact HR.out.keep (by assumption), belT HV.out (by assumption)⟩
          case measure => simp [intOf]; omega
    · have w0 : decide ((k : Int) < (N : Int)) = false := decide_eq_false (by omega)
      have w0' : decide (k < N) = false := decide_eq_false (by omega)
      have hkN : Hid (sortT W0 (k - 1) = sortT W0 (N - 1)) := by
        show _ = _
        rcases hk with h | h
        · rw [show k = N by omega]
        · rw [show k - 1 = N - 1 by omega]
      clear hk
      go_wp2_with fail
      go_ret
      rw [HE.out, ← hkN.out]
      have hle := Nat.le_trans HBW.out.size HB1.out.size
      exact ⟨_, cap, by rw [castT_length, sortT_length, HN.out]; rfl, belT HBW.out (belT HB1.out HV.out), HR.out.own (Nat.le_trans hle HLO.out)⟩

end Go.Proofs.Ytcminkifdbdaaaa

namespace Go.Proofs.Ytcminkifdbdaaaa
set_option linter.unusedSimpArgs false
set_option linter.unusedVariables false
open Go.RowKit

/-- what l9Apart leaves: a list in a block of its own, and is there one -/
def AprRes (w : World) (r : Option (List Nat)) (e : Ending) (w' : World) : Prop :=
  ∃ b cap : Nat, e = .returned (.tuple #[.slice (some ⟨b, 0, none⟩) (r.getD []).length cap, .bool r.isSome]) ∧ Below w.heap.size w w' ∧ Grows w' w.heap.size (.slice (some ⟨b, 0, none⟩) (r.getD []).length cap) (castT (r.getD []))

theorem aprJ_len (ws : List Nat) (m : Nat) (rec : Nat → Nat → Option (List Nat)) (hrec : ∀ k u x, rec k u = some x → x.length = m) (used : Nat) : ∀ d k x, aprJ ws rec used d k = some x → x.length = m + 1 := by
  intro d
  induction d with
  | zero => intro k x h; simp only [aprJ] at h; cases h
  | succ d ih =>
    intro k x h
    simp only [aprJ] at h
    split at h
    · exact ih _ _ h
    · cases hr : rec (k + 1) (used ||| ws.getD k 0) with
      | none => rw [hr] at h; exact ih _ _ h
      | some y =>
        rw [hr] at h
        injection h with h
        rw [← h, List.length_cons, hrec _ _ _ hr]

theorem aprT_len (ws : List Nat) : ∀ m k u x, aprT ws m k u = some x → x.length = m := by
  intro m
  induction m with
  | zero => intro k u x h; simp only [aprT] at h; injection h with h; rw [← h]; rfl
  | succ m ih => intro k u x h; exact aprJ_len ws m _ ih u _ _ _ h

set_option maxHeartbeats 4000000 in
set_option maxRecDepth 100000 in
theorem apart_spec (ws : List Nat) {N : Nat} (hN : ws.length = N) (hN16 : N ≤ 1000) (hws : ∀ i, ws.getD i 0 < 256) : ∀ m : Nat, m ≤ 1000 → ∀ k used : Nat, k ≤ N → used < 256 → ∀ (A : Option Addr) (c : Nat) (w : World), Ints w (fun b => b < w.heap.size) A (castT ws) →
    Calls Try.prog 66 #[.slice A N c, .int .i64 (k : Int), .int .i64 (used : Int), .int .i64 (m : Int)] w (AprRes w (aprT ws m k used)) := by
  intro m
  induction m with
  | zero =>
    intro _ k used hk hu A c w hA
    have G0 := Lib.hid (Grows.lit w (base := w.heap.size) (Nat.le_refl _))
    clear hA
    go_enter Try.func66, Try.ntmps66
    go_wp2_with fail
    go_ret2
    exact ⟨w.heap.size, 0, rfl, (Below.refl _ _).alloc (Nat.le_refl _) _, G0.out⟩
  | succ m ih =>
    intro hm k used hk hu A c w hA
    have HA := Lib.hid hA
    have HIH := Lib.hid ih
    have HWS := Lib.hid hws
    have HE : Hid (aprT ws (m + 1) k used = aprJ ws (aprT ws m) used (N - k) k) := by show aprJ _ _ _ _ _ = _; rw [hN]
    have e0 : (((m + 1 : Nat) : Int) == 0) = false := by rw [beq_eq_false_iff_ne]; omega
    have e0' : ((m : Int) + 1 == 0) = false := by rw [beq_eq_false_iff_ne]; omega
    have q0 : IntKind.i64.wrap (((m + 1 : Nat) : Int) - 1) = (m : Int) := by rw [IntWalk.i64_in _ ⟨by omega, by omega⟩]; omega
    have q0' : IntKind.i64.wrap ((m : Int) + 1 - 1) = (m : Int) := by rw [IntWalk.i64_in _ ⟨by omega, by omega⟩]; omega
    obtain ⟨i0, hi0, hz0, hz1, hz2⟩ := info_parts infoI
    have HI0 := Lib.hid hi0
    have HZ0 := Lib.hid hz0
    have HZ1 := Lib.hid hz1
    have HZ2 := Lib.hid hz2
    have HNN := Lib.hid hN
    clear hA ih hws hi0 hz0 hz1 hz2 hN
    go_enter Try.func66, Try.ntmps66
    go_wp2_with fail
    go_loopw [10] (fun i wr => ∃ j : Nat, k ≤ j ∧ j ≤ N ∧ i = .int .i64 (j : Int) ∧ Hid (aprJ ws (aprT ws m) used (N - k) k = aprJ ws (aprT ws m) used (N - j) j) ∧ Hid (Below w.heap.size w wr)) (fun i _ => N - (intOf i).toNat)
    case atStart => exact ⟨k, Nat.le_refl _, hk, rfl, rfl, Below.refl _ _⟩
    case round =>
      obtain ⟨j, hj1, hj, rfl, HJ, HV⟩ := hrel
      by_cases hlt : j < N
      · obtain ⟨x, hx⟩ : ∃ x, ws.getD j 0 = x := ⟨_, rfl⟩
        have hx256 : x < 256 := by rw [← hx]; exact HWS.out j
        obtain ⟨ba, oa, hAe, hba, hca⟩ := HA.out (by rw [castT_length, HNN.out]; omega)
        have HAW := Lib.hid ((keepInts HV.out HA.out).lt HV.out.size)
        have hcx : wr.cell? ⟨ba, oa + j, none⟩ = some (.int .i64 (x : Int)) := by
          have := hca j (by rw [castT_length, HNN.out]; omega)
          rw [nth_castT, hx] at this
          exact (HV.out.cell (p := ⟨ba, oa + j, none⟩) hba).trans this
        subst hAe
        clear hca
        have hand := bits_and_i64 x used (by omega) (by omega)
        have hor := bits_or_i64 used x (by omega) (by omega)
        obtain ⟨y, hy⟩ : ∃ y, x &&& used = y := ⟨_, rfl⟩
        obtain ⟨u2, hu2⟩ : ∃ y, used ||| x = y := ⟨_, rfl⟩
        have hu3 : u2 < 256 := by rw [← hu2]; exact Nat.or_lt_two_pow (n := 8) hu hx256
        rw [hy] at hand
        rw [hu2] at hor
        obtain ⟨d, hd⟩ : ∃ d, N - j = d + 1 := ⟨N - j - 1, by omega⟩
        have hdn : N - (j + 1) = d := by omega
        have HSTEP : Hid (aprJ ws (aprT ws m) used (N - j) j = if y != 0 then aprJ ws (aprT ws m) used (N - (j + 1)) (j + 1) else match aprT ws m (j + 1) u2 with
            | some z => some (j :: z)
            | none => aprJ ws (aprT ws m) used (N - (j + 1)) (j + 1)) := by
          show _ = _; rw [hd, hdn]; simp only [aprJ]; rw [hx, hy, hu2]; cases aprT ws m (j + 1) u2 <;> rfl
        have HCALL : Hid (∀ w', Below wr.heap.size wr w' → Calls Try.prog 66 #[.slice (some ⟨ba, oa, none⟩) N c, .int .i64 ((j : Int) + 1), .int .i64 (u2 : Int), .int .i64 (m : Int)] w' (AprRes w' (aprT ws m (j + 1) u2))) := fun w' hb' => by
          have := HIH.out (by omega) (j + 1) u2 (by omega) hu3 (some ⟨ba, oa, none⟩) c w' ((keepInts hb' HAW.out).lt hb'.size)
          exact this
        have hlen := aprT_len ws m (j + 1) u2
        clear hx hy hu2 hd hdn hu3
        rcases hyz : (y != 0) with _ | _
        · have f1 : ((y : Int) != 0) = false := by rw [bne_eq_false_iff_eq] at hyz ⊢; omega
          have f2 : ((y : Int) == 0) = true := by rw [bne_eq_false_iff_eq] at hyz; rw [beq_iff_eq]; omega
          have f3 : y = 0 := by rw [bne_eq_false_iff_eq] at hyz; exact hyz
          have w1 : IntKind.i64.wrap ((j : Int) + 1) = (j : Int) + 1 := IntWalk.i64_in _ ⟨by omega, by omega⟩
          have HYZ := Lib.hid hyz
          clear hyz
          rcases hr : aprT ws m (j + 1) u2 with _ | z
          · have HN2 : Hid (aprJ ws (aprT ws m) used (N - k) k = aprJ ws (aprT ws m) used (N - (j + 1)) (j + 1)) := by
              show _ = _; rw [HJ.out, HSTEP.out, HYZ.out, hr]; rfl
            rw [hr] at HCALL
            clear hr hlen
            go_wp2_with (go_at_call 66; refine (HCALL.out _ (by first | exact Below.refl _ _ | assumption)).mono ?_; rintro e w5 ⟨bx, cx, rfl, hb5, hg5⟩; dsimp only [Option.isSome, Option.getD])
            go_roundw
            case rel => exact ⟨j + 1, by omega, by omega, by go_num, HN2, belT HV.out hb5⟩
            case measure => simp [intOf]; omega
          · have HZ : Hid (z.length = m) := hlen z hr
            have HN2 : Hid (aprT ws (m + 1) k used = some (j :: z)) := by
              show _ = _; rw [HE.out, HJ.out, HSTEP.out, HYZ.out, hr]; rfl
            rw [hr] at HCALL
            clear hr hlen
            go_wp2_with (first
              | (go_at_call 66; refine (HCALL.out _ (by first | exact Below.refl _ _ | assumption)).mono ?_; rintro e w5 ⟨bx, cx, rfl, hb5, hg5⟩; dsimp only [Option.isSome, Option.getD] at hg5 ⊢; rw [HZ.out] at hg5 ⊢
                 have hs5 := (belT HV.out hb5).size
                 have HB5 := Lib.hid (belT HV.out hb5)
                 have G1 : Hid (Grows (w5.alloc (.cells #[.int .i64 (j : Int)] 3)) w.heap.size (.slice (some ⟨w5.heap.size, 0, none⟩) 1 1) [(j : Int)]) := Grows.one w5 _ hs5
                 have HCX := Lib.hid ((hg5.alloc (.cells #[.int .i64 (j : Int)] 3)).cells))
              | (at_builtin; refine wpList_append_own_at _ rfl (.tmp 47) (.tmp 48) _ rfl w.heap.size 3 i0 (.int .i64 0) 1 8 Try.underlying23 HI0.out HZ0.out HZ1.out HZ2.out rfl (by decide) _ 1 (vals [(j : Int)]) rfl G1.out ⟨bx, 0, none⟩ m cx (vals (castT z)) rfl (by rw [vals_length, castT_length, HZ.out, Nat.mul_one]) HCX.out vals_one (by unfold maxLen; omega) (by omega) (by simp; omega) ?_))
            intro v' w6 hown hgrow _ _
            have hll : (castT (j :: z)).length = m + 1 := by rw [castT_length, List.length_cons, HZ.out]
            have hg6 : Grows w6 w.heap.size v' (castT (j :: z)) := by
              show World.ownsRow _ _ _ _ _ _ _
              rw [hll, Nat.add_comm m 1, show vals (castT (j :: z)) = vals [(j : Int)] ++ vals (castT z) from by simp [vals, castT]]
              exact hown
            have hb56 : Below w.heap.size w w6 := (HB5.out.alloc hs5 _).grown hgrow (by simp; omega) (fun q hq => by simp [Value.ownBlock] at hq; omega)
            obtain ⟨b', cap', hv'⟩ := hg6.at_ (by rw [hll]; omega)
            rw [hll] at hv'
            subst hv'
            have HG6 := Lib.hid hg6
            have HB56 := Lib.hid hb56
            clear hown hgrow hll hg6 hb56
            go_wp2_with fail
            go_ret2
            rw [HN2.out]
            exact ⟨b', cap', by show _ = Ending.returned (.tuple #[.slice _ (j :: z).length _, _]); rw [List.length_cons, HZ.out]; rfl, HB56.out, by show Grows _ _ (.slice _ (j :: z).length _) _; rw [List.length_cons, HZ.out]; exact HG6.out⟩
        · have f1 : ((y : Int) != 0) = true := by rw [bne_iff_ne] at hyz ⊢; omega
          have f2 : ((y : Int) == 0) = false := by rw [bne_iff_ne] at hyz; rw [beq_eq_false_iff_ne]; omega
          have f3 : ¬ y = 0 := by rw [bne_iff_ne] at hyz; exact hyz
          have HN2 : Hid (aprJ ws (aprT ws m) used (N - k) k = aprJ ws (aprT ws m) used (N - (j + 1)) (j + 1)) := by
            show _ = _; rw [HJ.out, HSTEP.out, hyz]; rfl
          clear hyz hlen
          go_wp2_with fail
          go_roundw
          case rel => exact ⟨j + 1, by omega, by omega, by go_num, HN2, HV.out⟩
          case measure => simp [intOf]; omega
      · obtain rfl : j = N := by omega
        have hz : Hid (aprT ws (m + 1) k used = none) := by
          show _ = _; rw [HE.out, HJ.out, Nat.sub_self]; rfl
        have G0 : Hid (Grows (wr.alloc (.cells #[] 3)) w.heap.size (.slice (some ⟨wr.heap.size, 0, none⟩) 0 0) []) := Grows.lit wr HV.out.size
        go_wp2_with fail
        go_ret2
        rw [hz.out]
        exact ⟨wr.heap.size, 0, rfl, HV.out.alloc HV.out.size _, G0.out⟩

end Go.Proofs.Ytcminkifdbdaaaa

namespace Go.Proofs.Ytcminkifdbdaaaa
set_option linter.unusedSimpArgs false
set_option linter.unusedVariables false
open Go.RowKit

/-- the most ways apart of what may be no town -/
def mostI (P : Int) (l : List Int) : Int := if townB P l = true then (mostT P.toNat (l.map Int.toNat) : Int) else -1

theorem mostI_no {P : Int} {l : List Int} (h : townB P l = false) : mostI P l = -1 := by unfold mostI; rw [h]; rfl

theorem mostI_yes {p : Nat} {st : List Nat} (h : Twn p st) : mostI (p : Int) (castT st) = (mostT p st : Int) := by
  unfold mostI; rw [if_pos (twn_town h), castT_back]; rfl

theorem ways_small {p : Nat} {st : List Nat} (h : Twn p st) (i : Nat) : (waysT p st).getD i 0 < 256 := by
  by_cases hi : i < (waysT p st).length
  · have hm : (waysT p st).getD i 0 ∈ waysT p st := by rw [List.getD_eq_getElem?_getD, List.getElem?_eq_getElem hi]; exact List.getElem_mem _
    have h1 := ((ways_facts h).pos _ hm).2
    have h2 : 2 ^ st.length ≤ 2 ^ 8 := Nat.pow_le_pow_right (by decide) h.len
    omega
  · rw [List.getD_eq_getElem?_getD, List.getElem?_eq_none (by omega)]; decide

theorem mwT_step (ws : List Nat) {N j : Nat} (h : j < N) : mwT ws (N - j) j = if (aprT ws (j + 1) 0 0).isSome then mwT ws (N - (j + 1)) (j + 1) else j := by
  obtain ⟨d, hd⟩ : ∃ d, N - j = d + 1 := ⟨N - j - 1, by omega⟩
  rw [hd, show N - (j + 1) = d by omega]; rfl

set_option maxHeartbeats 4000000 in
set_option maxRecDepth 100000 in
theorem mostWays_spec (P : Int) (A : Option Addr) (c : Nat) (l : List Int) (hl : l.length ≤ maxLen) (w : World) (h : Ints w (fun b => b < w.heap.size) A l) :
    Calls Try.prog 32 #[twnV P A l.length c] w (Adds (.int .i64 (mostI P l)) w) := by
  unfold twnV
  obtain ⟨W, hW, hB, hbW, hz⟩ := twn_world w P A l.length c
  have HW := Lib.hid hW
  have HBW := Lib.hid hbW
  have c0 := hB.c0
  have c1 := hB.c1
  have HB := Lib.hid hB
  have HI := Lib.hid ((keepInts hbW h).lt hbW.size)
  have HOK : Hid (Calls Try.prog 17 #[.agg #[.int .i64 P, .slice A l.length c]] W (Adds (.bool (townB P l)) W)) := townOk_spec P A c l hl W HI.out
  have HWO : Hid (∀ w', Below W.heap.size W w' → Calls Try.prog 22 #[.agg #[.int .i64 P, .slice A l.length c]] w' (NewList w' (waysI P l))) := fun w' hb' => waysOf_spec P A c l hl w' ((keepInts hb' HI.out).lt hb'.size)
  clear hW hB hbW hz h hl
  rcases hb : townB P l with _ | _
  · have HN := Lib.hid (mostI_no hb)
    rw [hb] at HOK
    clear hb
    go_enter Try.func32, Try.ntmps32
    go_wp2_with fail
    rw [← HW.out]
    go_wp2_with fail
    refine HOK.out.mono ?_
    rintro e w1 ⟨rfl, hb1⟩
    have HB1 := Lib.hid (belT HBW.out hb1)
    clear hb1
    go_wp2_with fail
    go_ret
    exact Adds.of (by rw [HN.out]; rfl) HB1.out
  obtain ⟨p, st, rfl, rfl, ht⟩ := town_nat hb
  rw [hb] at HOK
  rw [waysI_yes ht] at HWO
  rw [castT_length] at HOK HWO HW HB c1 ⊢
  obtain ⟨ws, hws⟩ : ∃ x, waysT p st = x := ⟨_, rfl⟩
  obtain ⟨N, hN⟩ : ∃ N, ws.length = N := ⟨_, rfl⟩
  have hN16 : N ≤ 16 := by rw [← hN, ← hws]; exact (ways_facts ht).many
  have HAP : Hid (∀ m : Nat, m ≤ 1000 → ∀ (A : Option Addr) (c : Nat) (w : World), Ints w (fun b => b < w.heap.size) A (castT ws) → Calls Try.prog 66 #[.slice A N c, .int .i64 0, .int .i64 0, .int .i64 (m : Int)] w (AprRes w (aprT ws m 0 0))) := fun m hm A c w hA =>
    apart_spec ws hN (by omega) (fun i => by rw [← hws]; exact ways_small ht i) m hm 0 0 (Nat.zero_le _) (by decide) A c w hA
  have HE : Hid (mostI (p : Int) (castT st) = (mwT ws N 0 : Int)) := by show _ = _; rw [mostI_yes ht]; unfold mostT; rw [hws, hN]
  have hcn : (castT ws).length = N := by rw [castT_length]; exact hN
  rw [hws] at HWO
  clear hb ht hws hN
  go_enter Try.func32, Try.ntmps32
  go_wp2_with fail
  rw [← HW.out]
  go_wp2_with fail
  refine HOK.out.mono ?_
  rintro e w1 ⟨rfl, hb1⟩
  have hB1 := HB.out.still hb1
  have c0 := hB1.c0
  have c1 := hB1.c1
  have HB1 := Lib.hid hb1
  clear hb1 hB1
  go_wp2_with fail
  refine (HWO.out _ HB1.out).mono ?_
  rintro e w2 ⟨A2, c2, rfl, hb2, ho2⟩
  rw [hcn]
  have HI2 : Hid (Ints w2 (fun b => b < w2.heap.size) A2 (castT ws)) := ho2.ints.mono fun b hb => hb.2
  have HV2 := Lib.hid (belT HBW.out (belT HB1.out hb2))
  clear hb2 ho2 hcn c0 c1
  go_wp2_with fail
  go_loopw [4, 5] (fun n i wr => ∃ j : Nat, j ≤ N ∧ n = .int .i64 (j : Int) ∧ i = .int .i64 ((j : Int) + 1) ∧ Hid (mwT ws N 0 = mwT ws (N - j) j) ∧ Hid (Below w2.heap.size w2 wr)) (fun n _ _ => N - (intOf n).toNat)
  case atStart => exact ⟨0, Nat.zero_le _, rfl, rfl, rfl, Below.refl _ _⟩
  case round =>
    obtain ⟨j, hj, rfl, rfl, HJ, HV⟩ := hrel
    by_cases hlt : j < N
    · have hst := mwT_step ws hlt
      have HCALL : Hid (∀ w', Below wr.heap.size wr w' → Calls Try.prog 66 #[.slice A2 N c2, .int .i64 0, .int .i64 0, .int .i64 ((j : Int) + 1)] w' (AprRes w' (aprT ws (j + 1) 0 0))) := fun w' hb' =>
        HAP.out (j + 1) (by omega) A2 c2 w' ((keepInts (belT HV.out hb') HI2.out).lt (belT HV.out hb').size)
      have w0 : decide ((j : Int) + 1 ≤ (N : Int)) = true := decide_eq_true (by omega)
      have w1' : (j : Int) + 1 ≤ (N : Int) := by omega
      rcases hr : aprT ws (j + 1) 0 0 with _ | z
      · have HN2 : Hid (mwT ws N 0 = j) := by show _ = _; rw [HJ.out, hst, hr]; rfl
        rw [hr] at HCALL
        clear hr hst
        go_wp2_with (go_at_call 66; refine (HCALL.out _ (by first | exact Below.refl _ _ | assumption)).mono ?_; rintro e w5 ⟨bx, cx, rfl, hb5, hg5⟩; dsimp only [Option.isSome, Option.getD])
        go_ret
        exact Adds.of (by rw [HE.out, HN2.out]; rfl) (belT HV2.out (belT HV.out hb5))
      · have HN2 : Hid (mwT ws N 0 = mwT ws (N - (j + 1)) (j + 1)) := by show _ = _; rw [HJ.out, hst, hr]; rfl
        have k1 : IntKind.i64.wrap ((j : Int) + 1 + 1) = (j : Int) + 1 + 1 := IntWalk.i64_in _ ⟨by omega, by omega⟩
        rw [hr] at HCALL
        clear hr hst
        go_wp2_with (go_at_call 66; refine (HCALL.out _ (by first | exact Below.refl _ _ | assumption)).mono ?_; rintro e w5 ⟨bx, cx, rfl, hb5, hg5⟩; dsimp only [Option.isSome, Option.getD])
        go_roundw
        case rel => exact ⟨j + 1, by omega, by go_num, by go_num, HN2, belT HV.out hb5⟩
        case measure => simp [intOf]; omega
    · obtain rfl : j = N := by omega
      have HN2 : Hid (mwT ws j 0 = j) := by show _ = _; rw [HJ.out, Nat.sub_self]; rfl
      have w0 : decide ((j : Int) + 1 ≤ (j : Int)) = false := decide_eq_false (by omega)
      have w1' : ¬ (j : Int) + 1 ≤ (j : Int) := by omega
      go_wp2_with fail
      go_ret
      exact Adds.of (by rw [HE.out, HN2.out]; rfl) (belT HV2.out HV.out)

end Go.Proofs.Ytcminkifdbdaaaa
