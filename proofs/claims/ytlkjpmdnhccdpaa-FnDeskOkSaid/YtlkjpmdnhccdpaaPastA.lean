/- An empty table is appended to the tables of before of a desk of the call's own, in place or not. -/
import Derived.Test.YtlkjpmdnhccdpaaQK
import Derived.ArgAppend
import Derived.Maps.AppendAt
namespace Go.Proofs.Ytlkjpmdnhccdpaa
set_option linter.unusedSimpArgs false
set_option linter.unusedVariables false
open Go.RowKit

theorem TabOwn.far {u u' : World} {lo hi : Nat} {T : Option Addr} {A : Nat → Option Addr} {C : Nat → Nat} {g : List (List Int)} (h : TabOwn u lo hi T A C g)
    (hk : ∀ k t N f, lo ≤ k → k < hi → u.rowIs k t N f → t ≠ 23 → u'.heap[k]? = u.heap[k]?) : TabOwn u' lo hi T A C g := by
  intro h0
  obtain ⟨b, N, f, e, k1, k2, k3, k4, k5, k6⟩ := h h0
  refine ⟨b, N, f, e, k1, k2, k3, k4.of_block (hk b _ N f k1 k2 k4 (by decide)), k5, ⟨k6.cap, fun i hi h0' => ?_, k6.apart⟩⟩
  obtain ⟨b', N', f', e', q1, q2, q3, q4, q5⟩ := k6.own i hi h0'
  exact ⟨b', N', f', e', q1, q2, q3.of_block (hk b' _ N' f' q1 q2 q3 (by decide)), q4, q5⟩

/-- the tables of before with an empty one behind them -/
theorem past_snoc {u u' : World} {lo hi : Nat} {TN TP : Option Addr} {d : Dk} {A : Nat → Nat → Option Addr} {C : Nat → Nat → Nat} {TT : Nat → Option Addr} {CC : Nat → Nat} (h : OwnDk u lo hi TN TP d A C TT CC)
    (hk : ∀ k t N f, lo ≤ k → k < hi → u.rowIs k t N f → t ≠ 23 → u'.heap[k]? = u.heap[k]?) {S : Nat → Prop} (hS : ∀ b, lo ≤ b → b < hi → S b)
    {b off : Nat} {el : Option Addr} (hb : S b) (hc : ∀ i, i < d.past.length → u'.cell? ⟨b, off + i, none⟩ = some (.slice (TT i) (tabAt d.past i).length (CC i)))
    (he : u'.cell? ⟨b, off + d.past.length, none⟩ = some (.slice el 0 0)) :
    Rows2 u' S TN d.now ∧ Rows3 u' S (some ⟨b, off, none⟩) (d.past ++ [[]]) := by
  refine ⟨((h.now.far hk).own.rows2).mono fun b hb => hS b hb.1 hb.2, fun _ => ⟨b, off, rfl, hb, fun i hi => ?_⟩⟩
  rw [List.length_append, List.length_singleton] at hi
  by_cases e : i < d.past.length
  · rw [tabAt_snoc_lt _ _ _ e]
    obtain ⟨_, _, _, _, _, _, _, _, _, h5⟩ := h.past (by omega)
    exact ⟨TT i, CC i, hc i e, (h5 i e).2.1, (h5 i e).2.2, (((h.tabs i e).far hk).own.rows2).mono fun b hb => hS b hb.1 hb.2⟩
  · obtain rfl : i = d.past.length := by omega
    rw [tabAt_snoc_eq]
    exact ⟨el, 0, he, Nat.le_refl _, Nat.zero_le _, fun h0 => absurd h0 (by simp)⟩

set_option maxRecDepth 100000 in
/-- the append, run -/
theorem append_past {u : World} {lo hi cP : Nat} {TN TP : Option Addr} {d : Dk} (hown : DeskOwn u lo hi TN TP d) (hroom : Room u lo hi TP cP) (hhi : hi ≤ u.heap.size) (hc1 : d.past.length ≤ cP) (hc2 : cP ≤ maxLen) (h8 : d.past.length ≤ 8) 
    (i1 : TypeInfo) (hi1 : Try.prog.info? 23 = some i1) (hy0 : i1.zero = some (.slice none 0 0)) (hy1 : i1.size = 1) (hy2 : i1.bytes = 24)
    (ad : Addr) (el : Option Addr) (hnews : ∀ j x, [Value.slice el 0 0][j]? = some x → u.cell? (ad.add j) = some x) :
    ∃ (TP' : Option Addr) (cP' : Nat) (u' : World), (Builtin.append_ #[24, 24] 24 #[.slice TP d.past.length cP, .slice (some ad) 1 1]).run Try.prog u = .ok (.slice TP' (d.past.length + 1) cP') u' ∧ d.past.length + 1 ≤ cP' ∧ cP' ≤ maxLen ∧
      u'.os = u.os ∧ u'.tape = u.tape ∧ u'.output = u.output ∧ u.heap.size ≤ u'.heap.size ∧ (∀ k, k < u.heap.size → ¬ (lo ≤ k ∧ k < hi) → u'.heap[k]? = u.heap[k]?) ∧
      Rows2 u' (fun b => (lo ≤ b ∧ b < hi) ∨ (u.heap.size ≤ b ∧ b < u'.heap.size)) TN d.now ∧ Rows3 u' (fun b => (lo ≤ b ∧ b < hi) ∨ (u.heap.size ≤ b ∧ b < u'.heap.size)) TP' (d.past ++ [[]]) := by
  obtain ⟨A, C, TT, CC, h⟩ := hown
  have hm : d.past.length + 1 ≤ maxLen := by unfold maxLen; omega
  -- what a new row leaves
  have grow : ∀ (v' : Value) (u' : World), (Builtin.append_ #[24, 24] 24 #[.slice TP d.past.length cP, .slice (some ad) 1 1]).run Try.prog u = .ok v' u' →
      u'.ownsRow u.heap.size 23 1 v' (d.past.length + 1) (tabVals TT CC d.past ++ [.slice el 0 0]) → u.grownBy u' none →
      ∃ (TP' : Option Addr) (cP' : Nat) (u' : World), (Builtin.append_ #[24, 24] 24 #[.slice TP d.past.length cP, .slice (some ad) 1 1]).run Try.prog u = .ok (.slice TP' (d.past.length + 1) cP') u' ∧ d.past.length + 1 ≤ cP' ∧ cP' ≤ maxLen ∧
      u'.os = u.os ∧ u'.tape = u.tape ∧ u'.output = u.output ∧ u.heap.size ≤ u'.heap.size ∧ (∀ k, k < u.heap.size → ¬ (lo ≤ k ∧ k < hi) → u'.heap[k]? = u.heap[k]?) ∧
      Rows2 u' (fun b => (lo ≤ b ∧ b < hi) ∨ (u.heap.size ≤ b ∧ b < u'.heap.size)) TN d.now ∧ Rows3 u' (fun b => (lo ≤ b ∧ b < hi) ∨ (u.heap.size ≤ b ∧ b < u'.heap.size)) TP' (d.past ++ [[]]) := fun v' u' hr ho hg => by
    obtain ⟨g, cap, cur, rfl, hbase, hgg, hnc, hcm, _, _⟩ := ho.2.resolve_left (fun hh => by have := hh.2; omega)
    have hlt : g < u'.heap.size := by
      rcases Nat.lt_or_ge g u'.heap.size with h | h
      · exact h
      · rw [Array.getElem?_eq_none h] at hgg; cases hgg
    have hcell : ∀ j, j < d.past.length + 1 → u'.cell? ⟨g, 0 + j, none⟩ = (tabVals TT CC d.past ++ [.slice el 0 0])[j]? := fun j hj => by rw [Nat.zero_add]; exact ho.cellAt j (by omega)
    obtain ⟨s1, s2⟩ := past_snoc (u' := u') h (fun k t N f _ h2 _ _ => hg.block k (by omega) (by simp)) (S := fun b => (lo ≤ b ∧ b < hi) ∨ (u.heap.size ≤ b ∧ b < u'.heap.size)) (fun b h1 h2 => .inl ⟨h1, h2⟩) (b := g) (off := 0) (el := el) (.inr ⟨hbase, hlt⟩) (fun i hi => by
        rw [hcell i (by omega), List.getElem?_append_left (by rw [tabVals_length]; exact hi), tabVals_get _ _ _ _ hi]) (by
        rw [hcell _ (by omega), List.getElem?_append_right (by rw [tabVals_length]; exact Nat.le_refl _)]; simp [tabVals_length])
    exact ⟨_, _, u', hr, hnc, hcm, hg.os, hg.tape, hg.output, hg.size, fun k hk _ => hg.block k hk (by simp), s1, s2⟩
  by_cases hr : d.past.length + 1 ≤ cP
  · obtain ⟨b, off, N, f, rfl, h1, h2, h3, h4⟩ := hroom (by omega)
    have hrun := run_append_room_cells (P := Try.prog) u 24 24 23 i1 Try.underlying24 hi1 b off d.past.length cP ad 1 1 [.slice el 0 0] (by rw [hy1]; rfl) hnews (by intro x hx; simp at hx; subst hx; rfl) hr
      (fun j hj => by simp at hj; subst hj; rw [hy1, Nat.mul_one, h4.cell (by omega)]; rfl) (fun j hj => by simp at hj; subst hj; exact h4.frozen _)
    rw [hy1, Nat.mul_one] at hrun
    have hset : u.setCells b (off + d.past.length) [.slice el 0 0] = u.setCell ⟨b, off + d.past.length, none⟩ (.slice el 0 0) := rfl
    rw [hset] at hrun
    have hk : ∀ k, k ≠ b → (u.setCell ⟨b, off + d.past.length, none⟩ (.slice el 0 0)).heap[k]? = u.heap[k]? := fun k hne => Below.heap_setCell _ _ _ _ hne
    have hz : (u.setCell ⟨b, off + d.past.length, none⟩ (.slice el 0 0)).heap.size = u.heap.size := by simp [World.setCell]
    obtain ⟨s1, s2⟩ := past_snoc (u' := u.setCell ⟨b, off + d.past.length, none⟩ (.slice el 0 0)) h (fun k t N' f' _ _ hr' hne => hk k (rowIs_ne hr' h4 hne)) (S := fun c => (lo ≤ c ∧ c < hi) ∨ (u.heap.size ≤ c ∧ c < (u.setCell ⟨b, off + d.past.length, none⟩ (.slice el 0 0)).heap.size)) (fun b h1 h2 => .inl ⟨h1, h2⟩) (b := b) (off := off) (el := el) (.inl ⟨h1, h2⟩) (fun i hi => by
        obtain ⟨b', off', N', f', e, _, _, q3, q4, q5⟩ := h.past (by omega)
        injection e with e; injection e with e1 e2
        subst e1 e2
        rw [World.cell?_setCell_other _ _ _ _ (by first | (simp; done) | (simp; omega)), q4.cell (by omega), (q5 i hi).1])
      (World.cell?_setCell_same' _ _ _ (by rw [h4.cell (by omega)]; rfl))
    exact ⟨_, _, _, hrun, hr, hc2, rfl, rfl, rfl, Nat.le_of_eq hz.symm, fun k _ hn => hk k (fun e => hn ⟨by omega, by omega⟩), s1, s2⟩
  · cases hTP : TP with
    | none =>
      have hl0 : d.past.length = 0 := by
        rcases Nat.eq_zero_or_pos d.past.length with h0 | h0
        · exact h0
        · obtain ⟨_, _, _, _, e, _⟩ := h.past h0; rw [hTP] at e; cases e
      have hc0 : cP = 0 := by omega
      have hpe : d.past = [] := List.eq_nil_of_length_eq_zero hl0
      obtain ⟨v', u', h1, h2, h3, _, _⟩ := run_append_own_at (P := Try.prog) u u.heap.size 24 24 23 i1 (.slice none 0 0) 1 24 Try.underlying24 hi1 hy0 hy1 hy2 rfl (by decide) (.slice none 0 0) 0 [] (World.ownsRow_nil u _ _ _) ad 1 1 [.slice el 0 0] rfl hnews (by intro x hx; simp at hx; subst hx; rfl) (by decide) (by decide) (Nat.le_refl _)
      rw [← hTP]
      refine grow v' u' (by rw [hTP, hl0, hc0]; exact h1) (by rw [hl0, show tabVals TT CC d.past = [] from by rw [hpe]; rfl]; exact h2) ?_
      exact ⟨h3.os, h3.tape, h3.output, h3.size, fun k hk _ => h3.block k hk (by simp [Value.ownBlock])⟩
    | some a =>
      obtain ⟨v', u', h1, h2, h3⟩ := run_append_arg_grows (P := Try.prog) u 24 24 23 i1 (.slice none 0 0) 1 24 Try.underlying24 hi1 hy0 hy1 hy2 rfl (by decide) a d.past.length cP (tabVals TT CC d.past) (by rw [tabVals_length, Nat.mul_one]) (fun j x hj => by
          have hlt : j < d.past.length := by
            have := (List.getElem?_eq_some_iff.1 hj).1; rwa [tabVals_length] at this
          rw [tabVals_get _ _ _ _ hlt] at hj
          injection hj with hj
          subst hj
          obtain ⟨b, off, N, f, e, _, _, q3, q4, q5⟩ := h.past (by omega)
          rw [hTP] at e
          injection e with e
          subst e
          rw [show ((⟨b, off, none⟩ : Addr).add j) = ⟨b, off + j, none⟩ by simp [Addr.add], q4.cell (by omega), (q5 j hlt).1]) ad 1 1 [.slice el 0 0] rfl hnews (by omega) hm (by omega)
      rw [← hTP]
      exact grow v' u' (by rw [hTP]; exact h1) h2 h3

/-- an append, by what it comes to -/
theorem wpList_append_run {P : Program} (w : World) {ops : Array Oper} {rest : List Oper} {o : Oper} {a : Act} {Q : Exit → Act → World → Prop} (hgd : o.guard = none) (s x : Operand) (t : TypeId)
    (ho : o.op = .call { callee := .builtin .append, args := #[s, x], argTypes := #[t, t] }) {v y v' : Value} {w' : World} (hs : a.eval s = v) (hx : a.eval x = y) (hr : (Builtin.append_ #[t, t] o.type #[v, y]).run P w = .ok v' w')
    (h : wpList P ops Q rest (a.put o.dst v') w') : wpList P ops Q (o :: rest) a w := by
  refine wpList_plain hgd fun K hK => ?_
  unfold Oper.wp execOp
  simp only [ho, resolve, invoke, builtin, Sem.run_bind, Sem.run_pure, Result.andThen_ok, List.map_toArray, List.map_cons, List.map_nil, hs, hx, hr]
  exact hK _ _ h

end Go.Proofs.Ytlkjpmdnhccdpaa
