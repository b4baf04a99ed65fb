/- Texts in one: TownE, TownH, TownL. -/
import Derived.Test.YtcminkifdbdaaaaTown
import Derived.Test.YtcminkifdbdaaaaMZ
import Derived.Test.YtcminkifdbdaaaaNC
import Derived.Test.YtcminkifdbdaaaaNH
namespace Go.Proofs.Ytcminkifdbdaaaa
set_option linter.unusedSimpArgs false
set_option linter.unusedVariables false
open Go.RowKit

def lookE (p : Nat) (st : List Nat) : Bool := faL (waysT p st) 0 0 == goL p st && (goL p st).length == mostT p st

set_option maxRecDepth 100000 in
theorem towns_E : allTs lookE = true := by decide +kernel

end Go.Proofs.Ytcminkifdbdaaaa

namespace Go.Proofs.Ytcminkifdbdaaaa
set_option linter.unusedSimpArgs false
set_option linter.unusedVariables false
open Go.RowKit

theorem most_fa {p : Nat} {st : List Nat} (h : Twn p st) : popN (faN (waysT p st) 0 0) = mostT p st := by
  have he := allTs_at towns_E h
  unfold lookE at he
  rw [Bool.and_eq_true, beq_iff_eq, beq_iff_eq] at he
  rw [(faN_is (waysT p st) 0 0).2.1, he.1, he.2]

theorem go_fa {p : Nat} {st : List Nat} (h : Twn p st) : mrkL (faN (waysT p st) 0 0) (waysT p st).length = goV p st := by
  have he := allTs_at towns_E h
  unfold lookE at he
  rw [Bool.and_eq_true, beq_iff_eq, beq_iff_eq] at he
  unfold mrkL goV
  refine List.map_congr_left fun j _ => ?_
  rw [(faN_is (waysT p st) 0 0).1, he.1]
  simp

theorem cut_meet (ws : List Nat) (s : Nat) : cutB ws s = meetB s ws := by
  unfold cutB meetB
  congr 1
  funext x
  rw [Nat.and_comm]

/-- the first of the least cuts up to n -/
structure BcIs (ws : List Nat) (m n b : Nat) : Prop where
  lo : 1 ≤ b
  hi : b ≤ n
  cut : cutB ws b = true
  least : ∀ t, 1 ≤ t → t ≤ n → cutB ws t = true → cnt (bP b) m ≤ cnt (bP t) m
  first : ∀ t, 1 ≤ t → t ≤ n → cutB ws t = true → cnt (bP t) m = cnt (bP b) m → b ≤ t

theorem bc_is (ws : List Nat) (m : Nat) : ∀ n, (bcT ws m n = 0 ∧ ∀ t, 1 ≤ t → t ≤ n → cutB ws t = false) ∨ BcIs ws m n (bcT ws m n) := by
  intro n
  induction n with
  | zero => exact .inl ⟨rfl, fun t h1 h2 => by omega⟩
  | succ n ih =>
    simp only [bcT]
    by_cases e : (cutB ws (n + 1) && (bcT ws m n == 0 || decide (cnt (bP (n + 1)) m < cnt (bP (bcT ws m n)) m))) = true
    · rw [if_pos e]
      rw [Bool.and_eq_true, Bool.or_eq_true, beq_iff_eq, decide_eq_true_eq] at e
      obtain ⟨e1, e2⟩ := e
      right
      rcases ih with ⟨h0, h⟩ | h
      · refine ⟨by omega, Nat.le_refl _, e1, fun t h1 h2 h3 => ?_, fun t h1 h2 h3 _ => ?_⟩ <;>
        · by_cases e : t = n + 1
          · subst e; exact Nat.le_refl _
          · rw [h t h1 (by omega)] at h3; cases h3
      · have hp : cnt (bP (n + 1)) m < cnt (bP (bcT ws m n)) m := by rcases e2 with e2 | e2; have := h.lo; omega; exact e2
        refine ⟨by omega, Nat.le_refl _, e1, fun t h1 h2 h3 => ?_, fun t h1 h2 h3 h4 => ?_⟩ <;>
        · by_cases e : t = n + 1
          · subst e; exact Nat.le_refl _
          · have := h.least t h1 (by omega) h3; omega
    · rw [if_neg e]
      rcases ih with ⟨h0, h⟩ | h
      · left
        refine ⟨h0, fun t h1 h2 => ?_⟩
        by_cases e2 : t = n + 1
        · subst e2; rw [h0] at e; simpa using e
        · exact h t h1 (by omega)
      · right
        refine ⟨h.lo, by have := h.hi; omega, h.cut, fun t h1 h2 h3 => ?_, fun t h1 h2 h3 h4 => ?_⟩
        · by_cases e2 : t = n + 1
          · subst e2; rw [h3] at e; simp only [Bool.true_and, Bool.or_eq_true, decide_eq_true_eq, not_or] at e; omega
          · exact h.least t h1 (by omega) h3
        · by_cases e2 : t = n + 1
          · have := h.hi; omega
          · exact h.first t h1 (by omega) h3 h4

theorem cut_few {p : Nat} {st : List Nat} (h : Twn p st) (hw : 0 < (waysT p st).length) : FewIs (waysT p st) st.length (cutT p st) := by
  have hc := cut_facts h hw
  have pos : ∀ t, meetB t (waysT p st) = true → 1 ≤ t := fun t ht => by
    refine Nat.one_le_iff_ne_zero.2 fun e => ?_
    subst e
    obtain ⟨x, hx⟩ := List.exists_mem_of_length_pos hw
    have := meetB_iff.1 ht x hx
    simp at this
  have hpop : ∀ t, t < 2 ^ st.length → cnt (bP t) st.length = popN t := fun t ht => cnt_pop _ _ ht
  rcases bc_is (waysT p st) st.length (2 ^ st.length - 1) with ⟨h0, _⟩ | hb
  · have := hc.cut
    rw [show cutT p st = 0 from h0, cut_meet] at this
    exact absurd (pos 0 this) (by omega)
  · refine ⟨hc.lt, by rw [← cut_meet]; exact hc.cut, fun t h1 h2 => ?_, fun t h1 h2 h3 => ?_⟩
    · have := hb.least t (pos t h2) (by omega) (by rw [cut_meet]; exact h2)
      rw [← hpop t h1, ← hpop _ hc.lt]; exact this
    · exact hb.first t (pos t h2) (by omega) (by rw [cut_meet]; exact h2) (by
        have e1 := hpop t h1
        have e2 := hpop _ hc.lt
        show cnt (bP t) st.length = cnt (bP (cutT p st)) st.length
        omega)

theorem cut_mrk (p : Nat) (st : List Nat) : mrkL (cutT p st) st.length = cutV p st := rfl

theorem grd_sets (p : Nat) (st : List Nat) : setsG (waysT p st) st.length = grdT p st := rfl

theorem ways_low {p : Nat} {st : List Nat} (h : Twn p st) : ∀ x, x ∈ waysT p st → x < 65536 := fun x hx => by
  have h1 := ((ways_facts h).pos x hx).2
  have h2 : 2 ^ st.length ≤ 2 ^ 8 := Nat.pow_le_pow_right (by omega) h.len
  have : (2 : Nat) ^ 8 = 256 := rfl
  omega

end Go.Proofs.Ytcminkifdbdaaaa

namespace Go.Proofs.Ytcminkifdbdaaaa
set_option linter.unusedSimpArgs false
set_option linter.unusedVariables false
open Go.RowKit

theorem wf_town {z : Int} (h0 : 0 ≤ z) (h1 : z ≤ 65536) : (Lit.int .i64 z).wf = true := by simp [Lit.wf, IntKind.min, IntKind.max, IntKind.signed, IntKind.bits]; omega

theorem belAl {w w' : World} (h : Below w.heap.size w w') (o : Obj) : Below w.heap.size w (w'.alloc o) := h.alloc h.size o

theorem Ints.take {w : World} {S : Nat → Prop} {A : Option Addr} {l : List Int} (h : Ints w S A l) (n : Nat) : Ints w S A (l.take n) := by
  intro h0
  rw [List.length_take] at h0
  obtain ⟨b, off, e, hb, hc⟩ := h (by omega)
  refine ⟨b, off, e, hb, fun i hi => ?_⟩
  rw [List.length_take] at hi
  rw [nth_take l n i (by omega)]; exact hc i (by omega)

theorem town_two : townB 2 [] = true := by decide +kernel

theorem town_one : townB 2 [1] = true := by decide +kernel

theorem town_lone : townB 1 [] = false := by decide +kernel

theorem castT_dropLast (st : List Nat) : (castT st).take (st.length - 1) = castT st.dropLast := by
  unfold castT; rw [← List.map_take, List.dropLast_eq_take]

theorem town_less {P : Int} {l : List Int} (h : townB P l = true) : townB P (l.take (l.length - 1)) = true := by
  obtain ⟨p, st, rfl, rfl, ht⟩ := town_nat h
  rw [castT_length, castT_dropLast]
  exact twn_town ht.dropLast

/-- the streets of which a test holds, counted -/
def cntI (f : Int → Bool) (l : List Int) : Nat → Int
  | 0 => 0
  | k + 1 => if f (nth l k) = true then cntI f l k + 1 else cntI f l k

theorem cntI_bd (f : Int → Bool) (l : List Int) : ∀ k, 0 ≤ cntI f l k ∧ cntI f l k ≤ k
  | 0 => by simp [cntI]
  | k + 1 => by
    have := cntI_bd f l k
    simp only [cntI]; split <;> omega

theorem cntI_cast (f : Int → Bool) (g : Nat → Bool) (st : List Nat) (h : ∀ x, x ∈ st → f (x : Int) = g x) : ∀ k, k ≤ st.length → cntI f (castT st) k = (((st.take k).filter g).length : Nat)
  | 0, _ => by simp [cntI]
  | k + 1, hk => by
    have hlt : k < st.length := hk
    have e : st.take (k + 1) = st.take k ++ [st.getD k 0] := by
      rw [List.take_succ_eq_append_getElem hlt]; congr 2; simp [hlt]
    have hm : st.getD k 0 ∈ st := by rw [List.getD_eq_getElem?_getD, List.getElem?_eq_getElem hlt]; exact List.getElem_mem _
    simp only [cntI]
    rw [nth_castT, h _ hm, cntI_cast f g st h k (by omega), e, List.filter_append, List.length_append]
    generalize st.getD k 0 = x
    cases hg : g x <;> simp [hg]

/-- a town that has a way -/
structure TwnW (P : Int) (l : List Int) : Prop where
  duel : Duel (grdI P l) (guaI P l) (goI P l) (mostI P l)
  game : gameB (grdI P l) = true
  rows : (grdI P l).length = l.length
  gua : (guaI P l).length = l.length
  go : (goI P l).length = (waysI P l).length
  sumg : sumW (guaI P l) (guaI P l).length = mostI P l
  sumo : sumW (goI P l) (goI P l).length = mostI P l
  lo : 1 ≤ mostI P l
  some : 1 ≤ l.length
  sol : solB (grdI P l) = true → solU (grdI P l) = 1 ∧ solD (grdI P l) = mostI P l

/-- a town -/
structure TwnI (P : Int) (l : List Int) : Prop where
  plo : 2 ≤ P
  phi : P ≤ 5
  len : l.length ≤ 8
  many : (waysI P l).length ≤ 16
  mhi : mostI P l ≤ 16
  num : ∀ k, k < l.length → 0 ≤ nth l k ∧ nth l k ≤ 99
  first : mostI P l ≤ cntI (fun x => x.tdiv 10 == 0) l l.length
  last : mostI P l ≤ cntI (fun x => x.tmod 10 == P - 1) l l.length
  none : (waysI P l).length = 0 → grdI P l = [] ∧ goI P l = [] ∧ guaI P l = [] ∧ mostI P l = 0
  way : 0 < (waysI P l).length → TwnW P l

theorem goV_nil {p : Nat} {st : List Nat} (h : (waysT p st).length = 0) : goV p st = [] := by
  have := goV_length p st; rw [h] at this; exact List.length_eq_zero_iff.1 this

theorem twn_facts {P : Int} {l : List Int} (h : townB P l = true) : TwnI P l := by
  obtain ⟨p, st, rfl, rfl, ht⟩ := town_nat h
  have hw : waysI (p : Int) (castT st) = castT (waysT p st) := by unfold waysI; rw [if_pos h, castT_back]; rfl
  have hwl : (waysI (p : Int) (castT st)).length = (waysT p st).length := by rw [hw, castT_length]
  have hm := mostI_yes ht
  have hf := ways_facts ht
  have he := most_ends ht
  have h1 := ht.plo
  have h2 := ht.phi
  have hfl : ∀ g : Nat → Bool, (st.filter g).length ≤ 8 := fun g => Nat.le_trans (List.length_filter_le _ _) ht.len
  have mem100 : ∀ x, x ∈ st → x < 100 := fun x hx => ((mem_pairs5 h2).1 (ht.mem x hx)).2.2
  refine ⟨by omega, by omega, by rw [castT_length]; exact ht.len, by rw [hwl]; exact hf.many, ?_, fun k hk => ?_, ?_, ?_, fun h0 => ?_, fun h0 => ?_⟩
  · rw [hm]; have := hfl fun x => x / 10 == 0; have := he.1; omega
  · rw [castT_length] at hk
    rw [nth_castT]
    have hmm : st.getD k 0 ∈ st := by rw [List.getD_eq_getElem?_getD, List.getElem?_eq_getElem hk]; exact List.getElem_mem _
    have := mem100 _ hmm
    omega
  · rw [hm, castT_length, cntI_cast _ (fun x => x / 10 == 0) st (fun x hx => ?_) _ (Nat.le_refl _), List.take_length]
    · have := he.1; omega
    · rw [Int.tdiv_eq_ediv_of_nonneg (by omega), Bool.eq_iff_iff, beq_iff_eq, beq_iff_eq]; omega
  · rw [hm, castT_length, cntI_cast _ (fun x => x % 10 + 1 == p) st (fun x hx => ?_) _ (Nat.le_refl _), List.take_length]
    · have := he.2; omega
    · rw [Int.tmod_eq_emod_of_nonneg (by omega), Bool.eq_iff_iff, beq_iff_eq, beq_iff_eq]; omega
  · have hnil : waysI (p : Int) (castT st) = [] := List.length_eq_zero_iff.1 h0
    rw [hwl] at h0
    exact ⟨grdI_no hnil, by rw [goI_yes ht, goV_nil h0], guaI_no hnil, by rw [hm, most_none ht h0]; rfl⟩
  · rw [hwl] at h0
    have hd := grd_duel ht h0
    have hg := (grd_game ht h0).to.1
    have hc := cut_facts ht h0
    have hlo := hc.lo
    have hs := way_street ht h0
    constructor
    all_goals try rw [grdI_yes ht h0]
    all_goals try rw [guaI_yes ht h0]
    all_goals try rw [goI_yes ht]
    all_goals try rw [hm]
    · exact hd
    · exact hg
    · rw [grdT_length, castT_length]
    · rw [cutV_length, castT_length]
    · rw [goV_length, hwl]
    · rw [cutV_length]; exact cut_sum ht h0
    · rw [goV_length]; exact go_sum ht h0
    · omega
    · rw [castT_length]; exact hs
    · intro hb
      obtain ⟨_, _, _, k, u1, u2⟩ := sol_parts hb
      obtain ⟨v1, v2⟩ := set_one hd.set k
      exact ⟨by rw [u1, ← v1]; exact hd.up, by rw [u2, ← v2]; exact hd.down⟩

theorem twn_not {P : Int} {l : List Int} (h : townB P l = false) : waysI P l = [] ∧ grdI P l = [] ∧ goI P l = [] ∧ guaI P l = [] ∧ mostI P l = -1 := by
  have hw : waysI P l = [] := by unfold waysI; rw [h]; rfl
  exact ⟨hw, grdI_no hw, goI_no h, guaI_no hw, mostI_no h⟩

theorem town_way {P : Int} {l : List Int} (h : 0 < (waysI P l).length) : townB P l = true := by
  rcases hb : townB P l with _ | _
  · rw [(twn_not hb).1] at h; simp at h
  · rfl

theorem twn_nil {P : Int} {l : List Int} (h : (waysI P l).length = 0) : grdI P l = [] ∧ goI P l = [] ∧ guaI P l = [] := by
  rcases hb : townB P l with _ | _
  · exact ⟨(twn_not hb).2.1, (twn_not hb).2.2.1, (twn_not hb).2.2.2.1⟩
  · have := (twn_facts hb).none h; exact ⟨this.1, this.2.1, this.2.2.1⟩

/-- the sums of both plans, whether or not there is a way -/
theorem twn_sums {P : Int} {l : List Int} (h : townB P l = true) : sumW (guaI P l) (guaI P l).length = mostI P l ∧ sumW (goI P l) (goI P l).length = mostI P l ∧ 0 ≤ mostI P l := by
  have hf := twn_facts h
  rcases Nat.eq_zero_or_pos (waysI P l).length with h0 | h0
  · obtain ⟨_, h2, h3, h4⟩ := hf.none h0
    rw [h2, h3, h4]; exact ⟨rfl, rfl, by omega⟩
  · have hw := hf.way h0
    exact ⟨hw.sumg, hw.sumo, by have := hw.lo; omega⟩

theorem gua_01 (P : Int) (l : List Int) : ∀ i, i < (guaI P l).length → nth (guaI P l) i = 0 ∨ nth (guaI P l) i = 1 := by
  rcases Nat.eq_zero_or_pos (waysI P l).length with h0 | h0
  · rw [(twn_nil h0).2.2]; intro i hi; simp at hi
  · have hb := town_way h0
    obtain ⟨p, st, rfl, rfl, ht⟩ := town_nat hb
    have hwl : (waysI (p : Int) (castT st)).length = (waysT p st).length := by unfold waysI; rw [if_pos hb, castT_back, castT_length]; rfl
    rw [hwl] at h0
    rw [guaI_yes ht h0]
    intro i hi
    rw [cutV_length] at hi
    rw [nth_cutV p st hi]; split <;> simp

theorem go_01 (P : Int) (l : List Int) : ∀ i, i < (goI P l).length → nth (goI P l) i = 0 ∨ nth (goI P l) i = 1 := by
  rcases hb : townB P l with _ | _
  · rw [(twn_not hb).2.2.1]; intro i hi; simp at hi
  · obtain ⟨p, st, rfl, rfl, ht⟩ := town_nat hb
    rw [goI_yes ht]
    intro i hi
    rw [goV_length] at hi
    rw [nth_goV p st hi]; split <;> simp

theorem waysI_sm (P : Int) (l : List Int) : (waysI P l).length ≤ 16 := by
  rcases Nat.eq_zero_or_pos (waysI P l).length with h | h
  · omega
  · exact (twn_facts (town_way h)).many

theorem goI_sm (P : Int) (l : List Int) : (goI P l).length ≤ 16 := by
  rcases Nat.eq_zero_or_pos (waysI P l).length with h | h
  · rw [(twn_nil h).2.1]; simp
  · have hf := twn_facts (town_way h); rw [(hf.way h).go]; exact hf.many

theorem guaI_sm (P : Int) (l : List Int) : (guaI P l).length ≤ 16 := by
  rcases Nat.eq_zero_or_pos (waysI P l).length with h | h
  · rw [(twn_nil h).2.2]; simp
  · have hf := twn_facts (town_way h); rw [(hf.way h).gua]; have := hf.len; omega

theorem grdI_max (P : Int) (l : List Int) : (grdI P l).length ≤ maxLen := by
  rcases Nat.eq_zero_or_pos (waysI P l).length with h | h
  · rw [(twn_nil h).1]; simp
  · have hf := twn_facts (town_way h); rw [(hf.way h).rows]; have := hf.len; unfold maxLen; omega

/-- fewer streets have fewer ways -/
structure WayL (P : Int) (l : List Int) : Prop where
  num : ∀ k, k < (waysI P l).length → ∃ x : Nat, nth (waysI P l) k = (x : Int) ∧ x < 256
  up : ∀ j, j + 1 < (waysI P l).length → nth (waysI P l) j < nth (waysI P l) (j + 1)
  apart : ∀ k j (x y : Nat), k < (waysI P l).length → j < (waysI P l).length → j ≠ k → nth (waysI P l) k = (x : Int) → nth (waysI P l) j = (y : Int) → x ||| y ≠ x

theorem way_facts {P : Int} {l : List Int} (h : townB P l = true) : WayL P l := by
  obtain ⟨p, st, rfl, rfl, ht⟩ := town_nat h
  have hw : waysI (p : Int) (castT st) = castT (waysT p st) := by unfold waysI; rw [if_pos h, castT_back]; rfl
  have hf := ways_facts ht
  have h8 : 2 ^ st.length ≤ 256 := Nat.pow_le_pow_right (n := 2) (by omega) ht.len
  rw [show WayL (p : Int) (castT st) ↔ WayL (p : Int) (castT st) from Iff.rfl]
  refine ⟨fun k hk => ?_, fun j hj => ?_, fun k j x y hk hj hne e1 e2 => ?_⟩
  · rw [hw, castT_length] at hk
    rw [hw, nth_castT]
    refine ⟨_, rfl, ?_⟩
    have hm : (waysT p st).getD k 0 ∈ waysT p st := by rw [List.getD_eq_getElem?_getD, List.getElem?_eq_getElem hk]; exact List.getElem_mem _
    have := (hf.pos _ hm).2
    omega
  · rw [hw, castT_length] at hj
    rw [hw, nth_castT, nth_castT]
    have := hf.up j hj
    omega
  · rw [hw, castT_length] at hk hj
    rw [hw, nth_castT] at e1 e2
    have h1 := ways_apart ht hk hj hne
    have a1 : (waysT p st).getD k 0 = x := by omega
    have a2 : (waysT p st).getD j 0 = y := by omega
    rw [a1, a2] at h1; exact h1

/-- the ways that do not have the last street -/
def keepL (l : List Int) (b : Nat) : Nat → List Int
  | 0 => []
  | k + 1 => if bP (nth l k).toNat b = false then keepL l b k ++ [nth l k] else keepL l b k

theorem pair_near {l : List Int} (h : ∀ j, j + 1 < l.length → nth l j < nth l (j + 1)) : l.Pairwise (· < ·) := by
  rw [List.pairwise_iff_getElem]
  have key : ∀ d i, i + d + 1 < l.length → nth l i < nth l (i + d + 1) := fun d => by
    induction d with
    | zero => intro i hi; exact h i hi
    | succ d ih => intro i hi; exact Int.lt_trans (ih i (by omega)) (h (i + d + 1) hi)
  intro i j hi hj hij
  have := key (j - i - 1) i (by omega)
  rw [show i + (j - i - 1) + 1 = j from by omega] at this
  simpa [nth, hi, hj] using this

theorem keepL_len (l : List Int) (b : Nat) : ∀ k, (keepL l b k).length ≤ k
  | 0 => Nat.le_refl _
  | k + 1 => by
    have := keepL_len l b k
    simp only [keepL]; split
    · rw [List.length_append]; simp; omega
    · omega

theorem keepL_cast (ws : List Nat) (b : Nat) : ∀ k, k ≤ ws.length → keepL (castT ws) b k = castT ((ws.take k).filter fun x => !bP x b)
  | 0, _ => by simp [keepL, castT]
  | k + 1, hk => by
    have hlt : k < ws.length := hk
    have e : ws.take (k + 1) = ws.take k ++ [ws.getD k 0] := by
      rw [List.take_succ_eq_append_getElem hlt]; congr 2; simp [hlt]
    have hc : ∀ a b : List Nat, castT (a ++ b) = castT a ++ castT b := fun a b => by unfold castT; simp
    simp only [keepL]
    rw [nth_castT, Int.toNat_natCast, keepL_cast ws b k (by omega), e, List.filter_append, hc]
    generalize ws.getD k 0 = x
    cases hg : bP x b <;> simp [castT, hg]

theorem ways_less {P : Int} {l : List Int} (h : townB P l = true) (h0 : 0 < l.length) : waysI P (l.take (l.length - 1)) = keepL (waysI P l) (l.length - 1) (waysI P l).length := by
  have h2 := town_less h
  obtain ⟨p, st, rfl, rfl, ht⟩ := town_nat h
  rw [castT_length] at h0 h2 ⊢
  rw [castT_dropLast] at h2 ⊢
  have e1 : waysI (p : Int) (castT st) = castT (waysT p st) := by unfold waysI; rw [if_pos h, castT_back]; rfl
  have e2 : waysI (p : Int) (castT st.dropLast) = castT (waysT p st.dropLast) := by unfold waysI; rw [if_pos h2, castT_back]; rfl
  rw [e1, e2, castT_length, keepL_cast _ _ _ (Nat.le_refl _), List.take_length, ways_last ht h0]

end Go.Proofs.Ytcminkifdbdaaaa
