/- Texts in one: SayM, WordM, TellM, TabM, BuildW. -/
import Derived.Test.YtlmaeadbomnhlabDoorQJ
import Derived.Test.YtlmaeadbomnhlabDoorPB
import Derived.Test.YtlmaeadbomnhlabDoorMS
import Derived.Test.YtlmaeadbomnhlabDoorWin
import Derived.Lib.AtoiTie
import Derived.Lib.SplitLaws
import Derived.Lib.Join
import Derived.Lib.IndexMore
import Derived.Test.YtlmaeadbomnhlabDoorShelf
import Derived.Test.YtlmaeadbomnhlabDoorMC
import Derived.Lib.ItoaMem
import Derived.Lib.SmallJoins
namespace Go.Proofs.YtlmaeadbomnhlabDoor
set_option linter.unusedSimpArgs false
set_option linter.unusedVariables false
open Go.RowKit

/-- the words behind the first one; is each a number that is not less than 0 -/
def argW (s : List UInt8) : List (List UInt8) := (sepT 32 s).drop 1

def headW (s : List UInt8) : List UInt8 := (sepT 32 s).headD []

end Go.Proofs.YtlmaeadbomnhlabDoor

namespace Go.Proofs.YtlmaeadbomnhlabDoor
set_option linter.unusedSimpArgs false
set_option linter.unusedVariables false
open Go.RowKit

/-! numerals -/

theorem dig_val {k : Nat} (h : k < 10) : Lib.digitVal (UInt8.ofNat (48 + k)) = some k := by
  have : ∀ i : Fin 10, Lib.digitVal (UInt8.ofNat (48 + i.val)) = some i.val := by decide +kernel
  exact this ⟨k, h⟩

theorem dig_is {k : Nat} (h : k < 10) : isDig (UInt8.ofNat (48 + k)) = true ∧ (UInt8.ofNat (48 + k)).toNat = 48 + k := by
  have : ∀ i : Fin 10, isDig (UInt8.ofNat (48 + i.val)) = true ∧ (UInt8.ofNat (48 + i.val)).toNat = 48 + i.val := by decide +kernel
  exact this ⟨k, h⟩

theorem decFrom_append (l m : List UInt8) : ∀ acc, Lib.decFrom acc (l ++ m) = (Lib.decFrom acc l).bind fun n => Lib.decFrom n m := by
  induction l with
  | nil => intro acc; rfl
  | cons b l ih =>
    intro acc
    simp only [List.cons_append, Lib.decFrom]
    cases Lib.digitVal b with
    | none => rfl
    | some d => exact ih _

theorem decDigits_big {u : Nat} (h : ¬ u < 10) : Lib.decDigits u = Lib.decDigits (u / 10) ++ [UInt8.ofNat (48 + u % 10)] := by rw [Lib.decDigits, dif_neg h]

/-- what the digits of a number tell -/
structure DecF (u : Nat) : Prop where
  from_ : Lib.decFrom 0 (Lib.decDigits u) = some u
  dig : ∀ c, c ∈ Lib.decDigits u → isDig c = true
  num : digsN 0 (Lib.decDigits u) = (u : Int)
  lead : (Lib.decDigits u).length = 1 ∨ byAt (Lib.decDigits u) 0 ≠ 48
  pos : 1 ≤ (Lib.decDigits u).length
  head : 10 ≤ u ∨ 0 < u → byAt (Lib.decDigits u) 0 ≠ 48

theorem byAt_append {l m : List UInt8} (h : 1 ≤ l.length) : byAt (l ++ m) 0 = byAt l 0 := by
  cases l with
  | nil => simp at h
  | cons c l => rfl

theorem dec_facts (u : Nat) : DecF u := by
  induction u using Nat.strongRecOn with
  | _ u ih =>
    by_cases h : u < 10
    · have e := Lib.decDigits_one h
      obtain ⟨d1, d2⟩ := dig_is h
      refine ⟨?_, ?_, ?_, ?_, ?_, ?_⟩
      · rw [e]; unfold Lib.decFrom; rw [dig_val h]; simp [Lib.decFrom]
      · rw [e]; intro c hc; rw [List.mem_singleton.1 hc]; exact d1
      · rw [e]; show (10 * 0 + (((UInt8.ofNat (48 + u)).toNat : Int) - 48)) = _; rw [d2]; omega
      · rw [e]; exact .inl rfl
      · rw [e]; exact Nat.le_refl _
      · intro h2
        rw [e]
        show UInt8.ofNat (48 + u) ≠ 48
        intro e2
        have := congrArg UInt8.toNat e2
        rw [d2] at this
        have e3 : (48 : UInt8).toNat = 48 := rfl
        omega
    · have I := ih (u / 10) (by omega)
      have e := decDigits_big h
      have hm : u % 10 < 10 := Nat.mod_lt _ (by omega)
      obtain ⟨d1, d2⟩ := dig_is hm
      have hh := I.head (.inr (by omega))
      refine ⟨?_, ?_, ?_, ?_, ?_, ?_⟩
      · rw [e, decFrom_append, I.from_]
        show Lib.decFrom (u / 10) [UInt8.ofNat (48 + u % 10)] = some u
        unfold Lib.decFrom; rw [dig_val hm]
        show Lib.decFrom (u / 10 * 10 + u % 10) [] = some u
        unfold Lib.decFrom; congr 1; omega
      · rw [e]; intro c hc
        rcases List.mem_append.1 hc with h1 | h1
        · exact I.dig c h1
        · rw [List.mem_singleton.1 h1]; exact d1
      · rw [e, digsN_snoc, I.num, d2]; omega
      · rw [e, byAt_append I.pos]; exact .inr hh
      · rw [e, List.length_append]; have := I.pos; omega
      · intro _; rw [e, byAt_append I.pos]; exact hh

theorem dec_small {u : Nat} (h : u ≤ 999999999) : (Lib.decDigits u).length ≤ 9 := by rw [Lib.decDigits_length]; exact nDigits_le 8 u (by omega)

theorem dec_nat (u : Nat) : Lib.decNat (Lib.decDigits u) = some u := by
  have F := dec_facts u
  unfold Lib.decNat
  rw [if_neg]
  · exact F.from_
  · intro h; have := F.pos; rw [List.isEmpty_iff] at h; rw [h] at this; simp at this

theorem dec_cons (u : Nat) : ∃ b r, Lib.decDigits u = b :: r ∧ isDig b = true := by
  have F := dec_facts u
  cases h : Lib.decDigits u with
  | nil => have := F.pos; rw [h] at this; simp at this
  | cons b r => exact ⟨b, r, rfl, F.dig b (by rw [h]; exact List.mem_cons_self)⟩

theorem dig_not {b : UInt8} (h : isDig b = true) : b ≠ 45 ∧ b ≠ 43 ∧ b ≠ 32 ∧ b ≠ 10 := by
  unfold isDig at h
  rw [Bool.and_eq_true, decide_eq_true_eq, decide_eq_true_eq] at h
  refine ⟨?_, ?_, ?_, ?_⟩ <;> (intro e; subst e; revert h; decide)

/-- numbers of at most nine digits are read as they are written -/
theorem atoi_itoa {n : Int} (h1 : -999999999 ≤ n) (h2 : n ≤ 999999999) : Lib.atoiAll (Lib.itoa n) = .ok n := by
  by_cases h : n < 0
  · have e : Lib.itoa n = 45 :: Lib.decDigits n.natAbs := by unfold Lib.itoa; rw [if_pos h]
    have hl := dec_small (u := n.natAbs) (by omega)
    rw [e, Lib.atoiAll_short _ (by simp; omega), show Lib.atoi (45 :: Lib.decDigits n.natAbs) = (Lib.decNat (Lib.decDigits n.natAbs)).map (fun (m : Nat) => -(m : Int)) from rfl, dec_nat]
    show Lib.NumEnd.ok (-(n.natAbs : Int)) = _
    congr 1; omega
  · have e : Lib.itoa n = Lib.decDigits n.toNat := by unfold Lib.itoa; rw [if_neg h]
    have hl := dec_small (u := n.toNat) (by omega)
    obtain ⟨b, r, hb, hd⟩ := dec_cons n.toNat
    obtain ⟨d1, d2, _, _⟩ := dig_not hd
    have hn := dec_nat n.toNat
    rw [e, Lib.atoiAll_short _ (by omega)]
    rw [hb] at hn ⊢
    unfold Lib.atoi
    dsimp only
    rw [if_neg (by simpa using d1), if_neg (by simpa using d2), hn]
    show Lib.NumEnd.ok ((n.toNat : Nat) : Int) = _
    congr 1; omega

/-- is a word a number as it is written; which one -/
def wordB (w : List UInt8) : Bool := match Lib.atoiAll w with
  | .ok v => decide (Lib.itoa v = w)
  | _ => false

def wordI (w : List UInt8) : Int := match Lib.atoiAll w with
  | .ok v => v
  | _ => 0

theorem word_itoa {n : Int} (h1 : -999999999 ≤ n) (h2 : n ≤ 999999999) : wordB (Lib.itoa n) = true ∧ wordI (Lib.itoa n) = n := by
  unfold wordB wordI
  rw [atoi_itoa h1 h2]
  exact ⟨decide_eq_true rfl, rfl⟩

theorem word_numT {n : Int} (h1 : -99 ≤ n) (h2 : n ≤ 99) : wordB (numT n) = true ∧ wordI (numT n) = n := by
  rw [← itoa_numT h1 h2]; exact word_itoa (by omega) (by omega)

theorem split_sep (c : UInt8) : ∀ (s : List UInt8), Lib.splitK [c] 0 (Lib.count s [c]) s = sepT c s
  | [] => by rw [Lib.count_one]; rfl
  | b :: s => by
    have ih := split_sep c s
    by_cases hb : b = c
    · subst hb
      have hix : Lib.index (b :: s) [b] = 0 := by rw [Lib.index]; simp [List.isPrefixOf]
      rw [Lib.count_cons_eq, Nat.add_comm, Lib.splitK, if_neg (by rw [hix]; decide), hix, cutw_cons, if_pos rfl]
      show (b :: s).take 0 :: Lib.splitK [b] 0 (Lib.count s [b]) ((b :: s).drop 1) = _
      rw [← ih]; rfl
    · rw [Lib.count_cons_ne b c s hb, cutw_cons, if_neg hb, ← ih]
      have hp : ([c] : List UInt8).isPrefixOf (b :: s) = false := by simp [List.isPrefixOf, Ne.symm hb]
      have hix : Lib.index (b :: s) [c] = if Lib.index s [c] == -1 then -1 else Lib.index s [c] + 1 := by rw [Lib.index, hp]; simp
      cases hk : Lib.count s [c] with
      | zero => rfl
      | succ k =>
        have hm : Lib.index s [c] ≠ -1 := fun e => by rw [Lib.count_miss e] at hk; cases hk
        have hge := Lib.index_ge s [c]
        obtain ⟨j, hj⟩ : ∃ j : Nat, Lib.index s [c] = j := ⟨(Lib.index s [c]).toNat, by omega⟩
        have hix' : Lib.index (b :: s) [c] = ((j + 1 : Nat) : Int) := by rw [hix, if_neg (fun e => hm (beq_iff_eq.1 e)), hj]; omega
        have n1 : ¬ ((((j + 1 : Nat) : Int)) == -1) = true := fun e => by have := beq_iff_eq.1 e; omega
        have n2 : ¬ (((j : Nat) : Int) == -1) = true := fun e => by have := beq_iff_eq.1 e; omega
        rw [Lib.splitK, hix', if_neg n1, Lib.splitK, hj, if_neg n2]
        rfl

/-- the words that the program cuts a text into -/
theorem splitB_sep (c : UInt8) (s : List UInt8) : Lib.splitB ⟨#[c]⟩ 0 (Lib.countB ⟨s.toArray⟩ ⟨#[c]⟩) ⟨s.toArray⟩ = (sepT c s).map fun w => ⟨w.toArray⟩ := by
  have h := Lib.splitB_data ⟨#[c]⟩ 0 (Lib.countB ⟨s.toArray⟩ ⟨#[c]⟩) ⟨s.toArray⟩
  have h2 : Lib.splitK [c] 0 (Lib.countB ⟨s.toArray⟩ ⟨#[c]⟩) s = sepT c s := split_sep c s
  rw [show (⟨#[c]⟩ : ByteArray).data.toList = [c] from rfl, show (⟨s.toArray⟩ : ByteArray).data.toList = s from rfl, h2] at h
  rw [← h, List.map_map]
  conv => lhs; rw [← List.map_id (Lib.splitB ⟨#[c]⟩ 0 (Lib.countB ⟨s.toArray⟩ ⟨#[c]⟩) ⟨s.toArray⟩)]
  exact List.map_congr_left fun b _ => by cases b; rfl

theorem countB_sep (c : UInt8) (s : List UInt8) : Lib.countB ⟨s.toArray⟩ ⟨#[c]⟩ + 1 = (sepT c s).length := by
  have h := congrArg List.length (splitB_sep c s)
  rw [Lib.splitB_all ⟨#[c]⟩ (by simp [ByteArray.size]) 0 _ _ rfl, List.length_map] at h
  exact h

theorem sep_pos (c : UInt8) (s : List UInt8) : 0 < (sepT c s).length := List.length_pos_iff.2 (cutw_ne c s)

theorem sep_count (c : UInt8) (s : List UInt8) : (sepT c s).length ≤ s.length + 1 := by
  induction s with
  | nil => simp [sepT]
  | cons b s ih =>
    rw [cutw_cons]
    split
    · simp; omega
    · split
      · simp
      · rename_i w ws hw
        rw [hw] at ih; simp at ih ⊢; omega

/-- are all words behind the first one numbers as they are written -/
def wordsB (s : List UInt8) : Bool := (argW s).all wordB

def wordsL (s : List UInt8) : List Int := (argW s).map wordI

theorem argW_length (s : List UInt8) : (argW s).length = (sepT 32 s).length - 1 := by unfold argW; simp

theorem argW_at (s : List UInt8) {k : Nat} (h : k < (argW s).length) : strAt (argW s) k = strAt (sepT 32 s) (k + 1) := by
  show strAt ((sepT 32 s).drop 1) k = strAt (sepT 32 s) (k + 1)
  unfold strAt
  simp [Nat.add_comm]

theorem words_yes {s : List UInt8} (h : ∀ i, i < (argW s).length → wordB (strAt (argW s) i) = true) : wordsB s = true := by
  unfold wordsB; rw [List.all_eq_true]
  intro w hw
  obtain ⟨i, hi, rfl⟩ := List.mem_iff_getElem.1 hw
  rw [← strAt_eq _ i hi]; exact h i hi

theorem words_no {s : List UInt8} {i : Nat} (hi : i < (argW s).length) (h : wordB (strAt (argW s) i) = false) : wordsB s = false := by
  rcases hx : wordsB s with _ | _
  · rfl
  · unfold wordsB at hx; rw [List.all_eq_true] at hx
    have := hx (strAt (argW s) i) (by rw [strAt_eq _ i hi]; exact List.getElem_mem hi)
    rw [this] at h; cases h

/-- which kind of deed a word names -/
def kindI (w : List UInt8) : Int := if w = setW then 0 else if w = turnW then 1 else if w = shiftW then 2 else if w = smallW then 3 else if w = backW then 4 else -1

/-- the deed that a word and numbers name -/
def deedOf (w : List UInt8) (l : List Int) : Dd :=
  if l.length = 1 then ⟨kindI w, 0, 0, nth l 0⟩ else if l.length = 3 then ⟨kindI w, nth l 0, nth l 1, nth l 2⟩ else ⟨kindI w, 0, 0, 0⟩

def readA (s : List UInt8) : Dd := if wordsB s = true then deedOf (headW s) (wordsL s) else deedOf [] []

theorem head_at (s : List UInt8) : headW s = strAt (sepT 32 s) 0 := by
  unfold headW strAt
  cases sepT 32 s <;> rfl

theorem num_bd {a : Dd} (h : deedT a ≠ []) : -99 ≤ a.row ∧ a.row ≤ 99 ∧ -99 ≤ a.col ∧ a.col ≤ 99 ∧ -99 ≤ a.num ∧ a.num ≤ 99 := by
  rcases text_cases h with h1 | h1 | rfl | rfl | rfl
  · obtain ⟨_, h2, h3, h4⟩ := setOk_iff.1 h1; omega
  · obtain ⟨h2, h4⟩ := shiftOk_iff.1 h1; omega
  · decide
  · decide
  · decide

/-- a text of a deed is read as the program reads it -/
theorem text_readA {a : Dd} (h : deedT a ≠ []) : wordsB (deedT a) = true ∧ readA (deedT a) = a := by
  obtain ⟨b1, b2, b3, b4, b5, b6⟩ := num_bd h
  obtain ⟨r1, r2⟩ := word_numT b1 b2
  obtain ⟨c1, c2⟩ := word_numT b3 b4
  obtain ⟨n1, n2⟩ := word_numT b5 b6
  rcases text_cases h with h1 | h1 | rfl | rfl | rfl
  · have hw := set_words h1
    have h0 := (setOk_iff.1 h1).1
    have hB : wordsB (deedT a) = true := by unfold wordsB argW; rw [hw]; simp [r1, c1, n1]
    refine ⟨hB, ?_⟩
    unfold readA; rw [if_pos hB]
    have e1 : headW (deedT a) = setW := by unfold headW; rw [hw]; rfl
    have e2 : wordsL (deedT a) = [a.row, a.col, a.num] := by unfold wordsL argW; rw [hw]; simp [r2, c2, n2]
    rw [e1, e2]
    show (⟨kindI setW, a.row, a.col, a.num⟩ : Dd) = a
    rw [show kindI setW = 0 by decide +kernel, ← h0]
  · have hw := shift_words h1
    obtain ⟨⟨h0, hr, hc⟩, _⟩ := shiftOk_iff.1 h1
    have hB : wordsB (deedT a) = true := by unfold wordsB argW; rw [hw]; simp [n1]
    refine ⟨hB, ?_⟩
    unfold readA; rw [if_pos hB]
    have e1 : headW (deedT a) = shiftW := by unfold headW; rw [hw]; rfl
    have e2 : wordsL (deedT a) = [a.num] := by unfold wordsL argW; rw [hw]; simp [n2]
    rw [e1, e2]
    show (⟨kindI shiftW, 0, 0, a.num⟩ : Dd) = a
    rw [show kindI shiftW = 2 by decide +kernel]
    obtain ⟨k, r, c, n⟩ := a
    simp only at h0 hr hc
    subst h0 hr hc; rfl
  · exact ⟨by decide +kernel, by kernel_rfl⟩
  · exact ⟨by decide +kernel, by kernel_rfl⟩
  · exact ⟨by decide +kernel, by kernel_rfl⟩

theorem readA_yes {s : List UInt8} (h0 : deedT (readA s) ≠ []) (h : deedT (readA s) = s) : readB s = true ∧ readD s = readA s := by
  obtain ⟨h1, h2⟩ := text_readB h0
  rw [h] at h1 h2; exact ⟨h1, h2⟩

theorem read_dd {s : List UInt8} (h : readB s = false) : readD s = ⟨0, 0, 0, 0⟩ := by
  unfold readB at h; unfold readD
  cases hx : readO s with
  | none => rfl
  | some a => rw [hx] at h; cases h

theorem readA_no {s : List UInt8} (h : ¬ (wordsB s = true ∧ deedT (readA s) ≠ [] ∧ deedT (readA s) = s)) : readB s = false ∧ readD s = ⟨0, 0, 0, 0⟩ := by
  have hb : readB s = false := by
    rcases hx : readB s with _ | _
    · rfl
    · obtain ⟨h1, h2⟩ := read_text hx
      have h3 : deedT (readD s) ≠ [] := by rw [h2]; exact h1
      obtain ⟨q1, q2⟩ := text_readA h3
      rw [h2] at q1 q2
      exact absurd ⟨q1, by rw [q2]; exact h3, by rw [q2]; exact h2⟩ h
  exact ⟨hb, read_dd hb⟩

end Go.Proofs.YtlmaeadbomnhlabDoor

namespace Go.Proofs.YtlmaeadbomnhlabDoor
set_option linter.unusedSimpArgs false
set_option linter.unusedVariables false
open Go.RowKit

theorem index_ten : ∀ (s : List UInt8), (Lib.index s [10] = -1 ∧ ∀ c, c ∈ s → c ≠ 10) ∨ ∃ a b, s = a ++ 10 :: b ∧ (∀ c, c ∈ a → c ≠ 10) ∧ Lib.index s [10] = (a.length : Nat)
  | [] => .inl ⟨by rw [Lib.index]; rfl, fun c h => by cases h⟩
  | c :: s => by
    by_cases hc : c = 10
    · subst hc
      exact .inr ⟨[], s, rfl, fun c h => (by cases h), by rw [Lib.index]; simp [List.isPrefixOf]⟩
    · have hp : ([10] : List UInt8).isPrefixOf (c :: s) = false := by simp [List.isPrefixOf, Ne.symm hc]
      have hix : Lib.index (c :: s) [10] = if Lib.index s [10] == -1 then -1 else Lib.index s [10] + 1 := by rw [Lib.index, hp]; simp
      rcases index_ten s with ⟨h1, h2⟩ | ⟨a, b, h1, h2, h3⟩
      · refine .inl ⟨by rw [hix, h1]; rfl, fun d hd => ?_⟩
        rcases List.mem_cons.1 hd with rfl | hd
        · exact hc
        · exact h2 d hd
      · refine .inr ⟨c :: a, b, by rw [h1]; rfl, fun d hd => ?_, ?_⟩
        · rcases List.mem_cons.1 hd with rfl | hd
          · exact hc
          · exact h2 d hd
        · rw [hix, h3, if_neg (by rw [beq_iff_eq]; omega)]; simp

theorem cut_ten (s : List UInt8) : (Lib.cut s [10] = (s, [], false) ∧ ∀ c, c ∈ s → c ≠ 10) ∨ ∃ a b, s = a ++ 10 :: b ∧ (∀ c, c ∈ a → c ≠ 10) ∧ Lib.cut s [10] = (a, b, true) := by
  rcases index_ten s with ⟨h1, h2⟩ | ⟨a, b, h1, h2, h3⟩
  · exact .inl ⟨by unfold Lib.cut; rw [h1, if_neg (by decide)], h2⟩
  · refine .inr ⟨a, b, h1, h2, ?_⟩
    unfold Lib.cut
    rw [h3, if_pos (by omega), h1]
    simp

theorem jou_none (s : List UInt8) : ∀ pre, (∀ c, c ∈ s → c ≠ 10) → jouL pre s = [] ∧ jouN pre s = 0 := by
  induction s with
  | nil => intro pre _; exact ⟨rfl, rfl⟩
  | cons c s ih =>
    intro pre h
    rw [jouL_cons, jouN_cons, if_neg (h c List.mem_cons_self), if_neg (h c List.mem_cons_self)]
    exact ih _ fun d hd => h d (List.mem_cons_of_mem _ hd)

end Go.Proofs.YtlmaeadbomnhlabDoor

namespace Go.Proofs.YtlmaeadbomnhlabDoor
set_option linter.unusedSimpArgs false
set_option linter.unusedVariables false
open Go.RowKit

/-- the package-level variables that the texts of numbers go by -/
structure TabOk (w : World) : Prop where
  pow : Lib.TabIs Tryd.prog w "internal/strconv.uint64pow10" .u64 Lib.pow10Tab
  len : ∃ m : Int, w.cell? ⟨0, 0, none⟩ = some (.int .i64 m)
  syn : ∃ t p, w.cell? ⟨2, 0, none⟩ = some (.iface t p)
  ran : ∃ t p, w.cell? ⟨3, 0, none⟩ = some (.iface t p)

theorem TabOk.stay {w w' : World} (h : TabOk w) (hb : Below w.heap.size w w') : TabOk w' := by
  have key : ∀ {a : Addr} {v : Value}, w.cell? a = some v → w'.cell? a = some v := fun {a v} ha => (hb.cell (World.block_lt_of_cell? _ _ ha)).trans ha
  obtain ⟨m, hm⟩ := h.len
  obtain ⟨t1, p1, h1⟩ := h.syn
  obtain ⟨t2, p2, h2⟩ := h.ran
  exact ⟨Joins.tab_stays (show Tryd.prog.globalNamed "internal/strconv.uint64pow10" = some 1 by kernel_rfl) h.pow hb (Nat.le_refl _), ⟨m, key hm⟩, ⟨t1, p1, key h1⟩, ⟨t2, p2, key h2⟩⟩

theorem itoa_impl (n : Int) (h0 : -9223372036854775808 ≤ n) (h1 : n ≤ 9223372036854775807) (w : World) (hT : TabOk w) : Calls Tryd.prog 27 #[.int .i64 n] w (Adds (strV (Lib.itoa n)) w) :=
  (Tryd.strconv_Itoa n h0 h1 w hT.pow).mono fun e w' h => ⟨h.1, by obtain ⟨k, os, rfl⟩ := h.2; exact Lib.below_grow _ w (Nat.le_refl _) k os⟩

end Go.Proofs.YtlmaeadbomnhlabDoor

namespace Go.Proofs.YtlmaeadbomnhlabDoor
set_option linter.unusedSimpArgs false
set_option linter.unusedVariables false
open Go.Shelf Go.RowKit

def layB : Go.Shelf.Ren := ⟨fun | 166 => 32 | 240 => 40 | 276 => 46 | n => n,
  fun | 0 => 0 | 3 => 3 | 4 => 4 | 5 => 5 | 9 => 9 | 20 => 20 | 37 => 56 | 70 => 55 | 72 => 58 | 75 => 60 | 80 => 63 | 164 => 72 | 165 => 73 | n => n, fun n => n⟩

theorem layB166 : Go.Proofs.Lays.n166 Tryd.prog layB := {
  mixed := by kernel_rfl
  f166 := Tryd.func32.trans (congrArg some (by kernel_rfl))
  f240 := Tryd.func40.trans (congrArg some (by kernel_rfl))
  f276 := Tryd.func46.trans (congrArg some (by kernel_rfl))
  t0 := Tryd.underlying0
  a0 := Tryd.isAgg0
  z0 := Tryd.sizeOf0
  v0 := Tryd.zeroValue0
  t3 := Tryd.underlying3
  a3 := Tryd.isAgg3
  z3 := Tryd.sizeOf3
  v3 := Tryd.zeroValue3
  t4 := Tryd.underlying4
  a4 := Tryd.isAgg4
  z4 := Tryd.sizeOf4
  v4 := Tryd.zeroValue4
  t9 := Tryd.underlying9
  a9 := Tryd.isAgg9
  z9 := Tryd.sizeOf9
  v9 := Tryd.zeroValue9
  t20 := Tryd.underlying20
  a20 := Tryd.isAgg20
  z20 := Tryd.sizeOf20
  v20 := Tryd.zeroValue20
  t37 := Tryd.underlying56
  a37 := Tryd.isAgg56
  z37 := Tryd.sizeOf56
  v37 := Tryd.zeroValue56
  t70 := Tryd.underlying55
  a70 := Tryd.isAgg55
  z70 := Tryd.sizeOf55
  v70 := Tryd.zeroValue55
  t72 := Tryd.underlying58
  a72 := Tryd.isAgg58
  z72 := Tryd.sizeOf58
  v72 := Tryd.zeroValue58
  t75 := Tryd.underlying60
  a75 := Tryd.isAgg60
  z75 := Tryd.sizeOf60
  v75 := Tryd.zeroValue60
  t164 := Tryd.underlying72
  a164 := Tryd.isAgg72
  z164 := Tryd.sizeOf72
  v164 := Tryd.zeroValue72 }

theorem extraB : Builder.Extra Tryd.prog layB := {
  sizeBuilder := by kernel_rfl
  liesBuilder := by kernel_rfl
  t5 := Tryd.underlying5
  a5 := Tryd.isAgg5
  z5 := Tryd.sizeOf5
  v5 := Tryd.zeroValue5
  infoByte := by kernel_rfl
  cellsByte := by kernel_rfl
  sizeByte := by kernel_rfl
  neB5 := by decide }

theorem write_impl (B b : Nat) (l t : List UInt8) (w : World) (h : Lib.IsBuilder 58 5 B b (Lib.byteCells l) w) (hlen : l.length + t.length ≤ 140737488355328) (hB : B ≤ w.heap.size) :
    Calls Tryd.prog 32 #[.pointer (some ⟨b, 0, none⟩), .string ⟨t.toArray⟩] w fun e w' => ∃ v, e = .returned v ∧ Lib.IsBuilder 58 5 B b (Lib.byteCells (l ++ t)) w' ∧ Below B w w' := by
  have hl : (Lib.byteCells l).length = l.length := by unfold Lib.byteCells; simp
  have hs : (Lib.strCells ⟨t.toArray⟩) = Lib.byteCells t := rfl
  have ha : Lib.byteCells l ++ Lib.byteCells t = Lib.byteCells (l ++ t) := by unfold Lib.byteCells; simp
  refine (Any.Builder_WriteString layB166 extraB B b (Lib.byteCells l) ⟨t.toArray⟩ w h (by rw [hl]; simpa [ByteArray.size] using hlen) hB).mono ?_
  rintro e w' ⟨rfl, h1, h2⟩
  rw [hs, ha] at h1
  exact ⟨_, rfl, .inr h1, h2⟩

/-- a builder that lies still -/
theorem builder_keep {T e : TypeId} {B b : Nat} {bs : List Value} {w w' : World} (h : Lib.IsBuilder T e B b bs w) (hb : Below w.heap.size w w') : Lib.IsBuilder T e B b bs w' := by
  have key : ∀ p, Lib.BuilderAt T e B b p bs w → Lib.BuilderAt T e B b p bs w' := fun p hp => by
    have hlt := hp.lt
    obtain ⟨h1, v, h2, h3, h4⟩ := hp
    exact ⟨h1, v, (hb.block b hlt).trans h2, ownsRow_of_block h3 fun k hk => hb.block k (World.ownsRow.lt h3 k hk).2, h4⟩
  exact h.elim (fun x => .inl (key _ x)) (fun x => .inr (key _ x))

theorem builder_new (w : World) : Lib.IsBuilder 58 5 w.heap.size w.heap.size (Lib.byteCells []) (w.alloc (.cells #[.pointer none, .slice none 0 0] 58)) :=
  .inl ⟨Nat.le_refl _, _, heap_alloc_new w _, World.ownsRow_nil _ _ _ _, by simp [Value.ownBlock]⟩

theorem string_impl (B b : Nat) (l : List UInt8) (w : World) (h : Lib.IsBuilder 58 5 B b (Lib.byteCells l) w) (hB : B ≤ w.heap.size) :
    Calls Tryd.prog 33 #[.pointer (some ⟨b, 0, none⟩)] w fun e w' => e = .returned (strV l) ∧ Below B w w' := Tryd.Builder_String_any B b l w h hB

end Go.Proofs.YtlmaeadbomnhlabDoor
