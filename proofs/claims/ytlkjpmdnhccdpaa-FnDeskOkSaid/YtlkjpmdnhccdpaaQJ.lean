/- Texts in one: DeedC, DeedN, NumS, DeedS, CutS, DigS, ReadS, ReadJ, DeedH, JouS, ExactJd. -/
import Derived.Test.YtlkjpmdnhccdpaaQE
import Derived.Test.YtlkjpmdnhccdpaaQD
import Derived.Test.YtlkjpmdnhccdpaaMC
import Derived.Lib.ItoaNum
import Derived.Lib.ItoaMem
import Derived.Lib.SmallJoins
import Derived.Laws.IdiomStrings
import Derived.Deep.DeepMust
import Derived.Deep.DeepFit
import Derived.Lib.AppendIntMem
import Derived.Test.YtlkjpmdnhccdpaaStrM
import Derived.Laws.Concat
import Derived.Laws.Strings3
namespace Go.Proofs.Ytlkjpmdnhccdpaa
set_option linter.unusedSimpArgs false
set_option linter.unusedVariables false
open Go.RowKit

set_option maxHeartbeats 2000000 in
theorem toDeed_c (a : Dd) (w : World) :
    Calls Try.prog 28 #[ddV a] w (Adds (ddV a) w) := by
  obtain ⟨kind, row, col, num⟩ := a
  unfold ddV
  simp only
  go_enter Try.func28, Try.ntmps28
  go_wp2_with fail
  obtain ⟨X, hX⟩ : ∃ X, X = ((w.alloc (.cells #[.int .i64 kind, .int .i64 row, .int .i64 col, .int .i64 num] 51)).alloc (.cells #[.int .i64 kind, .int .i64 row, .int .i64 col, .int .i64 num] 55)).alloc (.cells #[.int .i64 kind, .int .i64 row, .int .i64 col, .int .i64 num] 55) := ⟨_, rfl⟩
  have hb : Below w.heap.size w X := by rw [hX]; exact (((Below.refl _ _).alloc (Nat.le_refl _) _).alloc (by simp) _).alloc (by simp; omega) _
  have y0 : X.cell? ⟨w.heap.size + 1, 0, none⟩ = some (.int .i64 kind) := by rw [hX]; simp [go_sem]
  have y1 : X.cell? ⟨w.heap.size + 1, 1, none⟩ = some (.int .i64 row) := by rw [hX]; simp [go_sem]
  have y2 : X.cell? ⟨w.heap.size + 1, 2, none⟩ = some (.int .i64 col) := by rw [hX]; simp [go_sem]
  have y3 : X.cell? ⟨w.heap.size + 1, 3, none⟩ = some (.int .i64 num) := by rw [hX]; simp [go_sem]
  rw [← hX]
  exact bodyPost_ret (v := .agg #[.int .i64 kind, .int .i64 row, .int .i64 col, .int .i64 num]) (by simp [results, Try.results28, go_sem, y0, y1, y2, y3]) rfl (Adds.of rfl hb)

end Go.Proofs.Ytlkjpmdnhccdpaa

namespace Go.Proofs.Ytlkjpmdnhccdpaa
set_option linter.unusedSimpArgs false
set_option linter.unusedVariables false
open Go.RowKit

theorem turn_text : deedT ddTurn = turnW := by decide +kernel

theorem small_text : deedT ddSmall = smallW := by decide +kernel

theorem back_text : deedT ddBack = backW := by decide +kernel

theorem set_text {a : Dd} (h : setOk a = true) : deedT a = 115 :: 101 :: 116 :: 32 :: (numT a.row ++ 32 :: (numT a.col ++ 32 :: numT a.num)) := by
  unfold deedT; rw [if_pos h]; rfl

theorem shift_set {a : Dd} (h : shiftOk a = true) : setOk a = false := by
  rcases hx : setOk a with _ | _
  · rfl
  · have := (setOk_iff.1 hx).1; have := (shiftOk_iff.1 h).1; omega

theorem shift_text {a : Dd} (h : shiftOk a = true) : deedT a = 115 :: 104 :: 105 :: 102 :: 116 :: 32 :: numT a.num := by
  unfold deedT; rw [shift_set h, if_neg (by decide), if_pos h]; rfl

/-- which deeds have a text -/
theorem text_cases {a : Dd} (h : deedT a ≠ []) : setOk a = true ∨ shiftOk a = true ∨ a = ddTurn ∨ a = ddSmall ∨ a = ddBack := by
  obtain ⟨k, r, c, n⟩ := a
  by_cases h1 : setOk ⟨k, r, c, n⟩ = true
  · exact .inl h1
  by_cases h2 : shiftOk ⟨k, r, c, n⟩ = true
  · exact .inr (.inl h2)
  unfold deedT at h
  rw [if_neg h1, if_neg h2] at h
  by_cases h3 : k = 1 ∧ r = 0 ∧ c = 0 ∧ n = 0
  · obtain ⟨rfl, rfl, rfl, rfl⟩ := h3; exact .inr (.inr (.inl rfl))
  rw [if_neg h3] at h
  by_cases h4 : k = 3 ∧ r = 0 ∧ c = 0 ∧ n = 0
  · obtain ⟨rfl, rfl, rfl, rfl⟩ := h4; exact .inr (.inr (.inr (.inl rfl)))
  rw [if_neg h4] at h
  by_cases h5 : k = 4 ∧ r = 0 ∧ c = 0 ∧ n = 0
  · obtain ⟨rfl, rfl, rfl, rfl⟩ := h5; exact .inr (.inr (.inr (.inr rfl)))
  rw [if_neg h5] at h
  exact absurd rfl h

theorem find_here {s : List UInt8} {a : Dd} {l : List Dd} (h0 : s ≠ []) (h : deedT a = s) : findD s (a :: l) = some a := by
  unfold findD; rw [if_pos ⟨h0, h⟩]

theorem find_past {s : List UInt8} {a : Dd} {l : List Dd} (h : deedT a ≠ s) : findD s (a :: l) = findD s l := by
  show (if _ then _ else _) = _
  rw [if_neg (fun h' => h h'.2)]

/-- texts of deeds are read -/
theorem text_read {a : Dd} (h : deedT a ≠ []) : readO (deedT a) = some a := by
  unfold readO candL
  rcases text_cases h with h1 | h1 | rfl | rfl | rfl
  · obtain ⟨h0, ⟨r1, r2⟩, ⟨c1, c2⟩, n1, n2⟩ := setOk_iff.1 h1
    have hw := set_words h1
    have ht := set_text h1
    have l4 : (sepT 32 (deedT a)).length = 4 := by rw [hw]; rfl
    rw [if_pos l4, if_neg (by omega), hw]
    have e1 : digI (numT a.row) = a.row := (small_at (by omega) (by omega)).read
    have e2 : digI (numT a.col) = a.col := (small_at (by omega) (by omega)).read
    have e3 : digI (numT a.num) = a.num := (small_at n1 n2).read
    have ha : (⟨0, digI ([setW, numT a.row, numT a.col, numT a.num].getD 1 []), digI ([setW, numT a.row, numT a.col, numT a.num].getD 2 []), digI ([setW, numT a.row, numT a.col, numT a.num].getD 3 [])⟩ : Dd) = a := by
      show (⟨0, digI (numT a.row), digI (numT a.col), digI (numT a.num)⟩ : Dd) = a
      rw [e1, e2, e3, ← h0]
    rw [ha]
    show findD (deedT a) (ddTurn :: ddSmall :: ddBack :: a :: []) = _
    rw [find_past (by rw [turn_text, ht]; unfold turnW; intro e; injection e with e _; exact absurd e (by decide)), find_past (by rw [small_text, ht]; unfold smallW; intro e; injection e with _ e; injection e with e _; exact absurd e (by decide)), find_past (by rw [back_text, ht]; unfold backW; intro e; injection e with e _; exact absurd e (by decide)), find_here h rfl]
  · obtain ⟨⟨h0, r0, c0⟩, n1, n2⟩ := shiftOk_iff.1 h1
    have hw := shift_words h1
    have ht := shift_text h1
    have l2 : (sepT 32 (deedT a)).length = 2 := by rw [hw]; rfl
    rw [if_neg (by omega), if_pos l2, hw]
    have e3 : digI (numT a.num) = a.num := (small_at n1 n2).read
    have ha : (⟨2, 0, 0, digI ([shiftW, numT a.num].getD 1 [])⟩ : Dd) = a := by
      show (⟨2, 0, 0, digI (numT a.num)⟩ : Dd) = a
      rw [e3, ← h0]; obtain ⟨k, r, c, n⟩ := a; simp only at r0 c0; subst r0 c0; rfl
    rw [ha]
    show findD (deedT a) (ddTurn :: ddSmall :: ddBack :: a :: []) = _
    rw [find_past (by rw [turn_text, ht]; unfold turnW; intro e; injection e with e _; exact absurd e (by decide)), find_past (by rw [small_text, ht]; unfold smallW; intro e; injection e with _ e; injection e with e _; exact absurd e (by decide)), find_past (by rw [back_text, ht]; unfold backW; intro e; injection e with e _; exact absurd e (by decide)), find_here h rfl]
  · exact find_here h rfl
  · exact (find_past (by decide +kernel)).trans (find_here h rfl)
  · exact (find_past (by decide +kernel)).trans ((find_past (by decide +kernel)).trans (find_here h rfl))

theorem text_readB {a : Dd} (h : deedT a ≠ []) : readB (deedT a) = true ∧ readD (deedT a) = a := by
  unfold readB readD; rw [text_read h]; exact ⟨rfl, rfl⟩

theorem num_ne {n : Int} (h1 : -99 ≤ n) (h2 : n ≤ 99) : numT n ≠ [] := fun e => by
  have := (small_at h1 h2).lo; rw [e] at this; exact absurd this (by decide)

theorem last_num {n : Int} (h1 : -99 ≤ n) (h2 : n ≤ 99) (w : List UInt8) : (w ++ numT n).getLast? ≠ some 32 := by
  intro e
  rw [List.getLast?_append] at e
  rcases hx : (numT n).getLast? with _ | c
  · exact num_ne h1 h2 (List.getLast?_eq_none_iff.1 hx)
  · rw [hx] at e
    have e2 : c = 32 := by simpa using e
    subst e2
    exact num_free h1 h2 32 (List.mem_of_getLast? hx) rfl

/-- no text of a deed ends with a space -/
theorem text_last (a : Dd) : (deedT a).getLast? ≠ some 32 := by
  by_cases h : deedT a = []
  · rw [h]; simp
  rcases text_cases h with h1 | h1 | rfl | rfl | rfl
  · obtain ⟨_, _, _, n1, n2⟩ := setOk_iff.1 h1
    rw [set_text h1, show (115 :: 101 :: 116 :: 32 :: (numT a.row ++ 32 :: (numT a.col ++ 32 :: numT a.num)) : List UInt8) = ([115, 101, 116, 32] ++ numT a.row ++ [32] ++ numT a.col ++ [32]) ++ numT a.num by simp]
    exact last_num n1 n2 _
  · obtain ⟨_, n1, n2⟩ := shiftOk_iff.1 h1
    rw [shift_text h1, show (115 :: 104 :: 105 :: 102 :: 116 :: 32 :: numT a.num : List UInt8) = [115, 104, 105, 102, 116, 32] ++ numT a.num by simp]
    exact last_num n1 n2 _
  · decide +kernel
  · decide +kernel
  · decide +kernel

/-- with a space behind it a text is refused -/
theorem read_space (s : List UInt8) : readB (s ++ [32]) = false := by
  rcases h : readB (s ++ [32]) with _ | _
  · rfl
  · have := (read_text h).2
    exact absurd (show (deedT (readD (s ++ [32]))).getLast? = some 32 by rw [this]; simp) (text_last _)

/-! journals -/

def journalT (l : List Dd) : List UInt8 := if l.all (fun a => decide (deedT a ≠ [])) then l.flatMap fun a => deedT a ++ [10] else []

def jouL (pre : List UInt8) : List UInt8 → List Dd
  | [] => []
  | c :: s => if c = 10 then (if readB pre = true then readD pre :: jouL [] s else []) else jouL (pre ++ [c]) s

def jouN (pre : List UInt8) : List UInt8 → Nat
  | [] => 0
  | c :: s => if c = 10 then (if readB pre = true then pre.length + 1 + jouN [] s else 0) else jouN (pre ++ [c]) s

theorem jouL_cons (pre s : List UInt8) (c : UInt8) : jouL pre (c :: s) = if c = 10 then (if readB pre = true then readD pre :: jouL [] s else []) else jouL (pre ++ [c]) s := rfl

theorem jouN_cons (pre s : List UInt8) (c : UInt8) : jouN pre (c :: s) = if c = 10 then (if readB pre = true then pre.length + 1 + jouN [] s else 0) else jouN (pre ++ [c]) s := rfl

theorem jouN_le (s : List UInt8) : ∀ pre, jouN pre s ≤ pre.length + s.length := by
  induction s with
  | nil => intro pre; simp [jouN]
  | cons c s ih =>
    intro pre
    unfold jouN
    split
    · split
      · have := ih []; simp at this ⊢; omega
      · simp
    · have := ih (pre ++ [c]); simp at this ⊢; omega

/-- of any beginning the first ones of these deeds are read -/
theorem jouL_take (s : List UInt8) : ∀ pre k, jouL pre (s.take k) <+: jouL pre s := by
  induction s with
  | nil => intro pre k; simp [jouL]
  | cons c s ih =>
    intro pre k
    cases k with
    | zero => simp [jouL]
    | succ k =>
      rw [List.take_succ_cons]
      unfold jouL
      split
      · split
        · exact List.prefix_cons_inj _ |>.2 (ih [] k)
        · exact List.prefix_rfl
      · exact ih (pre ++ [c]) k

theorem jou_texts (s : List UInt8) : ∀ pre a, a ∈ jouL pre s → deedT a ≠ [] := by
  induction s with
  | nil => intro pre a h; cases h
  | cons c s ih =>
    intro pre a h
    unfold jouL at h
    split at h
    · split at h
      · rename_i hr
        rcases List.mem_cons.1 h with rfl | h
        · have := read_text hr; rw [this.2]; exact this.1
        · exact ih [] a h
      · cases h
    · exact ih _ a h

theorem journal_all {l : List Dd} (h : ∀ a, a ∈ l → deedT a ≠ []) : journalT l = l.flatMap fun a => deedT a ++ [10] := by
  unfold journalT
  rw [if_pos (List.all_eq_true.2 fun a ha => decide_eq_true (h a ha))]

theorem jou_flat (s : List UInt8) : ∀ pre, ((jouL pre s).flatMap fun a => deedT a ++ [10]) = (pre ++ s).take (jouN pre s) := by
  induction s with
  | nil => intro pre; simp [jouL, jouN]
  | cons c s ih =>
    intro pre
    unfold jouL jouN
    split
    · rename_i hc
      split
      · rename_i hr
        have := ih []
        rw [List.nil_append] at this
        rw [List.flatMap_cons, this, (read_text hr).2, hc]
        rw [show pre ++ 10 :: s = (pre ++ [10]) ++ s by simp, show pre.length + 1 + jouN [] s = (pre ++ [10]).length + jouN [] s by simp, List.take_length_add_append]
      · simp
    · rw [ih (pre ++ [c])]
      simp

/-- the text of the deeds that are read is what was read -/
theorem jou_text (s : List UInt8) : journalT (jouL [] s) = s.take (jouN [] s) := by
  rw [journal_all (jou_texts s []), jou_flat s []]; rfl

theorem text_free {a : Dd} : ∀ c, c ∈ deedT a → c ≠ 10 := by
  by_cases h : deedT a = []
  · rw [h]; intro c hc; cases hc
  have nf : ∀ {n : Int}, -99 ≤ n → n ≤ 99 → ∀ c, c ∈ numT n → c ≠ 10 := fun h1 h2 c hc => ((small_at h1 h2).free c hc).2
  rcases text_cases h with h1 | h1 | rfl | rfl | rfl
  · obtain ⟨_, ⟨r1, r2⟩, ⟨c1, c2⟩, n1, n2⟩ := setOk_iff.1 h1
    rw [set_text h1]
    intro c hc
    simp only [List.mem_cons, List.mem_append] at hc
    rcases hc with rfl | rfl | rfl | rfl | hc | rfl | hc | rfl | hc
    · decide
    · decide
    · decide
    · decide
    · exact nf (by omega) (by omega) c hc
    · decide
    · exact nf (by omega) (by omega) c hc
    · decide
    · exact nf n1 n2 c hc
  · obtain ⟨_, n1, n2⟩ := shiftOk_iff.1 h1
    rw [shift_text h1]
    intro c hc
    simp only [List.mem_cons] at hc
    rcases hc with rfl | rfl | rfl | rfl | rfl | rfl | hc
    · decide
    · decide
    · decide
    · decide
    · decide
    · decide
    · exact nf n1 n2 c hc
  · decide +kernel
  · decide +kernel
  · decide +kernel

theorem jou_line (w s : List UInt8) : ∀ pre, (∀ c, c ∈ w → c ≠ 10) → jouL pre (w ++ 10 :: s) = (if readB (pre ++ w) = true then readD (pre ++ w) :: jouL [] s else []) ∧ jouN pre (w ++ 10 :: s) = (if readB (pre ++ w) = true then (pre ++ w).length + 1 + jouN [] s else 0) := by
  induction w with
  | nil => intro pre _; simp [jouL, jouN]
  | cons c w ih =>
    intro pre h
    have := ih (pre ++ [c]) (fun d hd => h d (List.mem_cons_of_mem _ hd))
    rw [List.append_assoc] at this
    show jouL pre (c :: (w ++ 10 :: s)) = _ ∧ jouN pre (c :: (w ++ 10 :: s)) = _
    rw [jouL_cons, jouN_cons, if_neg (h c List.mem_cons_self), if_neg (h c List.mem_cons_self)]
    exact this

/-- journals are read -/
theorem journal_read {l : List Dd} (h : ∀ a, a ∈ l → deedT a ≠ []) : jouL [] (journalT l) = l ∧ jouN [] (journalT l) = (journalT l).length := by
  rw [journal_all h]
  induction l with
  | nil => exact ⟨rfl, rfl⟩
  | cons a l ih =>
    have ha := h a List.mem_cons_self
    obtain ⟨i1, i2⟩ := ih (fun b hb => h b (List.mem_cons_of_mem _ hb))
    obtain ⟨r1, r2⟩ := text_readB ha
    have e : (List.flatMap (fun a => deedT a ++ [10]) (a :: l)) = deedT a ++ 10 :: (List.flatMap (fun a => deedT a ++ [10]) l) := by simp
    obtain ⟨j1, j2⟩ := jou_line (deedT a) (List.flatMap (fun a => deedT a ++ [10]) l) [] text_free
    rw [List.nil_append, if_pos r1] at j1 j2
    rw [e, j1, j2, i1, i2, r2]
    exact ⟨rfl, by simp; omega⟩

end Go.Proofs.Ytlkjpmdnhccdpaa

namespace Go.Proofs.Ytlkjpmdnhccdpaa
set_option linter.unusedSimpArgs false
set_option linter.unusedVariables false
open Go.RowKit

/-- a digit's letter -/
def digB (n : Int) : UInt8 := UInt8.ofNat (48 + n.toNat)

theorem digB_toNat {n : Int} (h0 : 0 ≤ n) (h1 : n < 10) : ((digB n).toNat : Int) = 48 + n := by unfold digB; rw [UInt8.toNat_ofNat']; omega

theorem conv_digit (n : Int) (h0 : 0 ≤ n) (h1 : n < 10) : ∀ (W : World) (b : Nat), W.cell? ⟨b, 0, none⟩ = some (.int .u8 (48 + n)) →
    Sem.run Try.prog (convert 22 9 (.slice (some ⟨b, 0, none⟩) 1 1)) W = .ok (.string ⟨#[digB n]⟩) W := by
  intro W b hc
  have e := digB_toNat h0 h1
  exact run_convert_bytes_back (P := Try.prog) W 22 9 5 ⟨b, 0, none⟩ 1 [digB n] Try.underlying22 Try.underlying5 Try.underlying9
    (fun j hj => by
      have : j = 0 := by simpa using hj
      subst this
      show W.cell? (Addr.add ⟨b, 0, none⟩ 0) = some (.int .u8 ((digB n).toNat : Int))
      rw [e]; simpa [Addr.add] using hc)

theorem itoa_small {n : Int} (h0 : 0 ≤ n) (h : n < 10) : Lib.itoa n = [digB n] := by
  unfold Lib.itoa; rw [if_neg (by omega), Lib.decDigits_one (by omega)]; rfl

theorem itoa_big {n : Int} (h : 10 ≤ n) : Lib.itoa n = Lib.itoa (n / 10) ++ [digB (n % 10)] := by
  unfold Lib.itoa; rw [if_neg (by omega), if_neg (by omega), Lib.decDigits, dif_neg (by omega)]
  have e1 : n.toNat / 10 = (n / 10).toNat := by omega
  have e2 : n.toNat % 10 = (n % 10).toNat := by omega
  rw [e1, e2]; rfl

theorem itoa_minus {n : Int} (h : n < 0) : Lib.itoa n = 45 :: Lib.itoa (-n) := by
  unfold Lib.itoa; rw [if_pos h, if_neg (by omega)]
  have e : n.natAbs = (-n).toNat := by omega
  rw [e]

theorem nDigits_le : ∀ (k u : Nat), u < 10 ^ (k + 1) → Lib.nDigits u ≤ k + 1
  | 0, u, h => by rw [Lib.nDigits_small (by simpa using h)]; omega
  | k + 1, u, h => by
    by_cases hu : u < 10
    · rw [Lib.nDigits_small hu]; omega
    · rw [Lib.nDigits_big hu]
      have := nDigits_le k (u / 10) (by rw [Nat.pow_succ] at h; omega)
      omega

theorem itoa_len {n : Int} (h1 : -9223372036854775808 ≤ n) (h2 : n ≤ 9223372036854775807) : ((Lib.itoa n).length : Int) ≤ 8388608 := by
  have hd : ∀ u : Nat, u ≤ 9223372036854775808 → (Lib.decDigits u).length ≤ 20 := fun u hu => by
    rw [Lib.decDigits_length]; exact nDigits_le 19 u (by omega)
  unfold Lib.itoa
  split
  · have := hd n.natAbs (by omega); rw [List.length_cons]; omega
  · have := hd n.toNat (by omega); omega

theorem itoa_len20 {n : Int} (h1 : -9223372036854775808 ≤ n) (h2 : n ≤ 9223372036854775807) : (Lib.itoa n).length ≤ 21 := by
  have hd : ∀ u : Nat, u ≤ 9223372036854775808 → (Lib.decDigits u).length ≤ 20 := fun u hu => by
    rw [Lib.decDigits_length]; exact nDigits_le 19 u (by omega)
  unfold Lib.itoa
  split
  · have := hd n.natAbs (by omega); rw [List.length_cons]; omega
  · have := hd n.toNat (by omega); omega

theorem u8_keep {n : Int} (h0 : 0 ≤ n) (h1 : n < 10) : IntKind.u8.wrap (48 + n) = 48 + n := by
  simp [IntKind.wrap, IntKind.bits, IntKind.signed]; omega

/-- the text of a fraction -/
def txt (u d : Int) : List UInt8 := if okB u d = true then (if d = 1 then Lib.itoa u else Lib.itoa u ++ (47 :: Lib.itoa d)) else []

end Go.Proofs.Ytlkjpmdnhccdpaa

namespace Go.Proofs.Ytlkjpmdnhccdpaa
set_option linter.unusedSimpArgs false
set_option linter.unusedVariables false
open Go.RowKit

theorem add_lists {a b : List UInt8} (ha : a.length ≤ 8000000) (hb : b.length ≤ 8000000) (w : World) : (Op.stringOp .add ⟨a.toArray⟩ ⟨b.toArray⟩).run Try.prog w = .ok (.string ⟨(a ++ b).toArray⟩) w :=
  run_string_add_lists (P := Try.prog) w a b (by omega) (by omega)

end Go.Proofs.Ytlkjpmdnhccdpaa

namespace Go.Proofs.Ytlkjpmdnhccdpaa
set_option linter.unusedSimpArgs false
set_option linter.unusedVariables false
open Go.RowKit

/-- a byte of a text -/
def byAt (s : List UInt8) (i : Nat) : UInt8 := s.getD i 0

theorem byAt_eq (s : List UInt8) (i : Nat) (h : i < s.length) : byAt s i = s[i] := by unfold byAt; simp [h]

theorem byte_at (s : List UInt8) (i : Nat) : ∀ h, (⟨s.toArray⟩ : ByteArray)[i]'h = byAt s i := fun h => by
  have h' : i < s.length := by simpa [ByteArray.size] using h
  rw [byAt_eq s i h']; rfl

theorem part_at (s : List UInt8) (i j : Nat) : (⟨s.toArray⟩ : ByteArray).extract i j = ⟨((s.drop i).take (j - i)).toArray⟩ := ByteArray.extract_mk s i j

theorem rest_at (s : List UInt8) (i : Nat) : (⟨s.toArray⟩ : ByteArray).extract i s.length = ⟨(s.drop i).toArray⟩ := by
  rw [part_at]; congr 2; exact List.take_of_length_le (by simp)

/-- a word ends at the space at k -/
theorem word_ends {s : List UInt8} {f k : Nat} (hf : f ≤ k) (hk : k < s.length) (hb : byAt s k = 32) (hno : ∀ i, f ≤ i → i < k → byAt s i ≠ 32) :
    sepT 32 (s.drop f) = (s.drop f).take (k - f) :: sepT 32 (s.drop (k + 1)) := by
  have e : s.drop f = (s.drop f).take (k - f) ++ 32 :: s.drop (k + 1) := by
    have h1 : (s.drop f).drop (k - f) = 32 :: s.drop (k + 1) := by
      rw [List.drop_drop, show f + (k - f) = k by omega, List.drop_eq_getElem_cons hk, ← byAt_eq s k hk, hb]
    rw [← h1, List.take_append_drop]
  conv => lhs; rw [e]
  refine cutw_at _ _ fun c hc => ?_
  obtain ⟨i, hi, rfl⟩ := List.mem_iff_getElem.1 hc
  have hi2 : i < k - f := by simp at hi; omega
  rw [List.getElem_take, List.getElem_drop, ← byAt_eq s (f + i) (by omega)]
  exact hno _ (by omega) (by omega)

theorem word_last {s : List UInt8} {f : Nat} (hno : ∀ i, f ≤ i → i < s.length → byAt s i ≠ 32) : sepT 32 (s.drop f) = [s.drop f] := by
  refine cutw_free _ fun c hc => ?_
  obtain ⟨i, hi, rfl⟩ := List.mem_iff_getElem.1 hc
  have hi2 : f + i < s.length := by simp at hi; omega
  rw [List.getElem_drop, ← byAt_eq s (f + i) hi2]
  exact hno _ (by omega) hi2

theorem sep_mem (s : List UInt8) : ∀ x, x ∈ sepT 32 s → x.length ≤ s.length := by
  induction s with
  | nil => intro x hx; simp [sepT] at hx; subst hx; exact Nat.le_refl _
  | cons c s ih =>
    intro x hx
    rw [cutw_cons] at hx
    split at hx
    · rcases List.mem_cons.1 hx with rfl | h
      · exact Nat.zero_le _
      · exact Nat.le_trans (ih x h) (by simp)
    · split at hx
      · rw [List.mem_singleton.1 hx]; simp
      · rename_i w ws hw
        rcases List.mem_cons.1 hx with rfl | h
        · have := ih w (by rw [hw]; exact List.mem_cons_self); simp; omega
        · exact Nat.le_trans (ih x (by rw [hw]; exact List.mem_cons_of_mem _ h)) (by simp)

theorem sep_len (s : List UInt8) (i : Nat) (h : i < (sepT 32 s).length) : (strAt (sepT 32 s) i).length ≤ s.length := by
  rw [strAt_eq _ i h]; exact sep_mem s _ (List.getElem_mem h)

theorem one_strV (s : List UInt8) : ∀ u ∈ [strV s], u.oneCell' = true := by intro u hu; rw [List.mem_singleton.1 hu]; rfl

end Go.Proofs.Ytlkjpmdnhccdpaa

namespace Go.Proofs.Ytlkjpmdnhccdpaa
set_option linter.unusedSimpArgs false
set_option linter.unusedVariables false
open Go.RowKit

theorem digsN_snoc (l : List UInt8) (c : UInt8) : ∀ n, digsN n (l ++ [c]) = 10 * digsN n l + ((c.toNat : Int) - 48) := by
  induction l with
  | nil => intro n; rfl
  | cons d l ih => intro n; exact ih _

theorem digsN_bd (l : List UInt8) (h : ∀ c, c ∈ l → isDig c = true) : ∀ (n : Int), 0 ≤ n → 0 ≤ digsN n l ∧ digsN n l < (n + 1) * 10 ^ l.length := by
  induction l with
  | nil => intro n hn; simp [digsN]; omega
  | cons c l ih =>
    intro n hn
    have hc := h c List.mem_cons_self
    unfold isDig at hc
    rw [Bool.and_eq_true, decide_eq_true_eq, decide_eq_true_eq] at hc
    obtain ⟨h1, h2⟩ := ih (fun d hd => h d (List.mem_cons_of_mem _ hd)) (10 * n + ((c.toNat : Int) - 48)) (by omega)
    refine ⟨h1, Int.lt_of_lt_of_le h2 ?_⟩
    rw [List.length_cons, Int.pow_succ]
    have h3 : 10 * n + ((c.toNat : Int) - 48) + 1 ≤ (n + 1) * 10 := by omega
    have h4 : (0 : Int) ≤ 10 ^ l.length := Int.le_of_lt (Int.pow_pos (by omega))
    have := Int.mul_le_mul_of_nonneg_right h3 h4
    rw [Int.mul_assoc, Int.mul_comm (10 : Int) (10 ^ l.length)] at this
    exact this

theorem digsN_nine {l : List UInt8} (h : ∀ c, c ∈ l → isDig c = true) (hl : l.length ≤ 9) : 0 ≤ digsN 0 l ∧ digsN 0 l ≤ 999999999 := by
  obtain ⟨h1, h2⟩ := digsN_bd l h 0 (by omega)
  have h3 : (10 : Int) ^ l.length ≤ 10 ^ 9 := by
    have := Nat.pow_le_pow_right (n := 10) (by omega) hl
    exact_mod_cast this
  have h4 : (10 : Int) ^ 9 = 1000000000 := by decide
  omega

theorem plainR_iff {s : List UInt8} : plainR s = true ↔ 1 ≤ s.length ∧ s.length ≤ 9 ∧ (s.length = 1 ∨ byAt s 0 ≠ 48) ∧ ∀ c, c ∈ s → isDig c = true := by
  unfold plainR
  rw [Bool.and_eq_true, Bool.and_eq_true, Bool.and_eq_true, Bool.or_eq_true, decide_eq_true_eq, decide_eq_true_eq, decide_eq_true_eq, decide_eq_true_eq, List.all_eq_true]
  cases s with
  | nil => simp
  | cons c l => simp [byAt]

theorem dig_bd : ∀ (s : List UInt8), -999999999 ≤ digI s ∧ digI s ≤ 999999999
  | [] => by unfold digI; omega
  | c :: s => by
    have ih := dig_bd s
    unfold digI
    split
    · omega
    · split
      · rename_i h
        obtain ⟨_, h2, _, h4⟩ := plainR_iff.1 h
        have := digsN_nine h4 h2
        omega
      · omega

theorem dig_plain {s : List UInt8} (h : ¬ (1 < s.length ∧ byAt s 0 = 45)) : digI s = (if plainR s = true then digsN 0 s else 0) ∧ digB' s = plainR s := by
  cases s with
  | nil => exact ⟨rfl, rfl⟩
  | cons c l =>
    have h2 : ¬ (c = 45 ∧ l ≠ []) := fun ⟨h3, h4⟩ => h ⟨by rw [List.length_cons]; have := List.length_pos_iff.2 h4; omega, h3⟩
    unfold digI digB'
    rw [if_neg h2, if_neg h2]; exact ⟨rfl, rfl⟩

theorem dig_minus {s : List UInt8} (h : 1 < s.length) (h0 : byAt s 0 = 45) : digI s = -(digI (s.drop 1)) ∧ digB' s = (digB' (s.drop 1) && decide (0 < digI (s.drop 1))) := by
  cases s with
  | nil => simp at h
  | cons c l =>
    have h2 : c = 45 ∧ l ≠ [] := ⟨h0, by intro e; rw [e] at h; simp at h⟩
    show digI (c :: l) = -(digI l) ∧ digB' (c :: l) = (digB' l && decide (0 < digI l))
    rw [digI, digB', if_pos h2, if_pos h2]; exact ⟨rfl, rfl⟩

theorem dig_step {s : List UInt8} {k : Nat} (hk : k < s.length) : s.take (k + 1) = s.take k ++ [byAt s k] := by rw [byAt_eq s k hk, List.take_succ_eq_append_getElem hk]

end Go.Proofs.Ytlkjpmdnhccdpaa

namespace Go.Proofs.Ytlkjpmdnhccdpaa
set_option linter.unusedSimpArgs false
set_option linter.unusedVariables false
open Go.RowKit

theorem OwnS.at_ {w : World} {lo hi : Nat} {A : Option Addr} {L : List (List UInt8)} (h : OwnS w lo hi A L) (h0 : 0 < L.length) : ∃ b, A = some ⟨b, 0, none⟩ ∧ b < hi ∧ ∀ i, i < L.length → w.cell? ⟨b, i, none⟩ = some (strV (strAt L i)) := by
  obtain ⟨b, off, e, ⟨_, h2⟩, h3⟩ := h.strs h0
  obtain ⟨b', N, f, e', _⟩ := h h0
  rw [e'] at e
  injection e with e; injection e with e1 e2
  subst e1 e2
  exact ⟨b', e', h2, fun i hi => by have := h3 i hi; rwa [Nat.zero_add] at this⟩

theorem ddVals_one (a : Dd) : ∀ u ∈ [Value.int .i64 a.kind, .int .i64 a.row, .int .i64 a.col, .int .i64 a.num], u.oneCell' = true := by
  intro u hu; simp at hu; rcases hu with rfl | rfl | rfl | rfl <;> rfl

/-- the first three deeds that a text may be that of -/
def cand0 : List Dd := [ddTurn, ddSmall, ddBack]

theorem GrowsD.cand (w : World) {base : Nat} (hb : base ≤ w.heap.size) :
    GrowsD (w.alloc (.cells #[.int .i64 1, .int .i64 0, .int .i64 0, .int .i64 0, .int .i64 3, .int .i64 0, .int .i64 0, .int .i64 0, .int .i64 4, .int .i64 0, .int .i64 0, .int .i64 0] 55)) base (.slice (some ⟨w.heap.size, 0, none⟩) 3 3) cand0 :=
  World.ownsRow_lit w #[.int .i64 1, .int .i64 0, .int .i64 0, .int .i64 0, .int .i64 3, .int .i64 0, .int .i64 0, .int .i64 0, .int .i64 4, .int .i64 0, .int .i64 0, .int .i64 0] 3 hb (by unfold maxLen; omega) rfl

/-- the list stands, its cells are told -/
theorem GrowsD.cells {w : World} {base : Nat} {v : Value} {l : List Dd} (h : GrowsD w base v l) (h0 : 0 < l.length) : ∃ b cap, v = .slice (some ⟨b, 0, none⟩) l.length cap ∧ base ≤ b ∧ b < w.heap.size ∧
    ∀ w' : World, w'.heap[b]? = w.heap[b]? → ∀ i, i < l.length → w'.cell? ⟨b, i * 4, none⟩ = some (.int .i64 (ddAt l i).kind) ∧ w'.cell? ⟨b, i * 4 + 1, none⟩ = some (.int .i64 (ddAt l i).row) ∧ w'.cell? ⟨b, i * 4 + 2, none⟩ = some (.int .i64 (ddAt l i).col) ∧ w'.cell? ⟨b, i * 4 + 3, none⟩ = some (.int .i64 (ddAt l i).num) := by
  have h' := h
  obtain ⟨h1, ⟨rfl, h2⟩ | ⟨b, cap, cur, rfl, h3, h4, h5⟩⟩ := h'
  · omega
  · refine ⟨b, cap, rfl, h3, (Array.getElem?_eq_some_iff.1 h4).1, fun w' hw i hi => ?_⟩
    obtain ⟨e0, e1, e2, e3⟩ := ddVals_at l i hi
    have hh : ∀ j, j < l.length * 4 → w'.cell? ⟨b, j, none⟩ = (ddVals l)[j]? := fun j hj => by
      rw [World.cell?_of_block (w := w) (a := ⟨b, j, none⟩) hw]; exact World.ownsRow.cellAt h j hj
    exact ⟨(hh _ (by omega)).trans e0, (hh _ (by omega)).trans e1, (hh _ (by omega)).trans e2, (hh _ (by omega)).trans e3⟩

theorem find_drop {s : List UInt8} {l : List Dd} {k : Nat} (hk : k < l.length) : findD s (l.drop k) = if s ≠ [] ∧ deedT (ddAt l k) = s then some (ddAt l k) else findD s (l.drop (k + 1)) := by
  rw [List.drop_eq_getElem_cons hk, findD, ← ddAt_eq l k hk]

end Go.Proofs.Ytlkjpmdnhccdpaa

namespace Go.Proofs.Ytlkjpmdnhccdpaa
set_option linter.unusedSimpArgs false
set_option linter.unusedVariables false
open Go.RowKit

theorem read_len (s : List UInt8) : ∀ pre, (jouL pre s).length ≤ s.length := by
  induction s with
  | nil => intro pre; simp [jouL]
  | cons c s ih =>
    intro pre
    rw [jouL_cons]
    split
    · split
      · have := ih []; simp; omega
      · simp
    · have := ih (pre ++ [c]); simp; omega

theorem OwnDd.keepW {w w' : World} {lo : Nat} {A : Option Addr} {l : List Dd} (h : OwnDd w lo w.heap.size A l) (hs : w.heap.size ≤ w'.heap.size) (hk : ∀ b, lo ≤ b → b < w.heap.size → w'.heap[b]? = w.heap[b]?) : OwnDd w' lo w'.heap.size A l := by
  intro h0
  obtain ⟨b, N, f, e, h1, h2, h3, h4, h5⟩ := h h0
  exact ⟨b, N, f, e, h1, by omega, h3.of_block (hk b h1 h2), h4, h5⟩

/-- what is left to read behind the byte at k, which is no end of a line -/
theorem jou_step {s : List UInt8} {f k : Nat} (hf : f ≤ k) (hk : k < s.length) (hb : byAt s k ≠ 10) :
    jouL ((s.drop f).take (k - f)) (s.drop k) = jouL ((s.drop f).take (k + 1 - f)) (s.drop (k + 1)) ∧ jouN ((s.drop f).take (k - f)) (s.drop k) = jouN ((s.drop f).take (k + 1 - f)) (s.drop (k + 1)) := by
  have e : s.drop k = byAt s k :: s.drop (k + 1) := by rw [List.drop_eq_getElem_cons hk, ← byAt_eq s k hk]
  have e2 : (s.drop f).take (k + 1 - f) = (s.drop f).take (k - f) ++ [byAt s k] := by
    rw [show k + 1 - f = (k - f) + 1 by omega, List.take_succ_eq_append_getElem (by simp; omega), List.getElem_drop]
    congr 2
    rw [byAt_eq s k hk]; congr 1; omega
  rw [e, jouL_cons, jouN_cons, if_neg hb, if_neg hb, e2]
  exact ⟨rfl, rfl⟩

theorem jou_end {s : List UInt8} {f k : Nat} (hk : k < s.length) (hb : byAt s k = 10) (hf : f ≤ k) :
    jouL ((s.drop f).take (k - f)) (s.drop k) = (if readB ((s.drop f).take (k - f)) = true then readD ((s.drop f).take (k - f)) :: jouL [] (s.drop (k + 1)) else []) ∧
    jouN ((s.drop f).take (k - f)) (s.drop k) = (if readB ((s.drop f).take (k - f)) = true then k - f + 1 + jouN [] (s.drop (k + 1)) else 0) := by
  have e : s.drop k = byAt s k :: s.drop (k + 1) := by rw [List.drop_eq_getElem_cons hk, ← byAt_eq s k hk]
  have e3 : ((s.drop f).take (k - f)).length = k - f := by simp; omega
  rw [e, jouL_cons, jouN_cons, if_pos hb, if_pos hb, e3]
  exact ⟨rfl, rfl⟩

end Go.Proofs.Ytlkjpmdnhccdpaa

namespace Go.Proofs.Ytlkjpmdnhccdpaa
set_option linter.unusedSimpArgs false
set_option linter.unusedVariables false
open Go.RowKit

/-- deeds that are numbered through -/
def ddMarks (k : Int) (n : Nat) : List Dd := (List.range n).map fun i : Nat => ⟨k + 4 * (i : Int), k + 4 * (i : Int) + 1, k + 4 * (i : Int) + 2, k + 4 * (i : Int) + 3⟩

theorem ddMarks_length (k : Int) (n : Nat) : (ddMarks k n).length = n := by simp [ddMarks]

theorem ddMarks_at (k : Int) (n i : Nat) (h : i < n) : ddAt (ddMarks k n) i = ⟨k + 4 * (i : Int), k + 4 * (i : Int) + 1, k + 4 * (i : Int) + 2, k + 4 * (i : Int) + 3⟩ := by
  rw [ddAt_eq _ _ (by rw [ddMarks_length]; exact h)]; simp [ddMarks]

theorem ddMarks_cell (k : Int) (n j : Nat) (h : j < n * 4) : (ddVals (ddMarks k n))[j]? = some (.int .i64 (k + (j : Int))) := by
  have hd : j / 4 < (ddMarks k n).length := by rw [ddMarks_length]; omega
  obtain ⟨e0, e1, e2, e3⟩ := ddVals_at (ddMarks k n) (j / 4) hd
  rw [ddMarks_at k n _ (by omega)] at e0 e1 e2 e3
  have hm : j % 4 = 0 ∨ j % 4 = 1 ∨ j % 4 = 2 ∨ j % 4 = 3 := by omega
  rcases hm with h0 | h0 | h0 | h0
  · rw [show j = j / 4 * 4 by omega, e0]; congr 2; simp only; omega
  · rw [show j = j / 4 * 4 + 1 by omega, e1]; congr 2; simp only; omega
  · rw [show j = j / 4 * 4 + 2 by omega, e2]; congr 2; simp only; omega
  · rw [show j = j / 4 * 4 + 3 by omega, e3]; congr 2; simp only; omega

/-- while deeds are copied: the first k of l -/
structure DeedFill (w wr : World) (b : Nat) (l : List Dd) (k : Nat) : Prop where
  bel : Below w.heap.size w wr
  lo : w.heap.size ≤ b
  row : wr.rowIs b 55 (l.length * 4) (fun i => if i < k * 4 then ((ddVals l)[i]?).getD undef else .int .i64 0)

theorem DeedFill.call {w wr w1 : World} {b : Nat} {l : List Dd} {k : Nat} (h : DeedFill w wr b l k) (hb : Below wr.heap.size wr w1) : DeedFill w w1 b l k :=
  ⟨belT h.bel hb, h.lo, h.row.of_block (hb.block _ h.row.lt)⟩

theorem DeedFill.step {w wr : World} {b : Nat} {l : List Dd} {k : Nat} (h : DeedFill w wr b l k) (hk : k < l.length) :
    DeedFill w ((((wr.setCell ⟨b, k * 4, none⟩ (.int .i64 (ddAt l k).kind)).setCell ⟨b, k * 4 + 1, none⟩ (.int .i64 (ddAt l k).row)).setCell ⟨b, k * 4 + 2, none⟩ (.int .i64 (ddAt l k).col)).setCell ⟨b, k * 4 + 3, none⟩ (.int .i64 (ddAt l k).num)) b l (k + 1) := by
  obtain ⟨e0, e1, e2, e3⟩ := ddVals_at l k hk
  refine ⟨(((h.bel.setCell h.lo _).setCell h.lo _).setCell h.lo _).setCell h.lo _, h.lo, ((((h.row.set (k * 4) _).set (k * 4 + 1) _).set (k * 4 + 2) _).set (k * 4 + 3) _).congr (fun i _ => ?_)⟩
  by_cases q3 : i = k * 4 + 3
  · subst q3; simp [e3]; try omega
  by_cases q2 : i = k * 4 + 2
  · subst q2; simp [e2]; try omega
  by_cases q1 : i = k * 4 + 1
  · subst q1; simp [e1]; try omega
  by_cases q0 : i = k * 4
  · subst q0; simp [e0]; try omega
  simp only [q3, q2, q1, q0, if_false]
  by_cases hlt : i < k * 4
  · rw [if_pos hlt, if_pos (by omega)]
  · rw [if_neg hlt, if_neg (by omega)]

end Go.Proofs.Ytlkjpmdnhccdpaa

namespace Go.Proofs.Ytlkjpmdnhccdpaa
set_option linter.unusedSimpArgs false
set_option linter.unusedVariables false
open Go.RowKit

theorem add_far {a b : List UInt8} (h : a.length + b.length ≤ 9223372036854775807) (w : World) : (Op.stringOp .add ⟨a.toArray⟩ ⟨b.toArray⟩).run Try.prog w = .ok (.string ⟨(a ++ b).toArray⟩) w := by
  rw [run_string_add_sum w _ _ (by simpa [ByteArray.size] using h), ByteArray.mk_append_mk]

theorem text_len (a : Dd) : (deedT a).length ≤ 12 := by
  by_cases h : deedT a = []
  · rw [h]; simp
  rcases text_cases h with h1 | h1 | h1 | h1 | h1
  · rw [set_text h1]
    obtain ⟨_, h2, h3, h4⟩ := setOk_iff.1 h1
    have e1 := (small_at (n := a.row) (by omega) (by omega)).hi
    have e2 := (small_at (n := a.col) (by omega) (by omega)).hi
    have e3 := (small_at (n := a.num) (by omega) (by omega)).hi
    have f1 : (numT a.row).length = 1 := by unfold numT natT; rw [if_neg (by omega), if_pos (by omega)]; rfl
    have f2 : (numT a.col).length = 1 := by unfold numT natT; rw [if_neg (by omega), if_pos (by omega)]; rfl
    simp only [List.length_cons, List.length_append]; omega
  · rw [shift_text h1]
    obtain ⟨_, h4⟩ := shiftOk_iff.1 h1
    have e3 := (small_at (n := a.num) (by omega) (by omega)).hi
    simp only [List.length_cons]; omega
  · subst h1; rw [turn_text]; decide
  · subst h1; rw [small_text]; decide
  · subst h1; rw [back_text]; decide

/-- the texts of the first k deeds -/
def jpre (l : List Dd) (k : Nat) : List UInt8 := (l.take k).flatMap fun a => deedT a ++ [10]

theorem jpre_succ (l : List Dd) {k : Nat} (h : k < l.length) : jpre l (k + 1) = jpre l k ++ (deedT (ddAt l k) ++ [10]) := by
  unfold jpre; rw [List.take_succ_eq_append_getElem h, List.flatMap_append, ← ddAt_eq l k h]; simp

theorem jpre_len (l : List Dd) : ∀ k, (jpre l k).length ≤ 13 * k
  | 0 => by simp [jpre]
  | k + 1 => by
    have ih := jpre_len l k
    by_cases h : k < l.length
    · rw [jpre_succ l h]
      have := text_len (ddAt l k)
      simp; omega
    · have : jpre l (k + 1) = jpre l k := by unfold jpre; rw [List.take_of_length_le (by omega), List.take_of_length_le (by omega)]
      rw [this]; omega

theorem jour_no {l : List Dd} {k : Nat} (hk : k < l.length) (h : deedT (ddAt l k) = []) : journalT l = [] := by
  unfold journalT
  rw [if_neg]
  intro h2
  have := List.all_eq_true.1 h2 (ddAt l k) (by rw [ddAt_eq l k hk]; exact List.getElem_mem hk)
  rw [decide_eq_true_eq] at this
  exact this h

theorem jour_yes {l : List Dd} (h : ∀ i, i < l.length → deedT (ddAt l i) ≠ []) : journalT l = jpre l l.length := by
  rw [journal_all fun a ha => ?_]
  · unfold jpre; rw [List.take_of_length_le (Nat.le_refl _)]
  · obtain ⟨i, hi, rfl⟩ := List.mem_iff_getElem.1 ha
    rw [← ddAt_eq l i hi]; exact h i hi

end Go.Proofs.Ytlkjpmdnhccdpaa

namespace Go.Proofs.Ytlkjpmdnhccdpaa
set_option linter.unusedSimpArgs false
set_option linter.unusedVariables false
open Go.RowKit



end Go.Proofs.Ytlkjpmdnhccdpaa
