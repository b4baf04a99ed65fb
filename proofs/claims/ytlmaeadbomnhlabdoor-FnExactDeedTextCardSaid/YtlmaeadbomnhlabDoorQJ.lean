/- Texts in one: DeedC, DeedN, NumS, DeedS, CutS, DigS, ReadS, ReadJ, DeedH, JouS, ExactJd. -/
import Derived.Test.YtlmaeadbomnhlabDoorQE
import Derived.Test.YtlmaeadbomnhlabDoorQD
import Derived.Test.YtlmaeadbomnhlabDoorMC
import Derived.Lib.ItoaNum
import Derived.Lib.ItoaMem
import Derived.Lib.SmallJoins
import Derived.Laws.IdiomStrings
import Derived.Deep.DeepMust
import Derived.Deep.DeepFit
import Derived.Lib.AppendIntMem
import Derived.Test.YtlmaeadbomnhlabDoorStrM
import Derived.Laws.Concat
import Derived.Laws.Strings3
namespace Go.Proofs.YtlmaeadbomnhlabDoor
set_option linter.unusedSimpArgs false
set_option linter.unusedVariables false
open Go.RowKit

set_option maxHeartbeats 2000000 in
theorem toDeed_c (a : Dd) (w : World) :
    Calls Tryd.prog 8 #[ddV a] w (Adds (ddV a) w) := by
  obtain ⟨kind, row, col, num⟩ := a
  unfold ddV
  simp only
  go_enter Tryd.func8, Tryd.ntmps8
  go_wp2_with fail
  obtain ⟨X, hX⟩ : ∃ X, X = ((w.alloc (.cells #[.int .i64 kind, .int .i64 row, .int .i64 col, .int .i64 num] 23)).alloc (.cells #[.int .i64 kind, .int .i64 row, .int .i64 col, .int .i64 num] 25)).alloc (.cells #[.int .i64 kind, .int .i64 row, .int .i64 col, .int .i64 num] 25) := ⟨_, rfl⟩
  have hb : Below w.heap.size w X := by rw [hX]; exact (((Below.refl _ _).alloc (Nat.le_refl _) _).alloc (by simp) _).alloc (by simp; omega) _
  have y0 : X.cell? ⟨w.heap.size + 1, 0, none⟩ = some (.int .i64 kind) := by rw [hX]; simp [go_sem]
  have y1 : X.cell? ⟨w.heap.size + 1, 1, none⟩ = some (.int .i64 row) := by rw [hX]; simp [go_sem]
  have y2 : X.cell? ⟨w.heap.size + 1, 2, none⟩ = some (.int .i64 col) := by rw [hX]; simp [go_sem]
  have y3 : X.cell? ⟨w.heap.size + 1, 3, none⟩ = some (.int .i64 num) := by rw [hX]; simp [go_sem]
  rw [← hX]
  exact bodyPost_ret (v := .agg #[.int .i64 kind, .int .i64 row, .int .i64 col, .int .i64 num]) (by simp [results, Tryd.results8, go_sem, y0, y1, y2, y3]) rfl (Adds.of rfl hb)

end Go.Proofs.YtlmaeadbomnhlabDoor

namespace Go.Proofs.YtlmaeadbomnhlabDoor
set_option linter.unusedSimpArgs false
set_option linter.unusedVariables false
open Go.RowKit

theorem turn_text : deedT ddTurn = turnW := by decide +kernel

theorem small_text : deedT ddSmall = smallW := by decide +kernel

theorem back_text : deedT ddBack = backW := by decide +kernel

theorem set_text {a : Dd} (h : setOk a = true) : deedT a = 115 :: 101 :: 116 :: 32 :: (numT a.row ++ 32 :: (numT a.col ++ 32 :: numT a.num)) := by
  unfold deedT; rw [if_pos h]; rfl

theorem shift_set {a : Dd} (h : shiftOk a = true) : setOk a = false := by
  rcases hx : setOk a with _ | _
  · rfl
  · have := (setOk_iff.1 hx).1; have := (shiftOk_iff.1 h).1; omega

theorem shift_text {a : Dd} (h : shiftOk a = true) : deedT a = 115 :: 104 :: 105 :: 102 :: 116 :: 32 :: numT a.num := by
  unfold deedT; rw [shift_set h, if_neg (by decide), if_pos h]; rfl

/-- which deeds have a text -/
theorem text_cases {a : Dd} (h : deedT a ≠ []) : setOk a = true ∨ shiftOk a = true ∨ a = ddTurn ∨ a = ddSmall ∨ a = ddBack := by
  obtain ⟨k, r, c, n⟩ := a
  by_cases h1 : setOk ⟨k, r, c, n⟩ = true
  · exact .inl h1
  by_cases h2 : shiftOk ⟨k, r, c, n⟩ = true
  · exact .inr (.inl h2)
  unfold deedT at h
  rw [if_neg h1, if_neg h2] at h
  by_cases h3 : k = 1 ∧ r = 0 ∧ c = 0 ∧ n = 0
  · obtain ⟨rfl, rfl, rfl, rfl⟩ := h3; exact .inr (.inr (.inl rfl))
  rw [if_neg h3] at h
  by_cases h4 : k = 3 ∧ r = 0 ∧ c = 0 ∧ n = 0
  · obtain ⟨rfl, rfl, rfl, rfl⟩ := h4; exact .inr (.inr (.inr (.inl rfl)))
  rw [if_neg h4] at h
  by_cases h5 : k = 4 ∧ r = 0 ∧ c = 0 ∧ n = 0
  · obtain ⟨rfl, rfl, rfl, rfl⟩ := h5; exact .inr (.inr (.inr (.inr rfl)))
  rw [if_neg h5] at h
  exact absurd rfl h

theorem find_here {s : List UInt8} {a : Dd} {l : List Dd} (h0 : s ≠ []) (h : deedT a = s) : findD s (a :: l) = some a := by
  unfold findD; rw [if_pos ⟨h0, h⟩]

theorem find_past {s : List UInt8} {a : Dd} {l : List Dd} (h : deedT a ≠ s) : findD s (a :: l) = findD s l := by
  show (if _ then _ else _) = _
  rw [if_neg (fun h' => h h'.2)]

/-- texts of deeds are read -/
theorem text_read {a : Dd} (h : deedT a ≠ []) : readO (deedT a) = some a := by
  unfold readO candL
  rcases text_cases h with h1 | h1 | rfl | rfl | rfl
  · obtain ⟨h0, ⟨r1, r2⟩, ⟨c1, c2⟩, n1, n2⟩ := setOk_iff.1 h1
    have hw := set_words h1
    have ht := set_text h1
    have l4 : (sepT 32 (deedT a)).length = 4 := by rw [hw]; rfl
    rw [if_pos l4, if_neg (by omega), hw]
    have e1 : digI (numT a.row) = a.row := (small_at (by omega) (by omega)).read
    have e2 : digI (numT a.col) = a.col := (small_at (by omega) (by omega)).read
    have e3 : digI (numT a.num) = a.num := (small_at n1 n2).read
    have ha : (⟨0, digI ([setW, numT a.row, numT a.col, numT a.num].getD 1 []), digI ([setW, numT a.row, numT a.col, numT a.num].getD 2 []), digI ([setW, numT a.row, numT a.col, numT a.num].getD 3 [])⟩ : Dd) = a := by
      show (⟨0, digI (numT a.row), digI (numT a.col), digI (numT a.num)⟩ : Dd) = a
      rw [e1, e2, e3, ← h0]
    rw [ha]
    show findD (deedT a) (ddTurn :: ddSmall :: ddBack :: a :: []) = _
    rw [find_past (by rw [turn_text, ht]; unfold turnW; intro e; injection e with e _; exact absurd e (by decide)), find_past (by rw [small_text, ht]; unfold smallW; intro e; injection e with _ e; injection e with e _; exact absurd e (by decide)), find_past (by rw [back_text, ht]; unfold backW; intro e; injection e with e _; exact absurd e (by decide)), find_here h rfl]
  · obtain ⟨⟨h0, r0, c0⟩, n1, n2⟩ := shiftOk_iff.1 h1
    have hw := shift_words h1
    have ht := shift_text h1
    have l2 : (sepT 32 (deedT a)).length = 2 := by rw [hw]; rfl
    rw [if_neg (by omega), if_pos l2, hw]
    have e3 : digI (numT a.num) = a.num := (small_at n1 n2).read
    have ha : (⟨2, 0, 0, digI ([shiftW, numT a.num].getD 1 [])⟩ : Dd) = a := by
      show (⟨2, 0, 0, digI (numT a.num)⟩ : Dd) = a
      rw [e3, ← h0]; obtain ⟨k, r, c, n⟩ := a; simp only at r0 c0; subst r0 c0; rfl
    rw [ha]
    show findD (deedT a) (ddTurn :: ddSmall :: ddBack :: a :: []) = _
    rw [find_past (by rw [turn_text, ht]; unfold turnW; intro e; injection e with e _; exact absurd e (by decide)), find_past (by rw [small_text, ht]; unfold smallW; intro e; injection e with _ e; injection e with e _; exact absurd e (by decide)), find_past (by rw [back_text, ht]; unfold backW; intro e; injection e with e _; exact absurd e (by decide)), find_here h rfl]
  · exact find_here h rfl
  · exact (find_past (by decide +kernel)).trans (find_here h rfl)
  · exact (find_past (by decide +kernel)).trans ((find_past (by decide +kernel)).trans (find_here h rfl))

theorem text_readB {a : Dd} (h : deedT a ≠ []) : readB (deedT a) = true ∧ readD (deedT a) = a := by
  unfold readB readD; rw [text_read h]; exact ⟨rfl, rfl⟩

def journalT (l : List Dd) : List UInt8 := if l.all (fun a => decide (deedT a ≠ [])) then l.flatMap fun a => deedT a ++ [10] else []

def jouL (pre : List UInt8) : List UInt8 → List Dd
  | [] => []
  | c :: s => if c = 10 then (if readB pre = true then readD pre :: jouL [] s else []) else jouL (pre ++ [c]) s

def jouN (pre : List UInt8) : List UInt8 → Nat
  | [] => 0
  | c :: s => if c = 10 then (if readB pre = true then pre.length + 1 + jouN [] s else 0) else jouN (pre ++ [c]) s

theorem jouL_cons (pre s : List UInt8) (c : UInt8) : jouL pre (c :: s) = if c = 10 then (if readB pre = true then readD pre :: jouL [] s else []) else jouL (pre ++ [c]) s := rfl

theorem jouN_cons (pre s : List UInt8) (c : UInt8) : jouN pre (c :: s) = if c = 10 then (if readB pre = true then pre.length + 1 + jouN [] s else 0) else jouN (pre ++ [c]) s := rfl

theorem journal_all {l : List Dd} (h : ∀ a, a ∈ l → deedT a ≠ []) : journalT l = l.flatMap fun a => deedT a ++ [10] := by
  unfold journalT
  rw [if_pos (List.all_eq_true.2 fun a ha => decide_eq_true (h a ha))]

theorem jou_line (w s : List UInt8) : ∀ pre, (∀ c, c ∈ w → c ≠ 10) → jouL pre (w ++ 10 :: s) = (if readB (pre ++ w) = true then readD (pre ++ w) :: jouL [] s else []) ∧ jouN pre (w ++ 10 :: s) = (if readB (pre ++ w) = true then (pre ++ w).length + 1 + jouN [] s else 0) := by
  induction w with
  | nil => intro pre _; simp [jouL, jouN]
  | cons c w ih =>
    intro pre h
    have := ih (pre ++ [c]) (fun d hd => h d (List.mem_cons_of_mem _ hd))
    rw [List.append_assoc] at this
    show jouL pre (c :: (w ++ 10 :: s)) = _ ∧ jouN pre (c :: (w ++ 10 :: s)) = _
    rw [jouL_cons, jouN_cons, if_neg (h c List.mem_cons_self), if_neg (h c List.mem_cons_self)]
    exact this

end Go.Proofs.YtlmaeadbomnhlabDoor

namespace Go.Proofs.YtlmaeadbomnhlabDoor
set_option linter.unusedSimpArgs false
set_option linter.unusedVariables false
open Go.RowKit

/-- a digit's letter -/
def digB (n : Int) : UInt8 := UInt8.ofNat (48 + n.toNat)

theorem digB_toNat {n : Int} (h0 : 0 ≤ n) (h1 : n < 10) : ((digB n).toNat : Int) = 48 + n := by unfold digB; rw [UInt8.toNat_ofNat']; omega

theorem conv_digit (n : Int) (h0 : 0 ≤ n) (h1 : n < 10) : ∀ (W : World) (b : Nat), W.cell? ⟨b, 0, none⟩ = some (.int .u8 (48 + n)) →
    Sem.run Tryd.prog (convert 56 9 (.slice (some ⟨b, 0, none⟩) 1 1)) W = .ok (.string ⟨#[digB n]⟩) W := by
  intro W b hc
  have e := digB_toNat h0 h1
  exact run_convert_bytes_back (P := Tryd.prog) W 56 9 5 ⟨b, 0, none⟩ 1 [digB n] Tryd.underlying56 Tryd.underlying5 Tryd.underlying9
    (fun j hj => by
      have : j = 0 := by simpa using hj
      subst this
      show W.cell? (Addr.add ⟨b, 0, none⟩ 0) = some (.int .u8 ((digB n).toNat : Int))
      rw [e]; simpa [Addr.add] using hc)

theorem itoa_small {n : Int} (h0 : 0 ≤ n) (h : n < 10) : Lib.itoa n = [digB n] := by
  unfold Lib.itoa; rw [if_neg (by omega), Lib.decDigits_one (by omega)]; rfl

theorem itoa_big {n : Int} (h : 10 ≤ n) : Lib.itoa n = Lib.itoa (n / 10) ++ [digB (n % 10)] := by
  unfold Lib.itoa; rw [if_neg (by omega), if_neg (by omega), Lib.decDigits, dif_neg (by omega)]
  have e1 : n.toNat / 10 = (n / 10).toNat := by omega
  have e2 : n.toNat % 10 = (n % 10).toNat := by omega
  rw [e1, e2]; rfl

theorem itoa_minus {n : Int} (h : n < 0) : Lib.itoa n = 45 :: Lib.itoa (-n) := by
  unfold Lib.itoa; rw [if_pos h, if_neg (by omega)]
  have e : n.natAbs = (-n).toNat := by omega
  rw [e]

theorem nDigits_le : ∀ (k u : Nat), u < 10 ^ (k + 1) → Lib.nDigits u ≤ k + 1
  | 0, u, h => by rw [Lib.nDigits_small (by simpa using h)]; omega
  | k + 1, u, h => by
    by_cases hu : u < 10
    · rw [Lib.nDigits_small hu]; omega
    · rw [Lib.nDigits_big hu]
      have := nDigits_le k (u / 10) (by rw [Nat.pow_succ] at h; omega)
      omega

theorem itoa_len {n : Int} (h1 : -9223372036854775808 ≤ n) (h2 : n ≤ 9223372036854775807) : ((Lib.itoa n).length : Int) ≤ 8388608 := by
  have hd : ∀ u : Nat, u ≤ 9223372036854775808 → (Lib.decDigits u).length ≤ 20 := fun u hu => by
    rw [Lib.decDigits_length]; exact nDigits_le 19 u (by omega)
  unfold Lib.itoa
  split
  · have := hd n.natAbs (by omega); rw [List.length_cons]; omega
  · have := hd n.toNat (by omega); omega

theorem itoa_len20 {n : Int} (h1 : -9223372036854775808 ≤ n) (h2 : n ≤ 9223372036854775807) : (Lib.itoa n).length ≤ 21 := by
  have hd : ∀ u : Nat, u ≤ 9223372036854775808 → (Lib.decDigits u).length ≤ 20 := fun u hu => by
    rw [Lib.decDigits_length]; exact nDigits_le 19 u (by omega)
  unfold Lib.itoa
  split
  · have := hd n.natAbs (by omega); rw [List.length_cons]; omega
  · have := hd n.toNat (by omega); omega

theorem u8_keep {n : Int} (h0 : 0 ≤ n) (h1 : n < 10) : IntKind.u8.wrap (48 + n) = 48 + n := by
  simp [IntKind.wrap, IntKind.bits, IntKind.signed]; omega

set_option maxHeartbeats 400000 in
theorem l1Number_small (n : Int) (w : World) (h0 : 0 ≤ n) (hs : n < 10) :
    Calls Tryd.prog 23 #[.int .i64 n] w fun e w' => e = .returned (.string ⟨(Lib.itoa n).toArray⟩) ∧ Below w.heap.size w w' := by
  have z1 : ¬ n < 0 := by omega
  have c1 := u8_keep h0 hs
  have kc := conv_digit n h0 hs
  have Hf := Lib.hid (itoa_small h0 hs)
  go_enter Tryd.func23, Tryd.ntmps23
  go_wp2_with fail
  go_ret
  exact ⟨by rw [Hf.out]; rfl, by repeat (first | exact Below.refl _ _ | assumption | exact bel1 (by assumption) | exact bel2 (by assumption) | exact bel3 (by assumption) | exact bel4 (by assumption) | refine Below.drew ?_ | refine below_drewN ?_ _ | refine Below.setCell ?_ (by first | (simp; done) | (simp; omega)) _ | refine Below.alloc ?_ (by first | (simp; done) | (simp; omega)) _)⟩

set_option maxHeartbeats 1000000 in
theorem l1Number_pos (k : Nat) : ∀ (n : Int) (w : World), 0 ≤ n → n ≤ 1000000000 → n ≤ k →
    Calls Tryd.prog 23 #[.int .i64 n] w fun e w' => e = .returned (.string ⟨(Lib.itoa n).toArray⟩) ∧ Below w.heap.size w w' := by
  induction k with
  | zero =>
    intro n w h0 h1 hk
    exact l1Number_small n w h0 (by omega)
  | succ k ih =>
    intro n w h0 h1 hk
    by_cases hs : n < 10
    · exact l1Number_small n w h0 hs
    · have Hf := Lib.hid (itoa_big (n := n) (by omega))
      have d0 : 0 ≤ n % 10 := by omega
      have d1 : n % 10 < 10 := by omega
      have c1 := u8_keep d0 d1
      have kc := conv_digit (n % 10) d0 d1
      have IH := Lib.hid (fun w => ih (n / 10) w (by omega) (by omega) (by omega))
      clear ih
      have q1 : n.tdiv 10 = n / 10 := Int.tdiv_eq_ediv_of_nonneg h0
      have q2 : n.tmod 10 = n % 10 := Int.tmod_eq_emod_of_nonneg h0
      have q3 : IntKind.i64.wrap (n / 10) = n / 10 := IntWalk.i64_in _ (by omega)
      have c2 : IntKind.i64.wrap (48 + n % 10) = 48 + n % 10 := IntWalk.i64_in _ (by omega)
      have hadd := fun w => run_string_add_lists (P := Tryd.prog) w (Lib.itoa (n / 10)) [digB (n % 10)] (itoa_len (by omega) (by omega)) (by simp)
      go_enter Tryd.func23, Tryd.ntmps23
      go_wp2_with fail
      go_region_with (first | (go_at_call 23; refine (IH.out _).mono ?_; rintro e w1 ⟨rfl, hb1⟩; have hlt := (fun n (hn : n < _) => Nat.lt_of_lt_of_le hn hb1.size); obtain ⟨hc1, hf1⟩ := bcell hb1))
      all_goals
        go_wp2
        go_ret
        refine ⟨by rw [Hf.out]; rfl, ?_⟩
        first
          | exact Below.alloc (belT (Below.drew (Below.refl _ _)) hb1) hb1.size _
          | exact belT (Below.drew ((Below.refl _ _).alloc (Nat.le_refl _) _)) hb1

set_option maxHeartbeats 1000000 in
theorem l1Number (n : Int) (w : World) (h0 : -1000000000 ≤ n) (h1 : n ≤ 1000000000) :
    Calls Tryd.prog 23 #[.int .i64 n] w fun e w' => e = .returned (.string ⟨(Lib.itoa n).toArray⟩) ∧ Below w.heap.size w w' := by
  by_cases hn : 0 ≤ n
  · exact l1Number_pos n.toNat n w hn h1 (by omega)
  · have Hf := Lib.hid (itoa_minus (n := n) (by omega))
    have z1 : n < 0 := by omega
    have z2 : (n == -n) = false := by simp; omega
    have hadd := fun w => run_string_add_lists (P := Tryd.prog) w [45] (Lib.itoa (-n)) (by simp) (itoa_len (by omega) (by omega))
    have P := Lib.hid (fun w => l1Number_pos (-n).toNat (-n) w (by omega) (by omega) (by omega))
    go_enter Tryd.func23, Tryd.ntmps23
    go_wp2_with fail
    refine (P.out _).mono ?_
    rintro e w1 ⟨rfl, hb1⟩
    go_wp2_with fail
    go_ret
    exact ⟨by rw [Hf.out]; rfl, hb1⟩

end Go.Proofs.YtlmaeadbomnhlabDoor

namespace Go.Proofs.YtlmaeadbomnhlabDoor
set_option linter.unusedSimpArgs false
set_option linter.unusedVariables false
open Go.RowKit

theorem add_lists {a b : List UInt8} (ha : a.length ≤ 8000000) (hb : b.length ≤ 8000000) (w : World) : (Op.stringOp .add ⟨a.toArray⟩ ⟨b.toArray⟩).run Tryd.prog w = .ok (.string ⟨(a ++ b).toArray⟩) w :=
  run_string_add_lists (P := Tryd.prog) w a b (by omega) (by omega)

set_option maxHeartbeats 4000000 in
set_option maxRecDepth 100000 in
theorem deedText_set (a : Dd) (h : setOk a = true) (w : World) :
    Calls Tryd.prog 7 #[ddV a] w (Adds (strV (deedT a)) w) := by
  rw [set_text h]
  obtain ⟨kind, row, col, num⟩ := a
  obtain ⟨hk, hr, hc, hn⟩ := setOk_iff.1 h
  simp only at hk hr hc hn
  subst hk
  simp only
  have i1 : inR row 0 9 = true := inR_is.2 hr
  have i2 : inR col 0 9 = true := inR_is.2 hc
  have i3 : inR num (-99) 99 = true := inR_is.2 hn
  have H1 : Hid (∀ w, Calls Tryd.prog 23 #[.int .i64 row] w fun e w' => e = .returned (.string ⟨(numT row).toArray⟩) ∧ Below w.heap.size w w') := fun w => by
    have := l1Number row w (by omega) (by omega); rwa [itoa_numT (by omega) (by omega)] at this
  have H2 : Hid (∀ w, Calls Tryd.prog 23 #[.int .i64 col] w fun e w' => e = .returned (.string ⟨(numT col).toArray⟩) ∧ Below w.heap.size w w') := fun w => by
    have := l1Number col w (by omega) (by omega); rwa [itoa_numT (by omega) (by omega)] at this
  have H3 : Hid (∀ w, Calls Tryd.prog 23 #[.int .i64 num] w fun e w' => e = .returned (.string ⟨(numT num).toArray⟩) ∧ Below w.heap.size w w') := fun w => by
    have := l1Number num w (by omega) (by omega); rwa [itoa_numT (by omega) (by omega)] at this
  have l1 := (small_at (n := row) (by omega) (by omega)).hi
  have l2 := (small_at (n := col) (by omega) (by omega)).hi
  have l3 := (small_at (n := num) (by omega) (by omega)).hi
  obtain ⟨R, hR⟩ : ∃ R, numT row = R := ⟨_, rfl⟩
  obtain ⟨C, hC⟩ : ∃ C, numT col = C := ⟨_, rfl⟩
  obtain ⟨N, hN⟩ : ∃ N, numT num = N := ⟨_, rfl⟩
  rw [hR] at H1 l1 ⊢
  rw [hC] at H2 l2 ⊢
  rw [hN] at H3 l3 ⊢
  have a1 := @add_lists [115, 101, 116, 32] R (by simp) (by omega)
  have a2 := @add_lists (115 :: 101 :: 116 :: 32 :: R) [32] (by simp; omega) (by simp)
  have a3 := @add_lists (115 :: 101 :: 116 :: 32 :: (R ++ [32])) C (by simp; omega) (by omega)
  have a4 := @add_lists (115 :: 101 :: 116 :: 32 :: (R ++ 32 :: C)) [32] (by simp; omega) (by simp)
  have a5 := @add_lists (115 :: 101 :: 116 :: 32 :: (R ++ 32 :: (C ++ [32]))) N (by simp; omega) (by omega)
  obtain ⟨W, hW⟩ : ∃ W : World, W = w.alloc (.cells #[.int .i64 0, .int .i64 row, .int .i64 col, .int .i64 num] 25) := ⟨_, rfl⟩
  have hzW : W.heap.size = w.heap.size + 1 := by rw [hW]; simp
  have hbW : Below w.heap.size w W := by rw [hW]; exact (Below.refl _ _).alloc (Nat.le_refl _) _
  have r0 := stays (p := w.heap.size) (o := 0) (by omega) (show W.cell? ⟨w.heap.size, 0, none⟩ = some (.int .i64 0) from by rw [hW]; simp [go_sem])
  have r1 := stays (p := w.heap.size) (o := 1) (by omega) (show W.cell? ⟨w.heap.size, 1, none⟩ = some (.int .i64 row) from by rw [hW]; simp [go_sem])
  have r2 := stays (p := w.heap.size) (o := 2) (by omega) (show W.cell? ⟨w.heap.size, 2, none⟩ = some (.int .i64 col) from by rw [hW]; simp [go_sem])
  have r3 := stays (p := w.heap.size) (o := 3) (by omega) (show W.cell? ⟨w.heap.size, 3, none⟩ = some (.int .i64 num) from by rw [hW]; simp [go_sem])
  have HW := Lib.hid hW.symm
  have HBW := Lib.hid hbW
  clear hW hbW hzW h hr hc hn hR hC hN
  unfold ddV strV
  simp only
  go_enter Tryd.func7, Tryd.ntmps7
  go_wp2_with (go_at_call 22; refine (in_spec _ _ _ _).mono ?_; rintro e w1 ⟨rfl, rfl⟩)
  rw [HW.out]
  go_region_held3 (fun w' => Below W.heap.size W w')
    (first | exact Below.refl _ _ | exact Below.drew (Below.refl _ _) | (refine Below.drew ?_; assumption) | exact belT (by assumption) (by assumption) | assumption)
    (first | (go_at_call_of 23 (Value.int IntKind.i64 row); refine (H1.out _).mono ?_; rintro e w1 ⟨rfl, hb1⟩) | (go_at_call_of 23 (Value.int IntKind.i64 col); refine (H2.out _).mono ?_; rintro e w1 ⟨rfl, hb1⟩) | (go_at_call_of 23 (Value.int IntKind.i64 num); refine (H3.out _).mono ?_; rintro e w1 ⟨rfl, hb1⟩))
  go_wp2_with fail
  go_ret
  exact ⟨by simp, belT HBW.out (by assumption)⟩

set_option maxHeartbeats 4000000 in
set_option maxRecDepth 100000 in
theorem deedText_shift (a : Dd) (h : shiftOk a = true) (w : World) :
    Calls Tryd.prog 7 #[ddV a] w (Adds (strV (deedT a)) w) := by
  rw [shift_text h]
  obtain ⟨kind, row, col, num⟩ := a
  obtain ⟨⟨hk, hr, hc⟩, hn⟩ := shiftOk_iff.1 h
  simp only at hk hr hc hn
  subst hk hr hc
  simp only
  have i3 : inR num (-99) 99 = true := inR_is.2 hn
  have H3 : Hid (∀ w, Calls Tryd.prog 23 #[.int .i64 num] w fun e w' => e = .returned (.string ⟨(numT num).toArray⟩) ∧ Below w.heap.size w w') := fun w => by
    have := l1Number num w (by omega) (by omega); rwa [itoa_numT (by omega) (by omega)] at this
  have l3 := (small_at (n := num) (by omega) (by omega)).hi
  obtain ⟨N, hN⟩ : ∃ N, numT num = N := ⟨_, rfl⟩
  rw [hN] at H3 l3 ⊢
  have a1 := @add_lists [115, 104, 105, 102, 116, 32] N (by simp) (by omega)
  obtain ⟨W, hW⟩ : ∃ W : World, W = w.alloc (.cells #[.int .i64 2, .int .i64 0, .int .i64 0, .int .i64 num] 25) := ⟨_, rfl⟩
  have hzW : W.heap.size = w.heap.size + 1 := by rw [hW]; simp
  have hbW : Below w.heap.size w W := by rw [hW]; exact (Below.refl _ _).alloc (Nat.le_refl _) _
  have r0 : W.cell? ⟨w.heap.size, 0, none⟩ = some (.int .i64 2) := by rw [hW]; simp [go_sem]
  have r1 : W.cell? ⟨w.heap.size, 1, none⟩ = some (.int .i64 0) := by rw [hW]; simp [go_sem]
  have r2 : W.cell? ⟨w.heap.size, 2, none⟩ = some (.int .i64 0) := by rw [hW]; simp [go_sem]
  have r3 : W.cell? ⟨w.heap.size, 3, none⟩ = some (.int .i64 num) := by rw [hW]; simp [go_sem]
  have HW := Lib.hid hW.symm
  have HBW := Lib.hid hbW
  clear hW hbW hzW h hn hN
  unfold ddV strV
  simp only
  go_enter Tryd.func7, Tryd.ntmps7
  go_wp2_with (first | (go_at_call 22; refine (in_spec _ _ _ _).mono ?_; rintro e w1 ⟨rfl, rfl⟩) | (go_at_call 23; refine (H3.out _).mono ?_; rintro e w1 ⟨rfl, hb1⟩))
  go_ret
  rw [HW.out] at hb1
  exact ⟨by simp, belT HBW.out hb1⟩

set_option maxHeartbeats 4000000 in
set_option maxRecDepth 100000 in
theorem deedText_plain (k : Int) (t : List UInt8) (hk : (k = 1 ∧ t = turnW) ∨ (k = 3 ∧ t = smallW) ∨ (k = 4 ∧ t = backW)) (w : World) :
    Calls Tryd.prog 7 #[ddV ⟨k, 0, 0, 0⟩] w (Adds (strV t) w) := by
  have hb : ∀ o, Below w.heap.size w (w.alloc o) := fun o => (Below.refl _ _).alloc (Nat.le_refl _) _
  unfold ddV strV
  simp only
  rcases hk with ⟨rfl, rfl⟩ | ⟨rfl, rfl⟩ | ⟨rfl, rfl⟩
  all_goals
    go_enter Tryd.func7, Tryd.ntmps7
    go_wp2_with (go_at_call 22; refine (in_spec _ _ _ _).mono ?_; rintro e w1 ⟨rfl, rfl⟩)
    go_ret
    exact ⟨rfl, hb _⟩

set_option maxHeartbeats 4000000 in
set_option maxRecDepth 100000 in
theorem deedText_none (a : Dd) (h : deedT a = []) (w : World) :
    Calls Tryd.prog 7 #[ddV a] w (Adds (strV (deedT a)) w) := by
  rw [h]
  obtain ⟨kind, row, col, num⟩ := a
  have hs : setOk ⟨kind, row, col, num⟩ = false := by
    rcases hx : setOk ⟨kind, row, col, num⟩ with _ | _
    · rfl
    · rw [set_text hx] at h; cases h
  have hs2 : shiftOk ⟨kind, row, col, num⟩ = false := by
    rcases hx : shiftOk ⟨kind, row, col, num⟩ with _ | _
    · rfl
    · rw [shift_text hx] at h; cases h
  have hb : ∀ o, Below w.heap.size w (w.alloc o) := fun o => (Below.refl _ _).alloc (Nat.le_refl _) _
  have HP : Hid (∀ k, k = 1 ∨ k = 3 ∨ k = 4 → ¬ (kind = k ∧ row = 0 ∧ col = 0 ∧ num = 0)) := fun k hk ⟨h1, h2, h3, h4⟩ => by
    subst h1 h2 h3 h4
    rcases hk with rfl | rfl | rfl
    · exact absurd h (by decide +kernel)
    · exact absurd h (by decide +kernel)
    · exact absurd h (by decide +kernel)
  have HS : Hid (¬ (kind = 0 ∧ inR row 0 9 = true ∧ inR col 0 9 = true ∧ inR num (-99) 99 = true)) := fun ⟨h1, h2, h3, h4⟩ => by
    unfold setOk at hs; simp only at hs; rw [h1, h2, h3, h4] at hs; simp at hs
  have HS2 : Hid (¬ (kind = 2 ∧ row = 0 ∧ col = 0 ∧ inR num (-99) 99 = true)) := fun ⟨h1, h2, h3, h4⟩ => by
    unfold shiftOk at hs2; simp only at hs2; rw [h1, h2, h3, h4] at hs2; simp at hs2
  clear h hs hs2
  unfold ddV strV
  simp only
  go_enter Tryd.func7, Tryd.ntmps7
  go_wp2_with (go_at_call 22; refine (in_spec _ _ _ _).mono ?_; rintro e w1 ⟨rfl, rfl⟩)
  all_goals first
    | (go_ret; exact ⟨rfl, hb _⟩)
    | (exfalso; exact HS.out ⟨by first | rfl | assumption, by assumption, by assumption, by assumption⟩)
    | (exfalso; exact HS2.out ⟨by first | rfl | assumption, by first | rfl | assumption, by first | rfl | assumption, by assumption⟩)
    | (exfalso; exact HP.out 1 (.inl rfl) ⟨by first | rfl | assumption, by first | rfl | assumption, by first | rfl | assumption, by first | rfl | assumption⟩)
    | (exfalso; exact HP.out 3 (.inr (.inl rfl)) ⟨by first | rfl | assumption, by first | rfl | assumption, by first | rfl | assumption, by first | rfl | assumption⟩)
    | (exfalso; exact HP.out 4 (.inr (.inr rfl)) ⟨by first | rfl | assumption, by first | rfl | assumption, by first | rfl | assumption, by first | rfl | assumption⟩)

theorem deedText_spec (a : Dd) (w : World) : Calls Tryd.prog 7 #[ddV a] w (Adds (strV (deedT a)) w) := by
  by_cases h : deedT a = []
  · exact deedText_none a h w
  rcases text_cases h with h1 | h1 | h1 | h1 | h1
  · exact deedText_set a h1 w
  · exact deedText_shift a h1 w
  · subst h1; rw [turn_text]; exact deedText_plain 1 _ (.inl ⟨rfl, rfl⟩) w
  · subst h1; rw [small_text]; exact deedText_plain 3 _ (.inr (.inl ⟨rfl, rfl⟩)) w
  · subst h1; rw [back_text]; exact deedText_plain 4 _ (.inr (.inr ⟨rfl, rfl⟩)) w

end Go.Proofs.YtlmaeadbomnhlabDoor

namespace Go.Proofs.YtlmaeadbomnhlabDoor
set_option linter.unusedSimpArgs false
set_option linter.unusedVariables false
open Go.RowKit

/-- a byte of a text -/
def byAt (s : List UInt8) (i : Nat) : UInt8 := s.getD i 0

theorem byAt_eq (s : List UInt8) (i : Nat) (h : i < s.length) : byAt s i = s[i] := by unfold byAt; simp [h]

theorem byte_at (s : List UInt8) (i : Nat) : ∀ h, (⟨s.toArray⟩ : ByteArray)[i]'h = byAt s i := fun h => by
  have h' : i < s.length := by simpa [ByteArray.size] using h
  rw [byAt_eq s i h']; rfl

theorem part_at (s : List UInt8) (i j : Nat) : (⟨s.toArray⟩ : ByteArray).extract i j = ⟨((s.drop i).take (j - i)).toArray⟩ := ByteArray.extract_mk s i j

theorem rest_at (s : List UInt8) (i : Nat) : (⟨s.toArray⟩ : ByteArray).extract i s.length = ⟨(s.drop i).toArray⟩ := by
  rw [part_at]; congr 2; exact List.take_of_length_le (by simp)

/-- a word ends at the space at k -/
theorem word_ends {s : List UInt8} {f k : Nat} (hf : f ≤ k) (hk : k < s.length) (hb : byAt s k = 32) (hno : ∀ i, f ≤ i → i < k → byAt s i ≠ 32) :
    sepT 32 (s.drop f) = (s.drop f).take (k - f) :: sepT 32 (s.drop (k + 1)) := by
  have e : s.drop f = (s.drop f).take (k - f) ++ 32 :: s.drop (k + 1) := by
    have h1 : (s.drop f).drop (k - f) = 32 :: s.drop (k + 1) := by
      rw [List.drop_drop, show f + (k - f) = k by omega, List.drop_eq_getElem_cons hk, ← byAt_eq s k hk, hb]
    rw [← h1, List.take_append_drop]
  conv => lhs; rw [e]
  refine cutw_at _ _ fun c hc => ?_
  obtain ⟨i, hi, rfl⟩ := List.mem_iff_getElem.1 hc
  have hi2 : i < k - f := by simp at hi; omega
  rw [List.getElem_take, List.getElem_drop, ← byAt_eq s (f + i) (by omega)]
  exact hno _ (by omega) (by omega)

theorem word_last {s : List UInt8} {f : Nat} (hno : ∀ i, f ≤ i → i < s.length → byAt s i ≠ 32) : sepT 32 (s.drop f) = [s.drop f] := by
  refine cutw_free _ fun c hc => ?_
  obtain ⟨i, hi, rfl⟩ := List.mem_iff_getElem.1 hc
  have hi2 : f + i < s.length := by simp at hi; omega
  rw [List.getElem_drop, ← byAt_eq s (f + i) hi2]
  exact hno _ (by omega) hi2

theorem sep_mem (s : List UInt8) : ∀ x, x ∈ sepT 32 s → x.length ≤ s.length := by
  induction s with
  | nil => intro x hx; simp [sepT] at hx; subst hx; exact Nat.le_refl _
  | cons c s ih =>
    intro x hx
    rw [cutw_cons] at hx
    split at hx
    · rcases List.mem_cons.1 hx with rfl | h
      · exact Nat.zero_le _
      · exact Nat.le_trans (ih x h) (by simp)
    · split at hx
      · rw [List.mem_singleton.1 hx]; simp
      · rename_i w ws hw
        rcases List.mem_cons.1 hx with rfl | h
        · have := ih w (by rw [hw]; exact List.mem_cons_self); simp; omega
        · exact Nat.le_trans (ih x (by rw [hw]; exact List.mem_cons_of_mem _ h)) (by simp)

theorem sep_len (s : List UInt8) (i : Nat) (h : i < (sepT 32 s).length) : (strAt (sepT 32 s) i).length ≤ s.length := by
  rw [strAt_eq _ i h]; exact sep_mem s _ (List.getElem_mem h)

theorem one_strV (s : List UInt8) : ∀ u ∈ [strV s], u.oneCell' = true := by intro u hu; rw [List.mem_singleton.1 hu]; rfl

set_option maxHeartbeats 2000000 in
set_option maxRecDepth 100000 in
theorem cut_spec (s : List UInt8) (hs : s.length ≤ 1048577) (w : World) :
    Calls Tryd.prog 28 #[strV s, .int .u8 32] w (NewStrs w (sepT 32 s)) := by
  unfold strV
  obtain ⟨i0, hi0, hz0, hz1, hz2⟩ := info_parts infoStr
  have HI0 := Lib.hid hi0
  have HZ0 := Lib.hid hz0
  have HZ1 := Lib.hid hz1
  have HZ2 := Lib.hid hz2
  clear hi0 hz0 hz1 hz2
  go_enter Tryd.func28, Tryd.ntmps28
  go_wp2_with fail
  go_loopw [5, 6, 7] (fun v fv i wr => ∃ (k f : Nat) (done : List (List UInt8)), k ≤ s.length ∧ f ≤ k ∧ i = .int .i64 (k : Nat) ∧ fv = .int .i64 (f : Nat) ∧ Hid (sepT 32 s = done ++ sepT 32 (s.drop f) ∧ (∀ i, f ≤ i → i < k → byAt s i ≠ 32) ∧ done.length ≤ k) ∧ Hid (GrowsS wr w.heap.size v done) ∧ Hid (Below w.heap.size w wr)) (fun _ _ i _ => s.length - (intOf i).toNat)
  case atStart => exact ⟨0, 0, [], Nat.zero_le _, Nat.le_refl _, rfl, rfl, ⟨rfl, fun i h1 h2 => by omega, Nat.zero_le _⟩, GrowsS.lit w (Nat.le_refl _), (Below.refl _ _).alloc (Nat.le_refl _) _⟩
  case round =>
    obtain ⟨k, f, done, hk, hf, rfl, rfl, HF, HO, HW⟩ := hrel
    have hdl := HF.out.2.2
    have hsz := HW.out.size
    by_cases hlt : k < s.length
    · have hby := byte_at s k
      have hlt2 : (k : Int) < (s.length : Int) := by omega
      have hw1 : IntKind.i64.wrap ((k : Int) + 1) = (k : Int) + 1 := IntWalk.i64_in _ ⟨by omega, by omega⟩
      obtain ⟨c, hc⟩ : ∃ c, byAt s k = c := ⟨_, rfl⟩
      rw [hc] at hby
      by_cases h32 : c = 32
      · have hcb : (((c.toNat : Nat) : Int) == 32) = true := by rw [h32]; rfl
        obtain ⟨wd, hwd⟩ : ∃ wd, (s.drop f).take (k - f) = wd := ⟨_, rfl⟩
        have hx : (⟨s.toArray⟩ : ByteArray).extract f k = ⟨wd.toArray⟩ := by rw [part_at, hwd]
        have HF2 : Hid (sepT 32 s = (done ++ [wd]) ++ sepT 32 (s.drop (k + 1)) ∧ (∀ i, k + 1 ≤ i → i < k + 1 → byAt s i ≠ 32) ∧ (done ++ [wd]).length ≤ k + 1) := by
          refine ⟨?_, fun i h1 h2 => by omega, by simp; omega⟩
          rw [HF.out.1, word_ends hf hlt (by rw [hc, h32]) HF.out.2.1, hwd]; simp
        clear hc h32 hwd HF
        go_wp2_with (at_builtin; refine wpList_append_own_at _ rfl (.tmp 20) (.tmp 25) _ rfl w.heap.size 9 i0 (.string ⟨#[]⟩) 1 16 Tryd.underlying45 HI0.out HZ0.out HZ1.out HZ2.out rfl (by decide) _ _ _ rfl (HO.out.alloc _) ⟨wr.heap.size, 0, none⟩ 1 1 [strV wd] rfl rfl (cell_one_new _ _ _) ?c2 ?c3 ?c4 ?c5 ?_)
        case c2 => exact one_strV wd
        case c3 => unfold maxLen; omega
        case c4 => omega
        case c5 => simp; omega
        intro v' w4 hown hgrow _ _
        have HN : Hid (GrowsS w4 w.heap.size v' (done ++ [wd])) := GrowsS.snoc hown
        have HW2 : Hid (Below w.heap.size w w4) := HO.out.below hgrow HW.out (Nat.le_refl _) hsz
        clear hown hgrow
        go_wp2_with fail
        go_roundw
        case rel => exact ⟨k + 1, k + 1, done ++ [wd], hlt, Nat.le_refl _, by go_num, by go_num, HF2, HN, HW2⟩
        case measure => simp [intOf]; omega
      · have hcb : (((c.toNat : Nat) : Int) == 32) = false := by
          rw [beq_eq_false_iff_ne]; intro e; apply h32
          apply UInt8.toNat_inj.1; have : (32 : UInt8).toNat = 32 := rfl
          omega
        have HF2 : Hid (sepT 32 s = done ++ sepT 32 (s.drop f) ∧ (∀ i, f ≤ i → i < k + 1 → byAt s i ≠ 32) ∧ done.length ≤ k + 1) := by
          refine ⟨HF.out.1, fun i h1 h2 => ?_, by omega⟩
          by_cases e : i = k
          · rw [e, hc]; exact h32
          · exact HF.out.2.1 i h1 (by omega)
        clear hc h32 HF
        go_wp2_with fail
        go_roundw
        case rel => exact ⟨k + 1, f, done, hlt, by omega, by go_num, rfl, HF2, HO, HW⟩
        case measure => simp [intOf]; omega
    · have hks : k = s.length := by omega
      obtain ⟨wd, hwd⟩ : ∃ wd, s.drop f = wd := ⟨_, rfl⟩
      have hx : (⟨s.toArray⟩ : ByteArray).extract f s.length = ⟨wd.toArray⟩ := by rw [rest_at, hwd]
      have HE : Hid (sepT 32 s = done ++ [wd]) := by show _ = _; rw [HF.out.1, word_last (fun i h1 h2 => HF.out.2.1 i h1 (by omega)), hwd]
      have hfl : f ≤ s.length := by omega
      clear hwd hks HF
      go_wp2_with (at_builtin; refine wpList_append_own_at _ rfl (.tmp 29) (.tmp 33) _ rfl w.heap.size 9 i0 (.string ⟨#[]⟩) 1 16 Tryd.underlying45 HI0.out HZ0.out HZ1.out HZ2.out rfl (by decide) _ _ _ rfl (HO.out.alloc _) ⟨wr.heap.size, 0, none⟩ 1 1 [strV wd] rfl rfl (cell_one_new _ _ _) ?d2 ?d3 ?d4 ?d5 ?_)
      case d2 => exact one_strV wd
      case d3 => unfold maxLen; omega
      case d4 => omega
      case d5 => simp; omega
      intro v' w4 hown hgrow _ _
      have HN : Hid (GrowsS w4 w.heap.size v' (done ++ [wd])) := GrowsS.snoc hown
      have HW2 : Hid (Below w.heap.size w w4) := HO.out.below hgrow HW.out (Nat.le_refl _) hsz
      clear hown hgrow
      go_wp2_with fail
      go_ret
      rw [HE.out]
      obtain ⟨A, c, rfl, _, ho⟩ := HN.out.own
      exact ⟨A, c, rfl, HW2.out, ho⟩

end Go.Proofs.YtlmaeadbomnhlabDoor

namespace Go.Proofs.YtlmaeadbomnhlabDoor
set_option linter.unusedSimpArgs false
set_option linter.unusedVariables false
open Go.RowKit

theorem digsN_snoc (l : List UInt8) (c : UInt8) : ∀ n, digsN n (l ++ [c]) = 10 * digsN n l + ((c.toNat : Int) - 48) := by
  induction l with
  | nil => intro n; rfl
  | cons d l ih => intro n; exact ih _

theorem digsN_bd (l : List UInt8) (h : ∀ c, c ∈ l → isDig c = true) : ∀ (n : Int), 0 ≤ n → 0 ≤ digsN n l ∧ digsN n l < (n + 1) * 10 ^ l.length := by
  induction l with
  | nil => intro n hn; simp [digsN]; omega
  | cons c l ih =>
    intro n hn
    have hc := h c List.mem_cons_self
    unfold isDig at hc
    rw [Bool.and_eq_true, decide_eq_true_eq, decide_eq_true_eq] at hc
    obtain ⟨h1, h2⟩ := ih (fun d hd => h d (List.mem_cons_of_mem _ hd)) (10 * n + ((c.toNat : Int) - 48)) (by omega)
    refine ⟨h1, Int.lt_of_lt_of_le h2 ?_⟩
    rw [List.length_cons, Int.pow_succ]
    have h3 : 10 * n + ((c.toNat : Int) - 48) + 1 ≤ (n + 1) * 10 := by omega
    have h4 : (0 : Int) ≤ 10 ^ l.length := Int.le_of_lt (Int.pow_pos (by omega))
    have := Int.mul_le_mul_of_nonneg_right h3 h4
    rw [Int.mul_assoc, Int.mul_comm (10 : Int) (10 ^ l.length)] at this
    exact this

theorem digsN_nine {l : List UInt8} (h : ∀ c, c ∈ l → isDig c = true) (hl : l.length ≤ 9) : 0 ≤ digsN 0 l ∧ digsN 0 l ≤ 999999999 := by
  obtain ⟨h1, h2⟩ := digsN_bd l h 0 (by omega)
  have h3 : (10 : Int) ^ l.length ≤ 10 ^ 9 := by
    have := Nat.pow_le_pow_right (n := 10) (by omega) hl
    exact_mod_cast this
  have h4 : (10 : Int) ^ 9 = 1000000000 := by decide
  omega

theorem plainR_iff {s : List UInt8} : plainR s = true ↔ 1 ≤ s.length ∧ s.length ≤ 9 ∧ (s.length = 1 ∨ byAt s 0 ≠ 48) ∧ ∀ c, c ∈ s → isDig c = true := by
  unfold plainR
  rw [Bool.and_eq_true, Bool.and_eq_true, Bool.and_eq_true, Bool.or_eq_true, decide_eq_true_eq, decide_eq_true_eq, decide_eq_true_eq, decide_eq_true_eq, List.all_eq_true]
  cases s with
  | nil => simp
  | cons c l => simp [byAt]

theorem dig_bd : ∀ (s : List UInt8), -999999999 ≤ digI s ∧ digI s ≤ 999999999
  | [] => by unfold digI; omega
  | c :: s => by
    have ih := dig_bd s
    unfold digI
    split
    · omega
    · split
      · rename_i h
        obtain ⟨_, h2, _, h4⟩ := plainR_iff.1 h
        have := digsN_nine h4 h2
        omega
      · omega

theorem dig_plain {s : List UInt8} (h : ¬ (1 < s.length ∧ byAt s 0 = 45)) : digI s = (if plainR s = true then digsN 0 s else 0) ∧ digB' s = plainR s := by
  cases s with
  | nil => exact ⟨rfl, rfl⟩
  | cons c l =>
    have h2 : ¬ (c = 45 ∧ l ≠ []) := fun ⟨h3, h4⟩ => h ⟨by rw [List.length_cons]; have := List.length_pos_iff.2 h4; omega, h3⟩
    unfold digI digB'
    rw [if_neg h2, if_neg h2]; exact ⟨rfl, rfl⟩

theorem dig_minus {s : List UInt8} (h : 1 < s.length) (h0 : byAt s 0 = 45) : digI s = -(digI (s.drop 1)) ∧ digB' s = (digB' (s.drop 1) && decide (0 < digI (s.drop 1))) := by
  cases s with
  | nil => simp at h
  | cons c l =>
    have h2 : c = 45 ∧ l ≠ [] := ⟨h0, by intro e; rw [e] at h; simp at h⟩
    show digI (c :: l) = -(digI l) ∧ digB' (c :: l) = (digB' l && decide (0 < digI l))
    rw [digI, digB', if_pos h2, if_pos h2]; exact ⟨rfl, rfl⟩

theorem dig_step {s : List UInt8} {k : Nat} (hk : k < s.length) : s.take (k + 1) = s.take k ++ [byAt s k] := by rw [byAt_eq s k hk, List.take_succ_eq_append_getElem hk]

set_option maxHeartbeats 4000000 in
set_option maxRecDepth 100000 in
theorem digitsPlain (s : List UInt8) (hs : s.length ≤ 1048577) (hn : ¬ (1 < s.length ∧ byAt s 0 = 45)) (w : World) :
    Calls Tryd.prog 29 #[strV s] w (Same (.tuple #[.int .i64 (digI s), .bool (digB' s)]) w) := by
  obtain ⟨e1, e2⟩ := dig_plain hn
  rw [e1, e2]
  obtain ⟨Z, hZ⟩ : ∃ Z, (if plainR s = true then digsN 0 s else 0) = Z := ⟨_, rfl⟩
  rw [hZ]
  have HZ := Lib.hid hZ
  clear e1 e2 hZ
  have hb0 := byte_at s 0
  obtain ⟨c, hc⟩ : ∃ c, byAt s 0 = c := ⟨_, rfl⟩
  rw [hc] at hb0
  unfold strV
  by_cases hlen : 1 ≤ s.length ∧ s.length ≤ 9
  · have HIN : Hid (inR (s.length : Int) 1 9 = true) := by show _ = _; rw [inR_is]; omega
    by_cases h1 : 1 < s.length
    · have h1i : (1 : Int) < (s.length : Int) := by omega
      have h45 : c ≠ 45 := fun e => hn ⟨h1, hc.trans e⟩
      have hcb : (((c.toNat : Nat) : Int) == 45) = false := by
        rw [beq_eq_false_iff_ne]; intro e; apply h45
        apply UInt8.toNat_inj.1; have : (45 : UInt8).toNat = 45 := rfl
        omega
      by_cases h48 : c = 48
      · have hp : Hid (plainR s = false) := by
          rcases hx : plainR s with _ | _
          · rfl
          · obtain ⟨_, _, h3, _⟩ := plainR_iff.1 hx
            rcases h3 with h3 | h3
            · omega
            · exact absurd (hc.trans h48) h3
        have hcb2 : (((c.toNat : Nat) : Int) == 48) = true := by rw [h48]; rfl
        rw [← HZ.out, hp.out, if_neg (by decide)]
        clear h45 h48 hc hn hlen
        go_enter Tryd.func29, Tryd.ntmps29
        go_wp2_with fail
        refine (in_spec _ _ _ _).mono ?_
        rintro e w1 ⟨rfl, rfl⟩
        rw [HIN.out]
        go_wp2_with fail
        refine bodyPost_ret (v := .tuple #[.int .i64 0, .bool false]) (by simp [results, Tryd.results29, go_sem]) rfl ?_
        exact Same.of rfl
      · have hcb2 : (((c.toNat : Nat) : Int) == 48) = false := by
          rw [beq_eq_false_iff_ne]; intro e; apply h48
          apply UInt8.toNat_inj.1; have : (48 : UInt8).toNat = 48 := rfl
          omega
        have HP : Hid ((∀ x, x ∈ s → isDig x = true) ↔ plainR s = true) := by
          show _ ↔ _; rw [plainR_iff]
          exact ⟨fun h => ⟨hlen.1, hlen.2, .inr (by rw [hc]; exact h48), h⟩, fun h => h.2.2.2⟩
        have hl9 := hlen.2
        clear h45 h48 hc hn hlen
        go_enter Tryd.func29, Tryd.ntmps29
        go_wp2_with fail
        refine (in_spec _ _ _ _).mono ?_
        rintro e w1 ⟨rfl, rfl⟩
        rw [HIN.out]
        go_wp2_with fail
        have HD0 : Hid (∀ x, x ∈ s.take 0 → isDig x = true) := fun x hx => by simp at hx
        go_loop [6, 7] (fun nv iv => ∃ k : Nat, k ≤ s.length ∧ iv = .int .i64 (k : Nat) ∧ nv = .int .i64 (digsN 0 (s.take k)) ∧ Hid (∀ x, x ∈ s.take k → isDig x = true)) (fun _ iv => s.length - (intOf iv).toNat)
        case atStart => exact ⟨0, Nat.zero_le _, rfl, rfl, HD0⟩
        case round =>
          obtain ⟨k, hk, rfl, rfl, HD⟩ := hrel
          by_cases hlt : k < s.length
          · have hby := byte_at s k
            obtain ⟨b, hbk⟩ : ∃ b, byAt s k = b := ⟨_, rfl⟩
            rw [hbk] at hby
            have hst := dig_step hlt
            rw [hbk] at hst
            have hmem : b ∈ s := by rw [← hbk, byAt_eq s k hlt]; exact List.getElem_mem hlt
            have hnb := digsN_nine HD.out (by simp; omega)
            have hw1 : IntKind.i64.wrap ((k : Int) + 1) = (k : Int) + 1 := IntWalk.i64_in _ ⟨by omega, by omega⟩
            obtain ⟨z, hz⟩ : ∃ z, digsN 0 (s.take k) = z := ⟨_, rfl⟩
            have hnx : digsN 0 (s.take (k + 1)) = 10 * z + ((b.toNat : Int) - 48) := by rw [hst, digsN_snoc, hz]
            rw [hz] at hnb ⊢
            by_cases hlo : (b.toNat : Int) < 48
            · have hp : Hid (plainR s = false) := by
                rcases hx : plainR s with _ | _
                · rfl
                · have := HP.out.2 hx b hmem; unfold isDig at this; rw [Bool.and_eq_true, decide_eq_true_eq] at this; omega
              rw [← HZ.out, hp.out, if_neg (by decide)]
              clear hst hmem hnx hbk
              go_wp2_with fail
              refine bodyPost_ret (v := .tuple #[.int .i64 0, .bool false]) (by simp [results, Tryd.results29, go_sem]) rfl ?_
              exact Same.of rfl
            · by_cases hhi : 57 < (b.toNat : Int)
              · have hp : Hid (plainR s = false) := by
                  rcases hx : plainR s with _ | _
                  · rfl
                  · have := HP.out.2 hx b hmem; unfold isDig at this; rw [Bool.and_eq_true, decide_eq_true_eq, decide_eq_true_eq] at this; omega
                rw [← HZ.out, hp.out, if_neg (by decide)]
                clear hst hmem hnx hbk
                go_wp2_with fail
                refine bodyPost_ret (v := .tuple #[.int .i64 0, .bool false]) (by simp [results, Tryd.results29, go_sem]) rfl ?_
                exact Same.of rfl
              · have HD2 : Hid (∀ x, x ∈ s.take (k + 1) → isDig x = true) := fun x hx => by
                  rw [hst] at hx
                  rcases List.mem_append.1 hx with h | h
                  · exact HD.out x h
                  · rw [List.mem_singleton.1 h]; unfold isDig; rw [Bool.and_eq_true, decide_eq_true_eq, decide_eq_true_eq]; omega
                have HNX := Lib.hid hnx
                have hu1 : IntKind.u8.wrap ((b.toNat : Int) - 48) = (b.toNat : Int) - 48 := by simp [IntKind.wrap, IntKind.bits, IntKind.signed]; omega
                have hu2 : IntKind.i64.wrap ((b.toNat : Int) - 48) = (b.toNat : Int) - 48 := IntWalk.i64_in _ ⟨by omega, by omega⟩
                have hu3 : IntKind.i64.wrap (10 * z) = 10 * z := IntWalk.i64_in _ ⟨by omega, by omega⟩
                have hu4 : IntKind.i64.wrap (10 * z + ((b.toNat : Int) - 48)) = 10 * z + ((b.toNat : Int) - 48) := IntWalk.i64_in _ ⟨by omega, by omega⟩
                clear hst hmem hnx hbk hz
                go_wp2_with fail
                go_round
                case rel => exact ⟨k + 1, hlt, by go_num, by rw [HNX.out], HD2⟩
                case measure => simp [intOf]; omega
          · have hks : k = s.length := by omega
            have HE : Hid (s.take k = s) := by show _ = _; rw [hks]; exact List.take_of_length_le (Nat.le_refl _)
            have HPL : Hid (plainR s = true) := HP.out.1 (fun x hx => HD.out x (by rw [HE.out]; exact hx))
            rw [HE.out]
            clear hks
            go_wp2_with fail
            refine bodyPost_ret (v := .tuple #[.int .i64 (digsN 0 s), .bool true]) (by simp [results, Tryd.results29, go_sem]) rfl ?_
            exact Same.of (by rw [← HZ.out, HPL.out, if_pos rfl])
    · have h1i : ¬ (1 : Int) < (s.length : Int) := by omega
      have HP : Hid ((∀ x, x ∈ s → isDig x = true) ↔ plainR s = true) := by
        show _ ↔ _; rw [plainR_iff]
        exact ⟨fun h => ⟨hlen.1, hlen.2, .inl (by omega), h⟩, fun h => h.2.2.2⟩
      have hl9 := hlen.2
      clear hc hn hlen
      go_enter Tryd.func29, Tryd.ntmps29
      go_wp2_with fail
      refine (in_spec _ _ _ _).mono ?_
      rintro e w1 ⟨rfl, rfl⟩
      rw [HIN.out]
      go_wp2_with fail
      have HD0 : Hid (∀ x, x ∈ s.take 0 → isDig x = true) := fun x hx => by simp at hx
      go_loop [6, 7] (fun nv iv => ∃ k : Nat, k ≤ s.length ∧ iv = .int .i64 (k : Nat) ∧ nv = .int .i64 (digsN 0 (s.take k)) ∧ Hid (∀ x, x ∈ s.take k → isDig x = true)) (fun _ iv => s.length - (intOf iv).toNat)
      case atStart => exact ⟨0, Nat.zero_le _, rfl, rfl, HD0⟩
      case round =>
        obtain ⟨k, hk, rfl, rfl, HD⟩ := hrel
        by_cases hlt : k < s.length
        · have hby := byte_at s k
          obtain ⟨b, hbk⟩ : ∃ b, byAt s k = b := ⟨_, rfl⟩
          rw [hbk] at hby
          have hst := dig_step hlt
          rw [hbk] at hst
          have hmem : b ∈ s := by rw [← hbk, byAt_eq s k hlt]; exact List.getElem_mem hlt
          have hnb := digsN_nine HD.out (by simp; omega)
          have hw1 : IntKind.i64.wrap ((k : Int) + 1) = (k : Int) + 1 := IntWalk.i64_in _ ⟨by omega, by omega⟩
          obtain ⟨z, hz⟩ : ∃ z, digsN 0 (s.take k) = z := ⟨_, rfl⟩
          have hnx : digsN 0 (s.take (k + 1)) = 10 * z + ((b.toNat : Int) - 48) := by rw [hst, digsN_snoc, hz]
          rw [hz] at hnb ⊢
          by_cases hlo : (b.toNat : Int) < 48
          · have hp : Hid (plainR s = false) := by
              rcases hx : plainR s with _ | _
              · rfl
              · have := HP.out.2 hx b hmem; unfold isDig at this; rw [Bool.and_eq_true, decide_eq_true_eq] at this; omega
            rw [← HZ.out, hp.out, if_neg (by decide)]
            clear hst hmem hnx hbk
            go_wp2_with fail
            refine bodyPost_ret (v := .tuple #[.int .i64 0, .bool false]) (by simp [results, Tryd.results29, go_sem]) rfl ?_
            exact Same.of rfl
          · by_cases hhi : 57 < (b.toNat : Int)
            · have hp : Hid (plainR s = false) := by
                rcases hx : plainR s with _ | _
                · rfl
                · have := HP.out.2 hx b hmem; unfold isDig at this; rw [Bool.and_eq_true, decide_eq_true_eq, decide_eq_true_eq] at this; omega
              rw [← HZ.out, hp.out, if_neg (by decide)]
              clear hst hmem hnx hbk
              go_wp2_with fail
              refine bodyPost_ret (v := .tuple #[.int .i64 0, .bool false]) (by simp [results, Tryd.results29, go_sem]) rfl ?_
              exact Same.of rfl
            · have HD2 : Hid (∀ x, x ∈ s.take (k + 1) → isDig x = true) := fun x hx => by
                rw [hst] at hx
                rcases List.mem_append.1 hx with h | h
                · exact HD.out x h
                · rw [List.mem_singleton.1 h]; unfold isDig; rw [Bool.and_eq_true, decide_eq_true_eq, decide_eq_true_eq]; omega
              have HNX := Lib.hid hnx
              have hu1 : IntKind.u8.wrap ((b.toNat : Int) - 48) = (b.toNat : Int) - 48 := by simp [IntKind.wrap, IntKind.bits, IntKind.signed]; omega
              have hu2 : IntKind.i64.wrap ((b.toNat : Int) - 48) = (b.toNat : Int) - 48 := IntWalk.i64_in _ ⟨by omega, by omega⟩
              have hu3 : IntKind.i64.wrap (10 * z) = 10 * z := IntWalk.i64_in _ ⟨by omega, by omega⟩
              have hu4 : IntKind.i64.wrap (10 * z + ((b.toNat : Int) - 48)) = 10 * z + ((b.toNat : Int) - 48) := IntWalk.i64_in _ ⟨by omega, by omega⟩
              clear hst hmem hnx hbk hz
              go_wp2_with fail
              go_round
              case rel => exact ⟨k + 1, hlt, by go_num, by rw [HNX.out], HD2⟩
              case measure => simp [intOf]; omega
        · have hks : k = s.length := by omega
          have HE : Hid (s.take k = s) := by show _ = _; rw [hks]; exact List.take_of_length_le (Nat.le_refl _)
          have HPL : Hid (plainR s = true) := HP.out.1 (fun x hx => HD.out x (by rw [HE.out]; exact hx))
          rw [HE.out]
          clear hks
          go_wp2_with fail
          refine bodyPost_ret (v := .tuple #[.int .i64 (digsN 0 s), .bool true]) (by simp [results, Tryd.results29, go_sem]) rfl ?_
          exact Same.of (by rw [← HZ.out, HPL.out, if_pos rfl])
  · have HIN : Hid (inR (s.length : Int) 1 9 = false) := by
      rcases hx : inR (s.length : Int) 1 9 with _ | _
      · rfl
      · have := inR_is.1 hx; omega
    have hp : Hid (plainR s = false) := by
      rcases hx : plainR s with _ | _
      · rfl
      · obtain ⟨h3, h4, _⟩ := plainR_iff.1 hx; omega
    rw [← HZ.out, hp.out, if_neg (by decide)]
    by_cases h1 : 1 < s.length
    · have h1i : (1 : Int) < (s.length : Int) := by omega
      have h45 : c ≠ 45 := fun e => hn ⟨h1, hc.trans e⟩
      have hcb : (((c.toNat : Nat) : Int) == 45) = false := by
        rw [beq_eq_false_iff_ne]; intro e; apply h45
        apply UInt8.toNat_inj.1; have : (45 : UInt8).toNat = 45 := rfl
        omega
      clear h45 hc hn hlen
      go_enter Tryd.func29, Tryd.ntmps29
      go_wp2_with fail
      refine (in_spec _ _ _ _).mono ?_
      rintro e w1 ⟨rfl, rfl⟩
      rw [HIN.out]
      go_wp2_with fail
      refine bodyPost_ret (v := .tuple #[.int .i64 0, .bool false]) (by simp [results, Tryd.results29, go_sem]) rfl ?_
      exact Same.of rfl
    · have h1i : ¬ (1 : Int) < (s.length : Int) := by omega
      clear hc hn hlen
      go_enter Tryd.func29, Tryd.ntmps29
      go_wp2_with fail
      refine (in_spec _ _ _ _).mono ?_
      rintro e w1 ⟨rfl, rfl⟩
      rw [HIN.out]
      go_wp2_with fail
      refine bodyPost_ret (v := .tuple #[.int .i64 0, .bool false]) (by simp [results, Tryd.results29, go_sem]) rfl ?_
      exact Same.of rfl

set_option maxHeartbeats 2000000 in
set_option maxRecDepth 100000 in
theorem digits_spec (m : Nat) : ∀ (s : List UInt8), s.length ≤ m → s.length ≤ 1048577 → ∀ (w : World),
    Calls Tryd.prog 29 #[strV s] w (Same (.tuple #[.int .i64 (digI s), .bool (digB' s)]) w) := by
  induction m with
  | zero => exact fun s hm hs w => digitsPlain s hs (by omega) w
  | succ m ih =>
    intro s hm hs w
    by_cases hn : 1 < s.length ∧ byAt s 0 = 45
    · obtain ⟨h1, hc⟩ := hn
      have hb0 := byte_at s 0
      rw [hc] at hb0
      have h1i : (1 : Int) < (s.length : Int) := by omega
      obtain ⟨e1, e2⟩ := dig_minus h1 hc
      rw [e1, e2]
      have hx : (⟨s.toArray⟩ : ByteArray).extract 1 s.length = ⟨(s.drop 1).toArray⟩ := rest_at s 1
      obtain ⟨t, ht⟩ : ∃ t, s.drop 1 = t := ⟨_, rfl⟩
      have hI := ih t (by rw [← ht]; simp; omega) (by rw [← ht]; simp; omega) w
      have hbd := dig_bd t
      rw [ht] at hx ⊢
      unfold strV at hI ⊢
      have HI := Lib.hid hI
      obtain ⟨z, hz⟩ : ∃ z, digI t = z := ⟨_, rfl⟩
      rw [hz] at HI hbd ⊢
      have hw1 : IntKind.i64.wrap (-z) = -z := IntWalk.i64_in _ ⟨by omega, by omega⟩
      rcases hbt : digB' t with _ | _
      · rw [hbt] at HI
        clear hI ih hc e1 e2 ht hz hm hbt
        go_enter Tryd.func29, Tryd.ntmps29
        go_wp2_with fail
        refine HI.out.mono ?_
        rintro e w1 ⟨rfl, rfl⟩
        go_wp2_with fail
        refine bodyPost_ret (v := .tuple #[.int .i64 (-z), .bool false]) (by simp [results, Tryd.results29, go_sem]) rfl ?_
        exact Same.of rfl
      · rw [hbt] at HI
        clear hI ih hc e1 e2 ht hz hm hbt
        go_enter Tryd.func29, Tryd.ntmps29
        go_wp2_with fail
        refine HI.out.mono ?_
        rintro e w1 ⟨rfl, rfl⟩
        go_wp2_with fail
        refine bodyPost_ret (v := .tuple #[.int .i64 (-z), .bool (decide (0 < z))]) (by simp [results, Tryd.results29, go_sem]) rfl ?_
        exact Same.of rfl
    · exact digitsPlain s hs hn w

end Go.Proofs.YtlmaeadbomnhlabDoor

namespace Go.Proofs.YtlmaeadbomnhlabDoor
set_option linter.unusedSimpArgs false
set_option linter.unusedVariables false
open Go.RowKit

theorem OwnS.at_ {w : World} {lo hi : Nat} {A : Option Addr} {L : List (List UInt8)} (h : OwnS w lo hi A L) (h0 : 0 < L.length) : ∃ b, A = some ⟨b, 0, none⟩ ∧ b < hi ∧ ∀ i, i < L.length → w.cell? ⟨b, i, none⟩ = some (strV (strAt L i)) := by
  obtain ⟨b, off, e, ⟨_, h2⟩, h3⟩ := h.strs h0
  obtain ⟨b', N, f, e', _⟩ := h h0
  rw [e'] at e
  injection e with e; injection e with e1 e2
  subst e1 e2
  exact ⟨b', e', h2, fun i hi => by have := h3 i hi; rwa [Nat.zero_add] at this⟩

theorem ddVals_one (a : Dd) : ∀ u ∈ [Value.int .i64 a.kind, .int .i64 a.row, .int .i64 a.col, .int .i64 a.num], u.oneCell' = true := by
  intro u hu; simp at hu; rcases hu with rfl | rfl | rfl | rfl <;> rfl

/-- the first three deeds that a text may be that of -/
def cand0 : List Dd := [ddTurn, ddSmall, ddBack]

theorem GrowsD.cand (w : World) {base : Nat} (hb : base ≤ w.heap.size) :
    GrowsD (w.alloc (.cells #[.int .i64 1, .int .i64 0, .int .i64 0, .int .i64 0, .int .i64 3, .int .i64 0, .int .i64 0, .int .i64 0, .int .i64 4, .int .i64 0, .int .i64 0, .int .i64 0] 25)) base (.slice (some ⟨w.heap.size, 0, none⟩) 3 3) cand0 :=
  World.ownsRow_lit w #[.int .i64 1, .int .i64 0, .int .i64 0, .int .i64 0, .int .i64 3, .int .i64 0, .int .i64 0, .int .i64 0, .int .i64 4, .int .i64 0, .int .i64 0, .int .i64 0] 3 hb (by unfold maxLen; omega) rfl

/-- the list stands, its cells are told -/
theorem GrowsD.cells {w : World} {base : Nat} {v : Value} {l : List Dd} (h : GrowsD w base v l) (h0 : 0 < l.length) : ∃ b cap, v = .slice (some ⟨b, 0, none⟩) l.length cap ∧ base ≤ b ∧ b < w.heap.size ∧
    ∀ w' : World, w'.heap[b]? = w.heap[b]? → ∀ i, i < l.length → w'.cell? ⟨b, i * 4, none⟩ = some (.int .i64 (ddAt l i).kind) ∧ w'.cell? ⟨b, i * 4 + 1, none⟩ = some (.int .i64 (ddAt l i).row) ∧ w'.cell? ⟨b, i * 4 + 2, none⟩ = some (.int .i64 (ddAt l i).col) ∧ w'.cell? ⟨b, i * 4 + 3, none⟩ = some (.int .i64 (ddAt l i).num) := by
  have h' := h
  obtain ⟨h1, ⟨rfl, h2⟩ | ⟨b, cap, cur, rfl, h3, h4, h5⟩⟩ := h'
  · omega
  · refine ⟨b, cap, rfl, h3, (Array.getElem?_eq_some_iff.1 h4).1, fun w' hw i hi => ?_⟩
    obtain ⟨e0, e1, e2, e3⟩ := ddVals_at l i hi
    have hh : ∀ j, j < l.length * 4 → w'.cell? ⟨b, j, none⟩ = (ddVals l)[j]? := fun j hj => by
      rw [World.cell?_of_block (w := w) (a := ⟨b, j, none⟩) hw]; exact World.ownsRow.cellAt h j hj
    exact ⟨(hh _ (by omega)).trans e0, (hh _ (by omega)).trans e1, (hh _ (by omega)).trans e2, (hh _ (by omega)).trans e3⟩

theorem find_drop {s : List UInt8} {l : List Dd} {k : Nat} (hk : k < l.length) : findD s (l.drop k) = if s ≠ [] ∧ deedT (ddAt l k) = s then some (ddAt l k) else findD s (l.drop (k + 1)) := by
  rw [List.drop_eq_getElem_cons hk, findD, ← ddAt_eq l k hk]

set_option maxHeartbeats 8000000 in
set_option maxRecDepth 100000 in
theorem readDeed_spec (s : List UInt8) (hs : s.length ≤ 1048577) (w : World) :
    Calls Tryd.prog 10 #[strV s] w (Adds (.tuple #[ddV (readD s), .bool (readB s)]) w) := by
  obtain ⟨i0, hi0, hz0, hz1, hz2⟩ := infoDd
  have HI0 := Lib.hid hi0
  have HZ0 := Lib.hid hz0
  have HZ1 := Lib.hid hz1
  have HZ2 := Lib.hid hz2
  obtain ⟨W, hW⟩ : ∃ W : World, W = w.alloc (.cells #[.int .i64 0, .int .i64 0, .int .i64 0, .int .i64 0] 25) := ⟨_, rfl⟩
  have hzW : W.heap.size = w.heap.size + 1 := by rw [hW]; simp
  have hbW : Below w.heap.size w W := by rw [hW]; exact (Below.refl _ _).alloc (Nat.le_refl _) _
  have hrow : W.rowIs w.heap.size 25 4 (fun _ => .int .i64 0) := by
    rw [hW]; exact World.rowIs_alloc _ #[.int .i64 0, .int .i64 0, .int .i64 0, .int .i64 0] _ _ (fun i hi => by have : i = 0 ∨ i = 1 ∨ i = 2 ∨ i = 3 := (by simp at hi; omega); rcases this with rfl | rfl | rfl | rfl <;> rfl)
  have HCUT := Lib.hid (cut_spec s hs)
  have HDIG := Lib.hid (fun (t : List UInt8) (ht : t.length ≤ 1048577) w => digits_spec t.length t (Nat.le_refl _) ht w)
  have HLEN : Hid (∀ i, i < (sepT 32 s).length → (strAt (sepT 32 s) i).length ≤ 1048577) := fun i hi => Nat.le_trans (sep_len s i hi) hs
  have HW := Lib.hid hW.symm
  have HBW := Lib.hid hbW
  have HZW := Lib.hid hzW
  have HROW := Lib.hid hrow
  have HRO : Hid (readO s = findD s (cand0 ++ (if (sepT 32 s).length = 4 then [⟨0, digI ((sepT 32 s).getD 1 []), digI ((sepT 32 s).getD 2 []), digI ((sepT 32 s).getD 3 [])⟩] else []) ++ (if (sepT 32 s).length = 2 then [⟨2, 0, 0, digI ((sepT 32 s).getD 1 [])⟩] else []))) := rfl
  obtain ⟨L, hL⟩ : ∃ L, sepT 32 s = L := ⟨_, rfl⟩
  rw [hL] at HCUT HLEN HRO
  clear hi0 hz0 hz1 hz2 hL hW hrow hbW hzW hs
  unfold strV
  obtain ⟨dr, hdr⟩ : ∃ d, readD s = d := ⟨_, rfl⟩
  obtain ⟨br, hbr⟩ : ∃ d, readB s = d := ⟨_, rfl⟩
  have HRD : Hid (readD s = dr ∧ readB s = br) := ⟨hdr, hbr⟩
  rw [hdr, hbr]
  clear hdr hbr
  go_enter Tryd.func10, Tryd.ntmps10
  go_wp2_with fail
  rw [HW.out]
  refine (HCUT.out _).mono ?_
  rintro e w1 ⟨A, c, rfl, hb1, ho1⟩
  have HB1 := Lib.hid hb1
  have HO1 := Lib.hid ho1
  have HK1 := Lib.hid (belT HBW.out hb1)
  have hs1 := hb1.size
  clear hb1 ho1
  have hGC : Hid (GrowsD (w1.alloc (.cells #[.int .i64 1, .int .i64 0, .int .i64 0, .int .i64 0, .int .i64 3, .int .i64 0, .int .i64 0, .int .i64 0, .int .i64 4, .int .i64 0, .int .i64 0, .int .i64 0] 25)) W.heap.size (.slice (some ⟨w1.heap.size, 0, none⟩) 3 3) cand0) := GrowsD.cand w1 hs1
  by_cases h4 : L.length = 4
  · have hRO : Hid (readO s = findD s (cand0 ++ [⟨0, digI (strAt L 1), digI (strAt L 2), digI (strAt L 3)⟩])) := by show _ = _; rw [HRO.out, if_pos h4, if_neg (by omega)]; simp [strAt]
    obtain ⟨bl, rfl, hbl, hcl⟩ := HO1.out.at_ (by omega)
    have q1 := hcl 1 (by omega)
    have q2 := hcl 2 (by omega)
    have q3 := hcl 3 (by omega)
    unfold strV at q1 q2 q3
    have D1 := Lib.hid (HDIG.out (strAt L 1) (HLEN.out 1 (by omega)))
    have D2 := Lib.hid (HDIG.out (strAt L 2) (HLEN.out 2 (by omega)))
    have D3 := Lib.hid (HDIG.out (strAt L 3) (HLEN.out 3 (by omega)))
    unfold strV at D1 D2 D3
    obtain ⟨t1, ht1⟩ : ∃ t, strAt L 1 = t := ⟨_, rfl⟩
    obtain ⟨t2, ht2⟩ : ∃ t, strAt L 2 = t := ⟨_, rfl⟩
    obtain ⟨t3, ht3⟩ : ∃ t, strAt L 3 = t := ⟨_, rfl⟩
    rw [ht1] at q1 D1 hRO
    rw [ht2] at q2 D2 hRO
    rw [ht3] at q3 D3 hRO
    clear ht1 ht2 ht3 hcl HRO
    go_wp2_with (first | (go_at_call_of 29 (Value.string ⟨t1.toArray⟩); refine (D1.out _).mono ?_; rintro e w2 ⟨rfl, rfl⟩) | (go_at_call_of 29 (Value.string ⟨t2.toArray⟩); refine (D2.out _).mono ?_; rintro e w2 ⟨rfl, rfl⟩) | (go_at_call_of 29 (Value.string ⟨t3.toArray⟩); refine (D3.out _).mono ?_; rintro e w2 ⟨rfl, rfl⟩) | (at_builtin; refine wpList_append_own_at _ rfl (.tmp 45) (.tmp 50) _ rfl W.heap.size 25 i0 (.agg #[.int .i64 0, .int .i64 0, .int .i64 0, .int .i64 0]) 4 32 Tryd.underlying35 HI0.out HZ0.out HZ1.out HZ2.out rfl (by decide) _ _ _ rfl (hGC.out.alloc _) ⟨w1.heap.size + 1, 0, none⟩ 1 1 [.int .i64 0, .int .i64 (digI t1), .int .i64 (digI t2), .int .i64 (digI t3)] rfl rfl ?c1 ?c2 ?c3 ?c4 ?c5 ?_))
    case c1 =>
      have hnew := heap_alloc_new (w1.alloc (.cells #[.int .i64 1, .int .i64 0, .int .i64 0, .int .i64 0, .int .i64 3, .int .i64 0, .int .i64 0, .int .i64 0, .int .i64 4, .int .i64 0, .int .i64 0, .int .i64 0] 25)) (.cells #[.int .i64 0, .int .i64 (digI t1), .int .i64 (digI t2), .int .i64 (digI t3)] 25)
      rw [World.size_alloc] at hnew
      exact World.news_of_block (cs := #[.int .i64 0, .int .i64 (digI t1), .int .i64 (digI t2), .int .i64 (digI t3)]) hnew
    case c2 => exact ddVals_one ⟨0, digI t1, digI t2, digI t3⟩
    case c3 => show 3 + 1 ≤ maxLen; unfold maxLen; omega
    case c4 => show (3 + 1) * 32 ≤ 140737488355328; omega
    case c5 => simp; omega
    intro v' w4 hown hgrow _ _
    obtain ⟨l, hl⟩ : ∃ l, cand0 ++ [⟨0, digI t1, digI t2, digI t3⟩] = l := ⟨_, rfl⟩
    have HN : Hid (GrowsD w4 W.heap.size v' l) := by rw [← hl]; exact GrowsD.snoc hown
    have HB4 : Hid (Below W.heap.size W w4) := ((HB1.out.alloc HB1.out.size _).alloc (by have := HB1.out.size; simp; omega) _).grown hgrow (by have := HB1.out.size; simp; omega) (fun k hk => (World.ownsRow.lt hGC.out k hk).1)
    have HK4 : Hid (Below w.heap.size w w4) := belT HBW.out HB4.out
    have hll : l.length = 4 := by rw [← hl]; rfl
    rw [hl] at hRO
    clear hown hgrow hl q1 q2 q3
    have hll2 : l.length ≤ 4 := Nat.le_of_eq hll
    have hll3 : 0 < l.length := by omega
    clear hll
    obtain ⟨bd, cap, rfl, hlo, hbd, hcells⟩ := HN.out.cells hll3
    have HCL := Lib.hid hcells
    have HROw4 : Hid (w4.rowIs w.heap.size 25 4 (fun _ => .int .i64 0)) := HROW.out.of_block ((HB4.out).block _ (by have := HZW.out; omega))
    have hWX : w.heap.size < w4.heap.size := by have := HROw4.out.lt; exact this
    clear hcells hGC HN
    go_wp2_with fail
    go_loopw [14] (fun iv wr => ∃ k : Nat, k ≤ l.length ∧ iv = .int .i64 (k : Nat) ∧ Hid (readO s = findD s (l.drop k)) ∧ Hid (Below w4.heap.size w4 wr)) (fun iv _ => l.length - (intOf iv).toNat)
    case atStart => exact ⟨0, Nat.zero_le _, rfl, hRO, Below.refl _ _⟩
    case round =>
      clear hRO
      obtain ⟨k, hk, rfl, HRK, HV⟩ := hrel
      have hrw := HROw4.out.of_block (HV.out.block _ hWX)
      have x0 := hrw.cell (i := 0) (by omega)
      have x1 := hrw.cell (i := 1) (by omega)
      have x2 := hrw.cell (i := 2) (by omega)
      have x3 := hrw.cell (i := 3) (by omega)
      have y0 := hrw.frozen 0
      have y1 := hrw.frozen 1
      have y2 := hrw.frozen 2
      have y3 := hrw.frozen 3
      clear hrw
      by_cases hlt : k < l.length
      · obtain ⟨c0, c1, c2, c3⟩ := HCL.out wr (HV.out.block _ hbd) k hlt
        have hfd := find_drop (s := s) hlt
        have hDT := deedText_spec (ddAt l k) wr
        obtain ⟨⟨kd, rr, cc, nn⟩, ha⟩ : ∃ a, ddAt l k = a := ⟨_, rfl⟩
        rw [ha] at c0 c1 c2 c3 hDT hfd
        unfold ddV strV at hDT
        simp only at c0 c1 c2 c3 hDT
        have HDT := Lib.hid hDT
        have hki : (k : Int) < (l.length : Int) := by omega
        have hw1 : IntKind.i64.wrap ((k : Int) + 1) = (k : Int) + 1 := IntWalk.i64_in _ ⟨by omega, by omega⟩
        clear hDT ha
        by_cases hs0 : s = []
        · rw [if_neg (fun h => h.1 hs0)] at hfd
          have HNX : Hid (readO s = findD s (l.drop (k + 1))) := HRK.out.trans hfd
          clear hfd
          subst hs0
          go_wp2_with fail
          exact ⟨⟨k + 1, hlt, by first | rfl | simp, HNX, HV⟩, by simp [intOf]; omega⟩
        · have hse : s.isEmpty = false := by cases s; exact absurd rfl hs0; rfl
          obtain ⟨T, hT⟩ : ∃ T, deedT ⟨kd, rr, cc, nn⟩ = T := ⟨_, rfl⟩
          rw [hT] at HDT hfd
          have HAF : Hid (∀ w5, Below wr.heap.size wr w5 → (w5.cell? ⟨bd, k * 4, none⟩ = some (.int .i64 kd) ∧ w5.cell? ⟨bd, k * 4 + 1, none⟩ = some (.int .i64 rr) ∧ w5.cell? ⟨bd, k * 4 + 2, none⟩ = some (.int .i64 cc) ∧ w5.cell? ⟨bd, k * 4 + 3, none⟩ = some (.int .i64 nn)) ∧ w5.rowIs w.heap.size 25 4 (fun _ => .int .i64 0) ∧ Below w4.heap.size w4 w5) := fun w5 hb5 => by
            have hv5 := HV.out.trans (hb5.mono HV.out.size)
            have hbw : bd < wr.heap.size := Nat.lt_of_lt_of_le hbd HV.out.size
            have hh : ∀ j, w5.cell? ⟨bd, j, none⟩ = wr.cell? ⟨bd, j, none⟩ := fun j => hb5.cell (p := ⟨bd, j, none⟩) hbw
            exact ⟨⟨(hh _).trans c0, (hh _).trans c1, (hh _).trans c2, (hh _).trans c3⟩, HROw4.out.of_block (hv5.block _ hWX), hv5⟩
          by_cases hts : T = s
          · have hbt : (T == s) = true := by rw [hts]; simp
            rw [if_pos ⟨hs0, hts⟩] at hfd
            have HAN : Hid (dr = ⟨kd, rr, cc, nn⟩ ∧ br = true) := by
              have e : readO s = some ⟨kd, rr, cc, nn⟩ := HRK.out.trans hfd
              refine ⟨?_, ?_⟩
              · rw [← HRD.out.1]; unfold readD; rw [e]; rfl
              · rw [← HRD.out.2]; unfold readB; rw [e]; rfl
            rw [HAN.out.1, HAN.out.2]
            clear hfd hts hT hs0
            go_wp2_with (go_at_call 7; refine HDT.out.mono ?_; rintro e w5 ⟨rfl, hb5⟩; obtain ⟨⟨m0, m1, m2, m3⟩, hr5, hv5⟩ := HAF.out w5 hb5; have z0 := hr5.cell (i := 0) (by omega); have z1 := hr5.cell (i := 1) (by omega); have z2 := hr5.cell (i := 2) (by omega); have z3 := hr5.cell (i := 3) (by omega); have v0 := hr5.frozen 0; have v1 := hr5.frozen 1; have v2 := hr5.frozen 2; have v3 := hr5.frozen 3; have HV5 := Lib.hid hv5; clear hr5 hv5 hb5)
            refine bodyPost_ret (v := .tuple #[.agg #[.int .i64 kd, .int .i64 rr, .int .i64 cc, .int .i64 nn], .bool true]) (by simp [results, Tryd.results10, go_sem, z0, z1, z2, z3]) rfl ⟨rfl, ?_⟩
            have hfin := HK4.out.trans (HV5.out.mono HK4.out.size)
            exact (((hfin.setCell (p := ⟨w.heap.size, 0, none⟩) (Nat.le_refl _) _).setCell (p := ⟨w.heap.size, 1, none⟩) (Nat.le_refl _) _).setCell (p := ⟨w.heap.size, 2, none⟩) (Nat.le_refl _) _).setCell (p := ⟨w.heap.size, 3, none⟩) (Nat.le_refl _) _
          · have hbt : (T == s) = false := by simp [hts]
            rw [if_neg (fun h => hts h.2)] at hfd
            have HNX : Hid (readO s = findD s (l.drop (k + 1))) := HRK.out.trans hfd
            clear hfd hts hT hs0
            go_wp2_with (go_at_call 7; refine HDT.out.mono ?_; rintro e w5 ⟨rfl, hb5⟩; have HV5 := Lib.hid (HAF.out w5 hb5).2.2; clear hb5)
            exact ⟨⟨k + 1, hlt, by first | rfl | simp, HNX, HV5.out⟩, by simp [intOf]; omega⟩
      · have hkl : k = l.length := by omega
        have HAN : Hid (dr = ⟨0, 0, 0, 0⟩ ∧ br = false) := by
          have e : readO s = none := by rw [HRK.out, hkl, List.drop_length]; rfl
          refine ⟨?_, ?_⟩
          · rw [← HRD.out.1]; unfold readD; rw [e]; rfl
          · rw [← HRD.out.2]; unfold readB; rw [e]; rfl
        have hnl : ¬ (k : Int) < (l.length : Int) := by omega
        clear hkl
        go_wp2_with fail
        refine bodyPost_ret (v := .tuple #[.agg #[.int .i64 0, .int .i64 0, .int .i64 0, .int .i64 0], .bool false]) (by simp [results, Tryd.results10, go_sem, x0, x1, x2, x3]) rfl ⟨by rw [HAN.out.1, HAN.out.2]; rfl, ?_⟩
        have hfin := HK4.out.trans (HV.out.mono HK4.out.size)
        exact (((hfin.setCell (p := ⟨w.heap.size, 0, none⟩) (Nat.le_refl _) _).setCell (p := ⟨w.heap.size, 1, none⟩) (Nat.le_refl _) _).setCell (p := ⟨w.heap.size, 2, none⟩) (Nat.le_refl _) _).setCell (p := ⟨w.heap.size, 3, none⟩) (Nat.le_refl _) _
  · by_cases h2 : L.length = 2
    · have hRO : Hid (readO s = findD s (cand0 ++ [⟨2, 0, 0, digI (strAt L 1)⟩])) := by show _ = _; rw [HRO.out, if_neg h4, if_pos h2]; simp [strAt]
      obtain ⟨bl, rfl, hbl, hcl⟩ := HO1.out.at_ (by omega)
      have q1 := hcl 1 (by omega)
      unfold strV at q1
      have D1 := Lib.hid (HDIG.out (strAt L 1) (HLEN.out 1 (by omega)))
      unfold strV at D1
      obtain ⟨t1, ht1⟩ : ∃ t, strAt L 1 = t := ⟨_, rfl⟩
      rw [ht1] at q1 D1 hRO
      clear ht1 hcl HRO
      go_wp2_with (first | (go_at_call_of 29 (Value.string ⟨t1.toArray⟩); refine (D1.out _).mono ?_; rintro e w2 ⟨rfl, rfl⟩) | (at_builtin; refine wpList_append_own_at _ rfl (.tmp 62) (.tmp 65) _ rfl W.heap.size 25 i0 (.agg #[.int .i64 0, .int .i64 0, .int .i64 0, .int .i64 0]) 4 32 Tryd.underlying35 HI0.out HZ0.out HZ1.out HZ2.out rfl (by decide) _ _ _ rfl (hGC.out.alloc _) ⟨w1.heap.size + 1, 0, none⟩ 1 1 [.int .i64 2, .int .i64 0, .int .i64 0, .int .i64 (digI t1)] rfl rfl ?d1 ?d2 ?d3 ?d4 ?d5 ?_))
      case d1 =>
        have hnew := heap_alloc_new (w1.alloc (.cells #[.int .i64 1, .int .i64 0, .int .i64 0, .int .i64 0, .int .i64 3, .int .i64 0, .int .i64 0, .int .i64 0, .int .i64 4, .int .i64 0, .int .i64 0, .int .i64 0] 25)) (.cells #[.int .i64 2, .int .i64 0, .int .i64 0, .int .i64 (digI t1)] 25)
        rw [World.size_alloc] at hnew
        exact World.news_of_block (cs := #[.int .i64 2, .int .i64 0, .int .i64 0, .int .i64 (digI t1)]) hnew
      case d2 => exact ddVals_one ⟨2, 0, 0, digI t1⟩
      case d3 => show 3 + 1 ≤ maxLen; unfold maxLen; omega
      case d4 => show (3 + 1) * 32 ≤ 140737488355328; omega
      case d5 => simp; omega
      intro v' w4 hown hgrow _ _
      obtain ⟨l, hl⟩ : ∃ l, cand0 ++ [⟨2, 0, 0, digI t1⟩] = l := ⟨_, rfl⟩
      have HN : Hid (GrowsD w4 W.heap.size v' l) := by rw [← hl]; exact GrowsD.snoc hown
      have HB4 : Hid (Below W.heap.size W w4) := ((HB1.out.alloc HB1.out.size _).alloc (by have := HB1.out.size; simp; omega) _).grown hgrow (by have := HB1.out.size; simp; omega) (fun k hk => (World.ownsRow.lt hGC.out k hk).1)
      have HK4 : Hid (Below w.heap.size w w4) := belT HBW.out HB4.out
      have hll : l.length = 4 := by rw [← hl]; rfl
      rw [hl] at hRO
      clear hown hgrow hl q1
      have hll2 : l.length ≤ 4 := Nat.le_of_eq hll
      have hll3 : 0 < l.length := by omega
      clear hll
      obtain ⟨bd, cap, rfl, hlo, hbd, hcells⟩ := HN.out.cells hll3
      have HCL := Lib.hid hcells
      have HROw4 : Hid (w4.rowIs w.heap.size 25 4 (fun _ => .int .i64 0)) := HROW.out.of_block ((HB4.out).block _ (by have := HZW.out; omega))
      have hWX : w.heap.size < w4.heap.size := by have := HROw4.out.lt; exact this
      clear hcells hGC HN
      go_wp2_with fail
      go_loopw [14] (fun iv wr => ∃ k : Nat, k ≤ l.length ∧ iv = .int .i64 (k : Nat) ∧ Hid (readO s = findD s (l.drop k)) ∧ Hid (Below w4.heap.size w4 wr)) (fun iv _ => l.length - (intOf iv).toNat)
      case atStart => exact ⟨0, Nat.zero_le _, rfl, hRO, Below.refl _ _⟩
      case round =>
        clear hRO
        obtain ⟨k, hk, rfl, HRK, HV⟩ := hrel
        have hrw := HROw4.out.of_block (HV.out.block _ hWX)
        have x0 := hrw.cell (i := 0) (by omega)
        have x1 := hrw.cell (i := 1) (by omega)
        have x2 := hrw.cell (i := 2) (by omega)
        have x3 := hrw.cell (i := 3) (by omega)
        have y0 := hrw.frozen 0
        have y1 := hrw.frozen 1
        have y2 := hrw.frozen 2
        have y3 := hrw.frozen 3
        clear hrw
        by_cases hlt : k < l.length
        · obtain ⟨c0, c1, c2, c3⟩ := HCL.out wr (HV.out.block _ hbd) k hlt
          have hfd := find_drop (s := s) hlt
          have hDT := deedText_spec (ddAt l k) wr
          obtain ⟨⟨kd, rr, cc, nn⟩, ha⟩ : ∃ a, ddAt l k = a := ⟨_, rfl⟩
          rw [ha] at c0 c1 c2 c3 hDT hfd
          unfold ddV strV at hDT
          simp only at c0 c1 c2 c3 hDT
          have HDT := Lib.hid hDT
          have hki : (k : Int) < (l.length : Int) := by omega
          have hw1 : IntKind.i64.wrap ((k : Int) + 1) = (k : Int) + 1 := IntWalk.i64_in _ ⟨by omega, by omega⟩
          clear hDT ha
          by_cases hs0 : s = []
          · rw [if_neg (fun h => h.1 hs0)] at hfd
            have HNX : Hid (readO s = findD s (l.drop (k + 1))) := HRK.out.trans hfd
            clear hfd
            subst hs0
            go_wp2_with fail
            exact ⟨⟨k + 1, hlt, by first | rfl | simp, HNX, HV⟩, by simp [intOf]; omega⟩
          · have hse : s.isEmpty = false := by cases s; exact absurd rfl hs0; rfl
            obtain ⟨T, hT⟩ : ∃ T, deedT ⟨kd, rr, cc, nn⟩ = T := ⟨_, rfl⟩
            rw [hT] at HDT hfd
            have HAF : Hid (∀ w5, Below wr.heap.size wr w5 → (w5.cell? ⟨bd, k * 4, none⟩ = some (.int .i64 kd) ∧ w5.cell? ⟨bd, k * 4 + 1, none⟩ = some (.int .i64 rr) ∧ w5.cell? ⟨bd, k * 4 + 2, none⟩ = some (.int .i64 cc) ∧ w5.cell? ⟨bd, k * 4 + 3, none⟩ = some (.int .i64 nn)) ∧ w5.rowIs w.heap.size 25 4 (fun _ => .int .i64 0) ∧ Below w4.heap.size w4 w5) := fun w5 hb5 => by
              have hv5 := HV.out.trans (hb5.mono HV.out.size)
              have hbw : bd < wr.heap.size := Nat.lt_of_lt_of_le hbd HV.out.size
              have hh : ∀ j, w5.cell? ⟨bd, j, none⟩ = wr.cell? ⟨bd, j, none⟩ := fun j => hb5.cell (p := ⟨bd, j, none⟩) hbw
              exact ⟨⟨(hh _).trans c0, (hh _).trans c1, (hh _).trans c2, (hh _).trans c3⟩, HROw4.out.of_block (hv5.block _ hWX), hv5⟩
            by_cases hts : T = s
            · have hbt : (T == s) = true := by rw [hts]; simp
              rw [if_pos ⟨hs0, hts⟩] at hfd
              have HAN : Hid (dr = ⟨kd, rr, cc, nn⟩ ∧ br = true) := by
                have e : readO s = some ⟨kd, rr, cc, nn⟩ := HRK.out.trans hfd
                refine ⟨?_, ?_⟩
                · rw [← HRD.out.1]; unfold readD; rw [e]; rfl
                · rw [← HRD.out.2]; unfold readB; rw [e]; rfl
              rw [HAN.out.1, HAN.out.2]
              clear hfd hts hT hs0
              go_wp2_with (go_at_call 7; refine HDT.out.mono ?_; rintro e w5 ⟨rfl, hb5⟩; obtain ⟨⟨m0, m1, m2, m3⟩, hr5, hv5⟩ := HAF.out w5 hb5; have z0 := hr5.cell (i := 0) (by omega); have z1 := hr5.cell (i := 1) (by omega); have z2 := hr5.cell (i := 2) (by omega); have z3 := hr5.cell (i := 3) (by omega); have v0 := hr5.frozen 0; have v1 := hr5.frozen 1; have v2 := hr5.frozen 2; have v3 := hr5.frozen 3; have HV5 := Lib.hid hv5; clear hr5 hv5 hb5)
              refine bodyPost_ret (v := .tuple #[.agg #[.int .i64 kd, .int .i64 rr, .int .i64 cc, .int .i64 nn], .bool true]) (by simp [results, Tryd.results10, go_sem, z0, z1, z2, z3]) rfl ⟨rfl, ?_⟩
              have hfin := HK4.out.trans (HV5.out.mono HK4.out.size)
              exact (((hfin.setCell (p := ⟨w.heap.size, 0, none⟩) (Nat.le_refl _) _).setCell (p := ⟨w.heap.size, 1, none⟩) (Nat.le_refl _) _).setCell (p := ⟨w.heap.size, 2, none⟩) (Nat.le_refl _) _).setCell (p := ⟨w.heap.size, 3, none⟩) (Nat.le_refl _) _
            · have hbt : (T == s) = false := by simp [hts]
              rw [if_neg (fun h => hts h.2)] at hfd
              have HNX : Hid (readO s = findD s (l.drop (k + 1))) := HRK.out.trans hfd
              clear hfd hts hT hs0
              go_wp2_with (go_at_call 7; refine HDT.out.mono ?_; rintro e w5 ⟨rfl, hb5⟩; have HV5 := Lib.hid (HAF.out w5 hb5).2.2; clear hb5)
              exact ⟨⟨k + 1, hlt, by first | rfl | simp, HNX, HV5.out⟩, by simp [intOf]; omega⟩
        · have hkl : k = l.length := by omega
          have HAN : Hid (dr = ⟨0, 0, 0, 0⟩ ∧ br = false) := by
            have e : readO s = none := by rw [HRK.out, hkl, List.drop_length]; rfl
            refine ⟨?_, ?_⟩
            · rw [← HRD.out.1]; unfold readD; rw [e]; rfl
            · rw [← HRD.out.2]; unfold readB; rw [e]; rfl
          have hnl : ¬ (k : Int) < (l.length : Int) := by omega
          clear hkl
          go_wp2_with fail
          refine bodyPost_ret (v := .tuple #[.agg #[.int .i64 0, .int .i64 0, .int .i64 0, .int .i64 0], .bool false]) (by simp [results, Tryd.results10, go_sem, x0, x1, x2, x3]) rfl ⟨by rw [HAN.out.1, HAN.out.2]; rfl, ?_⟩
          have hfin := HK4.out.trans (HV.out.mono HK4.out.size)
          exact (((hfin.setCell (p := ⟨w.heap.size, 0, none⟩) (Nat.le_refl _) _).setCell (p := ⟨w.heap.size, 1, none⟩) (Nat.le_refl _) _).setCell (p := ⟨w.heap.size, 2, none⟩) (Nat.le_refl _) _).setCell (p := ⟨w.heap.size, 3, none⟩) (Nat.le_refl _) _
    · have hRO : Hid (readO s = findD s cand0) := by show _ = _; rw [HRO.out, if_neg h4, if_neg h2]; simp
      have hn4 : ¬ (L.length : Int) = 4 := by omega
      have hn2 : ¬ (L.length : Int) = 2 := by omega
      have hn4b : ((L.length : Int) == 4) = false := by rw [beq_eq_false_iff_ne]; omega
      have hn2b : ((L.length : Int) == 2) = false := by rw [beq_eq_false_iff_ne]; omega
      clear HRO
      go_wp2_with fail
      clear hn4 hn2 hn4b hn2b
      obtain ⟨w4, hw4⟩ : ∃ w4 : World, w1.alloc (.cells #[.int .i64 1, .int .i64 0, .int .i64 0, .int .i64 0, .int .i64 3, .int .i64 0, .int .i64 0, .int .i64 0, .int .i64 4, .int .i64 0, .int .i64 0, .int .i64 0] 25) = w4 := ⟨_, rfl⟩
      rw [hw4] at hGC
      have HN := hGC
      have HB4 : Hid (Below W.heap.size W w4) := by rw [← hw4]; exact HB1.out.alloc HB1.out.size _
      have HK4 : Hid (Below w.heap.size w w4) := belT HBW.out HB4.out
      obtain ⟨l, hl⟩ : ∃ l, cand0 = l := ⟨_, rfl⟩
      have hll : l.length = 3 := by rw [← hl]; rfl
      rw [hl] at hRO HN
      clear hl
      have hll2 : l.length ≤ 4 := by omega
      have hll3 : 0 < l.length := by omega
      have HLL := Lib.hid hll
      obtain ⟨bd, cap, hve, hlo, hbd, hcells⟩ := HN.out.cells hll3
      simp only [Value.slice.injEq, Option.some.injEq, Addr.mk.injEq, and_true, true_and] at hve
      obtain ⟨hbe, hle, hce⟩ := hve
      have HCL := Lib.hid hcells
      have HROw4 : Hid (w4.rowIs w.heap.size 25 4 (fun _ => .int .i64 0)) := HROW.out.of_block ((HB4.out).block _ (by have := HZW.out; omega))
      have hWX : w.heap.size < w4.heap.size := by have := HROw4.out.lt; exact this
      rw [hw4, hbe]
      clear hcells hGC HN hw4 hce hbe hle hll hll2 hll3
      go_loopw [14] (fun iv wr => ∃ k : Nat, k ≤ 3 ∧ iv = .int .i64 (k : Nat) ∧ Hid (readO s = findD s (l.drop k)) ∧ Hid (Below w4.heap.size w4 wr)) (fun iv _ => 3 - (intOf iv).toNat)
      case atStart => exact ⟨0, Nat.zero_le _, rfl, hRO, Below.refl _ _⟩
      case round =>
        clear hRO
        obtain ⟨k, hk, rfl, HRK, HV⟩ := hrel
        have hrw := HROw4.out.of_block (HV.out.block _ hWX)
        have x0 := hrw.cell (i := 0) (by omega)
        have x1 := hrw.cell (i := 1) (by omega)
        have x2 := hrw.cell (i := 2) (by omega)
        have x3 := hrw.cell (i := 3) (by omega)
        have y0 := hrw.frozen 0
        have y1 := hrw.frozen 1
        have y2 := hrw.frozen 2
        have y3 := hrw.frozen 3
        clear hrw
        by_cases hlt3 : k < 3
        · have hlt : k < l.length := by have := HLL.out; omega
          obtain ⟨c0, c1, c2, c3⟩ := HCL.out wr (HV.out.block _ hbd) k hlt
          have hfd := find_drop (s := s) hlt
          have hDT := deedText_spec (ddAt l k) wr
          obtain ⟨⟨kd, rr, cc, nn⟩, ha⟩ : ∃ a, ddAt l k = a := ⟨_, rfl⟩
          rw [ha] at c0 c1 c2 c3 hDT hfd
          unfold ddV strV at hDT
          simp only at c0 c1 c2 c3 hDT
          have HDT := Lib.hid hDT
          have hki : (k : Int) < 3 := by omega
          have hw1 : IntKind.i64.wrap ((k : Int) + 1) = (k : Int) + 1 := IntWalk.i64_in _ ⟨by omega, by omega⟩
          clear hDT ha hlt
          by_cases hs0 : s = []
          · rw [if_neg (fun h => h.1 hs0)] at hfd
            have HNX : Hid (readO s = findD s (l.drop (k + 1))) := HRK.out.trans hfd
            clear hfd
            subst hs0
            go_wp2_with fail
            exact ⟨⟨k + 1, hlt3, by first | rfl | simp, HNX, HV⟩, by simp [intOf]; omega⟩
          · have hse : s.isEmpty = false := by cases s; exact absurd rfl hs0; rfl
            obtain ⟨T, hT⟩ : ∃ T, deedT ⟨kd, rr, cc, nn⟩ = T := ⟨_, rfl⟩
            rw [hT] at HDT hfd
            have HAF : Hid (∀ w5, Below wr.heap.size wr w5 → (w5.cell? ⟨bd, k * 4, none⟩ = some (.int .i64 kd) ∧ w5.cell? ⟨bd, k * 4 + 1, none⟩ = some (.int .i64 rr) ∧ w5.cell? ⟨bd, k * 4 + 2, none⟩ = some (.int .i64 cc) ∧ w5.cell? ⟨bd, k * 4 + 3, none⟩ = some (.int .i64 nn)) ∧ w5.rowIs w.heap.size 25 4 (fun _ => .int .i64 0) ∧ Below w4.heap.size w4 w5) := fun w5 hb5 => by
              have hv5 := HV.out.trans (hb5.mono HV.out.size)
              have hbw : bd < wr.heap.size := Nat.lt_of_lt_of_le hbd HV.out.size
              have hh : ∀ j, w5.cell? ⟨bd, j, none⟩ = wr.cell? ⟨bd, j, none⟩ := fun j => hb5.cell (p := ⟨bd, j, none⟩) hbw
              exact ⟨⟨(hh _).trans c0, (hh _).trans c1, (hh _).trans c2, (hh _).trans c3⟩, HROw4.out.of_block (hv5.block _ hWX), hv5⟩
            by_cases hts : T = s
            · have hbt : (T == s) = true := by rw [hts]; simp
              rw [if_pos ⟨hs0, hts⟩] at hfd
              have HAN : Hid (dr = ⟨kd, rr, cc, nn⟩ ∧ br = true) := by
                have e : readO s = some ⟨kd, rr, cc, nn⟩ := HRK.out.trans hfd
                refine ⟨?_, ?_⟩
                · rw [← HRD.out.1]; unfold readD; rw [e]; rfl
                · rw [← HRD.out.2]; unfold readB; rw [e]; rfl
              rw [HAN.out.1, HAN.out.2]
              clear hfd hts hT hs0
              go_wp2_with (go_at_call 7; refine HDT.out.mono ?_; rintro e w5 ⟨rfl, hb5⟩; obtain ⟨⟨m0, m1, m2, m3⟩, hr5, hv5⟩ := HAF.out w5 hb5; have z0 := hr5.cell (i := 0) (by omega); have z1 := hr5.cell (i := 1) (by omega); have z2 := hr5.cell (i := 2) (by omega); have z3 := hr5.cell (i := 3) (by omega); have v0 := hr5.frozen 0; have v1 := hr5.frozen 1; have v2 := hr5.frozen 2; have v3 := hr5.frozen 3; have HV5 := Lib.hid hv5; clear hr5 hv5 hb5)
              refine bodyPost_ret (v := .tuple #[.agg #[.int .i64 kd, .int .i64 rr, .int .i64 cc, .int .i64 nn], .bool true]) (by simp [results, Tryd.results10, go_sem, z0, z1, z2, z3]) rfl ⟨rfl, ?_⟩
              have hfin := HK4.out.trans (HV5.out.mono HK4.out.size)
              exact (((hfin.setCell (p := ⟨w.heap.size, 0, none⟩) (Nat.le_refl _) _).setCell (p := ⟨w.heap.size, 1, none⟩) (Nat.le_refl _) _).setCell (p := ⟨w.heap.size, 2, none⟩) (Nat.le_refl _) _).setCell (p := ⟨w.heap.size, 3, none⟩) (Nat.le_refl _) _
            · have hbt : (T == s) = false := by simp [hts]
              rw [if_neg (fun h => hts h.2)] at hfd
              have HNX : Hid (readO s = findD s (l.drop (k + 1))) := HRK.out.trans hfd
              clear hfd hts hT hs0
              go_wp2_with (go_at_call 7; refine HDT.out.mono ?_; rintro e w5 ⟨rfl, hb5⟩; have HV5 := Lib.hid (HAF.out w5 hb5).2.2; clear hb5)
              exact ⟨⟨k + 1, hlt3, by first | rfl | simp, HNX, HV5.out⟩, by simp [intOf]; omega⟩
        · have hkl : k = l.length := by have := HLL.out; omega
          have HAN : Hid (dr = ⟨0, 0, 0, 0⟩ ∧ br = false) := by
            have e : readO s = none := by rw [HRK.out, hkl, List.drop_length]; rfl
            refine ⟨?_, ?_⟩
            · rw [← HRD.out.1]; unfold readD; rw [e]; rfl
            · rw [← HRD.out.2]; unfold readB; rw [e]; rfl
          have hnl : ¬ (k : Int) < 3 := by have := HLL.out; omega
          clear hkl
          go_wp2_with fail
          refine bodyPost_ret (v := .tuple #[.agg #[.int .i64 0, .int .i64 0, .int .i64 0, .int .i64 0], .bool false]) (by simp [results, Tryd.results10, go_sem, x0, x1, x2, x3]) rfl ⟨by rw [HAN.out.1, HAN.out.2]; rfl, ?_⟩
          have hfin := HK4.out.trans (HV.out.mono HK4.out.size)
          exact (((hfin.setCell (p := ⟨w.heap.size, 0, none⟩) (Nat.le_refl _) _).setCell (p := ⟨w.heap.size, 1, none⟩) (Nat.le_refl _) _).setCell (p := ⟨w.heap.size, 2, none⟩) (Nat.le_refl _) _).setCell (p := ⟨w.heap.size, 3, none⟩) (Nat.le_refl _) _

end Go.Proofs.YtlmaeadbomnhlabDoor

namespace Go.Proofs.YtlmaeadbomnhlabDoor
set_option linter.unusedSimpArgs false
set_option linter.unusedVariables false
open Go.RowKit

theorem read_len (s : List UInt8) : ∀ pre, (jouL pre s).length ≤ s.length := by
  induction s with
  | nil => intro pre; simp [jouL]
  | cons c s ih =>
    intro pre
    rw [jouL_cons]
    split
    · split
      · have := ih []; simp; omega
      · simp
    · have := ih (pre ++ [c]); simp; omega

theorem OwnDd.keepW {w w' : World} {lo : Nat} {A : Option Addr} {l : List Dd} (h : OwnDd w lo w.heap.size A l) (hs : w.heap.size ≤ w'.heap.size) (hk : ∀ b, lo ≤ b → b < w.heap.size → w'.heap[b]? = w.heap[b]?) : OwnDd w' lo w'.heap.size A l := by
  intro h0
  obtain ⟨b, N, f, e, h1, h2, h3, h4, h5⟩ := h h0
  exact ⟨b, N, f, e, h1, by omega, h3.of_block (hk b h1 h2), h4, h5⟩

/-- what is left to read behind the byte at k, which is no end of a line -/
theorem jou_step {s : List UInt8} {f k : Nat} (hf : f ≤ k) (hk : k < s.length) (hb : byAt s k ≠ 10) :
    jouL ((s.drop f).take (k - f)) (s.drop k) = jouL ((s.drop f).take (k + 1 - f)) (s.drop (k + 1)) ∧ jouN ((s.drop f).take (k - f)) (s.drop k) = jouN ((s.drop f).take (k + 1 - f)) (s.drop (k + 1)) := by
  have e : s.drop k = byAt s k :: s.drop (k + 1) := by rw [List.drop_eq_getElem_cons hk, ← byAt_eq s k hk]
  have e2 : (s.drop f).take (k + 1 - f) = (s.drop f).take (k - f) ++ [byAt s k] := by
    rw [show k + 1 - f = (k - f) + 1 by omega, List.take_succ_eq_append_getElem (by simp; omega), List.getElem_drop]
    congr 2
    rw [byAt_eq s k hk]; congr 1; omega
  rw [e, jouL_cons, jouN_cons, if_neg hb, if_neg hb, e2]
  exact ⟨rfl, rfl⟩

theorem jou_end {s : List UInt8} {f k : Nat} (hk : k < s.length) (hb : byAt s k = 10) (hf : f ≤ k) :
    jouL ((s.drop f).take (k - f)) (s.drop k) = (if readB ((s.drop f).take (k - f)) = true then readD ((s.drop f).take (k - f)) :: jouL [] (s.drop (k + 1)) else []) ∧
    jouN ((s.drop f).take (k - f)) (s.drop k) = (if readB ((s.drop f).take (k - f)) = true then k - f + 1 + jouN [] (s.drop (k + 1)) else 0) := by
  have e : s.drop k = byAt s k :: s.drop (k + 1) := by rw [List.drop_eq_getElem_cons hk, ← byAt_eq s k hk]
  have e3 : ((s.drop f).take (k - f)).length = k - f := by simp; omega
  rw [e, jouL_cons, jouN_cons, if_pos hb, if_pos hb, e3]
  exact ⟨rfl, rfl⟩

set_option maxHeartbeats 4000000 in
set_option maxRecDepth 100000 in
theorem readJournal_spec (s : List UInt8) (hs : s.length ≤ 1048577) (w : World) :
    Calls Tryd.prog 18 #[strV s] w fun e w' => ∃ (A : Option Addr) (c : Nat), e = .returned (.tuple #[.slice A (jouL [] s).length c, .int .i64 (jouN [] s : Nat)]) ∧ (jouL [] s).length ≤ c ∧ c ≤ maxLen ∧ Below w.heap.size w w' ∧ OwnDd w' w.heap.size w'.heap.size A (jouL [] s) := by
  obtain ⟨i0, hi0, hz0, hz1, hz2⟩ := infoDd
  have HI0 := Lib.hid hi0
  have HZ0 := Lib.hid hz0
  have HZ1 := Lib.hid hz1
  have HZ2 := Lib.hid hz2
  obtain ⟨JL, hJL⟩ : ∃ J, jouL [] s = J := ⟨_, rfl⟩
  obtain ⟨JN, hJN⟩ : ∃ J, jouN [] s = J := ⟨_, rfl⟩
  have h0 : JL = [] ++ jouL ((s.drop 0).take (0 - 0)) (s.drop 0) ∧ JN = 0 + jouN ((s.drop 0).take (0 - 0)) (s.drop 0) := by rw [← hJL, ← hJN]; simp
  rw [hJL, hJN]
  have HJ0 := Lib.hid h0
  clear hi0 hz0 hz1 hz2 hJL hJN h0
  unfold strV
  go_enter Tryd.func18, Tryd.ntmps18
  go_wp2_with fail
  go_loopw [4, 5, 6] (fun v fv iv wr => ∃ (k f : Nat) (done : List Dd), k ≤ s.length ∧ f ≤ k ∧ iv = .int .i64 (k : Nat) ∧ fv = .int .i64 (f : Nat) ∧ Hid (JL = done ++ jouL ((s.drop f).take (k - f)) (s.drop k) ∧ JN = f + jouN ((s.drop f).take (k - f)) (s.drop k) ∧ done.length ≤ k) ∧ Hid (GrowsD wr w.heap.size v done) ∧ Hid (Below w.heap.size w wr)) (fun _ _ iv _ => s.length - (intOf iv).toNat)
  case atStart => exact ⟨0, 0, [], Nat.zero_le _, Nat.le_refl _, rfl, rfl, ⟨HJ0.out.1, HJ0.out.2, Nat.le_refl _⟩, GrowsD.lit w (Nat.le_refl _), (Below.refl _ _).alloc (Nat.le_refl _) _⟩
  case round =>
    clear HJ0
    obtain ⟨k, f, done, hk, hf, rfl, rfl, HF, HO, HW⟩ := hrel
    have hdl := HF.out.2.2
    have hsz := HW.out.size
    by_cases hlt : k < s.length
    · have hby := byte_at s k
      have hlt2 : (k : Int) < (s.length : Int) := by omega
      have hw1 : IntKind.i64.wrap ((k : Int) + 1) = (k : Int) + 1 := IntWalk.i64_in _ ⟨by omega, by omega⟩
      obtain ⟨c, hc⟩ : ∃ c, byAt s k = c := ⟨_, rfl⟩
      rw [hc] at hby
      by_cases h10 : c = 10
      · have hcb : (((c.toNat : Nat) : Int) == 10) = true := by rw [h10]; rfl
        have hje := jou_end hlt (hc.trans h10) hf
        obtain ⟨wd, hwd⟩ : ∃ wd, (s.drop f).take (k - f) = wd := ⟨_, rfl⟩
        have hwl : wd.length ≤ 1048577 := by rw [← hwd]; simp; omega
        have hx : (⟨s.toArray⟩ : ByteArray).extract f k = ⟨wd.toArray⟩ := by rw [part_at, hwd]
        have hRD := readDeed_spec wd hwl wr
        rw [hwd] at hje
        have HFO : Hid (JL = done ++ jouL wd (s.drop k) ∧ JN = f + jouN wd (s.drop k)) := by have := HF.out; rw [hwd] at this; exact ⟨this.1, this.2.1⟩
        obtain ⟨⟨kd, rr, cc, nn⟩, hdd⟩ : ∃ d, readD wd = d := ⟨_, rfl⟩
        rw [hdd] at hRD hje
        rcases hrb : readB wd with _ | _
        · rw [hrb] at hRD hje
          have HAN : Hid (JL = done ∧ JN = f) := by
            refine ⟨?_, ?_⟩
            · rw [HFO.out.1, hje.1]; simp
            · rw [HFO.out.2, hje.2]; simp
          unfold ddV strV at hRD
          simp only at hRD
          have HRD := Lib.hid hRD
          clear hRD hje hdd hrb hc h10 hwd hwl HF HFO
          obtain ⟨A, cap, rfl, h1, h2, ho⟩ := HO.out.own
          have HOO := Lib.hid ho
          clear ho
          go_wp2_with (go_at_call 10; refine HRD.out.mono ?_; rintro e w5 ⟨rfl, hb5⟩)
          refine bodyPost_ret (v := .tuple #[.slice A done.length cap, .int .i64 (f : Nat)]) (by simp [results, Tryd.results18, go_sem]) rfl ?_
          have hk5 : Below w.heap.size w w5 := HW.out.trans (hb5.mono HW.out.size)
          rw [HAN.out.1, HAN.out.2]
          refine ⟨A, cap, rfl, h1, h2, hk5.alloc hk5.size _, (HOO.out.keepW (w' := w5.alloc _) (by have := hb5.size; simp; omega) fun b h1 h2 => ?_)⟩
          rw [Below.heap_alloc _ _ _ (by have := hb5.size; omega)]; exact hb5.block b h2
        · rw [hrb] at hRD hje
          have HNX : Hid (JL = (done ++ [⟨kd, rr, cc, nn⟩]) ++ jouL ((s.drop (k + 1)).take (k + 1 - (k + 1))) (s.drop (k + 1)) ∧ JN = k + 1 + jouN ((s.drop (k + 1)).take (k + 1 - (k + 1))) (s.drop (k + 1)) ∧ (done ++ [⟨kd, rr, cc, nn⟩] : List Dd).length ≤ k + 1) := by
            refine ⟨?_, ?_, by simp; omega⟩
            · rw [HFO.out.1, hje.1, if_pos rfl, Nat.sub_self]; simp
            · rw [HFO.out.2, hje.2, if_pos rfl, Nat.sub_self, List.take_zero]; omega
          unfold ddV strV at hRD
          simp only at hRD
          have HRD := Lib.hid hRD
          clear hRD hje hdd hrb hc h10 hwd hwl HF HFO
          go_wp2_with (first | (go_at_call 10; refine HRD.out.mono ?_; rintro e w5 ⟨rfl, hb5⟩; have HB5 := Lib.hid hb5; have HO5 := Lib.hid (HO.out.keep hb5); have hs5 := hb5.size; clear hb5) | (at_builtin; refine wpList_append_own_at _ rfl (.tmp 32) (.tmp 34) _ rfl w.heap.size 25 i0 (.agg #[.int .i64 0, .int .i64 0, .int .i64 0, .int .i64 0]) 4 32 Tryd.underlying35 HI0.out HZ0.out HZ1.out HZ2.out rfl (by decide) _ _ _ rfl ((HO5.out.alloc _).alloc _) ⟨w5.heap.size + 1, 0, none⟩ 1 1 [.int .i64 kd, .int .i64 rr, .int .i64 cc, .int .i64 nn] rfl rfl ?c1 ?c2 ?c3 ?c4 ?c5 ?_))
          case c1 =>
            have hnew := heap_alloc_new (w5.alloc (.cells #[.int .i64 kd, .int .i64 rr, .int .i64 cc, .int .i64 nn] 25)) (.cells #[.int .i64 kd, .int .i64 rr, .int .i64 cc, .int .i64 nn] 25)
            rw [World.size_alloc] at hnew
            exact World.news_of_block (cs := #[.int .i64 kd, .int .i64 rr, .int .i64 cc, .int .i64 nn]) hnew
          case c2 => exact ddVals_one ⟨kd, rr, cc, nn⟩
          case c3 => unfold maxLen; omega
          case c4 => omega
          case c5 => simp; omega
          intro v' w6 hown hgrow _ _
          have HN : Hid (GrowsD w6 w.heap.size v' (done ++ [⟨kd, rr, cc, nn⟩])) := GrowsD.snoc hown
          have HK5 : Below w.heap.size w w5 := HW.out.trans (HB5.out.mono HW.out.size)
          have HW2 : Hid (Below w.heap.size w w6) := (((HK5.alloc HK5.size _).alloc (by simp; omega) _).grown hgrow (by simp; omega) (fun k hk => (World.ownsRow.lt HO5.out k hk).1))
          clear hown hgrow HK5
          go_wp2_with fail
          first
            | exact ⟨⟨k + 1, k + 1, done ++ [⟨kd, rr, cc, nn⟩], hlt, Nat.le_refl _, by first | rfl | simp, by first | rfl | simp, HNX, HN, HW2⟩, by simp [intOf]; omega⟩
            | (go_roundw
               case rel => exact ⟨k + 1, k + 1, done ++ [⟨kd, rr, cc, nn⟩], hlt, Nat.le_refl _, by go_num, by go_num, HNX, HN, HW2⟩
               case measure => simp [intOf]; omega)
      · have hcb : (((c.toNat : Nat) : Int) == 10) = false := by
          rw [beq_eq_false_iff_ne]; intro e; apply h10
          apply UInt8.toNat_inj.1; have : (10 : UInt8).toNat = 10 := rfl
          omega
        have hjs := jou_step hf hlt (by rw [hc]; exact h10)
        have HF2 : Hid (JL = done ++ jouL ((s.drop f).take (k + 1 - f)) (s.drop (k + 1)) ∧ JN = f + jouN ((s.drop f).take (k + 1 - f)) (s.drop (k + 1)) ∧ done.length ≤ k + 1) := by
          refine ⟨?_, ?_, by omega⟩
          · rw [HF.out.1, hjs.1]
          · rw [HF.out.2.1, hjs.2]
        clear hc h10 HF hjs
        go_wp2_with fail
        first
          | exact ⟨⟨k + 1, f, done, hlt, by omega, by first | rfl | simp, rfl, HF2, HO, HW⟩, by simp [intOf]; omega⟩
          | (go_roundw
             case rel => exact ⟨k + 1, f, done, hlt, by omega, by go_num, rfl, HF2, HO, HW⟩
             case measure => simp [intOf]; omega)
    · have hks : k = s.length := by omega
      have HAN : Hid (JL = done ∧ JN = f) := by
        have e1 : s.drop k = [] := by rw [hks]; exact List.drop_length
        refine ⟨?_, ?_⟩
        · rw [HF.out.1, e1]; simp [jouL]
        · rw [HF.out.2.1, e1]; simp [jouN]
      have hnl : ¬ (k : Int) < (s.length : Int) := by omega
      clear hks HF
      obtain ⟨A, cap, rfl, h1, h2, ho⟩ := HO.out.own
      have HOO := Lib.hid ho
      clear ho
      go_wp2_with fail
      refine bodyPost_ret (v := .tuple #[.slice A done.length cap, .int .i64 (f : Nat)]) (by simp [results, Tryd.results18, go_sem]) rfl ?_
      rw [HAN.out.1, HAN.out.2]
      exact ⟨A, cap, rfl, h1, h2, HW.out, HOO.out⟩

end Go.Proofs.YtlmaeadbomnhlabDoor

namespace Go.Proofs.YtlmaeadbomnhlabDoor
set_option linter.unusedSimpArgs false
set_option linter.unusedVariables false
open Go.RowKit

/-- deeds that are numbered through -/
def ddMarks (k : Int) (n : Nat) : List Dd := (List.range n).map fun i : Nat => ⟨k + 4 * (i : Int), k + 4 * (i : Int) + 1, k + 4 * (i : Int) + 2, k + 4 * (i : Int) + 3⟩

theorem ddMarks_length (k : Int) (n : Nat) : (ddMarks k n).length = n := by simp [ddMarks]

theorem ddMarks_at (k : Int) (n i : Nat) (h : i < n) : ddAt (ddMarks k n) i = ⟨k + 4 * (i : Int), k + 4 * (i : Int) + 1, k + 4 * (i : Int) + 2, k + 4 * (i : Int) + 3⟩ := by
  rw [ddAt_eq _ _ (by rw [ddMarks_length]; exact h)]; simp [ddMarks]

theorem ddMarks_cell (k : Int) (n j : Nat) (h : j < n * 4) : (ddVals (ddMarks k n))[j]? = some (.int .i64 (k + (j : Int))) := by
  have hd : j / 4 < (ddMarks k n).length := by rw [ddMarks_length]; omega
  obtain ⟨e0, e1, e2, e3⟩ := ddVals_at (ddMarks k n) (j / 4) hd
  rw [ddMarks_at k n _ (by omega)] at e0 e1 e2 e3
  have hm : j % 4 = 0 ∨ j % 4 = 1 ∨ j % 4 = 2 ∨ j % 4 = 3 := by omega
  rcases hm with h0 | h0 | h0 | h0
  · rw [show j = j / 4 * 4 by omega, e0]; congr 2; simp only; omega
  · rw [show j = j / 4 * 4 + 1 by omega, e1]; congr 2; simp only; omega
  · rw [show j = j / 4 * 4 + 2 by omega, e2]; congr 2; simp only; omega
  · rw [show j = j / 4 * 4 + 3 by omega, e3]; congr 2; simp only; omega

theorem szDeedS_c (A : Option Addr) (c n : Nat) (left : Int) (hl : n ≤ maxLen) (h0 : 0 ≤ left) (h1 : left ≤ 4294967296) (w : World) :
    Calls Tryd.prog 13 #[.slice A n c, .int .i64 left] w fun e w' => ∃ r : Int, e = .returned (.int .i64 r) ∧ w = w' ∧ (r < 0 ∨ (0 ≤ r ∧ (n : Int) + r ≤ left)) := by
  unfold maxLen at hl
  have hw : IntKind.i64.wrap (left - (n : Int)) = left - (n : Int) := IntWalk.i64_in _ ⟨by omega, by omega⟩
  by_cases hn : left - (n : Int) < 0
  · go_enter Tryd.func13, Tryd.ntmps13
    go_wp2_with fail
    go_ret
    exact ⟨-1, rfl, rfl, .inl (by omega)⟩
  · have hn2 : ¬ left - (n : Int) < 0 := hn
    go_enter Tryd.func13, Tryd.ntmps13
    go_wp2_with fail
    go_ret
    exact ⟨left - (n : Int), rfl, rfl, .inr (by omega)⟩

set_option maxHeartbeats 1000000 in
theorem eqDeed_same (a : Dd) (w : World) : Calls Tryd.prog 12 #[ddV a, ddV a] w (Adds (.bool true) w) := by
  obtain ⟨kind, row, col, num⟩ := a
  unfold ddV
  simp only
  have z : ∀ x : Int, (x != x) = false := fun x => by simp
  have z0 := z kind
  have z1 := z row
  have z2 := z col
  have z3 := z num
  clear z
  go_enter Tryd.func12, Tryd.ntmps12
  go_wp2_with fail
  go_ret
  exact ⟨rfl, ((Below.refl _ _).alloc (Nat.le_refl _) _).alloc (by simp) _⟩

/-- while deeds are copied: the first k of l -/
structure DeedFill (w wr : World) (b : Nat) (l : List Dd) (k : Nat) : Prop where
  bel : Below w.heap.size w wr
  lo : w.heap.size ≤ b
  row : wr.rowIs b 25 (l.length * 4) (fun i => if i < k * 4 then ((ddVals l)[i]?).getD undef else .int .i64 0)

theorem DeedFill.call {w wr w1 : World} {b : Nat} {l : List Dd} {k : Nat} (h : DeedFill w wr b l k) (hb : Below wr.heap.size wr w1) : DeedFill w w1 b l k :=
  ⟨belT h.bel hb, h.lo, h.row.of_block (hb.block _ h.row.lt)⟩

theorem DeedFill.step {w wr : World} {b : Nat} {l : List Dd} {k : Nat} (h : DeedFill w wr b l k) (hk : k < l.length) :
    DeedFill w ((((wr.setCell ⟨b, k * 4, none⟩ (.int .i64 (ddAt l k).kind)).setCell ⟨b, k * 4 + 1, none⟩ (.int .i64 (ddAt l k).row)).setCell ⟨b, k * 4 + 2, none⟩ (.int .i64 (ddAt l k).col)).setCell ⟨b, k * 4 + 3, none⟩ (.int .i64 (ddAt l k).num)) b l (k + 1) := by
  obtain ⟨e0, e1, e2, e3⟩ := ddVals_at l k hk
  refine ⟨(((h.bel.setCell h.lo _).setCell h.lo _).setCell h.lo _).setCell h.lo _, h.lo, ((((h.row.set (k * 4) _).set (k * 4 + 1) _).set (k * 4 + 2) _).set (k * 4 + 3) _).congr (fun i _ => ?_)⟩
  by_cases q3 : i = k * 4 + 3
  · subst q3; simp [e3]; try omega
  by_cases q2 : i = k * 4 + 2
  · subst q2; simp [e2]; try omega
  by_cases q1 : i = k * 4 + 1
  · subst q1; simp [e1]; try omega
  by_cases q0 : i = k * 4
  · subst q0; simp [e0]; try omega
  simp only [q3, q2, q1, q0, if_false]
  by_cases hlt : i < k * 4
  · rw [if_pos hlt, if_pos (by omega)]
  · rw [if_neg hlt, if_neg (by omega)]

set_option maxHeartbeats 2000000 in
set_option maxRecDepth 100000 in
theorem toDeedS_c (A : Option Addr) (c : Nat) (l : List Dd) (hl : l.length ≤ 4294967296) (w : World) (h : Deeds w (· < w.heap.size) A l) :
    Calls Tryd.prog 15 #[.slice A l.length c] w (NewDeeds w l) := by
  obtain ⟨i0, hi0, hz0, hz1, hz2⟩ := infoDd
  have hmk : ∀ w, (Instr.makeSlice 35 (.int .i64 (l.length : Int)) (.int .i64 (l.length : Int))).run Tryd.prog w = .ok (.slice (some ⟨w.heap.size, 0, none⟩) l.length l.length) (w.alloc (.cells (madeCells #[.int .i64 0, .int .i64 0, .int .i64 0, .int .i64 0] (l.length * 4)) 25)) := fun w => by
    have hr := run_make (P := Tryd.prog) w 35 25 i0 _ Tryd.underlying35 hi0 hz0 .i64 .i64 l.length l.length (by omega) (Int.le_refl _) (by rw [hz2]; omega) (by omega)
    simp only [Int.toNat_natCast, hz1] at hr
    exact hr
  have HD := Lib.hid h
  clear h hi0 hz0 hz1 hz2
  have F0 : Hid (DeedFill w (w.alloc (.cells (madeCells #[.int .i64 0, .int .i64 0, .int .i64 0, .int .i64 0] (l.length * 4)) 25)) w.heap.size l 0) := by
    refine ⟨(Below.refl _ _).alloc (Nat.le_refl _) _, Nat.le_refl _, ⟨_, Deep.blk_alloc_new _ _, size_madeCells _ _, fun i hi => ?_⟩⟩
    have h : i % 4 = 0 ∨ i % 4 = 1 ∨ i % 4 = 2 ∨ i % 4 = 3 := by omega
    rcases h with h | h | h | h <;> simp [madeCells, hi, h]
  go_enter Tryd.func15, Tryd.ntmps15
  go_wp2_with fail
  go_loopw [4] (fun iv wr => ∃ k : Nat, k ≤ l.length ∧ iv = .int .i64 (k : Nat) ∧ Hid (DeedFill w wr w.heap.size l k)) (fun iv _ => l.length - (intOf iv).toNat)
  case atStart => exact ⟨0, Nat.zero_le _, rfl, F0⟩
  case round =>
    clear F0
    obtain ⟨k, hk, rfl, HF⟩ := hrel
    by_cases hlt : k < l.length
    · obtain ⟨b, off, rfl, hb, hc⟩ := (HD.out.below HF.out.bel) (by omega)
      obtain ⟨c0, c1, c2, c3⟩ := hc k hlt
      have hst := fun w1 (hb : Below wr.heap.size wr w1) => (HF.out.call hb).step hlt
      have hTD := toDeed_c (ddAt l k) wr
      obtain ⟨⟨kd, rr, cc, nn⟩, ha⟩ : ∃ a, ddAt l k = a := ⟨_, rfl⟩
      rw [ha] at c0 c1 c2 c3 hTD hst
      simp only at c0 c1 c2 c3 hst
      unfold ddV at hTD
      simp only at hTD
      have HTD := Lib.hid hTD
      have HST := Lib.hid hst
      have HRW : Hid (∀ w1, Below wr.heap.size wr w1 → w1.rowIs w.heap.size 25 (l.length * 4) (fun i => if i < k * 4 then ((ddVals l)[i]?).getD undef else .int .i64 0)) := fun w1 hb => (HF.out.call hb).row
      have hki : (k : Int) < (l.length : Int) := by omega
      have hw1 : IntKind.i64.wrap ((k : Int) + 1) = (k : Int) + 1 := IntWalk.i64_in _ ⟨by omega, by omega⟩
      clear hTD ha hc hst
      go_wp2_with (go_at_call 8; refine HTD.out.mono ?_; rintro e w5 ⟨rfl, hb5⟩; have hr5 := HRW.out w5 hb5; have x0 := hr5.cell (i := k * 4) (by omega); have x1 := hr5.cell (i := k * 4 + 1) (by omega); have x2 := hr5.cell (i := k * 4 + 2) (by omega); have x3 := hr5.cell (i := k * 4 + 3) (by omega); have y0 := hr5.frozen (k * 4); have y1 := hr5.frozen (k * 4 + 1); have y2 := hr5.frozen (k * 4 + 2); have y3 := hr5.frozen (k * 4 + 3); have HN := Lib.hid (HST.out w5 hb5); clear hr5 hb5)
      first
        | exact ⟨⟨k + 1, hlt, by first | rfl | simp, HN⟩, by simp [intOf]; omega⟩
        | (go_roundw
           case rel => exact ⟨k + 1, hlt, by go_num, HN⟩
           case measure => simp [intOf]; omega)
    · have hkl : k = l.length := by omega
      have hnl : ¬ (k : Int) < (l.length : Int) := by omega
      have HFF : Hid (DeedFill w wr w.heap.size l l.length) := by rw [hkl] at HF; exact HF
      clear hkl
      go_wp2_with fail
      go_ret
      have hrow := HFF.out.row
      refine ⟨_, l.length, rfl, Nat.le_refl _, by unfold maxLen; omega, HFF.out.bel, fun _ => ⟨w.heap.size, l.length * 4, _, rfl, Nat.le_refl _, hrow.lt, hrow, Nat.le_refl _, fun i hi => ?_⟩⟩
      rw [if_pos hi]
      have : i < (ddVals l).length := by rw [ddVals_length]; exact hi
      simp [this]

set_option maxHeartbeats 2000000 in
set_option maxRecDepth 100000 in
theorem eqDeedS_same (A B : Option Addr) (c k : Nat) (l : List Dd) (hl : l.length ≤ 4294967296) (w : World) (h : Deeds w (· < w.heap.size) A l) (h' : Deeds w (· < w.heap.size) B l) :
    Calls Tryd.prog 17 #[.slice A l.length c, .slice B l.length k] w (Adds (.bool true) w) := by
  have H1 := Lib.hid h
  have H2 := Lib.hid h'
  have z : ((l.length : Int) != (l.length : Int)) = false := by simp
  clear h h'
  go_enter Tryd.func17, Tryd.ntmps17
  go_wp2_with fail
  go_loopw [5] (fun iv wr => ∃ m : Nat, m ≤ l.length ∧ iv = .int .i64 (m : Nat) ∧ Hid (Below w.heap.size w wr)) (fun iv _ => l.length - (intOf iv).toNat)
  case atStart => exact ⟨0, Nat.zero_le _, rfl, Below.refl _ _⟩
  case round =>
    obtain ⟨m, hm, rfl, HW⟩ := hrel
    by_cases hlt : m < l.length
    · obtain ⟨b, off, rfl, hb, hc⟩ := (H1.out.below HW.out) (by omega)
      obtain ⟨c0, c1, c2, c3⟩ := hc m hlt
      obtain ⟨b2, off2, rfl, hb2, hc2⟩ := (H2.out.below HW.out) (by omega)
      obtain ⟨d0, d1, d2, d3⟩ := hc2 m hlt
      obtain ⟨⟨kd, rr, cc, nn⟩, ha⟩ : ∃ a, ddAt l m = a := ⟨_, rfl⟩
      rw [ha] at c0 c1 c2 c3 d0 d1 d2 d3
      simp only at c0 c1 c2 c3 d0 d1 d2 d3
      have hl1 : b < wr.heap.size := Nat.lt_of_lt_of_le hb HW.out.size
      have hl2 : b2 < wr.heap.size := Nat.lt_of_lt_of_le hb2 HW.out.size
      have C0 := stays (W := wr) hl1 c0
      have C1 := stays (W := wr) hl1 c1
      have C2 := stays (W := wr) hl1 c2
      have C3 := stays (W := wr) hl1 c3
      have D0 := stays (W := wr) hl2 d0
      have D1 := stays (W := wr) hl2 d1
      have D2 := stays (W := wr) hl2 d2
      have D3 := stays (W := wr) hl2 d3
      have hEQ := fun w => eqDeed_same ⟨kd, rr, cc, nn⟩ w
      unfold ddV at hEQ
      simp only at hEQ
      have HEQ := Lib.hid hEQ
      have hki : (m : Int) < (l.length : Int) := by omega
      have hw1 : IntKind.i64.wrap ((m : Int) + 1) = (m : Int) + 1 := IntWalk.i64_in _ ⟨by omega, by omega⟩
      clear hEQ ha hc hc2 c0 c1 c2 c3 d0 d1 d2 d3
      go_wp2_with fail
      go_region_held3 (fun w' => Below wr.heap.size wr w')
        (first | exact Below.refl _ _ | exact Below.drew (Below.refl _ _) | (refine Below.drew ?_; assumption) | exact belT (by assumption) (by assumption) | assumption)
        ((go_at_call 12; refine (HEQ.out _).mono ?_; rintro e w5 ⟨rfl, hb5⟩))
      have HW5 : Hid (Below w.heap.size w w5) := belT HW.out (by assumption)
      go_wp2_with fail
      first
        | exact ⟨⟨m + 1, hlt, by first | rfl | simp, HW5⟩, by simp [intOf]; omega⟩
        | (go_roundw
           case rel => exact ⟨m + 1, hlt, by go_num, HW5⟩
           case measure => simp [intOf]; omega)
    · have hnl : ¬ (m : Int) < (l.length : Int) := by omega
      go_wp2_with fail
      go_ret
      exact ⟨rfl, HW.out⟩

set_option maxHeartbeats 2000000 in
set_option maxRecDepth 100000 in
theorem markDeedS_c (A : Option Addr) (c : Nat) (l : List Dd) (lo hi : Nat) (k : Int) (hl : l.length ≤ 4294967296) (h0 : 0 ≤ k) (h1 : k ≤ 4294967296) (w : World) (h : OwnDd w lo hi A l) :
    Calls Tryd.prog 20 #[.slice A l.length c, .int .i64 k] w fun e w' => e = .returned (.int .i64 (k + 4 * (l.length : Int))) ∧ Off lo hi w w' ∧ OwnDd w' lo hi A (ddMarks k l.length) := by
  by_cases hz : l.length = 0
  · have H := Lib.hid hz
    have HK : Hid (k = k + 4 * (l.length : Int)) := by show k = _; omega
    have hd : decide ((0 : Int) < (l.length : Int)) = false := decide_eq_false (by omega)
    have hz2 : ¬ (0 : Int) < (l.length : Int) := by omega
    clear hz
    go_enter Tryd.func20, Tryd.ntmps20
    go_wp2_with fail
    go_loop [1, 5] (fun v i => i = .int .i64 0 ∧ v = .int .i64 k) (fun _ _ => 0)
    case atStart => exact ⟨rfl, rfl⟩
    case round =>
      obtain ⟨rfl, rfl⟩ := hrel
      go_wp2_with fail
      go_ret
      rw [← HK.out]
      exact ⟨rfl, Off.refl _ _ _, fun hh => by rw [ddMarks_length] at hh; have := H.out; omega⟩
  obtain ⟨b, N, f, rfl, hb1, hb2, hr, hN, hf⟩ := h (by omega)
  have hpos : 0 < l.length := by omega
  have T0 : Hid (Off lo hi w w) := Off.refl _ _ _
  have R0 : Hid (w.rowIs b 25 N (fun x => if x < 0 * 4 then .int .i64 (k + x) else f x)) := hr.congr (fun i _ => by simp)
  have HB : Hid (lo ≤ b ∧ b < hi) := ⟨hb1, hb2⟩
  clear h hr hz hf hb1 hb2
  go_enter Tryd.func20, Tryd.ntmps20
  go_wp2_with fail
  go_loopw [1, 5] (fun v i wr => ∃ m : Nat, m ≤ l.length ∧ i = .int .i64 (m : Nat) ∧ v = .int .i64 (k + 4 * (m : Int)) ∧ Hid (Off lo hi w wr) ∧ Hid (wr.rowIs b 25 N (fun x => if x < m * 4 then .int .i64 (k + x) else f x))) (fun _ i _ => l.length - (intOf i).toNat)
  case atStart => exact ⟨0, Nat.zero_le _, rfl, by simp, T0, R0⟩
  case round =>
    clear T0 R0
    obtain ⟨m, hm, rfl, rfl, HT, HR⟩ := hrel
    by_cases hlt : m < l.length
    · have x0 := HR.out.cell (i := m * 4) (by omega)
      have x1 := HR.out.cell (i := m * 4 + 1) (by omega)
      have x2 := HR.out.cell (i := m * 4 + 2) (by omega)
      have x3 := HR.out.cell (i := m * 4 + 3) (by omega)
      rw [if_neg (by omega)] at x0 x1 x2 x3
      have y0 := HR.out.frozen (m * 4)
      have y1 := HR.out.frozen (m * 4 + 1)
      have y2 := HR.out.frozen (m * 4 + 2)
      have y3 := HR.out.frozen (m * 4 + 3)
      have hw1 : IntKind.i64.wrap (k + 4 * (m : Int) + 1) = k + 4 * (m : Int) + 1 := IntWalk.i64_in _ ⟨by omega, by omega⟩
      have hw2 : IntKind.i64.wrap (k + 4 * (m : Int) + 1 + 1) = k + 4 * (m : Int) + 1 + 1 := IntWalk.i64_in _ ⟨by omega, by omega⟩
      have hw3 : IntKind.i64.wrap (k + 4 * (m : Int) + 1 + 1 + 1) = k + 4 * (m : Int) + 1 + 1 + 1 := IntWalk.i64_in _ ⟨by omega, by omega⟩
      have hw4 : IntKind.i64.wrap (k + 4 * (m : Int) + 1 + 1 + 1 + 1) = k + 4 * (m : Int) + 1 + 1 + 1 + 1 := IntWalk.i64_in _ ⟨by omega, by omega⟩
      have hw5 : IntKind.i64.wrap ((m : Int) + 1) = (m : Int) + 1 := IntWalk.i64_in _ ⟨by omega, by omega⟩
      obtain ⟨WN, hWN⟩ : ∃ WN, WN = (((wr.setCell ⟨b, m * 4, none⟩ (.int .i64 (k + 4 * (m : Int)))).setCell ⟨b, m * 4 + 1, none⟩ (.int .i64 (k + 4 * (m : Int) + 1))).setCell ⟨b, m * 4 + 2, none⟩ (.int .i64 (k + 4 * (m : Int) + 1 + 1))).setCell ⟨b, m * 4 + 3, none⟩ (.int .i64 (k + 4 * (m : Int) + 1 + 1 + 1)) := ⟨_, rfl⟩
      have HT2 : Hid (Off lo hi w WN) := by
        rw [hWN]
        refine HT.out.trans ⟨rfl, rfl, rfl, by simp [World.setCell], fun z hz => ?_⟩
        have hne : z ≠ b := fun e => hz (e ▸ HB.out)
        rw [Below.heap_setCell _ _ _ _ (by exact hne), Below.heap_setCell _ _ _ _ (by exact hne), Below.heap_setCell _ _ _ _ (by exact hne), Below.heap_setCell _ _ _ _ (by exact hne)]
      have HR2 : Hid (WN.rowIs b 25 N (fun x => if x < (m + 1) * 4 then .int .i64 (k + x) else f x)) := by
        rw [hWN]
        refine ((((HR.out.set (m * 4) _).set (m * 4 + 1) _).set (m * 4 + 2) _).set (m * 4 + 3) _).congr (fun i _ => ?_)
        by_cases q3 : i = m * 4 + 3
        · subst q3; rw [if_pos rfl, if_pos (by omega)]; congr 1; omega
        by_cases q2 : i = m * 4 + 2
        · subst q2; rw [if_neg (by omega), if_pos rfl, if_pos (by omega)]; congr 1; omega
        by_cases q1 : i = m * 4 + 1
        · subst q1; rw [if_neg (by omega), if_neg (by omega), if_pos rfl, if_pos (by omega)]; congr 1; omega
        by_cases q0 : i = m * 4
        · subst q0; rw [if_neg (by omega), if_neg (by omega), if_neg (by omega), if_pos rfl, if_pos (by omega)]; congr 1; omega
        rw [if_neg q3, if_neg q2, if_neg q1, if_neg q0]
        by_cases hlt : i < m * 4
        · rw [if_pos hlt, if_pos (by omega)]
        · rw [if_neg hlt, if_neg (by omega)]
      have HWN := Lib.hid hWN
      clear hWN
      go_wp2_with fail
      rw [← HWN.out]
      first
        | exact ⟨⟨m + 1, hlt, by first | rfl | simp, by first | rfl | (simp; omega), HT2, HR2⟩, by simp [intOf]; omega⟩
        | (go_roundw
           case rel => exact ⟨m + 1, hlt, by go_num, by congr 1; omega, HT2, HR2⟩
           case measure => simp [intOf]; omega)
    · have hnl : ¬ (m : Int) < (l.length : Int) := by omega
      have HE : Hid (m = l.length) := by show m = _; omega
      go_wp2_with fail
      go_ret
      refine ⟨by rw [HE.out]; rfl, HT.out, fun _ => ⟨b, N, _, rfl, HB.out.1, HB.out.2, HR.out, by rw [ddMarks_length]; exact hN, fun i hi => ?_⟩⟩
      rw [ddMarks_length] at hi
      rw [ddMarks_cell _ _ _ hi, if_pos (by rw [HE.out]; exact hi)]

set_option maxHeartbeats 2000000 in
set_option maxRecDepth 100000 in
theorem heldDeedS_c (A : Option Addr) (c n : Nat) (S : Nat → Prop) (k : Int) (hl : n ≤ 4294967296) (h0 : 0 ≤ k) (h1 : k ≤ 4294967296) (w : World) (h : Deeds w S A (ddMarks k n)) :
    Calls Tryd.prog 21 #[.slice A n c, .int .i64 k] w (Same (.int .i64 (k + 4 * (n : Int))) w) := by
  have HH := Lib.hid h
  clear h
  go_enter Tryd.func21, Tryd.ntmps21
  go_wp2_with fail
  go_loop [1, 5] (fun v i => ∃ m : Nat, m ≤ n ∧ i = .int .i64 (m : Nat) ∧ v = .int .i64 (k + 4 * (m : Int))) (fun _ i => n - (intOf i).toNat)
  case atStart => exact ⟨0, Nat.zero_le _, rfl, by simp⟩
  case round =>
    obtain ⟨m, hm, rfl, rfl⟩ := hrel
    by_cases hlt : m < n
    · obtain ⟨b, off, rfl, hS, hc⟩ := HH.out (by rw [ddMarks_length]; omega)
      obtain ⟨c0, c1, c2, c3⟩ := hc m (by rw [ddMarks_length]; exact hlt)
      rw [ddMarks_at _ _ _ hlt] at c0 c1 c2 c3
      simp only at c0 c1 c2 c3
      have z : ∀ x : Int, (x != x) = false := fun x => by simp
      have z0 := z (k + 4 * (m : Int))
      have z1 := z (k + 4 * (m : Int) + 1)
      have e2 : k + 4 * (m : Int) + 2 = k + 4 * (m : Int) + 1 + 1 := by omega
      have e3 : k + 4 * (m : Int) + 3 = k + 4 * (m : Int) + 1 + 1 + 1 := by omega
      rw [e2] at c2
      rw [e3] at c3
      have z2 := z (k + 4 * (m : Int) + 1 + 1)
      have z3 := z (k + 4 * (m : Int) + 1 + 1 + 1)
      have hw1 : IntKind.i64.wrap (k + 4 * (m : Int) + 1) = k + 4 * (m : Int) + 1 := IntWalk.i64_in _ ⟨by omega, by omega⟩
      have hw2 : IntKind.i64.wrap (k + 4 * (m : Int) + 1 + 1) = k + 4 * (m : Int) + 1 + 1 := IntWalk.i64_in _ ⟨by omega, by omega⟩
      have hw3 : IntKind.i64.wrap (k + 4 * (m : Int) + 1 + 1 + 1) = k + 4 * (m : Int) + 1 + 1 + 1 := IntWalk.i64_in _ ⟨by omega, by omega⟩
      have hw4 : IntKind.i64.wrap (k + 4 * (m : Int) + 1 + 1 + 1 + 1) = k + 4 * (m : Int) + 1 + 1 + 1 + 1 := IntWalk.i64_in _ ⟨by omega, by omega⟩
      have hw5 : IntKind.i64.wrap ((m : Int) + 1) = (m : Int) + 1 := IntWalk.i64_in _ ⟨by omega, by omega⟩
      have hmi : (m : Int) < (n : Int) := by omega
      clear hc e2 e3 z
      go_wp2_with fail
      first
        | exact ⟨⟨m + 1, hlt, by first | rfl | simp, by first | rfl | (simp; omega)⟩, by simp [intOf]; omega⟩
        | (go_round
           case rel => exact ⟨m + 1, hlt, by go_num, by congr 1; omega⟩
           case measure => simp [intOf]; omega)
    · have hnl : ¬ (m : Int) < (n : Int) := by omega
      have HE : Hid (m = n) := by show m = _; omega
      go_wp2_with fail
      go_ret
      exact Same.of (by rw [HE.out]; rfl)

end Go.Proofs.YtlmaeadbomnhlabDoor

namespace Go.Proofs.YtlmaeadbomnhlabDoor
set_option linter.unusedSimpArgs false
set_option linter.unusedVariables false
open Go.RowKit

theorem add_far {a b : List UInt8} (h : a.length + b.length ≤ 9223372036854775807) (w : World) : (Op.stringOp .add ⟨a.toArray⟩ ⟨b.toArray⟩).run Tryd.prog w = .ok (.string ⟨(a ++ b).toArray⟩) w := by
  rw [run_string_add_sum w _ _ (by simpa [ByteArray.size] using h), ByteArray.mk_append_mk]

theorem text_len (a : Dd) : (deedT a).length ≤ 12 := by
  by_cases h : deedT a = []
  · rw [h]; simp
  rcases text_cases h with h1 | h1 | h1 | h1 | h1
  · rw [set_text h1]
    obtain ⟨_, h2, h3, h4⟩ := setOk_iff.1 h1
    have e1 := (small_at (n := a.row) (by omega) (by omega)).hi
    have e2 := (small_at (n := a.col) (by omega) (by omega)).hi
    have e3 := (small_at (n := a.num) (by omega) (by omega)).hi
    have f1 : (numT a.row).length = 1 := by unfold numT natT; rw [if_neg (by omega), if_pos (by omega)]; rfl
    have f2 : (numT a.col).length = 1 := by unfold numT natT; rw [if_neg (by omega), if_pos (by omega)]; rfl
    simp only [List.length_cons, List.length_append]; omega
  · rw [shift_text h1]
    obtain ⟨_, h4⟩ := shiftOk_iff.1 h1
    have e3 := (small_at (n := a.num) (by omega) (by omega)).hi
    simp only [List.length_cons]; omega
  · subst h1; rw [turn_text]; decide
  · subst h1; rw [small_text]; decide
  · subst h1; rw [back_text]; decide

/-- the texts of the first k deeds -/
def jpre (l : List Dd) (k : Nat) : List UInt8 := (l.take k).flatMap fun a => deedT a ++ [10]

theorem jpre_succ (l : List Dd) {k : Nat} (h : k < l.length) : jpre l (k + 1) = jpre l k ++ (deedT (ddAt l k) ++ [10]) := by
  unfold jpre; rw [List.take_succ_eq_append_getElem h, List.flatMap_append, ← ddAt_eq l k h]; simp

theorem jpre_len (l : List Dd) : ∀ k, (jpre l k).length ≤ 13 * k
  | 0 => by simp [jpre]
  | k + 1 => by
    have ih := jpre_len l k
    by_cases h : k < l.length
    · rw [jpre_succ l h]
      have := text_len (ddAt l k)
      simp; omega
    · have : jpre l (k + 1) = jpre l k := by unfold jpre; rw [List.take_of_length_le (by omega), List.take_of_length_le (by omega)]
      rw [this]; omega

theorem jour_no {l : List Dd} {k : Nat} (hk : k < l.length) (h : deedT (ddAt l k) = []) : journalT l = [] := by
  unfold journalT
  rw [if_neg]
  intro h2
  have := List.all_eq_true.1 h2 (ddAt l k) (by rw [ddAt_eq l k hk]; exact List.getElem_mem hk)
  rw [decide_eq_true_eq] at this
  exact this h

theorem jour_yes {l : List Dd} (h : ∀ i, i < l.length → deedT (ddAt l i) ≠ []) : journalT l = jpre l l.length := by
  rw [journal_all fun a ha => ?_]
  · unfold jpre; rw [List.take_of_length_le (Nat.le_refl _)]
  · obtain ⟨i, hi, rfl⟩ := List.mem_iff_getElem.1 ha
    rw [← ddAt_eq l i hi]; exact h i hi

set_option maxHeartbeats 2000000 in
set_option maxRecDepth 100000 in
theorem journal_spec (A : Option Addr) (c : Nat) (l : List Dd) (hl : l.length ≤ 4294967296) (w : World) (h : Deeds w (· < w.heap.size) A l) :
    Calls Tryd.prog 14 #[.slice A l.length c] w (Adds (strV (journalT l)) w) := by
  have HD := Lib.hid h
  clear h
  obtain ⟨J, hJ⟩ : ∃ J, journalT l = J := ⟨_, rfl⟩
  rw [hJ]
  have HJ := Lib.hid hJ
  clear hJ
  unfold strV
  go_enter Tryd.func14, Tryd.ntmps14
  go_wp2_with fail
  go_loopw [3, 4] (fun ov iv wr => ∃ k : Nat, k ≤ l.length ∧ iv = .int .i64 (k : Nat) ∧ ov = .string ⟨(jpre l k).toArray⟩ ∧ Hid (∀ i, i < k → deedT (ddAt l i) ≠ []) ∧ Hid (Below w.heap.size w wr)) (fun _ iv _ => l.length - (intOf iv).toNat)
  case atStart => exact ⟨0, Nat.zero_le _, rfl, rfl, fun i hi => by omega, Below.refl _ _⟩
  case round =>
    obtain ⟨k, hk, rfl, rfl, HN, HW⟩ := hrel
    by_cases hlt : k < l.length
    · obtain ⟨b, off, rfl, hb, hc⟩ := (HD.out.below HW.out) (by omega)
      obtain ⟨c0, c1, c2, c3⟩ := hc k hlt
      have hjs := jpre_succ l hlt
      have hjl := jpre_len l k
      have htl := text_len (ddAt l k)
      have hDT := fun w => deedText_spec (ddAt l k) w
      have hno := jour_no hlt
      obtain ⟨⟨kd, rr, cc, nn⟩, ha⟩ : ∃ a, ddAt l k = a := ⟨_, rfl⟩
      have HNA : Hid (deedT ⟨kd, rr, cc, nn⟩ ≠ [] → ∀ i, i < k + 1 → deedT (ddAt l i) ≠ []) := fun h i hi => by
        by_cases e : i = k
        · rw [e, ha]; exact h
        · exact HN.out i (by omega)
      rw [ha] at c0 c1 c2 c3 hDT hjs htl hno
      obtain ⟨T, hT⟩ : ∃ T, deedT ⟨kd, rr, cc, nn⟩ = T := ⟨_, rfl⟩
      rw [hT] at hDT hjs htl hno HNA
      unfold ddV strV at hDT
      simp only at c0 c1 c2 c3 hDT
      have HDT := Lib.hid hDT
      have hki : (k : Int) < (l.length : Int) := by omega
      have hw1 : IntKind.i64.wrap ((k : Int) + 1) = (k : Int) + 1 := IntWalk.i64_in _ ⟨by omega, by omega⟩
      have HCC : Hid (∀ w5, Below wr.heap.size wr w5 → w5.cell? ⟨b, off + k * 4, none⟩ = some (.int .i64 kd) ∧ w5.cell? ⟨b, off + k * 4 + 1, none⟩ = some (.int .i64 rr) ∧ w5.cell? ⟨b, off + k * 4 + 2, none⟩ = some (.int .i64 cc) ∧ w5.cell? ⟨b, off + k * 4 + 3, none⟩ = some (.int .i64 nn)) := fun w5 h5 => by
        have hbw : b < wr.heap.size := Nat.lt_of_lt_of_le hb HW.out.size
        have hh : ∀ j, w5.cell? ⟨b, j, none⟩ = wr.cell? ⟨b, j, none⟩ := fun j => h5.cell (p := ⟨b, j, none⟩) hbw
        exact ⟨(hh _).trans c0, (hh _).trans c1, (hh _).trans c2, (hh _).trans c3⟩
      clear hDT ha hc
      by_cases hT0 : T = []
      · have HJN : Hid (J = []) := by show _ = _; rw [← HJ.out]; exact hno hT0
        have hte : T.isEmpty = true := by rw [hT0]; rfl
        clear hno hjs hT hjl htl
        subst hT0
        go_wp2_with (go_at_call 7; refine (HDT.out _).mono ?_; rintro e w5 ⟨rfl, hb5⟩)
        go_ret
        exact ⟨by rw [HJN.out]; rfl, HW.out.trans (hb5.mono HW.out.size)⟩
      · have hte : T.isEmpty = false := by cases T; exact absurd rfl hT0; rfl
        have HNB : Hid (∀ i, i < k + 1 → deedT (ddAt l i) ≠ []) := HNA.out hT0
        obtain ⟨P, hP⟩ : ∃ P, jpre l k = P := ⟨_, rfl⟩
        rw [hP] at hjs hjl ⊢
        have a1 := fun w => @add_far P T (by omega) w
        have a2 := fun w => @add_far (P ++ T) [10] (by simp; omega) w
        have HJS : Hid (jpre l (k + 1) = P ++ T ++ [10]) := by show _ = _; rw [hjs]; simp
        clear hno hjs hT hP hT0 hjl htl
        go_wp2_with (first | (go_at_call 7; refine (HDT.out wr).mono ?_; rintro e w5 ⟨rfl, hb5⟩; obtain ⟨d0, d1, d2, d3⟩ := HCC.out w5 hb5; have HV5 := Lib.hid (HW.out.trans (hb5.mono HW.out.size)); clear hb5) | (go_at_call 7; refine (HDT.out w5).mono ?_; rintro e w6 ⟨rfl, hb6⟩; have HV6 := Lib.hid (HV5.out.trans (hb6.mono HV5.out.size)); clear hb6))
        exact ⟨⟨k + 1, hlt, by first | rfl | simp, by rw [HJS.out]; simp, HNB, HV6⟩, by simp [intOf]; omega⟩
    · have hkl : k = l.length := by omega
      have HJN : Hid (J = jpre l k) := by show _ = _; rw [← HJ.out, hkl]; exact jour_yes (fun i hi => HN.out i (by omega))
      have hnl : ¬ (k : Int) < (l.length : Int) := by omega
      clear hkl
      go_wp2_with fail
      go_ret
      exact ⟨by rw [HJN.out]; rfl, HW.out⟩

end Go.Proofs.YtlmaeadbomnhlabDoor

namespace Go.Proofs.YtlmaeadbomnhlabDoor
set_option linter.unusedSimpArgs false
set_option linter.unusedVariables false
open Go.RowKit

/-- what is asked of the program's texts of deeds and journals; Tab: what they ask of the world -/
structure Impl12T (Tab : World → Prop) : Prop where
  stay : ∀ {w w' : World}, Tab w → Below w.heap.size w w' → Tab w'
  text : ∀ (a : Dd) (w : World) (_ : Tab w), Calls Tryd.prog 9 #[ddV a] w (Adds (strV (deedT a)) w)
  journal : ∀ (A : Option Addr) (c : Nat) (l : List Dd) (_ : l.length ≤ 4294967296) (w : World) (_ : Tab w) (_ : Deeds w (fun b => b < w.heap.size) A l), Calls Tryd.prog 16 #[.slice A l.length c] w (Adds (strV (journalT l)) w)

/-- what is asked of the program's reading of them -/
structure Impl12Q (Tab : World → Prop) : Prop where
  stay : ∀ {w w' : World}, Tab w → Below w.heap.size w w' → Tab w'
  read : ∀ (s : List UInt8) (_ : s.length ≤ 1048577) (w : World) (_ : Tab w), Calls Tryd.prog 11 #[strV s] w (Adds (.tuple #[ddV (readD s), .bool (readB s)]) w)
  readJ : ∀ (s : List UInt8) (_ : s.length ≤ 1048577) (w : World) (_ : Tab w), Calls Tryd.prog 19 #[strV s] w fun e w' => ∃ (A : Option Addr) (c : Nat), e = .returned (.tuple #[.slice A (jouL [] s).length c, .int .i64 (jouN [] s : Nat)]) ∧ Below w.heap.size w w' ∧ OwnDd w' w.heap.size w'.heap.size A (jouL [] s)

set_option maxHeartbeats 4000000 in
set_option maxRecDepth 100000 in
theorem wFnExactDeedText {Tab : World → Prop} (I : Impl12T Tab) (a : Dd) (w : World) (hT : Tab w) :
    Calls Tryd.prog 3 #[ddV a] w (Adds (.bool true) w) := by
  have hTD := fun w => toDeed_c a w
  have hS := fun w => deedText_spec a w
  have hI := fun w h => I.text a w h
  obtain ⟨T, hTT⟩ : ∃ T, deedT a = T := ⟨_, rfl⟩
  rw [hTT] at hS hI
  clear hTT
  obtain ⟨kind, row, col, num⟩ := a
  unfold ddV at hTD hS hI
  unfold strV at hS hI
  unfold ddV
  simp only at hTD hS hI
  simp only
  have HTD := Lib.hid hTD
  have HS := Lib.hid hS
  have HI := Lib.hid hI
  have HT := Lib.hid hT
  clear hT hTD hS hI
  obtain ⟨W, hW⟩ : ∃ W, W = w.alloc (.cells #[.int .i64 kind, .int .i64 row, .int .i64 col, .int .i64 num] 23) := ⟨_, rfl⟩
  have hbW : Below w.heap.size w W := by rw [hW]; exact (Below.refl _ _).alloc (Nat.le_refl _) _
  have hzW : w.heap.size < W.heap.size := by rw [hW]; simp
  have y0 := stays (p := w.heap.size) (o := 0) hzW (show W.cell? ⟨w.heap.size, 0, none⟩ = some (.int .i64 kind) from by rw [hW]; simp [go_sem])
  have y1 := stays (p := w.heap.size) (o := 1) hzW (show W.cell? ⟨w.heap.size, 1, none⟩ = some (.int .i64 row) from by rw [hW]; simp [go_sem])
  have y2 := stays (p := w.heap.size) (o := 2) hzW (show W.cell? ⟨w.heap.size, 2, none⟩ = some (.int .i64 col) from by rw [hW]; simp [go_sem])
  have y3 := stays (p := w.heap.size) (o := 3) hzW (show W.cell? ⟨w.heap.size, 3, none⟩ = some (.int .i64 num) from by rw [hW]; simp [go_sem])
  have HbW := Lib.hid hbW
  clear hbW
  go_enter Tryd.func3, Tryd.ntmps3
  go_wp2_with fail
  rw [← hW]
  clear hW
  refine (HTD.out _).mono ?_
  rintro e w1 ⟨rfl, hb1⟩
  have BW := Lib.hid hb1
  go_wp2_with fail
  refine (HS.out _).mono ?_
  rintro e w2 ⟨rfl, hb2⟩
  replace BW := Lib.hid (belT BW.out hb2)
  have hx2 := BW.out
  go_wp2_with fail
  refine (HTD.out _).mono ?_
  rintro e w3 ⟨rfl, hb3⟩
  replace BW := Lib.hid (belT BW.out hb3)
  have BEL := Lib.hid (belT HbW.out BW.out)
  go_wp2_with fail
  refine (HI.out _ (I.stay HT.out BEL.out)).mono ?_
  rintro e w4 ⟨rfl, hb4⟩
  replace BEL := Lib.hid (belT BEL.out hb4)
  go_wp2_with fail
  go_ret
  exact Adds.of rfl BEL.out

set_option maxHeartbeats 4000000 in
set_option maxRecDepth 100000 in
theorem wFnExactJournalText {Tab : World → Prop} (I : Impl12T Tab) (A : Option Addr) (c : Nat) (l : List Dd) (hl : l.length ≤ maxLen) (w : World) (hT : Tab w) (h : Deeds w (· < w.heap.size) A l) :
    Calls Tryd.prog 5 #[.slice A l.length c] w (Adds (.bool true) w) := by
  have HT := Lib.hid hT
  have R := Lib.hid h
  clear hT h
  go_enter Tryd.func5, Tryd.ntmps5
  go_wp2_with fail
  refine (szDeedS_c A c l.length 1048576 hl (by omega) (by omega) _).mono ?_
  rintro e w1 ⟨q, rfl, rfl, hq⟩
  by_cases hz : q < 0
  · clear hq
    go_wp2_with fail
    go_ret
    exact Adds.of rfl (Below.refl _ _)
  have hl2 : l.length ≤ 4294967296 := by omega
  clear hq
  go_wp2_with fail
  refine (toDeedS_c A c l hl2 _ R.out).mono ?_
  rintro e w1 ⟨A1, c1, rfl, -, -, hb1, ho1⟩
  have BEL := Lib.hid hb1
  replace R := Lib.hid ((R.out.below hb1).lt hb1.size)
  have D1 := Lib.hid (ho1.deeds.mono fun b hb => hb.2)
  clear hb1 ho1
  go_wp2_with fail
  refine (journal_spec A1 c1 l hl2 _ D1.out).mono ?_
  rintro e w2 ⟨rfl, hb2⟩
  replace BEL := Lib.hid (belT BEL.out hb2)
  replace R := Lib.hid ((R.out.below hb2).lt hb2.size)
  clear hb2 D1
  go_wp2_with fail
  refine (toDeedS_c A c l hl2 _ R.out).mono ?_
  rintro e w3 ⟨A3, c3, rfl, -, -, hb3, ho3⟩
  replace BEL := Lib.hid (belT BEL.out hb3)
  replace R := Lib.hid ((R.out.below hb3).lt hb3.size)
  have D3 := Lib.hid (ho3.deeds.mono fun b hb => hb.2)
  clear hb3 ho3
  go_wp2_with fail
  refine (I.journal A3 c3 l hl2 _ (I.stay HT.out BEL.out) D3.out).mono ?_
  rintro e w4 ⟨rfl, hb4⟩
  replace BEL := Lib.hid (belT BEL.out hb4)
  replace R := Lib.hid ((R.out.below hb4).lt hb4.size)
  replace D3 := Lib.hid ((D3.out.below hb4).lt hb4.size)
  clear hb4
  unfold strV
  go_wp2_with fail
  refine (toDeedS_c A c l hl2 _ R.out).mono ?_
  rintro e w5 ⟨A5, c5, rfl, -, -, hb5, ho5⟩
  replace BEL := Lib.hid (belT BEL.out hb5)
  replace D3 := Lib.hid ((D3.out.below hb5).lt hb5.size)
  have D5 := Lib.hid (ho5.deeds.mono fun b hb => hb.2)
  clear hb5 ho5
  go_wp2_with fail
  refine (eqDeedS_same A3 A5 c3 c5 l hl2 _ D3.out D5.out).mono ?_
  rintro e w6 ⟨rfl, hb6⟩
  replace BEL := Lib.hid (belT BEL.out hb6)
  clear hb6
  go_wp2_with fail
  go_ret
  exact Adds.of rfl BEL.out

set_option maxHeartbeats 4000000 in
set_option maxRecDepth 100000 in
theorem wFnExactReadDeed {Tab : World → Prop} (I : Impl12Q Tab) (s : List UInt8) (w : World) (hT : Tab w) :
    Calls Tryd.prog 4 #[strV s] w (Adds (.bool true) w) := by
  by_cases hs : 1048576 < s.length
  · have hd : ((1048576 : Int) < (s.length : Int)) := by omega
    unfold strV
    go_enter Tryd.func4, Tryd.ntmps4
    go_wp2_with fail
    go_ret
    exact Adds.of rfl (Below.refl _ _)
  have hd : ¬ ((1048576 : Int) < (s.length : Int)) := by omega
  have hs2 : s.length ≤ 1048577 := by omega
  have HS := Lib.hid (fun w => readDeed_spec s hs2 w)
  have HI := Lib.hid (fun w h => I.read s hs2 w h)
  have HT := Lib.hid hT
  obtain ⟨r, hr⟩ : ∃ r, readD s = r := ⟨_, rfl⟩
  obtain ⟨b, hb⟩ : ∃ b, readB s = b := ⟨_, rfl⟩
  rw [hr, hb] at HS HI
  have zb : (b != b) = false := by simp
  have HEQ := Lib.hid (fun w => eqDeed_same r w)
  clear hr hb hT
  unfold strV at HS HI ⊢
  obtain ⟨kind, row, col, num⟩ := r
  unfold ddV at HS HI HEQ
  simp only at HS HI HEQ
  go_enter Tryd.func4, Tryd.ntmps4
  go_wp2_with fail
  refine (HS.out _).mono ?_
  rintro e w1 ⟨rfl, hb1⟩
  have BEL := Lib.hid hb1
  clear hb1
  go_wp2_with fail
  obtain ⟨W1, hW1⟩ : ∃ W1, W1 = w1.alloc (.cells #[.int .i64 kind, .int .i64 row, .int .i64 col, .int .i64 num] 25) := ⟨_, rfl⟩
  have hbW1 : Below w1.heap.size w1 W1 := by rw [hW1]; exact (Below.refl _ _).alloc (Nat.le_refl _) _
  have hzW1 : w1.heap.size < W1.heap.size := by rw [hW1]; simp
  have y0 := stays (p := w1.heap.size) (o := 0) hzW1 (show W1.cell? ⟨w1.heap.size, 0, none⟩ = some (.int .i64 kind) from by rw [hW1]; simp [go_sem])
  have y1 := stays (p := w1.heap.size) (o := 1) hzW1 (show W1.cell? ⟨w1.heap.size, 1, none⟩ = some (.int .i64 row) from by rw [hW1]; simp [go_sem])
  have y2 := stays (p := w1.heap.size) (o := 2) hzW1 (show W1.cell? ⟨w1.heap.size, 2, none⟩ = some (.int .i64 col) from by rw [hW1]; simp [go_sem])
  have y3 := stays (p := w1.heap.size) (o := 3) hzW1 (show W1.cell? ⟨w1.heap.size, 3, none⟩ = some (.int .i64 num) from by rw [hW1]; simp [go_sem])
  replace BEL := Lib.hid (belT BEL.out hbW1)
  have HBW1 := Lib.hid hbW1
  clear hbW1
  rw [← hW1]
  clear hW1
  refine (HI.out _ (I.stay HT.out BEL.out)).mono ?_
  rintro e w2 ⟨rfl, hb2⟩
  replace BEL := Lib.hid (belT BEL.out hb2)
  have v0 := y0 _ hb2
  have v1 := y1 _ hb2
  have v2 := y2 _ hb2
  have v3 := y3 _ hb2
  have lt1 : w1.heap.size < w2.heap.size := Nat.lt_of_lt_of_le hzW1 hb2.size
  clear y0 y1 y2 y3 hb2
  obtain ⟨W2, hW2⟩ : ∃ W2, W2 = w2.alloc (.cells #[.int .i64 kind, .int .i64 row, .int .i64 col, .int .i64 num] 25) := ⟨_, rfl⟩
  replace BEL : Hid (Below w.heap.size w W2) := by rw [hW2]; exact BEL.out.alloc BEL.out.size _
  go_wp2_with fail
  refine (HEQ.out _).mono ?_
  rintro e w3 ⟨rfl, hb3⟩
  rw [← hW2] at hb3
  replace BEL := Lib.hid (belT BEL.out hb3)
  go_wp2_with fail
  go_ret
  exact Adds.of rfl BEL.out

set_option maxHeartbeats 4000000 in
set_option maxRecDepth 100000 in
theorem wFnExactReadJournal {Tab : World → Prop} (I : Impl12Q Tab) (s : List UInt8) (w : World) (hT : Tab w) :
    Calls Tryd.prog 6 #[strV s] w (Adds (.bool true) w) := by
  by_cases hs : 1048576 < s.length
  · have hd : ((1048576 : Int) < (s.length : Int)) := by omega
    unfold strV
    go_enter Tryd.func6, Tryd.ntmps6
    go_wp2_with fail
    go_ret
    exact Adds.of rfl (Below.refl _ _)
  have hd : ¬ ((1048576 : Int) < (s.length : Int)) := by omega
  have hs2 : s.length ≤ 1048577 := by omega
  have HS := Lib.hid (fun w => readJournal_spec s hs2 w)
  have HI := Lib.hid (fun w h => I.readJ s hs2 w h)
  have HT := Lib.hid hT
  have hlen : (jouL [] s).length ≤ 1048577 := by have := read_len s []; omega
  obtain ⟨l, hr⟩ : ∃ l, jouL [] s = l := ⟨_, rfl⟩
  obtain ⟨n, hb⟩ : ∃ n : Nat, jouN [] s = n := ⟨_, rfl⟩
  rw [hr, hb] at HS HI
  rw [hr] at hlen
  have zb : ((n : Int) != (n : Int)) = false := by simp
  clear hr hb hT
  unfold strV at HS HI ⊢
  go_enter Tryd.func6, Tryd.ntmps6
  go_wp2_with fail
  refine (HS.out _).mono ?_
  rintro e w1 ⟨A1, c1, rfl, -, -, hb1, ho1⟩
  have BEL := Lib.hid hb1
  have V := Lib.hid (ho1.deeds.mono fun b hb => hb.2)
  replace hb1 := hb1.size
  clear ho1
  go_wp2_with fail
  refine (HI.out _ (I.stay HT.out BEL.out)).mono ?_
  rintro e w2 ⟨A2, c2, rfl, hb2, ho2⟩
  replace BEL := Lib.hid (belT BEL.out hb2)
  replace V := Lib.hid (V.out.below hb2)
  have G := Lib.hid ho2
  have le1 : w1.heap.size ≤ w2.heap.size := hb2.size
  have hl4 : l.length ≤ 4294967296 := by omega
  clear hb2 ho2
  go_wp2_with fail
  refine (eqDeedS_same A2 A1 c2 c1 l hl4 _ (G.out.deeds.mono fun b hb => hb.2) (V.out.lt le1)).mono ?_
  rintro e w3 ⟨rfl, hb3⟩
  replace BEL := Lib.hid (belT BEL.out hb3)
  replace V := Lib.hid (V.out.below (hb3.mono le1))
  replace G := Lib.hid (G.out.keepW hb3.size fun b _ hb => hb3.block b hb)
  replace le1 := Nat.le_trans le1 hb3.size
  have leW : w.heap.size ≤ w1.heap.size := hb1
  clear hb3
  go_wp2_with fail
  refine (markDeedS_c A2 c2 l w1.heap.size w3.heap.size 1 hl4 (by omega) (by omega) _ G.out).mono ?_
  rintro e w4 ⟨rfl, hf, ho⟩
  replace BEL := Lib.hid (BEL.out.trans (hf.below leW))
  replace V := Lib.hid (V.out.below (hf.below (Nat.le_refl _)))
  have hs4 : w4.heap.size = w3.heap.size := hf.size
  rw [← hs4] at ho
  replace G := Lib.hid ho
  replace le1 : w1.heap.size ≤ w4.heap.size := by omega
  clear hf ho hs4
  go_wp2_with fail
  refine (heldDeedS_c A2 c2 l.length _ 1 hl4 (by omega) (by omega) _ G.out.deeds).mono ?_
  rintro e w5 ⟨rfl, rfl⟩
  have q0 : ¬ (1 + 4 * (l.length : Int)) < 0 := by omega
  have q1 : ((1 + 4 * (l.length : Int)) != (1 + 4 * (l.length : Int))) = false := by simp
  go_wp2_with fail
  refine (HI.out _ (I.stay HT.out BEL.out)).mono ?_
  rintro e w6 ⟨A6, c6, rfl, hb6, ho6⟩
  replace BEL := Lib.hid (belT BEL.out hb6)
  replace V := Lib.hid (V.out.below (hb6.mono le1))
  replace G := Lib.hid (G.out.keepW hb6.size fun b _ hb => hb6.block b hb)
  replace le1 := Nat.le_trans le1 hb6.size
  have H := Lib.hid (ho6.deeds.mono fun b hb => hb.2)
  clear hb6 ho6
  go_wp2_with fail
  refine (eqDeedS_same A6 A1 c6 c1 l hl4 _ H.out (V.out.lt le1)).mono ?_
  rintro e w7 ⟨rfl, hb7⟩
  replace BEL := Lib.hid (belT BEL.out hb7)
  replace G := Lib.hid (G.out.keepW hb7.size fun b _ hb => hb7.block b hb)
  clear hb7 H V
  go_wp2_with fail
  refine (heldDeedS_c A2 c2 l.length _ 1 hl4 (by omega) (by omega) _ G.out.deeds).mono ?_
  rintro e w8 ⟨rfl, rfl⟩
  go_wp2_with fail
  go_ret
  exact Adds.of rfl BEL.out

end Go.Proofs.YtlmaeadbomnhlabDoor
