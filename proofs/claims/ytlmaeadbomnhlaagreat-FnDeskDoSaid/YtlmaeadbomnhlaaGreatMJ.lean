/- Texts in one: ImplD, ImplE, ImplF, ImplG. -/
import Derived.Test.YtlmaeadbomnhlaaGreatME
import Derived.Laws.MakeOwn
namespace Go.Proofs.YtlmaeadbomnhlaaGreat
set_option linter.unusedSimpArgs false
set_option linter.unusedVariables false
open Go.RowKit
theorem cases16 {s : Nat} (h : s < 16) : s = 0 ∨ s = 1 ∨ s = 2 ∨ s = 3 ∨ s = 4 ∨ s = 5 ∨ s = 6 ∨ s = 7 ∨ s = 8 ∨ s = 9 ∨ s = 10 ∨ s = 11 ∨ s = 12 ∨ s = 13 ∨ s = 14 ∨ s = 15 := by omega
def popT (s : Nat) : Nat := [0, 1, 1, 2, 1, 2, 2, 3, 1, 2, 2, 3, 2, 3, 3, 4].getD s 0
theorem pop_tab {s : Nat} (h : s < 16) : popN s = popT s := by
  rcases cases16 h with rfl | rfl | rfl | rfl | rfl | rfl | rfl | rfl | rfl | rfl | rfl | rfl | rfl | rfl | rfl | rfl <;> simp [popN_step, popN_zero, popT]
theorem pop_le4 {s : Nat} (h : s < 16) : popN s ≤ 4 := by
  rw [pop_tab h]
  rcases cases16 h with rfl | rfl | rfl | rfl | rfl | rfl | rfl | rfl | rfl | rfl | rfl | rfl | rfl | rfl | rfl | rfl <;> decide
set_option maxHeartbeats 4000000 in
theorem ones64 (s : Nat) (hs : s < 16) (w : World) :
    Calls Tryz.prog 111 #[.int .u64 (s : Nat)] w (Same (.int .i64 (popN s : Nat)) w) := by
  rw [pop_tab hs]
  go_enter Tryz.func111, Tryz.ntmps111
  go_wp2
  go_ret
  exact Same.of (by rcases cases16 hs with rfl | rfl | rfl | rfl | rfl | rfl | rfl | rfl | rfl | rfl | rfl | rfl | rfl | rfl | rfl | rfl <;> kernel_rfl)
set_option maxHeartbeats 4000000 in
theorem ones (s : Nat) (hs : s < 16) (w : World) :
    Calls Tryz.prog 101 #[.int .u64 (s : Nat)] w (Same (.int .i64 (popN s : Nat)) w) := by
  have HC := fun w' => ones64 s hs w'
  go_enter Tryz.func101, Tryz.ntmps101
  go_wp2_with (go_at_call 111; refine (HC _).mono ?_; rintro e w1 ⟨rfl, rfl⟩)
  go_ret
  exact Same.of rfl
set_option maxHeartbeats 4000000 in
theorem sizeOfI (s : Nat) (hs : s < 16) (w : World) :
    Calls Tryz.prog 83 #[.int .i64 (s : Nat)] w (Same (.int .i64 (popN s : Nat)) w) := by
  have HC := fun w' => ones s hs w'
  have hw : IntKind.u64.wrap (s : Int) = (s : Int) := by rw [IntKind.wrap_u64]; omega
  go_enter Tryz.func83, Tryz.ntmps83
  go_wp2_with (go_at_call 101; refine (HC _).mono ?_; rintro e w1 ⟨rfl, rfl⟩)
  go_ret
  exact Same.of rfl
set_option maxHeartbeats 4000000 in
theorem setToldI (set : Int) (m : Nat) (hm : m ≤ 4) (w : World) :
    Calls Tryz.prog 84 #[.int .i64 set, .int .i64 (m : Nat)] w (Same (.bool (inR set 1 (pw m))) w) := by
  have h4 : m = 0 ∨ m = 1 ∨ m = 2 ∨ m = 3 ∨ m = 4 := by omega
  by_cases h1 : 1 ≤ set
  · rcases h4 with rfl | rfl | rfl | rfl | rfl
    all_goals go_enter Tryz.func84, Tryz.ntmps84
    all_goals go_wp2
    all_goals go_ret
    all_goals exact Same.of (by simp [inR, pw]; first | omega | exact decide_eq_decide.2 (by omega) | (rw [Bool.eq_iff_iff, Bool.and_eq_true]; simp only [decide_eq_true_eq]; omega))
  · have hd : decide ((1 : Int) ≤ set) = false := by simp; omega
    have hf : inR set 1 (pw m) = false := by simp [inR]; omega
    rw [hf]
    go_enter Tryz.func84, Tryz.ntmps84
    go_wp2
    go_ret
    exact Same.of rfl
theorem and1 {t : Nat} (h : t < 16) : bits BinOp.and IntKind.i64 (t : Int) 1 = ((t % 2 : Nat) : Int) := by
  rcases cases16 h with rfl | rfl | rfl | rfl | rfl | rfl | rfl | rfl | rfl | rfl | rfl | rfl | rfl | rfl | rfl | rfl <;> decide +kernel
theorem shr_cast (s k : Nat) : (s : Int) / 2 ^ k = ((s / 2 ^ k : Nat) : Int) := by simp
theorem bP_ge {s k : Nat} (h : s / 2 ^ k = 0) {i : Nat} (hi : k ≤ i) : bP s i = false := by
  unfold bP
  have : s / 2 ^ i = 0 := by
    rw [Nat.div_eq_zero_iff] at h ⊢
    rcases h with h | h
    · exact absurd h (by have := Nat.two_pow_pos k; omega)
    · exact .inr (Nat.lt_of_lt_of_le h (Nat.pow_le_pow_right (by omega) hi))
  rw [this]; rfl
theorem bP_big {s : Nat} (h : s < 16) {i : Nat} (hi : 4 ≤ i) : bP s i = false := bP_ge (k := 4) (by rw [Nat.div_eq_zero_iff]; omega) hi
theorem selRow_upto {Q : Nat → Bool} {F : Nat → Int} {k m : Nat} (hk : k ≤ m) (h : ∀ i, k ≤ i → i < m → Q i = false) : selRow Q F m = selRow Q F k := by
  induction m with
  | zero => have : k = 0 := (by omega); rw [this]
  | succ m ih =>
    by_cases e : k = m + 1
    · rw [e]
    · rw [selRow_no (h m (by omega) (by omega))]; exact ih (by omega) (fun i h1 h2 => h i h1 (by omega))
theorem selTab_upto {Q : Nat → Bool} {F : Nat → List Int} {k m : Nat} (hk : k ≤ m) (h : ∀ i, k ≤ i → i < m → Q i = false) : selTab Q F m = selTab Q F k := by
  induction m with
  | zero => have : k = 0 := (by omega); rw [this]
  | succ m ih =>
    by_cases e : k = m + 1
    · rw [e]
    · rw [selTab_no (h m (by omega) (by omega))]; exact ih (by omega) (fun i h1 h2 => h i h1 (by omega))
def plc (s : Nat) : List Int := selRow (bP s) (fun i => (i : Int)) 4
set_option maxHeartbeats 4000000 in
set_option maxRecDepth 100000 in
theorem places (s : Nat) (hs : s < 16) (w : World) :
    Calls Tryz.prog 86 #[.int .i64 (s : Nat)] w (NewList w (plc s)) := by
  have HC := fun w' => sizeOfI s hs w'
  have hp4 := pop_le4 hs
  obtain ⟨i0, hi0, hz0, hz1, hz2⟩ := info_parts infoI
  have hmk := run_make (P := Tryz.prog) w 52 3 i0 (.int .i64 0) Tryz.underlying52 hi0 hz0 .i64 .i64 0 (popN s : Nat) (by omega) (by omega) (by rw [hz2]; omega) (by omega)
  rw [hz1] at hmk
  simp only [Int.toNat_zero, Int.toNat_natCast, Nat.mul_one] at hmk
  have HI0 := Lib.hid hi0
  have HZ0 := Lib.hid hz0
  have HZ1 := Lib.hid hz1
  have HZ2 := Lib.hid hz2
  clear hi0 hz0 hz1 hz2
  obtain ⟨p, hp⟩ : ∃ p, popN s = p := ⟨_, rfl⟩
  rw [hp] at hmk hp4 HC
  have G0 : Hid (Grows (w.alloc (.cells (madeCells #[.int .i64 0] p) 3)) w.heap.size (.slice (some ⟨w.heap.size, 0, none⟩) 0 p) []) := World.ownsRow_made w _ p (Nat.le_refl _) (by unfold maxLen; omega) (by rw [size_madeCells]; omega)
  clear hp
  have HS := Lib.hid hs
  clear hs
  go_enter Tryz.func86, Tryz.ntmps86
  go_wp2_with (go_at_call 83; refine (HC _).mono ?_; rintro e w1 ⟨rfl, rfl⟩)
  clear hmk
  go_loopw [3, 4] (fun v i wr => ∃ k : Nat, k ≤ 4 ∧ i = .int .i64 k ∧ Hid (Grows wr w.heap.size v (selRow (bP s) (fun i => (i : Int)) k)) ∧ Hid (Below w.heap.size w wr)) (fun _ i _ => 5 - (intOf i).toNat)
  case atStart => exact ⟨0, Nat.zero_le _, rfl, G0, (Below.refl _ _).alloc (Nat.le_refl _) _⟩
  case round =>
    obtain ⟨k, hk, rfl, HG, HB⟩ := hrel
    have hbs := HB.out.size
    obtain ⟨t, ht⟩ : ∃ t : Nat, s / 2 ^ k = t := ⟨_, rfl⟩
    have ht16 : t < 16 := by rw [← ht]; exact Nat.lt_of_le_of_lt (Nat.div_le_self _ _) HS.out
    have hsh : (s : Int) / 2 ^ k = (t : Int) := by rw [shr_cast, ht]
    have hand := and1 ht16
    by_cases h0 : 0 < t
    · have hk4 : k < 4 := by
        by_cases e : k = 4
        · subst e; rw [Nat.div_eq_of_lt (by have := HS.out; omega)] at ht; omega
        · omega
      rcases hb : bP s k with _ | _
      · have e1 : (bits BinOp.and IntKind.i64 (t : Int) 1 == 1) = false := by
          have : t % 2 = 0 := by unfold bP at hb; rw [ht] at hb; simp at hb; omega
          rw [hand, this]; rfl
        have HN : Hid (selRow (bP s) (fun i => (i : Int)) (k + 1) = selRow (bP s) (fun i => (i : Int)) k) := selRow_no hb
        clear hand hb ht
        go_wp2_with fail
        go_roundw
        case rel => exact ⟨k + 1, by omega, by go_num, by rw [HN.out]; exact HG.out, HB.out⟩
        case measure => simp [intOf]; omega
      · have e1 : (bits BinOp.and IntKind.i64 (t : Int) 1 == 1) = true := by
          have : t % 2 = 1 := by unfold bP at hb; rw [ht] at hb; simpa using hb
          rw [hand, this]; rfl
        have HN : Hid (selRow (bP s) (fun i => (i : Int)) (k + 1) = selRow (bP s) (fun i => (i : Int)) k ++ [(k : Int)]) := selRow_yes hb
        have hlen : (selRow (bP s) (fun i => (i : Int)) k).length ≤ k := by rw [selRow_length]; exact cnt_le _ _
        clear hand hb ht
        go_wp2_with (at_builtin; refine wpList_append_own_at _ rfl (.tmp 19) (.tmp 21) _ rfl w.heap.size 3 i0 (.int .i64 0) 1 8 Tryz.underlying52 HI0.out HZ0.out HZ1.out HZ2.out rfl (by decide) _ _ _ rfl (HG.out.alloc _) ⟨wr.heap.size, 0, none⟩ 1 1 [.int .i64 (k : Int)] rfl rfl (cell_one_new _ _ _) ?c2 ?c3 ?c4 ?c5 ?_)
        case c2 => intro u hu; simp at hu; subst hu; rfl
        case c3 => unfold maxLen; omega
        case c4 => omega
        case c5 => simp; omega
        intro v' w4 hown hgrow _ _
        have HG2 : Hid (Grows w4 w.heap.size v' (selRow (bP s) (fun i => (i : Int)) (k + 1))) := by rw [HN.out]; exact Grows.snoc hown
        have HB2 : Hid (Below w.heap.size w w4) := HG.out.below hgrow HB.out (Nat.le_refl _) hbs
        clear hown hgrow
        go_wp2_with fail
        go_roundw
        case rel => exact ⟨k + 1, by omega, by go_num, HG2, HB2⟩
        case measure => simp [intOf]; omega
    · have HE : Hid (plc s = selRow (bP s) (fun i => (i : Int)) k) := by
        unfold plc; exact selRow_upto hk (fun i h1 _ => bP_ge (k := k) (by omega) h1)
      obtain rfl : t = 0 := by omega
      clear hand ht
      go_wp2_with fail
      go_ret
      exact NewList.of rfl (by rw [HE.out]; exact HG.out) HB.out
end Go.Proofs.YtlmaeadbomnhlaaGreat

namespace Go.Proofs.YtlmaeadbomnhlaaGreat
set_option linter.unusedSimpArgs false
set_option linter.unusedVariables false
open Go.RowKit
theorem plc_length (s : Nat) : (plc s).length = cnt (bP s) 4 := by unfold plc; rw [selRow_length]
theorem nth_plc (s i : Nat) (h : i < cnt (bP s) 4) : nth (plc s) i = ((sel (bP s) 4).getD i 0 : Nat) := by
  unfold plc; rw [selRow_map, nth_mapN _ _ _ (by rw [sel_length]; exact h)]
theorem sel_take (P : Nat → Bool) (k i : Nat) (h : i < cnt P k) : (sel P k).take (i + 1) = (sel P k).take i ++ [(sel P k).getD i 0] := by
  have hl : i < (sel P k).length := by rw [sel_length]; exact h
  rw [List.take_add_one, List.getElem?_eq_getElem hl]; simp [List.getD, hl]
def prt (g : List (List Int)) (r q : Nat) : List (List Int) := selTab (bP r) (fun i => selRow (bP q) (nth (rowAt g i)) 4) 4
def rowUp (g : List (List Int)) (q a m : Nat) : List Int := ((sel (bP q) 4).take m).map (nth (rowAt g a))
def tabUp (g : List (List Int)) (r q k : Nat) : List (List Int) := ((sel (bP r) 4).take k).map (fun a => rowUp g q a (cnt (bP q) 4))
theorem rowUp_succ (g : List (List Int)) (q a m : Nat) (h : m < cnt (bP q) 4) : rowUp g q a (m + 1) = rowUp g q a m ++ [nth (rowAt g a) ((sel (bP q) 4).getD m 0)] := by
  unfold rowUp; rw [sel_take _ _ _ h, List.map_append]; rfl
theorem tabUp_succ (g : List (List Int)) (r q k : Nat) (h : k < cnt (bP r) 4) : tabUp g r q (k + 1) = tabUp g r q k ++ [rowUp g q ((sel (bP r) 4).getD k 0) (cnt (bP q) 4)] := by
  unfold tabUp; rw [sel_take _ _ _ h, List.map_append]; rfl
theorem rowUp_len (g : List (List Int)) (q a m : Nat) : (rowUp g q a m).length ≤ m := by unfold rowUp; rw [List.length_map]; exact List.length_take_le _ _
theorem tabUp_len (g : List (List Int)) (r q k : Nat) : (tabUp g r q k).length ≤ k := by unfold tabUp; rw [List.length_map]; exact List.length_take_le _ _
theorem prt_up (g : List (List Int)) (r q : Nat) : prt g r q = tabUp g r q (cnt (bP r) 4) := by
  unfold prt tabUp rowUp
  rw [selTab_map, ← sel_length (bP r) 4, List.take_length]
  congr 1; funext i; rw [← sel_length (bP q) 4, List.take_length]; exact selRow_map _ _ _
set_option maxHeartbeats 4000000 in
set_option maxRecDepth 100000 in
theorem partOfI (T : Option Addr) (c : Nat) (g : List (List Int)) (r q : Nat) (hr : r < 16) (hq : q < 16) (h1 : ∀ i, bP r i = true → i < g.length) (h2 : ∀ i j, bP r i = true → bP q j = true → j < (rowAt g i).length) (w : World) (h : Rows2 w (· < w.heap.size) T g) :
    Calls Tryz.prog 63 #[.slice T g.length c, .int .i64 (r : Nat), .int .i64 (q : Nat)] w (NewTable w (prt g r q)) := by
  have HR := Lib.hid h
  have H1 := Lib.hid h1
  have H2 := Lib.hid h2
  have HPR := fun w' => places r hr w'
  have HPQ := fun w' => places q hq w'
  have HP := Lib.hid (prt_up g r q)
  obtain ⟨i0, hi0, hz0, hz1, hz2⟩ := info_parts infoI
  obtain ⟨i1, hi1, hy0, hy1, hy2⟩ := info_parts infoR
  have HI0 := Lib.hid hi0
  have HZ0 := Lib.hid hz0
  have HZ1 := Lib.hid hz1
  have HZ2 := Lib.hid hz2
  have HI1 := Lib.hid hi1
  have HY0 := Lib.hid hy0
  have HY1 := Lib.hid hy1
  have HY2 := Lib.hid hy2
  clear h h1 h2 hi0 hz0 hz1 hz2 hi1 hy0 hy1 hy2
  have cr4 := cnt_le (bP r) 4
  have cq4 := cnt_le (bP q) 4
  have elr := plc_length r
  have elq := plc_length q
  go_enter Tryz.func63, Tryz.ntmps63
  go_wp2_with (go_at_call 86; refine (HPR _).mono ?_; rintro e w1 ⟨A1, c1, rfl, hb1, ho1⟩)
  have HO1 := Lib.hid ho1
  have HB1 := Lib.hid hb1
  clear ho1 hb1
  try rw [elr]
  go_loopw [7, 16] (fun v i wr => ∃ k : Nat, k ≤ cnt (bP r) 4 ∧ i = .int .i64 k ∧ Hid (∃ (A : Nat → Option Addr) (C : Nat → Nat), GrowsR wr w1.heap.size wr.heap.size v A C (tabUp g r q k)) ∧ Hid (Below w1.heap.size w1 wr)) (fun _ i _ => 5 - (intOf i).toNat)
  case atStart => exact ⟨0, Nat.zero_le _, rfl, ⟨fun _ => none, fun _ => 0, GrowsR.nil _ (Nat.le_refl _) _ _⟩, Below.refl _ _⟩
  case round =>
    obtain ⟨k, hk, rfl, HT, HW⟩ := hrel
    have hws := HW.out.size
    by_cases hlt : k < cnt (bP r) 4
    · have hsel := sel_at hlt
      obtain ⟨a, ha⟩ : ∃ a, (sel (bP r) 4).getD k 0 = a := ⟨_, rfl⟩
      have hna := nth_plc r k hlt
      have HTK : Hid (tabUp g r q (k + 1) = tabUp g r q k ++ [rowUp g q a (cnt (bP q) 4)]) := by rw [← ha]; exact tabUp_succ g r q k hlt
      rw [ha] at hsel hna
      have hag := H1.out a hsel.2.1
      have HA2 : Hid (∀ j, bP q j = true → j < (rowAt g a).length) := fun j hj => H2.out a j hsel.2.1 hj
      have R1 := (HO1.out.ints.mono (T := (· < w1.heap.size)) fun b hb => hb.2)
      obtain ⟨ba, oa, hA, hS1, hc1⟩ := (keepInts HW.out R1).at_ (i := k) (by rw [elr]; exact hlt)
      have hcA := hc1 k (by rw [elr]; exact hlt)
      rw [hna] at hcA
      subst hA
      obtain ⟨AA, CC, hgr⟩ := HT.out
      have HGR := Lib.hid hgr
      clear hgr HT hsel hna ha R1 hc1
      go_wp2_with (go_at_call 86; refine (HPQ _).mono ?_; rintro e w2 ⟨A2, c2, rfl, hb2, ho2⟩)
      have HO2 := Lib.hid ho2
      have HB2 := Lib.hid hb2
      clear ho2 hb2 hcA
      try rw [elq]
      have HGV0 := Lib.hid (HGR.out.keep HB2.out)
      clear HGR
      have hb2s := HB2.out.size
      go_loopw [10, 23] (fun v i wi => ∃ m : Nat, m ≤ cnt (bP q) 4 ∧ i = .int .i64 m ∧ Hid (Grows wi w2.heap.size v (rowUp g q a m)) ∧ Hid (Below w2.heap.size w2 wi)) (fun _ i _ => 5 - (intOf i).toNat)
      case atStart => exact ⟨0, Nat.zero_le _, rfl, Grows.nil _ _, Below.refl _ _⟩
      case round =>
        obtain ⟨m, hm, rfl, HO, HV⟩ := hrel
        have hvs := HV.out.size
        have hlenR := rowUp_len g q a m
        by_cases hlm : m < cnt (bP q) 4
        · have hsel := sel_at hlm
          obtain ⟨b, hb⟩ : ∃ b, (sel (bP q) 4).getD m 0 = b := ⟨_, rfl⟩
          have hna := nth_plc q m hlm
          have HTM : Hid (rowUp g q a (m + 1) = rowUp g q a m ++ [nth (rowAt g a) b]) := by rw [← hb]; exact rowUp_succ g q a m hlm
          rw [hb] at hsel hna
          have hbg := HA2.out b hsel.2.1
          have R1 := (HO2.out.ints.mono (T := (· < w2.heap.size)) fun b hb => hb.2)
          obtain ⟨ba2, oa2, hA2, hS2, hc2'⟩ := (keepInts HV.out R1).at_ (i := m) (by rw [elq]; exact hlm)
          have hcB := hc2' m (by rw [elq]; exact hlm)
          rw [hna] at hcB
          subst hA2
          have R2 := Lib.hid (keepRows (belT (belT (belT HB1.out HW.out) HB2.out) HV.out) HR.out)
          obtain ⟨bt, ot, rfl⟩ := R2.out.some (by omega)
          obtain ⟨bm, om, cm, hd1, hd2, hd3, hd4, hd5⟩ := R2.out.cell hag hbg
          unfold maxLen at hd3
          have q1 : (0 : Int) ≤ (a : Int) := by omega
          have q2 : (a : Int) < (g.length : Int) := by omega
          have q3 : (0 : Int) ≤ (b : Int) := by omega
          have q4 : (b : Int) < ((rowAt g a).length : Int) := by omega
          clear hsel hna hb R1 hc2' R2
          go_wp2_with (at_builtin; refine wpList_append_own_at _ rfl (.tmp 27) (.tmp 35) _ rfl w2.heap.size 3 i0 (.int .i64 0) 1 8 Tryz.underlying52 HI0.out HZ0.out HZ1.out HZ2.out rfl (by decide) _ _ _ rfl (HO.out.alloc _) ⟨wr.heap.size, 0, none⟩ 1 1 [.int .i64 (nth (rowAt g a) b)] rfl rfl (cell_one_new _ _ _) ?c2 ?c3 ?c4 ?c5 ?_)
          case c2 => intro u hu; simp at hu; subst hu; rfl
          case c3 => unfold maxLen; omega
          case c4 => omega
          case c5 => simp; omega
          intro v' w4 hown hgrow _ _
          have HN : Hid (Grows w4 w2.heap.size v' (rowUp g q a (m + 1))) := by rw [HTM.out]; exact Grows.snoc hown
          have HV2 : Hid (Below w2.heap.size w2 w4) := HO.out.below hgrow HV.out (Nat.le_refl _) hvs
          clear hown hgrow
          go_wp2_with fail
          go_roundw
          case rel => exact ⟨m + 1, by omega, by go_num, HN, HV2⟩
          case measure => simp [intOf]; omega
        · have hmq : m = cnt (bP q) 4 := by omega
          subst hmq
          obtain ⟨An, cn, hv, hcn1, hcn2, hon⟩ := HO.out.own'
          have HGV := Lib.hid (HGV0.out.keep (HV.out.mono (by omega)))
          have HON := Lib.hid (hon.more hb2s (Nat.le_refl _))
          have hlenT := tabUp_len g r q k
          subst hv
          clear hon
          go_wp2_with (at_builtin; refine wpList_append_own_at _ rfl (.tmp 38) (.tmp 40) _ rfl w1.heap.size 52 i1 (.slice none 0 0) 1 24 Tryz.underlying23 HI1.out HY0.out HY1.out HY2.out rfl (by decide) _ _ _ rfl (HGV.out.top.alloc _) ⟨wr.heap.size, 0, none⟩ 1 1 [.slice An (rowUp g q a (cnt (bP q) 4)).length cn] rfl rfl (cell_one_new _ _ _) ?c2 ?c3 ?c4 ?c5 ?_)
          case c2 => intro u hu; simp at hu; subst hu; rfl
          case c3 => unfold maxLen; omega
          case c4 => omega
          case c5 => simp; omega
          intro v' w4 hown hgrow _ hat
          have HN : Hid (∃ (A : Nat → Option Addr) (C : Nat → Nat), GrowsR w4 w1.heap.size w4.heap.size v' A C (tabUp g r q (k + 1))) := by
            rw [HTK.out]
            exact HGV.out.snoc HON.out hcn1 hcn2 hws hown hgrow (by rcases hat with e | e; exact .inl e; exact .inr (by rw [e]; try simp))
          have HW2 : Hid (Below w1.heap.size w1 w4) := HGV.out.below hgrow (belT (belT HW.out HB2.out) HV.out) (Nat.le_refl _) (by omega)
          clear hown hgrow hat
          go_wp2_with fail
          go_roundw
          case rel => exact ⟨k + 1, by omega, by go_num, HN, HW2⟩
          case measure => simp [intOf]; omega
    · have hkr : k = cnt (bP r) 4 := by omega
      subst hkr
      obtain ⟨AA, CC, hgr⟩ := HT.out
      rw [← HP.out] at hgr
      obtain ⟨T', c', hv, _, _, ho⟩ := hgr.table
      subst hv
      have HO := Lib.hid ho
      have hb1s := HB1.out.size
      clear ho hgr HT
      go_wp2_with fail
      go_ret
      exact ⟨T', c', rfl, belT HB1.out HW.out, HO.out.more hb1s (Nat.le_refl _)⟩
def less1 (k a : Nat) : Nat := 2 ^ k - 1 - 2 ^ a
theorem less1_lt {k : Nat} (hk : k ≤ 4) (a : Nat) : less1 k a < 16 := by
  have h1 : k = 0 ∨ k = 1 ∨ k = 2 ∨ k = 3 ∨ k = 4 := by omega
  have h2 : 2 ^ k - 1 < 16 := by rcases h1 with rfl | rfl | rfl | rfl | rfl <;> decide
  exact Nat.lt_of_le_of_lt (Nat.sub_le _ _) h2
theorem bP_less1 {k a i : Nat} (hk : k ≤ 4) (ha : a < k) : bP (less1 k a) i = (decide (i < k) && (i != a)) := by
  have hb := less1_lt hk a
  by_cases hi : i < 4
  · have h1 : k = 1 ∨ k = 2 ∨ k = 3 ∨ k = 4 := by omega
    have h2 : i = 0 ∨ i = 1 ∨ i = 2 ∨ i = 3 := by omega
    have h3 : a = 0 ∨ a = 1 ∨ a = 2 ∨ a = 3 := by omega
    rcases h1 with rfl | rfl | rfl | rfl <;> rcases h3 with rfl | rfl | rfl | rfl <;> (first | omega | (rcases h2 with rfl | rfl | rfl | rfl <;> decide))
  · rw [bP_big hb (by omega)]
    simp; omega
theorem selRow_congrQ {Q Q' : Nat → Bool} {F : Nat → Int} {k : Nat} (h : ∀ i, i < k → Q i = Q' i) : selRow Q F k = selRow Q' F k := by
  induction k with
  | zero => rfl
  | succ k ih => simp only [selRow]; rw [ih (fun i hi => h i (by omega)), h k (by omega)]
theorem selTab_congrQ {Q Q' : Nat → Bool} {F F' : Nat → List Int} {k : Nat} (h : ∀ i, i < k → Q i = Q' i) (hF : ∀ i, i < k → F i = F' i) : selTab Q F k = selTab Q' F' k := by
  induction k with
  | zero => rfl
  | succ k ih => simp only [selTab]; rw [ih (fun i hi => h i (by omega)) (fun i hi => hF i (by omega)), h k (by omega), hF k (by omega)]
theorem prt_wo {m : List (List Int)} {k a b : Nat} (hk : k ≤ 4) (hl : m.length = k) (ha : a < k) (hb : b < k) : prt m (less1 k a) (less1 k b) = woL m a b := by
  unfold prt woL
  rw [hl, selTab_upto (k := k) hk (fun i h1 _ => by rw [bP_less1 hk ha]; simp; omega)]
  refine selTab_congrQ (fun i hi => by rw [bP_less1 hk ha]; simp [hi]) (fun i _ => ?_)
  rw [selRow_upto (k := k) hk (fun i h1 _ => by rw [bP_less1 hk hb]; simp; omega)]
  exact selRow_congrQ (fun i hi => by rw [bP_less1 hk hb]; simp [hi])
theorem prt_pt {g : List (List Int)} {r q : Nat} (hm : g.length ≤ 4) (hn : (rowAt g 0).length ≤ 4) (hr : r < 2 ^ g.length) (hq : q < 2 ^ (rowAt g 0).length) : prt g r q = pt g r q := by
  unfold prt pt
  rw [selTab_upto (k := g.length) hm (fun i h1 _ => bP_ge (k := g.length) (Nat.div_eq_of_lt hr) h1)]
  refine selTab_congrQ (fun _ _ => rfl) (fun i _ => ?_)
  exact selRow_upto hn (fun i h1 _ => bP_ge (k := (rowAt g 0).length) (Nat.div_eq_of_lt hq) h1)
end Go.Proofs.YtlmaeadbomnhlaaGreat

namespace Go.Proofs.YtlmaeadbomnhlaaGreat
set_option linter.unusedSimpArgs false
set_option linter.unusedVariables false
open Go.RowKit
theorem less1_bits {k a : Nat} (hk : k ≤ 4) (ha : a < k) : bits BinOp.andNot IntKind.i64 (pw k) (wrap64 (2 ^ a)) = ((less1 k a : Nat) : Int) := by
  have h1 : k = 1 ∨ k = 2 ∨ k = 3 ∨ k = 4 := by omega
  have h3 : a = 0 ∨ a = 1 ∨ a = 2 ∨ a = 3 := by omega
  rcases h1 with rfl | rfl | rfl | rfl <;> rcases h3 with rfl | rfl | rfl | rfl <;> (first | omega | decide +kernel)
theorem less1_bits' {k a : Nat} (hk : k ≤ 4) (ha : a < k) : bits BinOp.andNot IntKind.i64 (pw k) (IntKind.i64.wrap (2 ^ a)) = ((less1 k a : Nat) : Int) := by
  have h1 : k = 1 ∨ k = 2 ∨ k = 3 ∨ k = 4 := by omega
  have h3 : a = 0 ∨ a = 1 ∨ a = 2 ∨ a = 3 := by omega
  rcases h1 with rfl | rfl | rfl | rfl <;> rcases h3 with rfl | rfl | rfl | rfl <;> (first | omega | decide +kernel)
set_option maxHeartbeats 4000000 in
set_option maxRecDepth 100000 in
theorem leftOfI (T : Option Addr) (c : Nat) (m : List (List Int)) (k a b : Nat) (hk : k ≤ 4) (hm : m.length = k) (hr : ∀ i, i < k → (rowAt m i).length = k) (ha : a < k) (hb : b < k) (w : World) (h : Rows2 w (· < w.heap.size) T m) :
    Calls Tryz.prog 103 #[.slice T m.length c, .int .i64 (a : Nat), .int .i64 (b : Nat)] w (NewTable w (woL m a b)) := by
  have e1 := pw_wrap hk
  have e2 := less1_bits hk ha
  have e3 := less1_bits hk hb
  have e4 : bits BinOp.andNot IntKind.i64 (pw k) (IntKind.i64.wrap (2 ^ a)) = ((less1 k a : Nat) : Int) := less1_bits' hk ha
  have e5 : bits BinOp.andNot IntKind.i64 (pw k) (IntKind.i64.wrap (2 ^ b)) = ((less1 k b : Nat) : Int) := less1_bits' hk hb
  have HP : Hid (∀ (w' : World), Below w.heap.size w w' → Calls Tryz.prog 63 #[.slice T k c, .int .i64 (less1 k a : Nat), .int .i64 (less1 k b : Nat)] w' (NewTable w' (woL m a b))) := fun w' hb' => by
    rw [← prt_wo hk hm ha hb, ← hm]
    rw [hm]
    have := partOfI T c m (less1 k a) (less1 k b) (less1_lt hk a) (less1_lt hk b) (fun i hi => by rw [bP_less1 hk ha] at hi; simp at hi; omega)
      (fun i j hi hj => by rw [bP_less1 hk ha] at hi; rw [bP_less1 hk hb] at hj; simp at hi hj; rw [hr i hi.1]; exact hj.1) w' ((keepRows hb' h).lt hb'.size)
    rw [hm] at this; exact this
  clear h hr
  have hlt : 0 < k := by omega
  go_enter Tryz.func103, Tryz.ntmps103
  rw [hm]
  clear hm
  go_wp2_with fail
  go_region_held3 (fun w' => Below w.heap.size w w')
    (first | exact Below.refl _ _ | exact Below.drew (Below.refl _ _) | (refine Below.drew ?_; assumption) | exact belT (by assumption) (by assumption) | assumption)
    ((go_at_call 63; refine (HP.out _ (by first | exact Below.refl _ _ | exact Below.drew (Below.refl _ _) | assumption)).mono ?_; rintro e w1 ⟨T1, c1, rfl, hb1, ho1⟩))
  go_wp2_with fail
  go_ret
  exact ⟨T1, c1, rfl, by assumption, ho1⟩
def DetTold (k : Nat) : Prop := ∀ (T : Option Addr) (c : Nat) (m : List (List Int)), Square m k → ∀ (w : World), Rows2 w (· < w.heap.size) T m →
    Calls Tryz.prog 102 #[.slice T m.length c] w (Adds (.int .i64 (detL m)) w)
def cofA (m : List (List Int)) (a b : Nat) : Int := sgI (a + b) * detL (woL m a b)
theorem cofA_bd {m : List (List Int)} {k a b : Nat} (hk : k ≤ 3) (hsq : Square m (k + 1)) (ha : a < k + 1) (hb : b < k + 1) : -4374 ≤ cofA m a b ∧ cofA m a b ≤ 4374 := by
  have h1 := detL_bd (hsq.wo ha hb)
  have h2 := detB_le hk
  unfold cofA
  rcases sgI_cases (a + b) with e | e <;> rw [e] <;> omega
set_option maxHeartbeats 4000000 in
set_option maxRecDepth 100000 in
theorem cof_of_det (k : Nat) (hk : k ≤ 3) (hdet : DetTold k) (T : Option Addr) (c : Nat) (m : List (List Int)) (hsq : Square m (k + 1)) (a b : Nat) (ha : a < k + 1) (hb : b < k + 1) (w : World) (h : Rows2 w (· < w.heap.size) T m) :
    Calls Tryz.prog 85 #[.slice T m.length c, .int .i64 (a : Nat), .int .i64 (b : Nat)] w (Adds (.int .i64 (cofA m a b)) w) := by
  have HL : Hid (∀ (w' : World), Below w.heap.size w w' → Calls Tryz.prog 103 #[.slice T m.length c, .int .i64 (a : Nat), .int .i64 (b : Nat)] w' (NewTable w' (woL m a b))) := fun w' hb' =>
    leftOfI T c m (k + 1) a b (by omega) hsq.len (fun i hi => hsq.row i hi) ha hb w' ((keepRows hb' h).lt hb'.size)
  have hwo := hsq.wo ha hb
  have HD : Hid (∀ (T' : Option Addr) (c' : Nat) (w' : World), Rows2 w' (· < w'.heap.size) T' (woL m a b) → Calls Tryz.prog 102 #[.slice T' (woL m a b).length c'] w' (Adds (.int .i64 (detL (woL m a b))) w')) := fun T' c' w' h' => hdet T' c' _ hwo w' h'
  have hbd := cofA_bd hk hsq ha hb
  have hsg : sgI (a + b) = if (a + b) % 2 = 1 then -1 else 1 := by unfold sgI; split <;> split <;> first | rfl | omega
  have H1 : Hid (cofA m a b = sgI (a + b) * detL (woL m a b)) := rfl
  obtain ⟨d, hd⟩ : ∃ d, detL (woL m a b) = d := ⟨_, rfl⟩
  obtain ⟨cf, hcf⟩ : ∃ cf, cofA m a b = cf := ⟨_, rfl⟩
  rw [hd, hcf] at H1
  rw [hd] at HD
  rw [hcf] at hbd ⊢
  clear hd hcf h hdet hwo hsq
  have e1 : ((a : Int) + (b : Int)).tmod 2 = (((a + b) % 2 : Nat) : Int) := by rw [Int.tmod_eq_emod_of_nonneg (by omega)]; omega
  obtain ⟨r, hr⟩ : ∃ r, (a + b) % 2 = r := ⟨_, rfl⟩
  rw [hr] at e1 hsg
  have hr2 : r = 0 ∨ r = 1 := by omega
  clear hr
  go_enter Tryz.func85, Tryz.ntmps85
  rcases hr2 with rfl | rfl
  · have hcd : Hid (cf = d) := by have := H1.out; rw [hsg] at this; show _ = _; simpa using this
    clear hsg H1
    go_wp2_with (first | (go_at_call 103; refine (HL.out _ (Below.refl _ _)).mono ?_; rintro e w1 ⟨T1, c1, rfl, hb1, ho1⟩) | (go_at_call 102; refine (HD.out _ _ _ (ho1.rows2.mono fun b hb => hb.2)).mono ?_; rintro e w2 ⟨rfl, hb2⟩))
    go_ret
    exact Adds.of (by rw [hcd.out]; rfl) (belT hb1 hb2)
  · have hcd : Hid (cf = -d) := by have := H1.out; rw [hsg] at this; show _ = _; simpa using this
    have hdb : -4374 ≤ d ∧ d ≤ 4374 := by have := hcd.out; omega
    have w1' : IntKind.i64.wrap (-d) = -d := IntWalk.i64_in _ (by omega)
    clear hsg H1
    go_wp2_with (first | (go_at_call 103; refine (HL.out _ (Below.refl _ _)).mono ?_; rintro e w1 ⟨T1, c1, rfl, hb1, ho1⟩) | (go_at_call 102; refine (HD.out _ _ _ (ho1.rows2.mono fun b hb => hb.2)).mono ?_; rintro e w2 ⟨rfl, hb2⟩))
    go_ret
    exact Adds.of (by rw [hcd.out]; try rfl) (belT hb1 hb2)
theorem detF_cof (m : List (List Int)) (j : Nat) : detF m j = nth (rowAt m 0) j * cofA m 0 j := by
  unfold detF cofA; rw [Nat.zero_add, Int.mul_left_comm, Int.mul_assoc]
set_option maxHeartbeats 1000000 in
set_option maxRecDepth 100000 in
theorem det_impl : ∀ (k : Nat), k ≤ 4 → DetTold k := by
  intro k
  induction k with
  | zero =>
    intro _ T c m hsq w h
    have H1 := Lib.hid (detL_zero hsq)
    have e1 : ((m.length : Int) == 0) = true := beq_iff_eq.2 (by have := hsq.len; omega)
    clear hsq
    go_enter Tryz.func102, Tryz.ntmps102
    go_wp2_with fail
    go_ret
    exact Adds.of (by rw [H1.out]; rfl) (Below.refl _ _)
  | succ k ih =>
    intro hk4 T c m hsq w h
    have H1 := Lib.hid (detL_succ hsq)
    have hlen := hsq.len
    have hrow : (rowAt m 0).length = m.length := by rw [hsq.row 0 (by omega), hlen]
    have hl4 : m.length ≤ 4 := by omega
    have hp1 : 0 < m.length := by omega
    have e1 : ((m.length : Int) == 0) = false := beq_eq_false_iff_ne.2 (by omega)
    have hp2 : (0 : Int) < (m.length : Int) := by omega
    have HC : Hid (∀ (j : Nat) (w' : World), j < m.length → Rows2 w' (· < w'.heap.size) T m → Calls Tryz.prog 85 #[.slice T m.length c, .int .i64 0, .int .i64 (j : Nat)] w' (Adds (.int .i64 (cofA m 0 j)) w')) :=
      fun j w' hj h' => cof_of_det k (by omega) (ih (by omega)) T c m hsq 0 j (by omega) (by omega) w' h'
    have HF : Hid (∀ j, j < m.length → (-9 ≤ nth (rowAt m 0) j ∧ nth (rowAt m 0) j ≤ 9) ∧ -4374 ≤ cofA m 0 j ∧ cofA m 0 j ≤ 4374 ∧ -39366 ≤ nth (rowAt m 0) j * cofA m 0 j ∧ nth (rowAt m 0) j * cofA m 0 j ≤ 39366) := fun j hj => by
      have h1 := cofA_bd (k := k) (by omega) hsq (show 0 < k + 1 by omega) (show j < k + 1 by omega)
      have h2 := hsq.lo 0 j (by omega) (by omega)
      have h3 := hsq.hi 0 j (by omega) (by omega)
      have h4 := (prod3_bd (s := 1) (.inl rfl) h2 h3 h1.1 h1.2).2
      rw [Int.one_mul] at h4
      exact ⟨⟨h2, h3⟩, h1.1, h1.2, h4⟩
    have HS : Hid (∀ j, j ≤ m.length → -157464 ≤ sumI j (detF m) ∧ sumI j (detF m) ≤ 157464) := fun j hj => by
      have := sumI_bd j (detF m) 39366 (fun a ha => by rw [detF_cof]; have := HF.out a (by omega); exact this.2.2.2)
      omega
    have HR := Lib.hid h
    obtain ⟨bt, ot, rfl⟩ := h.some (by omega)
    obtain ⟨bm, om, cm, hc1, hc2, hc3, hc4, hc5⟩ := h.cell (i := 0) (j := 0) (by omega) (by omega)
    rw [Nat.add_zero] at hc1
    unfold maxLen at hc3
    clear h ih hsq hc5 hlen
    go_enter Tryz.func102, Tryz.ntmps102
    go_wp2_with fail
    go_loopw [3, 13] (fun v i wr => ∃ j : Nat, j ≤ m.length ∧ i = .int .i64 j ∧ v = .int .i64 (sumI j (detF m)) ∧ Hid (Below w.heap.size w wr)) (fun _ i _ => 5 - (intOf i).toNat)
    case atStart => exact ⟨0, Nat.zero_le _, rfl, rfl, Below.refl _ _⟩
    case round =>
      obtain ⟨j, hj, rfl, rfl, HB⟩ := hrel
      by_cases hlt : j < m.length
      · have R := keepRows HB.out HR.out
        obtain ⟨b', o', c', hd1, hd2, hd3, hd4, hd5⟩ := R.cell (i := 0) (j := j) (by omega) (by omega)
        obtain ⟨hS, _⟩ := R.row (i := 0) (by omega)
        have e := (HB.out.cell (p := ⟨bt, ot, none⟩) hS).trans hc1
        rw [Nat.add_zero, e] at hd1
        cases hd1
        have hbd := HF.out j hlt
        have hsum := HS.out j (by omega)
        have hsum2 := HS.out (j + 1) (by omega)
        have hstep : sumI (j + 1) (detF m) = sumI j (detF m) + nth (rowAt m 0) j * cofA m 0 j := by show _ + _ = _; rw [detF_cof]
        rw [hstep] at hsum2
        have HST := Lib.hid hstep
        have HCJ : Hid (∀ w', Rows2 w' (· < w'.heap.size) (some ⟨bt, ot, none⟩) m → Calls Tryz.prog 85 #[.slice (some ⟨bt, ot, none⟩) m.length c, .int .i64 0, .int .i64 (j : Nat)] w' (Adds (.int .i64 (cofA m 0 j)) w')) := fun w' h' => HC.out j w' hlt h'
        have HRJ : Hid (Rows2 wr (· < wr.heap.size) (some ⟨bt, ot, none⟩) m) := R.lt HB.out.size
        have w4 : IntKind.i64.wrap (nth (rowAt m 0) j * cofA m 0 j) = nth (rowAt m 0) j * cofA m 0 j := IntWalk.i64_in _ (by omega)
        have w5 : IntKind.i64.wrap (sumI j (detF m) + nth (rowAt m 0) j * cofA m 0 j) = sumI j (detF m) + nth (rowAt m 0) j * cofA m 0 j := IntWalk.i64_in _ (by omega)
        clear hsum hsum2 hstep R e hbd
        go_wp2_with (go_at_call 85; refine (HCJ.out _ HRJ.out).mono ?_; rintro e w1 ⟨rfl, hb1⟩)
        go_roundw
        case rel => exact ⟨j + 1, by omega, by go_num, by rw [HST.out], belT HB.out hb1⟩
        case measure => simp [intOf]; omega
      · obtain rfl : j = m.length := by omega
        rw [← H1.out]
        go_wp2_with fail
        go_ret
        exact Adds.of rfl HB.out
end Go.Proofs.YtlmaeadbomnhlaaGreat

namespace Go.Proofs.YtlmaeadbomnhlaaGreat
set_option linter.unusedSimpArgs false
set_option linter.unusedVariables false
open Go.RowKit
def ReadT (w : World) (g : List (List Int)) (e : Ending) (w' : World) : Prop :=
  ∃ (T : Option Addr) (c : Nat), e = .returned (.slice T g.length c) ∧ Below w.heap.size w w' ∧ Rows2 w' (· < w'.heap.size) T g
structure Rowed (w wr : World) (g : List (List Int)) (R : Nat → Nat) (k : Nat) : Prop where
  bel : Below w.heap.size w wr
  top : wr.rowIs w.heap.size 52 g.length (fun j => if j < k then .slice (some ⟨R j, 0, none⟩) (rowAt g j).length (rowAt g j).length else .slice none 0 0)
  lt : ∀ j, j < k → w.heap.size < R j ∧ R j < wr.heap.size
  rows : ∀ j, j < k → IntRow wr (R j) (rowAt g j)
structure RowIn (w wr : World) (g : List (List Int)) (R : Nat → Nat) (k r : Nat) : Prop where
  bel : Below w.heap.size w wr
  top : wr.rowIs w.heap.size 52 g.length (fun j => if j < k + 1 then .slice (some ⟨R j, 0, none⟩) (rowAt g j).length (rowAt g j).length else .slice none 0 0)
  lt : ∀ j, j < k + 1 → w.heap.size < R j ∧ R j < wr.heap.size
  rows : ∀ j, j < k → IntRow wr (R j) (rowAt g j)
  ne : ∀ j, j < k → R j ≠ R k
  cur : wr.rowIs (R k) 3 (rowAt g k).length (fun i => .int .i64 (if i < r then nth (rowAt g k) i else 0))
theorem Rowed.start (w : World) (g : List (List Int)) (R : Nat → Nat) : Rowed w (w.alloc (.cells (madeCells #[.slice none 0 0] g.length) 52)) g R 0 :=
  ⟨(Below.refl _ _).alloc (Nat.le_refl _) _, (World.rowIs_made w _ _ _).congr (fun j _ => by simp), fun j hj => absurd hj (Nat.not_lt_zero _), fun j hj => absurd hj (Nat.not_lt_zero _)⟩
theorem Rowed.topLt {w wr : World} {g : List (List Int)} {R : Nat → Nat} {k : Nat} (h : Rowed w wr g R k) : w.heap.size < wr.heap.size := h.top.lt
theorem Rowed.open_ {w wr : World} {g : List (List Int)} {R : Nat → Nat} {k : Nat} (h : Rowed w wr g R k) (hk : k < g.length) :
    ∃ R' : Nat → Nat, R' k = wr.heap.size ∧ RowIn w ((wr.alloc (.cells (madeCells #[.int .i64 0] (rowAt g k).length) 3)).setCell ⟨w.heap.size, k, none⟩ (.slice (some ⟨wr.heap.size, 0, none⟩) (rowAt g k).length (rowAt g k).length)) g R' k 0 := by
  have hlt := h.topLt
  have hnew := World.rowIs_made wr (.int .i64 0) (rowAt g k).length 3
  refine ⟨fun j => if j = k then wr.heap.size else R j, by simp, ⟨(h.bel.alloc (by omega) _).setCell (Nat.le_refl _) _, ((h.top.alloc _).set k _).congr (fun j _ => ?_), fun j hj => ?_, fun j hj => ?_, fun j hj => ?_, ?_⟩⟩
  · by_cases e : j = k
    · subst e; simp
    · rw [if_neg e]
      by_cases hj : j < k
      · rw [if_pos hj, if_pos (by omega), if_neg e]
      · rw [if_neg hj, if_neg (by omega)]
  · by_cases e : j = k
    · simp [e, World.setCell]; omega
    · have := h.lt j (by omega); simp [e, World.setCell]; omega
  · have hj' := h.lt j hj
    simp only [if_neg (show j ≠ k by omega)]
    exact ((h.rows j hj).alloc _).setOther (by show R j ≠ w.heap.size; omega) _
  · have hj' := h.lt j hj
    simp only [if_neg (show j ≠ k by omega), if_pos]; omega
  · simp only [if_pos]
    exact (hnew.setOther (by show wr.heap.size ≠ w.heap.size; omega) _).congr (fun i _ => by simp)
theorem RowIn.still {w wr w2 : World} {g : List (List Int)} {R : Nat → Nat} {k r : Nat} (h : RowIn w wr g R k r) (hb : Below wr.heap.size wr w2) : RowIn w w2 g R k r :=
  ⟨belT h.bel hb, h.top.of_block (hb.block _ h.top.lt), fun j hj => ⟨(h.lt j hj).1, Nat.lt_of_lt_of_le (h.lt j hj).2 hb.size⟩, fun j hj => (h.rows j hj).of_block (hb.block _ (h.lt j (by omega)).2), h.ne, h.cur.of_block (hb.block _ (h.lt k (by omega)).2)⟩
theorem RowIn.step {w wr : World} {g : List (List Int)} {R : Nat → Nat} {k r : Nat} (h : RowIn w wr g R k r) : RowIn w (wr.setCell ⟨R k, r, none⟩ (.int .i64 (nth (rowAt g k) r))) g R k (r + 1) := by
  have h1 := h.lt k (by omega)
  refine ⟨h.bel.setCell (by show w.heap.size ≤ R k; omega) _, h.top.setOther (by show w.heap.size ≠ R k; omega) _, fun j hj => by have := h.lt j hj; simpa [World.setCell] using this,
    fun j hj => (h.rows j hj).setOther (h.ne j hj) _, h.ne, (h.cur.set r _).congr (fun i _ => ?_)⟩
  by_cases e : i = r
  · subst e; simp
  · rw [if_neg e]
    by_cases hlt : i < r
    · rw [if_pos hlt, if_pos (by omega)]
    · rw [if_neg hlt, if_neg (by omega)]
theorem RowIn.close {w wr : World} {g : List (List Int)} {R : Nat → Nat} {k : Nat} (h : RowIn w wr g R k (rowAt g k).length) : Rowed w wr g R (k + 1) :=
  ⟨h.bel, h.top, h.lt, fun j hj => by
    by_cases e : j = k
    · subst e; exact h.cur.congr (fun i hi => by rw [if_pos hi])
    · exact h.rows j (by omega)⟩
theorem RowIn.cell {w wr : World} {g : List (List Int)} {R : Nat → Nat} {k r : Nat} (h : RowIn w wr g R k r) (hk : k < g.length) : wr.cell? ⟨w.heap.size, k, none⟩ = some (.slice (some ⟨R k, 0, none⟩) (rowAt g k).length (rowAt g k).length) := by
  have := h.top.cell (i := k) hk; rwa [if_pos (by omega)] at this
theorem Rowed.read {w wr : World} {g : List (List Int)} {R : Nat → Nat} (h : Rowed w wr g R g.length) (hm : ∀ i, i < g.length → (rowAt g i).length ≤ maxLen) : Rows2 wr (· < wr.heap.size) (some ⟨w.heap.size, 0, none⟩) g := by
  intro h0
  refine ⟨_, 0, rfl, h.top.lt, fun i hi => ⟨_, _, by rw [Nat.zero_add]; have := h.top.cell (i := i) hi; rwa [if_pos hi] at this, Nat.le_refl _, hm i hi, (h.rows i hi).ints (h.lt i hi).2⟩⟩
def cofT (m : List (List Int)) : List (List Int) := (List.range m.length).map fun i => (List.range m.length).map fun j => cofA m i j
theorem cofT_length (m : List (List Int)) : (cofT m).length = m.length := by simp [cofT]
theorem cofT_row (m : List (List Int)) {i : Nat} (h : i < m.length) : rowAt (cofT m) i = (List.range m.length).map fun j => cofA m i j := by
  unfold cofT; rw [rowAt_map _ _ _ (by simpa using h)]; simp [List.getD, h]
theorem cofT_row_length (m : List (List Int)) {i : Nat} (h : i < m.length) : (rowAt (cofT m) i).length = m.length := by rw [cofT_row m h]; simp
theorem nth_cofT (m : List (List Int)) {i j : Nat} (h : i < m.length) (hj : j < m.length) : nth (rowAt (cofT m) i) j = cofA m i j := by
  rw [cofT_row m h, nth_mapN _ _ _ (by simpa using hj)]; simp [List.getD, hj]
set_option maxHeartbeats 1000000 in
set_option maxRecDepth 100000 in
theorem cofactorsI (k0 : Nat) (hk0 : k0 ≤ 3) (T : Option Addr) (c : Nat) (m : List (List Int)) (hsq : Square m (k0 + 1)) (w : World) (h : Rows2 w (· < w.heap.size) T m) :
    Calls Tryz.prog 62 #[.slice T m.length c] w (ReadT w (cofT m)) := by
  have hlen := hsq.len
  have hl4 : m.length ≤ 4 := by omega
  have hmk1 := run_make_row' (P := Tryz.prog) 23 52 _ 24 Tryz.underlying23 infoR rfl .i64 .i64 m.length (by omega) (by omega)
  have hmk2 := run_make_row' (P := Tryz.prog) 52 3 _ 8 Tryz.underlying52 infoI rfl .i64 .i64 m.length (by omega) (by omega)
  have HC : Hid (∀ (i j : Nat) (w' : World), i < m.length → j < m.length → Rows2 w' (· < w'.heap.size) T m → Calls Tryz.prog 85 #[.slice T m.length c, .int .i64 (i : Nat), .int .i64 (j : Nat)] w' (Adds (.int .i64 (cofA m i j)) w')) :=
    fun i j w' hi hj h' => cof_of_det k0 hk0 (det_impl k0 (by omega)) T c m hsq i j (by omega) (by omega) w' h'
  have HR := Lib.hid h
  have HL := Lib.hid (cofT_length m)
  have F0 : Hid (Rowed w (w.alloc (.cells (madeCells #[.slice none 0 0] m.length) 52)) (cofT m) (fun _ => 0) 0) := by
    have := Rowed.start w (cofT m) (fun _ => 0); rw [HL.out] at this; exact this
  clear h hsq hlen
  go_enter Tryz.func62, Tryz.ntmps62
  go_wp2_with fail
  clear hmk1
  go_loopw [11] (fun i wr => ∃ k : Nat, k ≤ m.length ∧ i = .int .i64 k ∧ Hid (∃ R, Rowed w wr (cofT m) R k)) (fun i _ => 5 - (intOf i).toNat)
  case atStart => exact ⟨0, Nat.zero_le _, rfl, _, F0.out⟩
  case round =>
    obtain ⟨k, hk, rfl, HF⟩ := hrel
    by_cases hlt : k < m.length
    · have HCR := Lib.hid (cofT_row_length m hlt)
      have hlt' : k < (cofT m).length := by rw [HL.out]; exact hlt
      obtain ⟨R0, hR0⟩ := HF.out
      have HRT := Lib.hid hR0
      obtain ⟨R, hRk, hRI⟩ := hR0.open_ hlt'
      rw [HCR.out] at hRI
      have HRI := Lib.hid hRI
      have hst1 : ∀ o, (wr.alloc o).cell? ⟨w.heap.size, k, none⟩ = some (.slice none 0 0) := fun o => by
        have := ((HRT.out.top).alloc o).cell (i := k) hlt'; rwa [if_neg (by omega)] at this
      have hst2 : ∀ o, (wr.alloc o).frozen? ⟨w.heap.size, k, none⟩ = false := fun o => (HRT.out.top.alloc o).frozen k
      have hst3 : ((wr.alloc (.cells (madeCells #[.int .i64 0] m.length) 3)).setCell ⟨w.heap.size, k, none⟩ (.slice (some ⟨wr.heap.size, 0, none⟩) m.length m.length)).cell? ⟨w.heap.size, k, none⟩ = some (.slice (some ⟨wr.heap.size, 0, none⟩) m.length m.length) := by
        have := HRI.out.cell hlt'; rw [HCR.out, hRk] at this; exact this
      have HRK := Lib.hid hRk
      clear hRI hR0 HF hRk
      go_wp2_with fail
      clear hst1 hst2 hst3
      go_loopw [25] (fun i wi => ∃ r : Nat, r ≤ m.length ∧ i = .int .i64 r ∧ Hid (RowIn w wi (cofT m) R k r)) (fun i _ => 5 - (intOf i).toNat)
      case atStart => exact ⟨0, Nat.zero_le _, rfl, HRI.out⟩
      case round =>
        obtain ⟨r, hr, rfl, HI⟩ := hrel
        by_cases hlr : r < m.length
        · obtain ⟨wi, rfl⟩ : ∃ wi : World, wi = wr := ⟨_, rfl⟩
          have g1 : wi.cell? ⟨w.heap.size, k, none⟩ = some (.slice (some ⟨R k, 0, none⟩) m.length m.length) := by have := HI.out.cell hlt'; rwa [HCR.out] at this
          obtain ⟨z, g2⟩ : ∃ z, wi.cell? ⟨R k, r, none⟩ = some z := ⟨_, HI.out.cur.cell (i := r) (by rw [HCR.out]; exact hlr)⟩
          have hl1 := HI.out.top.lt
          have hl2 := (HI.out.lt k (by omega)).2
          have t0 := stays (W := wi) (p := w.heap.size) (o := k) hl1 g1
          have t1 := stays (W := wi) (p := R k) (o := r) hl2 g2
          have t2 := staysF (W := wi) (p := R k) (o := r) hl2 (HI.out.cur.frozen r)
          have HCJ : Hid (∀ w', Below wi.heap.size wi w' → Calls Tryz.prog 85 #[.slice T m.length c, .int .i64 (k : Nat), .int .i64 (r : Nat)] w' (Adds (.int .i64 (cofA m k r)) w')) := fun w' hb' =>
            HC.out k r w' hlt hlr ((keepRows (belT HI.out.bel hb') HR.out).lt (by have := HI.out.bel.size; have := hb'.size; omega))
          have q1 : (0 : Int) ≤ (k : Int) := by omega
          have q2 : (k : Int) < (m.length : Int) := by omega
          have q3 : (0 : Int) ≤ (r : Int) := by omega
          have q4 : (r : Int) < (m.length : Int) := by omega
          go_wp2_with fail
          go_region_with (first | (go_at_call 85; refine (HCJ.out _ (by first | exact Below.refl _ _ | exact Below.drew (Below.refl _ _) | assumption)).mono ?_; rintro e w1 ⟨rfl, hb1⟩; have hb2 : Below wi.heap.size wi w1 := belT (by first | exact Below.refl _ _ | exact Below.drew (Below.refl _ _)) hb1))
          all_goals have HN : Hid (RowIn w (w1.setCell ⟨R k, r, none⟩ (.int .i64 (cofA m k r))) (cofT m) R k (r + 1)) := (by have := (HI.out.still hb2).step; rw [nth_cofT m hlt hlr] at this; exact this)
          all_goals go_wp2_with fail
          all_goals go_roundw
          all_goals first | (simp [intOf]; omega) | exact ⟨r + 1, by omega, by go_num, HN.out⟩
        · have hre : r = m.length := by omega
          subst hre
          have HN : Hid (∃ R, Rowed w wr (cofT m) R (k + 1)) := by
            have := HI.out; rw [← HCR.out] at this; exact ⟨_, this.close⟩
          go_wp2_with fail
          go_roundw
          case rel => exact ⟨k + 1, by omega, by go_num, HN⟩
          case measure => simp [intOf]; omega
    · obtain rfl : k = m.length := by omega
      obtain ⟨R, hR⟩ := HF.out
      rw [← HL.out] at hR
      have HRD := Lib.hid (hR.read (fun i hi => by rw [HL.out] at hi; rw [cofT_row_length m hi]; unfold maxLen; omega))
      have HBL := Lib.hid hR.bel
      clear hR HF
      go_wp2_with fail
      go_ret
      exact ⟨_, m.length, by rw [HL.out]; rfl, HBL.out, HRD.out⟩
set_option maxHeartbeats 1000000 in
theorem sumOfI (B : Int) (hB : B ≤ 1000000) (A : Option Addr) (c : Nat) (l : List Int) (S : Nat → Prop) (hl : l.length ≤ 16) (hb : ∀ i, i < l.length → -B ≤ nth l i ∧ nth l i ≤ B) (w : World) (h : Ints w S A l) :
    Calls Tryz.prog 87 #[.slice A l.length c] w (Same (.int .i64 (sumI l.length (nth l))) w) := by
  have HS : Hid (∀ j, j ≤ l.length → -16000000 ≤ sumI j (nth l) ∧ sumI j (nth l) ≤ 16000000) := fun j hj => by
    have := sumI_bd j (nth l) 1000000 (fun a ha => by have := hb a (by omega); omega)
    omega
  have HBD : Hid (∀ i, i < l.length → -1000000 ≤ nth l i ∧ nth l i ≤ 1000000) := fun i hi => by have := hb i hi; omega
  have HR := Lib.hid h
  clear h hb
  go_enter Tryz.func87, Tryz.ntmps87
  go_wp2_with fail
  go_loop [3, 8] (fun v i => ∃ k : Nat, k ≤ l.length ∧ i = .int .i64 k ∧ v = .int .i64 (sumI k (nth l))) (fun _ i => l.length - (intOf i).toNat)
  case atStart => exact ⟨0, Nat.zero_le _, rfl, rfl⟩
  case round =>
    obtain ⟨k, hk, rfl, rfl⟩ := hrel
    by_cases hlt : k < l.length
    · obtain ⟨b, off, rfl, hS, hc⟩ := HR.out.at_ hlt
      have hck := hc k hlt
      clear hc
      have h1 := HS.out (k + 1) (by omega)
      have h2 := HBD.out k hlt
      have hstep : sumI (k + 1) (nth l) = sumI k (nth l) + nth l k := rfl
      have HST := Lib.hid hstep
      rw [hstep] at h1
      have w1 : IntKind.i64.wrap (sumI k (nth l) + nth l k) = sumI k (nth l) + nth l k := IntWalk.i64_in _ (by omega)
      clear hstep
      go_wp2_with fail
      go_round
      case rel => exact ⟨k + 1, by omega, by go_num, by rw [HST.out]⟩
      case measure => simp [intOf]; omega
    · obtain rfl : k = l.length := by omega
      go_wp2_with fail
      go_ret
      exact Same.of rfl
def sumT (g : List (List Int)) : List Int := (List.range g.length).map fun i => sumI (rowAt g i).length (nth (rowAt g i))
theorem sumT_length (g : List (List Int)) : (sumT g).length = g.length := by simp [sumT]
theorem nth_sumT (g : List (List Int)) {i : Nat} (h : i < g.length) : nth (sumT g) i = sumI (rowAt g i).length (nth (rowAt g i)) := by
  unfold sumT; rw [nth_mapN _ _ _ (by simpa using h)]; simp [List.getD, h]
set_option maxHeartbeats 1000000 in
theorem sumsOfI (B : Int) (hB : B ≤ 1000000) (T : Option Addr) (c : Nat) (g : List (List Int)) (hl : g.length ≤ 16) (hlr : ∀ i, i < g.length → (rowAt g i).length ≤ 16) (hb : ∀ i, i < g.length → ∀ j, j < (rowAt g i).length → -B ≤ nth (rowAt g i) j ∧ nth (rowAt g i) j ≤ B) (w : World) (h : Rows2 w (· < w.heap.size) T g) :
    Calls Tryz.prog 65 #[.slice T g.length c] w (NewInts w (sumT g)) := by
  have hmk := run_make_row' (P := Tryz.prog) 52 3 _ 8 Tryz.underlying52 infoI rfl .i64 .i64 g.length (by omega) (by omega)
  have HH := Lib.hid h
  have HL := Lib.hid (sumT_length g)
  have HB := Lib.hid hb
  have HLR := Lib.hid hlr
  have F0 : Hid (Filled w (w.alloc (.cells (madeCells #[.int .i64 0] g.length) 3)) (sumT g) 0) := by
    have := Filled.start w (sumT g); rw [HL.out] at this; exact this
  clear h hb hlr
  go_enter Tryz.func65, Tryz.ntmps65
  go_wp2_with fail
  clear hmk
  go_loopw [11] (fun i wr => ∃ k : Nat, k ≤ g.length ∧ i = .int .i64 k ∧ Hid (Filled w wr (sumT g) k)) (fun i _ => g.length - (intOf i).toNat)
  case atStart => exact ⟨0, Nat.zero_le _, rfl, F0⟩
  case round =>
    obtain ⟨k, hk, rfl, HF⟩ := hrel
    by_cases hlt : k < g.length
    · obtain ⟨b, off, rfl⟩ := HH.out.some (by omega)
      have R := keepRows HF.out.bel HH.out
      obtain ⟨hS, Ak, ck, hck, hlk, hmk, hik⟩ := R.row hlt
      unfold maxLen at hmk
      have hcell := HF.out.row.cell (i := k) (by rw [HL.out]; exact hlt)
      have hfr := HF.out.row.frozen k
      have HI := Lib.hid hik
      have HN2 : Hid (Filled w (wr.setCell ⟨w.heap.size, k, none⟩ (.int .i64 (sumI (rowAt g k).length (nth (rowAt g k))))) (sumT g) (k + 1)) := by
        have := HF.out.step; rw [nth_sumT g hlt] at this; exact this
      clear hik R
      go_wp2_with (go_at_call 87; refine (sumOfI B hB _ _ (rowAt g k) _ (HLR.out k hlt) (HB.out k hlt) _ HI.out).mono ?_; rintro e w1 ⟨rfl, rfl⟩)
      go_roundw
      case rel => exact ⟨k + 1, by omega, by go_num, HN2⟩
      case measure => simp [intOf]; omega
    · obtain rfl : k = g.length := by omega
      go_wp2_with fail
      go_ret
      have HD := HF.out
      rw [← HL.out] at HD
      exact ⟨by rw [HL.out]; rfl, HD.bel, by rw [HD.size]; omega, HD.done⟩
end Go.Proofs.YtlmaeadbomnhlaaGreat
