/- The walks of the texts of numbers and of fractions. -/
import Derived.Test.YtijlednmagdpgaaDoorDrawB
import Derived.Test.YtijlednmagdpgaaDoorShelf
import Derived.Lib.ItoaNum
import Derived.Lib.ItoaMem
import Derived.Lib.SmallJoins
import Derived.Laws.IdiomStrings
import Derived.Deep.DeepMust
import Derived.Deep.DeepFit
import Derived.Lib.AppendIntMem
namespace Go.Proofs.YtijlednmagdpgaaDoor
set_option linter.unusedSimpArgs false
set_option linter.unusedVariables false
open Go.RowKit

/-- a digit's letter -/
def digB (n : Int) : UInt8 := UInt8.ofNat (48 + n.toNat)
theorem digB_toNat {n : Int} (h0 : 0 ≤ n) (h1 : n < 10) : ((digB n).toNat : Int) = 48 + n := by unfold digB; rw [UInt8.toNat_ofNat']; omega

theorem conv_digit (n : Int) (h0 : 0 ≤ n) (h1 : n < 10) : ∀ (W : World) (b : Nat), W.cell? ⟨b, 0, none⟩ = some (.int .u8 (48 + n)) →
    Sem.run Tryd.prog (convert 22 9 (.slice (some ⟨b, 0, none⟩) 1 1)) W = .ok (.string ⟨#[digB n]⟩) W := by
  intro W b hc
  have e := digB_toNat h0 h1
  exact run_convert_bytes_back (P := Tryd.prog) W 22 9 5 ⟨b, 0, none⟩ 1 [digB n] Tryd.underlying22 Tryd.underlying5 Tryd.underlying9
    (fun j hj => by
      have : j = 0 := by simpa using hj
      subst this
      show W.cell? (Addr.add ⟨b, 0, none⟩ 0) = some (.int .u8 ((digB n).toNat : Int))
      rw [e]; simpa [Addr.add] using hc)

theorem itoa_small {n : Int} (h0 : 0 ≤ n) (h : n < 10) : Lib.itoa n = [digB n] := by
  unfold Lib.itoa; rw [if_neg (by omega), Lib.decDigits_one (by omega)]; rfl
theorem itoa_big {n : Int} (h : 10 ≤ n) : Lib.itoa n = Lib.itoa (n / 10) ++ [digB (n % 10)] := by
  unfold Lib.itoa; rw [if_neg (by omega), if_neg (by omega), Lib.decDigits, dif_neg (by omega)]
  have e1 : n.toNat / 10 = (n / 10).toNat := by omega
  have e2 : n.toNat % 10 = (n % 10).toNat := by omega
  rw [e1, e2]; rfl
theorem itoa_minus {n : Int} (h : n < 0) : Lib.itoa n = 45 :: Lib.itoa (-n) := by
  unfold Lib.itoa; rw [if_pos h, if_neg (by omega)]
  have e : n.natAbs = (-n).toNat := by omega
  rw [e]
theorem nDigits_le : ∀ (k u : Nat), u < 10 ^ (k + 1) → Lib.nDigits u ≤ k + 1
  | 0, u, h => by rw [Lib.nDigits_small (by simpa using h)]; omega
  | k + 1, u, h => by
    by_cases hu : u < 10
    · rw [Lib.nDigits_small hu]; omega
    · rw [Lib.nDigits_big hu]
      have := nDigits_le k (u / 10) (by rw [Nat.pow_succ] at h; omega)
      omega
theorem itoa_len {n : Int} (h1 : -9223372036854775808 ≤ n) (h2 : n ≤ 9223372036854775807) : ((Lib.itoa n).length : Int) ≤ 8388608 := by
  have hd : ∀ u : Nat, u ≤ 9223372036854775808 → (Lib.decDigits u).length ≤ 20 := fun u hu => by
    rw [Lib.decDigits_length]; exact nDigits_le 19 u (by omega)
  unfold Lib.itoa
  split
  · have := hd n.natAbs (by omega); rw [List.length_cons]; omega
  · have := hd n.toNat (by omega); omega
theorem itoa_len20 {n : Int} (h1 : -9223372036854775808 ≤ n) (h2 : n ≤ 9223372036854775807) : (Lib.itoa n).length ≤ 21 := by
  have hd : ∀ u : Nat, u ≤ 9223372036854775808 → (Lib.decDigits u).length ≤ 20 := fun u hu => by
    rw [Lib.decDigits_length]; exact nDigits_le 19 u (by omega)
  unfold Lib.itoa
  split
  · have := hd n.natAbs (by omega); rw [List.length_cons]; omega
  · have := hd n.toNat (by omega); omega
theorem u8_keep {n : Int} (h0 : 0 ≤ n) (h1 : n < 10) : IntKind.u8.wrap (48 + n) = 48 + n := by
  simp [IntKind.wrap, IntKind.bits, IntKind.signed]; omega

set_option maxHeartbeats 400000 in
theorem l1Number_small (n : Int) (w : World) (h0 : 0 ≤ n) (hs : n < 10) :
    Calls Tryd.prog 15 #[.int .i64 n] w fun e w' => e = .returned (.string ⟨(Lib.itoa n).toArray⟩) ∧ Below w.heap.size w w' := by
  have z1 : ¬ n < 0 := by omega
  have c1 := u8_keep h0 hs
  have kc := conv_digit n h0 hs
  have Hf := Lib.hid (itoa_small h0 hs)
  go_enter Tryd.func15, Tryd.ntmps15
  go_wp2_with fail
  go_ret
  exact ⟨by rw [Hf.out]; rfl, by repeat (first | exact Below.refl _ _ | assumption | exact bel1 (by assumption) | exact bel2 (by assumption) | exact bel3 (by assumption) | exact bel4 (by assumption) | refine Below.drew ?_ | refine below_drewN ?_ _ | refine Below.setCell ?_ (by first | (simp; done) | (simp; omega)) _ | refine Below.alloc ?_ (by first | (simp; done) | (simp; omega)) _)⟩

set_option maxHeartbeats 1000000 in
theorem l1Number_pos (k : Nat) : ∀ (n : Int) (w : World), 0 ≤ n → n ≤ 1000000000 → n ≤ k →
    Calls Tryd.prog 15 #[.int .i64 n] w fun e w' => e = .returned (.string ⟨(Lib.itoa n).toArray⟩) ∧ Below w.heap.size w w' := by
  induction k with
  | zero =>
    intro n w h0 h1 hk
    exact l1Number_small n w h0 (by omega)
  | succ k ih =>
    intro n w h0 h1 hk
    by_cases hs : n < 10
    · exact l1Number_small n w h0 hs
    · have Hf := Lib.hid (itoa_big (n := n) (by omega))
      have d0 : 0 ≤ n % 10 := by omega
      have d1 : n % 10 < 10 := by omega
      have c1 := u8_keep d0 d1
      have kc := conv_digit (n % 10) d0 d1
      have IH := Lib.hid (fun w => ih (n / 10) w (by omega) (by omega) (by omega))
      clear ih
      have q1 : n.tdiv 10 = n / 10 := Int.tdiv_eq_ediv_of_nonneg h0
      have q2 : n.tmod 10 = n % 10 := Int.tmod_eq_emod_of_nonneg h0
      have q3 : IntKind.i64.wrap (n / 10) = n / 10 := IntWalk.i64_in _ (by omega)
      have c2 : IntKind.i64.wrap (48 + n % 10) = 48 + n % 10 := IntWalk.i64_in _ (by omega)
      have hadd := fun w => run_string_add_lists (P := Tryd.prog) w (Lib.itoa (n / 10)) [digB (n % 10)] (itoa_len (by omega) (by omega)) (by simp)
      go_enter Tryd.func15, Tryd.ntmps15
      go_wp2_with fail
      go_region_with (first | (go_at_call 15; refine (IH.out _).mono ?_; rintro e w1 ⟨rfl, hb1⟩; have hlt := (fun n (hn : n < _) => Nat.lt_of_lt_of_le hn hb1.size); obtain ⟨hc1, hf1⟩ := bcell hb1))
      all_goals
        go_wp2
        go_ret
        refine ⟨by rw [Hf.out]; rfl, ?_⟩
        first
          | exact Below.alloc (belT (Below.drew (Below.refl _ _)) hb1) hb1.size _
          | exact belT (Below.drew ((Below.refl _ _).alloc (Nat.le_refl _) _)) hb1

set_option maxHeartbeats 1000000 in
theorem l1Number (n : Int) (w : World) (h0 : -1000000000 ≤ n) (h1 : n ≤ 1000000000) :
    Calls Tryd.prog 15 #[.int .i64 n] w fun e w' => e = .returned (.string ⟨(Lib.itoa n).toArray⟩) ∧ Below w.heap.size w w' := by
  by_cases hn : 0 ≤ n
  · exact l1Number_pos n.toNat n w hn h1 (by omega)
  · have Hf := Lib.hid (itoa_minus (n := n) (by omega))
    have z1 : n < 0 := by omega
    have z2 : (n == -n) = false := by simp; omega
    have hadd := fun w => run_string_add_lists (P := Tryd.prog) w [45] (Lib.itoa (-n)) (by simp) (itoa_len (by omega) (by omega))
    have P := Lib.hid (fun w => l1Number_pos (-n).toNat (-n) w (by omega) (by omega) (by omega))
    go_enter Tryd.func15, Tryd.ntmps15
    go_wp2_with fail
    refine (P.out _).mono ?_
    rintro e w1 ⟨rfl, hb1⟩
    go_wp2_with fail
    go_ret
    exact ⟨by rw [Hf.out]; rfl, hb1⟩

/-- the text of a fraction -/
def txt (u d : Int) : List UInt8 := if okB u d = true then (if d = 1 then Lib.itoa u else Lib.itoa u ++ (47 :: Lib.itoa d)) else []

set_option maxHeartbeats 1000000 in
theorem text_impl (u d : Int) (w : World) (htab : Lib.TabIs Tryd.prog w "internal/strconv.uint64pow10" .u64 Lib.pow10Tab) :
    Calls Tryd.prog 6 #[.agg #[.int .i64 u, .int .i64 d]] w fun e w' => e = .returned (.string ⟨(txt u d).toArray⟩) ∧ Below w.heap.size w w' := by
  rcases hB : okB u d with _ | _
  · have Hf := Lib.hid (show txt u d = [] by simp [txt, hB])
    go_enter Tryd.func6, Tryd.ntmps6
    go_wp2_with fail
    refine (fracOk_impl_v _ _ _ hB _).mono ?_
    rintro e w1 ⟨rfl, hb1⟩
    go_wp2_with fail
    go_ret
    exact ⟨by rw [Hf.out]; rfl, by repeat (first | exact Below.refl _ _ | assumption | exact bel1 (by assumption) | exact bel2 (by assumption) | exact bel3 (by assumption) | exact bel4 (by assumption) | refine Below.drew ?_ | refine below_drewN ?_ _ | refine Below.setCell ?_ (by first | (simp; done) | (simp; omega)) _ | refine Below.alloc ?_ (by first | (simp; done) | (simp; omega)) _)⟩
  · obtain ⟨a1, a2, a3, a4, _⟩ := okB_iff.1 hB
    have T0 := Lib.hid htab
    clear htab
    go_enter Tryd.func6, Tryd.ntmps6
    go_wp2_with fail
    obtain ⟨W, hW⟩ : ∃ W : World, W = (w.alloc (.cells #[.int .i64 u, .int .i64 d] 24)) := ⟨_, rfl⟩
    have hz : W.heap.size = w.heap.size + 1 := by rw [hW]; simp
    have hbW : Below w.heap.size w W := by rw [hW]; exact (by repeat (first | exact Below.refl _ _ | assumption | exact bel1 (by assumption) | exact bel2 (by assumption) | exact bel3 (by assumption) | exact bel4 (by assumption) | refine Below.drew ?_ | refine below_drewN ?_ _ | refine Below.setCell ?_ (by first | (simp; done) | (simp; omega)) _ | refine Below.alloc ?_ (by first | (simp; done) | (simp; omega)) _))
    have r0 := stays (p := w.heap.size) (o := 0) (by omega) (show W.cell? ⟨w.heap.size, 0, none⟩ = some (.int .i64 u) from by rw [hW]; simp [go_sem])
    have r1 := stays (p := w.heap.size) (o := 1) (by omega) (show W.cell? ⟨w.heap.size, 1, none⟩ = some (.int .i64 d) from by rw [hW]; simp [go_sem])
    rw [← hW]
    clear hW
    have Hz := Lib.hid hz
    clear hz
    have TW := Lib.hid (Joins.tab_stays (show Tryd.prog.globalNamed "internal/strconv.uint64pow10" = some 0 by kernel_rfl) T0.out hbW (Nat.le_refl _))
    refine (fracOk_impl_v _ _ _ hB _).mono ?_
    rintro e w1 ⟨rfl, hb1⟩
    have T1 := Lib.hid (Joins.tab_stays (show Tryd.prog.globalNamed "internal/strconv.uint64pow10" = some 0 by kernel_rfl) TW.out hb1 (Nat.le_refl _))
    go_wp2_with fail
    refine (Tryd.strconv_Itoa u (by omega) (by omega) _ T1.out).mono ?_
    rintro e w2 ⟨rfl, hg⟩
    have hb2 : Below w1.heap.size w1 w2 := by
      obtain ⟨k, os, rfl⟩ := hg; exact Lib.below_grow _ w1 (Nat.le_refl _) k os
    clear hg
    have k2 := belT hb1 hb2
    have T2 := Lib.hid (Joins.tab_stays (show Tryd.prog.globalNamed "internal/strconv.uint64pow10" = some 0 by kernel_rfl) T1.out hb2 (Nat.le_refl _))
    by_cases hd : d = 1
    · have Hf := Lib.hid (show txt u d = Lib.itoa u by unfold txt; rw [if_pos hB, if_pos hd])
      have z1 : (d == 1) = true := by simp [hd]
      have z2 : (d != 1) = false := by simp [hd]
      clear hd
      go_wp2_with fail
      go_ret
      have hk := belT hbW k2
      exact ⟨by rw [Hf.out]; rfl, hk⟩
    · have Hf := Lib.hid (show txt u d = Lib.itoa u ++ (47 :: Lib.itoa d) by unfold txt; rw [if_pos hB, if_neg hd])
      have z1 : (d == 1) = false := by simp [hd]
      have z2 : (d != 1) = true := by simp [hd]
      clear hd
      have hadd := fun w => run_string_add_lists (P := Tryd.prog) w [47] (Lib.itoa d) (by simp) (itoa_len (by omega) (by omega))
      have hadd2 := fun w => run_string_add_lists (P := Tryd.prog) w (Lib.itoa u) (47 :: Lib.itoa d) (itoa_len (by omega) (by omega)) (by have := itoa_len (n := d) (by omega) (by omega); have := itoa_len20 (n := d) (by omega) (by omega); simp; omega)
      go_wp2_with fail
      refine (Tryd.strconv_Itoa d (by omega) (by omega) _ T2.out).mono ?_
      rintro e w3 ⟨rfl, hg⟩
      have hb3 : Below w2.heap.size w2 w3 := by
        obtain ⟨k, os, rfl⟩ := hg; exact Lib.below_grow _ w2 (Nat.le_refl _) k os
      clear hg
      go_wp2_with fail
      go_ret
      have hk := belT hbW (belT k2 hb3)
      exact ⟨by rw [Hf.out]; rfl, hk⟩

set_option maxHeartbeats 1000000 in
theorem text_spec (u d : Int) (w : World) :
    Calls Tryd.prog 7 #[.agg #[.int .i64 u, .int .i64 d]] w fun e w' => e = .returned (.string ⟨(txt u d).toArray⟩) ∧ Below w.heap.size w w' := by
  rcases hB : okB u d with _ | _
  · have Hf := Lib.hid (show txt u d = [] by simp [txt, hB])
    go_enter Tryd.func7, Tryd.ntmps7
    go_wp2_with fail
    refine (fracOk_spec_v _ _ _ hB _).mono ?_
    rintro e w1 ⟨rfl, hb1⟩
    go_wp2_with fail
    go_ret
    exact ⟨by rw [Hf.out]; rfl, by repeat (first | exact Below.refl _ _ | assumption | exact bel1 (by assumption) | exact bel2 (by assumption) | exact bel3 (by assumption) | exact bel4 (by assumption) | refine Below.drew ?_ | refine below_drewN ?_ _ | refine Below.setCell ?_ (by first | (simp; done) | (simp; omega)) _ | refine Below.alloc ?_ (by first | (simp; done) | (simp; omega)) _)⟩
  · obtain ⟨a1, a2, a3, a4, _⟩ := okB_iff.1 hB
    go_enter Tryd.func7, Tryd.ntmps7
    go_wp2_with fail
    obtain ⟨W, hW⟩ : ∃ W : World, W = (w.alloc (.cells #[.int .i64 u, .int .i64 d] 24)) := ⟨_, rfl⟩
    have hz : W.heap.size = w.heap.size + 1 := by rw [hW]; simp
    have hbW : Below w.heap.size w W := by rw [hW]; exact (by repeat (first | exact Below.refl _ _ | assumption | exact bel1 (by assumption) | exact bel2 (by assumption) | exact bel3 (by assumption) | exact bel4 (by assumption) | refine Below.drew ?_ | refine below_drewN ?_ _ | refine Below.setCell ?_ (by first | (simp; done) | (simp; omega)) _ | refine Below.alloc ?_ (by first | (simp; done) | (simp; omega)) _))
    have r0 := stays (p := w.heap.size) (o := 0) (by omega) (show W.cell? ⟨w.heap.size, 0, none⟩ = some (.int .i64 u) from by rw [hW]; simp [go_sem])
    have r1 := stays (p := w.heap.size) (o := 1) (by omega) (show W.cell? ⟨w.heap.size, 1, none⟩ = some (.int .i64 d) from by rw [hW]; simp [go_sem])
    rw [← hW]
    clear hW
    have Hz := Lib.hid hz
    clear hz
    refine (fracOk_spec_v _ _ _ hB _).mono ?_
    rintro e w1 ⟨rfl, hb1⟩
    by_cases hd : d = 1
    · have Hf := Lib.hid (show txt u d = Lib.itoa u by unfold txt; rw [if_pos hB, if_pos hd])
      have z1 : (d == 1) = true := by simp [hd]
      clear hd
      go_wp2_with fail
      refine (l1Number u _ a1 a2).mono ?_
      rintro e w2 ⟨rfl, hb2⟩
      go_wp2_with fail
      go_ret
      have hk := belT hbW (belT hb1 hb2)
      exact ⟨by rw [Hf.out]; rfl, hk⟩
    · have Hf := Lib.hid (show txt u d = Lib.itoa u ++ (47 :: Lib.itoa d) by unfold txt; rw [if_pos hB, if_neg hd])
      have z1 : (d == 1) = false := by simp [hd]
      clear hd
      have hadd := fun w => run_string_add_lists (P := Tryd.prog) w (Lib.itoa u) [47] (itoa_len (by omega) (by omega)) (by simp)
      have hadd2 := fun w => run_string_add_lists (P := Tryd.prog) w (Lib.itoa u ++ [47]) (Lib.itoa d) (by have := itoa_len20 (n := u) (by omega) (by omega); simp; omega) (itoa_len (by omega) (by omega))
      have N1 := Lib.hid (fun w => l1Number u w a1 a2)
      have N2 := Lib.hid (fun w => l1Number d w (by omega) a4)
      go_wp2_with fail
      go_region_held3 (fun w' => Below W.heap.size W w')
        (first | exact Below.refl _ _ | exact Below.drew (Below.refl _ _) | (refine Below.drew ?_; assumption) | exact belT (by assumption) (by assumption) | assumption)
        (first | (go_at_call_of 15 (Value.int IntKind.i64 u); refine (N1.out _).mono ?_; rintro e w1 ⟨rfl, hb1⟩) | (go_at_call_of 15 (Value.int IntKind.i64 d); refine (N2.out _).mono ?_; rintro e w1 ⟨rfl, hb1⟩))
      go_wp2
      have hq : Below W.heap.size W w1 := by assumption
      have hk := belT hbW hq
      go_ret
      exact ⟨by rw [Hf.out]; rfl, hk⟩
end Go.Proofs.YtijlednmagdpgaaDoor
