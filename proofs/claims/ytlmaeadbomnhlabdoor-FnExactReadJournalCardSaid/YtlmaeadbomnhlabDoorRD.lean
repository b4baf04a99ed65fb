/- Texts in one: WordI, ReadI, JouI, Impl12T, Impl12Q. -/
import Derived.Test.YtlmaeadbomnhlabDoorDeedI
import Derived.Test.YtlmaeadbomnhlabDoorMC
import Derived.Lib.AppendZeros
import Derived.Test.YtlmaeadbomnhlabDoorRB
import Derived.Test.YtlmaeadbomnhlabDoorQJ
namespace Go.Proofs.YtlmaeadbomnhlabDoor
set_option linter.unusedSimpArgs false
set_option linter.unusedVariables false
open Go.RowKit

/-- what stands in a line, as the program reads it -/
def wdH (s : List UInt8) : List UInt8 := if wordsB s = true then headW s else []

def wdL (s : List UInt8) : List Int := if wordsB s = true then wordsL s else []

theorem readA_wd (s : List UInt8) : readA s = deedOf (wdH s) (wdL s) := by unfold readA wdH wdL; split <;> rfl

theorem wd_yes {s : List UInt8} (h : wordsB s = true) : wdH s = headW s ∧ wdL s = wordsL s := ⟨if_pos h, if_pos h⟩

theorem wd_no {s : List UInt8} (h : wordsB s = false) : wdH s = [] ∧ wdL s = [] := by unfold wdH wdL; rw [h]; exact ⟨rfl, rfl⟩

/-- the first k numbers behind a line's first word -/
def wdk (s : List UInt8) (k : Nat) : List Int := (wordsL s).take k

theorem wordsL_len (s : List UInt8) : (wordsL s).length = (argW s).length := by unfold wordsL; rw [List.length_map]

theorem wdk_len (s : List UInt8) {k : Nat} (h : k ≤ (argW s).length) : (wdk s k).length = k := by unfold wdk; rw [List.length_take, wordsL_len]; omega

theorem wdk_all (s : List UInt8) : wdk s (argW s).length = wordsL s := by unfold wdk; rw [← wordsL_len]; exact List.take_length

theorem wdk_snoc (s : List UInt8) {k : Nat} (h : k < (argW s).length) : wdk s (k + 1) = wdk s k ++ [wordI (strAt (argW s) k)] := by
  unfold wdk
  rw [List.take_succ_eq_append_getElem (by rw [wordsL_len]; exact h), strAt_eq _ _ h]
  unfold wordsL; rw [List.getElem_map]

theorem split_impl (s : List UInt8) (hs : s.length ≤ 1048577) (w : World) (hT : TabOk w) : Calls Tryd.prog 38 #[strV s, .string ⟨#[32]⟩] w fun e w' =>
    ∃ b, e = .returned (.slice (some ⟨b, 0, none⟩) (sepT 32 s).length (sepT 32 s).length) ∧ b < w'.heap.size ∧ Below w.heap.size w w' ∧ ∀ i, i < (sepT 32 s).length → w'.cell? ⟨b, i, none⟩ = some (strV (strAt (sepT 32 s) i)) := by
  obtain ⟨m, hm⟩ := hT.len
  refine (Tryd.strings_Split ⟨s.toArray⟩ ⟨#[32]⟩ m w (by simp [ByteArray.size]; omega) hm (by simp [ByteArray.size])).mono ?_
  rintro e w' ⟨rfl, rfl⟩
  rw [splitB_sep 32 s, countB_sep 32 s]
  refine ⟨w.heap.size, rfl, by simp, (Below.refl _ _).alloc (Nat.le_refl _) _, fun i hi => ?_⟩
  rw [strAt_eq _ i hi]
  simp [go_sem, strV, hi]

theorem atoi_yes (t : List UInt8) (ht : t.length ≤ 1048577) (v : Int) (h : Lib.atoiAll t = .ok v) (w : World) : Calls Tryd.prog 39 #[strV t] w (Adds (.tuple #[.int .i64 v, .nilIface]) w) :=
  (Tryd.strconv_Atoi_ok ⟨t.toArray⟩ (by simp [ByteArray.size]; omega) v h w).mono fun e w' h => ⟨h.1, by
    rcases h.2 with rfl | ⟨k, rfl⟩
    · exact Below.refl _ _
    · exact Lib.bytesWorld_below _ _ _⟩

theorem atoi_no (t : List UInt8) (ht : t.length ≤ 1048577) (h : ∀ v, Lib.atoiAll t ≠ .ok v) (w : World) (hT : TabOk w) : Calls Tryd.prog 39 #[strV t] w fun e w' => ∃ (n : Int) (ty : TypeId) (p : Value), e = .returned (.tuple #[.int .i64 n, .iface ty p]) ∧ Below w.heap.size w w' := by
  cases hx : Lib.atoiAll t with
  | ok v => exact absurd hx (h v)
  | «syntax» =>
    obtain ⟨t1, p1, h1⟩ := hT.syn
    refine (Tryd.strconv_Atoi_syntax ⟨t.toArray⟩ (by simp [ByteArray.size]; omega) hx _ w h1 (.inr ⟨_, _, rfl⟩)).mono ?_
    rintro e w' ⟨N, rfl, _, _, hb⟩
    exact ⟨_, _, _, rfl, hb⟩
  | range =>
    obtain ⟨t1, p1, h1⟩ := hT.ran
    refine (Tryd.strconv_Atoi_range ⟨t.toArray⟩ (by simp [ByteArray.size]; omega) hx _ w h1 (.inr ⟨_, _, rfl⟩)).mono ?_
    rintro e w' ⟨N, rfl, _, _, hb⟩
    exact ⟨_, _, _, rfl, hb⟩

set_option maxHeartbeats 4000000 in
set_option maxRecDepth 100000 in
theorem wordsOf_impl (s : List UInt8) (hs : s.length ≤ 1048577) (w : World) (hT : TabOk w) : Calls Tryd.prog 30 #[strV s] w fun e w' =>
    ∃ (A : Option Addr) (c : Nat), e = .returned (.tuple #[strV (wdH s), .slice A (wdL s).length c, .bool (wordsB s)]) ∧ Below w.heap.size w w' ∧ Ints w' (· < w'.heap.size) A (wdL s) := by
  have HSP := Lib.hid (split_impl s hs w hT)
  have hpos := sep_pos 32 s
  have hcnt := sep_count 32 s
  have HAW : Hid ((argW s).length = (sepT 32 s).length - 1) := argW_length s
  have HAT : Hid (∀ k, k < (argW s).length → strAt (argW s) k = strAt (sepT 32 s) (k + 1)) := fun k hk => argW_at s hk
  have HLN : Hid (∀ k, k < (sepT 32 s).length → (strAt (sepT 32 s) k).length ≤ s.length) := fun k hk => sep_len s k hk
  have HHD : Hid (headW s = strAt (sepT 32 s) 0) := head_at s
  obtain ⟨L, hL⟩ : ∃ L, sepT 32 s = L := ⟨_, rfl⟩
  rw [hL] at HSP hpos hcnt HAW HAT HLN HHD
  clear hL
  unfold strV at HSP ⊢
  go_enter Tryd.func30, Tryd.ntmps30
  go_wp2_with fail
  refine HSP.out.mono ?_
  rintro e w1 ⟨b, rfl, hbl, hb1, hc1⟩
  have HC := Lib.hid hc1
  have HB := Lib.hid hb1
  clear hc1 hb1
  have hge : (1 : Int) ≤ (L.length : Int) := by omega
  by_cases hone : L.length = 1
  · have hw0 : (argW s).length = 0 := by rw [HAW.out]; omega
    have hyes : wordsB s = true := words_yes fun i hi => by omega
    have HY : Hid (wdH s = strAt L 0 ∧ wdL s = [] ∧ wordsB s = true) := ⟨by rw [(wd_yes hyes).1, HHD.out], by rw [(wd_yes hyes).2]; unfold wordsL; rw [List.eq_nil_of_length_eq_zero hw0]; rfl, hyes⟩
    have c0 := HC.out 0 (by omega)
    have e1 : (L.length : Int) = 1 := by omega
    clear hw0 hyes HAT HLN HAW hcnt hpos
    rw [hone]
    clear hone hge e1
    go_wp2_with fail
    go_loopw [6, 16] (fun v iv wr => v = .slice none 0 0 ∧ iv = .int .i64 0 ∧ wr = w1) (fun _ _ _ => 0)
    case atStart => exact ⟨rfl, rfl, rfl⟩
    case round =>
      obtain ⟨rfl, rfl, rfl⟩ := hrel
      go_wp2_with fail
      refine bodyPost_ret (v := .tuple #[.string ⟨(strAt L 0).toArray⟩, .slice none 0 0, .bool true]) (by simp [results, Tryd.results30, go_sem]) rfl ?_
      rw [HY.out.1, HY.out.2.1, HY.out.2.2]
      exact ⟨none, 0, rfl, HB.out, Ints.nil _ _ _⟩
  have hge2 : ¬ (L.length = 1) := hone
  obtain ⟨i0, hi0, hz0, hz1, hz2⟩ := info_parts infoI
  have HI0 := Lib.hid hi0
  have HZ0 := Lib.hid hz0
  have HZ1 := Lib.hid hz1
  have HZ2 := Lib.hid hz2
  have HT := Lib.hid hT
  have HTS : Hid (∀ w', Below w1.heap.size w1 w' → TabOk w') := fun w' hb => (hT.stay HB.out).stay hb
  have G0 : Hid (Grows w1 w1.heap.size (.slice none 0 0) (wdk s 0)) := by show Grows _ _ _ _; exact Grows.nil w1 _
  have HB1 : Hid (∀ i, i < 0 → wordB (strAt (argW s) i) = true) := fun i hi => by omega
  clear hi0 hz0 hz1 hz2 hT
  go_wp2_with fail
  go_loopw [6, 16] (fun v iv wr => ∃ k : Nat, k ≤ L.length - 1 ∧ iv = .int .i64 (k : Nat) ∧ Hid (Grows wr w1.heap.size v (wdk s k)) ∧ Hid (∀ i, i < k → wordB (strAt (argW s) i) = true) ∧ Hid (Below w1.heap.size w1 wr)) (fun _ iv _ => L.length - 1 - (intOf iv).toNat)
  case atStart => exact ⟨0, Nat.zero_le _, rfl, G0, HB1, Below.refl _ _⟩
  case round =>
    clear G0 HB1
    obtain ⟨k, hk, rfl, HG, HWB, HW⟩ := hrel
    have hLT : k ≤ (argW s).length := by rw [HAW.out]; exact hk
    have HKL : Hid ((wdk s k).length = k) := wdk_len s hLT
    have hsz := HW.out.size
    by_cases hlt : k < L.length - 1
    · have hla : k < (argW s).length := by rw [HAW.out]; exact hlt
      have hlt2 : ¬ (L.length - 1 ≤ k) := by omega
      have c0 := (HW.out.cell (p := ⟨b, k + 1, none⟩) hbl).trans (HC.out (k + 1) (by omega))
      have c1 : wr.cell? ⟨b, 1 + k, none⟩ = some (.string ⟨(strAt L (k + 1)).toArray⟩) := by rw [Nat.add_comm]; exact c0
      have htl := HLN.out (k + 1) (by omega)
      have hta := HAT.out k hla
      have hno := @words_no s k hla
      have hsn := wdk_snoc s hla
      have HNX : Hid (wordB (strAt (argW s) k) = true → ∀ i, i < k + 1 → wordB (strAt (argW s) i) = true) := fun h i hi => by
        by_cases e : i = k
        · rw [e]; exact h
        · exact HWB.out i (by omega)
      rw [hta] at hno hsn HNX
      obtain ⟨t, ht⟩ : ∃ t, strAt L (k + 1) = t := ⟨_, rfl⟩
      rw [ht] at c0 c1 htl hno hsn HNX
      have hkm : k + 1 ≤ L.length - 1 := hlt
      have hw1 : IntKind.i64.wrap ((k : Int) + 1) = (k : Int) + 1 := IntWalk.i64_in _ ⟨by omega, by omega⟩
      have hki : (k : Int) < ((L.length - 1 : Nat) : Int) := by omega
      clear hta ht hla hlt
      by_cases hok : ∃ v, Lib.atoiAll t = .ok v
      · obtain ⟨v, hv⟩ := hok
        obtain ⟨v1, v2⟩ := Lib.atoiAll_bounds hv
        have HAT2 := Lib.hid (atoi_yes t (by omega) v hv)
        have HIT := Lib.hid (fun w' hP => itoa_impl v v1 v2 w' hP)
        unfold strV at HAT2 HIT
        by_cases hq : Lib.itoa v = t
        · have hwb : wordB t = true := by unfold wordB; rw [hv]; exact decide_eq_true hq
          have hwi : wordI t = v := by unfold wordI; rw [hv]
          have HNB := Lib.hid (HNX.out hwb)
          rw [hwi] at hsn
          rw [hq] at HIT
          have HSN := Lib.hid hsn
          clear hv hq hwb hwi hno hsn
          go_wp2_with (first | (go_at_call 39; refine (HAT2.out _).mono ?_; rintro e w4 ⟨rfl, hb4⟩; have HW4 := Lib.hid (belT HW.out hb4); have HG4 := Lib.hid (HG.out.keep hb4); clear hb4) | (go_at_call 27; refine (HIT.out _ (HTS.out _ HW4.out)).mono ?_; rintro e w5 ⟨rfl, hb5⟩; have HW5 := Lib.hid (belT HW4.out hb5); have HG5 := Lib.hid (HG4.out.keep hb5); clear hb5) | (at_builtin; refine wpList_append_own_at _ rfl (.tmp 33) (.tmp 35) _ rfl w1.heap.size 3 i0 (.int .i64 0) 1 8 Tryd.underlying47 HI0.out HZ0.out HZ1.out HZ2.out rfl (by decide) _ _ _ rfl (HG5.out.alloc _) ⟨w5.heap.size, 0, none⟩ 1 1 [.int .i64 v] rfl rfl (cell_one_new _ _ _) ?c2 ?c3 ?c4 ?c5 ?_))
          case c2 => first | rfl | (intro u hu; simp at hu; subst hu; rfl)
          case c3 => rw [HKL.out]; unfold maxLen; omega
          case c4 => rw [HKL.out]; omega
          case c5 => have := HW5.out.size; first | omega | (simp; omega)
          intro v' w6 hown hgrow _ hat
          have HN : Hid (Grows w6 w1.heap.size v' (wdk s (k + 1))) := by
            show Grows _ _ _ _
            rw [HSN.out]
            refine Grows.snoc ?_
            rw [HKL.out] at hown ⊢
            exact hown
          have HW6 : Hid (Below w1.heap.size w1 w6) := HG5.out.below hgrow HW5.out (Nat.le_refl _) HW5.out.size
          clear hown hgrow hat
          go_wp2_with fail
          first
            | exact ⟨⟨k + 1, hkm, by first | rfl | simp, HN, HNB, HW6⟩, by simp [intOf]; omega⟩
            | (go_roundw
               case rel => exact ⟨k + 1, hkm, by go_num, HN, HNB, HW6⟩
               case measure => simp [intOf]; omega)
        · have hwb : wordB t = false := by unfold wordB; rw [hv]; exact decide_eq_false hq
          have hn := hno hwb
          have HN : Hid (wdH s = [] ∧ wdL s = [] ∧ wordsB s = false) := ⟨(wd_no hn).1, (wd_no hn).2, hn⟩
          obtain ⟨T, hT⟩ : ∃ T, Lib.itoa v = T := ⟨_, rfl⟩
          rw [hT] at HIT hq
          have hz : (T == t) = false := by rw [beq_eq_false_iff_ne]; exact hq
          clear hv hq hwb hn hno hsn hT
          go_wp2_with (first | (go_at_call 39; refine (HAT2.out _).mono ?_; rintro e w4 ⟨rfl, hb4⟩; have HW4 := Lib.hid (belT HW.out hb4); clear hb4) | (go_at_call 27; refine (HIT.out _ (HTS.out _ HW4.out)).mono ?_; rintro e w5 ⟨rfl, hb5⟩; have HW5 := Lib.hid (belT HW4.out hb5); clear hb5))
          refine bodyPost_ret (v := .tuple #[.string ⟨#[]⟩, .slice none 0 0, .bool false]) (by simp [results, Tryd.results30, go_sem]) rfl ?_
          rw [HN.out.1, HN.out.2.1, HN.out.2.2]
          exact ⟨none, 0, rfl, HB.out.trans (HW5.out.mono HB.out.size), Ints.nil _ _ _⟩
      · have hnv : ∀ v, Lib.atoiAll t ≠ .ok v := fun v e => hok ⟨v, e⟩
        have hwb : wordB t = false := by
          unfold wordB
          cases hx : Lib.atoiAll t with
          | ok v => exact absurd hx (hnv v)
          | «syntax» => rfl
          | range => rfl
        have hn := hno hwb
        have HN : Hid (wdH s = [] ∧ wdL s = [] ∧ wordsB s = false) := ⟨(wd_no hn).1, (wd_no hn).2, hn⟩
        have HAT2 := Lib.hid (fun w' hT => atoi_no t (by omega) hnv w' hT)
        unfold strV at HAT2
        clear hok hnv hwb hn hno hsn
        go_wp2_with (go_at_call 39; refine (HAT2.out _ (HTS.out _ HW.out)).mono ?_; rintro e w4 ⟨nn, ty, pp, rfl, hb4⟩; have HW4 := Lib.hid (belT HW.out hb4); clear hb4)
        refine bodyPost_ret (v := .tuple #[.string ⟨#[]⟩, .slice none 0 0, .bool false]) (by simp [results, Tryd.results30, go_sem]) rfl ?_
        rw [HN.out.1, HN.out.2.1, HN.out.2.2]
        exact ⟨none, 0, rfl, HB.out.trans (HW4.out.mono HB.out.size), Ints.nil _ _ _⟩
    · have hkl : k = (argW s).length := by rw [HAW.out]; omega
      have hnl : ¬ (k : Int) < ((L.length - 1 : Nat) : Int) := by omega
      have hyes : wordsB s = true := words_yes fun i hi => HWB.out i (by omega)
      have hg := HG.out
      rw [hkl, wdk_all] at hg
      obtain ⟨A, c, rfl, _, ho⟩ := hg.own
      have HY : Hid (wdH s = strAt L 0 ∧ wdL s = wordsL s ∧ wordsB s = true) := ⟨by rw [(wd_yes hyes).1, HHD.out], (wd_yes hyes).2, hyes⟩
      have HO := Lib.hid ho
      have c0 := (HW.out.cell (p := ⟨b, 0, none⟩) hbl).trans (HC.out 0 (by omega))
      have hne : L ≠ [] := by intro e; rw [e] at hge; simp at hge
      clear hkl hg ho hyes HG
      go_wp2_with fail
      refine bodyPost_ret (v := .tuple #[.string ⟨(strAt L 0).toArray⟩, .slice A (wordsL s).length c, .bool true]) (by simp [results, Tryd.results30, go_sem]) rfl ?_
      rw [HY.out.1, HY.out.2.1, HY.out.2.2]
      first
        | exact ⟨A, c, rfl, HB.out.trans (HW.out.mono HB.out.size), HO.out.ints.mono fun b hb => hb.2⟩
        | exact ⟨A, ⟨c, rfl⟩, HB.out.trans (HW.out.mono HB.out.size), HO.out.ints.mono fun b hb => hb.2⟩

end Go.Proofs.YtlmaeadbomnhlabDoor

namespace Go.Proofs.YtlmaeadbomnhlabDoor
set_option linter.unusedSimpArgs false
set_option linter.unusedVariables false
open Go.RowKit

theorem bytes_eq (a b : List UInt8) : ((⟨a.toArray⟩ : ByteArray) = ⟨b.toArray⟩) ↔ a = b := by
  constructor
  · intro h; injection h with h; exact congrArg Array.toList h
  · intro h; rw [h]

theorem idx_kind (h : List UInt8) : Lib.idxOfS (wordsW.map fun w => ⟨w.toArray⟩) ⟨h.toArray⟩ = kindI h := by
  unfold Lib.idxOfS wordsW kindI
  simp only [List.map_cons, List.map_nil, Lib.idxFromS, bytes_eq]
  by_cases h0 : h = setW
  · rw [if_pos h0.symm, if_pos h0]; rfl
  rw [if_neg (fun e => h0 e.symm), if_neg h0]
  by_cases h1 : h = turnW
  · rw [if_pos h1.symm, if_pos h1]; rfl
  rw [if_neg (fun e => h1 e.symm), if_neg h1]
  by_cases h2 : h = shiftW
  · rw [if_pos h2.symm, if_pos h2]; rfl
  rw [if_neg (fun e => h2 e.symm), if_neg h2]
  by_cases h3 : h = smallW
  · rw [if_pos h3.symm, if_pos h3]; rfl
  rw [if_neg (fun e => h3 e.symm), if_neg h3]
  by_cases h4 : h = backW
  · rw [if_pos h4.symm, if_pos h4]; rfl
  rw [if_neg (fun e => h4 e.symm), if_neg h4]

theorem index_impl (b : Nat) (h : List UInt8) (w : World) (hc : ∀ i, i < 5 → w.cell? ⟨b, i, none⟩ = some (strV (strAt wordsW i))) : Calls Tryd.prog 31 #[.slice (some ⟨b, 0, none⟩) 5 5, strV h] w (Same (.int .i64 (kindI h)) w) := by
  have key := Tryd.slices_Index_string b 0 5 5 (wordsW.map fun w => ⟨w.toArray⟩) ⟨h.toArray⟩ w (by simp [wordsW]) (by omega) (fun j hj => by
    have hj5 : j < 5 := by simpa [wordsW] using hj
    rw [Nat.zero_add, hc j hj5, List.getD_eq_getElem?_getD, List.getElem?_map, strAt_eq _ _ hj5, List.getElem?_eq_getElem hj5]; rfl)
  rw [show (wordsW.map fun w => (⟨w.toArray⟩ : ByteArray)).take 5 = wordsW.map fun w => ⟨w.toArray⟩ from List.take_of_length_le (by simp [wordsW]), idx_kind] at key
  exact key.mono fun e w' h => ⟨h.1, h.2.symm⟩

/-- a deed in a box, in parts, whatever else stands -/
structure Box4 (w : World) (b : Nat) (x0 x1 x2 x3 : Int) : Prop where
  lt : b < w.heap.size
  c0 : w.cell? ⟨b, 0, none⟩ = some (.int .i64 x0)
  c1 : w.cell? ⟨b, 1, none⟩ = some (.int .i64 x1)
  c2 : w.cell? ⟨b, 2, none⟩ = some (.int .i64 x2)
  c3 : w.cell? ⟨b, 3, none⟩ = some (.int .i64 x3)
  f0 : ∀ i, w.frozen? ⟨b, i, none⟩ = false

theorem Box4.new (w : World) (x0 x1 x2 x3 : Int) : Box4 (w.alloc (.cells #[.int .i64 x0, .int .i64 x1, .int .i64 x2, .int .i64 x3] 25)) w.heap.size x0 x1 x2 x3 :=
  ⟨by simp, by simp [go_sem], by simp [go_sem], by simp [go_sem], by simp [go_sem], fun i => by simp [go_sem]⟩

theorem Box4.still {w w' : World} {b : Nat} {x0 x1 x2 x3 : Int} (h : Box4 w b x0 x1 x2 x3) (hb : Below w.heap.size w w') : Box4 w' b x0 x1 x2 x3 :=
  ⟨Nat.lt_of_lt_of_le h.lt hb.size, (hb.cell (p := ⟨b, 0, none⟩) h.lt).trans h.c0, (hb.cell (p := ⟨b, 1, none⟩) h.lt).trans h.c1, (hb.cell (p := ⟨b, 2, none⟩) h.lt).trans h.c2, (hb.cell (p := ⟨b, 3, none⟩) h.lt).trans h.c3, fun i => (hb.frozen (p := ⟨b, i, none⟩) h.lt).trans (h.f0 i)⟩

theorem putQ {w : World} {b : Nat} {z0 z1 z2 z3 : Int} (h : Box4 w b z0 z1 z2 z3) (x0 x1 x2 x3 : Value) :
    (((((w.setCell ⟨b, 0, none⟩ x0).setCell ⟨b, 1, none⟩ x1).setCell ⟨b, 2, none⟩ x2).setCell ⟨b, 3, none⟩ x3).cell? ⟨b, 0, none⟩ = some x0 ∧ ((((w.setCell ⟨b, 0, none⟩ x0).setCell ⟨b, 1, none⟩ x1).setCell ⟨b, 2, none⟩ x2).setCell ⟨b, 3, none⟩ x3).cell? ⟨b, 1, none⟩ = some x1) ∧
    (((((w.setCell ⟨b, 0, none⟩ x0).setCell ⟨b, 1, none⟩ x1).setCell ⟨b, 2, none⟩ x2).setCell ⟨b, 3, none⟩ x3).cell? ⟨b, 2, none⟩ = some x2 ∧ ((((w.setCell ⟨b, 0, none⟩ x0).setCell ⟨b, 1, none⟩ x1).setCell ⟨b, 2, none⟩ x2).setCell ⟨b, 3, none⟩ x3).cell? ⟨b, 3, none⟩ = some x3) := by
  have h0 := h.c0
  have h1 := h.c1
  have h2 := h.c2
  have h3 := h.c3
  refine ⟨⟨?_, ?_⟩, ?_, ?_⟩
  · rw [World.cell?_setCell_other _ _ _ _ (by simp), World.cell?_setCell_other _ _ _ _ (by simp), World.cell?_setCell_other _ _ _ _ (by simp)]; exact World.cell?_setCell_same _ _ _ h0
  · rw [World.cell?_setCell_other _ _ _ _ (by simp), World.cell?_setCell_other _ _ _ _ (by simp)]; exact World.cell?_setCell_same _ _ _ (by rw [World.cell?_setCell_other _ _ _ _ (by simp)]; exact h1)
  · rw [World.cell?_setCell_other _ _ _ _ (by simp)]; exact World.cell?_setCell_same _ _ _ (by rw [World.cell?_setCell_other _ _ _ _ (by simp), World.cell?_setCell_other _ _ _ _ (by simp)]; exact h2)
  · exact World.cell?_setCell_same _ _ _ (by rw [World.cell?_setCell_other _ _ _ _ (by simp), World.cell?_setCell_other _ _ _ _ (by simp), World.cell?_setCell_other _ _ _ _ (by simp)]; exact h3)

theorem below_putQ {a w : World} {b : Nat} (h : Below a.heap.size a w) (hb : a.heap.size ≤ b) (x0 x1 x2 x3 : Value) : Below a.heap.size a ((((w.setCell ⟨b, 0, none⟩ x0).setCell ⟨b, 1, none⟩ x1).setCell ⟨b, 2, none⟩ x2).setCell ⟨b, 3, none⟩ x3) :=
  (((h.setCell (p := ⟨b, 0, none⟩) hb _).setCell (p := ⟨b, 1, none⟩) hb _).setCell (p := ⟨b, 2, none⟩) hb _).setCell (p := ⟨b, 3, none⟩) hb _

set_option maxHeartbeats 4000000 in
set_option maxRecDepth 100000 in
theorem readDeed_impl (s : List UInt8) (hs : s.length ≤ 1048577) (w : World) (hT : TabOk w) :
    Calls Tryd.prog 11 #[strV s] w (Adds (.tuple #[ddV (readD s), .bool (readB s)]) w) := by
  obtain ⟨W, hW⟩ : ∃ W : World, W = w.alloc (.cells #[.int .i64 0, .int .i64 0, .int .i64 0, .int .i64 0] 25) := ⟨_, rfl⟩
  have hbW : Below w.heap.size w W := by rw [hW]; exact (Below.refl _ _).alloc (Nat.le_refl _) _
  have BR : Hid (Box4 W w.heap.size 0 0 0 0) := by show Box4 _ _ _ _ _ _; rw [hW]; exact Box4.new _ _ _ _ _
  have HTW := Lib.hid (hT.stay hbW)
  have HBW := Lib.hid hbW
  have hlt : w.heap.size < W.heap.size := BR.out.lt
  have HWO := Lib.hid (fun w' hT => wordsOf_impl s hs w' hT)
  have HRA : Hid (readA s = deedOf (wdH s) (wdL s)) := readA_wd s
  have HYES : Hid (deedT (readA s) ≠ [] → deedT (readA s) = s → readB s = true ∧ readD s = readA s) := fun h0 h => readA_yes h0 h
  have HNO : Hid (¬ (wordsB s = true ∧ deedT (readA s) ≠ [] ∧ deedT (readA s) = s) → readB s = false ∧ readD s = ⟨0, 0, 0, 0⟩) := fun h => readA_no h
  obtain ⟨H, hH⟩ : ∃ H, wdH s = H := ⟨_, rfl⟩
  obtain ⟨l, hl⟩ : ∃ l, wdL s = l := ⟨_, rfl⟩
  obtain ⟨ok, hok⟩ : ∃ ok, wordsB s = ok := ⟨_, rfl⟩
  rw [hH, hl, hok] at HWO
  rw [hH, hl] at HRA
  rw [hok] at HNO
  clear hT hbW hH hl hok
  obtain ⟨ra, hra⟩ : ∃ ra, readA s = ra := ⟨_, rfl⟩
  obtain ⟨rd, hrd⟩ : ∃ rd, readD s = rd := ⟨_, rfl⟩
  obtain ⟨rb, hrb⟩ : ∃ rb, readB s = rb := ⟨_, rfl⟩
  rw [hra, hrd, hrb] at HYES HNO
  rw [hra] at HRA
  rw [hrd, hrb]
  clear hra hrd hrb
  have HDT := Lib.hid (fun w' hP => deedText_impl ra w' hP)
  unfold strV at HWO HDT ⊢
  go_enter Tryd.func11, Tryd.ntmps11
  go_wp2_with fail
  try rw [← hW]
  clear hW
  refine (HWO.out W HTW.out).mono ?_
  rintro e w1 ⟨A, c, rfl, hb1, hI1⟩
  have HB1 := Lib.hid hb1
  have HI1 := Lib.hid hI1
  clear hb1 hI1
  go_wp2_with fail
  refine (deedWords_impl _).mono ?_
  rintro e w2 ⟨bW, rfl, hlo, hhi, hb2, hc2⟩
  have HB2 := Lib.hid (HB1.out.trans (hb2.mono HB1.out.size))
  have HI2 := Lib.hid ((HI1.out.keep (w' := w2) (fun b hb => hb2.block b hb)).mono (T := (· < w2.heap.size)) fun b hb => Nat.lt_of_lt_of_le hb hb2.size)
  have HIX := Lib.hid (index_impl bW H w2 hc2)
  unfold strV at HIX
  obtain ⟨K, hK⟩ : ∃ K, kindI H = K := ⟨_, rfl⟩
  rw [hK] at HIX
  clear hlo hhi hb2 hc2 HI1 HB1
  by_cases h1 : l.length = 1
  · obtain ⟨n0, hn0⟩ : ∃ n, nth l 0 = n := ⟨_, rfl⟩
    obtain ⟨b, off, rfl, hbl, hcs⟩ := HI2.out.at_ (i := 0) (by omega)
    have hbl2 : b < w2.heap.size := hbl
    have hne : l ≠ [] := by intro e; rw [e] at h1; simp at h1
    have d0 := hcs 0 (by omega)
    rw [Nat.add_zero, hn0] at d0
    have h3 : ¬ l.length = 3 := by omega
    have hre : ra = ⟨K, 0, 0, n0⟩ := by rw [HRA.out]; unfold deedOf; rw [if_pos h1, hK, hn0]
    subst hre
    obtain ⟨T, hTT⟩ : ∃ T, deedT ⟨K, 0, 0, n0⟩ = T := ⟨_, rfl⟩
    rw [hTT] at HDT HYES HNO
    clear hTT HRA
    unfold ddV at HDT ⊢
    simp only at HDT
    obtain ⟨V, hV⟩ : ∃ V : World, V = (w2.alloc (.cells #[.int .i64 (K), .int .i64 (0), .int .i64 (0), .int .i64 (n0)] 25)) := ⟨_, rfl⟩
    have hbV : Below w2.heap.size w2 V := by rw [hV]; exact ((Below.refl _ _).alloc (Nat.le_refl _) _)
    have BX : Hid (Box4 V w2.heap.size (K) (0) (0) (n0)) := by show Box4 _ _ _ _ _ _; rw [hV]; exact Box4.new _ _ _ _ _
    have BV : Hid (Below W.heap.size W V) := HB2.out.trans (hbV.mono HB2.out.size)
    have TV := Lib.hid (HTW.out.stay BV.out)
    clear hbV
    clear hK hn0 hcs HI2
    go_wp2_with (go_at_call 31; refine HIX.out.mono ?_; rintro e w3 ⟨rfl, rfl⟩)
    try rw [← hV]
    clear hV
    rcases hok : ok with _ | _
    · have HN : Hid (rb = false ∧ rd = ⟨0, 0, 0, 0⟩) := HNO.out (fun h => by rw [hok] at h; cases h.1)
      subst hok
      clear HNO HYES
      have x0 := BX.out.c0
      have x1 := BX.out.c1
      have x2 := BX.out.c2
      have x3 := BX.out.c3
      go_wp2_with (go_at_call 9; refine (HDT.out _ (TV.out.pow)).mono ?_; rintro e w5 ⟨rfl, hb5⟩; have HB5 := Lib.hid (BV.out.trans (hb5.mono BV.out.size)); have X5 := Lib.hid (BX.out.still hb5); clear hb5 x0 x1 x2 x3; have BR5 := Lib.hid (BR.out.still HB5.out); have r0 := BR5.out.c0; have r1 := BR5.out.c1; have r2 := BR5.out.c2; have r3 := BR5.out.c3; have f0 := BR5.out.f0 0; have f1 := BR5.out.f0 1; have f2 := BR5.out.f0 2; have f3 := BR5.out.f0 3; have z0 := X5.out.c0; have z1 := X5.out.c1; have z2 := X5.out.c2; have z3 := X5.out.c3)
      obtain ⟨⟨p0, p1⟩, p2, p3⟩ := putQ BR5.out (.int .i64 (0)) (.int .i64 (0)) (.int .i64 (0)) (.int .i64 (0))
      refine bodyPost_ret (v := .tuple #[.agg #[.int .i64 (0), .int .i64 (0), .int .i64 (0), .int .i64 (0)], .bool false]) (by simp [results, Tryd.results11, go_sem, p0, p1, p2, p3]) rfl ?_
      rw [HN.out.1, HN.out.2]
      exact Adds.of rfl (below_putQ (HBW.out.trans (HB5.out.mono (Nat.le_of_lt hlt))) (Nat.le_refl _) _ _ _ _)
    · subst hok
      by_cases hT0 : T = []
      · have HN : Hid (rb = false ∧ rd = ⟨0, 0, 0, 0⟩) := HNO.out (fun h => h.2.1 hT0)
        have hte : T.isEmpty = true := by rw [hT0]; rfl
        clear HNO HYES
        subst hT0
        have x0 := BX.out.c0
        have x1 := BX.out.c1
        have x2 := BX.out.c2
        have x3 := BX.out.c3
        go_wp2_with (go_at_call 9; refine (HDT.out _ (TV.out.pow)).mono ?_; rintro e w5 ⟨rfl, hb5⟩; have HB5 := Lib.hid (BV.out.trans (hb5.mono BV.out.size)); have X5 := Lib.hid (BX.out.still hb5); clear hb5 x0 x1 x2 x3; have BR5 := Lib.hid (BR.out.still HB5.out); have r0 := BR5.out.c0; have r1 := BR5.out.c1; have r2 := BR5.out.c2; have r3 := BR5.out.c3; have f0 := BR5.out.f0 0; have f1 := BR5.out.f0 1; have f2 := BR5.out.f0 2; have f3 := BR5.out.f0 3; have z0 := X5.out.c0; have z1 := X5.out.c1; have z2 := X5.out.c2; have z3 := X5.out.c3)
        obtain ⟨⟨p0, p1⟩, p2, p3⟩ := putQ BR5.out (.int .i64 (0)) (.int .i64 (0)) (.int .i64 (0)) (.int .i64 (0))
        refine bodyPost_ret (v := .tuple #[.agg #[.int .i64 (0), .int .i64 (0), .int .i64 (0), .int .i64 (0)], .bool false]) (by simp [results, Tryd.results11, go_sem, p0, p1, p2, p3]) rfl ?_
        rw [HN.out.1, HN.out.2]
        exact Adds.of rfl (below_putQ (HBW.out.trans (HB5.out.mono (Nat.le_of_lt hlt))) (Nat.le_refl _) _ _ _ _)
      · have hte : T.isEmpty = false := by cases T; exact absurd rfl hT0; rfl
        by_cases hTs : T = s
        · have HN : Hid (rb = true ∧ rd = ⟨K, 0, 0, n0⟩) := HYES.out hT0 hTs
          clear HNO HYES hT0
          subst hTs
          have x0 := BX.out.c0
          have x1 := BX.out.c1
          have x2 := BX.out.c2
          have x3 := BX.out.c3
          go_wp2_with (go_at_call 9; refine (HDT.out _ (TV.out.pow)).mono ?_; rintro e w5 ⟨rfl, hb5⟩; have HB5 := Lib.hid (BV.out.trans (hb5.mono BV.out.size)); have X5 := Lib.hid (BX.out.still hb5); clear hb5 x0 x1 x2 x3; have BR5 := Lib.hid (BR.out.still HB5.out); have r0 := BR5.out.c0; have r1 := BR5.out.c1; have r2 := BR5.out.c2; have r3 := BR5.out.c3; have f0 := BR5.out.f0 0; have f1 := BR5.out.f0 1; have f2 := BR5.out.f0 2; have f3 := BR5.out.f0 3; have z0 := X5.out.c0; have z1 := X5.out.c1; have z2 := X5.out.c2; have z3 := X5.out.c3)
          obtain ⟨⟨p0, p1⟩, p2, p3⟩ := putQ BR5.out (.int .i64 (K)) (.int .i64 (0)) (.int .i64 (0)) (.int .i64 (n0))
          refine bodyPost_ret (v := .tuple #[.agg #[.int .i64 (K), .int .i64 (0), .int .i64 (0), .int .i64 (n0)], .bool true]) (by simp [results, Tryd.results11, go_sem, p0, p1, p2, p3]) rfl ?_
          rw [HN.out.1, HN.out.2]
          exact Adds.of rfl (below_putQ (HBW.out.trans (HB5.out.mono (Nat.le_of_lt hlt))) (Nat.le_refl _) _ _ _ _)
        · have HN : Hid (rb = false ∧ rd = ⟨0, 0, 0, 0⟩) := HNO.out (fun h => hTs h.2.2)
          have hz : (T == s) = false := by rw [beq_eq_false_iff_ne]; exact hTs
          clear HNO HYES hT0 hTs
          have x0 := BX.out.c0
          have x1 := BX.out.c1
          have x2 := BX.out.c2
          have x3 := BX.out.c3
          go_wp2_with (go_at_call 9; refine (HDT.out _ (TV.out.pow)).mono ?_; rintro e w5 ⟨rfl, hb5⟩; have HB5 := Lib.hid (BV.out.trans (hb5.mono BV.out.size)); have X5 := Lib.hid (BX.out.still hb5); clear hb5 x0 x1 x2 x3; have BR5 := Lib.hid (BR.out.still HB5.out); have r0 := BR5.out.c0; have r1 := BR5.out.c1; have r2 := BR5.out.c2; have r3 := BR5.out.c3; have f0 := BR5.out.f0 0; have f1 := BR5.out.f0 1; have f2 := BR5.out.f0 2; have f3 := BR5.out.f0 3; have z0 := X5.out.c0; have z1 := X5.out.c1; have z2 := X5.out.c2; have z3 := X5.out.c3)
          obtain ⟨⟨p0, p1⟩, p2, p3⟩ := putQ BR5.out (.int .i64 (0)) (.int .i64 (0)) (.int .i64 (0)) (.int .i64 (0))
          refine bodyPost_ret (v := .tuple #[.agg #[.int .i64 (0), .int .i64 (0), .int .i64 (0), .int .i64 (0)], .bool false]) (by simp [results, Tryd.results11, go_sem, p0, p1, p2, p3]) rfl ?_
          rw [HN.out.1, HN.out.2]
          exact Adds.of rfl (below_putQ (HBW.out.trans (HB5.out.mono (Nat.le_of_lt hlt))) (Nat.le_refl _) _ _ _ _)
  by_cases h3 : l.length = 3
  · obtain ⟨n0, hn0⟩ : ∃ n, nth l 0 = n := ⟨_, rfl⟩
    obtain ⟨n1, hn1⟩ : ∃ n, nth l 1 = n := ⟨_, rfl⟩
    obtain ⟨n2, hn2⟩ : ∃ n, nth l 2 = n := ⟨_, rfl⟩
    obtain ⟨b, off, rfl, hbl, hcs⟩ := HI2.out.at_ (i := 0) (by omega)
    have hbl2 : b < w2.heap.size := hbl
    have hne : l ≠ [] := by intro e; rw [e] at h3; simp at h3
    have d0 := hcs 0 (by omega)
    have d1 := hcs 1 (by omega)
    have d2 := hcs 2 (by omega)
    rw [Nat.add_zero, hn0] at d0
    rw [hn1] at d1
    rw [hn2] at d2
    have l1 : 1 < l.length := by omega
    have l2 : 2 < l.length := by omega
    have hre : ra = ⟨K, n0, n1, n2⟩ := by rw [HRA.out]; unfold deedOf; rw [if_neg h1, if_pos h3, hK, hn0, hn1, hn2]
    subst hre
    obtain ⟨T, hTT⟩ : ∃ T, deedT ⟨K, n0, n1, n2⟩ = T := ⟨_, rfl⟩
    rw [hTT] at HDT HYES HNO
    clear hTT HRA
    unfold ddV at HDT ⊢
    simp only at HDT
    obtain ⟨V, hV⟩ : ∃ V : World, V = (w2.alloc (.cells #[.int .i64 (K), .int .i64 (n0), .int .i64 (n1), .int .i64 (n2)] 25)).drew := ⟨_, rfl⟩
    have hbV : Below w2.heap.size w2 V := by rw [hV]; exact ((Below.refl _ _).alloc (Nat.le_refl _) _).drew
    have BX : Hid (Box4 V w2.heap.size (K) (n0) (n1) (n2)) := by show Box4 _ _ _ _ _ _; rw [hV]; exact (Box4.new _ _ _ _ _).still (Below.refl _ _).drew
    have BV : Hid (Below W.heap.size W V) := HB2.out.trans (hbV.mono HB2.out.size)
    have TV := Lib.hid (HTW.out.stay BV.out)
    clear hbV
    clear hK hn0 hn1 hn2 hcs HI2
    go_wp2_with (go_at_call 31; refine HIX.out.mono ?_; rintro e w3 ⟨rfl, rfl⟩)
    go_region
    go_wp2_with fail
    try rw [← hV]
    clear hV
    rcases hok : ok with _ | _
    · have HN : Hid (rb = false ∧ rd = ⟨0, 0, 0, 0⟩) := HNO.out (fun h => by rw [hok] at h; cases h.1)
      subst hok
      clear HNO HYES
      have x0 := BX.out.c0
      have x1 := BX.out.c1
      have x2 := BX.out.c2
      have x3 := BX.out.c3
      go_wp2_with (go_at_call 9; refine (HDT.out _ (TV.out.pow)).mono ?_; rintro e w5 ⟨rfl, hb5⟩; have HB5 := Lib.hid (BV.out.trans (hb5.mono BV.out.size)); have X5 := Lib.hid (BX.out.still hb5); clear hb5 x0 x1 x2 x3; have BR5 := Lib.hid (BR.out.still HB5.out); have r0 := BR5.out.c0; have r1 := BR5.out.c1; have r2 := BR5.out.c2; have r3 := BR5.out.c3; have f0 := BR5.out.f0 0; have f1 := BR5.out.f0 1; have f2 := BR5.out.f0 2; have f3 := BR5.out.f0 3; have z0 := X5.out.c0; have z1 := X5.out.c1; have z2 := X5.out.c2; have z3 := X5.out.c3)
      obtain ⟨⟨p0, p1⟩, p2, p3⟩ := putQ BR5.out (.int .i64 (0)) (.int .i64 (0)) (.int .i64 (0)) (.int .i64 (0))
      refine bodyPost_ret (v := .tuple #[.agg #[.int .i64 (0), .int .i64 (0), .int .i64 (0), .int .i64 (0)], .bool false]) (by simp [results, Tryd.results11, go_sem, p0, p1, p2, p3]) rfl ?_
      rw [HN.out.1, HN.out.2]
      exact Adds.of rfl (below_putQ (HBW.out.trans (HB5.out.mono (Nat.le_of_lt hlt))) (Nat.le_refl _) _ _ _ _)
    · subst hok
      by_cases hT0 : T = []
      · have HN : Hid (rb = false ∧ rd = ⟨0, 0, 0, 0⟩) := HNO.out (fun h => h.2.1 hT0)
        have hte : T.isEmpty = true := by rw [hT0]; rfl
        clear HNO HYES
        subst hT0
        have x0 := BX.out.c0
        have x1 := BX.out.c1
        have x2 := BX.out.c2
        have x3 := BX.out.c3
        go_wp2_with (go_at_call 9; refine (HDT.out _ (TV.out.pow)).mono ?_; rintro e w5 ⟨rfl, hb5⟩; have HB5 := Lib.hid (BV.out.trans (hb5.mono BV.out.size)); have X5 := Lib.hid (BX.out.still hb5); clear hb5 x0 x1 x2 x3; have BR5 := Lib.hid (BR.out.still HB5.out); have r0 := BR5.out.c0; have r1 := BR5.out.c1; have r2 := BR5.out.c2; have r3 := BR5.out.c3; have f0 := BR5.out.f0 0; have f1 := BR5.out.f0 1; have f2 := BR5.out.f0 2; have f3 := BR5.out.f0 3; have z0 := X5.out.c0; have z1 := X5.out.c1; have z2 := X5.out.c2; have z3 := X5.out.c3)
        obtain ⟨⟨p0, p1⟩, p2, p3⟩ := putQ BR5.out (.int .i64 (0)) (.int .i64 (0)) (.int .i64 (0)) (.int .i64 (0))
        refine bodyPost_ret (v := .tuple #[.agg #[.int .i64 (0), .int .i64 (0), .int .i64 (0), .int .i64 (0)], .bool false]) (by simp [results, Tryd.results11, go_sem, p0, p1, p2, p3]) rfl ?_
        rw [HN.out.1, HN.out.2]
        exact Adds.of rfl (below_putQ (HBW.out.trans (HB5.out.mono (Nat.le_of_lt hlt))) (Nat.le_refl _) _ _ _ _)
      · have hte : T.isEmpty = false := by cases T; exact absurd rfl hT0; rfl
        by_cases hTs : T = s
        · have HN : Hid (rb = true ∧ rd = ⟨K, n0, n1, n2⟩) := HYES.out hT0 hTs
          clear HNO HYES hT0
          subst hTs
          have x0 := BX.out.c0
          have x1 := BX.out.c1
          have x2 := BX.out.c2
          have x3 := BX.out.c3
          go_wp2_with (go_at_call 9; refine (HDT.out _ (TV.out.pow)).mono ?_; rintro e w5 ⟨rfl, hb5⟩; have HB5 := Lib.hid (BV.out.trans (hb5.mono BV.out.size)); have X5 := Lib.hid (BX.out.still hb5); clear hb5 x0 x1 x2 x3; have BR5 := Lib.hid (BR.out.still HB5.out); have r0 := BR5.out.c0; have r1 := BR5.out.c1; have r2 := BR5.out.c2; have r3 := BR5.out.c3; have f0 := BR5.out.f0 0; have f1 := BR5.out.f0 1; have f2 := BR5.out.f0 2; have f3 := BR5.out.f0 3; have z0 := X5.out.c0; have z1 := X5.out.c1; have z2 := X5.out.c2; have z3 := X5.out.c3)
          obtain ⟨⟨p0, p1⟩, p2, p3⟩ := putQ BR5.out (.int .i64 (K)) (.int .i64 (n0)) (.int .i64 (n1)) (.int .i64 (n2))
          refine bodyPost_ret (v := .tuple #[.agg #[.int .i64 (K), .int .i64 (n0), .int .i64 (n1), .int .i64 (n2)], .bool true]) (by simp [results, Tryd.results11, go_sem, p0, p1, p2, p3]) rfl ?_
          rw [HN.out.1, HN.out.2]
          exact Adds.of rfl (below_putQ (HBW.out.trans (HB5.out.mono (Nat.le_of_lt hlt))) (Nat.le_refl _) _ _ _ _)
        · have HN : Hid (rb = false ∧ rd = ⟨0, 0, 0, 0⟩) := HNO.out (fun h => hTs h.2.2)
          have hz : (T == s) = false := by rw [beq_eq_false_iff_ne]; exact hTs
          clear HNO HYES hT0 hTs
          have x0 := BX.out.c0
          have x1 := BX.out.c1
          have x2 := BX.out.c2
          have x3 := BX.out.c3
          go_wp2_with (go_at_call 9; refine (HDT.out _ (TV.out.pow)).mono ?_; rintro e w5 ⟨rfl, hb5⟩; have HB5 := Lib.hid (BV.out.trans (hb5.mono BV.out.size)); have X5 := Lib.hid (BX.out.still hb5); clear hb5 x0 x1 x2 x3; have BR5 := Lib.hid (BR.out.still HB5.out); have r0 := BR5.out.c0; have r1 := BR5.out.c1; have r2 := BR5.out.c2; have r3 := BR5.out.c3; have f0 := BR5.out.f0 0; have f1 := BR5.out.f0 1; have f2 := BR5.out.f0 2; have f3 := BR5.out.f0 3; have z0 := X5.out.c0; have z1 := X5.out.c1; have z2 := X5.out.c2; have z3 := X5.out.c3)
          obtain ⟨⟨p0, p1⟩, p2, p3⟩ := putQ BR5.out (.int .i64 (0)) (.int .i64 (0)) (.int .i64 (0)) (.int .i64 (0))
          refine bodyPost_ret (v := .tuple #[.agg #[.int .i64 (0), .int .i64 (0), .int .i64 (0), .int .i64 (0)], .bool false]) (by simp [results, Tryd.results11, go_sem, p0, p1, p2, p3]) rfl ?_
          rw [HN.out.1, HN.out.2]
          exact Adds.of rfl (below_putQ (HBW.out.trans (HB5.out.mono (Nat.le_of_lt hlt))) (Nat.le_refl _) _ _ _ _)
  have hre : ra = ⟨K, 0, 0, 0⟩ := by rw [HRA.out]; unfold deedOf; rw [if_neg h1, if_neg h3, hK]
  subst hre
  obtain ⟨T, hTT⟩ : ∃ T, deedT ⟨K, 0, 0, 0⟩ = T := ⟨_, rfl⟩
  rw [hTT] at HDT HYES HNO
  clear hTT HRA
  unfold ddV at HDT ⊢
  simp only at HDT
  obtain ⟨V, hV⟩ : ∃ V : World, V = (w2.alloc (.cells #[.int .i64 (K), .int .i64 (0), .int .i64 (0), .int .i64 (0)] 25)) := ⟨_, rfl⟩
  have hbV : Below w2.heap.size w2 V := by rw [hV]; exact ((Below.refl _ _).alloc (Nat.le_refl _) _)
  have BX : Hid (Box4 V w2.heap.size (K) (0) (0) (0)) := by show Box4 _ _ _ _ _ _; rw [hV]; exact Box4.new _ _ _ _ _
  have BV : Hid (Below W.heap.size W V) := HB2.out.trans (hbV.mono HB2.out.size)
  have TV := Lib.hid (HTW.out.stay BV.out)
  clear hbV
  clear hK HI2
  go_wp2_with (go_at_call 31; refine HIX.out.mono ?_; rintro e w3 ⟨rfl, rfl⟩)
  try rw [← hV]
  clear hV
  rcases hok : ok with _ | _
  · have HN : Hid (rb = false ∧ rd = ⟨0, 0, 0, 0⟩) := HNO.out (fun h => by rw [hok] at h; cases h.1)
    subst hok
    clear HNO HYES
    have x0 := BX.out.c0
    have x1 := BX.out.c1
    have x2 := BX.out.c2
    have x3 := BX.out.c3
    go_wp2_with (go_at_call 9; refine (HDT.out _ (TV.out.pow)).mono ?_; rintro e w5 ⟨rfl, hb5⟩; have HB5 := Lib.hid (BV.out.trans (hb5.mono BV.out.size)); have X5 := Lib.hid (BX.out.still hb5); clear hb5 x0 x1 x2 x3; have BR5 := Lib.hid (BR.out.still HB5.out); have r0 := BR5.out.c0; have r1 := BR5.out.c1; have r2 := BR5.out.c2; have r3 := BR5.out.c3; have f0 := BR5.out.f0 0; have f1 := BR5.out.f0 1; have f2 := BR5.out.f0 2; have f3 := BR5.out.f0 3; have z0 := X5.out.c0; have z1 := X5.out.c1; have z2 := X5.out.c2; have z3 := X5.out.c3)
    obtain ⟨⟨p0, p1⟩, p2, p3⟩ := putQ BR5.out (.int .i64 (0)) (.int .i64 (0)) (.int .i64 (0)) (.int .i64 (0))
    refine bodyPost_ret (v := .tuple #[.agg #[.int .i64 (0), .int .i64 (0), .int .i64 (0), .int .i64 (0)], .bool false]) (by simp [results, Tryd.results11, go_sem, p0, p1, p2, p3]) rfl ?_
    rw [HN.out.1, HN.out.2]
    exact Adds.of rfl (below_putQ (HBW.out.trans (HB5.out.mono (Nat.le_of_lt hlt))) (Nat.le_refl _) _ _ _ _)
  · subst hok
    by_cases hT0 : T = []
    · have HN : Hid (rb = false ∧ rd = ⟨0, 0, 0, 0⟩) := HNO.out (fun h => h.2.1 hT0)
      have hte : T.isEmpty = true := by rw [hT0]; rfl
      clear HNO HYES
      subst hT0
      have x0 := BX.out.c0
      have x1 := BX.out.c1
      have x2 := BX.out.c2
      have x3 := BX.out.c3
      go_wp2_with (go_at_call 9; refine (HDT.out _ (TV.out.pow)).mono ?_; rintro e w5 ⟨rfl, hb5⟩; have HB5 := Lib.hid (BV.out.trans (hb5.mono BV.out.size)); have X5 := Lib.hid (BX.out.still hb5); clear hb5 x0 x1 x2 x3; have BR5 := Lib.hid (BR.out.still HB5.out); have r0 := BR5.out.c0; have r1 := BR5.out.c1; have r2 := BR5.out.c2; have r3 := BR5.out.c3; have f0 := BR5.out.f0 0; have f1 := BR5.out.f0 1; have f2 := BR5.out.f0 2; have f3 := BR5.out.f0 3; have z0 := X5.out.c0; have z1 := X5.out.c1; have z2 := X5.out.c2; have z3 := X5.out.c3)
      obtain ⟨⟨p0, p1⟩, p2, p3⟩ := putQ BR5.out (.int .i64 (0)) (.int .i64 (0)) (.int .i64 (0)) (.int .i64 (0))
      refine bodyPost_ret (v := .tuple #[.agg #[.int .i64 (0), .int .i64 (0), .int .i64 (0), .int .i64 (0)], .bool false]) (by simp [results, Tryd.results11, go_sem, p0, p1, p2, p3]) rfl ?_
      rw [HN.out.1, HN.out.2]
      exact Adds.of rfl (below_putQ (HBW.out.trans (HB5.out.mono (Nat.le_of_lt hlt))) (Nat.le_refl _) _ _ _ _)
    · have hte : T.isEmpty = false := by cases T; exact absurd rfl hT0; rfl
      by_cases hTs : T = s
      · have HN : Hid (rb = true ∧ rd = ⟨K, 0, 0, 0⟩) := HYES.out hT0 hTs
        clear HNO HYES hT0
        subst hTs
        have x0 := BX.out.c0
        have x1 := BX.out.c1
        have x2 := BX.out.c2
        have x3 := BX.out.c3
        go_wp2_with (go_at_call 9; refine (HDT.out _ (TV.out.pow)).mono ?_; rintro e w5 ⟨rfl, hb5⟩; have HB5 := Lib.hid (BV.out.trans (hb5.mono BV.out.size)); have X5 := Lib.hid (BX.out.still hb5); clear hb5 x0 x1 x2 x3; have BR5 := Lib.hid (BR.out.still HB5.out); have r0 := BR5.out.c0; have r1 := BR5.out.c1; have r2 := BR5.out.c2; have r3 := BR5.out.c3; have f0 := BR5.out.f0 0; have f1 := BR5.out.f0 1; have f2 := BR5.out.f0 2; have f3 := BR5.out.f0 3; have z0 := X5.out.c0; have z1 := X5.out.c1; have z2 := X5.out.c2; have z3 := X5.out.c3)
        obtain ⟨⟨p0, p1⟩, p2, p3⟩ := putQ BR5.out (.int .i64 (K)) (.int .i64 (0)) (.int .i64 (0)) (.int .i64 (0))
        refine bodyPost_ret (v := .tuple #[.agg #[.int .i64 (K), .int .i64 (0), .int .i64 (0), .int .i64 (0)], .bool true]) (by simp [results, Tryd.results11, go_sem, p0, p1, p2, p3]) rfl ?_
        rw [HN.out.1, HN.out.2]
        exact Adds.of rfl (below_putQ (HBW.out.trans (HB5.out.mono (Nat.le_of_lt hlt))) (Nat.le_refl _) _ _ _ _)
      · have HN : Hid (rb = false ∧ rd = ⟨0, 0, 0, 0⟩) := HNO.out (fun h => hTs h.2.2)
        have hz : (T == s) = false := by rw [beq_eq_false_iff_ne]; exact hTs
        clear HNO HYES hT0 hTs
        have x0 := BX.out.c0
        have x1 := BX.out.c1
        have x2 := BX.out.c2
        have x3 := BX.out.c3
        go_wp2_with (go_at_call 9; refine (HDT.out _ (TV.out.pow)).mono ?_; rintro e w5 ⟨rfl, hb5⟩; have HB5 := Lib.hid (BV.out.trans (hb5.mono BV.out.size)); have X5 := Lib.hid (BX.out.still hb5); clear hb5 x0 x1 x2 x3; have BR5 := Lib.hid (BR.out.still HB5.out); have r0 := BR5.out.c0; have r1 := BR5.out.c1; have r2 := BR5.out.c2; have r3 := BR5.out.c3; have f0 := BR5.out.f0 0; have f1 := BR5.out.f0 1; have f2 := BR5.out.f0 2; have f3 := BR5.out.f0 3; have z0 := X5.out.c0; have z1 := X5.out.c1; have z2 := X5.out.c2; have z3 := X5.out.c3)
        obtain ⟨⟨p0, p1⟩, p2, p3⟩ := putQ BR5.out (.int .i64 (0)) (.int .i64 (0)) (.int .i64 (0)) (.int .i64 (0))
        refine bodyPost_ret (v := .tuple #[.agg #[.int .i64 (0), .int .i64 (0), .int .i64 (0), .int .i64 (0)], .bool false]) (by simp [results, Tryd.results11, go_sem, p0, p1, p2, p3]) rfl ?_
        rw [HN.out.1, HN.out.2]
        exact Adds.of rfl (below_putQ (HBW.out.trans (HB5.out.mono (Nat.le_of_lt hlt))) (Nat.le_refl _) _ _ _ _)

end Go.Proofs.YtlmaeadbomnhlabDoor

namespace Go.Proofs.YtlmaeadbomnhlabDoor
set_option linter.unusedSimpArgs false
set_option linter.unusedVariables false
open Go.RowKit

set_option maxHeartbeats 2000000 in
set_option maxRecDepth 100000 in
theorem journalText_impl (A : Option Addr) (c : Nat) (l : List Dd) (hl : l.length ≤ 4294967296) (w : World) (hP : PowOk w) (h : Deeds w (· < w.heap.size) A l) :
    Calls Tryd.prog 16 #[.slice A l.length c] w (Adds (strV (journalT l)) w) := by
  have HD := Lib.hid h
  have HP := Lib.hid hP
  clear h hP
  obtain ⟨J, hJ⟩ : ∃ J, journalT l = J := ⟨_, rfl⟩
  rw [hJ]
  have HJ := Lib.hid hJ
  clear hJ
  obtain ⟨W, hW⟩ : ∃ W : World, W = w.alloc (.cells #[.pointer none, .slice none 0 0] 58) := ⟨_, rfl⟩
  have hbW : Below w.heap.size w W := by rw [hW]; exact (Below.refl _ _).alloc (Nat.le_refl _) _
  have HBU : Hid (Lib.IsBuilder 58 5 w.heap.size w.heap.size (Lib.byteCells (jpre l 0)) W) := by show Lib.IsBuilder _ _ _ _ _ _; rw [hW]; exact builder_new w
  have HBW := Lib.hid hbW
  clear hbW
  unfold strV
  go_enter Tryd.func16, Tryd.ntmps16
  go_wp2_with fail
  try rw [← hW]
  clear hW
  go_loopw [9] (fun iv wr => ∃ k : Nat, k ≤ l.length ∧ iv = .int .i64 (k : Nat) ∧ Hid (∀ i, i < k → deedT (ddAt l i) ≠ []) ∧ Hid (Lib.IsBuilder 58 5 w.heap.size w.heap.size (Lib.byteCells (jpre l k)) wr) ∧ Hid (Below w.heap.size w wr)) (fun iv _ => l.length - (intOf iv).toNat)
  case atStart => exact ⟨0, Nat.zero_le _, rfl, fun i hi => by omega, HBU, HBW⟩
  case round =>
    obtain ⟨k, hk, rfl, HN, HU, HW⟩ := hrel
    by_cases hlt : k < l.length
    · obtain ⟨b, off, rfl, hb, hc⟩ := (HD.out.below HW.out) (by omega)
      obtain ⟨c0, c1, c2, c3⟩ := hc k hlt
      have hjs := jpre_succ l hlt
      have hjl := jpre_len l k
      have htl := text_len (ddAt l k)
      have hDT := fun w' hP => deedText_impl (ddAt l k) w' hP
      have hno := jour_no hlt
      obtain ⟨⟨kd, rr, cc, nn⟩, ha⟩ : ∃ a, ddAt l k = a := ⟨_, rfl⟩
      have HNA : Hid (deedT ⟨kd, rr, cc, nn⟩ ≠ [] → ∀ i, i < k + 1 → deedT (ddAt l i) ≠ []) := fun h i hi => by
        by_cases e : i = k
        · rw [e, ha]; exact h
        · exact HN.out i (by omega)
      rw [ha] at c0 c1 c2 c3 hDT hjs htl hno
      obtain ⟨T, hT⟩ : ∃ T, deedT ⟨kd, rr, cc, nn⟩ = T := ⟨_, rfl⟩
      rw [hT] at hDT hjs htl hno HNA
      unfold ddV strV at hDT
      simp only at c0 c1 c2 c3 hDT
      have HDT := Lib.hid hDT
      have hki : (k : Int) < (l.length : Int) := by omega
      have hw1 : IntKind.i64.wrap ((k : Int) + 1) = (k : Int) + 1 := IntWalk.i64_in _ ⟨by omega, by omega⟩
      obtain ⟨W4, hW4⟩ : ∃ W4 : World, W4 = wr.alloc (.cells #[.int .i64 kd, .int .i64 rr, .int .i64 cc, .int .i64 nn] 25) := ⟨_, rfl⟩
      have hb4 : Below wr.heap.size wr W4 := by rw [hW4]; exact (Below.refl _ _).alloc (Nat.le_refl _) _
      have BX : Hid (Box4 W4 wr.heap.size kd rr cc nn) := by show Box4 _ _ _ _ _ _; rw [hW4]; exact Box4.new _ _ _ _ _
      have HW4 := Lib.hid (belT HW.out hb4)
      have HU4 := Lib.hid (builder_keep HU.out hb4)
      have HP4 := Lib.hid (HP.out.stay HW4.out)
      clear hDT ha hc hb4
      by_cases hT0 : T = []
      · have HJN : Hid (J = []) := by show _ = _; rw [← HJ.out]; exact hno hT0
        have hte : T.isEmpty = true := by rw [hT0]; rfl
        clear hno hjs hT hjl htl
        subst hT0
        go_wp2_with fail
        try rw [← hW4]
        have x0 := BX.out.c0
        have x1 := BX.out.c1
        have x2 := BX.out.c2
        have x3 := BX.out.c3
        clear hW4
        go_wp2_with (go_at_call 9; refine (HDT.out _ HP4.out).mono ?_; rintro e w5 ⟨rfl, hb5⟩)
        go_ret
        exact ⟨by rw [HJN.out]; rfl, belT HW4.out hb5⟩
      · have hte : T.isEmpty = false := by cases T; exact absurd rfl hT0; rfl
        have HNB : Hid (∀ i, i < k + 1 → deedT (ddAt l i) ≠ []) := HNA.out hT0
        obtain ⟨P, hPP⟩ : ∃ P, jpre l k = P := ⟨_, rfl⟩
        rw [hPP] at hjs hjl HU4
        have a1 := fun w => @add_far T [10] (by simp; omega) w
        have HJS : Hid (jpre l (k + 1) = P ++ (T ++ [10])) := hjs
        have hwl : P.length + (T ++ [10]).length ≤ 140737488355328 := by simp; omega
        obtain ⟨TN, hTN⟩ : ∃ TN, T ++ [10] = TN := ⟨_, rfl⟩
        rw [hTN] at HJS hwl a1
        clear hno hjs hT hPP hT0 hjl htl hTN
        go_wp2_with fail
        try rw [← hW4]
        have x0 := BX.out.c0
        have x1 := BX.out.c1
        have x2 := BX.out.c2
        have x3 := BX.out.c3
        clear hW4
        go_wp2_with (first | (go_at_call 9; refine (HDT.out _ HP4.out).mono ?_; rintro e w5 ⟨rfl, hb5⟩; have HV5 := Lib.hid (belT HW4.out hb5); have HU5 := Lib.hid (builder_keep HU4.out hb5); clear hb5 x0 x1 x2 x3) | (go_at_call 32; refine (write_impl _ _ P TN _ HU5.out hwl HV5.out.size).mono ?_; rintro e w6 ⟨v6, rfl, hu6, hb6⟩; have HV6 := Lib.hid (HV5.out.trans hb6); have HU6 := Lib.hid hu6; clear hb6 hu6))
        rw [← HJS.out] at HU6
        first
          | exact ⟨⟨k + 1, hlt, by first | rfl | simp, HNB, HU6, HV6⟩, by simp [intOf]; omega⟩
          | (go_roundw
             case rel => exact ⟨k + 1, hlt, by go_num, HNB, HU6, HV6⟩
             case measure => simp [intOf]; omega)
    · have hkl : k = l.length := by omega
      have HJN : Hid (J = jpre l k) := by show _ = _; rw [← HJ.out, hkl]; exact jour_yes (fun i hi => HN.out i (by omega))
      have hnl : ¬ (k : Int) < (l.length : Int) := by omega
      clear hkl
      go_wp2_with (go_at_call 33; refine (string_impl _ _ _ _ HU.out HW.out.size).mono ?_; rintro e w6 ⟨rfl, hb6⟩)
      go_ret
      exact ⟨by rw [HJN.out]; rfl, HW.out.trans hb6⟩

/-- how long a text is -/
def lenS : Value → Nat
  | .string b => b.size
  | _ => 0

theorem lenS_str (t : List UInt8) : lenS (.string ⟨t.toArray⟩) = t.length := by simp [lenS, ByteArray.size]

theorem cut_impl (t : List UInt8) (ht : t.length ≤ 1048577) (w : World) (hT : TabOk w) : Calls Tryd.prog 34 #[strV t, .string ⟨#[10]⟩] w fun e w' =>
    e = .returned (.tuple #[strV (Lib.cut t [10]).1, strV (Lib.cut t [10]).2.1, .bool (Lib.cut t [10]).2.2]) ∧ ∃ n, w' = w.drewN n := by
  obtain ⟨m, hm⟩ := hT.len
  exact Tryd.strings_Cut ⟨t.toArray⟩ ⟨#[10]⟩ m w (by simp [ByteArray.size]; omega) hm

set_option maxHeartbeats 4000000 in
set_option maxRecDepth 100000 in
theorem readJournal_impl (s : List UInt8) (hs : s.length ≤ 1048577) (w : World) (hT : TabOk w) :
    Calls Tryd.prog 19 #[strV s] w fun e w' => ∃ (A : Option Addr) (c : Nat), e = .returned (.tuple #[.slice A (jouL [] s).length c, .int .i64 (jouN [] s : Nat)]) ∧ Below w.heap.size w w' ∧ OwnDd w' w.heap.size w'.heap.size A (jouL [] s) := by
  obtain ⟨i0, hi0, hz0, hz1, hz2⟩ := infoDd
  have HI0 := Lib.hid hi0
  have HZ0 := Lib.hid hz0
  have HZ1 := Lib.hid hz1
  have HZ2 := Lib.hid hz2
  have HT := Lib.hid hT
  obtain ⟨JL, hJL⟩ : ∃ J, jouL [] s = J := ⟨_, rfl⟩
  obtain ⟨JN, hJN⟩ : ∃ J, jouN [] s = J := ⟨_, rfl⟩
  have HJ0 : Hid (JL = [] ++ jouL [] s ∧ JN + s.length = s.length + jouN [] s ∧ ([] : List Dd).length + s.length ≤ s.length) := ⟨by rw [hJL]; rfl, by rw [hJN]; omega, by simp⟩
  rw [hJL, hJN]
  have G0 : Hid (GrowsD w w.heap.size (.slice none 0 0) []) := World.ownsRow_nil w w.heap.size _ _
  clear hi0 hz0 hz1 hz2 hJL hJN hT
  unfold strV
  go_enter Tryd.func19, Tryd.ntmps19
  go_wp2_with fail
  go_loopw [4, 5] (fun v lv wr => ∃ (t : List UInt8) (done : List Dd), lv = .string ⟨t.toArray⟩ ∧ t.length ≤ s.length ∧ Hid (JL = done ++ jouL [] t ∧ JN + t.length = s.length + jouN [] t ∧ done.length + t.length ≤ s.length) ∧ Hid (GrowsD wr w.heap.size v done) ∧ Hid (Below w.heap.size w wr)) (fun _ lv _ => lenS lv)
  case atStart => exact ⟨s, [], rfl, Nat.le_refl _, HJ0, G0, Below.refl _ _⟩
  case round =>
    clear HJ0 G0
    obtain ⟨t, done, rfl, hts, HF, HG, HW⟩ := hrel
    have hsz := HW.out.size
    have hdl := HF.out.2.2
    have HTW := Lib.hid (HT.out.stay HW.out)
    have HCU := Lib.hid (cut_impl t (by omega) wr HTW.out)
    unfold strV at HCU
    rcases cut_ten t with ⟨hcut, hfree⟩ | ⟨a, r, hta, hfree, hcut⟩
    · rw [hcut] at HCU
      obtain ⟨j1, j2⟩ := jou_none t [] hfree
      have HA : Hid (JL = done ∧ JN + t.length = s.length) := ⟨by rw [HF.out.1, j1]; simp, by rw [HF.out.2.1, j2]; rfl⟩
      have HRD := Lib.hid (fun w' hT => readDeed_impl t (by omega) w' hT)
      obtain ⟨⟨kd, rr, cc, nn⟩, hdd⟩ : ∃ d, readD t = d := ⟨_, rfl⟩
      obtain ⟨rb, hrb⟩ : ∃ d, readB t = d := ⟨_, rfl⟩
      rw [hdd, hrb] at HRD
      unfold ddV strV at HRD
      simp only at HRD
      obtain ⟨A, cap, rfl, h1, h2, ho⟩ := HG.out.own
      have HOO := Lib.hid ho
      have hsub : IntKind.i64.wrap ((s.length : Int) - (t.length : Int)) = (s.length : Int) - (t.length : Int) := IntWalk.i64_in _ ⟨by omega, by omega⟩
      clear hcut hfree j1 j2 hdd hrb HF HG ho
      go_wp2_with (first | (go_at_call 34; refine HCU.out.mono ?_; rintro e w4 ⟨rfl, n4, rfl⟩) | (go_at_call 11; refine (HRD.out _ (HTW.out.stay (below_drewN (Below.refl _ _) n4))).mono ?_; rintro e w5 ⟨rfl, hb5⟩))
      have hk5 : Below wr.heap.size wr w5 := (below_drewN (Below.refl _ _) n4).trans hb5
      refine bodyPost_ret (v := .tuple #[.slice A done.length cap, .int .i64 ((s.length : Int) - (t.length : Int))]) (by simp [results, Tryd.results19, go_sem]) rfl ?_
      have e : (JN : Int) = (s.length : Int) - (t.length : Int) := by have := HA.out.2; omega
      rw [HA.out.1, e]
      refine ⟨A, cap, rfl, (belT HW.out hk5).alloc (Nat.le_trans hsz hk5.size) _, HOO.out.keepW (by have := hk5.size; simp; omega) fun b h1 h2 => ?_⟩
      rw [Below.heap_alloc _ _ _ (by have := hk5.size; omega)]; exact hk5.block b h2
    · rw [hcut] at HCU
      obtain ⟨j1, j2⟩ := jou_line a r [] hfree
      rw [List.nil_append] at j1 j2
      have hlen : t.length = a.length + r.length + 1 := by rw [hta]; simp; omega
      have HRD := Lib.hid (fun w' hT => readDeed_impl a (by omega) w' hT)
      obtain ⟨⟨kd, rr, cc, nn⟩, hdd⟩ : ∃ d, readD a = d := ⟨_, rfl⟩
      rw [hdd] at HRD j1
      rcases hrb : readB a with _ | _
      · rw [hrb] at HRD j1 j2
        have HA : Hid (JL = done ∧ JN + t.length = s.length) := ⟨by rw [HF.out.1, hta, j1]; simp, by rw [HF.out.2.1]; rw [hta, j2]; rfl⟩
        unfold ddV strV at HRD
        simp only at HRD
        obtain ⟨A, cap, rfl, h1, h2, ho⟩ := HG.out.own
        have HOO := Lib.hid ho
        have hsub : IntKind.i64.wrap ((s.length : Int) - (t.length : Int)) = (s.length : Int) - (t.length : Int) := IntWalk.i64_in _ ⟨by omega, by omega⟩
        clear hcut hfree j1 j2 hdd hrb HF HG ho hta hlen
        go_wp2_with (first | (go_at_call 34; refine HCU.out.mono ?_; rintro e w4 ⟨rfl, n4, rfl⟩) | (go_at_call 11; refine (HRD.out _ (HTW.out.stay (below_drewN (Below.refl _ _) n4))).mono ?_; rintro e w5 ⟨rfl, hb5⟩))
        have hk5 : Below wr.heap.size wr w5 := (below_drewN (Below.refl _ _) n4).trans hb5
        refine bodyPost_ret (v := .tuple #[.slice A done.length cap, .int .i64 ((s.length : Int) - (t.length : Int))]) (by simp [results, Tryd.results19, go_sem]) rfl ?_
        have e : (JN : Int) = (s.length : Int) - (t.length : Int) := by have := HA.out.2; omega
        rw [HA.out.1, e]
        refine ⟨A, cap, rfl, (belT HW.out hk5).alloc (Nat.le_trans hsz hk5.size) _, HOO.out.keepW (by have := hk5.size; simp; omega) fun b h1 h2 => ?_⟩
        rw [Below.heap_alloc _ _ _ (by have := hk5.size; omega)]; exact hk5.block b h2
      · rw [hrb] at HRD j1 j2
        rw [if_pos rfl] at j1 j2
        have HNX : Hid (JL = (done ++ [⟨kd, rr, cc, nn⟩]) ++ jouL [] r ∧ JN + r.length = s.length + jouN [] r ∧ (done ++ [⟨kd, rr, cc, nn⟩] : List Dd).length + r.length ≤ s.length) := by
          refine ⟨by rw [HF.out.1, hta, j1]; simp, ?_, by simp; omega⟩
          have e := HF.out.2.1
          rw [hta, j2] at e
          simp at e; omega
        have HRL : Hid (r.length ≤ s.length ∧ r.length < t.length) := ⟨by omega, by omega⟩
        unfold ddV strV at HRD
        simp only at HRD
        clear hcut hfree j1 j2 hdd hrb HF hta hlen
        go_wp2_with (first | (go_at_call 34; refine HCU.out.mono ?_; rintro e w4 ⟨rfl, n4, rfl⟩) | (go_at_call 11; refine (HRD.out _ (HTW.out.stay (below_drewN (Below.refl _ _) n4))).mono ?_; rintro e w5 ⟨rfl, hb5⟩; have HK5 : Hid (Below wr.heap.size wr w5) := (below_drewN (Below.refl _ _) n4).trans hb5; have HO5 := Lib.hid (HG.out.keep HK5.out); have hs5 := HK5.out.size; clear hb5) | (at_builtin; refine wpList_append_own_at _ rfl (.tmp 35) (.tmp 37) _ rfl w.heap.size 25 i0 (.agg #[.int .i64 0, .int .i64 0, .int .i64 0, .int .i64 0]) 4 32 Tryd.underlying35 HI0.out HZ0.out HZ1.out HZ2.out rfl (by decide) _ _ _ rfl ((HO5.out.alloc _).alloc _) ⟨w5.heap.size + 1, 0, none⟩ 1 1 [.int .i64 kd, .int .i64 rr, .int .i64 cc, .int .i64 nn] rfl rfl ?c1 ?c2 ?c3 ?c4 ?c5 ?_))
        case c1 =>
          have hnew := heap_alloc_new (w5.alloc (.cells #[.int .i64 kd, .int .i64 rr, .int .i64 cc, .int .i64 nn] 25)) (.cells #[.int .i64 kd, .int .i64 rr, .int .i64 cc, .int .i64 nn] 25)
          rw [World.size_alloc] at hnew
          exact World.news_of_block (cs := #[.int .i64 kd, .int .i64 rr, .int .i64 cc, .int .i64 nn]) hnew
        case c2 => exact ddVals_one ⟨kd, rr, cc, nn⟩
        case c3 => unfold maxLen; omega
        case c4 => omega
        case c5 => simp; omega
        intro v' w6 hown hgrow _ _
        have HN : Hid (GrowsD w6 w.heap.size v' (done ++ [⟨kd, rr, cc, nn⟩])) := GrowsD.snoc hown
        have HKW : Below w.heap.size w w5 := belT HW.out HK5.out
        have HW2 : Hid (Below w.heap.size w w6) := (((HKW.alloc HKW.size _).alloc (by have := HKW.size; simp; omega) _).grown hgrow (by have := HKW.size; simp; omega) (fun k hk => (World.ownsRow.lt HO5.out k hk).1))
        clear hown hgrow HKW
        go_wp2_with fail
        first
          | exact ⟨⟨r, done ++ [⟨kd, rr, cc, nn⟩], rfl, HRL.out.1, HNX, HN, HW2⟩, by first | exact HRL.out.2 | (simp [lenS_str]; exact HRL.out.2)⟩
          | (go_roundw
             case rel => exact ⟨r, done ++ [⟨kd, rr, cc, nn⟩], rfl, HRL.out.1, HNX, HN, HW2⟩
             case measure => first | exact HRL.out.2 | (simp [lenS_str]; exact HRL.out.2))

end Go.Proofs.YtlmaeadbomnhlabDoor

namespace Go.Proofs.YtlmaeadbomnhlabDoor
set_option linter.unusedSimpArgs false
set_option linter.unusedVariables false
open Go.RowKit

theorem impl12T : Impl12T PowOk where
  stay := fun h hb => h.stay hb
  text := fun a w h => deedText_impl a w h
  journal := fun A c l hl w h hd => journalText_impl A c l hl w h hd

end Go.Proofs.YtlmaeadbomnhlabDoor

namespace Go.Proofs.YtlmaeadbomnhlabDoor
set_option linter.unusedSimpArgs false
set_option linter.unusedVariables false
open Go.RowKit

theorem impl12Q : Impl12Q TabOk where
  stay := fun h hb => h.stay hb
  read := fun s hs w h => readDeed_impl s hs w h
  readJ := fun s hs w h => readJournal_impl s hs w h

end Go.Proofs.YtlmaeadbomnhlabDoor
