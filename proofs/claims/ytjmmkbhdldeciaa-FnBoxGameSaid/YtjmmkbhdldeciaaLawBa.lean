/- The walk of the law of BoxesOk, over contracts of the program's functions. (Written by wip/gen/law6.py.) -/
import Derived.Test.YtjmmkbhdldeciaaMU
import Derived.Test.YtjmmkbhdldeciaaLawT
import Derived.Test.YtjmmkbhdldeciaaMA
namespace Go.Proofs.Ytjmmkbhdldeciaa
set_option linter.unusedSimpArgs false
set_option linter.unusedVariables false
open Go.RowKit

/-- a literal of one number -/
theorem lit1 (w : World) (x : Int) : Ints (w.alloc (.cells #[.int .i64 x] 3)) (· < (w.alloc (.cells #[.int .i64 x] 3)).heap.size) (some ⟨w.heap.size, 0, none⟩) [x] := by
  intro _
  refine ⟨w.heap.size, 0, rfl, by simp, fun i hi => ?_⟩
  obtain rfl : i = 0 := by simpa using hi
  simp [go_sem, nth]

/-- the first m numbers from the last one on -/
def revTo (l : List Int) : Nat → List Int
  | 0 => []
  | m + 1 => revTo l m ++ [nth l (l.length - 1 - m)]

theorem revTo_length (l : List Int) (m : Nat) : (revTo l m).length = m := by
  induction m with
  | zero => rfl
  | succ m ih => simp [revTo, ih]

theorem nth_revTo (l : List Int) (m i : Nat) (h : i < m) : nth (revTo l m) i = nth l (l.length - 1 - i) := by
  induction m with
  | zero => omega
  | succ m ih =>
    simp only [revTo]
    by_cases e : i < m
    · rw [nth_snoc_lt _ _ _ (by rw [revTo_length]; exact e), ih e]
    · obtain rfl : i = m := by omega
      have := nth_snoc_eq (revTo l i) (nth l (l.length - 1 - i))
      rwa [revTo_length] at this

theorem revTo_all (l : List Int) : revTo l l.length = revW l := by
  refine ext_nth (by rw [revTo_length, revW_length]) fun i hi => ?_
  rw [revTo_length] at hi
  rw [nth_revTo _ _ _ hi, nth_revW l i hi]

set_option maxHeartbeats 4000000 in
set_option maxRecDepth 100000 in
theorem wFnBoxesOk (I : Impl6) (a : Option Addr) (len cap : Nat) (zs : List Int) (w : World) (h : IsRow .u8 w a len cap zs) :
    Calls Try.prog 3 #[.slice a len cap] w fun e w' => e = .returned (.bool true) ∧ Below w.heap.size w w' := by
  have hle := byte_len h
  by_cases hbig : (1048576 : Int) < (len : Int)
  · go_enter Try.func3, Try.ntmps3
    go_wp2_with fail
    go_ret
    exact ⟨rfl, Below.refl _ _⟩
  go_enter Try.func3, Try.ntmps3
  go_wp2_with fail
  refine (dDrawBoxesOk a len cap zs w h).mono ?_
  rintro e w1 ⟨l, A, c, rfl, hl7, hb1, ho1⟩
  clear hbig hle
  have BEL0 := Lib.hid hb1
  have R0 : Hid (Ints w1 (· < w1.heap.size) A l) := ho1.ints.mono fun b hb => hb.2
  have hl : l.length ≤ 1048576 := by omega
  have hlm : l.length ≤ maxLen := by unfold maxLen; omega
  clear hb1 ho1
  go_wp2_with fail
  refine (I.ok A c l hl _ R0.out).mono ?_
  rintro e w2 ⟨rfl, hb2⟩
  replace R0 := Lib.hid (stillInts R0.out hb2)
  replace BEL0 := Lib.hid (belT BEL0.out hb2)
  clear hb2
  go_wp2_with fail
  refine (boxes_spec A c l _ hlm _ R0.out).mono ?_
  rintro e wz ⟨rfl, rfl⟩
  have zB : (boxesB l != boxesB l) = false := by simp
  have hw0 : IntKind.i64.wrap ((l.length : Int) - 1) = (l.length : Int) - 1 := IntWalk.i64_in _ ⟨by omega, by omega⟩
  have G0 : Hid (Grows (w2.alloc (.cells #[] 3)) w2.heap.size (.slice (some ⟨w2.heap.size, 0, none⟩) 0 0) (revTo l 0)) := Grows.lit w2 (Nat.le_refl _)
  have HB0 : Hid (Below w2.heap.size w2 (w2.alloc (.cells #[] 3))) := (Below.refl _ _).alloc (Nat.le_refl _) _
  obtain ⟨i0, hi0, hz0, hz1, hz2⟩ := info_parts infoI
  have HI0 := Lib.hid hi0
  have HZ0 := Lib.hid hz0
  have HZ1 := Lib.hid hz1
  have HZ2 := Lib.hid hz2
  clear hi0 hz0 hz1 hz2
  go_wp2_with fail
  go_loopw [5, 6] (fun v i wr => ∃ m : Nat, m ≤ l.length ∧ i = .int .i64 ((l.length : Int) - 1 - (m : Int)) ∧ Hid (Grows wr w2.heap.size v (revTo l m)) ∧ Hid (Below w2.heap.size w2 wr)) (fun _ i _ => (intOf i + 1).toNat)
  case atStart => exact ⟨0, Nat.zero_le _, by simp, G0, HB0⟩
  case round =>
    obtain ⟨m, hm, rfl, HO, HV⟩ := hrel
    have hlk := revTo_length l m
    by_cases hlt : m < l.length
    · obtain ⟨b, off, hA, hS, hc⟩ := (keepInts HV.out R0.out).at_ (i := 0) (by omega)
      subst hA
      have hck := hc (l.length - 1 - m) (by omega)
      obtain ⟨k, hk⟩ : ∃ k : Nat, l.length - 1 - m = k := ⟨_, rfl⟩
      have hki : (l.length : Int) - 1 - (m : Int) = (k : Int) := by omega
      have hkl : k < l.length := by omega
      have hrs : Hid (revTo l (m + 1) = revTo l m ++ [nth l k]) := by show revTo l m ++ [nth l (l.length - 1 - m)] = _; rw [hk]
      have hml : (l.length : Int) - 1 - ((m + 1 : Nat) : Int) = (k : Int) - 1 := by omega
      have HML := Lib.hid hml
      rw [hk] at hck
      have hwk : IntKind.i64.wrap ((k : Int) - 1) = (k : Int) - 1 := IntWalk.i64_in _ ⟨by omega, by omega⟩
      have hvs := HV.out.size
      rw [hki]
      clear hc hki hml hk
      go_wp2_with (at_builtin; refine wpList_append_own_at _ rfl (.tmp 26) (.tmp 31) _ rfl w2.heap.size 3 i0 (.int .i64 0) 1 8 Try.underlying23 HI0.out HZ0.out HZ1.out HZ2.out rfl (by decide) _ (revTo l m).length (vals (revTo l m)) rfl (HO.out.alloc _) ⟨wr.heap.size, 0, none⟩ 1 1 [.int .i64 (nth l k)] rfl rfl (cell_one_new _ _ _) ?c2 ?c3 ?c4 ?c5 ?_)
      case c2 => first | rfl | (intro u hu; simp at hu; subst hu; rfl)
      case c3 => rw [hlk]; unfold maxLen; omega
      case c4 => rw [hlk]; omega
      case c5 => first | omega | (simp; omega)
      intro v' w6 hown hgrow _ _
      have HN : Hid (Grows w6 w2.heap.size v' (revTo l (m + 1))) := by rw [hrs.out]; exact Grows.snoc (by first | exact hown | (rw [hlk]; exact hown))
      have HV2 : Hid (Below w2.heap.size w2 w6) := HO.out.below hgrow HV.out (Nat.le_refl _) hvs
      clear hown hgrow
      go_wp2_with fail
      go_roundw
      case rel => exact ⟨m + 1, by omega, by rw [HML.out], HN, HV2⟩
      case measure => first | (simp [intOf]; done) | (simp [intOf]; omega) | omega
    · obtain rfl : m = l.length := by omega
      have HD := Lib.hid (revTo_all l)
      obtain ⟨A9, c9, hv9, _, ho9⟩ := (HD.out ▸ HO.out : Grows wr w2.heap.size _ (revW l)).own
      subst hv9
      have RB := Lib.hid (own_lt ho9)
      have HREV := Lib.hid (box_rev l)
      have HRL : Hid ((revW l).length ≤ 1048576) := by show _ ≤ _; rw [revW_length]; exact hl
      have hneg : decide ((0 : Int) ≤ (l.length : Int) - 1 - (l.length : Int)) = false := decide_eq_false (by omega)
      have zD : (boxesB l == boxesB l) = true := by simp
      clear ho9 HO hlk
      have hbV := HV.out
      clear HV
      replace R0 := Lib.hid (stillInts R0.out hbV)
      replace BEL0 := Lib.hid (belT BEL0.out hbV)
      have e9 : (l.length : Int) - 1 - (l.length : Int) = -1 := by omega
      rw [e9]
      clear e9 hneg
      go_wp2_with fail
      have hB11 : boxesB [1] = true := by decide
      refine (I.ok _ 1 [1] (by decide) _ (lit1 _ _)).mono ?_
      rintro e w11 ⟨rfl, hbl11⟩
      rw [hB11]
      have hb11 := belT ((Below.refl wr.heap.size wr).alloc (Nat.le_refl _) _) hbl11
      clear hbl11 hB11
      replace R0 := Lib.hid (stillInts R0.out hb11)
      replace RB := Lib.hid (stillInts RB.out hb11)
      replace BEL0 := Lib.hid (belT BEL0.out hb11)
      clear hb11
      go_wp2_with fail
      have hB12 : boxesB [9] = true := by decide
      refine (I.ok _ 1 [9] (by decide) _ (lit1 _ _)).mono ?_
      rintro e w12 ⟨rfl, hbl12⟩
      rw [hB12]
      have hb12 := belT ((Below.refl w11.heap.size w11).alloc (Nat.le_refl _) _) hbl12
      clear hbl12 hB12
      replace R0 := Lib.hid (stillInts R0.out hb12)
      replace RB := Lib.hid (stillInts RB.out hb12)
      replace BEL0 := Lib.hid (belT BEL0.out hb12)
      clear hb12
      go_wp2_with fail
      refine (I.ok _ _ (revW l) HRL.out _ RB.out).mono ?_
      rintro e w13 ⟨rfl, hb13⟩
      rw [HREV.out]
      replace R0 := Lib.hid (stillInts R0.out hb13)
      replace RB := Lib.hid (stillInts RB.out hb13)
      replace BEL0 := Lib.hid (belT BEL0.out hb13)
      clear hb13
      go_wp2_with fail
      have hB14 : boxesB [0] = false := by decide
      refine (I.ok _ 1 [0] (by decide) _ (lit1 _ _)).mono ?_
      rintro e w14 ⟨rfl, hbl14⟩
      rw [hB14]
      have hb14 := belT ((Below.refl w13.heap.size w13).alloc (Nat.le_refl _) _) hbl14
      clear hbl14 hB14
      replace R0 := Lib.hid (stillInts R0.out hb14)
      replace RB := Lib.hid (stillInts RB.out hb14)
      replace BEL0 := Lib.hid (belT BEL0.out hb14)
      clear hb14
      go_wp2_with fail
      refine (alive _).mono ?_
      rintro e w9 ⟨rfl, hb9⟩
      have BEL9 := Lib.hid (belT BEL0.out hb9)
      clear hb9
      go_wp2_with fail
      go_ret
      exact ⟨by first | rfl | (simp; done), BEL9.out⟩

end Go.Proofs.Ytjmmkbhdldeciaa
