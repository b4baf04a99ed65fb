/- The walk of the law of LookPlan, over contracts of the program's functions. (Written by wip/gen/law7.py.) -/
import Derived.Test.YthdlepfkifngmaaLawWa
import Derived.Test.YthdlepfkifngmaaMO
import Derived.Test.YthdlepfkifngmaaMI
import Derived.Test.YthdlepfkifngmaaExactWb
namespace Go.Proofs.Ythdlepfkifngmaa
set_option linter.unusedSimpArgs false
set_option linter.unusedVariables false
open Go.RowKit

/-- has one of the first k windows that are chosen shown a cell -/
def seenK (c d : Int) (j : Nat) : Nat → Bool
  | 0 => false
  | i + 1 => seenK c d j i || (decide (0 < nth (lookL c d) i) && (nth (rowAt (winG c d) i) j == 1))

theorem seenK_of {c d : Int} {j i k : Nat} (hi : i < k) (h1 : 0 < nth (lookL c d) i) (h2 : nth (rowAt (winG c d) i) j = 1) : seenK c d j k = true := by
  induction k with
  | zero => omega
  | succ k ih =>
    simp only [seenK]
    by_cases e : i = k
    · subst e; simp [h1, h2]
    · rw [ih (by omega)]; rfl

theorem win_len {c d : Int} (h : winB c d = true) : ∀ i, i < (winG c d).length → ((rowAt (winG c d) i).length : Int) = c := by
  obtain ⟨m, n, rfl, rfl, h1, h2, h3, h4⟩ := win_nat h
  have hl : ∀ k, ∀ i, i < k → (rowAt (winTo m n k) i).length = m := by
    intro k
    induction k with
    | zero => intro i hi; omega
    | succ k ih =>
      intro i hi
      have hk := winTo_length m n k
      by_cases e : i < k
      · rw [show rowAt (winTo m n (k + 1)) i = rowAt (winTo m n k) i from rowAt_snoc_lt _ _ _ (by rw [hk]; exact e)]; exact ih i e
      · obtain rfl : i = k := by omega
        have := rowAt_snoc_eq (winTo m n i) (rowTo m i n)
        rw [hk] at this
        rw [show rowAt (winTo m n (i + 1)) i = rowTo m i n from this]; exact rowTo_length _ _ _
  rw [(win_yes h).1]
  intro i hi
  have := hl (m - n + 1) i (by rw [show (winT m n).length = _ from winTo_length _ _ _] at hi; exact hi)
  show ((rowAt (winTo m n (m - n + 1)) i).length : Int) = m
  rw [this]

set_option maxHeartbeats 4000000 in
set_option maxRecDepth 100000 in
theorem wFnLookPlan (I : Impl7) (a : Option Addr) (len cap : Nat) (zs : List Int) (w : World) (h : IsRow .u8 w a len cap zs) :
    Calls Try.prog 5 #[.slice a len cap] w fun e w' => e = .returned (.bool true) ∧ Below w.heap.size w w' := by
  have hle := byte_len h
  by_cases hbig : (1048576 : Int) < (len : Int)
  · go_enter Try.func5, Try.ntmps5
    go_wp2_with fail
    go_ret
    exact ⟨rfl, Below.refl _ _⟩
  go_enter Try.func5, Try.ntmps5
  go_wp2_with fail
  refine (dDrawLookPlan a len cap zs w h).mono ?_
  rintro e w1 ⟨c, d, rfl, ⟨p1, p2, p3, p4⟩, hb1⟩
  clear hbig hle
  have BEL0 := Lib.hid hb1
  have f1 := wf_small (x := c) (by omega) (by omega)
  have f2 := wf_small (x := d) (by omega) (by omega)
  clear hb1
  have hgl : (winG c d).length ≤ maxLen := small_max (by have := (winG_len c d).1; omega)
  have hkl : (lookL c d).length ≤ 16 := lookL_len c d
  have hwm : (lookL c d).length ≤ maxLen := by unfold maxLen; omega
  go_wp2_with fail
  refine (I.look c d f1 f2 _).mono ?_
  rintro e w2 ⟨TX0, cX0, rfl, hb2, ho2⟩
  have X0 : Hid (Ints w2 (· < w2.heap.size) TX0 _) := own_lt ho2
  replace BEL0 := Lib.hid (belT BEL0.out hb2)
  clear hb2 ho2
  go_wp2_with fail
  refine (lookPlan_spec c d _).mono ?_
  rintro e w3 ⟨TY0, cY0, rfl, hb3, ho3⟩
  have Y0 : Hid (Ints w3 (· < w3.heap.size) TY0 _) := own_lt ho3
  replace X0 := Lib.hid (stillInts X0.out hb3)
  replace BEL0 := Lib.hid (belT BEL0.out hb3)
  clear hb3 ho3
  go_wp2_with fail
  refine (sameInts _ _ _ _ (lookL c d) _ _ hwm _ X0.out Y0.out).mono ?_
  rintro e w4 ⟨rfl, hq4⟩
  have hb4 : Below w3.heap.size w3 w4 := by obtain ⟨n, rfl⟩ := hq4; exact below_drewN (Below.refl _ _) n
  replace X0 := Lib.hid (stillInts X0.out hb4)
  replace Y0 := Lib.hid (stillInts Y0.out hb4)
  replace BEL0 := Lib.hid (belT BEL0.out hb4)
  clear hq4 hb4
  clear Y0
  rcases hb : winB c d with _ | _
  · skip
    have HN := Lib.hid (win_no hb)
    clear hb
    have HZ : Hid ((lookL c d).length = 0) := by rw [HN.out.2.2.2.1]; rfl
    have zz : (((lookL c d).length : Int) == 0) = true := by rw [HZ.out]; rfl
    have hv := HN.out.2.2.1
    go_wp2_with fail
    refine (I.wins c d f1 f2 _).mono ?_
    rintro e w5 ⟨rfl, hb5⟩
    replace X0 := Lib.hid (stillInts X0.out hb5)
    replace BEL0 := Lib.hid (belT BEL0.out hb5)
    clear hb5
    rw [hv]
    clear hv
    go_wp2_with fail
    refine (alive _).mono ?_
    rintro e w9 ⟨rfl, hb9⟩
    have hb8 := Lib.hid (belT (w := w5) (by exact (by repeat (first | exact Below.refl _ _ | assumption | exact bel1 (by assumption) | exact bel2 (by assumption) | exact bel3 (by assumption) | exact bel4 (by assumption) | refine Below.drew ?_ | refine below_drewN ?_ _ | refine Below.setCell ?_ (by first | (simp; done) | (simp; omega)) _ | refine Below.alloc ?_ (by first | (simp; done) | (simp; omega)) _))) hb9)
    clear hb9
    go_wp2_with fail
    go_ret
    exact ⟨by first | rfl | (simp; done) | (simp; omega), belT BEL0.out hb8.out⟩
  have HF := Lib.hid (win_facts hb)
  have hcd := winB_iff.1 hb
  have zz : (((lookL c d).length : Int) == 0) = false := by rw [beq_eq_false_iff_ne, HF.out.look]; omega
  have HWL := Lib.hid (win_len hb)
  have HLG : Hid ((lookL c d).length = (winG c d).length) := by have a := HF.out.look; have b := HF.out.many; show _ = _; omega
  clear hb
  go_wp2_with fail
  refine (winGame_spec c d _).mono ?_
  rintro e w5 ⟨TG0, cG0, rfl, hb5, ho5⟩
  have G0 := Lib.hid ho5.lt
  replace X0 := Lib.hid (stillInts X0.out hb5)
  replace BEL0 := Lib.hid (belT BEL0.out hb5)
  clear hb5 ho5
  go_wp2_with fail
  go_loopw [7] (fun v wr => ∃ j : Nat, (j : Int) ≤ c ∧ v = .int .i64 j ∧ ∃ n, wr = w5.drewN n) (fun v _ => c.toNat - (intOf v).toNat)
  case atStart => exact ⟨0, by omega, rfl, 0, rfl⟩
  case round =>
    obtain ⟨j, hj, rfl, n0, rfl⟩ := hrel
    by_cases hjc : (j : Int) < c
    · have HSEE := Lib.hid (HF.out.seen j hjc)
      go_wp2_with fail
      go_loopw [8, 9] (fun b v wr => ∃ i : Nat, i ≤ (lookL c d).length ∧ v = .int .i64 i ∧ b = .bool (seenK c d j i) ∧ ∃ n, wr = w5.drewN n) (fun _ v _ => (lookL c d).length - (intOf v).toNat)
      case atStart => exact ⟨0, Nat.zero_le _, rfl, rfl, n0, rfl⟩
      case round =>
        obtain ⟨i, hi, rfl, rfl, n1, rfl⟩ := hrel
        by_cases hil : i < (lookL c d).length
        · have hig : i < (winG c d).length := by rw [← HLG.out]; exact hil
          have hil2 : (i : Int) < ((lookL c d).length : Int) := by omega
          have hig2 : (i : Int) < ((winG c d).length : Int) := by omega
          have hjr : (j : Int) < ((rowAt (winG c d) i).length : Int) := by rw [HWL.out i hig]; exact hjc
          have hjr2 : j < (rowAt (winG c d) i).length := by omega
          have q1 : (0 : Int) ≤ (i : Int) := by omega
          have q2 : (0 : Int) ≤ (j : Int) := by omega
          obtain ⟨bx, ox, hA, _, hcx⟩ := X0.out.at_ (i := i) hil
          subst hA
          have hci := hcx i hil
          obtain ⟨bg, og, hB, _, hcg⟩ := G0.out.at_ (i := i) hig
          subst hB
          obtain ⟨A2, c2, hrow, _, _, hI⟩ := hcg i hig
          obtain ⟨b2, o2, hA2, _, hc2⟩ := hI.at_ (i := j) hjr2
          subst hA2
          have hcj := hc2 j hjr2
          clear hcx hcg hI hc2
          rcases hs : seenK c d j i with _ | _
          · skip
            by_cases hx : 0 < nth (lookL c d) i
            · have hd : decide (0 < nth (lookL c d) i) = true := decide_eq_true hx
              by_cases hg : nth (rowAt (winG c d) i) j = 1
              · have he : (nth (rowAt (winG c d) i) j == 1) = true := beq_iff_eq.2 hg
                have hnew : seenK c d j (i + 1) = true := by simp only [seenK]; rw [hs, hd, he]; rfl
                clear hx hg hs
                go_wp2_with fail
                go_roundw
                case rel => exact ⟨i + 1, by omega, by go_num, by rw [hnew], n1, rfl⟩
                case measure => simp [intOf]; omega
              · have he : (nth (rowAt (winG c d) i) j == 1) = false := beq_eq_false_iff_ne.2 hg
                have hnew : seenK c d j (i + 1) = false := by simp only [seenK]; rw [hs, hd, he]; rfl
                clear hx hg hs
                go_wp2_with fail
                go_roundw
                case rel => exact ⟨i + 1, by omega, by go_num, by rw [hnew], n1, rfl⟩
                case measure => simp [intOf]; omega
            · have hd : decide (0 < nth (lookL c d) i) = false := decide_eq_false hx
              by_cases hg : nth (rowAt (winG c d) i) j = 1
              · have he : (nth (rowAt (winG c d) i) j == 1) = true := beq_iff_eq.2 hg
                have hnew : seenK c d j (i + 1) = false := by simp only [seenK]; rw [hs, hd, he]; rfl
                clear hx hg hs
                go_wp2_with fail
                go_roundw
                case rel => exact ⟨i + 1, by omega, by go_num, by rw [hnew], n1, rfl⟩
                case measure => simp [intOf]; omega
              · have he : (nth (rowAt (winG c d) i) j == 1) = false := beq_eq_false_iff_ne.2 hg
                have hnew : seenK c d j (i + 1) = false := by simp only [seenK]; rw [hs, hd, he]; rfl
                clear hx hg hs
                go_wp2_with fail
                go_roundw
                case rel => exact ⟨i + 1, by omega, by go_num, by rw [hnew], n1, rfl⟩
                case measure => simp [intOf]; omega
          · skip
            by_cases hx : 0 < nth (lookL c d) i
            · have hd : decide (0 < nth (lookL c d) i) = true := decide_eq_true hx
              by_cases hg : nth (rowAt (winG c d) i) j = 1
              · have he : (nth (rowAt (winG c d) i) j == 1) = true := beq_iff_eq.2 hg
                have hnew : seenK c d j (i + 1) = true := by simp only [seenK]; rw [hs, hd, he]; rfl
                clear hx hg hs
                go_wp2_with fail
                go_roundw
                case rel => exact ⟨i + 1, by omega, by go_num, by rw [hnew], n1, rfl⟩
                case measure => simp [intOf]; omega
              · have he : (nth (rowAt (winG c d) i) j == 1) = false := beq_eq_false_iff_ne.2 hg
                have hnew : seenK c d j (i + 1) = true := by simp only [seenK]; rw [hs, hd, he]; rfl
                clear hx hg hs
                go_wp2_with fail
                go_roundw
                case rel => exact ⟨i + 1, by omega, by go_num, by rw [hnew], n1, rfl⟩
                case measure => simp [intOf]; omega
            · have hd : decide (0 < nth (lookL c d) i) = false := decide_eq_false hx
              by_cases hg : nth (rowAt (winG c d) i) j = 1
              · have he : (nth (rowAt (winG c d) i) j == 1) = true := beq_iff_eq.2 hg
                have hnew : seenK c d j (i + 1) = true := by simp only [seenK]; rw [hs, hd, he]; rfl
                clear hx hg hs
                go_wp2_with fail
                go_roundw
                case rel => exact ⟨i + 1, by omega, by go_num, by rw [hnew], n1, rfl⟩
                case measure => simp [intOf]; omega
              · have he : (nth (rowAt (winG c d) i) j == 1) = false := beq_eq_false_iff_ne.2 hg
                have hnew : seenK c d j (i + 1) = true := by simp only [seenK]; rw [hs, hd, he]; rfl
                clear hx hg hs
                go_wp2_with fail
                go_roundw
                case rel => exact ⟨i + 1, by omega, by go_num, by rw [hnew], n1, rfl⟩
                case measure => simp [intOf]; omega
        · obtain rfl : i = (lookL c d).length := by omega
          obtain ⟨i9, s1, s2, s3⟩ := HSEE.out
          rw [seenK_of s1 s2 s3]
          clear s1 s2 s3 i9
          go_wp2_with fail
          go_roundw
          case rel => exact ⟨j + 1, by omega, by go_num, n1, rfl⟩
          case measure => simp [intOf]; omega
    · have hje : (j : Int) = c := by omega
      obtain ⟨wr, hwr⟩ : ∃ wr, wr = w5.drewN n0 := ⟨_, rfl⟩
      have hbV : Below w5.heap.size w5 wr := by rw [hwr]; exact below_drewN (Below.refl _ _) n0
      rw [← hwr]
      clear hwr
      replace X0 := Lib.hid (stillInts X0.out hbV)
      replace G0 := Lib.hid (stillRows G0.out hbV)
      replace BEL0 := Lib.hid (belT BEL0.out hbV)
      clear hbV
      go_wp2_with fail
      refine (safe_impl _ _ _ _ (winG c d) (lookL c d) hgl (by omega) _ G0.out X0.out).mono ?_
      rintro e w11 ⟨rfl, hb11⟩
      replace X0 := Lib.hid (stillInts X0.out hb11)
      replace G0 := Lib.hid (stillRows G0.out hb11)
      replace BEL0 := Lib.hid (belT BEL0.out hb11)
      clear hb11
      try unfold FracRes
      rw [HF.out.up, HF.out.down, HF.out.saf]
      go_wp2_with fail
      obtain ⟨WFA, hWFA⟩ : ∃ WFA : World, WFA = w11.alloc (.cells #[.int .i64 1, .int .i64 (winV c d)] 31) := ⟨_, rfl⟩
      have hbWFA : Below w11.heap.size w11 WFA := by rw [hWFA]; exact (Below.refl _ _).alloc (Nat.le_refl _) _
      have FA : Hid (Box2 WFA w11.heap.size 1 (winV c d)) := by show Box2 _ _ _ _; rw [hWFA]; exact Box2.new _ _ _
      rw [← hWFA]
      clear hWFA
      replace X0 := Lib.hid (stillInts X0.out hbWFA)
      replace G0 := Lib.hid (stillRows G0.out hbWFA)
      replace BEL0 := Lib.hid (belT BEL0.out hbWFA)
      clear hbWFA
      have cFA0 := FA.out.c0
      have cFA1 := FA.out.c1
      have lFA := FA.out.lt
      go_wp2_with fail
      clear cFA0 cFA1
      have sFA0 := stays FA.out.lt FA.out.c0
      have sFA1 := stays FA.out.lt FA.out.c1
      have HW : Hid (∀ w', Calls Try.prog 17 #[.int .i64 c, .int .i64 d] w' (Adds (.int .i64 (winV c d)) w')) := fun w' => I.wins c d f1 f2 w'
      have zw : (winV c d == winV c d) = true := by simp
      go_region_held3 (fun w' => Below WFA.heap.size WFA w')
        (first | exact Below.refl _ _ | exact Below.drew (Below.refl _ _) | (refine Below.drew ?_; assumption) | exact belT (by assumption) (by assumption) | assumption)
        (first | (go_at_call 17; refine (HW.out _).mono ?_; rintro e w8 ⟨rfl, hb8⟩))
      go_wp2_with fail
      go_ret
      exact ⟨by simp, belT BEL0.out (by assumption)⟩

end Go.Proofs.Ythdlepfkifngmaa
