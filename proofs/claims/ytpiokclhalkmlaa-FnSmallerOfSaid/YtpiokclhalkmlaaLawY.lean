/- The walk of the law of WorseColumn. -/
import Derived.Test.YtpiokclhalkmlaaMQ
import Derived.Test.YtpiokclhalkmlaaMR
import Derived.Test.YtpiokclhalkmlaaLawT
import Derived.Test.YtpiokclhalkmlaaMG
namespace Go.Proofs.Ytpiokclhalkmlaa
set_option linter.unusedSimpArgs false
set_option linter.unusedVariables false
open Go.RowKit

set_option maxHeartbeats 1000000 in
theorem sameIntsD (A B : Option Addr) (c d : Nat) (l m : List Int) (S T : Nat → Prop) (hl : l.length ≤ maxLen) (hlm : l.length = m.length) (w : World) (h : Ints w S A l) (h' : Ints w T B m) :
    Calls Try.prog 16 #[.slice A l.length c, .slice B m.length d] w (Quiet (.bool (decide (l = m))) w) := by
  unfold maxLen at hl
  rw [← hlm]
  have z1 : ((l.length : Int) != (l.length : Int)) = false := by simp
  have HH := Lib.hid h
  have HK := Lib.hid h'
  have HL := Lib.hid hlm
  clear h h' hlm
  go_enter Try.func16, Try.ntmps16
  go_wp2_with fail
  go_loopw [5] (fun i wr => ∃ k : Nat, k ≤ l.length ∧ i = .int .i64 k ∧ Hid (∀ i, i < k → nth l i = nth m i) ∧ ∃ n, wr = w.drewN n) (fun i _ => l.length - (intOf i).toNat)
  case atStart => exact ⟨0, Nat.zero_le _, rfl, fun i hi => by omega, (by first | exact ⟨0, rfl⟩ | exact ⟨_, rfl⟩ | exact ⟨_, World.drewN_drewN _ _ _⟩ | (simp only [World.drewN_drewN]; exact ⟨_, rfl⟩))⟩
  case round =>
    obtain ⟨k, hk, rfl, H, n, rfl⟩ := hrel
    by_cases hlt : k < l.length
    · obtain ⟨b, off, rfl, hS, hc⟩ := HH.out.at_ hlt
      obtain ⟨b', off', rfl, hS', hc'⟩ := HK.out.at_ (by rw [← HL.out]; exact hlt)
      have hck := hc k hlt
      have hck' := hc' k (by rw [← HL.out]; exact hlt)
      clear hc hc'
      by_cases e : nth l k = nth m k
      · have z2 : (nth l k != nth m k) = false := by simp [e]
        have HS : Hid (∀ i, i < k + 1 → nth l i = nth m i) := fun i hi => by
          by_cases ei : i = k
          · subst ei; exact e
          · exact H.out i (by omega)
        clear e
        go_wp2_with fail
        go_quiet (fail)
        go_wp2_with fail
        go_roundw
        case rel => exact ⟨k + 1, by omega, by go_num, HS, (by first | exact ⟨0, rfl⟩ | exact ⟨_, rfl⟩ | exact ⟨_, World.drewN_drewN _ _ _⟩ | (simp only [World.drewN_drewN]; exact ⟨_, rfl⟩))⟩
        case measure => simp [intOf]; omega
      · have z2 : (nth l k != nth m k) = true := by simp [e]
        have HS : Hid (decide (l = m) = false) := decide_eq_false fun e' => e (by rw [e'])
        clear e
        go_wp2_with fail
        go_quiet (fail)
        go_wp2_with fail
        go_ret
        exact Quiet.ofD (by rw [HS.out]; rfl) (by first | exact ⟨0, rfl⟩ | exact ⟨_, rfl⟩ | exact ⟨_, World.drewN_drewN _ _ _⟩ | (simp only [World.drewN_drewN]; exact ⟨_, rfl⟩))
    · obtain rfl : k = l.length := by omega
      have HS : Hid (decide (l = m) = true) := decide_eq_true (ext_nth HL.out H.out)
      go_wp2_with fail
      go_ret
      exact Quiet.ofD (by rw [HS.out]; rfl) (by first | exact ⟨0, rfl⟩ | exact ⟨_, rfl⟩ | exact ⟨_, World.drewN_drewN _ _ _⟩ | (simp only [World.drewN_drewN]; exact ⟨_, rfl⟩))

set_option maxHeartbeats 4000000 in
set_option maxRecDepth 100000 in
theorem wFnWorseColumn (a : Option Addr) (len cap : Nat) (zs : List Int) (w : World) (h : IsRow .u8 w a len cap zs) :
    Calls Try.prog 4 #[.slice a len cap] w fun e w' => e = .returned (.bool true) ∧ Below w.heap.size w w' := by
  have hle := byte_len h
  by_cases hbig : (1048576 : Int) < (len : Int)
  · go_enter Try.func4, Try.ntmps4
    go_wp2_with fail
    go_ret
    exact ⟨rfl, Below.refl _ _⟩
  go_enter Try.func4, Try.ntmps4
  go_wp2_with fail
  refine (dDrawWorseColumn a len cap zs w h).mono ?_
  rintro e w1 ⟨g, T, c, r, q, rfl, hg17, hgr, hb1, ho1⟩
  clear hbig hle
  have BEL1 := Lib.hid hb1
  have R1 := Lib.hid ho1.lt
  have hl := small_max hg17
  have zB : (wcB g r q != wcB g r q) = false := by simp
  have zD : (wcB g r q == wcB g r q) = true := by simp
  have HE := Lib.hid (wcB_turned g r q)
  have HTM := Lib.hid (turned_max g)
  clear hb1 ho1 hgr
  go_wp2_with fail
  refine (worseCol_impl T c g r q hl w1 R1.out).mono ?_
  rintro e w2 ⟨rfl, hb2⟩
  have BEL2 := Lib.hid (belT BEL1.out hb2)
  have R2 : Hid (Rows2 w2 (· < w2.heap.size) T g) := stillRows R1.out hb2
  clear hb2
  go_wp2_with fail
  refine (worseCol_spec T c g r q hl w2 R2.out).mono ?_
  rintro e w3 ⟨rfl, hb3⟩
  have BEL3 := Lib.hid (belT BEL2.out hb3)
  have R3 : Hid (Rows2 w3 (· < w3.heap.size) T g) := stillRows R2.out hb3
  clear hb3
  go_wp2_with fail
  refine (turned_impl T c g hl w3 R3.out).mono ?_
  rintro e w4 ⟨X, cx, rfl, hb4, ho4⟩
  have BEL4 := Lib.hid (belT BEL3.out hb4)
  have R4 := Lib.hid ho4.lt
  clear hb4 ho4
  go_wp2_with fail
  refine (worseRow_impl X cx (turned g) r q _ HTM.out w4 R4.out).mono ?_
  rintro e w5 ⟨rfl, rfl⟩
  rw [← HE.out]
  go_wp2_with fail
  refine (alive _).mono ?_
  rintro e w9 ⟨rfl, hb9⟩
  have BEL9 := Lib.hid (belT BEL4.out hb9)
  clear hb9
  go_wp2_with fail
  go_ret
  exact ⟨by first | rfl | simp, BEL9.out⟩

end Go.Proofs.Ytpiokclhalkmlaa
