/- The walks of the specification's mixtures. -/
import Derived.Test.YtjojilimdhekfaaAll
import Derived.Test.YtjojilimdhekfaaMmath
import Derived.Test.YtjojilimdhekfaaFloorS
namespace Go.Proofs.Ytjojilimdhekfaa
set_option linter.unusedSimpArgs false
set_option linter.unusedVariables false
open Go.RowKit

theorem inR_w (n : Int) : inR n 0 100000 = wB n := by simp [inR, wB]

set_option maxHeartbeats 1000000 in
theorem mixOk_spec (A : Option Addr) (c : Nat) (l : List Int) (many : Int) (S : Nat → Prop) (hl : l.length ≤ 4294967296) (w : World) (h : Ints w S A l) :
    Calls Try.prog 65 #[.slice A l.length c, .int .i64 many] w (Same (.bool (mixB l many)) w) := by
  have HH := Lib.hid h
  clear h
  go_enter Try.func65, Try.ntmps65
  go_wp2_with fail
  go_loop [5, 6] (fun v i => ∃ k : Nat, k ≤ l.length ∧ i = .int .i64 k ∧ v = .int .i64 (sumW l k) ∧ Hid (wsB l k = true)) (fun _ i => l.length - (intOf i).toNat)
  case atStart => exact ⟨0, Nat.zero_le _, rfl, rfl, rfl⟩
  case round =>
    obtain ⟨k, hk, rfl, rfl, H⟩ := hrel
    obtain ⟨b1, b2⟩ := sumW_bd l k (wsB_iff.1 H.out)
    by_cases hlt : k < l.length
    · obtain ⟨b, off, rfl, hS, hc⟩ := HH.out.at_ hlt
      have hck := hc k hlt
      clear hc
      rcases h3 : wB (nth l k) with _ | _
      · have hno : Hid (mixB l many = false) := by simp [Hid, mixB, wsB_no h3 hlt]
        have H3 := Lib.hid h3
        clear h3
        go_wp2_with (go_at_call 79; refine (in_spec _ _ _ _).mono ?_; rintro e w1 ⟨rfl, rfl⟩; rw [inR_w, H3.out])
        go_ret
        exact Same.of (by rw [hno.out]; rfl)
      · have hy : Hid (wsB l (k + 1) = true) := by show (wsB _ k && _) = true; rw [H.out, h3]; rfl
        have hw := wB_iff.1 h3
        obtain ⟨hw1, hw2⟩ := hw
        have H3 := Lib.hid h3
        clear h3
        go_wp2_with (go_at_call 79; refine (in_spec _ _ _ _).mono ?_; rintro e w1 ⟨rfl, rfl⟩; rw [inR_w, H3.out])
        go_round
        case rel => exact ⟨k + 1, by omega, by go_num, rfl, hy⟩
        case measure => simp [intOf]; omega
    · obtain rfl : k = l.length := by omega
      rcases h4 : inR many 1 16 with _ | _
      · have hno : Hid (mixB l many = false) := by simp [Hid, mixB, h4]
        have H4 := Lib.hid h4
        clear h4
        go_wp2_with (go_at_call 79; refine (in_spec _ _ _ _).mono ?_; rintro e w1 ⟨rfl, rfl⟩; rw [H4.out])
        go_ret
        exact Same.of (by rw [hno.out]; rfl)
      · rcases h5 : ((l.length : Int) == many) with _ | _
        · have hno : Hid (mixB l many = false) := by simp only [Hid, mixB, h5]; simp
          have H4 := Lib.hid h4
          clear h4
          go_wp2_with (go_at_call 79; refine (in_spec _ _ _ _).mono ?_; rintro e w1 ⟨rfl, rfl⟩; rw [H4.out])
          go_ret
          exact Same.of (by rw [hno.out]; rfl)
        · have hy : Hid (mixB l many = decide (0 < sumW l l.length)) := by show mixB l many = _; simp only [mixB, H.out, h4, h5]; simp
          have H4 := Lib.hid h4
          clear h4
          go_wp2_with (go_at_call 79; refine (in_spec _ _ _ _).mono ?_; rintro e w1 ⟨rfl, rfl⟩; rw [H4.out])
          all_goals
            go_ret
            exact Same.of (by rw [hy.out]; simp)

set_option maxHeartbeats 1000000 in
theorem l3Sum (A : Option Addr) (c : Nat) (l : List Int) (m : Nat) (S : Nat → Prop) (hx : Mix l m) (w : World) (h : Ints w S A l) :
    Calls Try.prog 56 #[.slice A l.length c] w (Same (.int .i64 (sumW l l.length)) w) := by
  have HH := Lib.hid h
  have hm := hx.hi
  have HL := Lib.hid hx.len
  have hl : l.length ≤ 16 := by rw [HL.out]; exact hm
  have hw : ∀ i, i < l.length → 0 ≤ nth l i ∧ nth l i ≤ 100000 := fun i hi => by rw [HL.out] at hi; exact ⟨hx.wlo i hi, hx.whi i hi⟩
  have HW := Lib.hid hw
  clear h hw hx
  go_enter Try.func56, Try.ntmps56
  go_wp2_with fail
  go_loop [3, 4] (fun v i => ∃ k : Nat, k ≤ l.length ∧ i = .int .i64 k ∧ v = .int .i64 (sumW l k)) (fun _ i => l.length - (intOf i).toNat)
  case atStart => exact ⟨0, Nat.zero_le _, rfl, rfl⟩
  case round =>
    obtain ⟨k, hk, rfl, rfl⟩ := hrel
    obtain ⟨b1, b2⟩ := sumW_bd l k (fun i hi => HW.out i (by omega))
    by_cases hlt : k < l.length
    · obtain ⟨b, off, rfl, hS, hc⟩ := HH.out.at_ hlt
      have hck := hc k hlt
      obtain ⟨hw1, hw2⟩ := HW.out k hlt
      clear hc
      go_wp2_with fail
      go_round
      case rel => exact ⟨k + 1, by omega, by go_num, rfl⟩
      case measure => simp [intOf]; omega
    · obtain rfl : k = l.length := by omega
      go_wp2_with fail
      go_ret
      exact Same.of rfl

set_option maxHeartbeats 1000000 in
theorem l3Row (T A : Option Addr) (c d : Nat) (g : List (List Int)) (y : List Int) (m : Nat) (S S' : Nat → Prop) (i : Nat) (hg : Game g m) (hy : Mix y m) (hi : i < g.length) (w : World) (h : Rows2 w S T g) (h' : Ints w S' A y) :
    Calls Try.prog 54 #[.slice T g.length c, .slice A y.length d, .int .i64 (i : Int)] w (Quiet (.int .i64 (rowD g y i)) w) := by
  have HL := Lib.hid hy.len
  have hm := hy.hi
  have hl : y.length ≤ 16 := by rw [HL.out]; exact hm
  have hgl := hg.hi
  obtain ⟨b, off, rfl⟩ := h.some (by omega)
  have HR := Lib.hid h
  have HY := Lib.hid h'
  have HG := Lib.hid hg
  have HM := Lib.hid hy
  clear h h' hg hy
  go_enter Try.func54, Try.ntmps54
  go_wp2_with fail
  go_loopw [7, 8] (fun v j wr => ∃ k : Nat, k ≤ y.length ∧ j = .int .i64 k ∧ v = .int .i64 (dotW y (rowAt g i) k) ∧ ∃ n, wr = w.drewN n) (fun _ j _ => y.length - (intOf j).toNat)
  case atStart => exact ⟨0, Nat.zero_le _, rfl, rfl, (by first | exact ⟨0, rfl⟩ | exact ⟨_, rfl⟩ | exact ⟨_, World.drewN_drewN _ _ _⟩ | (simp only [World.drewN_drewN]; exact ⟨_, rfl⟩))⟩
  case round =>
    obtain ⟨k, hk, rfl, rfl, n, rfl⟩ := hrel
    by_cases hlt : k < y.length
    · have hlm : k < m := by rw [← HL.out]; exact hlt
      have hlr : k < (rowAt g i).length := by rw [HG.out.len i hi]; exact hlm
      obtain ⟨bm, om, cm, hc1, hc2, hc3, hc4, hc5⟩ := HR.out.cell hi hlr
      unfold maxLen at hc3
      obtain ⟨by', oy, rfl, hSy, hcy⟩ := HY.out.at_ hlt
      have hcy := hcy k hlt
      obtain ⟨b1, b2⟩ := dotW_bd y (rowAt g i) 9 (by omega) k (fun j hj => ⟨HM.out.wlo j (by omega), HM.out.whi j (by omega)⟩) (fun j hj => ⟨HG.out.nlo i hi j (by omega), HG.out.nhi i hi j (by omega)⟩)
      obtain ⟨p1, p2⟩ := prod_bd (HM.out.wlo k hlm) (HM.out.whi k hlm) (HG.out.nlo i hi k hlm) (HG.out.nhi i hi k hlm) (by omega)
      have x1 : IntKind.i64.wrap (nth y k * nth (rowAt g i) k) = nth y k * nth (rowAt g i) k := IntWalk.i64_in _ (by omega)
      have x2 : IntKind.i64.wrap (dotW y (rowAt g i) k + nth y k * nth (rowAt g i) k) = dotW y (rowAt g i) k + nth y k * nth (rowAt g i) k := IntWalk.i64_in _ (by omega)
      have q1 : (i : Int) < (g.length : Int) := by omega
      have q2 : (k : Int) < (y.length : Int) := by omega
      have q3 : (k : Int) < ((rowAt g i).length : Int) := by omega
      have q4 : (0 : Int) ≤ (k : Int) := by omega
      have q5 : (0 : Int) ≤ (i : Int) := by omega
      go_wp2_with fail
      go_quiet (fail)
      clear x1 x2
      go_wp2_with fail
      go_roundw
      case rel => exact ⟨k + 1, by omega, by go_num, rfl, (by first | exact ⟨0, rfl⟩ | exact ⟨_, rfl⟩ | exact ⟨_, World.drewN_drewN _ _ _⟩ | (simp only [World.drewN_drewN]; exact ⟨_, rfl⟩))⟩
      case measure => simp [intOf]; omega
    · obtain rfl : k = y.length := by omega
      go_wp2_with fail
      go_ret
      exact Quiet.ofD rfl (by first | exact ⟨0, rfl⟩ | exact ⟨_, rfl⟩ | exact ⟨_, World.drewN_drewN _ _ _⟩ | (simp only [World.drewN_drewN]; exact ⟨_, rfl⟩))

set_option maxHeartbeats 1000000 in
theorem l3Column (T A : Option Addr) (c d : Nat) (g : List (List Int)) (x : List Int) (m : Nat) (S S' : Nat → Prop) (j : Nat) (hg : Game g m) (hx : Mix x g.length) (hj : j < m) (w : World) (h : Rows2 w S T g) (h' : Ints w S' A x) :
    Calls Try.prog 66 #[.slice T g.length c, .slice A x.length d, .int .i64 (j : Int)] w (Quiet (.int .i64 (colD g x j)) w) := by
  have HL := Lib.hid hx.len
  have hgl := hg.hi
  have hgl1 := hg.lo
  obtain ⟨b, off, rfl⟩ := h.some (by omega)
  have HR := Lib.hid h
  have HY := Lib.hid h'
  have HG := Lib.hid hg
  have HM := Lib.hid hx
  clear h h' hg hx
  go_enter Try.func66, Try.ntmps66
  go_wp2_with fail
  go_loopw [7, 8] (fun v i wr => ∃ k : Nat, k ≤ g.length ∧ i = .int .i64 k ∧ v = .int .i64 (dotW x (col g j) k) ∧ ∃ n, wr = w.drewN n) (fun _ i _ => g.length - (intOf i).toNat)
  case atStart => exact ⟨0, Nat.zero_le _, rfl, rfl, (by first | exact ⟨0, rfl⟩ | exact ⟨_, rfl⟩ | exact ⟨_, World.drewN_drewN _ _ _⟩ | (simp only [World.drewN_drewN]; exact ⟨_, rfl⟩))⟩
  case round =>
    obtain ⟨k, hk, rfl, rfl, n, rfl⟩ := hrel
    by_cases hlt : k < g.length
    · have hlr : j < (rowAt g k).length := by rw [HG.out.len k hlt]; exact hj
      have hlx : k < x.length := by rw [HL.out]; exact hlt
      obtain ⟨bm, om, cm, hc1, hc2, hc3, hc4, hc5⟩ := HR.out.cell hlt hlr
      unfold maxLen at hc3
      obtain ⟨by', oy, rfl, hSy, hcy⟩ := HY.out.at_ hlx
      have hcy := hcy k hlx
      obtain ⟨b1, b2⟩ := dotW_bd x (col g j) 9 (by omega) k (fun i hi => ⟨HM.out.wlo i (by omega), HM.out.whi i (by omega)⟩) (fun i hi => by rw [nth_col g j i (by omega)]; exact ⟨HG.out.nlo i (by omega) j hj, HG.out.nhi i (by omega) j hj⟩)
      obtain ⟨p1, p2⟩ := prod_bd (HM.out.wlo k hlt) (HM.out.whi k hlt) (HG.out.nlo k hlt j hj) (HG.out.nhi k hlt j hj) (by omega)
      have HD : Hid (dotW x (col g j) (k + 1) = dotW x (col g j) k + nth x k * nth (rowAt g k) j) := by show dotW _ _ k + _ = _; rw [nth_col g j k hlt]
      have x1 : IntKind.i64.wrap (nth x k * nth (rowAt g k) j) = nth x k * nth (rowAt g k) j := IntWalk.i64_in _ (by omega)
      have x2 : IntKind.i64.wrap (dotW x (col g j) k + nth x k * nth (rowAt g k) j) = dotW x (col g j) k + nth x k * nth (rowAt g k) j := IntWalk.i64_in _ (by omega)
      have q1 : (k : Int) < (g.length : Int) := by omega
      have q2 : (k : Int) < (x.length : Int) := by omega
      have q3 : (j : Int) < ((rowAt g k).length : Int) := by omega
      have q4 : (0 : Int) ≤ (k : Int) := by omega
      have q5 : (0 : Int) ≤ (j : Int) := by omega
      go_wp2_with fail
      go_quiet (fail)
      clear x1 x2
      go_wp2_with fail
      go_roundw
      case rel => exact ⟨k + 1, by omega, by go_num, by rw [HD.out], (by first | exact ⟨0, rfl⟩ | exact ⟨_, rfl⟩ | exact ⟨_, World.drewN_drewN _ _ _⟩ | (simp only [World.drewN_drewN]; exact ⟨_, rfl⟩))⟩
      case measure => simp [intOf]; omega
    · obtain rfl : k = g.length := by omega
      go_wp2_with fail
      go_ret
      exact Quiet.ofD rfl (by first | exact ⟨0, rfl⟩ | exact ⟨_, rfl⟩ | exact ⟨_, World.drewN_drewN _ _ _⟩ | (simp only [World.drewN_drewN]; exact ⟨_, rfl⟩))

end Go.Proofs.Ytjojilimdhekfaa
