/- Texts in one: MixS, MixT, MixU, Mone, Mind. -/
import Derived.Test.YtakkdpjgdmngkaaMB
import Derived.Test.YtakkdpjgdmngkaaMA
import Derived.Test.YtakkdpjgdmngkaaMC
import Derived.Deep.RegionHeld3
import Derived.Test.YtakkdpjgdmngkaaMH
namespace Go.Proofs.Ytakkdpjgdmngkaa
set_option linter.unusedSimpArgs false
set_option linter.unusedVariables false
open Go.RowKit

theorem inR_w (n : Int) : inR n 0 100000 = wB n := by simp [inR, wB]

set_option maxHeartbeats 1000000 in
theorem mixOk_spec (A : Option Addr) (c : Nat) (l : List Int) (many : Int) (S : Nat → Prop) (hl : l.length ≤ 4294967296) (w : World) (h : Ints w S A l) :
    Calls Try.prog 85 #[.slice A l.length c, .int .i64 many] w (Same (.bool (mixB l many)) w) := by
  have HH := Lib.hid h
  clear h
  go_enter Try.func85, Try.ntmps85
  go_wp2_with fail
  go_loop [5, 6] (fun v i => ∃ k : Nat, k ≤ l.length ∧ i = .int .i64 k ∧ v = .int .i64 (sumW l k) ∧ Hid (wsB l k = true)) (fun _ i => l.length - (intOf i).toNat)
  case atStart => exact ⟨0, Nat.zero_le _, rfl, rfl, rfl⟩
  case round =>
    obtain ⟨k, hk, rfl, rfl, H⟩ := hrel
    obtain ⟨b1, b2⟩ := sumW_bd l k (wsB_iff.1 H.out)
    by_cases hlt : k < l.length
    · obtain ⟨b, off, rfl, hS, hc⟩ := HH.out.at_ hlt
      have hck := hc k hlt
      clear hc
      rcases h3 : wB (nth l k) with _ | _
      · have hno : Hid (mixB l many = false) := by simp [Hid, mixB, wsB_no h3 hlt]
        have H3 := Lib.hid h3
        clear h3
        go_wp2_with (go_at_call 41; refine (in_spec _ _ _ _).mono ?_; rintro e w1 ⟨rfl, rfl⟩; rw [inR_w, H3.out])
        go_ret
        exact Same.of (by rw [hno.out]; rfl)
      · have hy : Hid (wsB l (k + 1) = true) := by show (wsB _ k && _) = true; rw [H.out, h3]; rfl
        have hw := wB_iff.1 h3
        obtain ⟨hw1, hw2⟩ := hw
        have H3 := Lib.hid h3
        clear h3
        go_wp2_with (go_at_call 41; refine (in_spec _ _ _ _).mono ?_; rintro e w1 ⟨rfl, rfl⟩; rw [inR_w, H3.out])
        go_round
        case rel => exact ⟨k + 1, by omega, by go_num, rfl, hy⟩
        case measure => simp [intOf]; omega
    · obtain rfl : k = l.length := by omega
      rcases h4 : inR many 1 16 with _ | _
      · have hno : Hid (mixB l many = false) := by simp [Hid, mixB, h4]
        have H4 := Lib.hid h4
        clear h4
        go_wp2_with (go_at_call 41; refine (in_spec _ _ _ _).mono ?_; rintro e w1 ⟨rfl, rfl⟩; rw [H4.out])
        go_ret
        exact Same.of (by rw [hno.out]; rfl)
      · rcases h5 : ((l.length : Int) == many) with _ | _
        · have hno : Hid (mixB l many = false) := by simp only [Hid, mixB, h5]; simp
          have H4 := Lib.hid h4
          clear h4
          go_wp2_with (go_at_call 41; refine (in_spec _ _ _ _).mono ?_; rintro e w1 ⟨rfl, rfl⟩; rw [H4.out])
          go_ret
          exact Same.of (by rw [hno.out]; rfl)
        · have hy : Hid (mixB l many = decide (0 < sumW l l.length)) := by show mixB l many = _; simp only [mixB, H.out, h4, h5]; simp
          have H4 := Lib.hid h4
          clear h4
          go_wp2_with (go_at_call 41; refine (in_spec _ _ _ _).mono ?_; rintro e w1 ⟨rfl, rfl⟩; rw [H4.out])
          all_goals
            go_ret
            exact Same.of (by rw [hy.out]; simp)

set_option maxHeartbeats 1000000 in
theorem l3Sum (A : Option Addr) (c : Nat) (l : List Int) (m : Nat) (S : Nat → Prop) (hx : Mix l m) (w : World) (h : Ints w S A l) :
    Calls Try.prog 87 #[.slice A l.length c] w (Same (.int .i64 (sumW l l.length)) w) := by
  have HH := Lib.hid h
  have hm := hx.hi
  have HL := Lib.hid hx.len
  have hl : l.length ≤ 16 := by rw [HL.out]; exact hm
  have hw : ∀ i, i < l.length → 0 ≤ nth l i ∧ nth l i ≤ 100000 := fun i hi => by rw [HL.out] at hi; exact ⟨hx.wlo i hi, hx.whi i hi⟩
  have HW := Lib.hid hw
  clear h hw hx
  go_enter Try.func87, Try.ntmps87
  go_wp2_with fail
  go_loop [3, 4] (fun v i => ∃ k : Nat, k ≤ l.length ∧ i = .int .i64 k ∧ v = .int .i64 (sumW l k)) (fun _ i => l.length - (intOf i).toNat)
  case atStart => exact ⟨0, Nat.zero_le _, rfl, rfl⟩
  case round =>
    obtain ⟨k, hk, rfl, rfl⟩ := hrel
    obtain ⟨b1, b2⟩ := sumW_bd l k (fun i hi => HW.out i (by omega))
    by_cases hlt : k < l.length
    · obtain ⟨b, off, rfl, hS, hc⟩ := HH.out.at_ hlt
      have hck := hc k hlt
      obtain ⟨hw1, hw2⟩ := HW.out k hlt
      clear hc
      go_wp2_with fail
      go_round
      case rel => exact ⟨k + 1, by omega, by go_num, rfl⟩
      case measure => simp [intOf]; omega
    · obtain rfl : k = l.length := by omega
      go_wp2_with fail
      go_ret
      exact Same.of rfl

set_option maxHeartbeats 1000000 in
theorem l3Row (T A : Option Addr) (c d : Nat) (g : List (List Int)) (y : List Int) (m : Nat) (S S' : Nat → Prop) (i : Nat) (hg : Game g m) (hy : Mix y m) (hi : i < g.length) (w : World) (h : Rows2 w S T g) (h' : Ints w S' A y) :
    Calls Try.prog 42 #[.slice T g.length c, .slice A y.length d, .int .i64 (i : Int)] w (Quiet (.int .i64 (rowD g y i)) w) := by
  have HL := Lib.hid hy.len
  have hm := hy.hi
  have hl : y.length ≤ 16 := by rw [HL.out]; exact hm
  have hgl := hg.hi
  obtain ⟨b, off, rfl⟩ := h.some (by omega)
  have HR := Lib.hid h
  have HY := Lib.hid h'
  have HG := Lib.hid hg
  have HM := Lib.hid hy
  clear h h' hg hy
  go_enter Try.func42, Try.ntmps42
  go_wp2_with fail
  go_loopw [7, 8] (fun v j wr => ∃ k : Nat, k ≤ y.length ∧ j = .int .i64 k ∧ v = .int .i64 (dotW y (rowAt g i) k) ∧ ∃ n, wr = w.drewN n) (fun _ j _ => y.length - (intOf j).toNat)
  case atStart => exact ⟨0, Nat.zero_le _, rfl, rfl, (by first | exact ⟨0, rfl⟩ | exact ⟨_, rfl⟩ | exact ⟨_, World.drewN_drewN _ _ _⟩ | (simp only [World.drewN_drewN]; exact ⟨_, rfl⟩))⟩
  case round =>
    obtain ⟨k, hk, rfl, rfl, n, rfl⟩ := hrel
    by_cases hlt : k < y.length
    · have hlm : k < m := by rw [← HL.out]; exact hlt
      have hlr : k < (rowAt g i).length := by rw [HG.out.len i hi]; exact hlm
      obtain ⟨bm, om, cm, hc1, hc2, hc3, hc4, hc5⟩ := HR.out.cell hi hlr
      unfold maxLen at hc3
      obtain ⟨by', oy, rfl, hSy, hcy⟩ := HY.out.at_ hlt
      have hcy := hcy k hlt
      obtain ⟨b1, b2⟩ := dotW_bd y (rowAt g i) 9 (by omega) k (fun j hj => ⟨HM.out.wlo j (by omega), HM.out.whi j (by omega)⟩) (fun j hj => ⟨HG.out.nlo i hi j (by omega), HG.out.nhi i hi j (by omega)⟩)
      obtain ⟨p1, p2⟩ := prod_bd (HM.out.wlo k hlm) (HM.out.whi k hlm) (HG.out.nlo i hi k hlm) (HG.out.nhi i hi k hlm) (by omega)
      have x1 : IntKind.i64.wrap (nth y k * nth (rowAt g i) k) = nth y k * nth (rowAt g i) k := IntWalk.i64_in _ (by omega)
      have x2 : IntKind.i64.wrap (dotW y (rowAt g i) k + nth y k * nth (rowAt g i) k) = dotW y (rowAt g i) k + nth y k * nth (rowAt g i) k := IntWalk.i64_in _ (by omega)
      have q1 : (i : Int) < (g.length : Int) := by omega
      have q2 : (k : Int) < (y.length : Int) := by omega
      have q3 : (k : Int) < ((rowAt g i).length : Int) := by omega
      have q4 : (0 : Int) ≤ (k : Int) := by omega
      have q5 : (0 : Int) ≤ (i : Int) := by omega
      go_wp2_with fail
      go_quiet (fail)
      clear x1 x2
      go_wp2_with fail
      go_roundw
      case rel => exact ⟨k + 1, by omega, by go_num, rfl, (by first | exact ⟨0, rfl⟩ | exact ⟨_, rfl⟩ | exact ⟨_, World.drewN_drewN _ _ _⟩ | (simp only [World.drewN_drewN]; exact ⟨_, rfl⟩))⟩
      case measure => simp [intOf]; omega
    · obtain rfl : k = y.length := by omega
      go_wp2_with fail
      go_ret
      exact Quiet.ofD rfl (by first | exact ⟨0, rfl⟩ | exact ⟨_, rfl⟩ | exact ⟨_, World.drewN_drewN _ _ _⟩ | (simp only [World.drewN_drewN]; exact ⟨_, rfl⟩))

set_option maxHeartbeats 1000000 in
theorem l3Column (T A : Option Addr) (c d : Nat) (g : List (List Int)) (x : List Int) (m : Nat) (S S' : Nat → Prop) (j : Nat) (hg : Game g m) (hx : Mix x g.length) (hj : j < m) (w : World) (h : Rows2 w S T g) (h' : Ints w S' A x) :
    Calls Try.prog 43 #[.slice T g.length c, .slice A x.length d, .int .i64 (j : Int)] w (Quiet (.int .i64 (colD g x j)) w) := by
  have HL := Lib.hid hx.len
  have hgl := hg.hi
  have hgl1 := hg.lo
  obtain ⟨b, off, rfl⟩ := h.some (by omega)
  have HR := Lib.hid h
  have HY := Lib.hid h'
  have HG := Lib.hid hg
  have HM := Lib.hid hx
  clear h h' hg hx
  go_enter Try.func43, Try.ntmps43
  go_wp2_with fail
  go_loopw [7, 8] (fun v i wr => ∃ k : Nat, k ≤ g.length ∧ i = .int .i64 k ∧ v = .int .i64 (dotW x (col g j) k) ∧ ∃ n, wr = w.drewN n) (fun _ i _ => g.length - (intOf i).toNat)
  case atStart => exact ⟨0, Nat.zero_le _, rfl, rfl, (by first | exact ⟨0, rfl⟩ | exact ⟨_, rfl⟩ | exact ⟨_, World.drewN_drewN _ _ _⟩ | (simp only [World.drewN_drewN]; exact ⟨_, rfl⟩))⟩
  case round =>
    obtain ⟨k, hk, rfl, rfl, n, rfl⟩ := hrel
    by_cases hlt : k < g.length
    · have hlr : j < (rowAt g k).length := by rw [HG.out.len k hlt]; exact hj
      have hlx : k < x.length := by rw [HL.out]; exact hlt
      obtain ⟨bm, om, cm, hc1, hc2, hc3, hc4, hc5⟩ := HR.out.cell hlt hlr
      unfold maxLen at hc3
      obtain ⟨by', oy, rfl, hSy, hcy⟩ := HY.out.at_ hlx
      have hcy := hcy k hlx
      obtain ⟨b1, b2⟩ := dotW_bd x (col g j) 9 (by omega) k (fun i hi => ⟨HM.out.wlo i (by omega), HM.out.whi i (by omega)⟩) (fun i hi => by rw [nth_col g j i (by omega)]; exact ⟨HG.out.nlo i (by omega) j hj, HG.out.nhi i (by omega) j hj⟩)
      obtain ⟨p1, p2⟩ := prod_bd (HM.out.wlo k hlt) (HM.out.whi k hlt) (HG.out.nlo k hlt j hj) (HG.out.nhi k hlt j hj) (by omega)
      have HD : Hid (dotW x (col g j) (k + 1) = dotW x (col g j) k + nth x k * nth (rowAt g k) j) := by show dotW _ _ k + _ = _; rw [nth_col g j k hlt]
      have x1 : IntKind.i64.wrap (nth x k * nth (rowAt g k) j) = nth x k * nth (rowAt g k) j := IntWalk.i64_in _ (by omega)
      have x2 : IntKind.i64.wrap (dotW x (col g j) k + nth x k * nth (rowAt g k) j) = dotW x (col g j) k + nth x k * nth (rowAt g k) j := IntWalk.i64_in _ (by omega)
      have q1 : (k : Int) < (g.length : Int) := by omega
      have q2 : (k : Int) < (x.length : Int) := by omega
      have q3 : (j : Int) < ((rowAt g k).length : Int) := by omega
      have q4 : (0 : Int) ≤ (k : Int) := by omega
      have q5 : (0 : Int) ≤ (j : Int) := by omega
      go_wp2_with fail
      go_quiet (fail)
      clear x1 x2
      go_wp2_with fail
      go_roundw
      case rel => exact ⟨k + 1, by omega, by go_num, by rw [HD.out], (by first | exact ⟨0, rfl⟩ | exact ⟨_, rfl⟩ | exact ⟨_, World.drewN_drewN _ _ _⟩ | (simp only [World.drewN_drewN]; exact ⟨_, rfl⟩))⟩
      case measure => simp [intOf]; omega
    · obtain rfl : k = g.length := by omega
      go_wp2_with fail
      go_ret
      exact Quiet.ofD rfl (by first | exact ⟨0, rfl⟩ | exact ⟨_, rfl⟩ | exact ⟨_, World.drewN_drewN _ _ _⟩ | (simp only [World.drewN_drewN]; exact ⟨_, rfl⟩))

end Go.Proofs.Ytakkdpjgdmngkaa

namespace Go.Proofs.Ytakkdpjgdmngkaa
set_option linter.unusedSimpArgs false
set_option linter.unusedVariables false
open Go.RowKit

/-- a fraction and a truth -/
abbrev FracRes (u d : Int) (b : Bool) : Value := .tuple #[.agg #[.int .i64 u, .int .i64 d], .bool b]

set_option maxHeartbeats 2000000 in
theorem safe_spec (T A : Option Addr) (c d : Nat) (g : List (List Int)) (x : List Int) (hl : g.length ≤ maxLen) (hx : x.length ≤ 4294967296) (w : World) (h : Rows2 w (· < w.heap.size) T g) (h' : Ints w (· < w.heap.size) A x) :
    Calls Try.prog 58 #[.slice T g.length c, .slice A x.length d] w (Adds (FracRes (safU g x) (safD g x) (safB g x)) w) := by
  rcases hB : safB g x with _ | _
  · have HU : Hid (safU g x = 0) := by simp [Hid, safU, hB]
    have HD : Hid (safD g x = 0) := by simp [Hid, safD, hB]
    have HB := Lib.hid hB
    rcases hb : gameB g with _ | _
    · have HG := Lib.hid hb
      have HR := Lib.hid h
      clear hb hB h
      go_enter Try.func58, Try.ntmps58
      go_wp2_with fail
      obtain ⟨W, hW⟩ : ∃ W : World, W = (w.alloc (.cells #[(Value.int .i64 0), (Value.int .i64 0)] 34)) := ⟨_, rfl⟩
      have hzW : W.heap.size = w.heap.size + 1 := by rw [hW]; simp
      have hbW : Below w.heap.size w W := by rw [hW]; exact (by repeat (first | exact Below.refl _ _ | assumption | exact bel1 (by assumption) | exact bel2 (by assumption) | exact bel3 (by assumption) | exact bel4 (by assumption) | refine Below.drew ?_ | refine below_drewN ?_ _ | refine Below.setCell ?_ (by first | (simp; done) | (simp; omega)) _ | refine Below.alloc ?_ (by first | (simp; done) | (simp; omega)) _))
      have r00 := stays (p := w.heap.size) (o := 0) (by omega) (show W.cell? ⟨w.heap.size, 0, none⟩ = some ((Value.int .i64 0)) from by rw [hW]; simp [go_sem])
      have g00 := staysF (p := w.heap.size) (o := 0) (by omega) (show W.frozen? ⟨w.heap.size, 0, none⟩ = false from by rw [hW]; simp [go_sem])
      have r01 := stays (p := w.heap.size) (o := 1) (by omega) (show W.cell? ⟨w.heap.size, 1, none⟩ = some ((Value.int .i64 0)) from by rw [hW]; simp [go_sem])
      have g01 := staysF (p := w.heap.size) (o := 1) (by omega) (show W.frozen? ⟨w.heap.size, 1, none⟩ = false from by rw [hW]; simp [go_sem])
      rw [← hW]
      clear hW
      have HzW := Lib.hid hzW
      clear hzW
      refine (game_spec _ _ _ _ hl _ (keepRows hbW HR.out)).mono ?_
      rintro e w1 ⟨rfl, n1, rfl⟩
      rw [HG.out]
      have hk : Below W.heap.size W (W.drewN n1) := below_drewN (Below.refl _ _) n1
      go_wp2_with fail
      refine bodyPost_ret (v := .tuple #[.agg #[.int .i64 0, .int .i64 0], .bool false]) (by simp [results, Try.results58, go_sem, r00 _ hk, r01 _ hk]) rfl ⟨by rw [HU.out, HD.out]; try rfl, ?_⟩
      exact ((below_drewN hbW n1).setCell (Nat.le_refl _) _).setCell (Nat.le_refl _) _
    · have hm : mixB x (g.length : Int) = false := by simpa [safB, hb] using hB
      have hg := Game.of hb
      have hg1 := hg.lo
      obtain ⟨bt, ot, rfl⟩ := h.some (by omega)
      have HG := Lib.hid hb
      have HMX := Lib.hid hm
      have HR := Lib.hid h
      have HX := Lib.hid h'
      clear hb hB h hm h' hg
      go_enter Try.func58, Try.ntmps58
      go_wp2_with fail
      obtain ⟨W, hW⟩ : ∃ W : World, W = (w.alloc (.cells #[(Value.int .i64 0), (Value.int .i64 0)] 34)) := ⟨_, rfl⟩
      have hzW : W.heap.size = w.heap.size + 1 := by rw [hW]; simp
      have hbW : Below w.heap.size w W := by rw [hW]; exact (by repeat (first | exact Below.refl _ _ | assumption | exact bel1 (by assumption) | exact bel2 (by assumption) | exact bel3 (by assumption) | exact bel4 (by assumption) | refine Below.drew ?_ | refine below_drewN ?_ _ | refine Below.setCell ?_ (by first | (simp; done) | (simp; omega)) _ | refine Below.alloc ?_ (by first | (simp; done) | (simp; omega)) _))
      have r00 := stays (p := w.heap.size) (o := 0) (by omega) (show W.cell? ⟨w.heap.size, 0, none⟩ = some ((Value.int .i64 0)) from by rw [hW]; simp [go_sem])
      have g00 := staysF (p := w.heap.size) (o := 0) (by omega) (show W.frozen? ⟨w.heap.size, 0, none⟩ = false from by rw [hW]; simp [go_sem])
      have r01 := stays (p := w.heap.size) (o := 1) (by omega) (show W.cell? ⟨w.heap.size, 1, none⟩ = some ((Value.int .i64 0)) from by rw [hW]; simp [go_sem])
      have g01 := staysF (p := w.heap.size) (o := 1) (by omega) (show W.frozen? ⟨w.heap.size, 1, none⟩ = false from by rw [hW]; simp [go_sem])
      rw [← hW]
      clear hW
      have HzW := Lib.hid hzW
      clear hzW
      have RW := Lib.hid (keepRows hbW HR.out)
      obtain ⟨hS, A0, c0, hc0, hl0, hm0, _⟩ := RW.out.row (i := 0) (by omega)
      rw [Nat.add_zero] at hc0
      unfold maxLen at hm0
      refine (game_spec _ _ _ _ hl _ RW.out).mono ?_
      rintro e w1 ⟨rfl, n1, rfl⟩
      rw [HG.out]
      have hk : Below W.heap.size W (W.drewN n1) := below_drewN (Below.refl _ _) n1
      go_wp2_with fail
      refine (mixOk_spec _ _ x _ _ hx _ ((keepInts hbW HX.out).drewN n1)).mono ?_
      rintro e w1 ⟨rfl, rfl⟩
      rw [HMX.out]
      go_wp2_with fail
      refine bodyPost_ret (v := .tuple #[.agg #[.int .i64 0, .int .i64 0], .bool false]) (by simp [results, Try.results58, go_sem, r00 _ hk, r01 _ hk]) rfl ⟨by rw [HU.out, HD.out]; try rfl, ?_⟩
      exact ((below_drewN hbW n1).setCell (Nat.le_refl _) _).setCell (Nat.le_refl _) _
  obtain ⟨hb, hB2⟩ : gameB g = true ∧ mixB x (g.length : Int) = true := by simpa [safB] using hB
  have hg := Game.of hb
  have hmx : mixB x (g.length : Int) = true := hB2
  have hx0 := Mix.of hmx
  have hg1 := hg.lo
  have hg2 := hg.hi
  have hg3 := hg.mlo
  have hg4 := hg.mhi
  obtain ⟨bd1, bd2⟩ := safeN_bd hg hx0
  obtain ⟨sb1, sb2⟩ := hx0.sum_bd
  rw [← hx0.len] at sb1 sb2
  have HU : Hid (safU g x = lowU (safeN g x) (sumW x x.length)) := by simp [Hid, safU, hB]
  have HD : Hid (safD g x = lowD (safeN g x) (sumW x x.length)) := by simp [Hid, safD, hB]
  have HB := Lib.hid hB
  have HGB := Lib.hid hb
  have HMB := Lib.hid hmx
  have HM := Lib.hid hx0
  obtain ⟨bt, ot, rfl⟩ := h.some (by omega)
  have HR := Lib.hid h
  have HX := Lib.hid h'
  have HG := Lib.hid hg
  have HN : Hid (safeN g x = lowN (colsD g x) ((rowAt g 0).length)) := rfl
  clear hb hB hB2 h h' hg hmx hx0
  go_enter Try.func58, Try.ntmps58
  go_wp2_with fail
  obtain ⟨W, hW⟩ : ∃ W : World, W = (w.alloc (.cells #[(Value.int .i64 0), (Value.int .i64 0)] 34)) := ⟨_, rfl⟩
  have hzW : W.heap.size = w.heap.size + 1 := by rw [hW]; simp
  have hbW : Below w.heap.size w W := by rw [hW]; exact (by repeat (first | exact Below.refl _ _ | assumption | exact bel1 (by assumption) | exact bel2 (by assumption) | exact bel3 (by assumption) | exact bel4 (by assumption) | refine Below.drew ?_ | refine below_drewN ?_ _ | refine Below.setCell ?_ (by first | (simp; done) | (simp; omega)) _ | refine Below.alloc ?_ (by first | (simp; done) | (simp; omega)) _))
  have r00 := stays (p := w.heap.size) (o := 0) (by omega) (show W.cell? ⟨w.heap.size, 0, none⟩ = some ((Value.int .i64 0)) from by rw [hW]; simp [go_sem])
  have g00 := staysF (p := w.heap.size) (o := 0) (by omega) (show W.frozen? ⟨w.heap.size, 0, none⟩ = false from by rw [hW]; simp [go_sem])
  have r01 := stays (p := w.heap.size) (o := 1) (by omega) (show W.cell? ⟨w.heap.size, 1, none⟩ = some ((Value.int .i64 0)) from by rw [hW]; simp [go_sem])
  have g01 := staysF (p := w.heap.size) (o := 1) (by omega) (show W.frozen? ⟨w.heap.size, 1, none⟩ = false from by rw [hW]; simp [go_sem])
  rw [← hW]
  clear hW
  have HzW := Lib.hid hzW
  clear hzW
  have RW := Lib.hid (keepRows hbW HR.out)
  have XW := Lib.hid (keepInts hbW HX.out)
  obtain ⟨hS, A0, c0, hc0, hl0, hm0, _⟩ := RW.out.row (i := 0) (by omega)
  rw [Nat.add_zero] at hc0
  unfold maxLen at hm0
  refine (game_spec _ _ _ _ hl _ RW.out).mono ?_
  rintro e w1 ⟨rfl, n1, rfl⟩
  rw [HGB.out]
  go_wp2_with fail
  refine (mixOk_spec _ _ x _ _ hx _ (XW.out.drewN n1)).mono ?_
  rintro e w1 ⟨rfl, rfl⟩
  rw [HMB.out]
  go_wp2_with fail
  refine (l3Column _ _ _ _ g x _ _ _ 0 HG.out HM.out (by omega) _ (RW.out.drewN n1) (XW.out.drewN n1)).mono ?_
  rintro e w1 ⟨rfl, n2, rfl⟩
  go_wp2_with fail
  go_loopw [6, 7] (fun v j wr => ∃ k : Nat, 1 ≤ k ∧ k ≤ (rowAt g 0).length ∧ j = .int .i64 k ∧ v = .int .i64 (lowN (colsD g x) k) ∧ ∃ n, wr = W.drewN n) (fun _ j _ => (rowAt g 0).length - (intOf j).toNat)
  case atStart => exact ⟨1, Nat.le_refl _, by omega, rfl, by rw [lowN_one, nth_colsD g x _ (by omega)], (by first | exact ⟨0, rfl⟩ | exact ⟨_, rfl⟩ | exact ⟨_, World.drewN_drewN _ _ _⟩ | (simp only [World.drewN_drewN]; exact ⟨_, rfl⟩))⟩
  case round =>
    obtain ⟨k, hk1, hk, rfl, rfl, n, rfl⟩ := hrel
    by_cases hlt : k < (rowAt g 0).length
    · have HS : Hid (lowN (colsD g x) (k + 1) = min (lowN (colsD g x) k) (colD g x k)) := by show _ = _; simp only [lowN]; rw [nth_colsD g x k hlt]
      go_wp2_with fail
      refine (l3Column _ _ _ _ g x _ _ _ k HG.out HM.out hlt _ (RW.out.drewN n) (XW.out.drewN n)).mono ?_
      rintro e w1 ⟨rfl, n3, rfl⟩
      go_wp2_with fail
      all_goals
        go_roundw
        case rel => exact ⟨k + 1, by omega, by omega, by go_num, by rw [HS.out]; congr 1; omega, (by first | exact ⟨0, rfl⟩ | exact ⟨_, rfl⟩ | exact ⟨_, World.drewN_drewN _ _ _⟩ | (simp only [World.drewN_drewN]; exact ⟨_, rfl⟩))⟩
        case measure => simp [intOf]; omega
    · obtain rfl : k = (rowAt g 0).length := by omega
      rw [← HN.out]
      go_wp2_with fail
      refine (l3Sum _ _ x _ _ HM.out _ (XW.out.drewN n)).mono ?_
      rintro e w1 ⟨rfl, rfl⟩
      go_wp2_with fail
      refine (l1frac _ _ (by omega) (by omega) (by omega) (by omega) (by omega) _).mono ?_
      rintro e w5 ⟨rfl, hb5⟩
      have hk5 : Below W.heap.size W w5 := belT (below_drewN (Below.refl _ _) n) hb5
      clear hb5
      go_wp2_with fail
      refine bodyPost_ret (v := .tuple #[.agg #[.int .i64 (lowU (safeN g x) (sumW x x.length)), .int .i64 (lowD (safeN g x) (sumW x x.length))], .bool true]) (by simp [results, Try.results58, go_sem, r00 _ hk5, r01 _ hk5]) rfl ⟨by rw [HU.out, HD.out]; try rfl, ?_⟩
      exact ((belT hbW hk5).setCell (Nat.le_refl _) _).setCell (Nat.le_refl _) _

set_option maxHeartbeats 2000000 in
theorem risk_spec (T A : Option Addr) (c d : Nat) (g : List (List Int)) (y : List Int) (hl : g.length ≤ maxLen) (hx : y.length ≤ 4294967296) (w : World) (h : Rows2 w (· < w.heap.size) T g) (h' : Ints w (· < w.heap.size) A y) :
    Calls Try.prog 59 #[.slice T g.length c, .slice A y.length d] w (Adds (FracRes (risU g y) (risD g y) (risB g y)) w) := by
  rcases hB : risB g y with _ | _
  · have HU : Hid (risU g y = 0) := by simp [Hid, risU, hB]
    have HD : Hid (risD g y = 0) := by simp [Hid, risD, hB]
    have HB := Lib.hid hB
    rcases hb : gameB g with _ | _
    · have HG := Lib.hid hb
      have HR := Lib.hid h
      clear hb hB h
      go_enter Try.func59, Try.ntmps59
      go_wp2_with fail
      obtain ⟨W, hW⟩ : ∃ W : World, W = (w.alloc (.cells #[(Value.int .i64 0), (Value.int .i64 0)] 34)) := ⟨_, rfl⟩
      have hzW : W.heap.size = w.heap.size + 1 := by rw [hW]; simp
      have hbW : Below w.heap.size w W := by rw [hW]; exact (by repeat (first | exact Below.refl _ _ | assumption | exact bel1 (by assumption) | exact bel2 (by assumption) | exact bel3 (by assumption) | exact bel4 (by assumption) | refine Below.drew ?_ | refine below_drewN ?_ _ | refine Below.setCell ?_ (by first | (simp; done) | (simp; omega)) _ | refine Below.alloc ?_ (by first | (simp; done) | (simp; omega)) _))
      have r00 := stays (p := w.heap.size) (o := 0) (by omega) (show W.cell? ⟨w.heap.size, 0, none⟩ = some ((Value.int .i64 0)) from by rw [hW]; simp [go_sem])
      have g00 := staysF (p := w.heap.size) (o := 0) (by omega) (show W.frozen? ⟨w.heap.size, 0, none⟩ = false from by rw [hW]; simp [go_sem])
      have r01 := stays (p := w.heap.size) (o := 1) (by omega) (show W.cell? ⟨w.heap.size, 1, none⟩ = some ((Value.int .i64 0)) from by rw [hW]; simp [go_sem])
      have g01 := staysF (p := w.heap.size) (o := 1) (by omega) (show W.frozen? ⟨w.heap.size, 1, none⟩ = false from by rw [hW]; simp [go_sem])
      rw [← hW]
      clear hW
      have HzW := Lib.hid hzW
      clear hzW
      refine (game_spec _ _ _ _ hl _ (keepRows hbW HR.out)).mono ?_
      rintro e w1 ⟨rfl, n1, rfl⟩
      rw [HG.out]
      have hk : Below W.heap.size W (W.drewN n1) := below_drewN (Below.refl _ _) n1
      go_wp2_with fail
      refine bodyPost_ret (v := .tuple #[.agg #[.int .i64 0, .int .i64 0], .bool false]) (by simp [results, Try.results59, go_sem, r00 _ hk, r01 _ hk]) rfl ⟨by rw [HU.out, HD.out]; try rfl, ?_⟩
      exact ((below_drewN hbW n1).setCell (Nat.le_refl _) _).setCell (Nat.le_refl _) _
    · have hm : mixB y ((rowAt g 0).length : Int) = false := by simpa [risB, hb] using hB
      have hg := Game.of hb
      have hg1 := hg.lo
      obtain ⟨bt, ot, rfl⟩ := h.some (by omega)
      have HG := Lib.hid hb
      have HMX := Lib.hid hm
      have HR := Lib.hid h
      have HX := Lib.hid h'
      clear hb hB h hm h' hg
      go_enter Try.func59, Try.ntmps59
      go_wp2_with fail
      obtain ⟨W, hW⟩ : ∃ W : World, W = (w.alloc (.cells #[(Value.int .i64 0), (Value.int .i64 0)] 34)) := ⟨_, rfl⟩
      have hzW : W.heap.size = w.heap.size + 1 := by rw [hW]; simp
      have hbW : Below w.heap.size w W := by rw [hW]; exact (by repeat (first | exact Below.refl _ _ | assumption | exact bel1 (by assumption) | exact bel2 (by assumption) | exact bel3 (by assumption) | exact bel4 (by assumption) | refine Below.drew ?_ | refine below_drewN ?_ _ | refine Below.setCell ?_ (by first | (simp; done) | (simp; omega)) _ | refine Below.alloc ?_ (by first | (simp; done) | (simp; omega)) _))
      have r00 := stays (p := w.heap.size) (o := 0) (by omega) (show W.cell? ⟨w.heap.size, 0, none⟩ = some ((Value.int .i64 0)) from by rw [hW]; simp [go_sem])
      have g00 := staysF (p := w.heap.size) (o := 0) (by omega) (show W.frozen? ⟨w.heap.size, 0, none⟩ = false from by rw [hW]; simp [go_sem])
      have r01 := stays (p := w.heap.size) (o := 1) (by omega) (show W.cell? ⟨w.heap.size, 1, none⟩ = some ((Value.int .i64 0)) from by rw [hW]; simp [go_sem])
      have g01 := staysF (p := w.heap.size) (o := 1) (by omega) (show W.frozen? ⟨w.heap.size, 1, none⟩ = false from by rw [hW]; simp [go_sem])
      rw [← hW]
      clear hW
      have HzW := Lib.hid hzW
      clear hzW
      have RW := Lib.hid (keepRows hbW HR.out)
      obtain ⟨hS, A0, c0, hc0, hl0, hm0, _⟩ := RW.out.row (i := 0) (by omega)
      rw [Nat.add_zero] at hc0
      unfold maxLen at hm0
      refine (game_spec _ _ _ _ hl _ RW.out).mono ?_
      rintro e w1 ⟨rfl, n1, rfl⟩
      rw [HG.out]
      have hk : Below W.heap.size W (W.drewN n1) := below_drewN (Below.refl _ _) n1
      go_wp2_with fail
      refine (mixOk_spec _ _ y _ _ hx _ ((keepInts hbW HX.out).drewN n1)).mono ?_
      rintro e w1 ⟨rfl, rfl⟩
      rw [HMX.out]
      go_wp2_with fail
      refine bodyPost_ret (v := .tuple #[.agg #[.int .i64 0, .int .i64 0], .bool false]) (by simp [results, Try.results59, go_sem, r00 _ hk, r01 _ hk]) rfl ⟨by rw [HU.out, HD.out]; try rfl, ?_⟩
      exact ((below_drewN hbW n1).setCell (Nat.le_refl _) _).setCell (Nat.le_refl _) _
  obtain ⟨hb, hB2⟩ : gameB g = true ∧ mixB y ((rowAt g 0).length : Int) = true := by simpa [risB] using hB
  have hg := Game.of hb
  have hmx : mixB y ((rowAt g 0).length : Int) = true := hB2
  have hx0 := Mix.of hmx
  have hg1 := hg.lo
  have hg2 := hg.hi
  have hg3 := hg.mlo
  have hg4 := hg.mhi
  obtain ⟨bd1, bd2⟩ := riskN_bd hg hx0
  obtain ⟨sb1, sb2⟩ := hx0.sum_bd
  rw [← hx0.len] at sb1 sb2
  have HU : Hid (risU g y = lowU (riskN g y) (sumW y y.length)) := by simp [Hid, risU, hB]
  have HD : Hid (risD g y = lowD (riskN g y) (sumW y y.length)) := by simp [Hid, risD, hB]
  have HB := Lib.hid hB
  have HGB := Lib.hid hb
  have HMB := Lib.hid hmx
  have HM := Lib.hid hx0
  obtain ⟨bt, ot, rfl⟩ := h.some (by omega)
  have HR := Lib.hid h
  have HX := Lib.hid h'
  have HG := Lib.hid hg
  have HN : Hid (riskN g y = highN (rowsD g y) (g.length)) := rfl
  clear hb hB hB2 h h' hg hmx hx0
  go_enter Try.func59, Try.ntmps59
  go_wp2_with fail
  obtain ⟨W, hW⟩ : ∃ W : World, W = (w.alloc (.cells #[(Value.int .i64 0), (Value.int .i64 0)] 34)) := ⟨_, rfl⟩
  have hzW : W.heap.size = w.heap.size + 1 := by rw [hW]; simp
  have hbW : Below w.heap.size w W := by rw [hW]; exact (by repeat (first | exact Below.refl _ _ | assumption | exact bel1 (by assumption) | exact bel2 (by assumption) | exact bel3 (by assumption) | exact bel4 (by assumption) | refine Below.drew ?_ | refine below_drewN ?_ _ | refine Below.setCell ?_ (by first | (simp; done) | (simp; omega)) _ | refine Below.alloc ?_ (by first | (simp; done) | (simp; omega)) _))
  have r00 := stays (p := w.heap.size) (o := 0) (by omega) (show W.cell? ⟨w.heap.size, 0, none⟩ = some ((Value.int .i64 0)) from by rw [hW]; simp [go_sem])
  have g00 := staysF (p := w.heap.size) (o := 0) (by omega) (show W.frozen? ⟨w.heap.size, 0, none⟩ = false from by rw [hW]; simp [go_sem])
  have r01 := stays (p := w.heap.size) (o := 1) (by omega) (show W.cell? ⟨w.heap.size, 1, none⟩ = some ((Value.int .i64 0)) from by rw [hW]; simp [go_sem])
  have g01 := staysF (p := w.heap.size) (o := 1) (by omega) (show W.frozen? ⟨w.heap.size, 1, none⟩ = false from by rw [hW]; simp [go_sem])
  rw [← hW]
  clear hW
  have HzW := Lib.hid hzW
  clear hzW
  have RW := Lib.hid (keepRows hbW HR.out)
  have XW := Lib.hid (keepInts hbW HX.out)
  obtain ⟨hS, A0, c0, hc0, hl0, hm0, _⟩ := RW.out.row (i := 0) (by omega)
  rw [Nat.add_zero] at hc0
  unfold maxLen at hm0
  refine (game_spec _ _ _ _ hl _ RW.out).mono ?_
  rintro e w1 ⟨rfl, n1, rfl⟩
  rw [HGB.out]
  go_wp2_with fail
  refine (mixOk_spec _ _ y _ _ hx _ (XW.out.drewN n1)).mono ?_
  rintro e w1 ⟨rfl, rfl⟩
  rw [HMB.out]
  go_wp2_with fail
  refine (l3Row _ _ _ _ g y _ _ _ 0 HG.out HM.out (by omega) _ (RW.out.drewN n1) (XW.out.drewN n1)).mono ?_
  rintro e w1 ⟨rfl, n2, rfl⟩
  go_wp2_with fail
  go_loopw [6, 7] (fun v j wr => ∃ k : Nat, 1 ≤ k ∧ k ≤ g.length ∧ j = .int .i64 k ∧ v = .int .i64 (highN (rowsD g y) k) ∧ ∃ n, wr = W.drewN n) (fun _ j _ => g.length - (intOf j).toNat)
  case atStart => exact ⟨1, Nat.le_refl _, by omega, rfl, by rw [highN_one, nth_rowsD g y _ (by omega)], (by first | exact ⟨0, rfl⟩ | exact ⟨_, rfl⟩ | exact ⟨_, World.drewN_drewN _ _ _⟩ | (simp only [World.drewN_drewN]; exact ⟨_, rfl⟩))⟩
  case round =>
    obtain ⟨k, hk1, hk, rfl, rfl, n, rfl⟩ := hrel
    by_cases hlt : k < g.length
    · have HS : Hid (highN (rowsD g y) (k + 1) = max (highN (rowsD g y) k) (rowD g y k)) := by show _ = _; simp only [highN]; rw [nth_rowsD g y k hlt]
      go_wp2_with fail
      refine (l3Row _ _ _ _ g y _ _ _ k HG.out HM.out hlt _ (RW.out.drewN n) (XW.out.drewN n)).mono ?_
      rintro e w1 ⟨rfl, n3, rfl⟩
      go_wp2_with fail
      all_goals
        go_roundw
        case rel => exact ⟨k + 1, by omega, by omega, by go_num, by rw [HS.out]; congr 1; omega, (by first | exact ⟨0, rfl⟩ | exact ⟨_, rfl⟩ | exact ⟨_, World.drewN_drewN _ _ _⟩ | (simp only [World.drewN_drewN]; exact ⟨_, rfl⟩))⟩
        case measure => simp [intOf]; omega
    · obtain rfl : k = g.length := by omega
      rw [← HN.out]
      go_wp2_with fail
      refine (l3Sum _ _ y _ _ HM.out _ (XW.out.drewN n)).mono ?_
      rintro e w1 ⟨rfl, rfl⟩
      go_wp2_with fail
      refine (l1frac _ _ (by omega) (by omega) (by omega) (by omega) (by omega) _).mono ?_
      rintro e w5 ⟨rfl, hb5⟩
      have hk5 : Below W.heap.size W w5 := belT (below_drewN (Below.refl _ _) n) hb5
      clear hb5
      go_wp2_with fail
      refine bodyPost_ret (v := .tuple #[.agg #[.int .i64 (lowU (riskN g y) (sumW y y.length)), .int .i64 (lowD (riskN g y) (sumW y y.length))], .bool true]) (by simp [results, Try.results59, go_sem, r00 _ hk5, r01 _ hk5]) rfl ⟨by rw [HU.out, HD.out]; try rfl, ?_⟩
      exact ((belT hbW hk5).setCell (Nat.le_refl _) _).setCell (Nat.le_refl _) _

end Go.Proofs.Ytakkdpjgdmngkaa

namespace Go.Proofs.Ytakkdpjgdmngkaa
set_option linter.unusedSimpArgs false
set_option linter.unusedVariables false
open Go.RowKit

/-- a list that grows lies in no block of fractions -/
theorem Grows.ne {w : World} {base B N : Nat} {v : Value} {l : List Int} {f : Nat → Value} (h : Grows w base v l) (h' : w.rowIs B 34 N f) : v.ownBlock ≠ some B := by
  obtain ⟨_, ⟨rfl, _⟩ | ⟨b, cap, cur, rfl, _, h4, _⟩⟩ := h
  · simp [Value.ownBlock]
  · intro e
    simp [Value.ownBlock] at e
    subst e
    obtain ⟨c', h2, _, _⟩ := h'
    rw [h4] at h2
    injection h2 with h2
    injection h2 with _ e
    exact absurd e (by decide)

end Go.Proofs.Ytakkdpjgdmngkaa

namespace Go.Proofs.Ytakkdpjgdmngkaa
set_option linter.unusedSimpArgs false
set_option linter.unusedVariables false



end Go.Proofs.Ytakkdpjgdmngkaa

namespace Go.Proofs.Ytakkdpjgdmngkaa
set_option linter.unusedSimpArgs false
set_option linter.unusedVariables false



end Go.Proofs.Ytakkdpjgdmngkaa
