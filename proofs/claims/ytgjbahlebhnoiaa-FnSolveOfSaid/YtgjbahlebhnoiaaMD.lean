/- Texts in one: MixS, MixT, MixU, Mone, Mind. -/
import Derived.Test.YtgjbahlebhnoiaaMB
import Derived.Test.YtgjbahlebhnoiaaMA
import Derived.Test.YtgjbahlebhnoiaaMC
import Derived.Deep.RegionHeld3
import Derived.Test.YtgjbahlebhnoiaaMH
namespace Go.Proofs.Ytgjbahlebhnoiaa
set_option linter.unusedSimpArgs false
set_option linter.unusedVariables false
open Go.RowKit

theorem inR_w (n : Int) : inR n 0 100000 = wB n := by simp [inR, wB]

set_option maxHeartbeats 1000000 in
theorem mixOk_spec (A : Option Addr) (c : Nat) (l : List Int) (many : Int) (S : Nat → Prop) (hl : l.length ≤ 4294967296) (w : World) (h : Ints w S A l) :
    Calls Try.prog 109 #[.slice A l.length c, .int .i64 many] w (Same (.bool (mixB l many)) w) := by
  have HH := Lib.hid h
  clear h
  go_enter Try.func109, Try.ntmps109
  go_wp2_with fail
  go_loop [5, 6] (fun v i => ∃ k : Nat, k ≤ l.length ∧ i = .int .i64 k ∧ v = .int .i64 (sumW l k) ∧ Hid (wsB l k = true)) (fun _ i => l.length - (intOf i).toNat)
  case atStart => exact ⟨0, Nat.zero_le _, rfl, rfl, rfl⟩
  case round =>
    obtain ⟨k, hk, rfl, rfl, H⟩ := hrel
    obtain ⟨b1, b2⟩ := sumW_bd l k (wsB_iff.1 H.out)
    by_cases hlt : k < l.length
    · obtain ⟨b, off, rfl, hS, hc⟩ := HH.out.at_ hlt
      have hck := hc k hlt
      clear hc
      rcases h3 : wB (nth l k) with _ | _
      · have hno : Hid (mixB l many = false) := by simp [Hid, mixB, wsB_no h3 hlt]
        have H3 := Lib.hid h3
        clear h3
        go_wp2_with (go_at_call 64; refine (in_spec _ _ _ _).mono ?_; rintro e w1 ⟨rfl, rfl⟩; rw [inR_w, H3.out])
        go_ret
        exact Same.of (by rw [hno.out]; rfl)
      · have hy : Hid (wsB l (k + 1) = true) := by show (wsB _ k && _) = true; rw [H.out, h3]; rfl
        have hw := wB_iff.1 h3
        obtain ⟨hw1, hw2⟩ := hw
        have H3 := Lib.hid h3
        clear h3
        go_wp2_with (go_at_call 64; refine (in_spec _ _ _ _).mono ?_; rintro e w1 ⟨rfl, rfl⟩; rw [inR_w, H3.out])
        go_round
        case rel => exact ⟨k + 1, by omega, by go_num, rfl, hy⟩
        case measure => simp [intOf]; omega
    · obtain rfl : k = l.length := by omega
      rcases h4 : inR many 1 16 with _ | _
      · have hno : Hid (mixB l many = false) := by simp [Hid, mixB, h4]
        have H4 := Lib.hid h4
        clear h4
        go_wp2_with (go_at_call 64; refine (in_spec _ _ _ _).mono ?_; rintro e w1 ⟨rfl, rfl⟩; rw [H4.out])
        go_ret
        exact Same.of (by rw [hno.out]; rfl)
      · rcases h5 : ((l.length : Int) == many) with _ | _
        · have hno : Hid (mixB l many = false) := by simp only [Hid, mixB, h5]; simp
          have H4 := Lib.hid h4
          clear h4
          go_wp2_with (go_at_call 64; refine (in_spec _ _ _ _).mono ?_; rintro e w1 ⟨rfl, rfl⟩; rw [H4.out])
          go_ret
          exact Same.of (by rw [hno.out]; rfl)
        · have hy : Hid (mixB l many = decide (0 < sumW l l.length)) := by show mixB l many = _; simp only [mixB, H.out, h4, h5]; simp
          have H4 := Lib.hid h4
          clear h4
          go_wp2_with (go_at_call 64; refine (in_spec _ _ _ _).mono ?_; rintro e w1 ⟨rfl, rfl⟩; rw [H4.out])
          all_goals
            go_ret
            exact Same.of (by rw [hy.out]; simp)

set_option maxHeartbeats 1000000 in
theorem l3Sum (A : Option Addr) (c : Nat) (l : List Int) (m : Nat) (S : Nat → Prop) (hx : Mix l m) (w : World) (h : Ints w S A l) :
    Calls Try.prog 112 #[.slice A l.length c] w (Same (.int .i64 (sumW l l.length)) w) := by
  have HH := Lib.hid h
  have hm := hx.hi
  have HL := Lib.hid hx.len
  have hl : l.length ≤ 16 := by rw [HL.out]; exact hm
  have hw : ∀ i, i < l.length → 0 ≤ nth l i ∧ nth l i ≤ 100000 := fun i hi => by rw [HL.out] at hi; exact ⟨hx.wlo i hi, hx.whi i hi⟩
  have HW := Lib.hid hw
  clear h hw hx
  go_enter Try.func112, Try.ntmps112
  go_wp2_with fail
  go_loop [3, 4] (fun v i => ∃ k : Nat, k ≤ l.length ∧ i = .int .i64 k ∧ v = .int .i64 (sumW l k)) (fun _ i => l.length - (intOf i).toNat)
  case atStart => exact ⟨0, Nat.zero_le _, rfl, rfl⟩
  case round =>
    obtain ⟨k, hk, rfl, rfl⟩ := hrel
    obtain ⟨b1, b2⟩ := sumW_bd l k (fun i hi => HW.out i (by omega))
    by_cases hlt : k < l.length
    · obtain ⟨b, off, rfl, hS, hc⟩ := HH.out.at_ hlt
      have hck := hc k hlt
      obtain ⟨hw1, hw2⟩ := HW.out k hlt
      clear hc
      go_wp2_with fail
      go_round
      case rel => exact ⟨k + 1, by omega, by go_num, rfl⟩
      case measure => simp [intOf]; omega
    · obtain rfl : k = l.length := by omega
      go_wp2_with fail
      go_ret
      exact Same.of rfl

set_option maxHeartbeats 1000000 in
theorem l3Row (T A : Option Addr) (c d : Nat) (g : List (List Int)) (y : List Int) (m : Nat) (S S' : Nat → Prop) (i : Nat) (hg : Game g m) (hy : Mix y m) (hi : i < g.length) (w : World) (h : Rows2 w S T g) (h' : Ints w S' A y) :
    Calls Try.prog 122 #[.slice T g.length c, .slice A y.length d, .int .i64 (i : Int)] w (Quiet (.int .i64 (rowD g y i)) w) := by
  have HL := Lib.hid hy.len
  have hm := hy.hi
  have hl : y.length ≤ 16 := by rw [HL.out]; exact hm
  have hgl := hg.hi
  obtain ⟨b, off, rfl⟩ := h.some (by omega)
  have HR := Lib.hid h
  have HY := Lib.hid h'
  have HG := Lib.hid hg
  have HM := Lib.hid hy
  clear h h' hg hy
  go_enter Try.func122, Try.ntmps122
  go_wp2_with fail
  go_loopw [7, 8] (fun v j wr => ∃ k : Nat, k ≤ y.length ∧ j = .int .i64 k ∧ v = .int .i64 (dotW y (rowAt g i) k) ∧ ∃ n, wr = w.drewN n) (fun _ j _ => y.length - (intOf j).toNat)
  case atStart => exact ⟨0, Nat.zero_le _, rfl, rfl, (by first | exact ⟨0, rfl⟩ | exact ⟨_, rfl⟩ | exact ⟨_, World.drewN_drewN _ _ _⟩ | (simp only [World.drewN_drewN]; exact ⟨_, rfl⟩))⟩
  case round =>
    obtain ⟨k, hk, rfl, rfl, n, rfl⟩ := hrel
    by_cases hlt : k < y.length
    · have hlm : k < m := by rw [← HL.out]; exact hlt
      have hlr : k < (rowAt g i).length := by rw [HG.out.len i hi]; exact hlm
      obtain ⟨bm, om, cm, hc1, hc2, hc3, hc4, hc5⟩ := HR.out.cell hi hlr
      unfold maxLen at hc3
      obtain ⟨by', oy, rfl, hSy, hcy⟩ := HY.out.at_ hlt
      have hcy := hcy k hlt
      obtain ⟨b1, b2⟩ := dotW_bd y (rowAt g i) 9 (by omega) k (fun j hj => ⟨HM.out.wlo j (by omega), HM.out.whi j (by omega)⟩) (fun j hj => ⟨HG.out.nlo i hi j (by omega), HG.out.nhi i hi j (by omega)⟩)
      obtain ⟨p1, p2⟩ := prod_bd (HM.out.wlo k hlm) (HM.out.whi k hlm) (HG.out.nlo i hi k hlm) (HG.out.nhi i hi k hlm) (by omega)
      have x1 : IntKind.i64.wrap (nth y k * nth (rowAt g i) k) = nth y k * nth (rowAt g i) k := IntWalk.i64_in _ (by omega)
      have x2 : IntKind.i64.wrap (dotW y (rowAt g i) k + nth y k * nth (rowAt g i) k) = dotW y (rowAt g i) k + nth y k * nth (rowAt g i) k := IntWalk.i64_in _ (by omega)
      have q1 : (i : Int) < (g.length : Int) := by omega
      have q2 : (k : Int) < (y.length : Int) := by omega
      have q3 : (k : Int) < ((rowAt g i).length : Int) := by omega
      have q4 : (0 : Int) ≤ (k : Int) := by omega
      have q5 : (0 : Int) ≤ (i : Int) := by omega
      go_wp2_with fail
      go_quiet (fail)
      clear x1 x2
      go_wp2_with fail
      go_roundw
      case rel => exact ⟨k + 1, by omega, by go_num, rfl, (by first | exact ⟨0, rfl⟩ | exact ⟨_, rfl⟩ | exact ⟨_, World.drewN_drewN _ _ _⟩ | (simp only [World.drewN_drewN]; exact ⟨_, rfl⟩))⟩
      case measure => simp [intOf]; omega
    · obtain rfl : k = y.length := by omega
      go_wp2_with fail
      go_ret
      exact Quiet.ofD rfl (by first | exact ⟨0, rfl⟩ | exact ⟨_, rfl⟩ | exact ⟨_, World.drewN_drewN _ _ _⟩ | (simp only [World.drewN_drewN]; exact ⟨_, rfl⟩))

set_option maxHeartbeats 1000000 in
theorem l3Column (T A : Option Addr) (c d : Nat) (g : List (List Int)) (x : List Int) (m : Nat) (S S' : Nat → Prop) (j : Nat) (hg : Game g m) (hx : Mix x g.length) (hj : j < m) (w : World) (h : Rows2 w S T g) (h' : Ints w S' A x) :
    Calls Try.prog 110 #[.slice T g.length c, .slice A x.length d, .int .i64 (j : Int)] w (Quiet (.int .i64 (colD g x j)) w) := by
  have HL := Lib.hid hx.len
  have hgl := hg.hi
  have hgl1 := hg.lo
  obtain ⟨b, off, rfl⟩ := h.some (by omega)
  have HR := Lib.hid h
  have HY := Lib.hid h'
  have HG := Lib.hid hg
  have HM := Lib.hid hx
  clear h h' hg hx
  go_enter Try.func110, Try.ntmps110
  go_wp2_with fail
  go_loopw [7, 8] (fun v i wr => ∃ k : Nat, k ≤ g.length ∧ i = .int .i64 k ∧ v = .int .i64 (dotW x (col g j) k) ∧ ∃ n, wr = w.drewN n) (fun _ i _ => g.length - (intOf i).toNat)
  case atStart => exact ⟨0, Nat.zero_le _, rfl, rfl, (by first | exact ⟨0, rfl⟩ | exact ⟨_, rfl⟩ | exact ⟨_, World.drewN_drewN _ _ _⟩ | (simp only [World.drewN_drewN]; exact ⟨_, rfl⟩))⟩
  case round =>
    obtain ⟨k, hk, rfl, rfl, n, rfl⟩ := hrel
    by_cases hlt : k < g.length
    · have hlr : j < (rowAt g k).length := by rw [HG.out.len k hlt]; exact hj
      have hlx : k < x.length := by rw [HL.out]; exact hlt
      obtain ⟨bm, om, cm, hc1, hc2, hc3, hc4, hc5⟩ := HR.out.cell hlt hlr
      unfold maxLen at hc3
      obtain ⟨by', oy, rfl, hSy, hcy⟩ := HY.out.at_ hlx
      have hcy := hcy k hlx
      obtain ⟨b1, b2⟩ := dotW_bd x (col g j) 9 (by omega) k (fun i hi => ⟨HM.out.wlo i (by omega), HM.out.whi i (by omega)⟩) (fun i hi => by rw [nth_col g j i (by omega)]; exact ⟨HG.out.nlo i (by omega) j hj, HG.out.nhi i (by omega) j hj⟩)
      obtain ⟨p1, p2⟩ := prod_bd (HM.out.wlo k hlt) (HM.out.whi k hlt) (HG.out.nlo k hlt j hj) (HG.out.nhi k hlt j hj) (by omega)
      have HD : Hid (dotW x (col g j) (k + 1) = dotW x (col g j) k + nth x k * nth (rowAt g k) j) := by show dotW _ _ k + _ = _; rw [nth_col g j k hlt]
      have x1 : IntKind.i64.wrap (nth x k * nth (rowAt g k) j) = nth x k * nth (rowAt g k) j := IntWalk.i64_in _ (by omega)
      have x2 : IntKind.i64.wrap (dotW x (col g j) k + nth x k * nth (rowAt g k) j) = dotW x (col g j) k + nth x k * nth (rowAt g k) j := IntWalk.i64_in _ (by omega)
      have q1 : (k : Int) < (g.length : Int) := by omega
      have q2 : (k : Int) < (x.length : Int) := by omega
      have q3 : (j : Int) < ((rowAt g k).length : Int) := by omega
      have q4 : (0 : Int) ≤ (k : Int) := by omega
      have q5 : (0 : Int) ≤ (j : Int) := by omega
      go_wp2_with fail
      go_quiet (fail)
      clear x1 x2
      go_wp2_with fail
      go_roundw
      case rel => exact ⟨k + 1, by omega, by go_num, by rw [HD.out], (by first | exact ⟨0, rfl⟩ | exact ⟨_, rfl⟩ | exact ⟨_, World.drewN_drewN _ _ _⟩ | (simp only [World.drewN_drewN]; exact ⟨_, rfl⟩))⟩
      case measure => simp [intOf]; omega
    · obtain rfl : k = g.length := by omega
      go_wp2_with fail
      go_ret
      exact Quiet.ofD rfl (by first | exact ⟨0, rfl⟩ | exact ⟨_, rfl⟩ | exact ⟨_, World.drewN_drewN _ _ _⟩ | (simp only [World.drewN_drewN]; exact ⟨_, rfl⟩))

end Go.Proofs.Ytgjbahlebhnoiaa

namespace Go.Proofs.Ytgjbahlebhnoiaa
set_option linter.unusedSimpArgs false
set_option linter.unusedVariables false
open Go.RowKit

/-- a fraction and a truth -/
abbrev FracRes (u d : Int) (b : Bool) : Value := .tuple #[.agg #[.int .i64 u, .int .i64 d], .bool b]

set_option maxHeartbeats 2000000 in
theorem safe_spec (T A : Option Addr) (c d : Nat) (g : List (List Int)) (x : List Int) (hl : g.length ≤ maxLen) (hx : x.length ≤ 4294967296) (w : World) (h : Rows2 w (· < w.heap.size) T g) (h' : Ints w (· < w.heap.size) A x) :
    Calls Try.prog 80 #[.slice T g.length c, .slice A x.length d] w (Adds (FracRes (safU g x) (safD g x) (safB g x)) w) := by
  rcases hB : safB g x with _ | _
  · have HU : Hid (safU g x = 0) := by simp [Hid, safU, hB]
    have HD : Hid (safD g x = 0) := by simp [Hid, safD, hB]
    have HB := Lib.hid hB
    rcases hb : gameB g with _ | _
    · have HG := Lib.hid hb
      have HR := Lib.hid h
      clear hb hB h
      go_enter Try.func80, Try.ntmps80
      go_wp2_with fail
      obtain ⟨W, hW⟩ : ∃ W : World, W = (w.alloc (.cells #[(Value.int .i64 0), (Value.int .i64 0)] 32)) := ⟨_, rfl⟩
      have hzW : W.heap.size = w.heap.size + 1 := by rw [hW]; simp
      have hbW : Below w.heap.size w W := by rw [hW]; exact (by repeat (first | exact Below.refl _ _ | assumption | exact bel1 (by assumption) | exact bel2 (by assumption) | exact bel3 (by assumption) | exact bel4 (by assumption) | refine Below.drew ?_ | refine below_drewN ?_ _ | refine Below.setCell ?_ (by first | (simp; done) | (simp; omega)) _ | refine Below.alloc ?_ (by first | (simp; done) | (simp; omega)) _))
      have r00 := stays (p := w.heap.size) (o := 0) (by omega) (show W.cell? ⟨w.heap.size, 0, none⟩ = some ((Value.int .i64 0)) from by rw [hW]; simp [go_sem])
      have g00 := staysF (p := w.heap.size) (o := 0) (by omega) (show W.frozen? ⟨w.heap.size, 0, none⟩ = false from by rw [hW]; simp [go_sem])
      have r01 := stays (p := w.heap.size) (o := 1) (by omega) (show W.cell? ⟨w.heap.size, 1, none⟩ = some ((Value.int .i64 0)) from by rw [hW]; simp [go_sem])
      have g01 := staysF (p := w.heap.size) (o := 1) (by omega) (show W.frozen? ⟨w.heap.size, 1, none⟩ = false from by rw [hW]; simp [go_sem])
      rw [← hW]
      clear hW
      have HzW := Lib.hid hzW
      clear hzW
      refine (game_spec _ _ _ _ hl _ (keepRows hbW HR.out)).mono ?_
      rintro e w1 ⟨rfl, n1, rfl⟩
      rw [HG.out]
      have hk : Below W.heap.size W (W.drewN n1) := below_drewN (Below.refl _ _) n1
      go_wp2_with fail
      refine bodyPost_ret (v := .tuple #[.agg #[.int .i64 0, .int .i64 0], .bool false]) (by simp [results, Try.results80, go_sem, r00 _ hk, r01 _ hk]) rfl ⟨by rw [HU.out, HD.out]; try rfl, ?_⟩
      exact ((below_drewN hbW n1).setCell (Nat.le_refl _) _).setCell (Nat.le_refl _) _
    · have hm : mixB x (g.length : Int) = false := by simpa [safB, hb] using hB
      have hg := Game.of hb
      have hg1 := hg.lo
      obtain ⟨bt, ot, rfl⟩ := h.some (by omega)
      have HG := Lib.hid hb
      have HMX := Lib.hid hm
      have HR := Lib.hid h
      have HX := Lib.hid h'
      clear hb hB h hm h' hg
      go_enter Try.func80, Try.ntmps80
      go_wp2_with fail
      obtain ⟨W, hW⟩ : ∃ W : World, W = (w.alloc (.cells #[(Value.int .i64 0), (Value.int .i64 0)] 32)) := ⟨_, rfl⟩
      have hzW : W.heap.size = w.heap.size + 1 := by rw [hW]; simp
      have hbW : Below w.heap.size w W := by rw [hW]; exact (by repeat (first | exact Below.refl _ _ | assumption | exact bel1 (by assumption) | exact bel2 (by assumption) | exact bel3 (by assumption) | exact bel4 (by assumption) | refine Below.drew ?_ | refine below_drewN ?_ _ | refine Below.setCell ?_ (by first | (simp; done) | (simp; omega)) _ | refine Below.alloc ?_ (by first | (simp; done) | (simp; omega)) _))
      have r00 := stays (p := w.heap.size) (o := 0) (by omega) (show W.cell? ⟨w.heap.size, 0, none⟩ = some ((Value.int .i64 0)) from by rw [hW]; simp [go_sem])
      have g00 := staysF (p := w.heap.size) (o := 0) (by omega) (show W.frozen? ⟨w.heap.size, 0, none⟩ = false from by rw [hW]; simp [go_sem])
      have r01 := stays (p := w.heap.size) (o := 1) (by omega) (show W.cell? ⟨w.heap.size, 1, none⟩ = some ((Value.int .i64 0)) from by rw [hW]; simp [go_sem])
      have g01 := staysF (p := w.heap.size) (o := 1) (by omega) (show W.frozen? ⟨w.heap.size, 1, none⟩ = false from by rw [hW]; simp [go_sem])
      rw [← hW]
      clear hW
      have HzW := Lib.hid hzW
      clear hzW
      have RW := Lib.hid (keepRows hbW HR.out)
      obtain ⟨hS, A0, c0, hc0, hl0, hm0, _⟩ := RW.out.row (i := 0) (by omega)
      rw [Nat.add_zero] at hc0
      unfold maxLen at hm0
      refine (game_spec _ _ _ _ hl _ RW.out).mono ?_
      rintro e w1 ⟨rfl, n1, rfl⟩
      rw [HG.out]
      have hk : Below W.heap.size W (W.drewN n1) := below_drewN (Below.refl _ _) n1
      go_wp2_with fail
      refine (mixOk_spec _ _ x _ _ hx _ ((keepInts hbW HX.out).drewN n1)).mono ?_
      rintro e w1 ⟨rfl, rfl⟩
      rw [HMX.out]
      go_wp2_with fail
      refine bodyPost_ret (v := .tuple #[.agg #[.int .i64 0, .int .i64 0], .bool false]) (by simp [results, Try.results80, go_sem, r00 _ hk, r01 _ hk]) rfl ⟨by rw [HU.out, HD.out]; try rfl, ?_⟩
      exact ((below_drewN hbW n1).setCell (Nat.le_refl _) _).setCell (Nat.le_refl _) _
  obtain ⟨hb, hB2⟩ : gameB g = true ∧ mixB x (g.length : Int) = true := by simpa [safB] using hB
  have hg := Game.of hb
  have hmx : mixB x (g.length : Int) = true := hB2
  have hx0 := Mix.of hmx
  have hg1 := hg.lo
  have hg2 := hg.hi
  have hg3 := hg.mlo
  have hg4 := hg.mhi
  obtain ⟨bd1, bd2⟩ := safeN_bd hg hx0
  obtain ⟨sb1, sb2⟩ := hx0.sum_bd
  rw [← hx0.len] at sb1 sb2
  have HU : Hid (safU g x = lowU (safeN g x) (sumW x x.length)) := by simp [Hid, safU, hB]
  have HD : Hid (safD g x = lowD (safeN g x) (sumW x x.length)) := by simp [Hid, safD, hB]
  have HB := Lib.hid hB
  have HGB := Lib.hid hb
  have HMB := Lib.hid hmx
  have HM := Lib.hid hx0
  obtain ⟨bt, ot, rfl⟩ := h.some (by omega)
  have HR := Lib.hid h
  have HX := Lib.hid h'
  have HG := Lib.hid hg
  have HN : Hid (safeN g x = lowN (colsD g x) ((rowAt g 0).length)) := rfl
  clear hb hB hB2 h h' hg hmx hx0
  go_enter Try.func80, Try.ntmps80
  go_wp2_with fail
  obtain ⟨W, hW⟩ : ∃ W : World, W = (w.alloc (.cells #[(Value.int .i64 0), (Value.int .i64 0)] 32)) := ⟨_, rfl⟩
  have hzW : W.heap.size = w.heap.size + 1 := by rw [hW]; simp
  have hbW : Below w.heap.size w W := by rw [hW]; exact (by repeat (first | exact Below.refl _ _ | assumption | exact bel1 (by assumption) | exact bel2 (by assumption) | exact bel3 (by assumption) | exact bel4 (by assumption) | refine Below.drew ?_ | refine below_drewN ?_ _ | refine Below.setCell ?_ (by first | (simp; done) | (simp; omega)) _ | refine Below.alloc ?_ (by first | (simp; done) | (simp; omega)) _))
  have r00 := stays (p := w.heap.size) (o := 0) (by omega) (show W.cell? ⟨w.heap.size, 0, none⟩ = some ((Value.int .i64 0)) from by rw [hW]; simp [go_sem])
  have g00 := staysF (p := w.heap.size) (o := 0) (by omega) (show W.frozen? ⟨w.heap.size, 0, none⟩ = false from by rw [hW]; simp [go_sem])
  have r01 := stays (p := w.heap.size) (o := 1) (by omega) (show W.cell? ⟨w.heap.size, 1, none⟩ = some ((Value.int .i64 0)) from by rw [hW]; simp [go_sem])
  have g01 := staysF (p := w.heap.size) (o := 1) (by omega) (show W.frozen? ⟨w.heap.size, 1, none⟩ = false from by rw [hW]; simp [go_sem])
  rw [← hW]
  clear hW
  have HzW := Lib.hid hzW
  clear hzW
  have RW := Lib.hid (keepRows hbW HR.out)
  have XW := Lib.hid (keepInts hbW HX.out)
  obtain ⟨hS, A0, c0, hc0, hl0, hm0, _⟩ := RW.out.row (i := 0) (by omega)
  rw [Nat.add_zero] at hc0
  unfold maxLen at hm0
  refine (game_spec _ _ _ _ hl _ RW.out).mono ?_
  rintro e w1 ⟨rfl, n1, rfl⟩
  rw [HGB.out]
  go_wp2_with fail
  refine (mixOk_spec _ _ x _ _ hx _ (XW.out.drewN n1)).mono ?_
  rintro e w1 ⟨rfl, rfl⟩
  rw [HMB.out]
  go_wp2_with fail
  refine (l3Column _ _ _ _ g x _ _ _ 0 HG.out HM.out (by omega) _ (RW.out.drewN n1) (XW.out.drewN n1)).mono ?_
  rintro e w1 ⟨rfl, n2, rfl⟩
  go_wp2_with fail
  go_loopw [6, 7] (fun v j wr => ∃ k : Nat, 1 ≤ k ∧ k ≤ (rowAt g 0).length ∧ j = .int .i64 k ∧ v = .int .i64 (lowN (colsD g x) k) ∧ ∃ n, wr = W.drewN n) (fun _ j _ => (rowAt g 0).length - (intOf j).toNat)
  case atStart => exact ⟨1, Nat.le_refl _, by omega, rfl, by rw [lowN_one, nth_colsD g x _ (by omega)], (by first | exact ⟨0, rfl⟩ | exact ⟨_, rfl⟩ | exact ⟨_, World.drewN_drewN _ _ _⟩ | (simp only [World.drewN_drewN]; exact ⟨_, rfl⟩))⟩
  case round =>
    obtain ⟨k, hk1, hk, rfl, rfl, n, rfl⟩ := hrel
    by_cases hlt : k < (rowAt g 0).length
    · have HS : Hid (lowN (colsD g x) (k + 1) = min (lowN (colsD g x) k) (colD g x k)) := by show _ = _; simp only [lowN]; rw [nth_colsD g x k hlt]
      go_wp2_with fail
      refine (l3Column _ _ _ _ g x _ _ _ k HG.out HM.out hlt _ (RW.out.drewN n) (XW.out.drewN n)).mono ?_
      rintro e w1 ⟨rfl, n3, rfl⟩
      go_wp2_with fail
      all_goals
        go_roundw
        case rel => exact ⟨k + 1, by omega, by omega, by go_num, by rw [HS.out]; congr 1; omega, (by first | exact ⟨0, rfl⟩ | exact ⟨_, rfl⟩ | exact ⟨_, World.drewN_drewN _ _ _⟩ | (simp only [World.drewN_drewN]; exact ⟨_, rfl⟩))⟩
        case measure => simp [intOf]; omega
    · obtain rfl : k = (rowAt g 0).length := by omega
      rw [← HN.out]
      go_wp2_with fail
      refine (l3Sum _ _ x _ _ HM.out _ (XW.out.drewN n)).mono ?_
      rintro e w1 ⟨rfl, rfl⟩
      go_wp2_with fail
      refine (l1frac _ _ (by omega) (by omega) (by omega) (by omega) (by omega) _).mono ?_
      rintro e w5 ⟨rfl, hb5⟩
      have hk5 : Below W.heap.size W w5 := belT (below_drewN (Below.refl _ _) n) hb5
      clear hb5
      go_wp2_with fail
      refine bodyPost_ret (v := .tuple #[.agg #[.int .i64 (lowU (safeN g x) (sumW x x.length)), .int .i64 (lowD (safeN g x) (sumW x x.length))], .bool true]) (by simp [results, Try.results80, go_sem, r00 _ hk5, r01 _ hk5]) rfl ⟨by rw [HU.out, HD.out]; try rfl, ?_⟩
      exact ((belT hbW hk5).setCell (Nat.le_refl _) _).setCell (Nat.le_refl _) _

set_option maxHeartbeats 2000000 in
theorem risk_spec (T A : Option Addr) (c d : Nat) (g : List (List Int)) (y : List Int) (hl : g.length ≤ maxLen) (hx : y.length ≤ 4294967296) (w : World) (h : Rows2 w (· < w.heap.size) T g) (h' : Ints w (· < w.heap.size) A y) :
    Calls Try.prog 108 #[.slice T g.length c, .slice A y.length d] w (Adds (FracRes (risU g y) (risD g y) (risB g y)) w) := by
  rcases hB : risB g y with _ | _
  · have HU : Hid (risU g y = 0) := by simp [Hid, risU, hB]
    have HD : Hid (risD g y = 0) := by simp [Hid, risD, hB]
    have HB := Lib.hid hB
    rcases hb : gameB g with _ | _
    · have HG := Lib.hid hb
      have HR := Lib.hid h
      clear hb hB h
      go_enter Try.func108, Try.ntmps108
      go_wp2_with fail
      obtain ⟨W, hW⟩ : ∃ W : World, W = (w.alloc (.cells #[(Value.int .i64 0), (Value.int .i64 0)] 32)) := ⟨_, rfl⟩
      have hzW : W.heap.size = w.heap.size + 1 := by rw [hW]; simp
      have hbW : Below w.heap.size w W := by rw [hW]; exact (by repeat (first | exact Below.refl _ _ | assumption | exact bel1 (by assumption) | exact bel2 (by assumption) | exact bel3 (by assumption) | exact bel4 (by assumption) | refine Below.drew ?_ | refine below_drewN ?_ _ | refine Below.setCell ?_ (by first | (simp; done) | (simp; omega)) _ | refine Below.alloc ?_ (by first | (simp; done) | (simp; omega)) _))
      have r00 := stays (p := w.heap.size) (o := 0) (by omega) (show W.cell? ⟨w.heap.size, 0, none⟩ = some ((Value.int .i64 0)) from by rw [hW]; simp [go_sem])
      have g00 := staysF (p := w.heap.size) (o := 0) (by omega) (show W.frozen? ⟨w.heap.size, 0, none⟩ = false from by rw [hW]; simp [go_sem])
      have r01 := stays (p := w.heap.size) (o := 1) (by omega) (show W.cell? ⟨w.heap.size, 1, none⟩ = some ((Value.int .i64 0)) from by rw [hW]; simp [go_sem])
      have g01 := staysF (p := w.heap.size) (o := 1) (by omega) (show W.frozen? ⟨w.heap.size, 1, none⟩ = false from by rw [hW]; simp [go_sem])
      rw [← hW]
      clear hW
      have HzW := Lib.hid hzW
      clear hzW
      refine (game_spec _ _ _ _ hl _ (keepRows hbW HR.out)).mono ?_
      rintro e w1 ⟨rfl, n1, rfl⟩
      rw [HG.out]
      have hk : Below W.heap.size W (W.drewN n1) := below_drewN (Below.refl _ _) n1
      go_wp2_with fail
      refine bodyPost_ret (v := .tuple #[.agg #[.int .i64 0, .int .i64 0], .bool false]) (by simp [results, Try.results108, go_sem, r00 _ hk, r01 _ hk]) rfl ⟨by rw [HU.out, HD.out]; try rfl, ?_⟩
      exact ((below_drewN hbW n1).setCell (Nat.le_refl _) _).setCell (Nat.le_refl _) _
    · have hm : mixB y ((rowAt g 0).length : Int) = false := by simpa [risB, hb] using hB
      have hg := Game.of hb
      have hg1 := hg.lo
      obtain ⟨bt, ot, rfl⟩ := h.some (by omega)
      have HG := Lib.hid hb
      have HMX := Lib.hid hm
      have HR := Lib.hid h
      have HX := Lib.hid h'
      clear hb hB h hm h' hg
      go_enter Try.func108, Try.ntmps108
      go_wp2_with fail
      obtain ⟨W, hW⟩ : ∃ W : World, W = (w.alloc (.cells #[(Value.int .i64 0), (Value.int .i64 0)] 32)) := ⟨_, rfl⟩
      have hzW : W.heap.size = w.heap.size + 1 := by rw [hW]; simp
      have hbW : Below w.heap.size w W := by rw [hW]; exact (by repeat (first | exact Below.refl _ _ | assumption | exact bel1 (by assumption) | exact bel2 (by assumption) | exact bel3 (by assumption) | exact bel4 (by assumption) | refine Below.drew ?_ | refine below_drewN ?_ _ | refine Below.setCell ?_ (by first | (simp; done) | (simp; omega)) _ | refine Below.alloc ?_ (by first | (simp; done) | (simp; omega)) _))
      have r00 := stays (p := w.heap.size) (o := 0) (by omega) (show W.cell? ⟨w.heap.size, 0, none⟩ = some ((Value.int .i64 0)) from by rw [hW]; simp [go_sem])
      have g00 := staysF (p := w.heap.size) (o := 0) (by omega) (show W.frozen? ⟨w.heap.size, 0, none⟩ = false from by rw [hW]; simp [go_sem])
      have r01 := stays (p := w.heap.size) (o := 1) (by omega) (show W.cell? ⟨w.heap.size, 1, none⟩ = some ((Value.int .i64 0)) from by rw [hW]; simp [go_sem])
      have g01 := staysF (p := w.heap.size) (o := 1) (by omega) (show W.frozen? ⟨w.heap.size, 1, none⟩ = false from by rw [hW]; simp [go_sem])
      rw [← hW]
      clear hW
      have HzW := Lib.hid hzW
      clear hzW
      have RW := Lib.hid (keepRows hbW HR.out)
      obtain ⟨hS, A0, c0, hc0, hl0, hm0, _⟩ := RW.out.row (i := 0) (by omega)
      rw [Nat.add_zero] at hc0
      unfold maxLen at hm0
      refine (game_spec _ _ _ _ hl _ RW.out).mono ?_
      rintro e w1 ⟨rfl, n1, rfl⟩
      rw [HG.out]
      have hk : Below W.heap.size W (W.drewN n1) := below_drewN (Below.refl _ _) n1
      go_wp2_with fail
      refine (mixOk_spec _ _ y _ _ hx _ ((keepInts hbW HX.out).drewN n1)).mono ?_
      rintro e w1 ⟨rfl, rfl⟩
      rw [HMX.out]
      go_wp2_with fail
      refine bodyPost_ret (v := .tuple #[.agg #[.int .i64 0, .int .i64 0], .bool false]) (by simp [results, Try.results108, go_sem, r00 _ hk, r01 _ hk]) rfl ⟨by rw [HU.out, HD.out]; try rfl, ?_⟩
      exact ((below_drewN hbW n1).setCell (Nat.le_refl _) _).setCell (Nat.le_refl _) _
  obtain ⟨hb, hB2⟩ : gameB g = true ∧ mixB y ((rowAt g 0).length : Int) = true := by simpa [risB] using hB
  have hg := Game.of hb
  have hmx : mixB y ((rowAt g 0).length : Int) = true := hB2
  have hx0 := Mix.of hmx
  have hg1 := hg.lo
  have hg2 := hg.hi
  have hg3 := hg.mlo
  have hg4 := hg.mhi
  obtain ⟨bd1, bd2⟩ := riskN_bd hg hx0
  obtain ⟨sb1, sb2⟩ := hx0.sum_bd
  rw [← hx0.len] at sb1 sb2
  have HU : Hid (risU g y = lowU (riskN g y) (sumW y y.length)) := by simp [Hid, risU, hB]
  have HD : Hid (risD g y = lowD (riskN g y) (sumW y y.length)) := by simp [Hid, risD, hB]
  have HB := Lib.hid hB
  have HGB := Lib.hid hb
  have HMB := Lib.hid hmx
  have HM := Lib.hid hx0
  obtain ⟨bt, ot, rfl⟩ := h.some (by omega)
  have HR := Lib.hid h
  have HX := Lib.hid h'
  have HG := Lib.hid hg
  have HN : Hid (riskN g y = highN (rowsD g y) (g.length)) := rfl
  clear hb hB hB2 h h' hg hmx hx0
  go_enter Try.func108, Try.ntmps108
  go_wp2_with fail
  obtain ⟨W, hW⟩ : ∃ W : World, W = (w.alloc (.cells #[(Value.int .i64 0), (Value.int .i64 0)] 32)) := ⟨_, rfl⟩
  have hzW : W.heap.size = w.heap.size + 1 := by rw [hW]; simp
  have hbW : Below w.heap.size w W := by rw [hW]; exact (by repeat (first | exact Below.refl _ _ | assumption | exact bel1 (by assumption) | exact bel2 (by assumption) | exact bel3 (by assumption) | exact bel4 (by assumption) | refine Below.drew ?_ | refine below_drewN ?_ _ | refine Below.setCell ?_ (by first | (simp; done) | (simp; omega)) _ | refine Below.alloc ?_ (by first | (simp; done) | (simp; omega)) _))
  have r00 := stays (p := w.heap.size) (o := 0) (by omega) (show W.cell? ⟨w.heap.size, 0, none⟩ = some ((Value.int .i64 0)) from by rw [hW]; simp [go_sem])
  have g00 := staysF (p := w.heap.size) (o := 0) (by omega) (show W.frozen? ⟨w.heap.size, 0, none⟩ = false from by rw [hW]; simp [go_sem])
  have r01 := stays (p := w.heap.size) (o := 1) (by omega) (show W.cell? ⟨w.heap.size, 1, none⟩ = some ((Value.int .i64 0)) from by rw [hW]; simp [go_sem])
  have g01 := staysF (p := w.heap.size) (o := 1) (by omega) (show W.frozen? ⟨w.heap.size, 1, none⟩ = false from by rw [hW]; simp [go_sem])
  rw [← hW]
  clear hW
  have HzW := Lib.hid hzW
  clear hzW
  have RW := Lib.hid (keepRows hbW HR.out)
  have XW := Lib.hid (keepInts hbW HX.out)
  obtain ⟨hS, A0, c0, hc0, hl0, hm0, _⟩ := RW.out.row (i := 0) (by omega)
  rw [Nat.add_zero] at hc0
  unfold maxLen at hm0
  refine (game_spec _ _ _ _ hl _ RW.out).mono ?_
  rintro e w1 ⟨rfl, n1, rfl⟩
  rw [HGB.out]
  go_wp2_with fail
  refine (mixOk_spec _ _ y _ _ hx _ (XW.out.drewN n1)).mono ?_
  rintro e w1 ⟨rfl, rfl⟩
  rw [HMB.out]
  go_wp2_with fail
  refine (l3Row _ _ _ _ g y _ _ _ 0 HG.out HM.out (by omega) _ (RW.out.drewN n1) (XW.out.drewN n1)).mono ?_
  rintro e w1 ⟨rfl, n2, rfl⟩
  go_wp2_with fail
  go_loopw [6, 7] (fun v j wr => ∃ k : Nat, 1 ≤ k ∧ k ≤ g.length ∧ j = .int .i64 k ∧ v = .int .i64 (highN (rowsD g y) k) ∧ ∃ n, wr = W.drewN n) (fun _ j _ => g.length - (intOf j).toNat)
  case atStart => exact ⟨1, Nat.le_refl _, by omega, rfl, by rw [highN_one, nth_rowsD g y _ (by omega)], (by first | exact ⟨0, rfl⟩ | exact ⟨_, rfl⟩ | exact ⟨_, World.drewN_drewN _ _ _⟩ | (simp only [World.drewN_drewN]; exact ⟨_, rfl⟩))⟩
  case round =>
    obtain ⟨k, hk1, hk, rfl, rfl, n, rfl⟩ := hrel
    by_cases hlt : k < g.length
    · have HS : Hid (highN (rowsD g y) (k + 1) = max (highN (rowsD g y) k) (rowD g y k)) := by show _ = _; simp only [highN]; rw [nth_rowsD g y k hlt]
      go_wp2_with fail
      refine (l3Row _ _ _ _ g y _ _ _ k HG.out HM.out hlt _ (RW.out.drewN n) (XW.out.drewN n)).mono ?_
      rintro e w1 ⟨rfl, n3, rfl⟩
      go_wp2_with fail
      all_goals
        go_roundw
        case rel => exact ⟨k + 1, by omega, by omega, by go_num, by rw [HS.out]; congr 1; omega, (by first | exact ⟨0, rfl⟩ | exact ⟨_, rfl⟩ | exact ⟨_, World.drewN_drewN _ _ _⟩ | (simp only [World.drewN_drewN]; exact ⟨_, rfl⟩))⟩
        case measure => simp [intOf]; omega
    · obtain rfl : k = g.length := by omega
      rw [← HN.out]
      go_wp2_with fail
      refine (l3Sum _ _ y _ _ HM.out _ (XW.out.drewN n)).mono ?_
      rintro e w1 ⟨rfl, rfl⟩
      go_wp2_with fail
      refine (l1frac _ _ (by omega) (by omega) (by omega) (by omega) (by omega) _).mono ?_
      rintro e w5 ⟨rfl, hb5⟩
      have hk5 : Below W.heap.size W w5 := belT (below_drewN (Below.refl _ _) n) hb5
      clear hb5
      go_wp2_with fail
      refine bodyPost_ret (v := .tuple #[.agg #[.int .i64 (lowU (riskN g y) (sumW y y.length)), .int .i64 (lowD (riskN g y) (sumW y y.length))], .bool true]) (by simp [results, Try.results108, go_sem, r00 _ hk5, r01 _ hk5]) rfl ⟨by rw [HU.out, HD.out]; try rfl, ?_⟩
      exact ((belT hbW hk5).setCell (Nat.le_refl _) _).setCell (Nat.le_refl _) _

/-- what a table and two mixtures are, if they fit -/
theorem fit_of {g : List (List Int)} {x y : List Int} (h : fitB g x y = true) : Game g (rowAt g 0).length ∧ Mix x g.length ∧ Mix y (rowAt g 0).length := by
  simp only [fitB, Bool.and_eq_true] at h
  exact ⟨Game.of h.1.1, Mix.of h.1.2, Mix.of h.2⟩

end Go.Proofs.Ytgjbahlebhnoiaa

namespace Go.Proofs.Ytgjbahlebhnoiaa
set_option linter.unusedSimpArgs false
set_option linter.unusedVariables false
open Go.RowKit

set_option maxHeartbeats 2000000 in
theorem set_spec (T A B : Option Addr) (c d e : Nat) (g : List (List Int)) (x y : List Int) (hl : g.length ≤ maxLen) (hx : x.length ≤ 4294967296) (hy : y.length ≤ 4294967296) (w : World) (h : Rows2 w (· < w.heap.size) T g) (h1 : Ints w (· < w.heap.size) A x) (h2 : Ints w (· < w.heap.size) B y) :
    Calls Try.prog 79 #[.slice T g.length c, .slice A x.length d, .slice B y.length e] w (Adds (.bool (setB g x y)) w) := by
  have HR := Lib.hid h
  have HX := Lib.hid h1
  have HY := Lib.hid h2
  have HS : Hid (setB g x y = (safB g x && risB g y && ((safU g x == risU g y) && (safD g x == risD g y)))) := rfl
  clear h h1 h2
  go_enter Try.func79, Try.ntmps79
  go_wp2_with fail
  refine (safe_spec _ _ _ _ g x hl hx _ HR.out HX.out).mono ?_
  rintro e w1 ⟨rfl, hb1⟩
  unfold FracRes
  generalize safU g x = a at HS ⊢
  generalize safD g x = b at HS ⊢
  generalize safB g x = o at HS ⊢
  go_wp2_with fail
  obtain ⟨W, hW⟩ : ∃ W : World, W = (w1.alloc (.cells #[(Value.int .i64 a), (Value.int .i64 b)] 32)) := ⟨_, rfl⟩
  have hzW : W.heap.size = w1.heap.size + 1 := by rw [hW]; simp
  have hbW : Below w1.heap.size w1 W := by rw [hW]; exact (by repeat (first | exact Below.refl _ _ | assumption | exact bel1 (by assumption) | exact bel2 (by assumption) | exact bel3 (by assumption) | exact bel4 (by assumption) | refine Below.drew ?_ | refine below_drewN ?_ _ | refine Below.setCell ?_ (by first | (simp; done) | (simp; omega)) _ | refine Below.alloc ?_ (by first | (simp; done) | (simp; omega)) _))
  have r00 := stays (p := w1.heap.size) (o := 0) (by omega) (show W.cell? ⟨w1.heap.size, 0, none⟩ = some ((Value.int .i64 a)) from by rw [hW]; simp [go_sem])
  have r01 := stays (p := w1.heap.size) (o := 1) (by omega) (show W.cell? ⟨w1.heap.size, 1, none⟩ = some ((Value.int .i64 b)) from by rw [hW]; simp [go_sem])
  rw [← hW]
  clear hW
  have HzW := Lib.hid hzW
  clear hzW
  have hk1 := belT hb1 hbW
  have RW := Lib.hid (keepRows hk1 HR.out)
  have YW := Lib.hid (keepInts hk1 HY.out)
  have hsw := hk1.size
  refine (risk_spec _ _ _ _ g y hl hy _ (RW.out.lt hsw) (YW.out.lt hsw)).mono ?_
  rintro e w2 ⟨rfl, hb2⟩
  unfold FracRes
  generalize risU g y = a' at HS ⊢
  generalize risD g y = b' at HS ⊢
  generalize risB g y = o' at HS ⊢
  have hk2 := belT hk1 hb2
  have hsz : w1.heap.size < w2.heap.size := by have := hb2.size; have := HzW.out; omega
  cases o with
  | false =>
    go_wp2_with fail
    go_ret
    exact Adds.of (by rw [HS.out]; rfl) (hk2.alloc hk2.size _)
  | true =>
    cases o' with
    | false =>
      go_wp2_with fail
      go_ret
      exact Adds.of (by rw [HS.out]; rfl) (hk2.alloc hk2.size _)
    | true =>
      go_wp2_with fail
      all_goals
        go_ret
        exact Adds.of (by rw [HS.out]; first | (simp; done) | (simp; omega)) (hk2.alloc hk2.size _)

/-- a list that grows lies in no block of fractions -/
theorem Grows.ne {w : World} {base B N : Nat} {v : Value} {l : List Int} {f : Nat → Value} (h : Grows w base v l) (h' : w.rowIs B 32 N f) : v.ownBlock ≠ some B := by
  obtain ⟨_, ⟨rfl, _⟩ | ⟨b, cap, cur, rfl, _, h4, _⟩⟩ := h
  · simp [Value.ownBlock]
  · intro e
    simp [Value.ownBlock] at e
    subst e
    obtain ⟨c', h2, _, _⟩ := h'
    rw [h4] at h2
    injection h2 with h2
    injection h2 with _ e
    exact absurd e (by decide)

/-- an equation between fractions over one number -/
theorem best_iff {g : List (List Int)} {y : List Int} (h : risB g y = true) (k : Nat) : (lowU (rowD g y k) (sumW y y.length) = risU g y ∧ lowD (rowD g y k) (sumW y y.length) = risD g y) ↔ rowD g y k = riskN g y := by
  have e1 : risU g y = lowU (riskN g y) (sumW y y.length) := by simp [risU, h]
  have e2 : risD g y = lowD (riskN g y) (sumW y y.length) := by simp [risD, h]
  simp only [risB, Bool.and_eq_true] at h
  have hm := Mix.of h.2
  have hp := hm.sum_bd
  rw [← hm.len] at hp
  rw [e1, e2]
  exact ⟨fun ⟨a, b⟩ => low_inj (by omega) a b, fun e => by rw [e]; exact ⟨rfl, rfl⟩⟩

end Go.Proofs.Ytgjbahlebhnoiaa

namespace Go.Proofs.Ytgjbahlebhnoiaa
set_option linter.unusedSimpArgs false
set_option linter.unusedVariables false

theorem mix_one {m i : Nat} (hi : i < m) (hm : m ≤ 16) : Mix (oneAt m i 1) m := by
  refine ⟨oneAt_length _ _ _, by omega, hm, fun k hk => ?_, fun k hk => ?_, ?_⟩
  · rw [nth_oneAt m i k 1 hk]; split <;> omega
  · rw [nth_oneAt m i k 1 hk]; split <;> omega
  · rw [sumW_unit _ i 1 m (fun r hr => nth_oneAt m i r 1 hr), if_pos hi]; omega

theorem ris_one {g : List (List Int)} (h : gameB g = true) {j : Nat} (hj : j < (rowAt g 0).length) : risB g (oneAt (rowAt g 0).length j 1) = true :=
  risB_iff.2 ⟨h, mix_one hj (Game.of h).mhi⟩

theorem saf_one {g : List (List Int)} (h : gameB g = true) {i : Nat} (hi : i < g.length) (hf : floV g = nth (lows g) i) : safB g (oneAt g.length i 1) = true ∧ safU g (oneAt g.length i 1) = floV g ∧ safD g (oneAt g.length i 1) = 1 := by
  have hg := Game.of h
  have hm := mix_one hi hg.hi
  have hb : safB g (oneAt g.length i 1) = true := safB_iff.2 ⟨h, hm⟩
  refine ⟨hb, ?_⟩
  have hs : sumW (oneAt g.length i 1) g.length = 1 := by rw [sumW_unit _ i 1 _ (fun r hr => nth_oneAt _ i r 1 hr), if_pos hi]
  have hn : safeN g (oneAt g.length i 1) = floV g := by
    rw [hf, nth_lows g i hi, hg.len i hi]
    unfold safeN
    have e : ∀ j, j < (rowAt g 0).length → nth (colsD g (oneAt g.length i 1)) j = nth (rowAt g i) j := fun j hj => by
      rw [nth_colsD _ _ j hj]; unfold colD
      rw [dotW_unit _ _ i _ (fun r hr => nth_oneAt _ i r 1 hr), if_pos hi, nth_col g j i hi]
    have : ∀ k, k ≤ (rowAt g 0).length → 0 < (rowAt g 0).length → lowN (colsD g (oneAt g.length i 1)) k = lowN (rowAt g i) k := fun k => by
      induction k with
      | zero => intro _ h0; exact e 0 h0
      | succ k ih => intro hk h0; simp only [lowN]; rw [ih (by omega) h0, e k (by omega)]
    exact this _ (Nat.le_refl _) hg.mlo
  simp only [safU, safD, hb, if_true]
  rw [oneAt_length, hs, hn]
  exact low_one _

end Go.Proofs.Ytgjbahlebhnoiaa

namespace Go.Proofs.Ytgjbahlebhnoiaa
set_option linter.unusedSimpArgs false
set_option linter.unusedVariables false

theorem best_mem (g : List (List Int)) (y : List Int) (k : Nat) : ∀ v ∈ bestUpTo g y k, ∃ i : Nat, v = (i : Int) ∧ i < k ∧ rowD g y i = riskN g y := by
  induction k with
  | zero => intro v hv; simp [bestUpTo] at hv
  | succ k ih =>
    intro v hv
    simp only [bestUpTo] at hv
    split at hv
    · rename_i e
      rw [List.mem_append] at hv
      rcases hv with h | h
      · obtain ⟨i, h1, h2, h3⟩ := ih v h; exact ⟨i, h1, by omega, h3⟩
      · rw [List.mem_singleton] at h; exact ⟨k, h, by omega, by simpa using e⟩
    · obtain ⟨i, h1, h2, h3⟩ := ih v hv; exact ⟨i, h1, by omega, h3⟩

theorem best_asc (g : List (List Int)) (y : List Int) (k : Nat) : (bestUpTo g y k).Pairwise (· < ·) := by
  induction k with
  | zero => simp [bestUpTo]
  | succ k ih =>
    simp only [bestUpTo]
    split
    · rw [List.pairwise_append]
      refine ⟨ih, List.pairwise_singleton _ _, fun a ha b hb => ?_⟩
      obtain ⟨i, h1, h2, _⟩ := best_mem g y k a ha
      rw [List.mem_singleton] at hb; omega
    · exact ih

theorem best_some (g : List (List Int)) (y : List Int) (k i : Nat) (hi : i < k) (h : rowD g y i = riskN g y) : 0 < (bestUpTo g y k).length := by
  induction k with
  | zero => omega
  | succ k ih =>
    simp only [bestUpTo]
    by_cases e : i = k
    · subst e; simp [h]
    · have := ih (by omega)
      split
      · simp
      · exact this

/-- all 0, then one at every place of the list's first k -/
def setAll (n : Nat) (l : List Int) : Nat → List Int
  | 0 => List.replicate n 0
  | k + 1 => (setAll n l k).set (nth l k).toNat 1

theorem setAll_length (n : Nat) (l : List Int) (k : Nat) : (setAll n l k).length = n := by
  induction k with
  | zero => simp [setAll]
  | succ k ih => simp [setAll, ih]

theorem nth_setAt (l : List Int) (i r : Nat) (x : Int) (hr : r < l.length) : nth (l.set i x) r = if r = i then x else nth l r := by
  rw [nth_eq _ _ (by rw [List.length_set]; exact hr), List.getElem_set, nth_eq l r hr]
  by_cases e : i = r
  · subst e; simp
  · rw [if_neg e, if_neg (fun e' => e e'.symm)]

theorem setAll_val (n : Nat) (l : List Int) (k r : Nat) (hr : r < n) : nth (setAll n l k) r = 0 ∨ (nth (setAll n l k) r = 1 ∧ ∃ j, j < k ∧ (nth l j).toNat = r) := by
  induction k with
  | zero => left; simp only [setAll]; rw [nth_eq _ _ (by simpa using hr)]; simp
  | succ k ih =>
    simp only [setAll]; rw [nth_setAt _ _ _ _ (by rw [setAll_length]; exact hr)]
    by_cases e : r = (nth l k).toNat
    · right; rw [if_pos e]; exact ⟨rfl, k, by omega, e.symm⟩
    · rw [if_neg e]; rcases ih with h | ⟨h, j, h1, h2⟩
      · exact .inl h
      · exact .inr ⟨h, j, by omega, h2⟩

theorem setAll_one (n : Nat) (l : List Int) (k j : Nat) (hj : j < k) (hr : (nth l j).toNat < n) : nth (setAll n l k) (nth l j).toNat = 1 := by
  induction k with
  | zero => omega
  | succ k ih =>
    simp only [setAll]; rw [nth_setAt _ _ _ _ (by rw [setAll_length]; exact hr)]
    by_cases e : (nth l j).toNat = (nth l k).toNat
    · rw [if_pos e]
    · rw [if_neg e]
      by_cases e2 : j = k
      · subst e2; exact absurd rfl e
      · exact ih (by omega)

theorem sumW_ge (x : List Int) (k i : Nat) (hi : i < k) (h : ∀ r, r < k → 0 ≤ nth x r) : nth x i ≤ sumW x k := by
  have pos : ∀ m, m ≤ k → 0 ≤ sumW x m := fun m => by
    induction m with
    | zero => intro _; simp [sumW]
    | succ m ih => intro hm; have := ih (by omega); have := h m (by omega); simp only [sumW]; omega
  have : ∀ m, m ≤ k → i < m → nth x i ≤ sumW x m := fun m => by
    induction m with
    | zero => intro _ h0; omega
    | succ m ih =>
      intro hm hi
      simp only [sumW]
      by_cases e : i = m
      · subst e; have := pos i (by omega); omega
      · have := ih (by omega) (by omega); have := h m (by omega); omega
  exact this k (Nat.le_refl _) hi

theorem dotW_const (x l : List Int) (c : Int) (k : Nat) (h : ∀ r, r < k → nth x r = 0 ∨ nth l r = c) : dotW x l k = c * sumW x k := by
  induction k with
  | zero => simp [dotW, sumW]
  | succ k ih =>
    simp only [dotW, sumW]; rw [ih (fun r hr => h r (by omega)), Int.mul_add]
    rcases h k (by omega) with e | e
    · rw [e]; simp
    · rw [e, Int.mul_comm (nth x k)]

/-- what the law says: the best rows, all alike -/
structure Bests (g : List (List Int)) (y : List Int) (l : List Int) : Prop where
  len : l.length ≤ 16
  some : 0 < l.length
  asc : l.Pairwise (· < ·)
  place : ∀ j, j < l.length → ∃ i : Nat, nth l j = (i : Int) ∧ i < g.length ∧ rowD g y i = riskN g y

theorem bestsOf {g : List (List Int)} {y : List Int} (h : risB g y = true) : Bests g y (bestL g y) := by
  have hg := Game.of (risB_iff.1 h).1
  have e : bestL g y = bestUpTo g y g.length := by simp [bestL, h]
  have hl := bestL_len g y
  rw [e] at hl ⊢
  obtain ⟨i, hi, hr⟩ := highN_at (rowsD g y) hg.lo
  refine ⟨hl, best_some g y _ i hi (by rw [← nth_rowsD g y i hi]; exact hr.symm), best_asc g y _, fun j hj => ?_⟩
  rw [nth_eq _ _ hj]
  exact best_mem g y _ _ (List.getElem_mem hj)

theorem best_avg {g : List (List Int)} {y : List Int} (h : risB g y = true) : let x := setAll g.length (bestL g y) (bestL g y).length; avgB g x y = true ∧ avgU g x y = risU g y ∧ avgD g x y = risD g y := by
  intro x
  have hb := bestsOf h
  have ok := ris_okB h
  obtain ⟨h1, h3⟩ := risB_iff.1 h
  have hg := Game.of h1
  have xl : x.length = g.length := setAll_length _ _ _
  have v : ∀ r, r < g.length → nth x r = 0 ∨ (nth x r = 1 ∧ rowD g y r = riskN g y) := fun r hr => by
    rcases setAll_val g.length (bestL g y) (bestL g y).length r hr with e | ⟨e, j, hj, e2⟩
    · exact .inl e
    · obtain ⟨i, e3, _, e4⟩ := hb.place j hj
      rw [e3] at e2
      have : i = r := by omega
      subst this; exact .inr ⟨e, e4⟩
  have p : 0 < sumW x g.length := by
    obtain ⟨i, e3, e4, _⟩ := hb.place 0 hb.some
    have e5 : (nth (bestL g y) 0).toNat < g.length := by rw [e3]; omega
    have e6 : nth x (nth (bestL g y) 0).toNat = 1 := setAll_one g.length (bestL g y) (bestL g y).length 0 hb.some e5
    have := sumW_ge x g.length _ e5 (fun r hr => by rcases v r hr with e | ⟨e, _⟩ <;> omega)
    omega
  have hm : Mix x g.length := ⟨xl, hg.lo, hg.hi, fun i hi => by rcases v i hi with e | ⟨e, _⟩ <;> omega, fun i hi => by rcases v i hi with e | ⟨e, _⟩ <;> omega, p⟩
  have hs : safB g x = true := safB_iff.2 ⟨h1, hm⟩
  have q := h3.pos
  have t : totN g x y g.length = riskN g y * sumW x g.length := dotW_const _ _ _ _ (fun r hr => by
    rcases v r hr with e | ⟨_, e⟩
    · exact .inl e
    · right; rw [nth_rowsD g y r hr]; exact e)
  simp only [risU, risD, h, if_true] at ok ⊢
  rw [h3.len] at ok ⊢
  have e5 : avN g x y = lowU (riskN g y) (sumW y (rowAt g 0).length) ∧ avM g x y = lowD (riskN g y) (sumW y (rowAt g 0).length) := by
    unfold avN avM
    rw [xl, h3.len, t]
    refine low_eq (Int.mul_pos p q) q ?_
    ac_rfl
  have hb : avgB g x y = true := avgB_iff.2 ⟨hs, h, by rw [e5.1, e5.2]; exact ok⟩
  refine ⟨hb, ?_⟩
  simp only [avgU, avgD, hb, if_true]
  exact e5

end Go.Proofs.Ytgjbahlebhnoiaa
