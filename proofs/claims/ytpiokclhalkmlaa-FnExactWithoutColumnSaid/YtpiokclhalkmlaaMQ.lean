/- Texts in one: WorseI, WorseS, WorseT, Concat, WithI, WithJ, WithK. -/
import Derived.Test.YtpiokclhalkmlaaMP
import Derived.Test.YtpiokclhalkmlaaMC
import Derived.Test.YtpiokclhalkmlaaMF
import Derived.Deep.LoopGhost
import Derived.Lib.AppendZerosOnto
import Derived.Lib.Walk
namespace Go.Proofs.Ytpiokclhalkmlaa
set_option linter.unusedSimpArgs false
set_option linter.unusedVariables false
open Go.RowKit

set_option maxHeartbeats 400000 in
theorem placeOk (a : Int) (n : Nat) (hn : n ≤ 9223372036854775807) (w : World) :
    Calls Try.prog 51 #[.int .i64 a, .int .i64 (n : Int)] w (Same (.bool (inPl a n)) w) := by
  by_cases h1 : 0 ≤ a
  · by_cases h2 : a < (n : Int)
    · have hf : inPl a n = true := inPl_iff.2 ⟨h1, h2⟩
      rw [hf]
      go_enter Try.func51, Try.ntmps51
      go_wp2
      go_ret
      exact Same.of (by simp; try omega)
    · have hf : inPl a n = false := by simp [inPl, h2]
      rw [hf]
      have hd : decide (a < (n : Int)) = false := by simp; omega
      go_enter Try.func51, Try.ntmps51
      go_wp2
      go_ret
      exact Same.of (by simp; try omega)
  · have hf : inPl a n = false := by simp [inPl, h1]
    rw [hf]
    have hd : decide ((0 : Int) ≤ a) = false := by simp; omega
    go_enter Try.func51, Try.ntmps51
    go_wp2
    go_ret
    exact Same.of (by simp; try omega)

/-- the lines of a table are of one length, that of the first -/
def EvenT (g : List (List Int)) : Prop := g.length ≤ maxLen ∧ ∀ i, i < g.length → (rowAt g i).length = (rowAt g 0).length

theorem Game.even {g : List (List Int)} {m : Nat} (h : Game g m) : EvenT g := by
  have h1 := h.hi
  have h2 := h.lo
  refine ⟨by unfold maxLen; omega, fun i hi => by rw [h.len i hi, h.len 0 (by omega)]⟩

set_option maxHeartbeats 2000000 in
theorem worseLine (f : FuncId) (bet : Int → Int → Bool) (hf : Better f bet) (A : Option Addr) (c : Nat) (g : List (List Int)) (a b : Int) (S : Nat → Prop) (he : EvenT g) (w : World) (h : Rows2 w S A g) :
    Calls Try.prog 43 #[.slice A g.length c, .int .i64 a, .int .i64 b, .func (.func f) #[] #[]] w (Same (.bool (lineB bet g a b)) w) := by
  obtain ⟨hl, hev⟩ := he
  unfold maxLen at hl
  have HPA : Hid (∀ w' : World, Calls Try.prog 51 #[.int .i64 a, .int .i64 (g.length : Int)] w' (Same (.bool (inPl a g.length)) w')) := fun w' => placeOk a _ (by omega) w'
  have HPB : Hid (∀ w' : World, Calls Try.prog 51 #[.int .i64 b, .int .i64 (g.length : Int)] w' (Same (.bool (inPl b g.length)) w')) := fun w' => placeOk b _ (by omega) w'
  by_cases e1 : a = b
  · have hno : Hid (lineB bet g a b = false) := by subst e1; exact lineB_self _ _ _
    have e1' : (a == b) = true := by simp [e1]
    clear e1
    go_enter Try.func43, Try.ntmps43
    go_wp2_with fail
    go_ret
    exact Same.of (by rw [hno.out]; first | done | rfl)
  have e1' : (a == b) = false := by simp [e1]
  rcases ha : inPl a g.length with _ | _
  · have hno : Hid (lineB bet g a b = false) := lineB_out (by rw [ha]; simp)
    rw [ha] at HPA
    clear ha e1
    go_enter Try.func43, Try.ntmps43
    go_wp2_with fail
    refine (HPA.out _).mono ?_
    rintro e w1 ⟨rfl, rfl⟩
    go_wp2_with fail
    go_ret
    exact Same.of (by rw [hno.out]; first | done | rfl)
  rcases hb : inPl b g.length with _ | _
  · have hno : Hid (lineB bet g a b = false) := lineB_out (by rw [hb]; simp)
    rw [ha] at HPA
    rw [hb] at HPB
    clear ha hb e1
    go_enter Try.func43, Try.ntmps43
    go_wp2_with fail
    refine (HPA.out _).mono ?_
    rintro e w1 ⟨rfl, rfl⟩
    go_wp2_with fail
    refine (HPB.out _).mono ?_
    rintro e w1 ⟨rfl, rfl⟩
    go_wp2_with fail
    go_ret
    exact Same.of (by rw [hno.out]; first | done | rfl)
  have hin : Hid (lineB bet g a b = noBet bet (rowAt g a.toNat) (rowAt g b.toNat) (rowAt g a.toNat).length) := lineB_in (by rw [ha, hb]; simp [e1])
  rw [ha] at HPA
  rw [hb] at HPB
  obtain ⟨p1, p2⟩ := inPl_iff.1 ha
  obtain ⟨q1, q2⟩ := inPl_iff.1 hb
  obtain ⟨x, rfl⟩ : ∃ x : Nat, a = x := ⟨a.toNat, by omega⟩
  obtain ⟨y, rfl⟩ : ∃ y : Nat, b = y := ⟨b.toNat, by omega⟩
  have hx : x < g.length := by omega
  have hy : y < g.length := by omega
  obtain ⟨bt, ot, rfl⟩ := h.some (by omega)
  obtain ⟨hS, Ax, cx, hcx, hlx, hmx, hix⟩ := h.row hx
  obtain ⟨_, Ay, cy, hcy, hly, hmy, hiy⟩ := h.row hy
  rw [hev y hy, ← hev x hx] at hcy
  have HXY := Lib.hid ((hev x hx).trans (hev y hy).symm)
  simp only [Int.toNat_natCast] at hin
  unfold maxLen at hmx
  have HC := Lib.hid hf.calls
  have hE := hf.enters
  have HIX := Lib.hid hix
  have HIY := Lib.hid hiy
  clear ha hb e1 hf h hix hiy hev hmy hly
  go_enter Try.func43, Try.ntmps43
  go_wp2_with fail
  refine (HPA.out _).mono ?_
  rintro e w1 ⟨rfl, rfl⟩
  go_wp2_with fail
  refine (HPB.out _).mono ?_
  rintro e w1 ⟨rfl, rfl⟩
  go_wp2_with fail
  go_loop [33] (fun i => ∃ k : Nat, k ≤ (rowAt g x).length ∧ i = .int .i64 k ∧ Hid (noBet bet (rowAt g x) (rowAt g y) k = true)) (fun i => (rowAt g x).length - (intOf i).toNat)
  case atStart => exact ⟨0, Nat.zero_le _, rfl, rfl⟩
  case round =>
    obtain ⟨k, hk, rfl, H⟩ := hrel
    by_cases hlt : k < (rowAt g x).length
    · obtain ⟨bx, ox, rfl, _, hcellx⟩ := HIX.out.at_ hlt
      obtain ⟨by', oy, rfl, _, hcelly⟩ := HIY.out.at_ (by rw [← HXY.out]; exact hlt)
      have c1 := hcellx k hlt
      have c2 := hcelly k (by rw [← HXY.out]; exact hlt)
      clear hcellx hcelly
      go_wp2_with fail
      refine (HC.out _ _ _).mono ?_
      rintro e w1 ⟨rfl, rfl⟩
      rcases hb : bet (nth (rowAt g x) k) (nth (rowAt g y) k) with _ | _
      · have HS : Hid (noBet bet (rowAt g x) (rowAt g y) (k + 1) = true) := by show (noBet _ _ _ k && _) = true; rw [H.out, hb]; rfl
        clear hb
        go_wp2_with fail
        go_round
        case rel => exact ⟨k + 1, by omega, by go_num, HS⟩
        case measure => simp [intOf]; omega
      · have HS : Hid (noBet bet (rowAt g x) (rowAt g y) (rowAt g x).length = false) := noBet_no hb hlt
        clear hb
        go_wp2_with fail
        go_ret
        exact Same.of (by rw [hin.out, HS.out]; first | done | rfl)
    · obtain rfl : k = (rowAt g x).length := by omega
      go_wp2_with fail
      go_ret
      exact Same.of (by rw [hin.out, H.out]; first | done | rfl)

set_option maxHeartbeats 400000 in
theorem worseRow_impl (A : Option Addr) (c : Nat) (g : List (List Int)) (a b : Int) (S : Nat → Prop) (hl : g.length ≤ maxLen) (w : World) (h : Rows2 w S A g) :
    Calls Try.prog 14 #[.slice A g.length c, .int .i64 a, .int .i64 b] w (Same (.bool (wrB g a b)) w) := by
  have HS := Lib.hid (game_impl A c g _ hl w h)
  rcases hs : gameB g with _ | _
  · have e : Hid (wrB g a b = false) := by simp [Hid, wrB, hs]
    rw [hs] at HS
    clear hs
    go_enter Try.func14, Try.ntmps14
    go_wp2_with fail
    refine HS.out.mono ?_
    rintro e w1 ⟨rfl, rfl⟩
    go_wp2_with fail
    go_ret
    exact Same.of (by rw [e.out]; first | done | rfl)
  · have e : Hid (wrB g a b = lineB gtB g a b) := wrB_line hs a b
    have HW := Lib.hid (worseLine _ _ higher A c g a b S (Game.of hs).even w h)
    rw [hs] at HS
    clear hs
    go_enter Try.func14, Try.ntmps14
    go_wp2_with fail
    refine HS.out.mono ?_
    rintro e w1 ⟨rfl, rfl⟩
    go_wp2_with fail
    refine HW.out.mono ?_
    rintro e w1 ⟨rfl, rfl⟩
    go_wp2_with fail
    go_ret
    exact Same.of (by rw [e.out]; first | done | rfl)

theorem cols_even {g : List (List Int)} (h : gameB g = true) : EvenT (cols g) := by
  have hg := Game.of h
  have h1 := hg.mhi
  have h2 := hg.mlo
  refine ⟨by rw [cols_length]; unfold maxLen; omega, fun i hi => ?_⟩
  rw [cols_length] at hi
  rw [rowAt_cols_length g i hi, rowAt_cols_length g 0 (by omega)]

theorem Laid.cols_reads {w w1 : World} {g : List (List Int)} (h : gameB g = true) (hL : Laid w w1 (cols g)) : Rows2 w1 (· < w1.heap.size) (some ⟨w.heap.size, 0, none⟩) (cols g) := by
  have hg := Game.of h
  have h1 := hg.hi
  exact Laid.rows2 hL (fun b _ hb => hb) fun i hi => by rw [cols_length] at hi; rw [rowAt_cols_length g i hi]; unfold maxLen; omega

set_option maxHeartbeats 1000000 in
theorem worseCol_impl (A : Option Addr) (c : Nat) (g : List (List Int)) (a b : Int) (hl : g.length ≤ maxLen) (w : World) (h : Rows2 w (· < w.heap.size) A g) :
    Calls Try.prog 19 #[.slice A g.length c, .int .i64 a, .int .i64 b] w (Adds (.bool (wcB g a b)) w) := by
  have HS := Lib.hid (game_impl A c g _ hl w h)
  rcases hs : gameB g with _ | _
  · have e : Hid (wcB g a b = false) := by simp [Hid, wcB, hs]
    rw [hs] at HS
    clear hs
    go_enter Try.func19, Try.ntmps19
    go_wp2_with fail
    refine HS.out.mono ?_
    rintro e w1 ⟨rfl, rfl⟩
    go_wp2_with fail
    go_ret
    exact Adds.of (by rw [e.out]; first | done | rfl) (Below.refl _ _)
  · have e : Hid (wcB g a b = lineB ltB (cols g) a b) := wcB_line hs a b
    have HCO := Lib.hid (columnsOf A c g _ (Game.of hs) w h)
    have HEV := Lib.hid (cols_even hs)
    have HGB := Lib.hid hs
    rw [hs] at HS
    clear hs
    go_enter Try.func19, Try.ntmps19
    go_wp2_with fail
    refine HS.out.mono ?_
    rintro e w1 ⟨rfl, rfl⟩
    go_wp2_with fail
    refine HCO.out.mono ?_
    rintro e w1 ⟨rfl, hL⟩
    have HR := Lib.hid (Laid.cols_reads HGB.out hL)
    have HB := Lib.hid hL.bel
    clear hL
    go_wp2_with fail
    refine (worseLine _ _ lower _ _ (cols g) a b _ HEV.out w1 HR.out).mono ?_
    rintro e w2 ⟨rfl, rfl⟩
    go_wp2_with fail
    go_ret
    exact Adds.of (by rw [e.out]; first | done | rfl) HB.out

/-- what first lines are told as -/
def fstV (o : Option Nat) : Value := .tuple #[.int .i64 ((o.getD 0 : Nat) : Int), .bool o.isSome]

set_option maxHeartbeats 1000000 in
theorem firstWorse (f : FuncId) (bet : Int → Int → Bool) (hf : Better f bet) (A : Option Addr) (c : Nat) (g : List (List Int)) (S : Nat → Prop) (he : EvenT g) (w : World) (h : Rows2 w S A g) :
    Calls Try.prog 79 #[.slice A g.length c, .func (.func f) #[] #[]] w (Same (fstV (fstW bet g)) w) := by
  have hl := he.1
  unfold maxLen at hl
  have HW : Hid (∀ a b : Nat, Calls Try.prog 43 #[.slice A g.length c, .int .i64 (a : Int), .int .i64 (b : Int), .func (.func f) #[] #[]] w (Same (.bool (lineB bet g a b)) w)) := fun a b => worseLine f bet hf A c g a b S he w h
  clear hf he h
  go_enter Try.func79, Try.ntmps79
  go_wp2_with fail
  go_loop [10] (fun i => ∃ k : Nat, k ≤ g.length ∧ i = .int .i64 k ∧ Hid (∀ a, a < k → anyW bet g a = false)) (fun i => g.length - (intOf i).toNat)
  case atStart => exact ⟨0, Nat.zero_le _, rfl, fun a ha => by omega⟩
  case round =>
    obtain ⟨k, hk, rfl, H⟩ := hrel
    by_cases hlt : k < g.length
    · go_wp2_with fail
      go_loop [15] (fun i => ∃ m : Nat, m ≤ g.length ∧ i = .int .i64 m ∧ Hid (∀ b : Nat, b < m → lineB bet g k b = false)) (fun i => g.length - (intOf i).toNat)
      case atStart => exact ⟨0, Nat.zero_le _, rfl, fun b hb => by omega⟩
      case round =>
        obtain ⟨m, hm, rfl, H2⟩ := hrel
        by_cases hlm : m < g.length
        · go_wp2_with fail
          refine (HW.out _ _).mono ?_
          rintro e w1 ⟨rfl, rfl⟩
          rcases hb : lineB bet g k m with _ | _
          · have HS : Hid (∀ b : Nat, b < m + 1 → lineB bet g k b = false) := fun b hbm => by
              by_cases e : b = m
              · subst e; exact hb
              · exact H2.out b (by omega)
            clear hb
            go_wp2_with fail
            go_round
            case rel => exact ⟨m + 1, by omega, by go_num, HS⟩
            case measure => simp [intOf]; omega
          · have HS : Hid (fstW bet g = some k) := fstN_some hlt (anyN_iff.2 ⟨m, hlm, hb⟩) H.out
            clear hb
            go_wp2_with fail
            go_ret2
            exact Same.of (by rw [HS.out]; rfl)
        · obtain rfl : m = g.length := by omega
          have HS : Hid (∀ a, a < k + 1 → anyW bet g a = false) := fun a ha => by
            by_cases e : a = k
            · subst e; exact anyN_false.2 H2.out
            · exact H.out a (by omega)
          go_wp2_with fail
          go_round
          case rel => exact ⟨k + 1, by omega, by go_num, HS⟩
          case measure => simp [intOf]; omega
    · obtain rfl : k = g.length := by omega
      have HS : Hid (fstW bet g = none) := fstN_none H.out
      go_wp2_with fail
      go_ret2
      exact Same.of (by rw [HS.out]; rfl)

end Go.Proofs.Ytpiokclhalkmlaa

namespace Go.Proofs.Ytpiokclhalkmlaa
set_option linter.unusedSimpArgs false
set_option linter.unusedVariables false
open Go.RowKit

theorem inR_pl (a : Int) (n : Nat) : inR a 0 ((n : Int) - 1) = inPl a n := by
  unfold inR inPl
  rw [Bool.eq_iff_iff, Bool.and_eq_true]; simp only [decide_eq_true_eq]; omega

set_option maxHeartbeats 2000000 in
theorem worseRow_spec (A : Option Addr) (c : Nat) (g : List (List Int)) (a b : Int) (S : Nat → Prop) (hl : g.length ≤ maxLen) (w : World) (h : Rows2 w S A g) :
    Calls Try.prog 15 #[.slice A g.length c, .int .i64 a, .int .i64 b] w (Quiet (.bool (wrB g a b)) w) := by
  have HS := Lib.hid (game_spec A c g _ hl w h)
  unfold maxLen at hl
  have wl : IntKind.i64.wrap ((g.length : Int) - 1) = (g.length : Int) - 1 := IntWalk.i64_in _ (by omega)
  have HPA : Hid (∀ w' : World, Calls Try.prog 46 #[.int .i64 a, .int .i64 0, .int .i64 ((g.length : Int) - 1)] w' (Same (.bool (inPl a g.length)) w')) := fun w' => by rw [← inR_pl]; exact in_spec _ _ _ _
  have HPB : Hid (∀ w' : World, Calls Try.prog 46 #[.int .i64 b, .int .i64 0, .int .i64 ((g.length : Int) - 1)] w' (Same (.bool (inPl b g.length)) w')) := fun w' => by rw [← inR_pl]; exact in_spec _ _ _ _
  rcases hs : gameB g with _ | _
  · have e : Hid (wrB g a b = false) := by simp [Hid, wrB, hs]
    rw [hs] at HS
    clear hs
    go_enter Try.func15, Try.ntmps15
    go_wp2_with fail
    refine HS.out.mono ?_
    rintro e w1 ⟨rfl, n, rfl⟩
    go_wp2_with fail
    go_ret
    exact Quiet.ofN (by rw [e.out]; first | done | rfl)
  have hline := wrB_line hs a b
  have hg := Game.of hs
  rw [hs] at HS
  rcases ha : inPl a g.length with _ | _
  · have hno : Hid (wrB g a b = false) := by rw [hline]; exact lineB_out (by rw [ha]; simp)
    rw [ha] at HPA
    clear ha hs hline hg
    go_enter Try.func15, Try.ntmps15
    go_wp2_with fail
    refine HS.out.mono ?_
    rintro e w1 ⟨rfl, n, rfl⟩
    go_wp2_with fail
    refine (HPA.out _).mono ?_
    rintro e w1 ⟨rfl, rfl⟩
    go_wp2_with fail
    go_ret
    exact Quiet.ofN (by rw [hno.out]; first | done | rfl)
  rcases hb : inPl b g.length with _ | _
  · have hno : Hid (wrB g a b = false) := by rw [hline]; exact lineB_out (by rw [hb]; simp)
    rw [ha] at HPA
    rw [hb] at HPB
    clear ha hb hs hline hg
    go_enter Try.func15, Try.ntmps15
    go_wp2_with fail
    refine HS.out.mono ?_
    rintro e w1 ⟨rfl, n, rfl⟩
    go_wp2_with fail
    refine (HPA.out _).mono ?_
    rintro e w1 ⟨rfl, rfl⟩
    go_wp2_with fail
    refine (HPB.out _).mono ?_
    rintro e w1 ⟨rfl, rfl⟩
    go_wp2_with fail
    go_ret
    exact Quiet.ofN (by rw [hno.out]; first | done | rfl)
  by_cases e1 : a = b
  · have hno : Hid (wrB g a b = false) := by subst e1; exact wrB_self _ _
    have e1' : (a == b) = true := by simp [e1]
    rw [ha] at HPA
    rw [hb] at HPB
    clear ha hb hs hline hg e1
    go_enter Try.func15, Try.ntmps15
    go_wp2_with fail
    refine HS.out.mono ?_
    rintro e w1 ⟨rfl, n, rfl⟩
    go_wp2_with fail
    refine (HPA.out _).mono ?_
    rintro e w1 ⟨rfl, rfl⟩
    go_wp2_with fail
    refine (HPB.out _).mono ?_
    rintro e w1 ⟨rfl, rfl⟩
    go_wp2_with fail
    go_ret
    exact Quiet.ofN (by rw [hno.out]; first | done | rfl)
  have e1' : (a == b) = false := by simp [e1]
  have hin := hline.trans (lineB_in (bet := gtB) (g := g) (a := a) (b := b) (by rw [ha, hb]; simp [e1]))
  rw [ha] at HPA
  rw [hb] at HPB
  obtain ⟨p1, p2⟩ := inPl_iff.1 ha
  obtain ⟨q1, q2⟩ := inPl_iff.1 hb
  obtain ⟨x, rfl⟩ : ∃ x : Nat, a = x := ⟨a.toNat, by omega⟩
  obtain ⟨y, rfl⟩ : ∃ y : Nat, b = y := ⟨b.toNat, by omega⟩
  have hx : x < g.length := by omega
  have hy : y < g.length := by omega
  simp only [Int.toNat_natCast] at hin
  rw [hg.len x hx] at hin
  have HIN := Lib.hid hin
  obtain ⟨bt, ot, rfl⟩ := h.some (by omega)
  obtain ⟨hS, A0, c0, hc0, hl0, hm0, _⟩ := h.row (i := 0) (by omega)
  obtain ⟨_, Ax, cx, hcx, hlx, hmx, hix⟩ := h.row hx
  obtain ⟨_, Ay, cy, hcy, hly, hmy, hiy⟩ := h.row hy
  rw [Nat.add_zero] at hc0
  have HXL := Lib.hid (hg.len x hx)
  have HYL := Lib.hid (hg.len y hy)
  have hn16 := hg.mhi
  unfold maxLen at hmx hmy hm0
  have HIX := Lib.hid hix
  have HIY := Lib.hid hiy
  have HC0 := Lib.hid hc0
  have HCX := Lib.hid hcx
  have HCY := Lib.hid hcy
  clear ha hb hs hline hg e1 h hix hiy hc0 hcx hcy hin
  go_enter Try.func15, Try.ntmps15
  go_wp2_with fail
  refine HS.out.mono ?_
  rintro e w1 ⟨rfl, n, rfl⟩
  go_wp2_with fail
  refine (HPA.out _).mono ?_
  rintro e w1 ⟨rfl, rfl⟩
  go_wp2_with fail
  refine (HPB.out _).mono ?_
  rintro e w1 ⟨rfl, rfl⟩
  go_wp2_with fail
  go_loopw [7] (fun i wr => ∃ k : Nat, k ≤ (rowAt g 0).length ∧ i = .int .i64 k ∧ Hid (noBet gtB (rowAt g x) (rowAt g y) k = true) ∧ ∃ n, wr = w.drewN n) (fun i _ => (rowAt g 0).length - (intOf i).toNat)
  case atStart => exact ⟨0, Nat.zero_le _, rfl, rfl, (by first | exact ⟨0, rfl⟩ | exact ⟨_, rfl⟩ | exact ⟨_, World.drewN_drewN _ _ _⟩ | (simp only [World.drewN_drewN]; exact ⟨_, rfl⟩))⟩
  case round =>
    obtain ⟨k, hk, rfl, H, m, rfl⟩ := hrel
    have hc0 : (w.drewN m).cell? ⟨bt, ot, none⟩ = some (.slice A0 (rowAt g 0).length c0) := HC0.out
    by_cases hlt : k < (rowAt g 0).length
    · have hkx : k < (rowAt g x).length := by rw [HXL.out]; exact hlt
      have hky : k < (rowAt g y).length := by rw [HYL.out]; exact hlt
      obtain ⟨bx, ox, rfl, _, hcellx⟩ := HIX.out.at_ hkx
      obtain ⟨by', oy, rfl, _, hcelly⟩ := HIY.out.at_ hky
      have c1 := hcellx k hkx
      have c2 := hcelly k hky
      have c3 := HCX.out
      have c4 := HCY.out
      clear hcellx hcelly
      rcases hb : gtB (nth (rowAt g x) k) (nth (rowAt g y) k) with _ | _
      · have HS : Hid (noBet gtB (rowAt g x) (rowAt g y) (k + 1) = true) := by show (noBet _ _ _ k && _) = true; rw [H.out, hb]; rfl
        have hd : decide (nth (rowAt g y) k < nth (rowAt g x) k) = false := hb
        clear hb
        go_wp2_with fail
        go_quiet (fail)
        go_wp2_with fail
        go_roundw
        case rel => exact ⟨k + 1, by omega, by go_num, HS, (by first | exact ⟨0, rfl⟩ | exact ⟨_, rfl⟩ | exact ⟨_, World.drewN_drewN _ _ _⟩ | (simp only [World.drewN_drewN]; exact ⟨_, rfl⟩))⟩
        case measure => simp [intOf]; omega
      · have HS : Hid (noBet gtB (rowAt g x) (rowAt g y) (rowAt g 0).length = false) := noBet_no hb hlt
        have hd : decide (nth (rowAt g y) k < nth (rowAt g x) k) = true := hb
        clear hb
        go_wp2_with fail
        go_quiet (fail)
        go_wp2_with fail
        go_ret
        exact Quiet.ofD (by rw [HIN.out, HS.out]; first | done | rfl) (by first | exact ⟨0, rfl⟩ | exact ⟨_, rfl⟩ | exact ⟨_, World.drewN_drewN _ _ _⟩ | (simp only [World.drewN_drewN]; exact ⟨_, rfl⟩))
    · obtain rfl : k = (rowAt g 0).length := by omega
      go_wp2_with fail
      go_ret
      exact Quiet.ofD (by rw [HIN.out, H.out]; first | done | rfl) (by first | exact ⟨0, rfl⟩ | exact ⟨_, rfl⟩ | exact ⟨_, World.drewN_drewN _ _ _⟩ | (simp only [World.drewN_drewN]; exact ⟨_, rfl⟩))

set_option maxHeartbeats 400000 in
theorem worseCol_spec (A : Option Addr) (c : Nat) (g : List (List Int)) (a b : Int) (hl : g.length ≤ maxLen) (w : World) (h : Rows2 w (· < w.heap.size) A g) :
    Calls Try.prog 20 #[.slice A g.length c, .int .i64 a, .int .i64 b] w (Adds (.bool (wcB g a b)) w) := by
  have HT := Lib.hid (turned_spec A c g hl w h)
  have HL : Hid ((turned g).length ≤ maxLen) := by have := (turned_len g).1; show _ ≤ _; unfold maxLen; omega
  have HE := Lib.hid (wcB_turned g a b)
  clear h
  go_enter Try.func20, Try.ntmps20
  go_wp2_with fail
  refine HT.out.mono ?_
  rintro e w1 ⟨T, ct, rfl, hb1, ho1⟩
  have HB := Lib.hid hb1
  have HR : Hid (Rows2 w1 (· < w1.heap.size) T (turned g)) := ho1.rows2.mono fun b hb => hb.2
  clear hb1 ho1
  go_wp2_with fail
  refine (worseRow_spec T ct (turned g) a b _ HL.out w1 HR.out).mono ?_
  rintro e w2 ⟨rfl, n, rfl⟩
  go_wp2_with fail
  go_ret
  exact Adds.of (by rw [HE.out]; first | done | rfl) (below_drewN HB.out n)

theorem news_of {w : World} {b off : Nat} {l : List Int} (hc : ∀ i, i < l.length → w.cell? ⟨b, off + i, none⟩ = some (.int .i64 (nth l i))) : ∀ j u, (vals l)[j]? = some u → w.cell? ((⟨b, off, none⟩ : Addr).add j) = some u := by
  intro j u hj
  have hlt : j < l.length := by
    have := (List.getElem?_eq_some_iff.1 hj).1; rwa [vals_length] at this
  rw [vals_get l j hlt] at hj
  injection hj with hj
  subst hj
  have e : (⟨b, off, none⟩ : Addr).add j = ⟨b, off + j, none⟩ := by
    by_cases e0 : j = 0
    · subst e0; simp [Addr.add]
    · simp [Addr.add, e0]
  rw [e]; exact hc j hlt

theorem vals_one {l : List Int} : ∀ u ∈ vals l, u.oneCell' = true := by
  intro u hu
  simp only [vals, List.mem_map] at hu
  obtain ⟨x, _, rfl⟩ := hu
  rfl

set_option maxHeartbeats 4000000 in
set_option maxRecDepth 100000 in
theorem woRow_spec (A : Option Addr) (c : Nat) (g : List (List Int)) (a : Int) (hl : g.length ≤ maxLen) (w : World) (h : Rows2 w (· < w.heap.size) A g) :
    Calls Try.prog 24 #[.slice A g.length c, .int .i64 a] w (TabRes w (woRT g a) (woRB g a)) := by
  have hb0 : Below w.heap.size w (w.alloc (.cells #[] 28)) := (Below.refl _ _).alloc (Nat.le_refl _) _
  have HS := Lib.hid (game_spec A c g _ hl _ (keepRows hb0 h))
  have hl' := hl
  unfold maxLen at hl'
  have wl : IntKind.i64.wrap ((g.length : Int) - 1) = (g.length : Int) - 1 := IntWalk.i64_in _ (by omega)
  have HPA : Hid (∀ w' : World, Calls Try.prog 46 #[.int .i64 a, .int .i64 0, .int .i64 ((g.length : Int) - 1)] w' (Same (.bool (inPl a g.length)) w')) := fun w' => by rw [← inR_pl]; exact in_spec _ _ _ _
  have HB0 := Lib.hid hb0
  have no : woRB g a = false → Hid (woRT g a = [] ∧ woRB g a = false) := fun e => ⟨woRT_no e, e⟩
  rcases hs : gameB g with _ | _
  · have H := no (by simp [woRB, hs])
    rw [hs] at HS
    clear hs no h hb0
    go_enter Try.func24, Try.ntmps24
    go_wp2_with fail
    refine HS.out.mono ?_
    rintro e w1 ⟨rfl, n, rfl⟩
    go_wp2_with fail
    go_ret2
    rw [H.out.1, H.out.2]
    exact TabRes.none rfl (below_drewN HB0.out n)
  have hg := Game.of hs
  rw [hs] at HS
  by_cases h2 : 2 ≤ g.length
  case neg =>
    have H := no (by simp [woRB, h2])
    clear hs no h hb0
    go_enter Try.func24, Try.ntmps24
    go_wp2_with fail
    refine HS.out.mono ?_
    rintro e w1 ⟨rfl, n, rfl⟩
    go_wp2_with fail
    go_ret2
    rw [H.out.1, H.out.2]
    exact TabRes.none rfl (below_drewN HB0.out n)
  rcases ha : inPl a g.length with _ | _
  · have H := no (by simp [woRB, ha])
    rw [ha] at HPA
    clear hs no h hb0 ha
    go_enter Try.func24, Try.ntmps24
    go_wp2_with fail
    refine HS.out.mono ?_
    rintro e w1 ⟨rfl, n, rfl⟩
    go_wp2_with fail
    refine (HPA.out _).mono ?_
    rintro e w1 ⟨rfl, rfl⟩
    go_wp2_with fail
    go_ret2
    rw [H.out.1, H.out.2]
    exact TabRes.none rfl (below_drewN HB0.out n)
  clear no
  have hyes : woRB g a = true := by simp [woRB, hs, h2, ha]
  obtain ⟨p1, p2⟩ := inPl_iff.1 ha
  obtain ⟨x, rfl⟩ : ∃ x : Nat, a = x := ⟨a.toNat, by omega⟩
  have HRES : Hid (woRT g (x : Int) = selTab (fun i => i != x) (rowAt g) g.length ∧ woRB g (x : Int) = true) := ⟨by rw [woRT_yes hyes]; rfl, hyes⟩
  rw [ha] at HPA
  have G0 := Lib.hid (GrowsR.lit w (base := w.heap.size) (Nat.le_refl _) (fun _ => none) (fun _ => 0))
  have HR := Lib.hid h
  have HG := Lib.hid hg
  have hg2 := hg.hi
  obtain ⟨i0, hi0, hz0, hz1, hz2⟩ := info_parts infoI
  obtain ⟨i1, hi1, hy0, hy1, hy2⟩ := info_parts infoR
  have HI0 := Lib.hid hi0
  have HZ0 := Lib.hid hz0
  have HZ1 := Lib.hid hz1
  have HZ2 := Lib.hid hz2
  have HI1 := Lib.hid hi1
  have HY0 := Lib.hid hy0
  have HY1 := Lib.hid hy1
  have HY2 := Lib.hid hy2
  clear h hs hg ha hyes hi0 hz0 hz1 hz2 hi1 hy0 hy1 hy2 hb0
  go_enter Try.func24, Try.ntmps24
  go_wp2_with fail
  refine HS.out.mono ?_
  rintro e w1 ⟨rfl, n, rfl⟩
  go_wp2_with fail
  refine (HPA.out _).mono ?_
  rintro e w1 ⟨rfl, rfl⟩
  go_wp2_with fail
  go_loopw [6, 7] (fun v i wr => ∃ k : Nat, k ≤ g.length ∧ i = .int .i64 k ∧ Hid (∃ (A : Nat → Option Addr) (C : Nat → Nat), GrowsR wr w.heap.size wr.heap.size v A C (selTab (fun i => i != x) (rowAt g) k)) ∧ Hid (Below w.heap.size w wr)) (fun _ i _ => g.length - (intOf i).toNat)
  case atStart => exact ⟨0, Nat.zero_le _, rfl, ⟨_, _, (G0.out.drewN n).up (by simp) (Nat.le_refl _)⟩, below_drewN HB0.out n⟩
  case round =>
    obtain ⟨k, hk, rfl, HT, HW⟩ := hrel
    by_cases hlt : k < g.length
    · by_cases hka : k = x
      · have e1 : ((k : Int) != (x : Int)) = false := by simp [hka]
        have hno : Hid (selTab (fun i => i != x) (rowAt g) (k + 1) = selTab (fun i => i != x) (rowAt g) k) := selTab_no (by simp [hka])
        clear hka
        go_wp2_with fail
        go_roundw
        case rel => exact ⟨k + 1, by omega, by go_num, by rw [hno.out]; exact HT.out, HW.out⟩
        case measure => simp [intOf]; omega
      have e1 : ((k : Int) != (x : Int)) = true := by simp; omega
      have hyes : Hid (selTab (fun i => i != x) (rowAt g) (k + 1) = selTab (fun i => i != x) (rowAt g) k ++ [rowAt g k]) := selTab_yes (by simp [hka])
      have hlenT := cnt_le (fun i => i != x) k
      rw [← selTab_length (fun i => i != x) (rowAt g)] at hlenT
      obtain ⟨AA, CC, hgr⟩ := HT.out
      have HGR := Lib.hid hgr
      have hws := HW.out.size
      have hr1 := HG.out.len k hlt
      have hn16 := HG.out.mhi
      have hnlo := HG.out.mlo
      have R2 := keepRows HW.out HR.out
      obtain ⟨bt, ot, rfl⟩ := R2.some (by omega)
      obtain ⟨hSk, Ak, ck, hck, hlk, hmk, hik⟩ := R2.row hlt
      obtain ⟨bk, ok, rfl, hSb, hcells⟩ := hik.at_ (i := 0) (by omega)
      have HN : Hid (∀ j u, (vals (rowAt g k))[j]? = some u → (wr.alloc (.cells #[] 3)).cell? ((⟨bk, ok, none⟩ : Addr).add j) = some u) := news_of fun i hi => (((Below.refl wr.heap.size wr).alloc (Nat.le_refl _) _).cell (p := ⟨bk, ok + i, none⟩) (Nat.lt_of_lt_of_le hSb hws)).trans (hcells i hi)
      have GL := Lib.hid (Grows.lit wr (base := wr.heap.size) (Nat.le_refl _))
      unfold maxLen at hmk
      have hcko : ∀ o, (wr.alloc o).cell? ⟨bt, ot + k, none⟩ = some (.slice (some ⟨bk, ok, none⟩) (rowAt g k).length ck) := fun o => (((Below.refl wr.heap.size wr).alloc (Nat.le_refl _) o).cell (p := ⟨bt, ot + k, none⟩) (Nat.lt_of_lt_of_le hSk hws)).trans hck
      have HR1 := Lib.hid hr1
      have hr16 : (rowAt g k).length ≤ 16 := by omega
      clear hgr HT hka R2 hik hcells hr1
      go_wp2_with (at_builtin; refine wpList_append_own_at _ rfl (.tmp 36) (.tmp 40) _ rfl wr.heap.size 3 i0 (.int .i64 0) 1 8 Try.underlying28 HI0.out HZ0.out HZ1.out HZ2.out rfl (by decide) _ _ _ rfl GL.out ⟨bk, ok, none⟩ (rowAt g k).length ck (vals (rowAt g k)) rfl (by rw [vals_length]; omega) HN.out vals_one ?c3 ?c4 ?c5 ?_)
      case c3 => unfold maxLen; first | omega | (simp; done) | (simp; omega)
      case c4 => first | omega | (simp; done) | (simp; omega)
      case c5 => first | omega | (simp; done) | (simp; omega)
      intro v' w4 hown hgrow _ _
      have hgn : Grows w4 wr.heap.size v' (rowAt g k) := by unfold Grows; simpa [vals] using hown
      have hb4 : Below wr.heap.size wr w4 := ((Below.refl wr.heap.size wr).alloc (Nat.le_refl _) _).grown hgrow (by simp) (fun k hk => by simp [Value.ownBlock] at hk; omega)
      obtain ⟨An, cn, hv, hcn1, hcn2, hon⟩ := hgn.own'
      subst hv
      have HV := Lib.hid hb4
      have HGV := Lib.hid (HGR.out.keep hb4)
      have HON := Lib.hid hon
      have hvs := hb4.size
      clear hown hgrow hgn hb4 hon HN GL
      go_wp2_with (at_builtin; refine wpList_append_own_at _ rfl (.tmp 35) (.tmp 42) _ rfl w.heap.size 28 i1 (.slice none 0 0) 1 24 Try.underlying23 HI1.out HY0.out HY1.out HY2.out rfl (by decide) _ _ _ rfl (HGV.out.alloc _) ⟨w4.heap.size, 0, none⟩ 1 1 [.slice An (rowAt g k).length cn] rfl rfl (cell_one_new _ _ _) ?c2 ?c3 ?c4 ?c5 ?_)
      case c2 => first | rfl | (intro u hu; simp at hu; subst hu; rfl)
      case c3 => unfold maxLen; omega
      case c4 => omega
      case c5 => first | omega | (simp; omega)
      intro v' w5 hown hgrow _ hat
      have HN : Hid (∃ (A : Nat → Option Addr) (C : Nat → Nat), GrowsR w5 w.heap.size w5.heap.size v' A C (selTab (fun i => i != x) (rowAt g) (k + 1))) := by
        rw [hyes.out]
        exact HGV.out.snoc HON.out hcn1 hcn2 hws hown hgrow (by rcases hat with e | e; exact .inl e; exact .inr (by rw [e]; try simp))
      have HW2 : Hid (Below w.heap.size w w5) := HGV.out.below hgrow (belT HW.out HV.out) (Nat.le_refl _) (by omega)
      clear hown hgrow hat
      go_wp2_with fail
      go_roundw
      case rel => exact ⟨k + 1, by omega, by go_num, HN, HW2⟩
      case measure => simp [intOf]; omega
    · obtain rfl : k = g.length := by omega
      obtain ⟨AA, CC, hgr⟩ := HT.out
      rw [← HRES.out.1] at hgr
      obtain ⟨T1, c1, hv1, hcl1, hcl2, hot⟩ := hgr.table
      subst hv1
      have HOT := Lib.hid hot
      clear hgr hot HT
      go_wp2_with fail
      go_ret2
      rw [HRES.out.2]
      exact ⟨T1, c1, rfl, HW.out, HOT.out⟩

end Go.Proofs.Ytpiokclhalkmlaa

namespace Go.Proofs.Ytpiokclhalkmlaa
set_option linter.unusedSimpArgs false
set_option linter.unusedVariables false
open Go.RowKit

theorem turned_max (g : List (List Int)) : (turned g).length ≤ maxLen := by have := (turned_len g).1; unfold maxLen; omega

theorem woRT_max (g : List (List Int)) (a : Int) : (woRT g a).length ≤ maxLen := by have := (woRT_len g a).1; unfold maxLen; omega

theorem woCT_max (g : List (List Int)) (a : Int) : (woCT g a).length ≤ maxLen := by have := (woCT_len g a).1; unfold maxLen; omega

theorem OwnR.reads {w : World} {lo : Nat} {T : Option Addr} {g : List (List Int)} (h : OwnR w lo w.heap.size T g) : Rows2 w (· < w.heap.size) T g := h.rows2.mono fun b hb => hb.2

theorem woCT_turned {g : List (List Int)} (hs : gameB g = true) (a : Int) : woCT g a = turned (woRT (turned g) a) := by
  unfold woCT woRT
  rw [woCB_turned g hs a]
  by_cases h : woRB (turned g) a = true
  · rw [if_pos h, if_pos h]; rfl
  · rw [if_neg h, if_neg h]; rfl

set_option maxHeartbeats 2000000 in
theorem woCol_spec (A : Option Addr) (c : Nat) (g : List (List Int)) (a : Int) (hl : g.length ≤ maxLen) (w : World) (h : Rows2 w (· < w.heap.size) A g) :
    Calls Try.prog 31 #[.slice A g.length c, .int .i64 a] w (TabRes w (woCT g a) (woCB g a)) := by
  have HS := Lib.hid (game_spec A c g _ hl _ h)
  have HR := Lib.hid h
  rcases hs : gameB g with _ | _
  · have e : woCB g a = false := by simp [woCB, hs]
    have H : Hid (woCT g a = [] ∧ woCB g a = false) := ⟨woCT_no e, e⟩
    rw [hs] at HS
    clear hs h e
    go_enter Try.func31, Try.ntmps31
    go_wp2_with fail
    refine HS.out.mono ?_
    rintro e w1 ⟨rfl, n, rfl⟩
    go_wp2_with fail
    go_ret2
    rw [H.out.1, H.out.2]
    exact TabRes.none rfl ((below_drewN (Below.refl _ _) n).alloc (by first | exact Nat.le_refl _ | simp) _)
  have H1 := Lib.hid (woCT_turned hs a)
  have H2 := Lib.hid (woCB_turned g hs a)
  have HTM := Lib.hid (turned_max g)
  have HXM := Lib.hid (woRT_max (turned g) a)
  rw [hs] at HS
  clear hs h
  go_enter Try.func31, Try.ntmps31
  go_wp2_with fail
  refine HS.out.mono ?_
  rintro e w1 ⟨rfl, n, rfl⟩
  have HB1 := Lib.hid (below_drewN (Below.refl w.heap.size w) n)
  have HR1 : Hid (Rows2 (w.drewN n) (· < (w.drewN n).heap.size) A g) := HR.out.drewN n
  go_wp2_with fail
  refine (turned_spec A c g hl _ HR1.out).mono ?_
  rintro e w2 ⟨T, ct, rfl, hb2, ho2⟩
  have HB2 : Hid (Below w.heap.size w w2) := belT HB1.out hb2
  have HR2 := Lib.hid (OwnR.reads ho2)
  clear hb2 ho2
  go_wp2_with fail
  refine (woRow_spec T ct (turned g) a HTM.out w2 HR2.out).mono ?_
  rintro e w3 ⟨X, cx, rfl, hb3, ho3⟩
  have HB3 := Lib.hid (belT HB2.out hb3)
  have HR3 := Lib.hid (OwnR.reads ho3)
  clear hb3 ho3
  rcases hw : woRB (turned g) a with _ | _
  · have H : Hid (woCT g a = [] ∧ woCB g a = false) := by
      have e : woCB g a = false := H2.out.trans hw
      exact ⟨woCT_no e, e⟩
    clear hw
    go_wp2_with fail
    go_ret2
    rw [H.out.1, H.out.2]
    exact TabRes.none rfl (HB3.out.alloc HB3.out.size _)
  · have H3 : Hid (woCB g a = true) := H2.out.trans hw
    clear hw
    go_wp2_with fail
    refine (turned_spec X cx (woRT (turned g) a) HXM.out w3 HR3.out).mono ?_
    rintro e w4 ⟨Z, cz, rfl, hb4, ho4⟩
    rw [← H1.out] at ho4 ⊢
    have HB4 := Lib.hid (belT HB3.out hb4)
    have HO : Hid (OwnR w4 w.heap.size w4.heap.size Z (woCT g a)) := ho4.more HB3.out.size (Nat.le_refl _)
    clear hb4 ho4
    go_wp2_with fail
    go_ret2
    rw [H3.out]
    exact ⟨Z, cz, rfl, HB4.out, HO.out⟩

/-- what a step leaves: a smaller game of its own, or none -/
def StepRes (w : World) (o : Option (List (List Int))) (v : Value) (e : Ending) (w' : World) : Prop :=
  Below w.heap.size w w' ∧ match o with
  | some t => ∃ (T : Option Addr) (c : Nat), e = .returned (.tuple #[.slice T t.length c, .bool true]) ∧ OwnR w' w.heap.size w'.heap.size T t
  | none => e = .returned (.tuple #[v, .bool false])

set_option maxHeartbeats 4000000 in
theorem step_spec (A : Option Addr) (c : Nat) (g : List (List Int)) (hs : gameB g = true) (w : World) (h : Rows2 w (· < w.heap.size) A g) :
    Calls Try.prog 60 #[.slice A g.length c] w (StepRes w (stepO g) (.slice A g.length c)) := by
  have hg := Game.of hs
  have hl16 := hg.hi
  have hl1 := hg.lo
  have hm16 := hg.mhi
  have hl : g.length ≤ maxLen := by unfold maxLen; omega
  have HWR : Hid (∀ (a b : Int) (n : Nat), Calls Try.prog 15 #[.slice A g.length c, .int .i64 a, .int .i64 b] (w.drewN n) (Quiet (.bool (lineB gtB g a b)) (w.drewN n))) := fun a b n => by
    have := worseRow_spec A c g a b _ hl (w.drewN n) (h.drewN n); rwa [wrB_line hs] at this
  have HWO : Hid (∀ (a : Int) (n : Nat), Calls Try.prog 24 #[.slice A g.length c, .int .i64 a] (w.drewN n) (TabRes (w.drewN n) (woRT g a) (woRB g a))) := fun a n => woRow_spec A c g a hl _ (h.drewN n)
  have HWC : Hid (∀ (a b : Int) (w' : World), Below w.heap.size w w' → Calls Try.prog 20 #[.slice A g.length c, .int .i64 a, .int .i64 b] w' (Adds (.bool (lineB ltB (cols g) a b)) w')) := fun a b w' hb => by
    have := worseCol_spec A c g a b hl w' ((keepRows hb h).lt hb.size); rwa [wcB_line hs] at this
  have HWD : Hid (∀ (a : Int) (w' : World), Below w.heap.size w w' → Calls Try.prog 31 #[.slice A g.length c, .int .i64 a] w' (TabRes w' (woCT g a) (woCB g a))) := fun a w' hb => woCol_spec A c g a hl w' ((keepRows hb h).lt hb.size)
  have HROW : Hid (∀ a, fstW gtB g = some a → woRB g (a : Int) = true ∧ stepO g = some (woRT g (a : Int))) := fun a ha => ⟨(fstW_row hs ha).1, by rw [(fstW_row hs ha).2.1]; exact stepO_row ha⟩
  have HCOL : Hid (fstW gtB g = none → ∀ a, fstW ltB (cols g) = some a → woCB g (a : Int) = true ∧ stepO g = some (woCT g (a : Int))) := fun h0 a ha => ⟨(fstW_col hs ha).1, by rw [(fstW_col hs ha).2.1]; exact stepO_col h0 ha⟩
  have HCL := Lib.hid (cols_length g)
  obtain ⟨bt, ot, rfl⟩ := h.some (by omega)
  obtain ⟨hS, A0, c0, hc0, hl0, hm0, _⟩ := h.row (i := 0) (by omega)
  rw [Nat.add_zero] at hc0
  unfold maxLen at hm0
  have HC0 : Hid (∀ w' : World, Below w.heap.size w w' → w'.cell? ⟨bt, ot, none⟩ = some (.slice A0 (rowAt g 0).length c0)) := fun w' hb => (hb.cell (p := ⟨bt, ot, none⟩) hS).trans hc0
  clear hs hg h hc0
  go_enter Try.func60, Try.ntmps60
  go_wp2_with fail
  go_loopw [4] (fun i wr => ∃ k : Nat, k ≤ g.length ∧ i = .int .i64 k ∧ Hid (∀ a, a < k → anyW gtB g a = false) ∧ ∃ n, wr = w.drewN n) (fun i _ => g.length - (intOf i).toNat)
  case atStart => exact ⟨0, Nat.zero_le _, rfl, fun a ha => by omega, (by first | exact ⟨0, rfl⟩ | exact ⟨_, rfl⟩ | exact ⟨_, World.drewN_drewN _ _ _⟩ | (simp only [World.drewN_drewN]; exact ⟨_, rfl⟩))⟩
  case round =>
    obtain ⟨k, hk, rfl, H, n, rfl⟩ := hrel
    by_cases hlt : k < g.length
    · go_wp2_with fail
      go_loopw [5] (fun i wr => ∃ m : Nat, m ≤ g.length ∧ i = .int .i64 m ∧ Hid (∀ b : Nat, b < m → lineB gtB g k b = false) ∧ ∃ n, wr = w.drewN n) (fun i _ => g.length - (intOf i).toNat)
      case atStart => exact ⟨0, Nat.zero_le _, rfl, fun b hb => by omega, (by first | exact ⟨0, rfl⟩ | exact ⟨_, rfl⟩ | exact ⟨_, World.drewN_drewN _ _ _⟩ | (simp only [World.drewN_drewN]; exact ⟨_, rfl⟩))⟩
      case round =>
        obtain ⟨m, hm, rfl, H2, n2, rfl⟩ := hrel
        by_cases hlm : m < g.length
        · go_wp2_with fail
          refine (HWR.out _ _ _).mono ?_
          rintro e w1 ⟨rfl, n3, rfl⟩
          rcases hb : lineB gtB g k m with _ | _
          · have HS : Hid (∀ b : Nat, b < m + 1 → lineB gtB g k b = false) := fun b hbm => by
              by_cases e : b = m
              · subst e; exact hb
              · exact H2.out b (by omega)
            clear hb
            go_wp2_with fail
            go_roundw
            case rel => exact ⟨m + 1, by omega, by go_num, HS, (by first | exact ⟨0, rfl⟩ | exact ⟨_, rfl⟩ | exact ⟨_, World.drewN_drewN _ _ _⟩ | (simp only [World.drewN_drewN]; exact ⟨_, rfl⟩))⟩
            case measure => simp [intOf]; omega
          · have HS : Hid (fstW gtB g = some k) := fstN_some hlt (anyN_iff.2 ⟨m, hlm, hb⟩) H.out
            have HST := Lib.hid (HROW.out k HS.out)
            have HWK : Hid (Calls Try.prog 24 #[.slice (some ⟨bt, ot, none⟩) g.length c, .int .i64 (k : Int)] (w.drewN (n2 + n3)) (TabRes (w.drewN (n2 + n3)) (woRT g (k : Int)) true)) := by
              have := HWO.out (k : Int) (n2 + n3); rw [HST.out.1] at this; exact this
            clear hb
            go_wp2_with fail
            refine HWK.out.mono ?_
            rintro e w2 ⟨T, ct, rfl, hb2, ho2⟩
            have HB2 : Hid (Below w.heap.size w w2) := (below_drewN (Below.refl _ _) (n2 + n3)).trans hb2
            have HO2 : Hid (OwnR w2 w.heap.size w2.heap.size T (woRT g (k : Int))) := ho2
            clear hb2 ho2
            go_wp2_with fail
            go_ret2
            rw [HST.out.2]
            exact ⟨HB2.out, T, ct, rfl, HO2.out⟩
        · obtain rfl : m = g.length := by omega
          have HS : Hid (∀ a, a < k + 1 → anyW gtB g a = false) := fun a ha => by
            by_cases e : a = k
            · subst e; exact anyN_false.2 H2.out
            · exact H.out a (by omega)
          go_wp2_with fail
          go_roundw
          case rel => exact ⟨k + 1, by omega, by go_num, HS, (by first | exact ⟨0, rfl⟩ | exact ⟨_, rfl⟩ | exact ⟨_, World.drewN_drewN _ _ _⟩ | (simp only [World.drewN_drewN]; exact ⟨_, rfl⟩))⟩
          case measure => simp [intOf]; omega
    · obtain rfl : k = g.length := by omega
      have HNO : Hid (fstW gtB g = none) := fstN_none H.out
      have HCOL2 := Lib.hid (HCOL.out HNO.out)
      have HB0 : Hid (Below w.heap.size w (w.drewN n)) := below_drewN (Below.refl _ _) n
      go_wp2_with fail
      go_loopw [6] (fun i wr => ∃ k : Nat, k ≤ (rowAt g 0).length ∧ i = .int .i64 k ∧ Hid (∀ a, a < k → anyW ltB (cols g) a = false) ∧ Hid (Below w.heap.size w wr)) (fun i _ => (rowAt g 0).length - (intOf i).toNat)
      case atStart => exact ⟨0, Nat.zero_le _, rfl, fun a ha => by omega, HB0⟩
      case round =>
        obtain ⟨k, hk, rfl, H, HB⟩ := hrel
        have hc0 := HC0.out _ HB.out
        by_cases hlt : k < (rowAt g 0).length
        · go_wp2_with fail
          clear hc0
          go_loopw [7] (fun i wr => ∃ m : Nat, m ≤ (rowAt g 0).length ∧ i = .int .i64 m ∧ Hid (∀ b : Nat, b < m → lineB ltB (cols g) k b = false) ∧ Hid (Below w.heap.size w wr)) (fun i _ => (rowAt g 0).length - (intOf i).toNat)
          case atStart => exact ⟨0, Nat.zero_le _, rfl, fun b hb => by omega, HB⟩
          case round =>
            obtain ⟨m, hm, rfl, H2, HB2⟩ := hrel
            have hc0 := HC0.out _ HB2.out
            by_cases hlm : m < (rowAt g 0).length
            · go_wp2_with fail
              clear hc0
              refine (HWC.out _ _ _ HB2.out).mono ?_
              rintro e w1 ⟨rfl, hb1⟩
              have HB3 := Lib.hid (belT HB2.out hb1)
              clear hb1
              rcases hb : lineB ltB (cols g) k m with _ | _
              · have HS : Hid (∀ b : Nat, b < m + 1 → lineB ltB (cols g) k b = false) := fun b hbm => by
                  by_cases e : b = m
                  · subst e; exact hb
                  · exact H2.out b (by omega)
                clear hb
                go_wp2_with fail
                go_roundw
                case rel => exact ⟨m + 1, by omega, by go_num, HS, HB3⟩
                case measure => simp [intOf]; omega
              · have HS : Hid (fstW ltB (cols g) = some k) := fstN_some (by rw [HCL.out]; exact hlt) (anyN_iff.2 ⟨m, by rw [HCL.out]; exact hlm, hb⟩) H.out
                have HST := Lib.hid (HCOL2.out k HS.out)
                have HWK : Hid (Calls Try.prog 31 #[.slice (some ⟨bt, ot, none⟩) g.length c, .int .i64 (k : Int)] w1 (TabRes w1 (woCT g (k : Int)) true)) := by
                  have := HWD.out (k : Int) w1 HB3.out; rw [HST.out.1] at this; exact this
                clear hb
                go_wp2_with fail
                refine HWK.out.mono ?_
                rintro e w2 ⟨T, ct, rfl, hb2, ho2⟩
                have HB4 : Hid (Below w.heap.size w w2) := belT HB3.out hb2
                have HO2 : Hid (OwnR w2 w.heap.size w2.heap.size T (woCT g (k : Int))) := ho2.more HB3.out.size (Nat.le_refl _)
                clear hb2 ho2
                go_wp2_with fail
                go_ret2
                rw [HST.out.2]
                exact ⟨HB4.out, T, ct, rfl, HO2.out⟩
            · obtain rfl : m = (rowAt g 0).length := by omega
              have HS : Hid (∀ a, a < k + 1 → anyW ltB (cols g) a = false) := fun a ha => by
                by_cases e : a = k
                · subst e; exact anyN_false.2 (by rw [HCL.out]; exact H2.out)
                · exact H.out a (by omega)
              go_wp2_with fail
              go_roundw
              case rel => exact ⟨k + 1, by omega, by go_num, HS, HB2⟩
              case measure => simp [intOf]; omega
        · obtain rfl : k = (rowAt g 0).length := by omega
          have HNC : Hid (fstW ltB (cols g) = none) := fstN_none (by rw [HCL.out]; exact H.out)
          have HST := Lib.hid (stepO_none HNO.out HNC.out)
          go_wp2_with fail
          go_ret2
          rw [HST.out]
          exact ⟨HB.out, rfl⟩

theorem selTab_all (g : List (List Int)) : selTab (fun _ => true) (rowAt g) g.length = g := by
  rw [selTab_map, sel_all]
  refine ext_rowAt (by simp) fun i hi => ?_
  have hi' : i < g.length := by simpa using hi
  simp [rowAt, hi']

set_option maxHeartbeats 4000000 in
set_option maxRecDepth 100000 in
theorem small_spec (A : Option Addr) (c : Nat) (g : List (List Int)) (hl : g.length ≤ maxLen) (w : World) (h : Rows2 w (· < w.heap.size) A g) :
    Calls Try.prog 34 #[.slice A g.length c] w (NewTable w (small g)) := by
  have HS := Lib.hid (game_spec A c g _ hl _ h)
  rcases hs : gameB g with _ | _
  · have H := Lib.hid (small_no hs)
    rw [hs] at HS
    clear hs h
    go_enter Try.func34, Try.ntmps34
    go_wp2_with fail
    refine HS.out.mono ?_
    rintro e w1 ⟨rfl, n, rfl⟩
    go_wp2_with fail
    go_ret
    rw [H.out]
    exact ⟨_, 0, rfl, (below_drewN (Below.refl _ _) n).alloc (by first | exact Nat.le_refl _ | simp) _, fun h0 => absurd h0 (by simp)⟩
  have hg := Game.of hs
  have HSM : Hid (small g = smT g) := small_yes hs
  have HGB := Lib.hid hs
  rw [hs] at HS
  have HR := Lib.hid h
  have HG := Lib.hid hg
  have hg2 := hg.hi
  have HALL := Lib.hid (selTab_all g)
  obtain ⟨i0, hi0, hz0, hz1, hz2⟩ := info_parts infoI
  obtain ⟨i1, hi1, hy0, hy1, hy2⟩ := info_parts infoR
  have HI0 := Lib.hid hi0
  have HZ0 := Lib.hid hz0
  have HZ1 := Lib.hid hz1
  have HZ2 := Lib.hid hz2
  have HI1 := Lib.hid hi1
  have HY0 := Lib.hid hy0
  have HY1 := Lib.hid hy1
  have HY2 := Lib.hid hy2
  clear h hs hg hi0 hz0 hz1 hz2 hi1 hy0 hy1 hy2
  go_enter Try.func34, Try.ntmps34
  go_wp2_with fail
  refine HS.out.mono ?_
  rintro e w1 ⟨rfl, n, rfl⟩
  have HB0 : Hid (Below w.heap.size w ((w.drewN n).alloc (.cells #[] 28))) := (below_drewN (Below.refl _ _) n).alloc (Nat.le_refl _) _
  have G0 : Hid (GrowsR ((w.drewN n).alloc (.cells #[] 28)) w.heap.size (w.heap.size + 1) (.slice (some ⟨w.heap.size, 0, none⟩) 0 0) (fun _ => none) (fun _ => 0) []) := GrowsR.lit (w.drewN n) (base := w.heap.size) (Nat.le_refl _) (fun _ => none) (fun _ => 0)
  go_wp2_with fail
  go_loopw [3, 4] (fun v i wr => ∃ k : Nat, k ≤ g.length ∧ i = .int .i64 k ∧ Hid (∃ (A : Nat → Option Addr) (C : Nat → Nat), GrowsR wr w.heap.size wr.heap.size v A C (selTab (fun _ => true) (rowAt g) k)) ∧ Hid (Below w.heap.size w wr)) (fun _ i _ => g.length - (intOf i).toNat)
  case atStart => exact ⟨0, Nat.zero_le _, rfl, ⟨_, _, G0.out.up (by simp) (Nat.le_refl _)⟩, HB0.out⟩
  case round =>
    obtain ⟨k, hk, rfl, HT, HW⟩ := hrel
    by_cases hlt : k < g.length
    · have hyes : Hid (selTab (fun _ => true) (rowAt g) (k + 1) = selTab (fun _ => true) (rowAt g) k ++ [rowAt g k]) := selTab_yes rfl
      have hlenT := cnt_le (fun _ => true) k
      rw [← selTab_length (fun _ => true) (rowAt g)] at hlenT
      obtain ⟨AA, CC, hgr⟩ := HT.out
      have HGR := Lib.hid hgr
      have hws := HW.out.size
      have hr1 := HG.out.len k hlt
      have hn16 := HG.out.mhi
      have hnlo := HG.out.mlo
      have R2 := keepRows HW.out HR.out
      obtain ⟨bt, ot, rfl⟩ := R2.some (by omega)
      obtain ⟨hSk, Ak, ck, hck, hlk, hmk, hik⟩ := R2.row hlt
      obtain ⟨bk, ok, rfl, hSb, hcells⟩ := hik.at_ (i := 0) (by omega)
      have HN : Hid (∀ j u, (vals (rowAt g k))[j]? = some u → (wr.alloc (.cells #[] 3)).cell? ((⟨bk, ok, none⟩ : Addr).add j) = some u) := news_of fun i hi => (((Below.refl wr.heap.size wr).alloc (Nat.le_refl _) _).cell (p := ⟨bk, ok + i, none⟩) (Nat.lt_of_lt_of_le hSb hws)).trans (hcells i hi)
      have GL := Lib.hid (Grows.lit wr (base := wr.heap.size) (Nat.le_refl _))
      unfold maxLen at hmk
      have hcko : ∀ o, (wr.alloc o).cell? ⟨bt, ot + k, none⟩ = some (.slice (some ⟨bk, ok, none⟩) (rowAt g k).length ck) := fun o => (((Below.refl wr.heap.size wr).alloc (Nat.le_refl _) o).cell (p := ⟨bt, ot + k, none⟩) (Nat.lt_of_lt_of_le hSk hws)).trans hck
      have hr16 : (rowAt g k).length ≤ 16 := by omega
      clear hgr HT R2 hik hcells hr1
      go_wp2_with (at_builtin; refine wpList_append_own_at _ rfl (.tmp 19) (.tmp 23) _ rfl wr.heap.size 3 i0 (.int .i64 0) 1 8 Try.underlying28 HI0.out HZ0.out HZ1.out HZ2.out rfl (by decide) _ _ _ rfl GL.out ⟨bk, ok, none⟩ (rowAt g k).length ck (vals (rowAt g k)) rfl (by rw [vals_length]; omega) HN.out vals_one ?c3 ?c4 ?c5 ?_)
      all_goals try (first | (unfold maxLen; omega) | (unfold maxLen; simp; omega) | omega | (simp; done) | (simp; omega))
      intro v' w4 hown hgrow _ _
      have hgn : Grows w4 wr.heap.size v' (rowAt g k) := by unfold Grows; simpa [vals] using hown
      have hb4 : Below wr.heap.size wr w4 := ((Below.refl wr.heap.size wr).alloc (Nat.le_refl _) _).grown hgrow (by simp) (fun k hk => by simp [Value.ownBlock] at hk; omega)
      obtain ⟨An, cn, hv, hcn1, hcn2, hon⟩ := hgn.own'
      subst hv
      have HV := Lib.hid hb4
      have HGV := Lib.hid (HGR.out.keep hb4)
      have HON := Lib.hid hon
      have hvs := hb4.size
      clear hown hgrow hgn hb4 hon HN GL
      go_wp2_with (at_builtin; refine wpList_append_own_at _ rfl (.tmp 18) (.tmp 25) _ rfl w.heap.size 28 i1 (.slice none 0 0) 1 24 Try.underlying23 HI1.out HY0.out HY1.out HY2.out rfl (by decide) _ _ _ rfl (HGV.out.alloc _) ⟨w4.heap.size, 0, none⟩ 1 1 [.slice An (rowAt g k).length cn] rfl rfl (cell_one_new _ _ _) ?d2 ?d3 ?d4 ?d5 ?_)
      case d2 => first | rfl | (intro u hu; simp at hu; subst hu; rfl)
      case d3 => unfold maxLen; omega
      case d4 => omega
      case d5 => first | omega | (simp; omega)
      intro v' w5 hown hgrow _ hat
      have HN : Hid (∃ (A : Nat → Option Addr) (C : Nat → Nat), GrowsR w5 w.heap.size w5.heap.size v' A C (selTab (fun _ => true) (rowAt g) (k + 1))) := by
        rw [hyes.out]
        exact HGV.out.snoc HON.out hcn1 hcn2 hws hown hgrow (by rcases hat with e | e; exact .inl e; exact .inr (by rw [e]; try simp))
      have HW2 : Hid (Below w.heap.size w w5) := HGV.out.below hgrow (belT HW.out HV.out) (Nat.le_refl _) (by omega)
      clear hown hgrow hat
      go_wp2_with fail
      go_roundw
      case rel => exact ⟨k + 1, by omega, by go_num, HN, HW2⟩
      case measure => simp [intOf]; omega
    · obtain rfl : k = g.length := by omega
      obtain ⟨AA, CC, hgr⟩ := HT.out
      rw [HALL.out] at hgr
      obtain ⟨T1, c1, hv1, hcl1, hcl2, hot⟩ := hgr.table
      subst hv1
      have HOT := Lib.hid hot
      clear hgr hot HT
      go_wp2_with fail
      go_loopg [3] (szT g) (fun k v wr => ∃ (t : List (List Int)) (T : Option Addr) (ct : Nat), v = .slice T t.length ct ∧ Hid (szT t = k) ∧ Hid (gameB t = true) ∧ Hid (smT t = smT g) ∧ Hid (Below w.heap.size w wr) ∧ Hid (OwnR wr w.heap.size wr.heap.size T t))
      case atStart => exact ⟨g, T1, c1, rfl, rfl, HGB, rfl, HW, HOT⟩
      case round =>
        obtain ⟨t, T, ct, rfl, HK, HGT, HSM2, HB, HO⟩ := hrel
        go_wp2_with fail
        refine (step_spec T ct t HGT.out _ HO.out.reads).mono ?_
        rintro e w2 ⟨hb2, hres⟩
        have HB2 := Lib.hid (belT HB.out hb2)
        rcases hst : stepO t with _ | t2
        · rw [hst] at hres
          dsimp only at hres
          subst hres
          have HE : Hid (small g = t) := by rw [HSM.out, ← HSM2.out]; exact smT_end hst
          have HO2 : Hid (OwnR w2 w.heap.size w2.heap.size T t) := (HO.out.keep fun b _ h2 => hb2.block b h2).more (Nat.le_refl _) hb2.size
          clear hst hb2
          go_wp2_with fail
          go_ret
          rw [HE.out]
          exact ⟨T, ct, rfl, HB2.out, HO2.out⟩
        · rw [hst] at hres
          dsimp only at hres
          obtain ⟨T2, c2, rfl, ho2⟩ := hres
          obtain ⟨g2, z2, _⟩ := stepO_game HGT.out hst
          have HG2 := Lib.hid g2
          have HZ := Lib.hid z2
          have HSM3 : Hid (smT t2 = smT g) := by rw [← smT_step HGT.out hst]; exact HSM2.out
          have HO2 : Hid (OwnR w2 w.heap.size w2.heap.size T2 t2) := ho2.more HB.out.size (Nat.le_refl _)
          clear hst hb2 ho2 g2 z2
          go_wp2_with fail
          go_roundg (szT t2)
          case measure => have := HZ.out; have := HK.out; omega
          case rel => exact ⟨t2, T2, c2, rfl, rfl, HG2, HSM3, HB2, HO2⟩

end Go.Proofs.Ytpiokclhalkmlaa

namespace Go.Proofs.Ytpiokclhalkmlaa
set_option linter.unusedSimpArgs false
set_option linter.unusedVariables false
open Go.RowKit

theorem one_zero {z : Value} (h : z.cells.size = 1) (n : Nat) : (Builtin.zeroCells z.cells n).size = n := by rw [size_zeroCells, h, Nat.mul_one]

theorem grown_own (w : World) (n : Nat) (e : TypeId) (z : Value) (hz : z.cells.size = 1) (hn : n ≤ 4294967296) :
    (w.drew.alloc (.cells (#[] ++ Builtin.zeroCells z.cells n ++ Builtin.zeroCells z.cells (grownCap w n 0 e - n)) e)).ownsRow w.heap.size e 1 (.slice (some ⟨w.heap.size, 0, none⟩) 0 (grownCap w n 0 e)) 0 [] := by
  have h1 := grownCap_ge w n 0 e
  have h2 := grownCap_le_maxLen w n 0 e (by unfold maxLen; omega)
  refine ⟨rfl, .inr ⟨w.heap.size, _, _, rfl, Nat.le_refl _, heap_alloc_new w.drew _, Nat.zero_le _, h2, ?_, by simp⟩⟩
  simp only [Array.size_append, one_zero hz]
  simp; omega

/-- two lists, one behind the other, as far as they are copied -/
def preN {α : Type} (xs ys : List α) (k : Nat) : List α := if k = 0 then [] else if k = 1 then xs else xs ++ ys

theorem own_pre1 {w : World} {base n1 : Nat} {e : TypeId} {v : Value} {xs ys : List Value} (h : w.ownsRow base e 1 v (preN xs ys 1).length (preN xs ys 1)) (hx : xs.length = n1) : w.ownsRow base e 1 v n1 xs := by
  rw [show (preN xs ys 1) = xs from rfl, hx] at h; exact h

theorem own_pre2 {w : World} {base n1 n2 : Nat} {e : TypeId} {v : Value} {xs ys : List Value} (h : w.ownsRow base e 1 v (preN xs ys 2).length (preN xs ys 2)) (hx : xs.length = n1) (hy : ys.length = n2) : w.ownsRow base e 1 v (n1 + n2) (xs ++ ys) := by
  rw [show (preN xs ys 2) = xs ++ ys from rfl, List.length_append, hx, hy] at h; exact h

set_option maxHeartbeats 2000000 in
set_option maxRecDepth 100000 in
theorem growI (n : Nat) (h0 : 0 < n) (hn : n ≤ 1000) (w : World) :
    Calls Try.prog 94 #[.slice none 0 0, .int .i64 (n : Int)] w fun e w' => ∃ v, e = .returned v ∧ Below w.heap.size w w' ∧ w'.ownsRow w.heap.size 3 1 v 0 [] := by
  obtain ⟨i0, hi0, hz0, hz1, hz2⟩ := info_parts infoI
  have hOWN := grown_own w n 3 (.int .i64 0) rfl (by omega)
  have hrz : ∀ ty, (Builtin.append_ #[28, 3] ty #[.slice none 0 0, .int .i64 (n : Int)]).run Try.prog w =
      .ok (.slice (some ⟨w.heap.size, 0, none⟩) n (grownCap w n 0 3)) (w.drew.alloc (.cells (#[] ++ Builtin.zeroCells ((.int .i64 0) : Value).cells n ++ Builtin.zeroCells ((.int .i64 0) : Value).cells (grownCap w n 0 3 - n)) 3)) := fun ty => by
    have h := Lib.run_append_grow_zeros (P := Try.prog) w 28 3 ty 3 i0 (.int .i64 0) .i64 .i64 Try.underlying28 Try.underlying3 hi0 hz0 none 0 0 [] (by exact run_firstCells_none w.drew i0.size 0 0 0) n h0 (by rw [hz1]; decide) (by omega) (by omega)
      (by rw [hz2]; omega) (by rw [hz2]; exact growslice_fits (by omega) (by omega))
    rw [Nat.zero_add] at h
    exact h
  have hG63 : grownCap w n 0 3 ≤ 9223372036854775807 := by
    have := grownCap_le_maxLen w n 0 3 (by unfold maxLen; omega)
    unfold maxLen at this
    omega
  have hGn := grownCap_ge w n 0 3
  obtain ⟨G, hG⟩ : ∃ G, G = grownCap w n 0 3 := ⟨_, rfl⟩
  rw [← hG] at hOWN hrz hG63 hGn
  obtain ⟨W, hW⟩ : ∃ W, W = w.drew.alloc (.cells (#[] ++ Builtin.zeroCells ((.int .i64 0) : Value).cells n ++ Builtin.zeroCells ((.int .i64 0) : Value).cells (G - n)) 3) := ⟨_, rfl⟩
  have HB : Hid (Below w.heap.size w W) := by rw [hW]; exact (Below.refl _ _).drew.alloc (Nat.le_refl _) _
  rw [← hW] at hOWN hrz
  have HO := Lib.hid hOWN
  clear hG hW hOWN hi0 hz0 hz1 hz2
  go_enter Try.func94, Try.ntmps94
  go_wp2_with (at_builtin; refine Lib.wpList_append_run _ rfl _ _ _ _ rfl _ _ rfl rfl _ _ (hrz _) ?_)
  go_ret
  exact ⟨_, rfl, HB.out, HO.out⟩

set_option maxHeartbeats 4000000 in
set_option maxRecDepth 100000 in
theorem concatI (b0 : Nat) (c0 : Nat) (A1 A2 : Addr) (n1 c1 n2 c2 : Nat) (xs ys : List Value) (hx : xs.length = n1) (hy : ys.length = n2) (hn : n1 + n2 ≤ 1000) (h0 : 0 < n1 + n2) (hc1 : n1 ≤ c1) (hc2 : n2 ≤ c2) (hm1 : c1 ≤ maxLen) (hm2 : c2 ≤ maxLen)
    (ox : ∀ u ∈ xs, u.oneCell' = true) (oy : ∀ u ∈ ys, u.oneCell' = true) (w : World) (hb0 : b0 < w.heap.size) (hb1 : A1.block < w.heap.size) (hb2 : A2.block < w.heap.size)
    (k0 : w.cell? ⟨b0, 0, none⟩ = some (.slice (some A1) n1 c1)) (k1 : w.cell? ⟨b0, 1, none⟩ = some (.slice (some A2) n2 c2))
    (hxs : ∀ w', Below w.heap.size w w' → ∀ j u, xs[j]? = some u → w'.cell? (A1.add j) = some u) (hys : ∀ w', Below w.heap.size w w' → ∀ j u, ys[j]? = some u → w'.cell? (A2.add j) = some u) :
    Calls Try.prog 78 #[.slice (some ⟨b0, 0, none⟩) 2 c0] w fun e w' => ∃ v, e = .returned v ∧ Below w.heap.size w w' ∧ w'.ownsRow w.heap.size 3 1 v (n1 + n2) (xs ++ ys) := by
  obtain ⟨i0, hi0, hz0, hz1, hz2⟩ := info_parts infoI
  have HI0 := Lib.hid hi0
  have HZ0 := Lib.hid hz0
  have HZ1 := Lib.hid hz1
  have HZ2 := Lib.hid hz2
  have HXS := Lib.hid hxs
  have HYS := Lib.hid hys
  have HK0 : Hid (∀ w', Below w.heap.size w w' → w'.cell? ⟨b0, 0, none⟩ = some (.slice (some A1) n1 c1)) := fun w' hb => (hb.cell (p := ⟨b0, 0, none⟩) hb0).trans k0
  have HK1 : Hid (∀ w', Below w.heap.size w w' → w'.cell? ⟨b0, 1, none⟩ = some (.slice (some A2) n2 c2)) := fun w' hb => (hb.cell (p := ⟨b0, 1, none⟩) hb0).trans k1
  have HX := Lib.hid hx
  have HY := Lib.hid hy
  have HOX := Lib.hid ox
  have HOY := Lib.hid oy
  unfold maxLen at hm1 hm2
  have cc : ((n1 : Int) + (n2 : Int)) = ((n1 + n2 : Nat) : Int) := by omega
  have HCC := Lib.hid cc
  have s2 : IntKind.i64.wrap ((n1 : Int) + (n2 : Int)) = (n1 : Int) + (n2 : Int) := IntWalk.i64_in _ ⟨by omega, by omega⟩
  have s1 : IntKind.i64.wrap (n1 : Int) = (n1 : Int) := IntWalk.i64_in _ ⟨by omega, by omega⟩
  have HG := Lib.hid (growI (n1 + n2) h0 hn w)
  clear hi0 hz0 hz1 hz2 hxs hys hx hy ox oy cc hb1 hb2
  go_enter Try.func78, Try.ntmps78
  go_wp2_with fail
  go_loop [3, 11] (fun s i => (s = .int .i64 0 ∧ i = .int .i64 0) ∨ (s = .int .i64 n1 ∧ i = .int .i64 1) ∨ (s = .int .i64 ((n1 : Int) + (n2 : Int)) ∧ i = .int .i64 2)) (fun _ i => 2 - (intOf i).toNat)
  case atStart => exact .inl ⟨rfl, rfl⟩
  case round =>
    rcases hrel with ⟨rfl, rfl⟩ | ⟨rfl, rfl⟩ | ⟨rfl, rfl⟩
    · go_wp2_with fail
      go_round
      case rel => exact .inr (.inl ⟨by first | rfl | (simp; done) | go_num, by first | rfl | go_num⟩)
      case measure => simp [intOf]
    · go_wp2_with fail
      go_round
      case rel => exact .inr (.inr ⟨by first | rfl | (simp; done) | go_num, by first | rfl | go_num⟩)
      case measure => simp [intOf]
    · clear k0 k1 s1 s2
      rw [HCC.out]
      go_wp2_with fail
      refine HG.out.mono ?_
      rintro e w1 ⟨v1, rfl, hb1, ho1⟩
      have HB1 := Lib.hid hb1
      have HO1 := Lib.hid ho1
      clear hb1 ho1
      go_wp2_with fail
      go_loopw [6, 27] (fun v i wr => ∃ k : Nat, k ≤ 2 ∧ i = .int .i64 k ∧ Hid (wr.ownsRow w.heap.size 3 1 v (preN xs ys k).length (preN xs ys k)) ∧ Hid (Below w.heap.size w wr)) (fun _ i _ => 2 - (intOf i).toNat)
      case atStart => exact ⟨0, Nat.zero_le _, rfl, HO1.out, HB1⟩
      case round =>
        obtain ⟨k, hk, rfl, HO, HB⟩ := hrel
        have hk3 : k = 0 ∨ k = 1 ∨ k = 2 := by omega
        have hws := HB.out.size
        have kk0 := HK0.out _ HB.out
        have kk1 := HK1.out _ HB.out
        rcases hk3 with rfl | rfl | rfl
        · have HN := Lib.hid (HXS.out _ HB.out)
          clear kk1
          go_wp2_with (at_builtin; refine wpList_append_own_at _ rfl (.tmp 31) (.tmp 32) _ rfl w.heap.size 3 i0 (.int .i64 0) 1 8 Try.underlying28 HI0.out HZ0.out HZ1.out HZ2.out rfl (by decide) _ 0 [] rfl HO.out A1 n1 c1 xs rfl (by rw [HX.out, Nat.mul_one]) HN.out HOX.out (by unfold maxLen; omega) (by omega) hws ?_)
          intro v' w4 hown hgrow _ _
          have HO2 : Hid (w4.ownsRow w.heap.size 3 1 v' (preN xs ys 1).length (preN xs ys 1)) := by
            show w4.ownsRow w.heap.size 3 1 v' xs.length xs
            rw [HX.out]; simpa using hown
          have HB2 : Hid (Below w.heap.size w w4) := HB.out.grown hgrow hws (fun k hk => by have := (World.ownsRow.lt HO.out) k hk; omega)
          clear hown hgrow
          go_wp2_with fail
          go_roundw
          case rel => exact ⟨1, by omega, by go_num, HO2, HB2⟩
          case measure => simp [intOf]
        · have HN := Lib.hid (HYS.out _ HB.out)
          clear kk0
          have HO' := Lib.hid (own_pre1 HO.out HX.out)
          go_wp2_with (at_builtin; refine wpList_append_own_at _ rfl (.tmp 31) (.tmp 32) _ rfl w.heap.size 3 i0 (.int .i64 0) 1 8 Try.underlying28 HI0.out HZ0.out HZ1.out HZ2.out rfl (by decide) _ n1 xs rfl HO'.out A2 n2 c2 ys rfl (by rw [HY.out, Nat.mul_one]) HN.out HOY.out (by unfold maxLen; omega) (by omega) hws ?_)
          intro v' w4 hown hgrow _ _
          have HO2 : Hid (w4.ownsRow w.heap.size 3 1 v' (preN xs ys 2).length (preN xs ys 2)) := by
            show w4.ownsRow w.heap.size 3 1 v' (xs ++ ys).length (xs ++ ys)
            rw [List.length_append, HX.out, HY.out]; exact hown
          have HB2 : Hid (Below w.heap.size w w4) := HB.out.grown hgrow hws (fun k hk => by have := (World.ownsRow.lt HO.out) k hk; omega)
          clear hown hgrow
          go_wp2_with fail
          go_roundw
          case rel => exact ⟨2, by omega, by go_num, HO2, HB2⟩
          case measure => simp [intOf]
        · clear kk0 kk1
          have HO' := Lib.hid (own_pre2 HO.out HX.out HY.out)
          go_wp2_with fail
          go_ret
          exact ⟨_, rfl, HB.out, HO'.out⟩

set_option maxHeartbeats 2000000 in
set_option maxRecDepth 100000 in
theorem growR (n : Nat) (h0 : 0 < n) (hn : n ≤ 1000) (w : World) :
    Calls Try.prog 81 #[.slice none 0 0, .int .i64 (n : Int)] w fun e w' => ∃ v, e = .returned v ∧ Below w.heap.size w w' ∧ w'.ownsRow w.heap.size 28 1 v 0 [] := by
  obtain ⟨i0, hi0, hz0, hz1, hz2⟩ := info_parts infoR
  have hOWN := grown_own w n 28 (.slice none 0 0) rfl (by omega)
  have hrz : ∀ ty, (Builtin.append_ #[23, 3] ty #[.slice none 0 0, .int .i64 (n : Int)]).run Try.prog w =
      .ok (.slice (some ⟨w.heap.size, 0, none⟩) n (grownCap w n 0 28)) (w.drew.alloc (.cells (#[] ++ Builtin.zeroCells ((.slice none 0 0) : Value).cells n ++ Builtin.zeroCells ((.slice none 0 0) : Value).cells (grownCap w n 0 28 - n)) 28)) := fun ty => by
    have h := Lib.run_append_grow_zeros (P := Try.prog) w 23 3 ty 28 i0 (.slice none 0 0) .i64 .i64 Try.underlying23 Try.underlying3 hi0 hz0 none 0 0 [] (by exact run_firstCells_none w.drew i0.size 0 0 0) n h0 (by rw [hz1]; decide) (by omega) (by omega)
      (by rw [hz2]; omega) (by rw [hz2]; exact growslice_fits (by omega) (by omega))
    rw [Nat.zero_add] at h
    exact h
  have hG63 : grownCap w n 0 28 ≤ 9223372036854775807 := by
    have := grownCap_le_maxLen w n 0 28 (by unfold maxLen; omega)
    unfold maxLen at this
    omega
  have hGn := grownCap_ge w n 0 28
  obtain ⟨G, hG⟩ : ∃ G, G = grownCap w n 0 28 := ⟨_, rfl⟩
  rw [← hG] at hOWN hrz hG63 hGn
  obtain ⟨W, hW⟩ : ∃ W, W = w.drew.alloc (.cells (#[] ++ Builtin.zeroCells ((.slice none 0 0) : Value).cells n ++ Builtin.zeroCells ((.slice none 0 0) : Value).cells (G - n)) 28) := ⟨_, rfl⟩
  have HB : Hid (Below w.heap.size w W) := by rw [hW]; exact (Below.refl _ _).drew.alloc (Nat.le_refl _) _
  rw [← hW] at hOWN hrz
  have HO := Lib.hid hOWN
  clear hG hW hOWN hi0 hz0 hz1 hz2
  go_enter Try.func81, Try.ntmps81
  go_wp2_with (at_builtin; refine Lib.wpList_append_run _ rfl _ _ _ _ rfl _ _ rfl rfl _ _ (hrz _) ?_)
  go_ret
  exact ⟨_, rfl, HB.out, HO.out⟩

set_option maxHeartbeats 4000000 in
set_option maxRecDepth 100000 in
theorem concatR (b0 : Nat) (c0 : Nat) (A1 A2 : Addr) (n1 c1 n2 c2 : Nat) (xs ys : List Value) (hx : xs.length = n1) (hy : ys.length = n2) (hn : n1 + n2 ≤ 1000) (h0 : 0 < n1 + n2) (hc1 : n1 ≤ c1) (hc2 : n2 ≤ c2) (hm1 : c1 ≤ maxLen) (hm2 : c2 ≤ maxLen)
    (ox : ∀ u ∈ xs, u.oneCell' = true) (oy : ∀ u ∈ ys, u.oneCell' = true) (w : World) (hb0 : b0 < w.heap.size) (hb1 : A1.block < w.heap.size) (hb2 : A2.block < w.heap.size)
    (k0 : w.cell? ⟨b0, 0, none⟩ = some (.slice (some A1) n1 c1)) (k1 : w.cell? ⟨b0, 1, none⟩ = some (.slice (some A2) n2 c2))
    (hxs : ∀ w', Below w.heap.size w w' → ∀ j u, xs[j]? = some u → w'.cell? (A1.add j) = some u) (hys : ∀ w', Below w.heap.size w w' → ∀ j u, ys[j]? = some u → w'.cell? (A2.add j) = some u) :
    Calls Try.prog 70 #[.slice (some ⟨b0, 0, none⟩) 2 c0] w fun e w' => ∃ v, e = .returned v ∧ Below w.heap.size w w' ∧ w'.ownsRow w.heap.size 28 1 v (n1 + n2) (xs ++ ys) := by
  obtain ⟨i0, hi0, hz0, hz1, hz2⟩ := info_parts infoR
  have HI0 := Lib.hid hi0
  have HZ0 := Lib.hid hz0
  have HZ1 := Lib.hid hz1
  have HZ2 := Lib.hid hz2
  have HXS := Lib.hid hxs
  have HYS := Lib.hid hys
  have HK0 : Hid (∀ w', Below w.heap.size w w' → w'.cell? ⟨b0, 0, none⟩ = some (.slice (some A1) n1 c1)) := fun w' hb => (hb.cell (p := ⟨b0, 0, none⟩) hb0).trans k0
  have HK1 : Hid (∀ w', Below w.heap.size w w' → w'.cell? ⟨b0, 1, none⟩ = some (.slice (some A2) n2 c2)) := fun w' hb => (hb.cell (p := ⟨b0, 1, none⟩) hb0).trans k1
  have HX := Lib.hid hx
  have HY := Lib.hid hy
  have HOX := Lib.hid ox
  have HOY := Lib.hid oy
  unfold maxLen at hm1 hm2
  have cc : ((n1 : Int) + (n2 : Int)) = ((n1 + n2 : Nat) : Int) := by omega
  have HCC := Lib.hid cc
  have s2 : IntKind.i64.wrap ((n1 : Int) + (n2 : Int)) = (n1 : Int) + (n2 : Int) := IntWalk.i64_in _ ⟨by omega, by omega⟩
  have s1 : IntKind.i64.wrap (n1 : Int) = (n1 : Int) := IntWalk.i64_in _ ⟨by omega, by omega⟩
  have HG := Lib.hid (growR (n1 + n2) h0 hn w)
  clear hi0 hz0 hz1 hz2 hxs hys hx hy ox oy cc hb1 hb2
  go_enter Try.func70, Try.ntmps70
  go_wp2_with fail
  go_loop [3, 11] (fun s i => (s = .int .i64 0 ∧ i = .int .i64 0) ∨ (s = .int .i64 n1 ∧ i = .int .i64 1) ∨ (s = .int .i64 ((n1 : Int) + (n2 : Int)) ∧ i = .int .i64 2)) (fun _ i => 2 - (intOf i).toNat)
  case atStart => exact .inl ⟨rfl, rfl⟩
  case round =>
    rcases hrel with ⟨rfl, rfl⟩ | ⟨rfl, rfl⟩ | ⟨rfl, rfl⟩
    · go_wp2_with fail
      go_round
      case rel => exact .inr (.inl ⟨by first | rfl | (simp; done) | go_num, by first | rfl | go_num⟩)
      case measure => simp [intOf]
    · go_wp2_with fail
      go_round
      case rel => exact .inr (.inr ⟨by first | rfl | (simp; done) | go_num, by first | rfl | go_num⟩)
      case measure => simp [intOf]
    · clear k0 k1 s1 s2
      rw [HCC.out]
      go_wp2_with fail
      refine HG.out.mono ?_
      rintro e w1 ⟨v1, rfl, hb1, ho1⟩
      have HB1 := Lib.hid hb1
      have HO1 := Lib.hid ho1
      clear hb1 ho1
      go_wp2_with fail
      go_loopw [6, 27] (fun v i wr => ∃ k : Nat, k ≤ 2 ∧ i = .int .i64 k ∧ Hid (wr.ownsRow w.heap.size 28 1 v (preN xs ys k).length (preN xs ys k)) ∧ Hid (Below w.heap.size w wr)) (fun _ i _ => 2 - (intOf i).toNat)
      case atStart => exact ⟨0, Nat.zero_le _, rfl, HO1.out, HB1⟩
      case round =>
        obtain ⟨k, hk, rfl, HO, HB⟩ := hrel
        have hk3 : k = 0 ∨ k = 1 ∨ k = 2 := by omega
        have hws := HB.out.size
        have kk0 := HK0.out _ HB.out
        have kk1 := HK1.out _ HB.out
        rcases hk3 with rfl | rfl | rfl
        · have HN := Lib.hid (HXS.out _ HB.out)
          clear kk1
          go_wp2_with (at_builtin; refine wpList_append_own_at _ rfl (.tmp 31) (.tmp 32) _ rfl w.heap.size 28 i0 (.slice none 0 0) 1 24 Try.underlying23 HI0.out HZ0.out HZ1.out HZ2.out rfl (by decide) _ 0 [] rfl HO.out A1 n1 c1 xs rfl (by rw [HX.out, Nat.mul_one]) HN.out HOX.out (by unfold maxLen; omega) (by omega) hws ?_)
          intro v' w4 hown hgrow _ _
          have HO2 : Hid (w4.ownsRow w.heap.size 28 1 v' (preN xs ys 1).length (preN xs ys 1)) := by
            show w4.ownsRow w.heap.size 28 1 v' xs.length xs
            rw [HX.out]; simpa using hown
          have HB2 : Hid (Below w.heap.size w w4) := HB.out.grown hgrow hws (fun k hk => by have := (World.ownsRow.lt HO.out) k hk; omega)
          clear hown hgrow
          go_wp2_with fail
          go_roundw
          case rel => exact ⟨1, by omega, by go_num, HO2, HB2⟩
          case measure => simp [intOf]
        · have HN := Lib.hid (HYS.out _ HB.out)
          clear kk0
          have HO' := Lib.hid (own_pre1 HO.out HX.out)
          go_wp2_with (at_builtin; refine wpList_append_own_at _ rfl (.tmp 31) (.tmp 32) _ rfl w.heap.size 28 i0 (.slice none 0 0) 1 24 Try.underlying23 HI0.out HZ0.out HZ1.out HZ2.out rfl (by decide) _ n1 xs rfl HO'.out A2 n2 c2 ys rfl (by rw [HY.out, Nat.mul_one]) HN.out HOY.out (by unfold maxLen; omega) (by omega) hws ?_)
          intro v' w4 hown hgrow _ _
          have HO2 : Hid (w4.ownsRow w.heap.size 28 1 v' (preN xs ys 2).length (preN xs ys 2)) := by
            show w4.ownsRow w.heap.size 28 1 v' (xs ++ ys).length (xs ++ ys)
            rw [List.length_append, HX.out, HY.out]; exact hown
          have HB2 : Hid (Below w.heap.size w w4) := HB.out.grown hgrow hws (fun k hk => by have := (World.ownsRow.lt HO.out) k hk; omega)
          clear hown hgrow
          go_wp2_with fail
          go_roundw
          case rel => exact ⟨2, by omega, by go_num, HO2, HB2⟩
          case measure => simp [intOf]
        · clear kk0 kk1
          have HO' := Lib.hid (own_pre2 HO.out HX.out HY.out)
          go_wp2_with fail
          go_ret
          exact ⟨_, rfl, HB.out, HO'.out⟩

set_option maxHeartbeats 2000000 in
set_option maxRecDepth 100000 in
theorem cloneI (b off c : Nat) (l : List Int) (hl : l.length ≤ 1000) (w : World) (hc : ∀ i, i < l.length → w.cell? ⟨b, off + i, none⟩ = some (.int .i64 (nth l i))) (hb : b < w.heap.size) :
    Calls Try.prog 69 #[.slice (some ⟨b, off, none⟩) l.length c] w fun e w' => ∃ v, e = .returned v ∧ Below w.heap.size w w' ∧ Grows w' w.heap.size v l := by
  obtain ⟨i0, hi0, hz0, hz1, hz2⟩ := info_parts infoI
  have HI0 := Lib.hid hi0
  have HZ0 := Lib.hid hz0
  have HZ1 := Lib.hid hz1
  have HZ2 := Lib.hid hz2
  have HN : Hid (∀ j u, (vals l)[j]? = some u → (w.alloc (.cells #[] 3)).cell? ((⟨b, off, none⟩ : Addr).add j) = some u) := news_of fun i hi => (((Below.refl w.heap.size w).alloc (Nat.le_refl _) _).cell (p := ⟨b, off + i, none⟩) hb).trans (hc i hi)
  have GL := Lib.hid (Grows.lit w (base := w.heap.size) (Nat.le_refl _))
  have qn : ∀ w : World, (binOp .eql 28 (.slice (some ⟨b, off, none⟩) l.length c) (.slice none 0 0)).run Try.prog w = .ok (.bool false) w := fun w => Lib.run_eql_slice_nil w _ _ (some ⟨b, off, none⟩) l.length c 0 0 Try.underlying28
  clear hi0 hz0 hz1 hz2 hc
  go_enter Try.func69, Try.ntmps69
  go_wp2_with (at_builtin; refine wpList_append_own_at _ rfl (.tmp 5) (.tmp 6) _ rfl w.heap.size 3 i0 (.int .i64 0) 1 8 Try.underlying28 HI0.out HZ0.out HZ1.out HZ2.out rfl (by decide) _ _ _ rfl GL.out ⟨b, off, none⟩ l.length c (vals l) rfl (by rw [vals_length]; omega) HN.out vals_one (by unfold maxLen; simp; omega) (by simp; omega) (by simp) ?_)
  intro v' w4 hown hgrow _ _
  have HG : Hid (Grows w4 w.heap.size v' l) := by show Grows _ _ _ _; unfold Grows; simpa [vals] using hown
  have HB : Hid (Below w.heap.size w w4) := ((Below.refl w.heap.size w).alloc (Nat.le_refl _) _).grown hgrow (by simp) (fun k hk => by simp [Value.ownBlock] at hk; omega)
  clear hown hgrow
  go_wp2_with fail
  go_ret
  exact ⟨_, rfl, HB.out, HG.out⟩

end Go.Proofs.Ytpiokclhalkmlaa

namespace Go.Proofs.Ytpiokclhalkmlaa
set_option linter.unusedSimpArgs false
set_option linter.unusedVariables false
open Go.RowKit

/-- the cells from an address on hold the values -/
def CellsV (w : World) (b off : Nat) (xs : List Value) : Prop := ∀ (j : Nat) (u : Value), xs[j]? = some u → w.cell? ⟨b, off + j, none⟩ = some u

theorem CellsV.news {w : World} {b off : Nat} {xs : List Value} (h : CellsV w b off xs) : ∀ j u, xs[j]? = some u → w.cell? ((⟨b, off, none⟩ : Addr).add j) = some u := by
  intro j u hj
  have e : (⟨b, off, none⟩ : Addr).add j = ⟨b, off + j, none⟩ := by
    by_cases e0 : j = 0
    · subst e0; simp [Addr.add]
    · simp [Addr.add, e0]
  rw [e]; exact h j u hj

theorem CellsV.keep {w w' : World} {b off B : Nat} {xs : List Value} (h : CellsV w b off xs) (hb : b < B) (hw : Below B w w') : CellsV w' b off xs :=
  fun j u hj => (hw.cell (p := ⟨b, off + j, none⟩) hb).trans (h j u hj)

theorem CellsV.take {w : World} {b off : Nat} {xs : List Value} (h : CellsV w b off xs) (a : Nat) : CellsV w b off (xs.take a) := fun j u hj => h j u (by
  rw [List.getElem?_take] at hj
  split at hj
  · exact hj
  · cases hj)

theorem CellsV.drop {w : World} {b off : Nat} {xs : List Value} (h : CellsV w b off xs) (k : Nat) : CellsV w b (off + k) (xs.drop k) := fun j u hj => by
  rw [List.getElem?_drop] at hj
  rw [Nat.add_assoc]; exact h _ u hj

theorem CellsV.nil (w : World) (b off : Nat) : CellsV w b off [] := fun j u hj => by simp at hj

/-- where what follows a place begins: at the list's end, where there is no room behind it, the run-time leaves the address -/
theorem tail_at {w : World} {b off n a c : Nat} {xs : List Value} (h : CellsV w b off xs) (hn : xs.length = n) (hc : n ≤ c) (ha : a < n) :
    ∃ A2 : Addr, (if c = a + 1 then (some ⟨b, off, none⟩ : Option Addr) else some ⟨b, off + (a + 1), none⟩) = some A2 ∧ A2.block = b ∧ ∀ (B : Nat) (w' : World), b < B → Below B w w' → ∀ j u, (xs.drop (a + 1))[j]? = some u → w'.cell? (A2.add j) = some u := by
  by_cases e : c = a + 1
  · refine ⟨⟨b, off, none⟩, by rw [if_pos e], rfl, fun B w' hb hw => ?_⟩
    have e2 : xs.drop (a + 1) = [] := List.drop_eq_nil_of_le (by omega)
    rw [e2]; intro j u hj; simp at hj
  · exact ⟨⟨b, off + (a + 1), none⟩, by rw [if_neg e], rfl, fun B w' hb hw => ((h.drop (a + 1)).keep hb hw).news⟩

theorem ownsRow_base {w : World} {b b' : Nat} {e : TypeId} {s n : Nat} {v : Value} {xs : List Value} (h : w.ownsRow b e s v n xs) (hb : b' ≤ b) : w.ownsRow b' e s v n xs := by
  obtain ⟨h1, h2 | ⟨g, cap, cur, k1, k2, k3⟩⟩ := h
  · exact ⟨h1, .inl h2⟩
  · exact ⟨h1, .inr ⟨g, cap, cur, k1, by omega, k3⟩⟩

theorem one_take {xs : List Value} (h : ∀ u ∈ xs, u.oneCell' = true) (a : Nat) : ∀ u ∈ xs.take a, u.oneCell' = true := fun u hu => h u (List.mem_of_mem_take hu)

theorem one_drop {xs : List Value} (h : ∀ u ∈ xs, u.oneCell' = true) (a : Nat) : ∀ u ∈ xs.drop a, u.oneCell' = true := fun u hu => h u (List.mem_of_mem_drop hu)

theorem oneR {A : Nat → Option Addr} {C : Nat → Nat} {g : List (List Int)} : ∀ u ∈ rowVals A C g, u.oneCell' = true := by
  intro u hu
  simp only [rowVals, List.mem_map] at hu
  obtain ⟨x, _, rfl⟩ := hu
  rfl

theorem getD_eq {α : Type} (l : List α) (i : Nat) (d : α) (h : i < l.length) : l[i]? = some (l.getD i d) := by simp [h]

theorem cut_at {α : Type} {l : List α} {a i : Nat} (ha : a < l.length) (hi : i < l.length - 1) : (l.take a ++ l.drop (a + 1))[i]? = l[if i < a then i else i + 1]? := by
  by_cases e : i < a
  · rw [if_pos e, List.getElem?_append_left (by simp; omega), List.getElem?_take, if_pos e]
  · rw [if_neg e, List.getElem?_append_right (by simp; omega), List.getElem?_drop]
    congr 1; simp; omega

theorem cut_vals {l : List Int} {a : Nat} (ha : a < l.length) : (vals l).take a ++ (vals l).drop (a + 1) = vals (selRow (fun j => j != a) (nth l) l.length) := by
  have e : selRow (fun j => j != a) (nth l) l.length = l.take a ++ l.drop (a + 1) := by
    refine ext_nth (by rw [selRow_length, cnt_ne, if_pos ha]; simp; omega) fun i hi => ?_
    rw [selRow_length, cnt_ne, if_pos ha] at hi
    rw [nth_selRow_ne ha hi]
    unfold nth
    rw [List.getD_eq_getElem?_getD, List.getD_eq_getElem?_getD, cut_at ha hi]
  rw [e]; simp [vals, List.map_take, List.map_drop]

set_option maxHeartbeats 4000000 in
set_option maxRecDepth 100000 in
theorem withoutI (b off c : Nat) (xs : List Value) (n a : Nat) (hn : xs.length = n) (ha : a < n) (h2 : 2 ≤ n) (h16 : n ≤ 16) (hc1 : n ≤ c) (hcm : c ≤ maxLen) (ox : ∀ u ∈ xs, u.oneCell' = true) (w : World) (hb : b < w.heap.size) (hcells : CellsV w b off xs) :
    Calls Try.prog 58 #[.slice (some ⟨b, off, none⟩) n c, .int .i64 (a : Int)] w fun e w' => ∃ v, e = .returned v ∧ Below w.heap.size w w' ∧ w'.ownsRow w.heap.size 3 1 v (n - 1) (xs.take a ++ xs.drop (a + 1)) := by
  have hcm' := hcm
  unfold maxLen at hcm
  have s1 : IntKind.i64.wrap ((a : Int) + 1) = (a : Int) + 1 := IntWalk.i64_in _ (by omega)
  have s0 : (0 : Int) ≤ (a : Int) + 1 := by omega
  have s2 : ((a : Int) + 1).toNat = a + 1 := by omega
  have s3 : (a : Int) + 1 ≤ (n : Int) := by omega
  have s4 : (a : Int) ≤ (c : Int) := by omega
  obtain ⟨A2, hA2, hA2b, hA2c⟩ := tail_at hcells hn hc1 ha
  have HCON : Hid (Calls Try.prog 78 #[.slice (some ⟨w.heap.size, 0, none⟩) 2 2] (w.alloc (.cells #[.slice (some ⟨b, off, none⟩) a c, .slice (some A2) (n - (a + 1)) (c - (a + 1))] 28)).drew
      fun e w' => ∃ v, e = .returned v ∧ Below w.heap.size w w' ∧ w'.ownsRow w.heap.size 3 1 v (n - 1) (xs.take a ++ xs.drop (a + 1))) := by
    obtain ⟨W, hW⟩ : ∃ W, W = (w.alloc (.cells #[.slice (some ⟨b, off, none⟩) a c, .slice (some A2) (n - (a + 1)) (c - (a + 1))] 28)).drew := ⟨_, rfl⟩
    have hBW : Below w.heap.size w W := by rw [hW]; exact ((Below.refl _ _).alloc (Nat.le_refl _) _).drew
    have hz : W.heap.size = w.heap.size + 1 := by rw [hW]; simp [World.drew]
    have hrow : W.rowIs w.heap.size 28 2 (fun i => if i = 0 then .slice (some ⟨b, off, none⟩) a c else .slice (some A2) (n - (a + 1)) (c - (a + 1))) := by
      rw [hW]
      exact (World.rowIs_alloc w #[.slice (some ⟨b, off, none⟩) a c, .slice (some A2) (n - (a + 1)) (c - (a + 1))] 28 _ (fun i hi => by
        have : i = 0 ∨ i = 1 := by simp at hi; omega
        rcases this with rfl | rfl <;> rfl)).drew
    rw [← hW]
    have k0 := hrow.cell (i := 0) (by omega)
    have k1 := hrow.cell (i := 1) (by omega)
    have key := concatI w.heap.size 2 ⟨b, off, none⟩ A2 a c (n - (a + 1)) (c - (a + 1)) (xs.take a) (xs.drop (a + 1)) (by simp; omega) (by simp; omega) (by omega) (by omega) (by omega) (by omega) hcm' (by omega) (one_take ox a) (one_drop ox _) W (by omega) (by show b < _; omega) (by rw [hA2b]; omega) k0 k1
      (fun w' hw' => (((hcells.keep hb hBW).take a).keep (B := W.heap.size) (by omega) hw').news)
      (fun w' hw' => hA2c w.heap.size w' hb (hBW.trans (hw'.mono (by omega))))
    refine key.mono ?_
    rintro e w' ⟨v, rfl, hb', ho'⟩
    refine ⟨v, rfl, hBW.trans (hb'.mono (by omega)), ?_⟩
    have ho2 := ownsRow_base ho' (b' := w.heap.size) (by omega)
    rwa [show a + (n - (a + 1)) = n - 1 from by omega] at ho2
  clear hcells hA2c hA2b ox hcm' hn
  go_enter Try.func58, Try.ntmps58
  go_wp2_with fail
  go_region_with (go_at_call 78; refine HCON.out.mono ?_; rintro e w1 ⟨v, rfl, hb1, ho1⟩; have HB1 := Lib.hid hb1; have HO1 := Lib.hid ho1; clear hb1 ho1)
  all_goals go_wp2_with fail
  all_goals go_ret
  all_goals exact ⟨v, rfl, HB1.out, HO1.out⟩

set_option maxHeartbeats 4000000 in
set_option maxRecDepth 100000 in
theorem withoutR (b off c : Nat) (xs : List Value) (n a : Nat) (hn : xs.length = n) (ha : a < n) (h2 : 2 ≤ n) (h16 : n ≤ 16) (hc1 : n ≤ c) (hcm : c ≤ maxLen) (ox : ∀ u ∈ xs, u.oneCell' = true) (w : World) (hb : b < w.heap.size) (hcells : CellsV w b off xs) :
    Calls Try.prog 53 #[.slice (some ⟨b, off, none⟩) n c, .int .i64 (a : Int)] w fun e w' => ∃ v, e = .returned v ∧ Below w.heap.size w w' ∧ w'.ownsRow w.heap.size 28 1 v (n - 1) (xs.take a ++ xs.drop (a + 1)) := by
  have hcm' := hcm
  unfold maxLen at hcm
  have s1 : IntKind.i64.wrap ((a : Int) + 1) = (a : Int) + 1 := IntWalk.i64_in _ (by omega)
  have s0 : (0 : Int) ≤ (a : Int) + 1 := by omega
  have s2 : ((a : Int) + 1).toNat = a + 1 := by omega
  have s3 : (a : Int) + 1 ≤ (n : Int) := by omega
  have s4 : (a : Int) ≤ (c : Int) := by omega
  obtain ⟨A2, hA2, hA2b, hA2c⟩ := tail_at hcells hn hc1 ha
  have HCON : Hid (Calls Try.prog 70 #[.slice (some ⟨w.heap.size, 0, none⟩) 2 2] (w.alloc (.cells #[.slice (some ⟨b, off, none⟩) a c, .slice (some A2) (n - (a + 1)) (c - (a + 1))] 23)).drew
      fun e w' => ∃ v, e = .returned v ∧ Below w.heap.size w w' ∧ w'.ownsRow w.heap.size 28 1 v (n - 1) (xs.take a ++ xs.drop (a + 1))) := by
    obtain ⟨W, hW⟩ : ∃ W, W = (w.alloc (.cells #[.slice (some ⟨b, off, none⟩) a c, .slice (some A2) (n - (a + 1)) (c - (a + 1))] 23)).drew := ⟨_, rfl⟩
    have hBW : Below w.heap.size w W := by rw [hW]; exact ((Below.refl _ _).alloc (Nat.le_refl _) _).drew
    have hz : W.heap.size = w.heap.size + 1 := by rw [hW]; simp [World.drew]
    have hrow : W.rowIs w.heap.size 23 2 (fun i => if i = 0 then .slice (some ⟨b, off, none⟩) a c else .slice (some A2) (n - (a + 1)) (c - (a + 1))) := by
      rw [hW]
      exact (World.rowIs_alloc w #[.slice (some ⟨b, off, none⟩) a c, .slice (some A2) (n - (a + 1)) (c - (a + 1))] 23 _ (fun i hi => by
        have : i = 0 ∨ i = 1 := by simp at hi; omega
        rcases this with rfl | rfl <;> rfl)).drew
    rw [← hW]
    have k0 := hrow.cell (i := 0) (by omega)
    have k1 := hrow.cell (i := 1) (by omega)
    have key := concatR w.heap.size 2 ⟨b, off, none⟩ A2 a c (n - (a + 1)) (c - (a + 1)) (xs.take a) (xs.drop (a + 1)) (by simp; omega) (by simp; omega) (by omega) (by omega) (by omega) (by omega) hcm' (by omega) (one_take ox a) (one_drop ox _) W (by omega) (by show b < _; omega) (by rw [hA2b]; omega) k0 k1
      (fun w' hw' => (((hcells.keep hb hBW).take a).keep (B := W.heap.size) (by omega) hw').news)
      (fun w' hw' => hA2c w.heap.size w' hb (hBW.trans (hw'.mono (by omega))))
    refine key.mono ?_
    rintro e w' ⟨v, rfl, hb', ho'⟩
    refine ⟨v, rfl, hBW.trans (hb'.mono (by omega)), ?_⟩
    have ho2 := ownsRow_base ho' (b' := w.heap.size) (by omega)
    rwa [show a + (n - (a + 1)) = n - 1 from by omega] at ho2
  clear hcells hA2c hA2b ox hcm' hn
  go_enter Try.func53, Try.ntmps53
  go_wp2_with fail
  go_region_with (go_at_call 70; refine HCON.out.mono ?_; rintro e w1 ⟨v, rfl, hb1, ho1⟩; have HB1 := Lib.hid hb1; have HO1 := Lib.hid ho1; clear hb1 ho1)
  all_goals go_wp2_with fail
  all_goals go_ret
  all_goals exact ⟨v, rfl, HB1.out, HO1.out⟩

end Go.Proofs.Ytpiokclhalkmlaa

namespace Go.Proofs.Ytpiokclhalkmlaa
set_option linter.unusedSimpArgs false
set_option linter.unusedVariables false
open Go.RowKit

/-- while rows are stored that calls have made: the first k are there -/
structure Copying (w wr : World) (g : List (List Int)) (A : Nat → Option Addr) (C : Nat → Nat) (k : Nat) : Prop where
  bel : Below w.heap.size w wr
  size : w.heap.size < wr.heap.size
  top : wr.rowIs w.heap.size 28 g.length (fun j => if j < k then .slice (A j) (rowAt g j).length (C j) else .slice none 0 0)
  cap : ∀ i, i < k → (rowAt g i).length ≤ C i ∧ C i ≤ maxLen
  own : ∀ i, i < k → OwnI wr (w.heap.size + 1) wr.heap.size (A i) (rowAt g i)
  apart : ∀ i j, i < k → j < k → i ≠ j → 0 < (rowAt g i).length → 0 < (rowAt g j).length → A i ≠ A j

theorem Copying.start (w : World) (g : List (List Int)) (A : Nat → Option Addr) (C : Nat → Nat) : Copying w (w.alloc (.cells (madeCells #[.slice none 0 0] g.length) 28)) g A C 0 :=
  ⟨(Below.refl _ _).alloc (Nat.le_refl _) _, by simp, (World.rowIs_made w _ _ _).congr (fun j _ => by simp), fun i hi => absurd hi (Nat.not_lt_zero _), fun i hi => absurd hi (Nat.not_lt_zero _), fun i j hi => absurd hi (Nat.not_lt_zero _)⟩

theorem OwnI.setCell {w : World} {lo hi p o : Nat} {A : Option Addr} {l : List Int} (h : OwnI w lo hi A l) (hp : p < lo) (v : Value) : OwnI (w.setCell ⟨p, o, none⟩ v) lo hi A l := by
  intro h0
  obtain ⟨b, N, f, e, h1, h2, h3, h4, h5⟩ := h h0
  exact ⟨b, N, f, e, h1, h2, h3.setOther (by show b ≠ p; omega) _, h4, h5⟩

theorem Copying.next {w wr w2 : World} {g : List (List Int)} {A : Nat → Option Addr} {C : Nat → Nat} {k cn : Nat} {An : Option Addr} (h : Copying w wr g A C k) (hb : Below wr.heap.size wr w2)
    (ho : OwnI w2 wr.heap.size w2.heap.size An (rowAt g k)) (c1 : (rowAt g k).length ≤ cn) (c2 : cn ≤ maxLen) :
    ∃ (A' : Nat → Option Addr) (C' : Nat → Nat), Copying w (w2.setCell ⟨w.heap.size, k, none⟩ (.slice An (rowAt g k).length cn)) g A' C' (k + 1) := by
  have hs := hb.size
  have hz := h.size
  have hss : (w2.setCell ⟨w.heap.size, k, none⟩ (.slice An (rowAt g k).length cn)).heap.size = w2.heap.size := by simp [World.setCell]
  refine ⟨fun i => if i < k then A i else An, fun i => if i < k then C i else cn, (h.bel.trans (hb.mono (by omega))).setCell (Nat.le_refl _) _, by rw [hss]; omega, ((h.top.of_block (hb.block _ hz)).set k _).congr (fun j _ => ?_), fun i hi => ?_, fun i hi => ?_, fun i j hi hj hne p q => ?_⟩
  · by_cases e : j = k
    · subst e; rw [if_pos rfl, if_pos (Nat.lt_succ_self _), if_neg (Nat.lt_irrefl _), if_neg (Nat.lt_irrefl _)]
    · rw [if_neg e]
      by_cases hlt : j < k
      · rw [if_pos hlt, if_pos (by omega), if_pos hlt, if_pos hlt]
      · rw [if_neg hlt, if_neg (by omega)]
  · by_cases e : i < k
    · rw [if_pos e]; exact h.cap i e
    · obtain rfl : i = k := by omega
      rw [if_neg e]; exact ⟨c1, c2⟩
  · rw [hss]
    refine OwnI.setCell ?_ (by omega) _
    by_cases e : i < k
    · rw [if_pos e]; exact ((h.own i e).keep fun b _ h2 => hb.block b h2).more (Nat.le_refl _) hs
    · obtain rfl : i = k := by omega
      rw [if_neg e]; exact ho.more (by omega) (Nat.le_refl _)
  · by_cases ei : i < k
    · by_cases ej : j < k
      · rw [if_pos ei, if_pos ej]; exact h.apart i j ei ej hne p q
      · obtain rfl : j = k := by omega
        rw [if_pos ei, if_neg ej]
        obtain ⟨b1, _, _, e1, _, k1, _⟩ := h.own i ei p
        obtain ⟨b2, _, _, e2, k2, _, _⟩ := ho q
        rw [e1, e2]; intro e; injection e with e; injection e with e; omega
    · obtain rfl : i = k := by omega
      have ej : j < i := by omega
      rw [if_neg ei, if_pos ej]
      obtain ⟨b1, _, _, e1, _, k1, _⟩ := h.own j ej q
      obtain ⟨b2, _, _, e2, k2, _, _⟩ := ho p
      rw [e1, e2]; intro e; injection e with e; injection e with e; omega

theorem Copying.done {w wr : World} {g : List (List Int)} {A : Nat → Option Addr} {C : Nat → Nat} (h : Copying w wr g A C g.length) : OwnR wr w.heap.size wr.heap.size (some ⟨w.heap.size, 0, none⟩) g :=
  fun _ => ⟨w.heap.size, g.length, _, A, C, rfl, Nat.le_refl _, h.size, Nat.le_refl _, h.top, fun i hi => by rw [if_pos hi], ⟨h.cap, fun i hi => (h.own i hi).more (by omega) (Nat.le_refl _), h.apart⟩⟩

/-- a table of the call's own, its capacity that of a slice -/
def NewTableC (w : World) (g : List (List Int)) (e : Ending) (w' : World) : Prop :=
  ∃ (T : Option Addr) (c : Nat), e = .returned (.slice T g.length c) ∧ g.length ≤ c ∧ c ≤ maxLen ∧ Below w.heap.size w w' ∧ OwnR w' w.heap.size w'.heap.size T g

def TabResC (w : World) (g : List (List Int)) (b : Bool) (e : Ending) (w' : World) : Prop :=
  ∃ (T : Option Addr) (c : Nat), e = .returned (.tuple #[.slice T g.length c, .bool b]) ∧ g.length ≤ c ∧ c ≤ maxLen ∧ Below w.heap.size w w' ∧ OwnR w' w.heap.size w'.heap.size T g

theorem NewTableC.plain {w w' : World} {g : List (List Int)} {e : Ending} (h : NewTableC w g e w') : NewTable w g e w' := by
  obtain ⟨T, c, he, _, _, hb, ho⟩ := h; exact ⟨T, c, he, hb, ho⟩

theorem TabResC.plain {w w' : World} {g : List (List Int)} {b : Bool} {e : Ending} (h : TabResC w g b e w') : TabRes w g b e w' := by
  obtain ⟨T, c, he, _, _, hb, ho⟩ := h; exact ⟨T, c, he, hb, ho⟩

theorem TabResC.none {w w' : World} {b : Bool} {x : Value} (hx : x = .tuple #[.slice none 0 0, .bool b]) (hb : Below w.heap.size w w') : TabResC w [] b (.returned x) w' :=
  ⟨Option.none, 0, by rw [hx]; rfl, Nat.le_refl _, Nat.zero_le _, hb, fun h => absurd h (by simp)⟩

set_option maxHeartbeats 2000000 in
set_option maxRecDepth 100000 in
theorem copied (T : Option Addr) (c : Nat) (g : List (List Int)) (h0 : 0 < g.length) (hl : g.length ≤ 16) (hr : ∀ i, i < g.length → 0 < (rowAt g i).length ∧ (rowAt g i).length ≤ 16) (w : World) (h : Rows2 w (· < w.heap.size) T g) :
    Calls Try.prog 52 #[.slice T g.length c] w (NewTableC w g) := by
  have hmk := run_make_row' (P := Try.prog) 23 28 _ 24 Try.underlying23 infoR rfl .i64 .i64 g.length (by omega) (by omega)
  obtain ⟨bt, ot, rfl⟩ := h.some h0
  have HR := Lib.hid h
  have HRL := Lib.hid hr
  have F0 := Lib.hid (Copying.start w g (fun _ => none) (fun _ => 0))
  clear h hr
  go_enter Try.func52, Try.ntmps52
  go_wp2_with fail
  clear hmk
  go_loopw [11] (fun i wr => ∃ k : Nat, k ≤ g.length ∧ i = .int .i64 k ∧ Hid (∃ A C, Copying w wr g A C k)) (fun i _ => g.length - (intOf i).toNat)
  case atStart => exact ⟨0, Nat.zero_le _, rfl, ⟨_, _, F0.out⟩⟩
  case round =>
    obtain ⟨k, hk, rfl, HF⟩ := hrel
    obtain ⟨A, C, hF⟩ := HF.out
    have HF2 := Lib.hid hF
    clear HF hF
    by_cases hlt : k < g.length
    · have R := keepRows HF2.out.bel HR.out
      obtain ⟨hS, Ak, ck, hck, hlk, hmk, hik⟩ := R.row hlt
      obtain ⟨bk, ok, rfl, hSk, hcells⟩ := hik.at_ (i := 0) (HRL.out k hlt).1
      have HC := Lib.hid hcells
      have hsz := HF2.out.size
      unfold maxLen at hmk
      clear R hik hcells
      go_wp2_with fail
      refine (cloneI bk ok ck (rowAt g k) (by have := (HRL.out k hlt).2; omega) _ HC.out (by omega)).mono ?_
      rintro e w1 ⟨v, rfl, hb1, hg1⟩
      obtain ⟨An, cn, rfl, hcn1, hcn2, hon⟩ := hg1.own'
      have hcell := (HF2.out.top.of_block (hb1.block _ hsz)).cell (i := k) hlt
      rw [if_neg (by omega)] at hcell
      have hfr := (HF2.out.top.of_block (hb1.block _ hsz)).frozen k
      have HN : Hid (∃ A C, Copying w (w1.setCell ⟨w.heap.size, k, none⟩ (.slice An (rowAt g k).length cn)) g A C (k + 1)) := HF2.out.next hb1 hon hcn1 hcn2
      clear hb1 hg1 hon hcn1 hcn2
      go_wp2_with fail
      go_roundw
      case rel => exact ⟨k + 1, by omega, by go_num, HN⟩
      case measure => simp [intOf]; omega
    · obtain rfl : k = g.length := by omega
      have HO := Lib.hid HF2.out.done
      go_wp2_with fail
      go_ret
      exact ⟨_, g.length, rfl, Nat.le_refl _, by unfold maxLen; omega, HF2.out.bel, HO.out⟩

/-- a table's outer cells, by functions -/
theorem rows_funs {w : World} {S : Nat → Prop} {b off : Nat} {g : List (List Int)} (h : Rows2 w S (some ⟨b, off, none⟩) g) :
    ∃ (A : Nat → Option Addr) (C : Nat → Nat), CellsV w b off (rowVals A C g) ∧ ∀ i, i < g.length → (rowAt g i).length ≤ C i ∧ C i ≤ maxLen ∧ Ints w S (A i) (rowAt g i) := by
  have key : ∀ i : Nat, ∃ p : Option Addr × Nat, i < g.length → w.cell? ⟨b, off + i, none⟩ = some (.slice p.1 (rowAt g i).length p.2) ∧ (rowAt g i).length ≤ p.2 ∧ p.2 ≤ maxLen ∧ Ints w S p.1 (rowAt g i) := fun i => by
    by_cases hi : i < g.length
    · obtain ⟨_, A, c, h1, h2, h3, h4⟩ := h.row hi
      exact ⟨(A, c), fun _ => ⟨h1, h2, h3, h4⟩⟩
    · exact ⟨(none, 0), fun h => absurd h hi⟩
  refine ⟨fun i => (Classical.choose (key i)).1, fun i => (Classical.choose (key i)).2, fun j u hj => ?_, fun i hi => (Classical.choose_spec (key i) hi).2⟩
  have hlt : j < g.length := by
    have := (List.getElem?_eq_some_iff.1 hj).1; rwa [rowVals_length] at this
  rw [rowVals_get _ _ _ _ hlt] at hj
  injection hj with hj
  subst hj
  exact (Classical.choose_spec (key j) hlt).1

set_option maxHeartbeats 1000000 in
theorem withoutT (T : Option Addr) (c : Nat) (g : List (List Int)) (a : Nat) (h2 : 2 ≤ g.length) (hl : g.length ≤ 16) (hc1 : g.length ≤ c) (hcm : c ≤ maxLen) (ha : a < g.length) (w : World) (h : Rows2 w (· < w.heap.size) T g) :
    Calls Try.prog 53 #[.slice T g.length c, .int .i64 (a : Int)] w fun e w' => ∃ (T' : Option Addr) (c' : Nat), e = .returned (.slice T' (woRow g a).length c') ∧ Below w.heap.size w w' ∧ Rows2 w' (· < w'.heap.size) T' (woRow g a) := by
  obtain ⟨bt, ot, rfl⟩ := h.some (by omega)
  have hb : bt < w.heap.size := (h.row (i := 0) (by omega)).1
  obtain ⟨A, C, hcv, hAC⟩ := rows_funs h
  refine (withoutR bt ot c (rowVals A C g) g.length a (rowVals_length _ _ _) ha h2 hl hc1 hcm oneR w hb hcv).mono ?_
  rintro e w1 ⟨v, rfl, hb1, ho1⟩
  have hwl := woRow_length ha
  obtain ⟨_, ⟨rfl, hz⟩ | ⟨gb, cap, cur, rfl, hgb, hcur, hcap, hmax, hsz, htk⟩⟩ := ho1
  · omega
  refine ⟨some ⟨gb, 0, none⟩, cap, by rw [hwl], hb1, fun _ => ⟨gb, 0, rfl, (Array.getElem?_eq_some_iff.1 hcur).1, fun i hi => ?_⟩⟩
  rw [hwl] at hi
  have hrow := woRow_row ha hi
  have hj : (if i < a then i else i + 1) < g.length := by split <;> omega
  obtain ⟨q1, q2, q3⟩ := hAC _ hj
  have hcell : w1.cell? ⟨gb, 0 + i, none⟩ = some (.slice (A (if i < a then i else i + 1)) (rowAt g (if i < a then i else i + 1)).length (C (if i < a then i else i + 1))) := by
    have hRI : w1.rowIs gb 28 cur.size (fun i => cur.getD i undef) := ⟨cur, hcur, rfl, fun i hi => by simp [hi]⟩
    have e := cut_at (l := rowVals A C g) (a := a) (i := i) (by rw [rowVals_length]; exact ha) (by rw [rowVals_length]; exact hi)
    rw [rowVals_get _ _ _ _ hj, ← htk, List.getElem?_take, if_pos (by omega)] at e
    rw [Nat.zero_add, hRI.cell (i := i) (by omega)]
    have e' : cur[i]? = some (.slice (A (if i < a then i else i + 1)) (rowAt g (if i < a then i else i + 1)).length (C (if i < a then i else i + 1))) := by simpa using e
    simp [Array.getD_eq_getD_getElem?, e']
  rw [← hrow] at hcell q1 q3
  exact ⟨_, _, hcell, q1, q2, (keepInts hb1 q3).lt hb1.size⟩

set_option maxHeartbeats 1000000 in
theorem woRow_impl (T : Option Addr) (c : Nat) (g : List (List Int)) (a : Int) (hl : g.length ≤ maxLen) (hc1 : g.length ≤ c) (hcm : c ≤ maxLen) (w : World) (h : Rows2 w (· < w.heap.size) T g) :
    Calls Try.prog 23 #[.slice T g.length c, .int .i64 a] w (TabResC w (woRT g a) (woRB g a)) := by
  have HS := Lib.hid (game_impl T c g _ hl w h)
  have hl' := hl
  unfold maxLen at hl'
  have HP : Hid (∀ w' : World, Calls Try.prog 51 #[.int .i64 a, .int .i64 (g.length : Int)] w' (Same (.bool (inPl a g.length)) w')) := fun w' => placeOk a _ (by omega) w'
  have no : woRB g a = false → Hid (woRT g a = [] ∧ woRB g a = false) := fun e => ⟨woRT_no e, e⟩
  rcases hs : gameB g with _ | _
  · have H := no (by simp [woRB, hs])
    rw [hs] at HS
    clear hs no h
    go_enter Try.func23, Try.ntmps23
    go_wp2_with fail
    refine HS.out.mono ?_
    rintro e w1 ⟨rfl, rfl⟩
    go_wp2_with fail
    go_ret2
    rw [H.out.1, H.out.2]
    exact TabResC.none rfl (Below.refl _ _)
  have hg := Game.of hs
  have hlo := hg.lo
  have hhi := hg.hi
  have hmlo := hg.mlo
  have hmhi := hg.mhi
  by_cases h1 : g.length = 1
  · have H := no (by simp [woRB, h1])
    have e1 : ((g.length : Int) == 1) = true := by simp [h1]
    rw [hs] at HS
    clear hs no h hg h1
    go_enter Try.func23, Try.ntmps23
    go_wp2_with fail
    refine HS.out.mono ?_
    rintro e w1 ⟨rfl, rfl⟩
    go_wp2_with fail
    go_ret2
    rw [H.out.1, H.out.2]
    exact TabResC.none rfl (Below.refl _ _)
  have h2 : 2 ≤ g.length := by omega
  have e1 : ((g.length : Int) == 1) = false := by rw [beq_eq_false_iff_ne]; omega
  rcases ha : inPl a g.length with _ | _
  · have H := no (by simp [woRB, ha])
    rw [hs] at HS
    rw [ha] at HP
    clear hs no h hg h1 ha
    go_enter Try.func23, Try.ntmps23
    go_wp2_with fail
    refine HS.out.mono ?_
    rintro e w1 ⟨rfl, rfl⟩
    go_wp2_with fail
    refine (HP.out _).mono ?_
    rintro e w1 ⟨rfl, rfl⟩
    go_wp2_with fail
    go_ret2
    rw [H.out.1, H.out.2]
    exact TabResC.none rfl (Below.refl _ _)
  clear no
  have hyes : woRB g a = true := by simp [woRB, hs, h2, ha]
  obtain ⟨p1, p2⟩ := inPl_iff.1 ha
  obtain ⟨x, rfl⟩ : ∃ x : Nat, a = x := ⟨a.toNat, by omega⟩
  have hx : x < g.length := by omega
  have HRES : Hid (woRT g (x : Int) = woRow g x ∧ woRB g (x : Int) = true) := ⟨by rw [woRT_yes hyes]; rfl, hyes⟩
  have HW := Lib.hid (withoutT T c g x h2 hhi hc1 hcm hx w h)
  have hwg := woRow_game hg h2 hx
  have hwl := woRow_length hx
  have HCP : Hid (∀ (T' : Option Addr) (c' : Nat) (w' : World), Rows2 w' (· < w'.heap.size) T' (woRow g x) → Calls Try.prog 52 #[.slice T' (woRow g x).length c'] w' (NewTableC w' (woRow g x))) := fun T' c' w' h' =>
    copied T' c' (woRow g x) (by omega) (by omega) (fun i hi => by rw [hwg.len i hi]; omega) w' h'
  rw [hs] at HS
  rw [ha] at HP
  clear hs h hg h1 ha hyes hwg hwl
  go_enter Try.func23, Try.ntmps23
  go_wp2_with fail
  refine HS.out.mono ?_
  rintro e w1 ⟨rfl, rfl⟩
  go_wp2_with fail
  refine (HP.out _).mono ?_
  rintro e w1 ⟨rfl, rfl⟩
  go_wp2_with fail
  refine HW.out.mono ?_
  rintro e w1 ⟨T1, c1, rfl, hb1, hr1⟩
  have HB1 := Lib.hid hb1
  have HR1 := Lib.hid hr1
  clear hb1 hr1
  go_wp2_with fail
  refine (HCP.out _ _ _ HR1.out).mono ?_
  rintro e w2 ⟨T2, c2, rfl, q1, q2, hb2, ho2⟩
  have HB2 := Lib.hid (belT HB1.out hb2)
  have HO2 : Hid (OwnR w2 w.heap.size w2.heap.size T2 (woRow g x)) := ho2.more HB1.out.size (Nat.le_refl _)
  clear hb2 ho2
  go_wp2_with fail
  go_ret2
  rw [HRES.out.1, HRES.out.2]
  exact ⟨T2, c2, rfl, q1, q2, HB2.out, HO2.out⟩

end Go.Proofs.Ytpiokclhalkmlaa

namespace Go.Proofs.Ytpiokclhalkmlaa
set_option linter.unusedSimpArgs false
set_option linter.unusedVariables false
open Go.RowKit

set_option maxHeartbeats 2000000 in
set_option maxRecDepth 100000 in
theorem woCol_impl (T : Option Addr) (c : Nat) (g : List (List Int)) (a : Int) (hl : g.length ≤ maxLen) (w : World) (h : Rows2 w (· < w.heap.size) T g) :
    Calls Try.prog 30 #[.slice T g.length c, .int .i64 a] w (TabResC w (woCT g a) (woCB g a)) := by
  have HS := Lib.hid (game_impl T c g _ hl w h)
  have no : woCB g a = false → Hid (woCT g a = [] ∧ woCB g a = false) := fun e => ⟨woCT_no e, e⟩
  rcases hs : gameB g with _ | _
  · have H := no (by simp [woCB, hs])
    rw [hs] at HS
    clear hs no h
    go_enter Try.func30, Try.ntmps30
    go_wp2_with fail
    refine HS.out.mono ?_
    rintro e w1 ⟨rfl, rfl⟩
    go_wp2_with fail
    go_ret2
    rw [H.out.1, H.out.2]
    exact TabResC.none rfl (Below.refl _ _)
  have hg := Game.of hs
  have hlo := hg.lo
  have hhi := hg.hi
  have hmlo := hg.mlo
  have hmhi := hg.mhi
  obtain ⟨bt, ot, rfl⟩ := h.some (by omega)
  obtain ⟨hS, A0, c0, hc0, hl0, hm0, _⟩ := h.row (i := 0) (by omega)
  rw [Nat.add_zero] at hc0
  unfold maxLen at hm0
  have HP : Hid (∀ w' : World, Calls Try.prog 51 #[.int .i64 a, .int .i64 ((rowAt g 0).length : Int)] w' (Same (.bool (inPl a (rowAt g 0).length)) w')) := fun w' => placeOk a _ (by omega) w'
  by_cases h1 : (rowAt g 0).length = 1
  · have H := no (by simp [woCB, h1])
    have e1 : (((rowAt g 0).length : Int) == 1) = true := by simp [h1]
    rw [hs] at HS
    clear hs no h hg h1
    go_enter Try.func30, Try.ntmps30
    go_wp2_with fail
    refine HS.out.mono ?_
    rintro e w1 ⟨rfl, rfl⟩
    go_wp2_with fail
    go_ret2
    rw [H.out.1, H.out.2]
    exact TabResC.none rfl (Below.refl _ _)
  have h2 : 2 ≤ (rowAt g 0).length := by omega
  have e1 : (((rowAt g 0).length : Int) == 1) = false := by rw [beq_eq_false_iff_ne]; omega
  rcases ha : inPl a (rowAt g 0).length with _ | _
  · have H := no (by simp [woCB, ha])
    rw [hs] at HS
    rw [ha] at HP
    clear hs no h hg h1 ha
    go_enter Try.func30, Try.ntmps30
    go_wp2_with fail
    refine HS.out.mono ?_
    rintro e w1 ⟨rfl, rfl⟩
    go_wp2_with fail
    refine (HP.out _).mono ?_
    rintro e w1 ⟨rfl, rfl⟩
    go_wp2_with fail
    go_ret2
    rw [H.out.1, H.out.2]
    exact TabResC.none rfl (Below.refl _ _)
  clear no
  have hyes : woCB g a = true := by simp [woCB, hs, h2, ha]
  obtain ⟨p1, p2⟩ := inPl_iff.1 ha
  obtain ⟨x, rfl⟩ : ∃ x : Nat, a = x := ⟨a.toNat, by omega⟩
  have hx : x < (rowAt g 0).length := by omega
  have HRES : Hid (woCT g (x : Int) = woColL g x ∧ woCB g (x : Int) = true) := ⟨by rw [woCT_yes hyes]; exact woCol_eq hs h2 hx, hyes⟩
  have HWL := Lib.hid (woColL_length g x)
  have HRW : Hid (∀ i, i < g.length → rowAt (woColL g x) i = selRow (fun j => j != x) (nth (rowAt g i)) (rowAt g i).length) := fun i hi => rowAt_woColL g x i hi
  have hmk := run_make_row' (P := Try.prog) 23 28 _ 24 Try.underlying23 infoR rfl .i64 .i64 g.length (by omega) (by omega)
  have HR := Lib.hid h
  have HG := Lib.hid hg
  have F0 : Hid (Copying w (w.alloc (.cells (madeCells #[.slice none 0 0] g.length) 28)) (woColL g x) (fun _ => none) (fun _ => 0) 0) := by
    have := Copying.start w (woColL g x) (fun _ => none) (fun _ => 0); rw [HWL.out] at this; exact this
  rw [hs] at HS
  rw [ha] at HP
  clear hs h hg h1 ha hyes
  go_enter Try.func30, Try.ntmps30
  go_wp2_with fail
  refine HS.out.mono ?_
  rintro e w1 ⟨rfl, rfl⟩
  go_wp2_with fail
  refine (HP.out _).mono ?_
  rintro e w1 ⟨rfl, rfl⟩
  go_wp2_with fail
  clear hmk hc0
  go_loopw [33] (fun i wr => ∃ k : Nat, k ≤ g.length ∧ i = .int .i64 k ∧ Hid (∃ A C, Copying w wr (woColL g x) A C k)) (fun i _ => g.length - (intOf i).toNat)
  case atStart => exact ⟨0, Nat.zero_le _, rfl, ⟨_, _, F0.out⟩⟩
  case round =>
    obtain ⟨k, hk, rfl, HF⟩ := hrel
    obtain ⟨A, C, hF⟩ := HF.out
    have HF2 := Lib.hid hF
    clear HF hF
    by_cases hlt : k < g.length
    · have R := keepRows HF2.out.bel HR.out
      obtain ⟨hSt, Ak, ck, hck, hlk, hmk, hik⟩ := R.row hlt
      have hrl := HG.out.len k hlt
      obtain ⟨bk, ok, rfl, hSk, hcells⟩ := hik.at_ (i := 0) (by omega)
      have hsz := HF2.out.size
      have HCV : Hid (CellsV wr bk ok (vals (rowAt g k))) := fun j u hj => by
        have hlt : j < (rowAt g k).length := by
          have := (List.getElem?_eq_some_iff.1 hj).1; rwa [vals_length] at this
        rw [vals_get _ j hlt] at hj
        injection hj with hj
        subst hj
        exact hcells j hlt
      have HWI := Lib.hid (withoutI bk ok ck (vals (rowAt g k)) (rowAt g k).length x (vals_length _) (by omega) (by omega) (by omega) hlk hmk vals_one wr (by omega) HCV.out)
      rw [cut_vals (by omega), ← HRW.out k hlt] at HWI
      have hlw : (rowAt (woColL g x) k).length = (rowAt g k).length - 1 := by rw [HRW.out k hlt, selRow_length, cnt_ne, if_pos (by omega)]
      rw [← hlw] at HWI
      have HLW := Lib.hid hlw
      unfold maxLen at hmk
      clear R hik hcells hrl hlw
      go_wp2_with fail
      refine HWI.out.mono ?_
      rintro e w1 ⟨v, rfl, hb1, hg1⟩
      obtain ⟨An, cn, rfl, hcn1, hcn2, hon⟩ := Grows.own' (w := w1) (base := wr.heap.size) (l := rowAt (woColL g x) k) hg1
      have hcell := (HF2.out.top.of_block (hb1.block _ hsz)).cell (i := k) (by rw [HWL.out]; exact hlt)
      rw [if_neg (by omega)] at hcell
      have hfr := (HF2.out.top.of_block (hb1.block _ hsz)).frozen k
      have HN : Hid (∃ A C, Copying w (w1.setCell ⟨w.heap.size, k, none⟩ (.slice An (rowAt (woColL g x) k).length cn)) (woColL g x) A C (k + 1)) := HF2.out.next hb1 hon hcn1 hcn2
      clear hb1 hg1 hon hcn1 hcn2
      go_wp2_with fail
      go_roundw
      case rel => exact ⟨k + 1, by omega, by go_num, HN⟩
      case measure => simp [intOf]; omega
    · obtain rfl : k = g.length := by omega
      have HO := Lib.hid (Copying.done (w := w) (g := woColL g x) (by have := HF2.out; rw [← HWL.out] at this; exact this))
      go_wp2_with fail
      go_ret2
      rw [HRES.out.1, HRES.out.2]
      exact ⟨_, g.length, by show _ = Ending.returned (.tuple #[.slice _ (woColL g x).length _, _]); rw [HWL.out]; rfl, by rw [HWL.out]; exact Nat.le_refl _, by unfold maxLen; omega, HF2.out.bel, HO.out⟩

/-- what a step leaves: a smaller game of its own, or none -/
def StepResC (w : World) (o : Option (List (List Int))) (e : Ending) (w' : World) : Prop :=
  Below w.heap.size w w' ∧ match o with
  | some t => ∃ (T : Option Addr) (c : Nat), e = .returned (.tuple #[.slice T t.length c, .bool true]) ∧ t.length ≤ c ∧ c ≤ maxLen ∧ OwnR w' w.heap.size w'.heap.size T t
  | none => e = .returned (.tuple #[.slice none 0 0, .bool false])

set_option maxHeartbeats 2000000 in
theorem step_impl (A : Option Addr) (c : Nat) (g : List (List Int)) (hs : gameB g = true) (hc1 : g.length ≤ c) (hcm : c ≤ maxLen) (w : World) (h : Rows2 w (· < w.heap.size) A g) :
    Calls Try.prog 59 #[.slice A g.length c] w (StepResC w (stepO g)) := by
  have hg := Game.of hs
  have hl16 := hg.hi
  have hl1 := hg.lo
  have hl : g.length ≤ maxLen := by unfold maxLen; omega
  have HR := Lib.hid h
  have HF1 := Lib.hid (firstWorse _ _ higher A c g _ hg.even w h)
  have HCO := Lib.hid (columnsOf A c g _ hg w h)
  have HEV := Lib.hid (cols_even hs)
  have HGB := Lib.hid hs
  rcases hf : fstW gtB g with _ | a
  · have HNO := Lib.hid hf
    rw [hf] at HF1
    rcases hf2 : fstW ltB (cols g) with _ | a
    · have HST := Lib.hid (stepO_none hf hf2)
      have HF2 := Lib.hid hf2
      clear hf hf2 hs hg h
      go_enter Try.func59, Try.ntmps59
      go_wp2_with fail
      refine HF1.out.mono ?_
      rintro e w1 ⟨rfl, rfl⟩
      unfold fstV
      go_wp2_with fail
      refine HCO.out.mono ?_
      rintro e w1 ⟨rfl, hL⟩
      have HCR := Lib.hid (Laid.cols_reads HGB.out hL)
      have HB := Lib.hid hL.bel
      clear hL
      go_wp2_with fail
      refine (firstWorse _ _ lower _ _ (cols g) _ HEV.out w1 HCR.out).mono ?_
      rintro e w2 ⟨rfl, rfl⟩
      rw [HF2.out]
      unfold fstV
      go_wp2_with fail
      go_ret2
      rw [HST.out]
      exact ⟨HB.out, rfl⟩
    · obtain ⟨w1, w2, _⟩ := fstW_col hs hf2
      have HST : Hid (stepO g = some (woCT g (a : Int))) := by rw [w2]; exact stepO_col hf hf2
      have HYES := Lib.hid w1
      have HF2 := Lib.hid hf2
      clear hf hf2 hs hg h w1 w2
      go_enter Try.func59, Try.ntmps59
      go_wp2_with fail
      refine HF1.out.mono ?_
      rintro e w1 ⟨rfl, rfl⟩
      unfold fstV
      go_wp2_with fail
      refine HCO.out.mono ?_
      rintro e w1 ⟨rfl, hL⟩
      have HCR := Lib.hid (Laid.cols_reads HGB.out hL)
      have HB := Lib.hid hL.bel
      clear hL
      go_wp2_with fail
      refine (firstWorse _ _ lower _ _ (cols g) _ HEV.out w1 HCR.out).mono ?_
      rintro e w2 ⟨rfl, rfl⟩
      rw [HF2.out]
      unfold fstV
      have HR1 : Hid (Rows2 w1 (· < w1.heap.size) A g) := (keepRows HB.out HR.out).lt HB.out.size
      have HWC : Hid (Calls Try.prog 30 #[.slice A g.length c, .int .i64 (a : Int)] w1 (TabResC w1 (woCT g (a : Int)) true)) := by
        have := woCol_impl A c g (a : Int) hl w1 HR1.out; rw [HYES.out] at this; exact this
      go_wp2_with fail
      refine HWC.out.mono ?_
      rintro e w3 ⟨T3, c3, rfl, q1, q2, hb3, ho3⟩
      have HB3 := Lib.hid (belT HB.out hb3)
      have HO3 : Hid (OwnR w3 w.heap.size w3.heap.size T3 (woCT g (a : Int))) := ho3.more HB.out.size (Nat.le_refl _)
      have HQ : Hid ((woCT g (a : Int)).length ≤ c3 ∧ c3 ≤ maxLen) := ⟨q1, q2⟩
      clear hb3 ho3 q1 q2
      go_wp2_with fail
      go_ret2
      rw [HST.out]
      exact ⟨HB3.out, T3, c3, rfl, HQ.out.1, HQ.out.2, HO3.out⟩
  · obtain ⟨w1, w2, _⟩ := fstW_row hs hf
    have HST : Hid (stepO g = some (woRT g (a : Int))) := by rw [w2]; exact stepO_row hf
    have HWC : Hid (Calls Try.prog 23 #[.slice A g.length c, .int .i64 (a : Int)] w (TabResC w (woRT g (a : Int)) true)) := by
      have := woRow_impl A c g (a : Int) hl hc1 hcm w h; rw [w1] at this; exact this
    rw [hf] at HF1
    clear hf hs hg h w1 w2
    go_enter Try.func59, Try.ntmps59
    go_wp2_with fail
    refine HF1.out.mono ?_
    rintro e w1 ⟨rfl, rfl⟩
    unfold fstV
    go_wp2_with fail
    refine HWC.out.mono ?_
    rintro e w3 ⟨T3, c3, rfl, q1, q2, hb3, ho3⟩
    have HB3 := Lib.hid hb3
    have HO3 := Lib.hid ho3
    have HQ : Hid ((woRT g (a : Int)).length ≤ c3 ∧ c3 ≤ maxLen) := ⟨q1, q2⟩
    clear hb3 ho3 q1 q2
    go_wp2_with fail
    go_ret2
    rw [HST.out]
    exact ⟨HB3.out, T3, c3, rfl, HQ.out.1, HQ.out.2, HO3.out⟩

set_option maxHeartbeats 2000000 in
theorem small_impl (A : Option Addr) (c : Nat) (g : List (List Int)) (hl : g.length ≤ maxLen) (w : World) (h : Rows2 w (· < w.heap.size) A g) :
    Calls Try.prog 33 #[.slice A g.length c] w (NewTable w (small g)) := by
  have HS := Lib.hid (game_impl A c g _ hl w h)
  rcases hs : gameB g with _ | _
  · have H := Lib.hid (small_no hs)
    rw [hs] at HS
    clear hs h
    go_enter Try.func33, Try.ntmps33
    go_wp2_with fail
    refine HS.out.mono ?_
    rintro e w1 ⟨rfl, rfl⟩
    go_wp2_with fail
    go_ret
    rw [H.out]
    exact ⟨none, 0, rfl, Below.refl _ _, fun h0 => absurd h0 (by simp)⟩
  have hg := Game.of hs
  have hl16 := hg.hi
  have hl1 := hg.lo
  have hm1 := hg.mlo
  have hm16 := hg.mhi
  have HSM : Hid (small g = smT g) := small_yes hs
  have HGB := Lib.hid hs
  have HCP := Lib.hid (copied A c g (by omega) hl16 (fun i hi => by rw [hg.len i hi]; omega) w h)
  rw [hs] at HS
  clear hs h hg
  go_enter Try.func33, Try.ntmps33
  go_wp2_with fail
  refine HS.out.mono ?_
  rintro e w1 ⟨rfl, rfl⟩
  go_wp2_with fail
  refine HCP.out.mono ?_
  rintro e w1 ⟨T1, c1, rfl, q1, q2, hb1, ho1⟩
  have HB1 := Lib.hid hb1
  have HO1 := Lib.hid ho1
  have HQ1 : Hid (g.length ≤ c1 ∧ c1 ≤ maxLen) := ⟨q1, q2⟩
  clear hb1 ho1 q1 q2
  go_wp2_with fail
  go_loopg [3] (szT g) (fun k v wr => ∃ (t : List (List Int)) (T : Option Addr) (ct : Nat), v = .slice T t.length ct ∧ Hid (szT t = k) ∧ Hid (gameB t = true) ∧ Hid (smT t = smT g) ∧ Hid (t.length ≤ ct ∧ ct ≤ maxLen) ∧ Hid (Below w.heap.size w wr) ∧ Hid (OwnR wr w.heap.size wr.heap.size T t))
  case atStart => exact ⟨g, T1, c1, rfl, rfl, HGB, rfl, HQ1, HB1, HO1⟩
  case round =>
    obtain ⟨t, T, ct, rfl, HK, HGT, HSM2, HQ, HB, HO⟩ := hrel
    go_wp2_with fail
    refine (step_impl T ct t HGT.out HQ.out.1 HQ.out.2 _ HO.out.reads).mono ?_
    rintro e w2 ⟨hb2, hres⟩
    have HB2 := Lib.hid (belT HB.out hb2)
    rcases hst : stepO t with _ | t2
    · rw [hst] at hres
      dsimp only at hres
      subst hres
      have HE : Hid (small g = t) := by rw [HSM.out, ← HSM2.out]; exact smT_end hst
      have HO2 : Hid (OwnR w2 w.heap.size w2.heap.size T t) := (HO.out.keep fun b _ h2 => hb2.block b h2).more (Nat.le_refl _) hb2.size
      clear hst hb2
      go_wp2_with fail
      go_ret
      rw [HE.out]
      exact ⟨T, ct, rfl, HB2.out, HO2.out⟩
    · rw [hst] at hres
      dsimp only at hres
      obtain ⟨T2, c2, rfl, p1, p2, ho2⟩ := hres
      obtain ⟨g2, z2, _⟩ := stepO_game HGT.out hst
      have HG2 := Lib.hid g2
      have HZ := Lib.hid z2
      have HQ2 : Hid (t2.length ≤ c2 ∧ c2 ≤ maxLen) := ⟨p1, p2⟩
      have HSM3 : Hid (smT t2 = smT g) := by rw [← smT_step HGT.out hst]; exact HSM2.out
      have HO2 : Hid (OwnR w2 w.heap.size w2.heap.size T2 t2) := ho2.more HB.out.size (Nat.le_refl _)
      clear hst hb2 ho2 g2 z2 p1 p2
      go_wp2_with fail
      go_roundg (szT t2)
      case measure => have := HZ.out; have := HK.out; omega
      case rel => exact ⟨t2, T2, c2, rfl, rfl, HG2, HSM3, HQ2, HB2, HO2⟩

end Go.Proofs.Ytpiokclhalkmlaa
