/- Texts in one: WorseI, WorseS, WorseT. -/
import Derived.Test.YtlmaeadbomnhlaaGreatMP
import Derived.Test.YtlmaeadbomnhlaaGreatMC
import Derived.Test.YtlmaeadbomnhlaaGreatMF
import Derived.Deep.LoopGhost
namespace Go.Proofs.YtlmaeadbomnhlaaGreat
set_option linter.unusedSimpArgs false
set_option linter.unusedVariables false
open Go.RowKit
set_option maxHeartbeats 400000 in
theorem placeOk (a : Int) (n : Nat) (hn : n ≤ 9223372036854775807) (w : World) :
    Calls Tryz.prog 73 #[.int .i64 a, .int .i64 (n : Int)] w (Same (.bool (inPl a n)) w) := by
  by_cases h1 : 0 ≤ a
  · by_cases h2 : a < (n : Int)
    · have hf : inPl a n = true := inPl_iff.2 ⟨h1, h2⟩
      rw [hf]
      go_enter Tryz.func73, Tryz.ntmps73
      go_wp2
      go_ret
      exact Same.of (by simp; try omega)
    · have hf : inPl a n = false := by simp [inPl, h2]
      rw [hf]
      have hd : decide (a < (n : Int)) = false := by simp; omega
      go_enter Tryz.func73, Tryz.ntmps73
      go_wp2
      go_ret
      exact Same.of (by simp; try omega)
  · have hf : inPl a n = false := by simp [inPl, h1]
    rw [hf]
    have hd : decide ((0 : Int) ≤ a) = false := by simp; omega
    go_enter Tryz.func73, Tryz.ntmps73
    go_wp2
    go_ret
    exact Same.of (by simp; try omega)
def EvenT (g : List (List Int)) : Prop := g.length ≤ maxLen ∧ ∀ i, i < g.length → (rowAt g i).length = (rowAt g 0).length
theorem Game.even {g : List (List Int)} {m : Nat} (h : Game g m) : EvenT g := by
  have h1 := h.hi
  have h2 := h.lo
  refine ⟨by unfold maxLen; omega, fun i hi => by rw [h.len i hi, h.len 0 (by omega)]⟩
set_option maxHeartbeats 2000000 in
theorem worseLine (f : FuncId) (bet : Int → Int → Bool) (hf : Better f bet) (A : Option Addr) (c : Nat) (g : List (List Int)) (a b : Int) (S : Nat → Prop) (he : EvenT g) (w : World) (h : Rows2 w S A g) :
    Calls Tryz.prog 107 #[.slice A g.length c, .int .i64 a, .int .i64 b, .func (.func f) #[] #[]] w (Same (.bool (lineB bet g a b)) w) := by
  obtain ⟨hl, hev⟩ := he
  unfold maxLen at hl
  have HPA : Hid (∀ w' : World, Calls Tryz.prog 73 #[.int .i64 a, .int .i64 (g.length : Int)] w' (Same (.bool (inPl a g.length)) w')) := fun w' => placeOk a _ (by omega) w'
  have HPB : Hid (∀ w' : World, Calls Tryz.prog 73 #[.int .i64 b, .int .i64 (g.length : Int)] w' (Same (.bool (inPl b g.length)) w')) := fun w' => placeOk b _ (by omega) w'
  by_cases e1 : a = b
  · have hno : Hid (lineB bet g a b = false) := by subst e1; exact lineB_self _ _ _
    have e1' : (a == b) = true := by simp [e1]
    clear e1
    go_enter Tryz.func107, Tryz.ntmps107
    go_wp2_with fail
    go_ret
    exact Same.of (by rw [hno.out]; first | done | rfl)
  have e1' : (a == b) = false := by simp [e1]
  rcases ha : inPl a g.length with _ | _
  · have hno : Hid (lineB bet g a b = false) := lineB_out (by rw [ha]; simp)
    rw [ha] at HPA
    clear ha e1
    go_enter Tryz.func107, Tryz.ntmps107
    go_wp2_with fail
    refine (HPA.out _).mono ?_
    rintro e w1 ⟨rfl, rfl⟩
    go_wp2_with fail
    go_ret
    exact Same.of (by rw [hno.out]; first | done | rfl)
  rcases hb : inPl b g.length with _ | _
  · have hno : Hid (lineB bet g a b = false) := lineB_out (by rw [hb]; simp)
    rw [ha] at HPA
    rw [hb] at HPB
    clear ha hb e1
    go_enter Tryz.func107, Tryz.ntmps107
    go_wp2_with fail
    refine (HPA.out _).mono ?_
    rintro e w1 ⟨rfl, rfl⟩
    go_wp2_with fail
    refine (HPB.out _).mono ?_
    rintro e w1 ⟨rfl, rfl⟩
    go_wp2_with fail
    go_ret
    exact Same.of (by rw [hno.out]; first | done | rfl)
  have hin : Hid (lineB bet g a b = noBet bet (rowAt g a.toNat) (rowAt g b.toNat) (rowAt g a.toNat).length) := lineB_in (by rw [ha, hb]; simp [e1])
  rw [ha] at HPA
  rw [hb] at HPB
  obtain ⟨p1, p2⟩ := inPl_iff.1 ha
  obtain ⟨q1, q2⟩ := inPl_iff.1 hb
  obtain ⟨x, rfl⟩ : ∃ x : Nat, a = x := ⟨a.toNat, by omega⟩
  obtain ⟨y, rfl⟩ : ∃ y : Nat, b = y := ⟨b.toNat, by omega⟩
  have hx : x < g.length := by omega
  have hy : y < g.length := by omega
  obtain ⟨bt, ot, rfl⟩ := h.some (by omega)
  obtain ⟨hS, Ax, cx, hcx, hlx, hmx, hix⟩ := h.row hx
  obtain ⟨_, Ay, cy, hcy, hly, hmy, hiy⟩ := h.row hy
  rw [hev y hy, ← hev x hx] at hcy
  have HXY := Lib.hid ((hev x hx).trans (hev y hy).symm)
  simp only [Int.toNat_natCast] at hin
  unfold maxLen at hmx
  have HC := Lib.hid hf.calls
  have hE := hf.enters
  have HIX := Lib.hid hix
  have HIY := Lib.hid hiy
  clear ha hb e1 hf h hix hiy hev hmy hly
  go_enter Tryz.func107, Tryz.ntmps107
  go_wp2_with fail
  refine (HPA.out _).mono ?_
  rintro e w1 ⟨rfl, rfl⟩
  go_wp2_with fail
  refine (HPB.out _).mono ?_
  rintro e w1 ⟨rfl, rfl⟩
  go_wp2_with fail
  go_loop [33] (fun i => ∃ k : Nat, k ≤ (rowAt g x).length ∧ i = .int .i64 k ∧ Hid (noBet bet (rowAt g x) (rowAt g y) k = true)) (fun i => (rowAt g x).length - (intOf i).toNat)
  case atStart => exact ⟨0, Nat.zero_le _, rfl, rfl⟩
  case round =>
    obtain ⟨k, hk, rfl, H⟩ := hrel
    by_cases hlt : k < (rowAt g x).length
    · obtain ⟨bx, ox, rfl, _, hcellx⟩ := HIX.out.at_ hlt
      obtain ⟨by', oy, rfl, _, hcelly⟩ := HIY.out.at_ (by rw [← HXY.out]; exact hlt)
      have c1 := hcellx k hlt
      have c2 := hcelly k (by rw [← HXY.out]; exact hlt)
      clear hcellx hcelly
      go_wp2_with fail
      refine (HC.out _ _ _).mono ?_
      rintro e w1 ⟨rfl, rfl⟩
      rcases hb : bet (nth (rowAt g x) k) (nth (rowAt g y) k) with _ | _
      · have HS : Hid (noBet bet (rowAt g x) (rowAt g y) (k + 1) = true) := by show (noBet _ _ _ k && _) = true; rw [H.out, hb]; rfl
        clear hb
        go_wp2_with fail
        go_round
        case rel => exact ⟨k + 1, by omega, by go_num, HS⟩
        case measure => simp [intOf]; omega
      · have HS : Hid (noBet bet (rowAt g x) (rowAt g y) (rowAt g x).length = false) := noBet_no hb hlt
        clear hb
        go_wp2_with fail
        go_ret
        exact Same.of (by rw [hin.out, HS.out]; first | done | rfl)
    · obtain rfl : k = (rowAt g x).length := by omega
      go_wp2_with fail
      go_ret
      exact Same.of (by rw [hin.out, H.out]; first | done | rfl)
theorem cols_even {g : List (List Int)} (h : gameB g = true) : EvenT (cols g) := by
  have hg := Game.of h
  have h1 := hg.mhi
  have h2 := hg.mlo
  refine ⟨by rw [cols_length]; unfold maxLen; omega, fun i hi => ?_⟩
  rw [cols_length] at hi
  rw [rowAt_cols_length g i hi, rowAt_cols_length g 0 (by omega)]
theorem Laid.cols_reads {w w1 : World} {g : List (List Int)} (h : gameB g = true) (hL : Laid w w1 (cols g)) : Rows2 w1 (· < w1.heap.size) (some ⟨w.heap.size, 0, none⟩) (cols g) := by
  have hg := Game.of h
  have h1 := hg.hi
  exact Laid.rows2 hL (fun b _ hb => hb) fun i hi => by rw [cols_length] at hi; rw [rowAt_cols_length g i hi]; unfold maxLen; omega
def fstV (o : Option Nat) : Value := .tuple #[.int .i64 ((o.getD 0 : Nat) : Int), .bool o.isSome]
set_option maxHeartbeats 1000000 in
theorem firstWorse (f : FuncId) (bet : Int → Int → Bool) (hf : Better f bet) (A : Option Addr) (c : Nat) (g : List (List Int)) (S : Nat → Prop) (he : EvenT g) (w : World) (h : Rows2 w S A g) :
    Calls Tryz.prog 96 #[.slice A g.length c, .func (.func f) #[] #[]] w (Same (fstV (fstW bet g)) w) := by
  have hl := he.1
  unfold maxLen at hl
  have HW : Hid (∀ a b : Nat, Calls Tryz.prog 107 #[.slice A g.length c, .int .i64 (a : Int), .int .i64 (b : Int), .func (.func f) #[] #[]] w (Same (.bool (lineB bet g a b)) w)) := fun a b => worseLine f bet hf A c g a b S he w h
  clear hf he h
  go_enter Tryz.func96, Tryz.ntmps96
  go_wp2_with fail
  go_loop [10] (fun i => ∃ k : Nat, k ≤ g.length ∧ i = .int .i64 k ∧ Hid (∀ a, a < k → anyW bet g a = false)) (fun i => g.length - (intOf i).toNat)
  case atStart => exact ⟨0, Nat.zero_le _, rfl, fun a ha => by omega⟩
  case round =>
    obtain ⟨k, hk, rfl, H⟩ := hrel
    by_cases hlt : k < g.length
    · go_wp2_with fail
      go_loop [15] (fun i => ∃ m : Nat, m ≤ g.length ∧ i = .int .i64 m ∧ Hid (∀ b : Nat, b < m → lineB bet g k b = false)) (fun i => g.length - (intOf i).toNat)
      case atStart => exact ⟨0, Nat.zero_le _, rfl, fun b hb => by omega⟩
      case round =>
        obtain ⟨m, hm, rfl, H2⟩ := hrel
        by_cases hlm : m < g.length
        · go_wp2_with fail
          refine (HW.out _ _).mono ?_
          rintro e w1 ⟨rfl, rfl⟩
          rcases hb : lineB bet g k m with _ | _
          · have HS : Hid (∀ b : Nat, b < m + 1 → lineB bet g k b = false) := fun b hbm => by
              by_cases e : b = m
              · subst e; exact hb
              · exact H2.out b (by omega)
            clear hb
            go_wp2_with fail
            go_round
            case rel => exact ⟨m + 1, by omega, by go_num, HS⟩
            case measure => simp [intOf]; omega
          · have HS : Hid (fstW bet g = some k) := fstN_some hlt (anyN_iff.2 ⟨m, hlm, hb⟩) H.out
            clear hb
            go_wp2_with fail
            go_ret2
            exact Same.of (by rw [HS.out]; rfl)
        · obtain rfl : m = g.length := by omega
          have HS : Hid (∀ a, a < k + 1 → anyW bet g a = false) := fun a ha => by
            by_cases e : a = k
            · subst e; exact anyN_false.2 H2.out
            · exact H.out a (by omega)
          go_wp2_with fail
          go_round
          case rel => exact ⟨k + 1, by omega, by go_num, HS⟩
          case measure => simp [intOf]; omega
    · obtain rfl : k = g.length := by omega
      have HS : Hid (fstW bet g = none) := fstN_none H.out
      go_wp2_with fail
      go_ret2
      exact Same.of (by rw [HS.out]; rfl)
end Go.Proofs.YtlmaeadbomnhlaaGreat

namespace Go.Proofs.YtlmaeadbomnhlaaGreat
set_option linter.unusedSimpArgs false
set_option linter.unusedVariables false
open Go.RowKit
theorem inR_pl (a : Int) (n : Nat) : inR a 0 ((n : Int) - 1) = inPl a n := by
  unfold inR inPl
  rw [Bool.eq_iff_iff, Bool.and_eq_true]; simp only [decide_eq_true_eq]; omega
set_option maxHeartbeats 2000000 in
theorem worseRow_spec (A : Option Addr) (c : Nat) (g : List (List Int)) (a b : Int) (S : Nat → Prop) (hl : g.length ≤ maxLen) (w : World) (h : Rows2 w S A g) :
    Calls Tryz.prog 76 #[.slice A g.length c, .int .i64 a, .int .i64 b] w (Quiet (.bool (wrB g a b)) w) := by
  have HS := Lib.hid (game_spec A c g _ hl w h)
  unfold maxLen at hl
  have wl : IntKind.i64.wrap ((g.length : Int) - 1) = (g.length : Int) - 1 := IntWalk.i64_in _ (by omega)
  have HPA : Hid (∀ w' : World, Calls Tryz.prog 37 #[.int .i64 a, .int .i64 0, .int .i64 ((g.length : Int) - 1)] w' (Same (.bool (inPl a g.length)) w')) := fun w' => by rw [← inR_pl]; exact in_spec _ _ _ _
  have HPB : Hid (∀ w' : World, Calls Tryz.prog 37 #[.int .i64 b, .int .i64 0, .int .i64 ((g.length : Int) - 1)] w' (Same (.bool (inPl b g.length)) w')) := fun w' => by rw [← inR_pl]; exact in_spec _ _ _ _
  rcases hs : gameB g with _ | _
  · have e : Hid (wrB g a b = false) := by simp [Hid, wrB, hs]
    rw [hs] at HS
    clear hs
    go_enter Tryz.func76, Tryz.ntmps76
    go_wp2_with fail
    refine HS.out.mono ?_
    rintro e w1 ⟨rfl, n, rfl⟩
    go_wp2_with fail
    go_ret
    exact Quiet.ofN (by rw [e.out]; first | done | rfl)
  have hline := wrB_line hs a b
  have hg := Game.of hs
  rw [hs] at HS
  rcases ha : inPl a g.length with _ | _
  · have hno : Hid (wrB g a b = false) := by rw [hline]; exact lineB_out (by rw [ha]; simp)
    rw [ha] at HPA
    clear ha hs hline hg
    go_enter Tryz.func76, Tryz.ntmps76
    go_wp2_with fail
    refine HS.out.mono ?_
    rintro e w1 ⟨rfl, n, rfl⟩
    go_wp2_with fail
    refine (HPA.out _).mono ?_
    rintro e w1 ⟨rfl, rfl⟩
    go_wp2_with fail
    go_ret
    exact Quiet.ofN (by rw [hno.out]; first | done | rfl)
  rcases hb : inPl b g.length with _ | _
  · have hno : Hid (wrB g a b = false) := by rw [hline]; exact lineB_out (by rw [hb]; simp)
    rw [ha] at HPA
    rw [hb] at HPB
    clear ha hb hs hline hg
    go_enter Tryz.func76, Tryz.ntmps76
    go_wp2_with fail
    refine HS.out.mono ?_
    rintro e w1 ⟨rfl, n, rfl⟩
    go_wp2_with fail
    refine (HPA.out _).mono ?_
    rintro e w1 ⟨rfl, rfl⟩
    go_wp2_with fail
    refine (HPB.out _).mono ?_
    rintro e w1 ⟨rfl, rfl⟩
    go_wp2_with fail
    go_ret
    exact Quiet.ofN (by rw [hno.out]; first | done | rfl)
  by_cases e1 : a = b
  · have hno : Hid (wrB g a b = false) := by subst e1; exact wrB_self _ _
    have e1' : (a == b) = true := by simp [e1]
    rw [ha] at HPA
    rw [hb] at HPB
    clear ha hb hs hline hg e1
    go_enter Tryz.func76, Tryz.ntmps76
    go_wp2_with fail
    refine HS.out.mono ?_
    rintro e w1 ⟨rfl, n, rfl⟩
    go_wp2_with fail
    refine (HPA.out _).mono ?_
    rintro e w1 ⟨rfl, rfl⟩
    go_wp2_with fail
    refine (HPB.out _).mono ?_
    rintro e w1 ⟨rfl, rfl⟩
    go_wp2_with fail
    go_ret
    exact Quiet.ofN (by rw [hno.out]; first | done | rfl)
  have e1' : (a == b) = false := by simp [e1]
  have hin := hline.trans (lineB_in (bet := gtB) (g := g) (a := a) (b := b) (by rw [ha, hb]; simp [e1]))
  rw [ha] at HPA
  rw [hb] at HPB
  obtain ⟨p1, p2⟩ := inPl_iff.1 ha
  obtain ⟨q1, q2⟩ := inPl_iff.1 hb
  obtain ⟨x, rfl⟩ : ∃ x : Nat, a = x := ⟨a.toNat, by omega⟩
  obtain ⟨y, rfl⟩ : ∃ y : Nat, b = y := ⟨b.toNat, by omega⟩
  have hx : x < g.length := by omega
  have hy : y < g.length := by omega
  simp only [Int.toNat_natCast] at hin
  rw [hg.len x hx] at hin
  have HIN := Lib.hid hin
  obtain ⟨bt, ot, rfl⟩ := h.some (by omega)
  obtain ⟨hS, A0, c0, hc0, hl0, hm0, _⟩ := h.row (i := 0) (by omega)
  obtain ⟨_, Ax, cx, hcx, hlx, hmx, hix⟩ := h.row hx
  obtain ⟨_, Ay, cy, hcy, hly, hmy, hiy⟩ := h.row hy
  rw [Nat.add_zero] at hc0
  have HXL := Lib.hid (hg.len x hx)
  have HYL := Lib.hid (hg.len y hy)
  have hn16 := hg.mhi
  unfold maxLen at hmx hmy hm0
  have HIX := Lib.hid hix
  have HIY := Lib.hid hiy
  have HC0 := Lib.hid hc0
  have HCX := Lib.hid hcx
  have HCY := Lib.hid hcy
  clear ha hb hs hline hg e1 h hix hiy hc0 hcx hcy hin
  go_enter Tryz.func76, Tryz.ntmps76
  go_wp2_with fail
  refine HS.out.mono ?_
  rintro e w1 ⟨rfl, n, rfl⟩
  go_wp2_with fail
  refine (HPA.out _).mono ?_
  rintro e w1 ⟨rfl, rfl⟩
  go_wp2_with fail
  refine (HPB.out _).mono ?_
  rintro e w1 ⟨rfl, rfl⟩
  go_wp2_with fail
  go_loopw [7] (fun i wr => ∃ k : Nat, k ≤ (rowAt g 0).length ∧ i = .int .i64 k ∧ Hid (noBet gtB (rowAt g x) (rowAt g y) k = true) ∧ ∃ n, wr = w.drewN n) (fun i _ => (rowAt g 0).length - (intOf i).toNat)
  case atStart => exact ⟨0, Nat.zero_le _, rfl, rfl, (by first | exact ⟨0, rfl⟩ | exact ⟨_, rfl⟩ | exact ⟨_, World.drewN_drewN _ _ _⟩ | (simp only [World.drewN_drewN]; exact ⟨_, rfl⟩))⟩
  case round =>
    obtain ⟨k, hk, rfl, H, m, rfl⟩ := hrel
    have hc0 : (w.drewN m).cell? ⟨bt, ot, none⟩ = some (.slice A0 (rowAt g 0).length c0) := HC0.out
    by_cases hlt : k < (rowAt g 0).length
    · have hkx : k < (rowAt g x).length := by rw [HXL.out]; exact hlt
      have hky : k < (rowAt g y).length := by rw [HYL.out]; exact hlt
      obtain ⟨bx, ox, rfl, _, hcellx⟩ := HIX.out.at_ hkx
      obtain ⟨by', oy, rfl, _, hcelly⟩ := HIY.out.at_ hky
      have c1 := hcellx k hkx
      have c2 := hcelly k hky
      have c3 := HCX.out
      have c4 := HCY.out
      clear hcellx hcelly
      rcases hb : gtB (nth (rowAt g x) k) (nth (rowAt g y) k) with _ | _
      · have HS : Hid (noBet gtB (rowAt g x) (rowAt g y) (k + 1) = true) := by show (noBet _ _ _ k && _) = true; rw [H.out, hb]; rfl
        have hd : decide (nth (rowAt g y) k < nth (rowAt g x) k) = false := hb
        clear hb
        go_wp2_with fail
        go_quiet (fail)
        go_wp2_with fail
        go_roundw
        case rel => exact ⟨k + 1, by omega, by go_num, HS, (by first | exact ⟨0, rfl⟩ | exact ⟨_, rfl⟩ | exact ⟨_, World.drewN_drewN _ _ _⟩ | (simp only [World.drewN_drewN]; exact ⟨_, rfl⟩))⟩
        case measure => simp [intOf]; omega
      · have HS : Hid (noBet gtB (rowAt g x) (rowAt g y) (rowAt g 0).length = false) := noBet_no hb hlt
        have hd : decide (nth (rowAt g y) k < nth (rowAt g x) k) = true := hb
        clear hb
        go_wp2_with fail
        go_quiet (fail)
        go_wp2_with fail
        go_ret
        exact Quiet.ofD (by rw [HIN.out, HS.out]; first | done | rfl) (by first | exact ⟨0, rfl⟩ | exact ⟨_, rfl⟩ | exact ⟨_, World.drewN_drewN _ _ _⟩ | (simp only [World.drewN_drewN]; exact ⟨_, rfl⟩))
    · obtain rfl : k = (rowAt g 0).length := by omega
      go_wp2_with fail
      go_ret
      exact Quiet.ofD (by rw [HIN.out, H.out]; first | done | rfl) (by first | exact ⟨0, rfl⟩ | exact ⟨_, rfl⟩ | exact ⟨_, World.drewN_drewN _ _ _⟩ | (simp only [World.drewN_drewN]; exact ⟨_, rfl⟩))
set_option maxHeartbeats 400000 in
theorem worseCol_spec (A : Option Addr) (c : Nat) (g : List (List Int)) (a b : Int) (hl : g.length ≤ maxLen) (w : World) (h : Rows2 w (· < w.heap.size) A g) :
    Calls Tryz.prog 78 #[.slice A g.length c, .int .i64 a, .int .i64 b] w (Adds (.bool (wcB g a b)) w) := by
  have HT := Lib.hid (turned_spec A c g hl w h)
  have HL : Hid ((turned g).length ≤ maxLen) := by have := (turned_len g).1; show _ ≤ _; unfold maxLen; omega
  have HE := Lib.hid (wcB_turned g a b)
  clear h
  go_enter Tryz.func78, Tryz.ntmps78
  go_wp2_with fail
  refine HT.out.mono ?_
  rintro e w1 ⟨T, ct, rfl, hb1, ho1⟩
  have HB := Lib.hid hb1
  have HR : Hid (Rows2 w1 (· < w1.heap.size) T (turned g)) := ho1.rows2.mono fun b hb => hb.2
  clear hb1 ho1
  go_wp2_with fail
  refine (worseRow_spec T ct (turned g) a b _ HL.out w1 HR.out).mono ?_
  rintro e w2 ⟨rfl, n, rfl⟩
  go_wp2_with fail
  go_ret
  exact Adds.of (by rw [HE.out]; first | done | rfl) (below_drewN HB.out n)
theorem news_of {w : World} {b off : Nat} {l : List Int} (hc : ∀ i, i < l.length → w.cell? ⟨b, off + i, none⟩ = some (.int .i64 (nth l i))) : ∀ j u, (vals l)[j]? = some u → w.cell? ((⟨b, off, none⟩ : Addr).add j) = some u := by
  intro j u hj
  have hlt : j < l.length := by
    have := (List.getElem?_eq_some_iff.1 hj).1; rwa [vals_length] at this
  rw [vals_get l j hlt] at hj
  injection hj with hj
  subst hj
  have e : (⟨b, off, none⟩ : Addr).add j = ⟨b, off + j, none⟩ := by
    by_cases e0 : j = 0
    · subst e0; simp [Addr.add]
    · simp [Addr.add, e0]
  rw [e]; exact hc j hlt
theorem vals_one {l : List Int} : ∀ u ∈ vals l, u.oneCell' = true := by
  intro u hu
  simp only [vals, List.mem_map] at hu
  obtain ⟨x, _, rfl⟩ := hu
  rfl
set_option maxHeartbeats 4000000 in
set_option maxRecDepth 100000 in
theorem woRow_spec (A : Option Addr) (c : Nat) (g : List (List Int)) (a : Int) (hl : g.length ≤ maxLen) (w : World) (h : Rows2 w (· < w.heap.size) A g) :
    Calls Tryz.prog 77 #[.slice A g.length c, .int .i64 a] w (TabRes w (woRT g a) (woRB g a)) := by
  have hb0 : Below w.heap.size w (w.alloc (.cells #[] 52)) := (Below.refl _ _).alloc (Nat.le_refl _) _
  have HS := Lib.hid (game_spec A c g _ hl _ (keepRows hb0 h))
  have hl' := hl
  unfold maxLen at hl'
  have wl : IntKind.i64.wrap ((g.length : Int) - 1) = (g.length : Int) - 1 := IntWalk.i64_in _ (by omega)
  have HPA : Hid (∀ w' : World, Calls Tryz.prog 37 #[.int .i64 a, .int .i64 0, .int .i64 ((g.length : Int) - 1)] w' (Same (.bool (inPl a g.length)) w')) := fun w' => by rw [← inR_pl]; exact in_spec _ _ _ _
  have HB0 := Lib.hid hb0
  have no : woRB g a = false → Hid (woRT g a = [] ∧ woRB g a = false) := fun e => ⟨woRT_no e, e⟩
  rcases hs : gameB g with _ | _
  · have H := no (by simp [woRB, hs])
    rw [hs] at HS
    clear hs no h hb0
    go_enter Tryz.func77, Tryz.ntmps77
    go_wp2_with fail
    refine HS.out.mono ?_
    rintro e w1 ⟨rfl, n, rfl⟩
    go_wp2_with fail
    go_ret2
    rw [H.out.1, H.out.2]
    exact TabRes.none rfl (below_drewN HB0.out n)
  have hg := Game.of hs
  rw [hs] at HS
  by_cases h2 : 2 ≤ g.length
  case neg =>
    have H := no (by simp [woRB, h2])
    clear hs no h hb0
    go_enter Tryz.func77, Tryz.ntmps77
    go_wp2_with fail
    refine HS.out.mono ?_
    rintro e w1 ⟨rfl, n, rfl⟩
    go_wp2_with fail
    go_ret2
    rw [H.out.1, H.out.2]
    exact TabRes.none rfl (below_drewN HB0.out n)
  rcases ha : inPl a g.length with _ | _
  · have H := no (by simp [woRB, ha])
    rw [ha] at HPA
    clear hs no h hb0 ha
    go_enter Tryz.func77, Tryz.ntmps77
    go_wp2_with fail
    refine HS.out.mono ?_
    rintro e w1 ⟨rfl, n, rfl⟩
    go_wp2_with fail
    refine (HPA.out _).mono ?_
    rintro e w1 ⟨rfl, rfl⟩
    go_wp2_with fail
    go_ret2
    rw [H.out.1, H.out.2]
    exact TabRes.none rfl (below_drewN HB0.out n)
  clear no
  have hyes : woRB g a = true := by simp [woRB, hs, h2, ha]
  obtain ⟨p1, p2⟩ := inPl_iff.1 ha
  obtain ⟨x, rfl⟩ : ∃ x : Nat, a = x := ⟨a.toNat, by omega⟩
  have HRES : Hid (woRT g (x : Int) = selTab (fun i => i != x) (rowAt g) g.length ∧ woRB g (x : Int) = true) := ⟨by rw [woRT_yes hyes]; rfl, hyes⟩
  rw [ha] at HPA
  have G0 := Lib.hid (GrowsR.lit w (base := w.heap.size) (Nat.le_refl _) (fun _ => none) (fun _ => 0))
  have HR := Lib.hid h
  have HG := Lib.hid hg
  have hg2 := hg.hi
  obtain ⟨i0, hi0, hz0, hz1, hz2⟩ := info_parts infoI
  obtain ⟨i1, hi1, hy0, hy1, hy2⟩ := info_parts infoR
  have HI0 := Lib.hid hi0
  have HZ0 := Lib.hid hz0
  have HZ1 := Lib.hid hz1
  have HZ2 := Lib.hid hz2
  have HI1 := Lib.hid hi1
  have HY0 := Lib.hid hy0
  have HY1 := Lib.hid hy1
  have HY2 := Lib.hid hy2
  clear h hs hg ha hyes hi0 hz0 hz1 hz2 hi1 hy0 hy1 hy2 hb0
  go_enter Tryz.func77, Tryz.ntmps77
  go_wp2_with fail
  refine HS.out.mono ?_
  rintro e w1 ⟨rfl, n, rfl⟩
  go_wp2_with fail
  refine (HPA.out _).mono ?_
  rintro e w1 ⟨rfl, rfl⟩
  go_wp2_with fail
  go_loopw [6, 7] (fun v i wr => ∃ k : Nat, k ≤ g.length ∧ i = .int .i64 k ∧ Hid (∃ (A : Nat → Option Addr) (C : Nat → Nat), GrowsR wr w.heap.size wr.heap.size v A C (selTab (fun i => i != x) (rowAt g) k)) ∧ Hid (Below w.heap.size w wr)) (fun _ i _ => g.length - (intOf i).toNat)
  case atStart => exact ⟨0, Nat.zero_le _, rfl, ⟨_, _, (G0.out.drewN n).up (by simp) (Nat.le_refl _)⟩, below_drewN HB0.out n⟩
  case round =>
    obtain ⟨k, hk, rfl, HT, HW⟩ := hrel
    by_cases hlt : k < g.length
    · by_cases hka : k = x
      · have e1 : ((k : Int) != (x : Int)) = false := by simp [hka]
        have hno : Hid (selTab (fun i => i != x) (rowAt g) (k + 1) = selTab (fun i => i != x) (rowAt g) k) := selTab_no (by simp [hka])
        clear hka
        go_wp2_with fail
        go_roundw
        case rel => exact ⟨k + 1, by omega, by go_num, by rw [hno.out]; exact HT.out, HW.out⟩
        case measure => simp [intOf]; omega
      have e1 : ((k : Int) != (x : Int)) = true := by simp; omega
      have hyes : Hid (selTab (fun i => i != x) (rowAt g) (k + 1) = selTab (fun i => i != x) (rowAt g) k ++ [rowAt g k]) := selTab_yes (by simp [hka])
      have hlenT := cnt_le (fun i => i != x) k
      rw [← selTab_length (fun i => i != x) (rowAt g)] at hlenT
      obtain ⟨AA, CC, hgr⟩ := HT.out
      have HGR := Lib.hid hgr
      have hws := HW.out.size
      have hr1 := HG.out.len k hlt
      have hn16 := HG.out.mhi
      have hnlo := HG.out.mlo
      have R2 := keepRows HW.out HR.out
      obtain ⟨bt, ot, rfl⟩ := R2.some (by omega)
      obtain ⟨hSk, Ak, ck, hck, hlk, hmk, hik⟩ := R2.row hlt
      obtain ⟨bk, ok, rfl, hSb, hcells⟩ := hik.at_ (i := 0) (by omega)
      have HN : Hid (∀ j u, (vals (rowAt g k))[j]? = some u → (wr.alloc (.cells #[] 3)).cell? ((⟨bk, ok, none⟩ : Addr).add j) = some u) := news_of fun i hi => (((Below.refl wr.heap.size wr).alloc (Nat.le_refl _) _).cell (p := ⟨bk, ok + i, none⟩) (Nat.lt_of_lt_of_le hSb hws)).trans (hcells i hi)
      have GL := Lib.hid (Grows.lit wr (base := wr.heap.size) (Nat.le_refl _))
      unfold maxLen at hmk
      have hcko : ∀ o, (wr.alloc o).cell? ⟨bt, ot + k, none⟩ = some (.slice (some ⟨bk, ok, none⟩) (rowAt g k).length ck) := fun o => (((Below.refl wr.heap.size wr).alloc (Nat.le_refl _) o).cell (p := ⟨bt, ot + k, none⟩) (Nat.lt_of_lt_of_le hSk hws)).trans hck
      have HR1 := Lib.hid hr1
      have hr16 : (rowAt g k).length ≤ 16 := by omega
      clear hgr HT hka R2 hik hcells hr1
      go_wp2_with (at_builtin; refine wpList_append_own_at _ rfl (.tmp 36) (.tmp 40) _ rfl wr.heap.size 3 i0 (.int .i64 0) 1 8 Tryz.underlying52 HI0.out HZ0.out HZ1.out HZ2.out rfl (by decide) _ _ _ rfl GL.out ⟨bk, ok, none⟩ (rowAt g k).length ck (vals (rowAt g k)) rfl (by rw [vals_length]; omega) HN.out vals_one ?c3 ?c4 ?c5 ?_)
      case c3 => unfold maxLen; first | omega | (simp; done) | (simp; omega)
      case c4 => first | omega | (simp; done) | (simp; omega)
      case c5 => first | omega | (simp; done) | (simp; omega)
      intro v' w4 hown hgrow _ _
      have hgn : Grows w4 wr.heap.size v' (rowAt g k) := by unfold Grows; simpa [vals] using hown
      have hb4 : Below wr.heap.size wr w4 := ((Below.refl wr.heap.size wr).alloc (Nat.le_refl _) _).grown hgrow (by simp) (fun k hk => by simp [Value.ownBlock] at hk; omega)
      obtain ⟨An, cn, hv, hcn1, hcn2, hon⟩ := hgn.own'
      subst hv
      have HV := Lib.hid hb4
      have HGV := Lib.hid (HGR.out.keep hb4)
      have HON := Lib.hid hon
      have hvs := hb4.size
      clear hown hgrow hgn hb4 hon HN GL
      go_wp2_with (at_builtin; refine wpList_append_own_at _ rfl (.tmp 35) (.tmp 42) _ rfl w.heap.size 52 i1 (.slice none 0 0) 1 24 Tryz.underlying23 HI1.out HY0.out HY1.out HY2.out rfl (by decide) _ _ _ rfl (HGV.out.alloc _) ⟨w4.heap.size, 0, none⟩ 1 1 [.slice An (rowAt g k).length cn] rfl rfl (cell_one_new _ _ _) ?c2 ?c3 ?c4 ?c5 ?_)
      case c2 => first | rfl | (intro u hu; simp at hu; subst hu; rfl)
      case c3 => unfold maxLen; omega
      case c4 => omega
      case c5 => first | omega | (simp; omega)
      intro v' w5 hown hgrow _ hat
      have HN : Hid (∃ (A : Nat → Option Addr) (C : Nat → Nat), GrowsR w5 w.heap.size w5.heap.size v' A C (selTab (fun i => i != x) (rowAt g) (k + 1))) := by
        rw [hyes.out]
        exact HGV.out.snoc HON.out hcn1 hcn2 hws hown hgrow (by rcases hat with e | e; exact .inl e; exact .inr (by rw [e]; try simp))
      have HW2 : Hid (Below w.heap.size w w5) := HGV.out.below hgrow (belT HW.out HV.out) (Nat.le_refl _) (by omega)
      clear hown hgrow hat
      go_wp2_with fail
      go_roundw
      case rel => exact ⟨k + 1, by omega, by go_num, HN, HW2⟩
      case measure => simp [intOf]; omega
    · obtain rfl : k = g.length := by omega
      obtain ⟨AA, CC, hgr⟩ := HT.out
      rw [← HRES.out.1] at hgr
      obtain ⟨T1, c1, hv1, hcl1, hcl2, hot⟩ := hgr.table
      subst hv1
      have HOT := Lib.hid hot
      clear hgr hot HT
      go_wp2_with fail
      go_ret2
      rw [HRES.out.2]
      exact ⟨T1, c1, rfl, HW.out, HOT.out⟩
end Go.Proofs.YtlmaeadbomnhlaaGreat

namespace Go.Proofs.YtlmaeadbomnhlaaGreat
set_option linter.unusedSimpArgs false
set_option linter.unusedVariables false
open Go.RowKit
theorem turned_max (g : List (List Int)) : (turned g).length ≤ maxLen := by have := (turned_len g).1; unfold maxLen; omega
theorem woRT_max (g : List (List Int)) (a : Int) : (woRT g a).length ≤ maxLen := by have := (woRT_len g a).1; unfold maxLen; omega
theorem OwnR.reads {w : World} {lo : Nat} {T : Option Addr} {g : List (List Int)} (h : OwnR w lo w.heap.size T g) : Rows2 w (· < w.heap.size) T g := h.rows2.mono fun b hb => hb.2
theorem woCT_turned {g : List (List Int)} (hs : gameB g = true) (a : Int) : woCT g a = turned (woRT (turned g) a) := by
  unfold woCT woRT
  rw [woCB_turned g hs a]
  by_cases h : woRB (turned g) a = true
  · rw [if_pos h, if_pos h]; rfl
  · rw [if_neg h, if_neg h]; rfl
set_option maxHeartbeats 2000000 in
theorem woCol_spec (A : Option Addr) (c : Nat) (g : List (List Int)) (a : Int) (hl : g.length ≤ maxLen) (w : World) (h : Rows2 w (· < w.heap.size) A g) :
    Calls Tryz.prog 79 #[.slice A g.length c, .int .i64 a] w (TabRes w (woCT g a) (woCB g a)) := by
  have HS := Lib.hid (game_spec A c g _ hl _ h)
  have HR := Lib.hid h
  rcases hs : gameB g with _ | _
  · have e : woCB g a = false := by simp [woCB, hs]
    have H : Hid (woCT g a = [] ∧ woCB g a = false) := ⟨woCT_no e, e⟩
    rw [hs] at HS
    clear hs h e
    go_enter Tryz.func79, Tryz.ntmps79
    go_wp2_with fail
    refine HS.out.mono ?_
    rintro e w1 ⟨rfl, n, rfl⟩
    go_wp2_with fail
    go_ret2
    rw [H.out.1, H.out.2]
    exact TabRes.none rfl ((below_drewN (Below.refl _ _) n).alloc (by first | exact Nat.le_refl _ | simp) _)
  have H1 := Lib.hid (woCT_turned hs a)
  have H2 := Lib.hid (woCB_turned g hs a)
  have HTM := Lib.hid (turned_max g)
  have HXM := Lib.hid (woRT_max (turned g) a)
  rw [hs] at HS
  clear hs h
  go_enter Tryz.func79, Tryz.ntmps79
  go_wp2_with fail
  refine HS.out.mono ?_
  rintro e w1 ⟨rfl, n, rfl⟩
  have HB1 := Lib.hid (below_drewN (Below.refl w.heap.size w) n)
  have HR1 : Hid (Rows2 (w.drewN n) (· < (w.drewN n).heap.size) A g) := HR.out.drewN n
  go_wp2_with fail
  refine (turned_spec A c g hl _ HR1.out).mono ?_
  rintro e w2 ⟨T, ct, rfl, hb2, ho2⟩
  have HB2 : Hid (Below w.heap.size w w2) := belT HB1.out hb2
  have HR2 := Lib.hid (OwnR.reads ho2)
  clear hb2 ho2
  go_wp2_with fail
  refine (woRow_spec T ct (turned g) a HTM.out w2 HR2.out).mono ?_
  rintro e w3 ⟨X, cx, rfl, hb3, ho3⟩
  have HB3 := Lib.hid (belT HB2.out hb3)
  have HR3 := Lib.hid (OwnR.reads ho3)
  clear hb3 ho3
  rcases hw : woRB (turned g) a with _ | _
  · have H : Hid (woCT g a = [] ∧ woCB g a = false) := by
      have e : woCB g a = false := H2.out.trans hw
      exact ⟨woCT_no e, e⟩
    clear hw
    go_wp2_with fail
    go_ret2
    rw [H.out.1, H.out.2]
    exact TabRes.none rfl (HB3.out.alloc HB3.out.size _)
  · have H3 : Hid (woCB g a = true) := H2.out.trans hw
    clear hw
    go_wp2_with fail
    refine (turned_spec X cx (woRT (turned g) a) HXM.out w3 HR3.out).mono ?_
    rintro e w4 ⟨Z, cz, rfl, hb4, ho4⟩
    rw [← H1.out] at ho4 ⊢
    have HB4 := Lib.hid (belT HB3.out hb4)
    have HO : Hid (OwnR w4 w.heap.size w4.heap.size Z (woCT g a)) := ho4.more HB3.out.size (Nat.le_refl _)
    clear hb4 ho4
    go_wp2_with fail
    go_ret2
    rw [H3.out]
    exact ⟨Z, cz, rfl, HB4.out, HO.out⟩
def StepRes (w : World) (o : Option (List (List Int))) (v : Value) (e : Ending) (w' : World) : Prop :=
  Below w.heap.size w w' ∧ match o with
  | some t => ∃ (T : Option Addr) (c : Nat), e = .returned (.tuple #[.slice T t.length c, .bool true]) ∧ OwnR w' w.heap.size w'.heap.size T t
  | none => e = .returned (.tuple #[v, .bool false])
set_option maxHeartbeats 4000000 in
theorem step_spec (A : Option Addr) (c : Nat) (g : List (List Int)) (hs : gameB g = true) (w : World) (h : Rows2 w (· < w.heap.size) A g) :
    Calls Tryz.prog 57 #[.slice A g.length c] w (StepRes w (stepO g) (.slice A g.length c)) := by
  have hg := Game.of hs
  have hl16 := hg.hi
  have hl1 := hg.lo
  have hm16 := hg.mhi
  have hl : g.length ≤ maxLen := by unfold maxLen; omega
  have HWR : Hid (∀ (a b : Int) (n : Nat), Calls Tryz.prog 76 #[.slice A g.length c, .int .i64 a, .int .i64 b] (w.drewN n) (Quiet (.bool (lineB gtB g a b)) (w.drewN n))) := fun a b n => by
    have := worseRow_spec A c g a b _ hl (w.drewN n) (h.drewN n); rwa [wrB_line hs] at this
  have HWO : Hid (∀ (a : Int) (n : Nat), Calls Tryz.prog 77 #[.slice A g.length c, .int .i64 a] (w.drewN n) (TabRes (w.drewN n) (woRT g a) (woRB g a))) := fun a n => woRow_spec A c g a hl _ (h.drewN n)
  have HWC : Hid (∀ (a b : Int) (w' : World), Below w.heap.size w w' → Calls Tryz.prog 78 #[.slice A g.length c, .int .i64 a, .int .i64 b] w' (Adds (.bool (lineB ltB (cols g) a b)) w')) := fun a b w' hb => by
    have := worseCol_spec A c g a b hl w' ((keepRows hb h).lt hb.size); rwa [wcB_line hs] at this
  have HWD : Hid (∀ (a : Int) (w' : World), Below w.heap.size w w' → Calls Tryz.prog 79 #[.slice A g.length c, .int .i64 a] w' (TabRes w' (woCT g a) (woCB g a))) := fun a w' hb => woCol_spec A c g a hl w' ((keepRows hb h).lt hb.size)
  have HROW : Hid (∀ a, fstW gtB g = some a → woRB g (a : Int) = true ∧ stepO g = some (woRT g (a : Int))) := fun a ha => ⟨(fstW_row hs ha).1, by rw [(fstW_row hs ha).2.1]; exact stepO_row ha⟩
  have HCOL : Hid (fstW gtB g = none → ∀ a, fstW ltB (cols g) = some a → woCB g (a : Int) = true ∧ stepO g = some (woCT g (a : Int))) := fun h0 a ha => ⟨(fstW_col hs ha).1, by rw [(fstW_col hs ha).2.1]; exact stepO_col h0 ha⟩
  have HCL := Lib.hid (cols_length g)
  obtain ⟨bt, ot, rfl⟩ := h.some (by omega)
  obtain ⟨hS, A0, c0, hc0, hl0, hm0, _⟩ := h.row (i := 0) (by omega)
  rw [Nat.add_zero] at hc0
  unfold maxLen at hm0
  have HC0 : Hid (∀ w' : World, Below w.heap.size w w' → w'.cell? ⟨bt, ot, none⟩ = some (.slice A0 (rowAt g 0).length c0)) := fun w' hb => (hb.cell (p := ⟨bt, ot, none⟩) hS).trans hc0
  clear hs hg h hc0
  go_enter Tryz.func57, Tryz.ntmps57
  go_wp2_with fail
  go_loopw [4] (fun i wr => ∃ k : Nat, k ≤ g.length ∧ i = .int .i64 k ∧ Hid (∀ a, a < k → anyW gtB g a = false) ∧ ∃ n, wr = w.drewN n) (fun i _ => g.length - (intOf i).toNat)
  case atStart => exact ⟨0, Nat.zero_le _, rfl, fun a ha => by omega, (by first | exact ⟨0, rfl⟩ | exact ⟨_, rfl⟩ | exact ⟨_, World.drewN_drewN _ _ _⟩ | (simp only [World.drewN_drewN]; exact ⟨_, rfl⟩))⟩
  case round =>
    obtain ⟨k, hk, rfl, H, n, rfl⟩ := hrel
    by_cases hlt : k < g.length
    · go_wp2_with fail
      go_loopw [5] (fun i wr => ∃ m : Nat, m ≤ g.length ∧ i = .int .i64 m ∧ Hid (∀ b : Nat, b < m → lineB gtB g k b = false) ∧ ∃ n, wr = w.drewN n) (fun i _ => g.length - (intOf i).toNat)
      case atStart => exact ⟨0, Nat.zero_le _, rfl, fun b hb => by omega, (by first | exact ⟨0, rfl⟩ | exact ⟨_, rfl⟩ | exact ⟨_, World.drewN_drewN _ _ _⟩ | (simp only [World.drewN_drewN]; exact ⟨_, rfl⟩))⟩
      case round =>
        obtain ⟨m, hm, rfl, H2, n2, rfl⟩ := hrel
        by_cases hlm : m < g.length
        · go_wp2_with fail
          refine (HWR.out _ _ _).mono ?_
          rintro e w1 ⟨rfl, n3, rfl⟩
          rcases hb : lineB gtB g k m with _ | _
          · have HS : Hid (∀ b : Nat, b < m + 1 → lineB gtB g k b = false) := fun b hbm => by
              by_cases e : b = m
              · subst e; exact hb
              · exact H2.out b (by omega)
            clear hb
            go_wp2_with fail
            go_roundw
            case rel => exact ⟨m + 1, by omega, by go_num, HS, (by first | exact ⟨0, rfl⟩ | exact ⟨_, rfl⟩ | exact ⟨_, World.drewN_drewN _ _ _⟩ | (simp only [World.drewN_drewN]; exact ⟨_, rfl⟩))⟩
            case measure => simp [intOf]; omega
          · have HS : Hid (fstW gtB g = some k) := fstN_some hlt (anyN_iff.2 ⟨m, hlm, hb⟩) H.out
            have HST := Lib.hid (HROW.out k HS.out)
            have HWK : Hid (Calls Tryz.prog 77 #[.slice (some ⟨bt, ot, none⟩) g.length c, .int .i64 (k : Int)] (w.drewN (n2 + n3)) (TabRes (w.drewN (n2 + n3)) (woRT g (k : Int)) true)) := by
              have := HWO.out (k : Int) (n2 + n3); rw [HST.out.1] at this; exact this
            clear hb
            go_wp2_with fail
            refine HWK.out.mono ?_
            rintro e w2 ⟨T, ct, rfl, hb2, ho2⟩
            have HB2 : Hid (Below w.heap.size w w2) := (below_drewN (Below.refl _ _) (n2 + n3)).trans hb2
            have HO2 : Hid (OwnR w2 w.heap.size w2.heap.size T (woRT g (k : Int))) := ho2
            clear hb2 ho2
            go_wp2_with fail
            go_ret2
            rw [HST.out.2]
            exact ⟨HB2.out, T, ct, rfl, HO2.out⟩
        · obtain rfl : m = g.length := by omega
          have HS : Hid (∀ a, a < k + 1 → anyW gtB g a = false) := fun a ha => by
            by_cases e : a = k
            · subst e; exact anyN_false.2 H2.out
            · exact H.out a (by omega)
          go_wp2_with fail
          go_roundw
          case rel => exact ⟨k + 1, by omega, by go_num, HS, (by first | exact ⟨0, rfl⟩ | exact ⟨_, rfl⟩ | exact ⟨_, World.drewN_drewN _ _ _⟩ | (simp only [World.drewN_drewN]; exact ⟨_, rfl⟩))⟩
          case measure => simp [intOf]; omega
    · obtain rfl : k = g.length := by omega
      have HNO : Hid (fstW gtB g = none) := fstN_none H.out
      have HCOL2 := Lib.hid (HCOL.out HNO.out)
      have HB0 : Hid (Below w.heap.size w (w.drewN n)) := below_drewN (Below.refl _ _) n
      go_wp2_with fail
      go_loopw [6] (fun i wr => ∃ k : Nat, k ≤ (rowAt g 0).length ∧ i = .int .i64 k ∧ Hid (∀ a, a < k → anyW ltB (cols g) a = false) ∧ Hid (Below w.heap.size w wr)) (fun i _ => (rowAt g 0).length - (intOf i).toNat)
      case atStart => exact ⟨0, Nat.zero_le _, rfl, fun a ha => by omega, HB0⟩
      case round =>
        obtain ⟨k, hk, rfl, H, HB⟩ := hrel
        have hc0 := HC0.out _ HB.out
        by_cases hlt : k < (rowAt g 0).length
        · go_wp2_with fail
          clear hc0
          go_loopw [7] (fun i wr => ∃ m : Nat, m ≤ (rowAt g 0).length ∧ i = .int .i64 m ∧ Hid (∀ b : Nat, b < m → lineB ltB (cols g) k b = false) ∧ Hid (Below w.heap.size w wr)) (fun i _ => (rowAt g 0).length - (intOf i).toNat)
          case atStart => exact ⟨0, Nat.zero_le _, rfl, fun b hb => by omega, HB⟩
          case round =>
            obtain ⟨m, hm, rfl, H2, HB2⟩ := hrel
            have hc0 := HC0.out _ HB2.out
            by_cases hlm : m < (rowAt g 0).length
            · go_wp2_with fail
              clear hc0
              refine (HWC.out _ _ _ HB2.out).mono ?_
              rintro e w1 ⟨rfl, hb1⟩
              have HB3 := Lib.hid (belT HB2.out hb1)
              clear hb1
              rcases hb : lineB ltB (cols g) k m with _ | _
              · have HS : Hid (∀ b : Nat, b < m + 1 → lineB ltB (cols g) k b = false) := fun b hbm => by
                  by_cases e : b = m
                  · subst e; exact hb
                  · exact H2.out b (by omega)
                clear hb
                go_wp2_with fail
                go_roundw
                case rel => exact ⟨m + 1, by omega, by go_num, HS, HB3⟩
                case measure => simp [intOf]; omega
              · have HS : Hid (fstW ltB (cols g) = some k) := fstN_some (by rw [HCL.out]; exact hlt) (anyN_iff.2 ⟨m, by rw [HCL.out]; exact hlm, hb⟩) H.out
                have HST := Lib.hid (HCOL2.out k HS.out)
                have HWK : Hid (Calls Tryz.prog 79 #[.slice (some ⟨bt, ot, none⟩) g.length c, .int .i64 (k : Int)] w1 (TabRes w1 (woCT g (k : Int)) true)) := by
                  have := HWD.out (k : Int) w1 HB3.out; rw [HST.out.1] at this; exact this
                clear hb
                go_wp2_with fail
                refine HWK.out.mono ?_
                rintro e w2 ⟨T, ct, rfl, hb2, ho2⟩
                have HB4 : Hid (Below w.heap.size w w2) := belT HB3.out hb2
                have HO2 : Hid (OwnR w2 w.heap.size w2.heap.size T (woCT g (k : Int))) := ho2.more HB3.out.size (Nat.le_refl _)
                clear hb2 ho2
                go_wp2_with fail
                go_ret2
                rw [HST.out.2]
                exact ⟨HB4.out, T, ct, rfl, HO2.out⟩
            · obtain rfl : m = (rowAt g 0).length := by omega
              have HS : Hid (∀ a, a < k + 1 → anyW ltB (cols g) a = false) := fun a ha => by
                by_cases e : a = k
                · subst e; exact anyN_false.2 (by rw [HCL.out]; exact H2.out)
                · exact H.out a (by omega)
              go_wp2_with fail
              go_roundw
              case rel => exact ⟨k + 1, by omega, by go_num, HS, HB2⟩
              case measure => simp [intOf]; omega
        · obtain rfl : k = (rowAt g 0).length := by omega
          have HNC : Hid (fstW ltB (cols g) = none) := fstN_none (by rw [HCL.out]; exact H.out)
          have HST := Lib.hid (stepO_none HNO.out HNC.out)
          go_wp2_with fail
          go_ret2
          rw [HST.out]
          exact ⟨HB.out, rfl⟩
theorem selTab_all (g : List (List Int)) : selTab (fun _ => true) (rowAt g) g.length = g := by
  rw [selTab_map, sel_all]
  refine ext_rowAt (by simp) fun i hi => ?_
  have hi' : i < g.length := by simpa using hi
  simp [rowAt, hi']
set_option maxHeartbeats 4000000 in
set_option maxRecDepth 100000 in
theorem small_spec (A : Option Addr) (c : Nat) (g : List (List Int)) (hl : g.length ≤ maxLen) (w : World) (h : Rows2 w (· < w.heap.size) A g) :
    Calls Tryz.prog 40 #[.slice A g.length c] w (NewTable w (small g)) := by
  have HS := Lib.hid (game_spec A c g _ hl _ h)
  rcases hs : gameB g with _ | _
  · have H := Lib.hid (small_no hs)
    rw [hs] at HS
    clear hs h
    go_enter Tryz.func40, Tryz.ntmps40
    go_wp2_with fail
    refine HS.out.mono ?_
    rintro e w1 ⟨rfl, n, rfl⟩
    go_wp2_with fail
    go_ret
    rw [H.out]
    exact ⟨_, 0, rfl, (below_drewN (Below.refl _ _) n).alloc (by first | exact Nat.le_refl _ | simp) _, fun h0 => absurd h0 (by simp)⟩
  have hg := Game.of hs
  have HSM : Hid (small g = smT g) := small_yes hs
  have HGB := Lib.hid hs
  rw [hs] at HS
  have HR := Lib.hid h
  have HG := Lib.hid hg
  have hg2 := hg.hi
  have HALL := Lib.hid (selTab_all g)
  obtain ⟨i0, hi0, hz0, hz1, hz2⟩ := info_parts infoI
  obtain ⟨i1, hi1, hy0, hy1, hy2⟩ := info_parts infoR
  have HI0 := Lib.hid hi0
  have HZ0 := Lib.hid hz0
  have HZ1 := Lib.hid hz1
  have HZ2 := Lib.hid hz2
  have HI1 := Lib.hid hi1
  have HY0 := Lib.hid hy0
  have HY1 := Lib.hid hy1
  have HY2 := Lib.hid hy2
  clear h hs hg hi0 hz0 hz1 hz2 hi1 hy0 hy1 hy2
  go_enter Tryz.func40, Tryz.ntmps40
  go_wp2_with fail
  refine HS.out.mono ?_
  rintro e w1 ⟨rfl, n, rfl⟩
  have HB0 : Hid (Below w.heap.size w ((w.drewN n).alloc (.cells #[] 52))) := (below_drewN (Below.refl _ _) n).alloc (Nat.le_refl _) _
  have G0 : Hid (GrowsR ((w.drewN n).alloc (.cells #[] 52)) w.heap.size (w.heap.size + 1) (.slice (some ⟨w.heap.size, 0, none⟩) 0 0) (fun _ => none) (fun _ => 0) []) := GrowsR.lit (w.drewN n) (base := w.heap.size) (Nat.le_refl _) (fun _ => none) (fun _ => 0)
  go_wp2_with fail
  go_loopw [3, 4] (fun v i wr => ∃ k : Nat, k ≤ g.length ∧ i = .int .i64 k ∧ Hid (∃ (A : Nat → Option Addr) (C : Nat → Nat), GrowsR wr w.heap.size wr.heap.size v A C (selTab (fun _ => true) (rowAt g) k)) ∧ Hid (Below w.heap.size w wr)) (fun _ i _ => g.length - (intOf i).toNat)
  case atStart => exact ⟨0, Nat.zero_le _, rfl, ⟨_, _, G0.out.up (by simp) (Nat.le_refl _)⟩, HB0.out⟩
  case round =>
    obtain ⟨k, hk, rfl, HT, HW⟩ := hrel
    by_cases hlt : k < g.length
    · have hyes : Hid (selTab (fun _ => true) (rowAt g) (k + 1) = selTab (fun _ => true) (rowAt g) k ++ [rowAt g k]) := selTab_yes rfl
      have hlenT := cnt_le (fun _ => true) k
      rw [← selTab_length (fun _ => true) (rowAt g)] at hlenT
      obtain ⟨AA, CC, hgr⟩ := HT.out
      have HGR := Lib.hid hgr
      have hws := HW.out.size
      have hr1 := HG.out.len k hlt
      have hn16 := HG.out.mhi
      have hnlo := HG.out.mlo
      have R2 := keepRows HW.out HR.out
      obtain ⟨bt, ot, rfl⟩ := R2.some (by omega)
      obtain ⟨hSk, Ak, ck, hck, hlk, hmk, hik⟩ := R2.row hlt
      obtain ⟨bk, ok, rfl, hSb, hcells⟩ := hik.at_ (i := 0) (by omega)
      have HN : Hid (∀ j u, (vals (rowAt g k))[j]? = some u → (wr.alloc (.cells #[] 3)).cell? ((⟨bk, ok, none⟩ : Addr).add j) = some u) := news_of fun i hi => (((Below.refl wr.heap.size wr).alloc (Nat.le_refl _) _).cell (p := ⟨bk, ok + i, none⟩) (Nat.lt_of_lt_of_le hSb hws)).trans (hcells i hi)
      have GL := Lib.hid (Grows.lit wr (base := wr.heap.size) (Nat.le_refl _))
      unfold maxLen at hmk
      have hcko : ∀ o, (wr.alloc o).cell? ⟨bt, ot + k, none⟩ = some (.slice (some ⟨bk, ok, none⟩) (rowAt g k).length ck) := fun o => (((Below.refl wr.heap.size wr).alloc (Nat.le_refl _) o).cell (p := ⟨bt, ot + k, none⟩) (Nat.lt_of_lt_of_le hSk hws)).trans hck
      have hr16 : (rowAt g k).length ≤ 16 := by omega
      clear hgr HT R2 hik hcells hr1
      go_wp2_with (at_builtin; refine wpList_append_own_at _ rfl (.tmp 19) (.tmp 23) _ rfl wr.heap.size 3 i0 (.int .i64 0) 1 8 Tryz.underlying52 HI0.out HZ0.out HZ1.out HZ2.out rfl (by decide) _ _ _ rfl GL.out ⟨bk, ok, none⟩ (rowAt g k).length ck (vals (rowAt g k)) rfl (by rw [vals_length]; omega) HN.out vals_one ?c3 ?c4 ?c5 ?_)
      all_goals try (first | (unfold maxLen; omega) | (unfold maxLen; simp; omega) | omega | (simp; done) | (simp; omega))
      intro v' w4 hown hgrow _ _
      have hgn : Grows w4 wr.heap.size v' (rowAt g k) := by unfold Grows; simpa [vals] using hown
      have hb4 : Below wr.heap.size wr w4 := ((Below.refl wr.heap.size wr).alloc (Nat.le_refl _) _).grown hgrow (by simp) (fun k hk => by simp [Value.ownBlock] at hk; omega)
      obtain ⟨An, cn, hv, hcn1, hcn2, hon⟩ := hgn.own'
      subst hv
      have HV := Lib.hid hb4
      have HGV := Lib.hid (HGR.out.keep hb4)
      have HON := Lib.hid hon
      have hvs := hb4.size
      clear hown hgrow hgn hb4 hon HN GL
      go_wp2_with (at_builtin; refine wpList_append_own_at _ rfl (.tmp 18) (.tmp 25) _ rfl w.heap.size 52 i1 (.slice none 0 0) 1 24 Tryz.underlying23 HI1.out HY0.out HY1.out HY2.out rfl (by decide) _ _ _ rfl (HGV.out.alloc _) ⟨w4.heap.size, 0, none⟩ 1 1 [.slice An (rowAt g k).length cn] rfl rfl (cell_one_new _ _ _) ?d2 ?d3 ?d4 ?d5 ?_)
      case d2 => first | rfl | (intro u hu; simp at hu; subst hu; rfl)
      case d3 => unfold maxLen; omega
      case d4 => omega
      case d5 => first | omega | (simp; omega)
      intro v' w5 hown hgrow _ hat
      have HN : Hid (∃ (A : Nat → Option Addr) (C : Nat → Nat), GrowsR w5 w.heap.size w5.heap.size v' A C (selTab (fun _ => true) (rowAt g) (k + 1))) := by
        rw [hyes.out]
        exact HGV.out.snoc HON.out hcn1 hcn2 hws hown hgrow (by rcases hat with e | e; exact .inl e; exact .inr (by rw [e]; try simp))
      have HW2 : Hid (Below w.heap.size w w5) := HGV.out.below hgrow (belT HW.out HV.out) (Nat.le_refl _) (by omega)
      clear hown hgrow hat
      go_wp2_with fail
      go_roundw
      case rel => exact ⟨k + 1, by omega, by go_num, HN, HW2⟩
      case measure => simp [intOf]; omega
    · obtain rfl : k = g.length := by omega
      obtain ⟨AA, CC, hgr⟩ := HT.out
      rw [HALL.out] at hgr
      obtain ⟨T1, c1, hv1, hcl1, hcl2, hot⟩ := hgr.table
      subst hv1
      have HOT := Lib.hid hot
      clear hgr hot HT
      go_wp2_with fail
      go_loopg [3] (szT g) (fun k v wr => ∃ (t : List (List Int)) (T : Option Addr) (ct : Nat), v = .slice T t.length ct ∧ Hid (szT t = k) ∧ Hid (gameB t = true) ∧ Hid (smT t = smT g) ∧ Hid (Below w.heap.size w wr) ∧ Hid (OwnR wr w.heap.size wr.heap.size T t))
      case atStart => exact ⟨g, T1, c1, rfl, rfl, HGB, rfl, HW, HOT⟩
      case round =>
        obtain ⟨t, T, ct, rfl, HK, HGT, HSM2, HB, HO⟩ := hrel
        go_wp2_with fail
        refine (step_spec T ct t HGT.out _ HO.out.reads).mono ?_
        rintro e w2 ⟨hb2, hres⟩
        have HB2 := Lib.hid (belT HB.out hb2)
        rcases hst : stepO t with _ | t2
        · rw [hst] at hres
          dsimp only at hres
          subst hres
          have HE : Hid (small g = t) := by rw [HSM.out, ← HSM2.out]; exact smT_end hst
          have HO2 : Hid (OwnR w2 w.heap.size w2.heap.size T t) := (HO.out.keep fun b _ h2 => hb2.block b h2).more (Nat.le_refl _) hb2.size
          clear hst hb2
          go_wp2_with fail
          go_ret
          rw [HE.out]
          exact ⟨T, ct, rfl, HB2.out, HO2.out⟩
        · rw [hst] at hres
          dsimp only at hres
          obtain ⟨T2, c2, rfl, ho2⟩ := hres
          obtain ⟨g2, z2, _⟩ := stepO_game HGT.out hst
          have HG2 := Lib.hid g2
          have HZ := Lib.hid z2
          have HSM3 : Hid (smT t2 = smT g) := by rw [← smT_step HGT.out hst]; exact HSM2.out
          have HO2 : Hid (OwnR w2 w.heap.size w2.heap.size T2 t2) := ho2.more HB.out.size (Nat.le_refl _)
          clear hst hb2 ho2 g2 z2
          go_wp2_with fail
          go_roundg (szT t2)
          case measure => have := HZ.out; have := HK.out; omega
          case rel => exact ⟨t2, T2, c2, rfl, rfl, HG2, HSM3, HB2, HO2⟩
end Go.Proofs.YtlmaeadbomnhlaaGreat
