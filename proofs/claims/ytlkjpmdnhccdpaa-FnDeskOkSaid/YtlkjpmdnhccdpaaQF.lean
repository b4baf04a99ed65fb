/- Texts in one: DeskK, DrawJa, LawT, LawG, LawJa, LawJb. -/
import Derived.Test.YtlkjpmdnhccdpaaQA
import Derived.Test.YtlkjpmdnhccdpaaMH
import Derived.Test.YtlkjpmdnhccdpaaMG
import Derived.Test.YtlkjpmdnhccdpaaQE
namespace Go.Proofs.Ytlkjpmdnhccdpaa
set_option linter.unusedSimpArgs false
set_option linter.unusedVariables false
open Go.RowKit

set_option maxHeartbeats 4000000 in
set_option maxRecDepth 100000 in
theorem sameDesk_c (A B A' B' : Option Addr) (c k c' k' : Nat) (d : Dk) (hx : d.now.length ≤ maxLen) (hy : d.past.length ≤ maxLen) (w : World) (h1 : Rows2 w (· < w.heap.size) A d.now) (h2 : Rows3 w (· < w.heap.size) B d.past) (h3 : Rows2 w (· < w.heap.size) A' d.now) (h4 : Rows3 w (· < w.heap.size) B' d.past) :
    Calls Try.prog 11 #[.agg #[.slice A d.now.length c, .slice B d.past.length k], .agg #[.slice A' d.now.length c', .slice B' d.past.length k']] w (Adds (.bool true) w) := by
  have hy' := hy
  unfold maxLen at hy'
  obtain ⟨W, hW⟩ : ∃ W : World, W = (w.alloc (.cells #[.slice A d.now.length c, .slice B d.past.length k] 26)).alloc (.cells #[.slice A' d.now.length c', .slice B' d.past.length k'] 26) := ⟨_, rfl⟩
  have hbW : Below w.heap.size w W := by rw [hW]; exact ((Below.refl _ _).alloc (Nat.le_refl _) _).alloc (by simp) _
  have a0 : W.cell? ⟨w.heap.size, 0, none⟩ = some (.slice A d.now.length c) := by rw [hW]; simp [go_sem]
  have a1 : W.cell? ⟨w.heap.size, 1, none⟩ = some (.slice B d.past.length k) := by rw [hW]; simp [go_sem]
  have b0 : W.cell? ⟨w.heap.size + 1, 0, none⟩ = some (.slice A' d.now.length c') := by rw [hW]; simp [go_sem]
  have b1 : W.cell? ⟨w.heap.size + 1, 1, none⟩ = some (.slice B' d.past.length k') := by rw [hW]; simp [go_sem]
  have H1 := Lib.hid (keepRows hbW h1)
  have H2 := Lib.hid (keepTabs hbW h2)
  have H3 := Lib.hid (keepRows hbW h3)
  have H4 := Lib.hid (keepTabs hbW h4)
  have HBW := Lib.hid hbW
  have z1 : ((d.past.length : Int) != (d.past.length : Int)) = false := by simp
  clear h1 h2 h3 h4 hbW
  go_enter Try.func11, Try.ntmps11
  go_wp2_with fail
  try rw [← hW]
  clear hW
  refine (sameRows _ _ _ _ d.now _ _ hx _ H1.out H3.out).mono ?_
  rintro e w1 ⟨rfl, n0, rfl⟩
  have HA := Lib.hid (And.intro a1 b1)
  have a1' : (W.drewN n0).cell? ⟨w.heap.size, 1, none⟩ = some (.slice B d.past.length k) := a1
  have b1' : (W.drewN n0).cell? ⟨w.heap.size + 1, 1, none⟩ = some (.slice B' d.past.length k') := b1
  clear a0 b0 a1 b1
  go_wp2_with fail
  clear a1' b1'
  go_loopw [5] (fun i wr => ∃ j : Nat, j ≤ d.past.length ∧ i = .int .i64 j ∧ ∃ n, wr = W.drewN n) (fun i _ => d.past.length - (intOf i).toNat)
  case atStart => exact ⟨0, Nat.zero_le _, rfl, ⟨_, rfl⟩⟩
  case round =>
    obtain ⟨j, hj, rfl, n, rfl⟩ := hrel
    have c1 : (W.drewN n).cell? ⟨w.heap.size, 1, none⟩ = some (.slice B d.past.length k) := HA.out.1
    have d1 : (W.drewN n).cell? ⟨w.heap.size + 1, 1, none⟩ = some (.slice B' d.past.length k') := HA.out.2
    have e1 := HA.out.1
    have e2 := HA.out.2
    by_cases hlt : j < d.past.length
    · obtain ⟨b, off, rfl⟩ := H2.out.some (by omega)
      obtain ⟨b', off', rfl⟩ := H4.out.some (by omega)
      obtain ⟨hS, Aj, cj, hcj, hlj, hmj, hij⟩ := H2.out.tab hlt
      obtain ⟨hS', Bj, dj, hdj, hlj', hmj', hij'⟩ := H4.out.tab hlt
      have HI := Lib.hid hij
      have HJ := Lib.hid hij'
      have hm2 := Nat.le_trans hlj hmj
      clear hij hij'
      unfold maxLen at hmj hmj'
      go_wp2_with fail
      go_quiet ((go_at_call 24; exact quietAdd (sameRows _ _ _ _ (tabAt d.past j) _ _ hm2 _ (HI.out.drewN _) (HJ.out.drewN _))))
      go_wp2_with fail
      go_roundw
      case rel => exact ⟨j + 1, by omega, by go_num, ⟨_, rfl⟩⟩
      case measure => simp [intOf]; omega
    · obtain rfl : j = d.past.length := by omega
      go_wp2_with fail
      go_ret
      exact Adds.of rfl (below_drewN HBW.out n)

set_option maxHeartbeats 1000000 in
theorem noDesk_c (A B : Option Addr) (c k : Nat) (w : World) :
    Calls Try.prog 13 #[.agg #[.slice A 0 c, .slice B 0 k]] w (Adds (.bool true) w) := by
  have HS : Hid (∀ w', Calls Try.prog 11 #[.agg #[.slice A 0 c, .slice B 0 k], .agg #[.slice none 0 0, .slice none 0 0]] w' (Adds (.bool true) w')) := fun w' =>
    sameDesk_c A B none none c k 0 0 dkZero (by simp [dkZero]) (by simp [dkZero]) w' (fun h => absurd h (by simp [dkZero])) (Rows3.nil _ _ _) (fun h => absurd h (by simp [dkZero])) (Rows3.nil _ _ _)
  go_enter Try.func13, Try.ntmps13
  go_wp2_with fail
  refine (HS.out _).mono ?_
  rintro e w1 ⟨rfl, hb⟩
  go_wp2_with fail
  go_ret
  exact Adds.of rfl (((Below.refl _ _).alloc (Nat.le_refl _) _).trans (hb.mono (by simp)))

end Go.Proofs.Ytlkjpmdnhccdpaa

namespace Go.Proofs.Ytlkjpmdnhccdpaa
set_option linter.unusedSimpArgs false
set_option linter.unusedVariables false
open Go.RowKit

set_option maxHeartbeats 400000 in
theorem dDrawLaidOk (a : Option Addr) (len cap : Nat) (zs : List Int) (w : World) (h : IsRow .u8 w a len cap zs) :
    Calls Try.prog 16 #[.slice a len cap] w (DrawnT w) := by
  go_enter Try.func16, Try.ntmps16
  go_wp2_with fail
  refine (l20Open a len cap zs w h).mono ?_
  rintro e w1 ⟨rfl, hb1, a1, len1, cap1, zs1, R1⟩
  go_wp2_with fail
  refine (l20Game w.heap.size w1 a1 len1 cap1 zs1 0 5 4 R1 (by omega) (by omega) (by omega) (by omega) (by omega)).mono ?_
  intro e w2 hD
  have HD := Lib.hid (DrawnT.of hb1 R1 hD)
  obtain ⟨g, T, c, rfl, hg1, hg2, hg3, hg4, hbel, hown⟩ := HD.out
  clear hD R1
  go_wp2_with fail
  go_ret
  exact ⟨g, T, c, rfl, hg1, hg2, hg3, hg4, hbel, hown⟩

set_option maxHeartbeats 400000 in
theorem dDrawDeskNew (a : Option Addr) (len cap : Nat) (zs : List Int) (w : World) (h : IsRow .u8 w a len cap zs) :
    Calls Try.prog 21 #[.slice a len cap] w (DrawnT w) := by
  go_enter Try.func21, Try.ntmps21
  go_wp2_with fail
  refine (l20Open a len cap zs w h).mono ?_
  rintro e w1 ⟨rfl, hb1, a1, len1, cap1, zs1, R1⟩
  go_wp2_with fail
  refine (l20Game w.heap.size w1 a1 len1 cap1 zs1 0 5 4 R1 (by omega) (by omega) (by omega) (by omega) (by omega)).mono ?_
  intro e w2 hD
  have HD := Lib.hid (DrawnT.of hb1 R1 hD)
  obtain ⟨g, T, c, rfl, hg1, hg2, hg3, hg4, hbel, hown⟩ := HD.out
  clear hD R1
  go_wp2_with fail
  go_ret
  exact ⟨g, T, c, rfl, hg1, hg2, hg3, hg4, hbel, hown⟩

end Go.Proofs.Ytlkjpmdnhccdpaa

namespace Go.Proofs.Ytlkjpmdnhccdpaa
set_option linter.unusedSimpArgs false
set_option linter.unusedVariables false
open Go.RowKit

theorem small_max {n : Nat} (h : n ≤ 17) : n ≤ maxLen := by unfold maxLen; omega

theorem byte_len {w : World} {a : Option Addr} {len cap : Nat} {zs : List Int} (h : IsRow .u8 w a len cap zs) : len ≤ 9223372036854775807 := by
  rcases h with ⟨_, rfl, _, _⟩ | ⟨x, _, h1, h2, _⟩
  · omega
  · unfold maxLen at h2; omega

end Go.Proofs.Ytlkjpmdnhccdpaa

namespace Go.Proofs.Ytlkjpmdnhccdpaa
set_option linter.unusedSimpArgs false
set_option linter.unusedVariables false
open Go.RowKit

/-- one number, written out -/
theorem oneRow {w : World} {b b' : Nat} {x : Int} {S : Nat → Prop} (h1 : w.cell? ⟨b, 0, none⟩ = some (.slice (some ⟨b', 0, none⟩) 1 1)) (h2 : w.cell? ⟨b', 0, none⟩ = some (.int .i64 x)) (hb : S b) (hb' : S b') : Rows2 w S (some ⟨b, 0, none⟩) [[x]] := by
  intro _
  refine ⟨b, 0, rfl, hb, fun i hi => ?_⟩
  have e : i = 0 := by simpa using hi
  subst e
  refine ⟨some ⟨b', 0, none⟩, 1, h1, Nat.le_refl _, by unfold maxLen; omega, fun _ => ⟨b', 0, rfl, hb', fun j hj => ?_⟩⟩
  have e : j = 0 := by have : j < 1 := hj; omega
  subst e
  exact h2

theorem takeRows {w : World} {S : Nat → Prop} {T : Option Addr} {g : List (List Int)} (h : Rows2 w S T g) (k : Nat) : Rows2 w S T (g.take k) := by
  intro h0
  have hl : (g.take k).length ≤ g.length := by rw [List.length_take]; omega
  obtain ⟨b, off, e, hb, hc⟩ := h (by omega)
  refine ⟨b, off, e, hb, fun i hi => ?_⟩
  have hr : rowAt (g.take k) i = rowAt g i := by
    unfold rowAt; rw [List.getD_eq_getElem?_getD, List.getD_eq_getElem?_getD, List.getElem?_take, if_pos (by rw [List.length_take] at hi; omega)]
  rw [hr]; exact hc i (by omega)

theorem game_front (T : Option Addr) (c : Nat) (g : List (List Int)) (m : Nat) (S : Nat → Prop) (hg : Game g m) (h1 : 1 < g.length) (w : World) (h : Rows2 w S T g) :
    Calls Try.prog 74 #[.slice T (g.length - 1) c] w (Same (.bool true) w) := by
  have hl := hg.hi
  have hlen : (g.take (g.length - 1)).length = g.length - 1 := by rw [List.length_take]; omega
  have := game_impl T c (g.take (g.length - 1)) S (by rw [hlen]; exact small_max (by omega)) w (takeRows h _)
  rwa [hlen, game_take hg h1] at this

end Go.Proofs.Ytlkjpmdnhccdpaa

namespace Go.Proofs.Ytlkjpmdnhccdpaa
set_option linter.unusedSimpArgs false
set_option linter.unusedVariables false
open Go.RowKit

/-- what the law of LaidOk asks of the program's LaidOk -/
structure Impl12L : Prop where
  laid : ∀ (A : Option Addr) (c : Nat) (g : List (List Int)) (_ : g.length ≤ maxLen) (w : World) (_ : Rows2 w (fun b => b < w.heap.size) A g), Calls Try.prog 17 #[.slice A g.length c] w (Adds (.bool (laidB g)) w)

set_option maxHeartbeats 4000000 in
set_option maxRecDepth 100000 in
theorem wFnLaidOk (I : Impl12L) (J : ∀ (T : Option Addr) (c : Nat) (g : List (List Int)) (_ : g.length ≤ maxLen) (w : World) (_ : Rows2 w (· < w.heap.size) T g), Calls Try.prog 19 #[.slice T g.length c] w (SolOwn w (solB g) (solU g) (solD g) (solX g) (solY g))) (a : Option Addr) (len cap : Nat) (zs : List Int) (w : World) (h : IsRow .u8 w a len cap zs) :
    Calls Try.prog 4 #[.slice a len cap] w fun e w' => e = .returned (.bool true) ∧ Below w.heap.size w w' := by
  have hle := byte_len h
  by_cases hbig : (1048576 : Int) < (len : Int)
  · go_enter Try.func4, Try.ntmps4
    go_wp2_with fail
    go_ret
    exact ⟨rfl, Below.refl _ _⟩
  have H0 : Hid (laidB [[(0 : Int)]] = true) := show laidB [[(0 : Int)]] = true from by decide
  go_enter Try.func4, Try.ntmps4
  go_wp2_with fail
  refine (dDrawLaidOk a len cap zs w h).mono ?_
  rintro e w1 ⟨g, T, c, rfl, hc1, hc2, hg17, hgr, B1, ho1⟩
  clear hbig hle
  have HL := Lib.hid (small_max hg17)
  have O1 := Lib.hid ho1.lt
  have z3 : (laidB g != laidB g) = false := by simp
  have z4 : (laidB g == laidB g) = true := by simp
  clear ho1 hgr
  have B1' := Lib.hid B1
  clear B1
  go_wp2_with fail
  refine (I.laid _ _ g HL.out _ O1.out).mono ?_
  rintro e w2 ⟨rfl, hb2⟩
  replace O1 := Lib.hid (stillRows O1.out hb2)
  replace B1' := Lib.hid (belT B1'.out hb2)
  clear hb2
  go_wp2_with fail
  refine (laid_spec _ _ g _ HL.out _ O1.out).mono ?_
  rintro e w3 ⟨rfl, hq⟩
  have hb3 : Below w2.heap.size w2 w3 := by obtain ⟨n, rfl⟩ := hq; exact below_drewN (Below.refl _ _) n
  replace O1 := Lib.hid (stillRows O1.out hb3)
  replace B1' := Lib.hid (belT B1'.out hb3)
  clear hq hb3
  go_wp2_with fail
  refine (J _ _ g HL.out _ O1.out).mono ?_
  rintro e w4 ⟨TA, cA, TB, cB, rfl, hb4, _, _, _⟩
  rw [← laid_sol g]
  replace B1' := Lib.hid (belT B1'.out hb4)
  clear hb4 O1
  go_wp2_with fail
  refine (I.laid _ _ [[(0 : Int)]] (small_max (by decide)) _ (oneRow (b' := w4.heap.size + 1) (by simp [go_sem]) (by simp [go_sem]) (by simp) (by simp))).mono ?_
  rintro e w5 ⟨rfl, hb5⟩
  rw [H0.out]
  have B5 := Lib.hid (belT (w := w4) (by exact (by repeat (first | exact Below.refl _ _ | assumption | exact bel1 (by assumption) | exact bel2 (by assumption) | exact bel3 (by assumption) | exact bel4 (by assumption) | refine Below.drew ?_ | refine below_drewN ?_ _ | refine Below.setCell ?_ (by first | (simp; done) | (simp; omega)) _ | refine Below.alloc ?_ (by first | (simp; done) | (simp; omega)) _))) hb5)
  clear hb5
  go_wp2_with fail
  refine (alive _).mono ?_
  rintro e w6 ⟨rfl, hb6⟩
  have hb8 := Lib.hid (belT B5.out hb6)
  clear hb6
  go_wp2_with fail
  go_ret
  exact ⟨rfl, belT B1'.out hb8.out⟩

end Go.Proofs.Ytlkjpmdnhccdpaa

namespace Go.Proofs.Ytlkjpmdnhccdpaa
set_option linter.unusedSimpArgs false
set_option linter.unusedVariables false
open Go.RowKit

set_option maxHeartbeats 4000000 in
set_option maxRecDepth 100000 in
theorem wFnDeskNew (I : Impl12) (a : Option Addr) (len cap : Nat) (zs : List Int) (w : World) (h : IsRow .u8 w a len cap zs) :
    Calls Try.prog 6 #[.slice a len cap] w fun e w' => e = .returned (.bool true) ∧ Below w.heap.size w w' := by
  have hle := byte_len h
  by_cases hbig : (1048576 : Int) < (len : Int)
  · go_enter Try.func6, Try.ntmps6
    go_wp2_with fail
    go_ret
    exact ⟨rfl, Below.refl _ _⟩
  go_enter Try.func6, Try.ntmps6
  go_wp2_with fail
  refine (dDrawDeskNew a len cap zs w h).mono ?_
  rintro e w1 ⟨g, T, c, rfl, hc1, hc2, hg17, hgr, B1, ho1⟩
  clear hbig hle
  have HL := Lib.hid (small_max hg17)
  have O1 := Lib.hid ho1.lt
  have z3 : (laidB g != laidB g) = false := by simp
  have HSD := Lib.hid (newD_small g)
  have HL1 : Hid ((newD g).now.length ≤ maxLen) := by have := HSD.out.now; show _ ≤ _; unfold maxLen; omega
  have HL2 : Hid ((newD g).past.length ≤ maxLen) := by have := HSD.out.past; show _ ≤ _; unfold maxLen; omega
  clear ho1 hgr
  have BEL0 := Lib.hid B1
  clear B1
  have le_w1 : w1.heap.size ≤ w1.heap.size := Nat.le_refl _
  go_wp2_with fail
  refine (I.new _ _ g HL.out _ (O1.out.lt le_w1)).mono ?_
  rintro e w2 ⟨TG1, cG1, TG2, cG2, AG, CG, UG, KG, rfl, hb2, ho2⟩
  unfold dskV
  have G := Lib.hid ho2.lt
  replace O1 := Lib.hid (keepRows (hb2.mono le_w1) O1.out)
  replace le_w1 := Nat.le_trans le_w1 hb2.size
  replace BEL0 := Lib.hid (belT BEL0.out hb2)
  have o_w1_w2 : w1.heap.size ≤ w2.heap.size := le_w1
  have le_w2 : w2.heap.size ≤ w2.heap.size := Nat.le_refl _
  clear hb2 ho2
  go_wp2_with fail
  obtain ⟨WBG, hWBG⟩ : ∃ WBG : World, WBG = w2.alloc (.cells #[.slice TG1 (newD g).now.length cG1, .slice TG2 (newD g).past.length cG2] 26) := ⟨_, rfl⟩
  have hbWBG : Below w2.heap.size w2 WBG := by rw [hWBG]; exact (Below.refl _ _).alloc (Nat.le_refl _) _
  have BG : Hid (BoxD WBG w2.heap.size (.slice TG1 (newD g).now.length cG1) (.slice TG2 (newD g).past.length cG2)) := by show BoxD _ _ _ _; rw [hWBG]; exact BoxD.new _ _ _
  have bzBG : w2.heap.size < WBG.heap.size := by rw [hWBG]; simp
  rw [← hWBG]
  clear hWBG
  replace O1 := Lib.hid (keepRows (hbWBG.mono le_w1) O1.out)
  replace G := Lib.hid (keepDk (hbWBG.mono le_w2) G.out)
  replace le_w1 := Nat.le_trans le_w1 hbWBG.size
  replace le_w2 := Nat.le_trans le_w2 hbWBG.size
  replace BEL0 := Lib.hid (belT BEL0.out hbWBG)
  have o_w2_WBG : w2.heap.size ≤ WBG.heap.size := le_w2
  have le_WBG : WBG.heap.size ≤ WBG.heap.size := Nat.le_refl _
  clear hbWBG
  have cBG0 := BG.out.c0
  have cBG1 := BG.out.c1
  have ltBG := BG.out.lt
  go_wp2_with fail
  refine (deskNew_spec _ _ g HL.out _ (O1.out.lt le_w1)).mono ?_
  rintro e w3 ⟨TV1, cV1, TV2, cV2, AV, CV, UV, KV, rfl, hb3, ho3⟩
  unfold dskV
  have V := Lib.hid ho3.lt
  replace BG := Lib.hid (BG.out.still hb3)
  replace O1 := Lib.hid (keepRows (hb3.mono le_w1) O1.out)
  replace G := Lib.hid (keepDk (hb3.mono le_w2) G.out)
  replace le_w1 := Nat.le_trans le_w1 hb3.size
  replace le_w2 := Nat.le_trans le_w2 hb3.size
  replace le_WBG := Nat.le_trans le_WBG hb3.size
  replace BEL0 := Lib.hid (belT BEL0.out hb3)
  have o_WBG_w3 : WBG.heap.size ≤ w3.heap.size := le_WBG
  have le_w3 : w3.heap.size ≤ w3.heap.size := Nat.le_refl _
  clear hb3 ho3
  clear cBG0 cBG1 ltBG
  have cBG0 := BG.out.c0
  have cBG1 := BG.out.c1
  have ltBG := BG.out.lt
  go_wp2_with fail
  obtain ⟨WBV, hWBV⟩ : ∃ WBV : World, WBV = w3.alloc (.cells #[.slice TV1 (newD g).now.length cV1, .slice TV2 (newD g).past.length cV2] 26) := ⟨_, rfl⟩
  have hbWBV : Below w3.heap.size w3 WBV := by rw [hWBV]; exact (Below.refl _ _).alloc (Nat.le_refl _) _
  have BV : Hid (BoxD WBV w3.heap.size (.slice TV1 (newD g).now.length cV1) (.slice TV2 (newD g).past.length cV2)) := by show BoxD _ _ _ _; rw [hWBV]; exact BoxD.new _ _ _
  have bzBV : w3.heap.size < WBV.heap.size := by rw [hWBV]; simp
  rw [← hWBV]
  clear hWBV
  replace BG := Lib.hid (BG.out.still hbWBV)
  replace O1 := Lib.hid (keepRows (hbWBV.mono le_w1) O1.out)
  replace G := Lib.hid (keepDk (hbWBV.mono le_w2) G.out)
  replace V := Lib.hid (keepDk (hbWBV.mono le_w3) V.out)
  replace le_w1 := Nat.le_trans le_w1 hbWBV.size
  replace le_w2 := Nat.le_trans le_w2 hbWBV.size
  replace le_WBG := Nat.le_trans le_WBG hbWBV.size
  replace le_w3 := Nat.le_trans le_w3 hbWBV.size
  replace BEL0 := Lib.hid (belT BEL0.out hbWBV)
  have o_w3_WBV : w3.heap.size ≤ WBV.heap.size := le_w3
  have le_WBV : WBV.heap.size ≤ WBV.heap.size := Nat.le_refl _
  clear hbWBV
  clear cBG0 cBG1 ltBG
  have cBG0 := BG.out.c0
  have cBG1 := BG.out.c1
  have ltBG := BG.out.lt
  have cBV0 := BV.out.c0
  have cBV1 := BV.out.c1
  have ltBV := BV.out.lt
  go_wp2_with fail
  refine (sameDesk_c _ _ _ _ _ _ _ _ (newD g) HL1.out HL2.out _ (G.out.lt le_w2).n (G.out.lt le_w2).p (V.out.lt le_w3).n (V.out.lt le_w3).p).mono ?_
  rintro e w4 ⟨rfl, hb4⟩
  replace BG := Lib.hid (BG.out.still hb4)
  replace BV := Lib.hid (BV.out.still hb4)
  replace O1 := Lib.hid (keepRows (hb4.mono le_w1) O1.out)
  replace G := Lib.hid (keepDk (hb4.mono le_w2) G.out)
  replace V := Lib.hid (keepDk (hb4.mono le_w3) V.out)
  replace le_w1 := Nat.le_trans le_w1 hb4.size
  replace le_w2 := Nat.le_trans le_w2 hb4.size
  replace le_WBG := Nat.le_trans le_WBG hb4.size
  replace le_w3 := Nat.le_trans le_w3 hb4.size
  replace le_WBV := Nat.le_trans le_WBV hb4.size
  replace BEL0 := Lib.hid (belT BEL0.out hb4)
  clear hb4
  clear cBG0 cBG1 ltBG
  clear cBV0 cBV1 ltBV
  clear V BV
  rcases hb : laidB g with _ | _
  · have HN := Lib.hid (newD_no hb)
    have HB := Lib.hid hb
    rw [hb] at z3
    clear hb
    have cBG0 := BG.out.c0
    have cBG1 := BG.out.c1
    go_wp2_with fail
    clear cBG0 cBG1
    have HND : Hid (∀ w', Calls Try.prog 13 #[.agg #[.slice TG1 (newD g).now.length cG1, .slice TG2 (newD g).past.length cG2]] w' (Adds (.bool true) w')) := fun w' => by generalize cG2.val = kG2; rw [HN.out]; exact noDesk_c TG1 TG2 cG1 kG2 w'
    refine (HND.out _).mono ?_
    rintro e w5 ⟨rfl, hb5⟩
    have O5 := Lib.hid ((keepRows (hb5.mono le_w1) O1.out).lt (Nat.le_trans le_w1 hb5.size))
    have B5 := Lib.hid (belT BEL0.out hb5)
    clear hb5
    go_wp2_with fail
    refine (I.laid _ _ g HL.out _ O5.out).mono ?_
    rintro e w6 ⟨rfl, hb6⟩
    rw [HB.out]
    have B6 := Lib.hid (belT B5.out hb6)
    clear hb6
    go_wp2_with fail
    refine (alive _).mono ?_
    rintro e w7 ⟨rfl, hb7⟩
    have B7 := Lib.hid (belT B6.out hb7)
    clear hb7
    go_wp2_with fail
    go_ret
    exact ⟨rfl, B7.out⟩
  · have HN := Lib.hid (newD_yes hb)
    have HB := Lib.hid hb
    have HOK := Lib.hid (newD_ok hb)
    rw [hb] at z3
    clear hb
    have cBG0 := BG.out.c0
    have cBG1 := BG.out.c1
    go_wp2_with fail
    clear cBG0 cBG1
    have G4 := Lib.hid (G.out.lt le_w2)
    refine (I.ok _ _ _ _ (newD g) HL1.out HL2.out _ G4.out.n G4.out.p).mono ?_
    rintro e w5 ⟨rfl, hb5⟩
    rw [HOK.out]
    have O5 := Lib.hid ((keepRows (hb5.mono le_w1) O1.out).lt (Nat.le_trans le_w1 hb5.size))
    have G5 := Lib.hid ((keepDk hb5 G4.out).lt hb5.size)
    replace BG := Lib.hid (BG.out.still hb5)
    have B5 := Lib.hid (belT BEL0.out hb5)
    clear hb5
    have HSR : Hid (Calls Try.prog 24 #[.slice TG1 (newD g).now.length cG1, .slice T g.length c] w5 (Quiet (.bool true) w5)) := by
      have hr := G5.out.n
      rw [HN.out] at hr ⊢
      exact sameRows TG1 T cG1 c g _ _ HL.out w5 hr O5.out
    have cBG0 := BG.out.c0
    have cBG1 := BG.out.c1
    have gp : (((newD g).past.length : Int) == 0) = true := by rw [HN.out]; rfl
    go_wp2_with fail
    refine HSR.out.mono ?_
    rintro e w6 ⟨rfl, n6, rfl⟩
    have dBG0 : (w5.drewN n6).cell? ⟨w2.heap.size, 0, none⟩ = some (.slice TG1 (newD g).now.length cG1) := cBG0
    have dBG1 : (w5.drewN n6).cell? ⟨w2.heap.size, 1, none⟩ = some (.slice TG2 (newD g).past.length cG2) := cBG1
    go_wp2_with fail
    go_ret
    exact ⟨rfl, below_drewN B5.out n6⟩

end Go.Proofs.Ytlkjpmdnhccdpaa
