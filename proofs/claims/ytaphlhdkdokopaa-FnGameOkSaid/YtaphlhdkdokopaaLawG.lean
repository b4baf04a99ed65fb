/- The walk of the law of GameOk. -/
import Derived.Test.YtaphlhdkdokopaaLawT
namespace Go.Proofs.Ytaphlhdkdokopaa
set_option linter.unusedSimpArgs false
set_option linter.unusedVariables false
open Go.RowKit

/-- one number, written out -/
theorem oneRow {w : World} {b b' : Nat} {x : Int} {S : Nat → Prop} (h1 : w.cell? ⟨b, 0, none⟩ = some (.slice (some ⟨b', 0, none⟩) 1 1)) (h2 : w.cell? ⟨b', 0, none⟩ = some (.int .i64 x)) (hb : S b) (hb' : S b') : Rows2 w S (some ⟨b, 0, none⟩) [[x]] := by
  intro _
  refine ⟨b, 0, rfl, hb, fun i hi => ?_⟩
  have e : i = 0 := by simpa using hi
  subst e
  refine ⟨some ⟨b', 0, none⟩, 1, h1, Nat.le_refl _, by unfold maxLen; omega, fun _ => ⟨b', 0, rfl, hb', fun j hj => ?_⟩⟩
  have e : j = 0 := by have : j < 1 := hj; omega
  subst e
  exact h2

theorem takeRows {w : World} {S : Nat → Prop} {T : Option Addr} {g : List (List Int)} (h : Rows2 w S T g) (k : Nat) : Rows2 w S T (g.take k) := by
  intro h0
  have hl : (g.take k).length ≤ g.length := by rw [List.length_take]; omega
  obtain ⟨b, off, e, hb, hc⟩ := h (by omega)
  refine ⟨b, off, e, hb, fun i hi => ?_⟩
  have hr : rowAt (g.take k) i = rowAt g i := by
    unfold rowAt; rw [List.getD_eq_getElem?_getD, List.getD_eq_getElem?_getD, List.getElem?_take, if_pos (by rw [List.length_take] at hi; omega)]
  rw [hr]; exact hc i (by omega)

theorem game_front (T : Option Addr) (c : Nat) (g : List (List Int)) (m : Nat) (S : Nat → Prop) (hg : Game g m) (h1 : 1 < g.length) (w : World) (h : Rows2 w S T g) :
    Calls Try.prog 14 #[.slice T (g.length - 1) c] w (Same (.bool true) w) := by
  have hl := hg.hi
  have hlen : (g.take (g.length - 1)).length = g.length - 1 := by rw [List.length_take]; omega
  have := game_impl T c (g.take (g.length - 1)) S (by rw [hlen]; exact small_max (by omega)) w (takeRows h _)
  rwa [hlen, game_take hg h1] at this

set_option maxHeartbeats 4000000 in
set_option maxRecDepth 100000 in
theorem wFnGameOk (a : Option Addr) (len cap : Nat) (zs : List Int) (w : World) (h : IsRow .u8 w a len cap zs) :
    Calls Try.prog 3 #[.slice a len cap] w fun e w' => e = .returned (.bool true) ∧ Below w.heap.size w w' := by
  have hle := byte_len h
  by_cases hbig : (1048576 : Int) < (len : Int)
  · go_enter Try.func3, Try.ntmps3
    go_wp2_with fail
    go_ret
    exact ⟨rfl, Below.refl _ _⟩
  have HL9 : Hid (gameB [[(-9 : Int)]] = true) := show gameB [[(-9 : Int)]] = true from by decide
  have H9 : Hid (gameB [[(9 : Int)]] = true) := show gameB [[(9 : Int)]] = true from by decide
  have H10 : Hid (gameB [[(10 : Int)]] = false) := show gameB [[(10 : Int)]] = false from by decide
  go_enter Try.func3, Try.ntmps3
  go_wp2_with fail
  refine (dDrawGameOk a len cap zs w h).mono ?_
  rintro e w1 ⟨g, T, c, rfl, hc1, hc2, hg17, hgr, B1, ho1⟩
  clear hbig hle
  have hl := small_max hg17
  have HL := Lib.hid hl
  have O1 := Lib.hid ho1.lt
  have z3 : (gameB g != gameB g) = false := by simp
  clear ho1 hl hgr
  go_wp2_with fail
  refine (game_impl _ _ g _ HL.out _ O1.out).mono ?_
  rintro e w2 ⟨rfl, rfl⟩
  go_wp2_with fail
  refine (game_spec _ _ g _ HL.out _ O1.out).mono ?_
  rintro e w3 ⟨rfl, hq⟩
  have hb3 : Below w1.heap.size w1 w3 := by obtain ⟨n, rfl⟩ := hq; exact below_drewN (Below.refl _ _) n
  have B3 := belT B1 hb3
  have R3 := Lib.hid (keepRows hb3 O1.out)
  have s3 := hb3.size
  clear hq B1 O1 hb3
  go_wp2_with fail
  refine (game_impl _ _ [[(-9 : Int)]] (fun _ => True) (small_max (by decide)) _ (oneRow (b' := w3.heap.size) (by simp [go_sem]) (by simp [go_sem]) trivial trivial)).mono ?_
  rintro e w4 ⟨rfl, rfl⟩
  rw [HL9.out]
  go_wp2_with fail
  refine (game_impl _ _ [[(9 : Int)]] (fun _ => True) (small_max (by decide)) _ (oneRow (b' := w3.heap.size + 2) (by simp [go_sem]) (by simp [go_sem]) trivial trivial)).mono ?_
  rintro e w5 ⟨rfl, rfl⟩
  rw [H9.out]
  go_wp2_with fail
  refine (game_impl _ _ [[(10 : Int)]] (fun _ => True) (small_max (by decide)) _ (oneRow (b' := w3.heap.size + 4) (by simp [go_sem]) (by simp [go_sem]) trivial trivial)).mono ?_
  rintro e w6 ⟨rfl, rfl⟩
  rw [H10.out]
  rcases hb : gameB g with _ | _
  · rw [hb] at z3
    clear hb
    go_wp2_with fail
    refine (alive _).mono ?_
    rintro e w7 ⟨rfl, hb7⟩
    have hb8 := Lib.hid (belT (w := w3) (by exact (by repeat (first | exact Below.refl _ _ | assumption | exact bel1 (by assumption) | exact bel2 (by assumption) | exact bel3 (by assumption) | exact bel4 (by assumption) | refine Below.drew ?_ | refine below_drewN ?_ _ | refine Below.setCell ?_ (by first | (simp; done) | (simp; omega)) _ | refine Below.alloc ?_ (by first | (simp; done) | (simp; omega)) _))) hb7)
    clear hb7
    go_wp2_with fail
    go_ret
    exact ⟨rfl, belT B3 hb8.out⟩
  have hg := Game.of hb
  have hg1 := hg.lo
  have HG := Lib.hid hg
  obtain ⟨bg, og, rfl⟩ := R3.out.some (by omega)
  rw [hb] at z3
  clear hb hg
  unfold maxLen at hc2
  by_cases h1 : g.length = 1
  · have y : ((g.length : Int) == 1) = true := by rw [h1]; rfl
    have H1 := Lib.hid h1
    clear h1
    go_wp2_with fail
    refine (alive _).mono ?_
    rintro e w7 ⟨rfl, hb7⟩
    have hb8 := Lib.hid (belT (w := w3) (by exact (by repeat (first | exact Below.refl _ _ | assumption | exact bel1 (by assumption) | exact bel2 (by assumption) | exact bel3 (by assumption) | exact bel4 (by assumption) | refine Below.drew ?_ | refine below_drewN ?_ _ | refine Below.setCell ?_ (by first | (simp; done) | (simp; omega)) _ | refine Below.alloc ?_ (by first | (simp; done) | (simp; omega)) _))) hb7)
    clear hb7
    go_wp2_with fail
    go_ret
    exact ⟨rfl, belT B3 hb8.out⟩
  · have y : ((g.length : Int) == 1) = false := by simp; omega
    have hlt : 1 < g.length := by omega
    have q1 : (0 : Int) ≤ (g.length : Int) - 1 := by omega
    clear h1
    go_wp2_with fail
    refine (game_front _ _ g _ (· < w3.heap.size) HG.out hlt _ (keepRows (w := w3) (by exact (by repeat (first | exact Below.refl _ _ | assumption | exact bel1 (by assumption) | exact bel2 (by assumption) | exact bel3 (by assumption) | exact bel4 (by assumption) | refine Below.drew ?_ | refine below_drewN ?_ _ | refine Below.setCell ?_ (by first | (simp; done) | (simp; omega)) _ | refine Below.alloc ?_ (by first | (simp; done) | (simp; omega)) _))) (R3.out.lt s3))).mono ?_
    rintro e w7 ⟨rfl, rfl⟩
    go_wp2_with fail
    refine (alive _).mono ?_
    rintro e w8 ⟨rfl, hb7⟩
    have hb8 := Lib.hid (belT (w := w3) (by exact (by repeat (first | exact Below.refl _ _ | assumption | exact bel1 (by assumption) | exact bel2 (by assumption) | exact bel3 (by assumption) | exact bel4 (by assumption) | refine Below.drew ?_ | refine below_drewN ?_ _ | refine Below.setCell ?_ (by first | (simp; done) | (simp; omega)) _ | refine Below.alloc ?_ (by first | (simp; done) | (simp; omega)) _))) hb7)
    clear hb7
    go_wp2_with fail
    go_ret
    exact ⟨rfl, belT B3 hb8.out⟩

end Go.Proofs.Ytaphlhdkdokopaa
