/- The walks of the program's floors and roofs. -/
import Derived.Test.YtaphlhdkdokopaaLaid
namespace Go.Proofs.Ytaphlhdkdokopaa
set_option linter.unusedSimpArgs false
set_option linter.unusedVariables false
open Go.RowKit

/-- what a call leaves that hands back v and only adds blocks -/
def Adds (v : Value) (w : World) (e : Ending) (w' : World) : Prop := e = .returned v ∧ Below w.heap.size w w'

theorem Adds.of {v x : Value} {w w' : World} (h : x = v) (hb : Below w.heap.size w w') : Adds v w (.returned x) w' := ⟨by rw [h], hb⟩

theorem Quiet.adds {v : Value} {w : World} {e : Ending} {w' : World} (h : Quiet v w e w') : Adds v w e w' := by
  obtain ⟨rfl, n, rfl⟩ := h; exact ⟨rfl, below_drewN (Below.refl _ _) n⟩

theorem Same.adds {v : Value} {w : World} {e : Ending} {w' : World} (h : Same v w e w') : Adds v w e w' := h.quiet.adds

set_option maxHeartbeats 1000000 in
theorem floor_impl (A : Option Addr) (c : Nat) (g : List (List Int)) (hl : g.length ≤ maxLen) (w : World) (h : Rows2 w (· < w.heap.size) A g) :
    Calls Try.prog 18 #[.slice A g.length c] w (Adds (.tuple #[.int .i64 (floV g), .int .i64 (floA g), .bool (gameB g)]) w) := by
  rcases hb : gameB g with _ | _
  · have H1 : Hid (floV g = 0) := by simp [Hid, floV, hb]
    have H2 : Hid (floA g = -1) := by simp [Hid, floA, hb]
    have HB := Lib.hid hb
    clear hb
    go_enter Try.func18, Try.ntmps18
    go_wp2_with fail
    refine (game_impl _ _ _ _ hl _ h).mono ?_
    rintro e w1 ⟨rfl, rfl⟩
    rw [HB.out]
    go_wp2_with fail
    go_ret3
    exact Adds.of (by rw [H1.out, H2.out]; rfl) (Below.refl _ _)
  · have hg := Game.of hb
    have hg1 := hg.lo
    have hg2 := hg.hi
    have h0 : ∀ i, i < g.length → 0 < (rowAt g i).length := fun i hi => by rw [hg.len i hi]; exact hg.mlo
    have H1 : Hid (floV g = nth (bests ltB g) (bestN gtB (bests ltB g) (bests ltB g).length)) := by
      show floV g = _
      simp only [floV, hb, if_true]; unfold floorV floorAt; rw [bests_low, lows_length]
    have H2 : Hid (floA g = (bestN gtB (bests ltB g) (bests ltB g).length : Nat)) := by
      show floA g = _
      simp only [floA, hb, if_true]; unfold floorAt; rw [bests_low, lows_length]
    have HB := Lib.hid hb
    have HR := Lib.hid h
    have H0 := Lib.hid h0
    clear hb h h0 hg
    go_enter Try.func18, Try.ntmps18
    go_wp2_with fail
    refine (game_impl _ _ _ _ hl _ HR.out).mono ?_
    rintro e w1 ⟨rfl, rfl⟩
    rw [HB.out]
    go_wp2_with fail
    refine (bestOfEach _ _ lower _ _ g (by omega) H0.out _ HR.out).mono ?_
    rintro e w1 ⟨rfl, hb1, hs1, hr1⟩
    go_wp2_with fail
    refine (bestOf _ _ higher _ _ (bests ltB g) (fun _ => True) (by rw [bests_length]; omega) (by rw [bests_length]; exact hl) _ (hr1.ints trivial)).mono ?_
    rintro e w2 ⟨rfl, rfl⟩
    go_wp2_with fail
    go_ret3
    exact Adds.of (by rw [H1.out, H2.out]; rfl) hb1

set_option maxHeartbeats 1000000 in
theorem roof_impl (A : Option Addr) (c : Nat) (g : List (List Int)) (hl : g.length ≤ maxLen) (w : World) (h : Rows2 w (· < w.heap.size) A g) :
    Calls Try.prog 20 #[.slice A g.length c] w (Adds (.tuple #[.int .i64 (rooV g), .int .i64 (rooA g), .bool (gameB g)]) w) := by
  rcases hb : gameB g with _ | _
  · have H1 : Hid (rooV g = 0) := by simp [Hid, rooV, hb]
    have H2 : Hid (rooA g = -1) := by simp [Hid, rooA, hb]
    have HB := Lib.hid hb
    clear hb
    go_enter Try.func20, Try.ntmps20
    go_wp2_with fail
    refine (game_impl _ _ _ _ hl _ h).mono ?_
    rintro e w1 ⟨rfl, rfl⟩
    rw [HB.out]
    go_wp2_with fail
    go_ret3
    exact Adds.of (by rw [H1.out, H2.out]; rfl) (Below.refl _ _)
  · have hg := Game.of hb
    have hg1 := hg.lo
    have hg2 := hg.hi
    have hg3 := hg.mlo
    have hg4 := hg.mhi
    have h0 : ∀ i, i < (cols g).length → 0 < (rowAt (cols g) i).length := fun i hi => by rw [rowAt_cols_length g i (by rwa [cols_length] at hi)]; exact hg.lo
    have hcl := cols_length g
    have H1 : Hid (rooV g = nth (bests gtB (cols g)) (bestN ltB (bests gtB (cols g)) (bests gtB (cols g)).length)) := by
      show rooV g = _
      simp only [rooV, hb, if_true]; unfold roofV roofAt; rw [bests_high, highs_length]
    have H2 : Hid (rooA g = (bestN ltB (bests gtB (cols g)) (bests gtB (cols g)).length : Nat)) := by
      show rooA g = _
      simp only [rooA, hb, if_true]; unfold roofAt; rw [bests_high, highs_length]
    have HB := Lib.hid hb
    have HR := Lib.hid h
    have H0 := Lib.hid h0
    have HG := Lib.hid hg
    have HCL := Lib.hid hcl
    have hm : ∀ i, i < (cols g).length → (rowAt (cols g) i).length ≤ maxLen := fun i hi => by rw [rowAt_cols_length g i (by rwa [hcl] at hi)]; exact hl
    have HM := Lib.hid hm
    clear hb h h0 hg hcl hm
    go_enter Try.func20, Try.ntmps20
    go_wp2_with fail
    refine (game_impl _ _ _ _ hl _ HR.out).mono ?_
    rintro e w1 ⟨rfl, rfl⟩
    rw [HB.out]
    go_wp2_with fail
    refine (columnsOf _ _ g _ HG.out _ HR.out).mono ?_
    rintro e w1 ⟨rfl, hL⟩
    have HL := Lib.hid hL
    have hb1 := hL.bel
    have R1 := hL.rows2 (S := (· < w1.heap.size)) (fun _ _ h => h) HM.out
    clear hL
    go_wp2_with fail
    refine (bestOfEach _ _ higher _ _ (cols g) (by rw [HCL.out]; omega) H0.out _ R1).mono ?_
    rintro e w2 ⟨rfl, hb2, hs2, hr2⟩
    go_wp2_with fail
    refine (bestOf _ _ lower _ _ (bests gtB (cols g)) (fun _ => True) (by rw [bests_length, HCL.out]; omega) (by rw [bests_length, HCL.out]; unfold maxLen; omega) _ (hr2.ints trivial)).mono ?_
    rintro e w3 ⟨rfl, rfl⟩
    go_wp2_with fail
    go_ret3
    exact Adds.of (by rw [H1.out, H2.out]; rfl) (belT hb1 hb2)

end Go.Proofs.Ytaphlhdkdokopaa
