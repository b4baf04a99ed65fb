/- Texts in one: DeskIk, Impl12. -/
import Derived.Test.YtlkjpmdnhccdpabQH
import Derived.Test.YtlkjpmdnhccdpabQE
import Derived.Test.YtlkjpmdnhccdpabQG
namespace Go.Proofs.Ytlkjpmdnhccdpab
set_option linter.unusedSimpArgs false
set_option linter.unusedVariables false
open Go.RowKit

set_option maxHeartbeats 2000000 in
set_option maxRecDepth 100000 in
theorem deskNew_impl (A : Option Addr) (c : Nat) (g : List (List Int)) (hl : g.length ≤ maxLen) (w : World) (h : Rows2 w (· < w.heap.size) A g) :
    Calls Try.prog 26 #[.slice A g.length c] w (DeskRes w (newD g) (.bool (laidB g))) := by
  have HR := Lib.hid h
  clear h
  obtain ⟨W, hW⟩ : ∃ W, W = w.alloc (.cells #[.slice none 0 0, .slice none 0 0] 29) := ⟨_, rfl⟩
  have hzW : W.heap.size = w.heap.size + 1 := by rw [hW]; simp
  have y0 : W.cell? ⟨w.heap.size, 0, none⟩ = some (.slice none 0 0) := by rw [hW]; simp [go_sem]
  have y1 : W.cell? ⟨w.heap.size, 1, none⟩ = some (.slice none 0 0) := by rw [hW]; simp [go_sem]
  have f0 : W.frozen? ⟨w.heap.size, 0, none⟩ = false := by rw [hW]; simp [go_sem]
  have f1 : W.frozen? ⟨w.heap.size, 1, none⟩ = false := by rw [hW]; simp [go_sem]
  have hbW : Below w.heap.size w W := by rw [hW]; exact (Below.refl _ _).alloc (Nat.le_refl _) _
  have HBW := Lib.hid hbW
  have HZ := Lib.hid hzW
  have hRW := (keepRows hbW HR.out).lt hbW.size
  have HS := Lib.hid (laid_impl A c g _ hl W hRW)
  have HRW := Lib.hid hRW
  clear hbW hzW hRW
  rcases hb : laidB g with _ | _
  · rw [hb] at HS
    have HN := Lib.hid (newD_no hb)
    clear hb
    go_enter Try.func26, Try.ntmps26
    go_wp2_with fail
    rw [← hW]
    clear hW
    refine HS.out.mono ?_
    rintro e w1 ⟨rfl, rfl⟩
    go_wp2_with fail
    obtain ⟨r0, r1, _, _⟩ := box_put (.slice none 0 0) (.slice none 0 0) y0 y1
    rw [HN.out]
    exact bodyPost_ret (v := .tuple #[dskV none 0 0 none 0 0, .bool false]) (by simp [results, dskV, Try.results26, go_sem, r0, r1]) rfl (DeskRes.zero rfl (below_put HBW.out (Nat.le_refl _) _ _))
  · rw [hb] at HS
    have HN := Lib.hid (newD_yes hb)
    have HD := Lib.hid (deskOf_impl A none c 0 g [] (laid_game hb) (fun i hi => absurd hi (by simp)) (by simp) (by simp) (by simp) W HRW.out (fun h => absurd h (by simp)))
    have hld : lastD g [] = ⟨g, []⟩ := rfl
    rw [hld] at HD
    simp only [List.length_nil] at HD
    clear hb hld
    go_enter Try.func26, Try.ntmps26
    go_wp2_with fail
    rw [← hW]
    clear hW
    refine HS.out.mono ?_
    rintro e w1 ⟨rfl, rfl⟩
    go_wp2_with fail
    refine HD.out.mono ?_
    rintro e w2 ⟨TN, cN, TP, cP, rfl, hb2, ho2⟩
    have HB2 := Lib.hid hb2
    have HO2 := Lib.hid ho2
    have k2 : ∀ o, w2.cell? ⟨w.heap.size, o, none⟩ = W.cell? ⟨w.heap.size, o, none⟩ := fun o => (hb2.cell (p := ⟨w.heap.size, o, none⟩) (by show w.heap.size < _; rw [HZ.out]; omega))
    have kf : ∀ o, w2.frozen? ⟨w.heap.size, o, none⟩ = W.frozen? ⟨w.heap.size, o, none⟩ := fun o => (hb2.frozen (p := ⟨w.heap.size, o, none⟩) (by show w.heap.size < _; rw [HZ.out]; omega))
    have z0 := (k2 0).trans y0
    have z1 := (k2 1).trans y1
    have g0 := (kf 0).trans f0
    have g1 := (kf 1).trans f1
    clear y0 y1 f0 f1 k2 kf hb2 ho2
    go_wp2_with fail
    obtain ⟨r0, r1, _, _⟩ := box_put (.slice TN g.length cN) (.slice TP 0 cP.val) z0 z1
    rw [HN.out]
    have hz := HZ.out
    have hb2 := HBW.out.trans (HB2.out.mono (by omega : w.heap.size ≤ W.heap.size))
    obtain ⟨A', C', TT', CC', hO⟩ := desk_put (w := w) (R := w.heap.size) (.slice TN g.length cN) (.slice TP 0 cP.val) HO2.out (by omega) (by omega) (Nat.le_refl _)
    refine bodyPost_ret (v := .tuple #[dskV TN g.length cN TP 0 cP.val, .bool true]) (by simp [results, dskV, Try.results26, go_sem, r0, r1]) rfl ?_
    exact ⟨TN, cN, TP, cP, A', C', TT', CC', rfl, below_put hb2 (Nat.le_refl _) _ _, hO⟩

end Go.Proofs.Ytlkjpmdnhccdpab

namespace Go.Proofs.Ytlkjpmdnhccdpab
set_option linter.unusedSimpArgs false
set_option linter.unusedVariables false
open Go.RowKit

theorem impl12 : Impl12 where
  laid := fun A c g hg w h => (laid_impl A c g _ hg w h).mono fun e w' ⟨he, hw⟩ => by cases hw; exact ⟨he, Below.refl _ _⟩
  ok := fun A B c k d hx hy w h h' => deskOk_impl A B c k d hx hy w h h'
  new := fun A c g hg w h => deskNew_impl A c g hg w h

end Go.Proofs.Ytlkjpmdnhccdpab
