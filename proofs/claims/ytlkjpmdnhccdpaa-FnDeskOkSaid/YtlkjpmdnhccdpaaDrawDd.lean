/- The draw of DeskOk. -/
import Derived.Test.YtlkjpmdnhccdpaaDrawDc
namespace Go.Proofs.Ytlkjpmdnhccdpaa
set_option linter.unusedSimpArgs false
set_option linter.unusedVariables false
open Go.RowKit

/-- a drawn desk -/
def DrawnDk (w : World) (e : Ending) (w' : World) : Prop :=
  ∃ (d : Dk) (TN : Option Addr) (cN : Nat) (TP : Option Addr) (cP : CapN d.past.length), e = .returned (dskV TN d.now.length cN TP d.past.length cP) ∧ Below w.heap.size w w' ∧ d.now.length ≤ 16 ∧ d.past.length ≤ 9 ∧
    Rows2 w' (· < w'.heap.size) TN d.now ∧ Rows3 w' (· < w'.heap.size) TP d.past

set_option maxHeartbeats 1000000 in
set_option maxRecDepth 100000 in
theorem dDrawDeskOk (a : Option Addr) (len cap : Nat) (zs : List Int) (w : World) (h : IsRow .u8 w a len cap zs) :
    Calls Try.prog 20 #[.slice a len cap] w (DrawnDk w) := by
  go_enter Try.func20, Try.ntmps20
  obtain ⟨W, hW⟩ : ∃ W : World, W = w.alloc (.cells #[.slice none 0 0, .slice none 0 0] 26) := ⟨_, rfl⟩
  have hz : W.heap.size = w.heap.size + 1 := by rw [hW]; simp
  have hbW : Below w.heap.size w W := by rw [hW]; exact (Below.refl _ _).alloc (Nat.le_refl _) _
  have q0 : W.cell? ⟨w.heap.size, 0, none⟩ = some (.slice none 0 0) := by rw [hW]; simp [go_sem]
  have q1 : W.cell? ⟨w.heap.size, 1, none⟩ = some (.slice none 0 0) := by rw [hW]; simp [go_sem]
  have g0 : W.frozen? ⟨w.heap.size, 0, none⟩ = false := by rw [hW]; simp [go_sem]
  have g1 : W.frozen? ⟨w.heap.size, 1, none⟩ = false := by rw [hW]; simp [go_sem]
  have HI := Lib.hid (h.below hbW)
  have HW := Lib.hid hW
  have HBW := Lib.hid hbW
  have HQ := Lib.hid (And.intro (And.intro q0 q1) (And.intro g0 g1))
  have hlt : w.heap.size < W.heap.size := by omega
  clear hW hbW h q0 q1 g0 g1 hz
  go_wp2_with fail
  try rw [← HW.out]
  refine (l20Open a len cap zs W HI.out).mono ?_
  rintro e w1 ⟨rfl, hb1, a1, len1, cap1, zs1, R1⟩
  have HB1 := Lib.hid hb1
  have HR1 := Lib.hid R1
  have hs1 := hb1.size
  clear hb1 R1
  go_wp2_with fail
  refine (l20Desk W.heap.size w1 a1 len1 cap1 zs1 0 2 HR1.out (by omega) (by omega) (by omega)).mono ?_
  rintro e w2 ⟨d, TN, cN, TP, cP, p', rfl, k2, _, _, hn, hpl, s1, s2⟩
  have hb2 : Below W.heap.size W w2 := HB1.out.trans (k2.below (Nat.le_refl _) HB1.out.size)
  have HB2 := Lib.hid hb2
  have HS := Lib.hid (And.intro (And.intro hn hpl) (And.intro s1 s2))
  have y0 := (hb2.cell (p := ⟨w.heap.size, 0, none⟩) (show w.heap.size < _ by omega)).trans HQ.out.1.1
  have y1 := (hb2.cell (p := ⟨w.heap.size, 1, none⟩) (show w.heap.size < _ by omega)).trans HQ.out.1.2
  have f0 := (hb2.frozen (p := ⟨w.heap.size, 0, none⟩) (show w.heap.size < _ by omega)).trans HQ.out.2.1
  have f1 := (hb2.frozen (p := ⟨w.heap.size, 1, none⟩) (show w.heap.size < _ by omega)).trans HQ.out.2.2
  clear k2 hb2 hn hpl s1 s2
  unfold dskV
  go_wp2_with fail
  obtain ⟨r0, r1, rz, rb⟩ := box_put (.slice TN d.now.length cN) (.slice TP d.past.length cP.val) y0 y1
  have hbF := below_put (HBW.out.trans (HB2.out.mono (by omega))) (Nat.le_refl w.heap.size) (.slice TN d.now.length cN) (.slice TP d.past.length cP.val)
  have t1 := (HS.out.2.1.keep (w' := (w2.setCell ⟨w.heap.size, 0, none⟩ (.slice TN d.now.length cN)).setCell ⟨w.heap.size, 1, none⟩ (.slice TP d.past.length cP.val)) (fun b hb => rb b (by have := hb.1; omega))).mono (T := fun b => b < ((w2.setCell ⟨w.heap.size, 0, none⟩ (.slice TN d.now.length cN)).setCell ⟨w.heap.size, 1, none⟩ (.slice TP d.past.length cP.val)).heap.size) (fun b hb => by show b < _; rw [rz]; exact hb.2)
  have t2 := (HS.out.2.2.keep (w' := (w2.setCell ⟨w.heap.size, 0, none⟩ (.slice TN d.now.length cN)).setCell ⟨w.heap.size, 1, none⟩ (.slice TP d.past.length cP.val)) (fun b hb => rb b (by have := hb.1; omega))).mono (T := fun b => b < ((w2.setCell ⟨w.heap.size, 0, none⟩ (.slice TN d.now.length cN)).setCell ⟨w.heap.size, 1, none⟩ (.slice TP d.past.length cP.val)).heap.size) (fun b hb => by show b < _; rw [rz]; exact hb.2)
  exact bodyPost_ret (v := dskV TN d.now.length cN TP d.past.length cP.val) (by simp [results, dskV, Try.results20, go_sem, r0, r1]) rfl ⟨d, TN, cN, TP, cP, rfl, hbF, HS.out.1.1, HS.out.1.2, t1, t2⟩

end Go.Proofs.Ytlkjpmdnhccdpaa
