/- Texts in one: DeskIf, DeskIg, ConcatT, DeskIh, DeskIi. -/
import Derived.Test.YtlmaeadbomnhlaaGreatQG
import Derived.Test.YtlmaeadbomnhlaaGreatQD
import Derived.Test.YtlmaeadbomnhlaaGreatMK
import Derived.Test.YtlmaeadbomnhlaaGreatNI
import Derived.Test.YtlmaeadbomnhlaaGreatMC
import Derived.Test.YtlmaeadbomnhlaaGreatQB
import Derived.Test.YtlmaeadbomnhlaaGreatOE
namespace Go.Proofs.YtlmaeadbomnhlaaGreat
set_option linter.unusedSimpArgs false
set_option linter.unusedVariables false
open Go.RowKit
def plainB (a : Dd) : Bool := decide (a.kind = 0 ∨ (a.row = 0 ∧ a.col = 0 ∧ (a.kind = 2 ∨ a.num = 0)))
theorem plainB_iff {a : Dd} : plainB a = true ↔ (a.kind = 0 ∨ (a.row = 0 ∧ a.col = 0 ∧ (a.kind = 2 ∨ a.num = 0))) := by unfold plainB; rw [decide_eq_true_eq]
theorem made_unplain {a : Dd} (h : plainB a = false) (g : List (List Int)) : madeT g a = [] ∧ backB a = false := by
  have h2 : ¬ (a.kind = 0 ∨ (a.row = 0 ∧ a.col = 0 ∧ (a.kind = 2 ∨ a.num = 0))) := fun hh => by rw [plainB_iff.2 hh] at h; cases h
  refine ⟨?_, ?_⟩
  · unfold madeT
    rw [if_neg (by omega), if_neg (by omega), if_neg (by omega), if_neg (by omega)]
  · unfold backB; rw [decide_eq_false_iff_not]; omega
theorem deed_box (w : World) (k r c n : Int) : ∃ W, W = w.alloc (.cells #[.int .i64 k, .int .i64 r, .int .i64 c, .int .i64 n] 28) ∧ Below w.heap.size w W ∧ W.heap.size = w.heap.size + 1 ∧
    (W.cell? ⟨w.heap.size, 0, none⟩ = some (.int .i64 k) ∧ W.cell? ⟨w.heap.size, 1, none⟩ = some (.int .i64 r) ∧ W.cell? ⟨w.heap.size, 2, none⟩ = some (.int .i64 c) ∧ W.cell? ⟨w.heap.size, 3, none⟩ = some (.int .i64 n)) :=
  ⟨_, rfl, (Below.refl _ _).alloc (Nat.le_refl _) _, by simp, by simp [go_sem], by simp [go_sem], by simp [go_sem], by simp [go_sem]⟩
set_option maxHeartbeats 2000000 in
theorem plain_impl (a : Dd) (w : World) : Calls Tryz.prog 29 #[ddV a] w (Adds (.bool (plainB a)) w) := by
  obtain ⟨P, hP⟩ : ∃ P, plainB a = P := ⟨_, rfl⟩
  rw [hP]
  have HP : Hid ((a.kind = 0 ∨ (a.row = 0 ∧ a.col = 0 ∧ (a.kind = 2 ∨ a.num = 0))) ↔ P = true) := by show _ ↔ _; rw [← hP, plainB_iff]
  clear hP
  obtain ⟨kind, row, col, num⟩ := a
  unfold ddV
  simp only at HP ⊢
  obtain ⟨W, hW, hbW, hzW, c0, c1, c2, c3⟩ := deed_box w kind row col num
  have HBW := Lib.hid hbW
  clear hbW hzW
  by_cases k0 : kind = 0
  · have e0 : (kind == 0) = true := by rw [beq_iff_eq]; omega
    have HG : Hid (P = true) := HP.out.1 (by omega)
    clear HP k0
    go_enter Tryz.func29, Tryz.ntmps29
    go_wp2_with fail
    go_ret
    rw [← hW]
    exact Adds.of (by rw [HG.out]; rfl) HBW.out
  · have e0 : (kind == 0) = false := by rw [beq_eq_false_iff_ne]; omega
    by_cases k2 : kind = 2
    · have e2 : (kind == 2) = true := by rw [beq_iff_eq]; omega
      by_cases r0 : row = 0
      · have e3 : (row == 0) = true := by rw [beq_iff_eq]; omega
        by_cases q0 : col = 0
        · have e4 : (col == 0) = true := by rw [beq_iff_eq]; omega
          have HG : Hid (P = true) := HP.out.1 (by omega)
          clear HP k0 k2 r0 q0
          go_enter Tryz.func29, Tryz.ntmps29
          go_wp2_with fail
          go_ret
          rw [← hW]
          exact Adds.of (by rw [HG.out]; rfl) HBW.out
        · have e4 : (col == 0) = false := by rw [beq_eq_false_iff_ne]; omega
          have HG : Hid (P = false) := (Bool.eq_false_iff.2 fun hh => by have := HP.out.2 hh; omega)
          clear HP k0 k2 r0 q0
          go_enter Tryz.func29, Tryz.ntmps29
          go_wp2_with fail
          go_ret
          rw [← hW]
          exact Adds.of (by rw [HG.out]; rfl) HBW.out
      · have e3 : (row == 0) = false := by rw [beq_eq_false_iff_ne]; omega
        have HG : Hid (P = false) := (Bool.eq_false_iff.2 fun hh => by have := HP.out.2 hh; omega)
        clear HP k0 k2 r0
        go_enter Tryz.func29, Tryz.ntmps29
        go_wp2_with fail
        go_ret
        rw [← hW]
        exact Adds.of (by rw [HG.out]; rfl) HBW.out
    · have e2 : (kind == 2) = false := by rw [beq_eq_false_iff_ne]; omega
      by_cases r0 : row = 0
      · have e3 : (row == 0) = true := by rw [beq_iff_eq]; omega
        by_cases q0 : col = 0
        · have e4 : (col == 0) = true := by rw [beq_iff_eq]; omega
          by_cases n0 : num = 0
          · have e5 : (num == 0) = true := by rw [beq_iff_eq]; omega
            have HG : Hid (P = true) := HP.out.1 (by omega)
            clear HP k0 k2 r0 q0 n0
            go_enter Tryz.func29, Tryz.ntmps29
            go_wp2_with fail
            go_ret
            rw [← hW]
            exact Adds.of (by rw [HG.out]; rfl) HBW.out
          · have e5 : (num == 0) = false := by rw [beq_eq_false_iff_ne]; omega
            have HG : Hid (P = false) := (Bool.eq_false_iff.2 fun hh => by have := HP.out.2 hh; omega)
            clear HP k0 k2 r0 q0 n0
            go_enter Tryz.func29, Tryz.ntmps29
            go_wp2_with fail
            go_ret
            rw [← hW]
            exact Adds.of (by rw [HG.out]; rfl) HBW.out
        · have e4 : (col == 0) = false := by rw [beq_eq_false_iff_ne]; omega
          have HG : Hid (P = false) := (Bool.eq_false_iff.2 fun hh => by have := HP.out.2 hh; omega)
          clear HP k0 k2 r0 q0
          go_enter Tryz.func29, Tryz.ntmps29
          go_wp2_with fail
          go_ret
          rw [← hW]
          exact Adds.of (by rw [HG.out]; rfl) HBW.out
      · have e3 : (row == 0) = false := by rw [beq_eq_false_iff_ne]; omega
        have HG : Hid (P = false) := (Bool.eq_false_iff.2 fun hh => by have := HP.out.2 hh; omega)
        clear HP k0 k2 r0
        go_enter Tryz.func29, Tryz.ntmps29
        go_wp2_with fail
        go_ret
        rw [← hW]
        exact Adds.of (by rw [HG.out]; rfl) HBW.out
set_option maxHeartbeats 4000000 in
set_option maxRecDepth 100000 in
theorem withNumber_impl (A : Option Addr) (c : Nat) (g : List (List Int)) (row col num : Int) (hg : gameB g = true) (w : World) (h : Rows2 w (· < w.heap.size) A g) :
    Calls Tryz.prog 51 #[.slice A g.length c, .int .i64 row, .int .i64 col, .int .i64 num] w (NewTable w (madeT g ⟨0, row, col, num⟩)) := by
  have hgm := Game.of hg
  have g1 := hgm.lo
  have g2 := hgm.hi
  have g3 := hgm.mlo
  have g4 := hgm.mhi
  have HG := Lib.hid hg
  have HR := Lib.hid h
  obtain ⟨b, off, rfl⟩ := h.some (by omega)
  obtain ⟨hS, A0, c0, hc0, hl0, hm0, _⟩ := h.row (i := 0) (by omega)
  rw [Nat.add_zero] at hc0
  unfold maxLen at hm0
  have q3 : 0 < g.length := by omega
  rcases e1 : inPl row g.length with _ | _
  · have HX : Hid (madeT g ⟨0, row, col, num⟩ = []) := by
      refine made_out ?_
      rcases hx : setInB g ⟨0, row, col, num⟩ with _ | _
      · rfl
      · obtain ⟨_, h1, _⟩ := setIn_iff.1 hx
        rw [inPl_iff.2 (by simp only at h1; omega)] at e1; cases e1
    have E1 := Lib.hid e1
    clear e1 h hg hgm
    go_enter Tryz.func51, Tryz.ntmps51
    go_wp2_with (go_at_call 73; refine (placeOk _ _ (by omega) _).mono ?_; rintro e w9 ⟨rfl, rfl⟩; first | rw [E1.out] | skip)
    go_ret
    rw [HX.out]
    exact ⟨_, _, rfl, Below.refl _ _, fun h0 => absurd h0 (by simp)⟩
  · rcases e2 : inPl col (rowAt g 0).length with _ | _
    · have HX : Hid (madeT g ⟨0, row, col, num⟩ = []) := by
        refine made_out ?_
        rcases hx : setInB g ⟨0, row, col, num⟩ with _ | _
        · rfl
        · obtain ⟨_, _, h1⟩ := setIn_iff.1 hx
          rw [inPl_iff.2 (by simp only at h1; omega)] at e2; cases e2
      have E1 := Lib.hid e1
      have E2 := Lib.hid e2
      clear e1 e2 h hg hgm
      go_enter Tryz.func51, Tryz.ntmps51
      go_wp2_with (go_at_call 73; refine (placeOk _ _ (by omega) _).mono ?_; rintro e w9 ⟨rfl, rfl⟩; first | rw [E1.out] | rw [E2.out])
      go_ret
      rw [HX.out]
      exact ⟨_, _, rfl, Below.refl _ _, fun h0 => absurd h0 (by simp)⟩
    · obtain ⟨r1, r2⟩ := inPl_iff.1 e1
      obtain ⟨k1, k2⟩ := inPl_iff.1 e2
      have HX : Hid (setInB g ⟨0, row, col, num⟩ = true) := setIn_iff.2 ⟨rfl, ⟨r1, by show row ≤ _; omega⟩, ⟨k1, by show col ≤ _; omega⟩⟩
      obtain ⟨r, rfl⟩ : ∃ r : Nat, row = r := ⟨row.toNat, by omega⟩
      obtain ⟨k, rfl⟩ : ∃ k : Nat, col = k := ⟨col.toNat, by omega⟩
      have hr : r < g.length := by omega
      have hk : k < (rowAt g r).length := by rw [(Game.of HG.out).len r hr]; omega
      have hrl : (rowAt g r).length ≤ 16 := by rw [(Game.of HG.out).len r hr]; omega
      have HM : Hid (madeT g ⟨0, (r : Int), (k : Int), num⟩ = pokeRC g r k num) := by show _ = _; rw [made_put HX.out]; rfl
      have E1 := Lib.hid e1
      have E2 := Lib.hid e2
      have HCP := Lib.hid (copied_game _ c g HG.out w HR.out)
      clear e1 e2 h hg hgm HX r1 r2 k1 k2
      go_enter Tryz.func51, Tryz.ntmps51
      go_wp2_with (go_at_call 73; refine (placeOk _ _ (by omega) _).mono ?_; rintro e w9 ⟨rfl, rfl⟩; first | rw [E1.out] | rw [E2.out])
      refine HCP.out.mono ?_
      rintro e w3 ⟨T3, c3, rfl, hc1, hc2, hb3, ho3⟩
      obtain ⟨bt, _, _, _, _, rfl, _⟩ := ho3 (by omega)
      obtain ⟨br, cr, N, f, hcr, hcl, hcm, hlo, hhi, hne, hlo2, hhi2, hrow, hN, hcells⟩ := ho3.oneRow hr (by omega)
      have HPK := Lib.hid (ho3.pokeRC hr hk num (fun b' e => by injection e with e; injection e with e; rw [← e]; exact hcr))
      have hck := hcells k hk
      have hfk := hrow.frozen k
      have HB3 := Lib.hid hb3
      have HLO : Hid (w.heap.size ≤ br) := hlo
      unfold maxLen at hcm
      clear hb3 hrow hcells ho3 hc0 hS HCP
      go_wp2_with fail
      go_ret
      rw [HM.out]
      have hlz : w.heap.size ≤ br := HLO.out
      exact ⟨_, _, by rw [pokeRC_length]; rfl, HB3.out.setCell (p := ⟨br, k, none⟩) hlz _, (HPK.out.more (Nat.le_refl _) (by simp [World.setCell]))⟩
end Go.Proofs.YtlmaeadbomnhlaaGreat

namespace Go.Proofs.YtlmaeadbomnhlaaGreat
set_option linter.unusedSimpArgs false
set_option linter.unusedVariables false
open Go.RowKit
set_option maxHeartbeats 4000000 in
set_option maxRecDepth 100000 in
theorem changed_impl (A B : Option Addr) (c kk : Nat) (d : Dk) (a : Dd) (hd : dkB d = true) (hp : plainB a = true) (w : World) (h : Rows2 w (· < w.heap.size) A d.now) :
    Calls Tryz.prog 31 #[.agg #[.slice A d.now.length c, .slice B d.past.length kk], ddV a] w (NewTable w (madeT d.now a)) := by
  obtain ⟨hd1, hd2, hd3⟩ := dkB_iff.1 hd
  have hg := laid_game hd2
  have hl : d.now.length ≤ maxLen := by have := (Game.of hg).hi; unfold maxLen; omega
  obtain ⟨g, hgd⟩ : ∃ g, d.now = g := ⟨_, rfl⟩
  rw [hgd] at h hg hl ⊢
  obtain ⟨kind, row, col, num⟩ := a
  have hpl := plainB_iff.1 hp
  unfold ddV
  simp only at hpl ⊢
  obtain ⟨W, hW⟩ : ∃ W, W = (w.alloc (.cells #[.slice A g.length c, .slice B d.past.length kk] 26)).alloc (.cells #[.int .i64 kind, .int .i64 row, .int .i64 col, .int .i64 num] 28) := ⟨_, rfl⟩
  have hzW : W.heap.size = w.heap.size + 1 + 1 := by rw [hW]; simp
  have d0 : W.cell? ⟨w.heap.size, 0, none⟩ = some (.slice A g.length c) := by rw [hW]; simp [go_sem]
  have a0 : W.cell? ⟨w.heap.size + 1, 0, none⟩ = some (.int .i64 kind) := by rw [hW]; simp [go_sem]
  have a1 : W.cell? ⟨w.heap.size + 1, 1, none⟩ = some (.int .i64 row) := by rw [hW]; simp [go_sem]
  have a2 : W.cell? ⟨w.heap.size + 1, 2, none⟩ = some (.int .i64 col) := by rw [hW]; simp [go_sem]
  have a3 : W.cell? ⟨w.heap.size + 1, 3, none⟩ = some (.int .i64 num) := by rw [hW]; simp [go_sem]
  have hbW : Below w.heap.size w W := by rw [hW]; exact ((Below.refl _ _).alloc (Nat.le_refl _) _).alloc (by simp) _
  have HBW := Lib.hid hbW
  have HR : Hid (Rows2 W (· < W.heap.size) A g) := (keepRows hbW h).lt hbW.size
  have HG := Lib.hid hg
  have HL := Lib.hid hl
  have e3 : (w.alloc (.cells #[.slice A g.length c, .slice B d.past.length kk] 26)).alloc (.cells #[.int .i64 kind, .int .i64 row, .int .i64 col, .int .i64 num] 28) = W := hW.symm
  clear hW hzW hbW h hg hl hp hd hd1 hd2 hd3 hgd
  by_cases k0 : kind = 0
  · subst k0
    have HM := Lib.hid (withNumber_impl A c g row col num HG.out W HR.out)
    obtain ⟨M, hM⟩ : ∃ M, madeT g ⟨0, row, col, num⟩ = M := ⟨_, rfl⟩
    rw [hM] at HM ⊢
    clear hpl hM
    go_enter Tryz.func31, Tryz.ntmps31
    go_wp2_with (go_at_call 51; refine HM.out.mono ?_; rintro e w9 ⟨T, cT, rfl, hb, ho⟩)
    go_ret
    exact ⟨T, cT, rfl, belT HBW.out hb, ho.more HBW.out.size (Nat.le_refl _)⟩
  · have e0 : (kind == 0) = false := by rw [beq_eq_false_iff_ne]; exact k0
    by_cases k1 : kind = 1
    · have HM := Lib.hid (turned_impl A c g HL.out W HR.out)
      have hx : madeT g ⟨kind, row, col, num⟩ = turned g := by unfold madeT; simp only; rw [if_neg (by omega), if_pos (by omega)]
      obtain ⟨M, hM⟩ : ∃ M, turned g = M := ⟨_, rfl⟩
      rw [hx]
      rw [hM] at HM ⊢
      have e1 : (kind == 1) = true := by rw [k1]; rfl
      clear hpl hM hx k0 k1
      go_enter Tryz.func31, Tryz.ntmps31
      go_wp2_with (go_at_call 52; refine HM.out.mono ?_; rintro e w9 ⟨T, cT, rfl, hb, ho⟩)
      go_ret
      exact ⟨T, cT, rfl, belT HBW.out hb, ho.more HBW.out.size (Nat.le_refl _)⟩
    · have e1 : (kind == 1) = false := by rw [beq_eq_false_iff_ne]; exact k1
      by_cases k2 : kind = 2
      · have HM := Lib.hid (shift_impl A c g num HL.out W HR.out)
        have hx : madeT g ⟨kind, row, col, num⟩ = shi g num := by unfold madeT; simp only; rw [if_neg (by omega), if_neg (by omega), if_pos (by omega)]
        obtain ⟨M, hM⟩ : ∃ M, shi g num = M := ⟨_, rfl⟩
        rw [hx]
        rw [hM] at HM ⊢
        have e2 : (kind == 2) = true := by rw [k2]; rfl
        clear hpl hM hx k0 k1 k2
        go_enter Tryz.func31, Tryz.ntmps31
        go_wp2_with (go_at_call 53; refine HM.out.mono ?_; rintro e w9 ⟨T, cT, rfl, hb, ho⟩)
        go_ret
        exact ⟨T, cT, rfl, belT HBW.out hb, ho.more HBW.out.size (Nat.le_refl _)⟩
      · have e2 : (kind == 2) = false := by rw [beq_eq_false_iff_ne]; exact k2
        by_cases k3 : kind = 3
        · have HM := Lib.hid (small_impl A c g HL.out W HR.out)
          have hx : madeT g ⟨kind, row, col, num⟩ = small g := by unfold madeT; simp only; rw [if_neg (by omega), if_neg (by omega), if_neg (by omega), if_pos (by omega)]
          obtain ⟨M, hM⟩ : ∃ M, small g = M := ⟨_, rfl⟩
          rw [hx]
          rw [hM] at HM ⊢
          have e4 : (kind == 3) = true := by rw [k3]; rfl
          clear hpl hM hx k0 k1 k2 k3
          go_enter Tryz.func31, Tryz.ntmps31
          go_wp2_with (go_at_call 54; refine HM.out.mono ?_; rintro e w9 ⟨T, cT, rfl, hb, ho⟩)
          go_ret
          exact ⟨T, cT, rfl, belT HBW.out hb, ho.more HBW.out.size (Nat.le_refl _)⟩
        · have hx : madeT g ⟨kind, row, col, num⟩ = [] := by unfold madeT; simp only; rw [if_neg (by omega), if_neg (by omega), if_neg (by omega), if_neg (by omega)]
          have e4 : (kind == 3) = false := by rw [beq_eq_false_iff_ne]; exact k3
          rw [hx]
          clear hpl hx k0 k1 k2 k3
          go_enter Tryz.func31, Tryz.ntmps31
          go_wp2_with fail
          go_ret
          exact ⟨none, 0, rfl, HBW.out, fun h0 => absurd h0 (by simp)⟩
end Go.Proofs.YtlmaeadbomnhlaaGreat

namespace Go.Proofs.YtlmaeadbomnhlaaGreat
set_option linter.unusedSimpArgs false
set_option linter.unusedVariables false
open Go.RowKit
theorem own_nil {w : World} {base : Nat} {e : TypeId} {v : Value} {ys : List Value} {k : Nat} (h : w.ownsRow base e 1 v (preN [] ys k).length (preN [] ys k)) (hk : k ≤ 1 := by omega) : w.ownsRow base e 1 v 0 [] := by
  have : k = 0 ∨ k = 1 := by omega
  rcases this with rfl | rfl <;> exact h
theorem own_all {w : World} {base n2 : Nat} {e : TypeId} {v : Value} {ys : List Value} (h : w.ownsRow base e 1 v (preN [] ys 2).length (preN [] ys 2)) (hy : ys.length = n2) : w.ownsRow base e 1 v n2 ys := by
  rw [show preN [] ys 2 = ys from rfl, hy] at h; exact h
theorem nil_append (ty : TypeId) {w : World} {base : Nat} {v : Value} (hown : w.ownsRow base 23 1 v 0 []) (c2 : Nat) : (Builtin.append_ #[24, 24] ty #[v, .slice none 0 c2]).run Tryz.prog w = .ok v w := by
  obtain ⟨i0, hi0, hz0, hz1, hz2⟩ := info_parts infoT
  obtain ⟨_, ⟨rfl, _⟩ | ⟨b, cap, cur, rfl, _, _, hc, _⟩⟩ := hown
  · simp [Builtin.append_, run_underlying Tryz.underlying24, sizeOf, typeInfo, hi0, Builtin.lenOf, Builtin.firstCells, loadCells, loadCellsFrom, storeCells]
  · simp [Builtin.append_, run_underlying Tryz.underlying24, sizeOf, typeInfo, hi0, Builtin.lenOf, Builtin.firstCells, loadCells, loadCellsFrom, storeCells, hc]
set_option maxHeartbeats 2000000 in
set_option maxRecDepth 100000 in
theorem growT (n : Nat) (h0 : 0 < n) (hn : n ≤ 1000) (w : World) :
    Calls Tryz.prog 55 #[.slice none 0 0, .int .i64 (n : Int)] w fun e w' => ∃ v, e = .returned v ∧ Below w.heap.size w w' ∧ w'.ownsRow w.heap.size 23 1 v 0 [] := by
  obtain ⟨i0, hi0, hz0, hz1, hz2⟩ := info_parts infoT
  have hOWN := grown_own w n 23 (.slice none 0 0) rfl (by omega)
  have hrz : ∀ ty, (Builtin.append_ #[24, 3] ty #[.slice none 0 0, .int .i64 (n : Int)]).run Tryz.prog w =
      .ok (.slice (some ⟨w.heap.size, 0, none⟩) n (grownCap w n 0 23)) (w.drew.alloc (.cells (#[] ++ Builtin.zeroCells ((.slice none 0 0) : Value).cells n ++ Builtin.zeroCells ((.slice none 0 0) : Value).cells (grownCap w n 0 23 - n)) 23)) := fun ty => by
    have h := Lib.run_append_grow_zeros (P := Tryz.prog) w 24 3 ty 23 i0 (.slice none 0 0) .i64 .i64 Tryz.underlying24 Tryz.underlying3 hi0 hz0 none 0 0 [] (by exact run_firstCells_none w.drew i0.size 0 0 0) n h0 (by rw [hz1]; decide) (by omega) (by omega)
      (by rw [hz2]; omega) (by rw [hz2]; exact growslice_fits (by omega) (by omega))
    rw [Nat.zero_add] at h
    exact h
  have hG63 : grownCap w n 0 23 ≤ 9223372036854775807 := by
    have := grownCap_le_maxLen w n 0 23 (by unfold maxLen; omega)
    unfold maxLen at this
    omega
  have hGn := grownCap_ge w n 0 23
  obtain ⟨G, hG⟩ : ∃ G, G = grownCap w n 0 23 := ⟨_, rfl⟩
  rw [← hG] at hOWN hrz hG63 hGn
  obtain ⟨W, hW⟩ : ∃ W, W = w.drew.alloc (.cells (#[] ++ Builtin.zeroCells ((.slice none 0 0) : Value).cells n ++ Builtin.zeroCells ((.slice none 0 0) : Value).cells (G - n)) 23) := ⟨_, rfl⟩
  have HB : Hid (Below w.heap.size w W) := by rw [hW]; exact (Below.refl _ _).drew.alloc (Nat.le_refl _) _
  rw [← hW] at hOWN hrz
  have HO := Lib.hid hOWN
  clear hG hW hOWN hi0 hz0 hz1 hz2
  go_enter Tryz.func55, Tryz.ntmps55
  go_wp2_with (at_builtin; refine Lib.wpList_append_run _ rfl _ _ _ _ rfl _ _ rfl rfl _ _ (hrz _) ?_)
  go_ret
  exact ⟨_, rfl, HB.out, HO.out⟩
set_option maxHeartbeats 4000000 in
set_option maxRecDepth 100000 in
theorem concatT (b0 : Nat) (c0 : Nat) (A1 A2 : Addr) (n1 c1 n2 c2 : Nat) (xs ys : List Value) (hx : xs.length = n1) (hy : ys.length = n2) (hn : n1 + n2 ≤ 1000) (h0 : 0 < n1 + n2) (hc1 : n1 ≤ c1) (hc2 : n2 ≤ c2) (hm1 : c1 ≤ maxLen) (hm2 : c2 ≤ maxLen)
    (ox : ∀ u ∈ xs, u.oneCell' = true) (oy : ∀ u ∈ ys, u.oneCell' = true) (w : World) (hb0 : b0 < w.heap.size)
    (k0 : w.cell? ⟨b0, 0, none⟩ = some (.slice (some A1) n1 c1)) (k1 : w.cell? ⟨b0, 1, none⟩ = some (.slice (some A2) n2 c2))
    (hxs : ∀ w', Below w.heap.size w w' → ∀ j u, xs[j]? = some u → w'.cell? (A1.add j) = some u) (hys : ∀ w', Below w.heap.size w w' → ∀ j u, ys[j]? = some u → w'.cell? (A2.add j) = some u) :
    Calls Tryz.prog 34 #[.slice (some ⟨b0, 0, none⟩) 2 c0] w fun e w' => ∃ v, e = .returned v ∧ Below w.heap.size w w' ∧ w'.ownsRow w.heap.size 23 1 v (n1 + n2) (xs ++ ys) := by
  obtain ⟨i0, hi0, hz0, hz1, hz2⟩ := info_parts infoT
  have HI0 := Lib.hid hi0
  have HZ0 := Lib.hid hz0
  have HZ1 := Lib.hid hz1
  have HZ2 := Lib.hid hz2
  have HXS := Lib.hid hxs
  have HYS := Lib.hid hys
  have HK0 : Hid (∀ w', Below w.heap.size w w' → w'.cell? ⟨b0, 0, none⟩ = some (.slice (some A1) n1 c1)) := fun w' hb => (hb.cell (p := ⟨b0, 0, none⟩) hb0).trans k0
  have HK1 : Hid (∀ w', Below w.heap.size w w' → w'.cell? ⟨b0, 1, none⟩ = some (.slice (some A2) n2 c2)) := fun w' hb => (hb.cell (p := ⟨b0, 1, none⟩) hb0).trans k1
  have HX := Lib.hid hx
  have HY := Lib.hid hy
  have HOX := Lib.hid ox
  have HOY := Lib.hid oy
  unfold maxLen at hm1 hm2
  have cc : ((n1 : Int) + (n2 : Int)) = ((n1 + n2 : Nat) : Int) := by omega
  have HCC := Lib.hid cc
  have s2 : IntKind.i64.wrap ((n1 : Int) + (n2 : Int)) = (n1 : Int) + (n2 : Int) := IntWalk.i64_in _ ⟨by omega, by omega⟩
  have s1 : IntKind.i64.wrap (n1 : Int) = (n1 : Int) := IntWalk.i64_in _ ⟨by omega, by omega⟩
  have HG := Lib.hid (growT (n1 + n2) h0 hn w)
  clear hi0 hz0 hz1 hz2 hxs hys hx hy ox oy cc
  go_enter Tryz.func34, Tryz.ntmps34
  go_wp2_with fail
  go_loop [3, 11] (fun s i => (s = .int .i64 0 ∧ i = .int .i64 0) ∨ (s = .int .i64 n1 ∧ i = .int .i64 1) ∨ (s = .int .i64 ((n1 : Int) + (n2 : Int)) ∧ i = .int .i64 2)) (fun _ i => 2 - (intOf i).toNat)
  case atStart => exact .inl ⟨rfl, rfl⟩
  case round =>
    rcases hrel with ⟨rfl, rfl⟩ | ⟨rfl, rfl⟩ | ⟨rfl, rfl⟩
    · go_wp2_with fail
      go_round
      case rel => exact .inr (.inl ⟨by first | rfl | (simp; done) | go_num, by first | rfl | go_num⟩)
      case measure => simp [intOf]
    · go_wp2_with fail
      go_round
      case rel => exact .inr (.inr ⟨by first | rfl | (simp; done) | go_num, by first | rfl | go_num⟩)
      case measure => simp [intOf]
    · clear k0 k1 s1 s2
      rw [HCC.out]
      go_wp2_with fail
      refine HG.out.mono ?_
      rintro e w1 ⟨v1, rfl, hb1, ho1⟩
      have HB1 := Lib.hid hb1
      have HO1 := Lib.hid ho1
      clear hb1 ho1
      go_wp2_with fail
      go_loopw [6, 27] (fun v i wr => ∃ k : Nat, k ≤ 2 ∧ i = .int .i64 k ∧ Hid (wr.ownsRow w.heap.size 23 1 v (preN xs ys k).length (preN xs ys k)) ∧ Hid (Below w.heap.size w wr)) (fun _ i _ => 2 - (intOf i).toNat)
      case atStart => exact ⟨0, Nat.zero_le _, rfl, HO1.out, HB1⟩
      case round =>
        obtain ⟨k, hk, rfl, HO, HB⟩ := hrel
        have hk3 : k = 0 ∨ k = 1 ∨ k = 2 := by omega
        have hws := HB.out.size
        have kk0 := HK0.out _ HB.out
        have kk1 := HK1.out _ HB.out
        rcases hk3 with rfl | rfl | rfl
        · have HN := Lib.hid (HXS.out _ HB.out)
          clear kk1
          go_wp2_with (at_builtin; refine wpList_append_own_at _ rfl (.tmp 31) (.tmp 32) _ rfl w.heap.size 23 i0 (.slice none 0 0) 1 24 Tryz.underlying24 HI0.out HZ0.out HZ1.out HZ2.out rfl (by decide) _ 0 [] rfl HO.out A1 n1 c1 xs rfl (by rw [HX.out, Nat.mul_one]) HN.out HOX.out (by unfold maxLen; omega) (by omega) hws ?_)
          intro v' w4 hown hgrow _ _
          have HO2 : Hid (w4.ownsRow w.heap.size 23 1 v' (preN xs ys 1).length (preN xs ys 1)) := by
            show w4.ownsRow w.heap.size 23 1 v' xs.length xs
            rw [HX.out]; simpa using hown
          have HB2 : Hid (Below w.heap.size w w4) := HB.out.grown hgrow hws (fun k hk => by have := (World.ownsRow.lt HO.out) k hk; omega)
          clear hown hgrow
          go_wp2_with fail
          go_roundw
          case rel => exact ⟨1, by omega, by go_num, HO2, HB2⟩
          case measure => simp [intOf]
        · have HN := Lib.hid (HYS.out _ HB.out)
          clear kk0
          have HO' := Lib.hid (own_pre1 HO.out HX.out)
          go_wp2_with (at_builtin; refine wpList_append_own_at _ rfl (.tmp 31) (.tmp 32) _ rfl w.heap.size 23 i0 (.slice none 0 0) 1 24 Tryz.underlying24 HI0.out HZ0.out HZ1.out HZ2.out rfl (by decide) _ n1 xs rfl HO'.out A2 n2 c2 ys rfl (by rw [HY.out, Nat.mul_one]) HN.out HOY.out (by unfold maxLen; omega) (by omega) hws ?_)
          intro v' w4 hown hgrow _ _
          have HO2 : Hid (w4.ownsRow w.heap.size 23 1 v' (preN xs ys 2).length (preN xs ys 2)) := by
            show w4.ownsRow w.heap.size 23 1 v' (xs ++ ys).length (xs ++ ys)
            rw [List.length_append, HX.out, HY.out]; exact hown
          have HB2 : Hid (Below w.heap.size w w4) := HB.out.grown hgrow hws (fun k hk => by have := (World.ownsRow.lt HO.out) k hk; omega)
          clear hown hgrow
          go_wp2_with fail
          go_roundw
          case rel => exact ⟨2, by omega, by go_num, HO2, HB2⟩
          case measure => simp [intOf]
        · clear kk0 kk1
          have HO' := Lib.hid (own_pre2 HO.out HX.out HY.out)
          go_wp2_with fail
          go_ret
          exact ⟨_, rfl, HB.out, HO'.out⟩
set_option maxHeartbeats 4000000 in
set_option maxRecDepth 100000 in
theorem concatTn (b0 : Nat) (c0 : Nat) (A2 : Addr) (c1 n2 c2 : Nat) (ys : List Value) (hy : ys.length = n2) (hn : n2 ≤ 1000) (h0 : 0 < n2) (hc2 : n2 ≤ c2) (hm1 : c1 ≤ maxLen) (hm2 : c2 ≤ maxLen)
    (oy : ∀ u ∈ ys, u.oneCell' = true) (w : World) (hb0 : b0 < w.heap.size)
    (k0 : w.cell? ⟨b0, 0, none⟩ = some (.slice none 0 c1)) (k1 : w.cell? ⟨b0, 1, none⟩ = some (.slice (some A2) n2 c2))
    (hys : ∀ w', Below w.heap.size w w' → ∀ j u, ys[j]? = some u → w'.cell? (A2.add j) = some u) :
    Calls Tryz.prog 34 #[.slice (some ⟨b0, 0, none⟩) 2 c0] w fun e w' => ∃ v, e = .returned v ∧ Below w.heap.size w w' ∧ w'.ownsRow w.heap.size 23 1 v n2 ys := by
  obtain ⟨i0, hi0, hz0, hz1, hz2⟩ := info_parts infoT
  have HI0 := Lib.hid hi0
  have HZ0 := Lib.hid hz0
  have HZ1 := Lib.hid hz1
  have HZ2 := Lib.hid hz2
  have HYS := Lib.hid hys
  have HK0 : Hid (∀ w', Below w.heap.size w w' → w'.cell? ⟨b0, 0, none⟩ = some (.slice none 0 c1)) := fun w' hb => (hb.cell (p := ⟨b0, 0, none⟩) hb0).trans k0
  have HK1 : Hid (∀ w', Below w.heap.size w w' → w'.cell? ⟨b0, 1, none⟩ = some (.slice (some A2) n2 c2)) := fun w' hb => (hb.cell (p := ⟨b0, 1, none⟩) hb0).trans k1
  have HY := Lib.hid hy
  have HOY := Lib.hid oy
  unfold maxLen at hm1 hm2
  have s2 : IntKind.i64.wrap (n2 : Int) = (n2 : Int) := IntWalk.i64_in _ ⟨by omega, by omega⟩
  have HG := Lib.hid (growT n2 h0 hn w)
  clear hi0 hz0 hz1 hz2 hys hy oy
  go_enter Tryz.func34, Tryz.ntmps34
  go_wp2_with fail
  go_loop [3, 11] (fun s i => (s = .int .i64 0 ∧ i = .int .i64 0) ∨ (s = .int .i64 0 ∧ i = .int .i64 1) ∨ (s = .int .i64 (n2 : Int) ∧ i = .int .i64 2)) (fun _ i => 2 - (intOf i).toNat)
  case atStart => exact .inl ⟨rfl, rfl⟩
  case round =>
    rcases hrel with ⟨rfl, rfl⟩ | ⟨rfl, rfl⟩ | ⟨rfl, rfl⟩
    · go_wp2_with fail
      go_round
      case rel => exact .inr (.inl ⟨by first | rfl | (simp; done) | go_num, by first | rfl | go_num⟩)
      case measure => simp [intOf]
    · go_wp2_with fail
      go_round
      case rel => exact .inr (.inr ⟨by first | rfl | (simp; done) | go_num, by first | rfl | go_num⟩)
      case measure => simp [intOf]
    · clear k0 k1 s2
      go_wp2_with fail
      refine HG.out.mono ?_
      rintro e w1 ⟨v1, rfl, hb1, ho1⟩
      have HB1 := Lib.hid hb1
      have HO1 := Lib.hid ho1
      clear hb1 ho1
      go_wp2_with fail
      go_loopw [6, 27] (fun v i wr => ∃ k : Nat, k ≤ 2 ∧ i = .int .i64 k ∧ Hid (wr.ownsRow w.heap.size 23 1 v (preN [] ys k).length (preN [] ys k)) ∧ Hid (Below w.heap.size w wr)) (fun _ i _ => 2 - (intOf i).toNat)
      case atStart => exact ⟨0, Nat.zero_le _, rfl, HO1.out, HB1⟩
      case round =>
        obtain ⟨k, hk, rfl, HO, HB⟩ := hrel
        have hk3 : k = 0 ∨ k = 1 ∨ k = 2 := by omega
        have hws := HB.out.size
        have kk0 := HK0.out _ HB.out
        have kk1 := HK1.out _ HB.out
        rcases hk3 with rfl | rfl | rfl
        · have HRUN := nil_append 24 (own_nil HO.out) c1
          clear kk1
          go_wp2_with (at_builtin; refine Lib.wpList_append_run _ rfl _ _ _ _ rfl _ _ rfl rfl _ _ HRUN ?_)
          go_roundw
          case rel => exact ⟨1, by omega, by go_num, HO.out, HB.out⟩
          case measure => simp [intOf]
        · have HN := Lib.hid (HYS.out _ HB.out)
          clear kk0
          have HO' := Lib.hid (own_nil HO.out)
          go_wp2_with (at_builtin; refine wpList_append_own_at _ rfl (.tmp 31) (.tmp 32) _ rfl w.heap.size 23 i0 (.slice none 0 0) 1 24 Tryz.underlying24 HI0.out HZ0.out HZ1.out HZ2.out rfl (by decide) _ 0 [] rfl HO'.out A2 n2 c2 ys rfl (by rw [HY.out, Nat.mul_one]) HN.out HOY.out (by unfold maxLen; omega) (by omega) hws ?_)
          intro v' w4 hown hgrow _ _
          have HO2 : Hid (w4.ownsRow w.heap.size 23 1 v' (preN [] ys 2).length (preN [] ys 2)) := by
            show w4.ownsRow w.heap.size 23 1 v' ys.length ys
            rw [HY.out]; simpa using hown
          have HB2 : Hid (Below w.heap.size w w4) := HB.out.grown hgrow hws (fun k hk => by have := (World.ownsRow.lt HO.out) k hk; omega)
          clear hown hgrow
          go_wp2_with fail
          go_roundw
          case rel => exact ⟨2, by omega, by go_num, HO2, HB2⟩
          case measure => simp [intOf]
        · clear kk0 kk1
          have HO' := Lib.hid (own_all HO.out HY.out)
          go_wp2_with fail
          go_ret
          exact ⟨_, rfl, HB.out, HO'.out⟩
end Go.Proofs.YtlmaeadbomnhlaaGreat

namespace Go.Proofs.YtlmaeadbomnhlaaGreat
set_option linter.unusedSimpArgs false
set_option linter.unusedVariables false
open Go.RowKit
def aftD (d : Dk) (a : Dd) : Dk := if canB d a = true then doD d a else dkZero
theorem aft_yes {d : Dk} {a : Dd} (h : canB d a = true) : aftD d a = doD d a := if_pos h
theorem aft_no {d : Dk} {a : Dd} (h : canB d a = false) : aftD d a = dkZero := by unfold aftD; rw [h]; rfl
theorem can_unplain {d : Dk} {a : Dd} (hd : dkB d = true) (h : plainB a = false) : canB d a = false := by
  obtain ⟨h1, h2⟩ := made_unplain h d.now
  exact (do_none hd (fun hb => by rw [h2] at hb; cases hb.1) (fun hm => by rw [h1] at hm; exact absurd hm.1 (by rw [laid_nil]; decide))).2
theorem can_back {d : Dk} {a : Dd} (hd : dkB d = true) (h : backB a = true) : canB d a = decide (0 < d.past.length) ∧ aftD d a = backD d := by
  by_cases h0 : 0 < d.past.length
  · obtain ⟨e1, e2⟩ := do_back hd h h0
    exact ⟨by rw [e2, decide_eq_true h0], by rw [aft_yes e2, e1]; unfold backD; rw [if_pos h0]⟩
  · have hm := made_back (g := d.now) h
    have e2 := (do_none hd (fun hb => h0 hb.2) (fun hl => by rw [hm] at hl; exact absurd hl.1 (by rw [laid_nil]; decide))).2
    exact ⟨by rw [e2, decide_eq_false h0], by rw [aft_no e2]; unfold backD; rw [if_neg h0]⟩
theorem addr_add (b o j : Nat) : (⟨b, o, none⟩ : Addr).add j = ⟨b, o + j, none⟩ := by simp [Addr.add]
theorem tabs_funs {w : World} {S : Nat → Prop} {B : Option Addr} {p : List (List (List Int))} (h : Tabs3 w S B p) :
    ∃ (TT : Nat → Option Addr) (CC : Nat → Nat), (∀ b off, B = some ⟨b, off, none⟩ → ∀ j u, (tabVals TT CC p)[j]? = some u → w.cell? ((⟨b, off, none⟩ : Addr).add j) = some u) ∧ ∀ i, i < p.length → Rows2 w S (TT i) (tabAt p i) := by
  have key : ∀ i : Nat, ∃ q : Option Addr × Nat, i < p.length → (∀ b off, B = some ⟨b, off, none⟩ → w.cell? ⟨b, off + i, none⟩ = some (.slice q.1 (tabAt p i).length q.2)) ∧ Rows2 w S q.1 (tabAt p i) := fun i => by
    by_cases hi : i < p.length
    · obtain ⟨b, off, e, _, hc⟩ := h (by omega)
      obtain ⟨A, c, h1, h4⟩ := hc i hi
      refine ⟨(A, c), fun _ => ⟨fun b' off' e' => ?_, h4⟩⟩
      rw [e] at e'; injection e' with e'; injection e' with e1 e2
      rw [← e1, ← e2]; exact h1
    · exact ⟨(none, 0), fun h => absurd h hi⟩
  refine ⟨fun i => (Classical.choose (key i)).1, fun i => (Classical.choose (key i)).2, fun b off e j u hj => ?_, fun i hi => (Classical.choose_spec (key i) hi).2⟩
  have hlt : j < p.length := by
    have := (List.getElem?_eq_some_iff.1 hj).1; rwa [tabVals_length] at this
  rw [tabVals_get _ _ _ _ hlt] at hj
  injection hj with hj
  subst hj
  rw [addr_add]; exact (Classical.choose_spec (key j) hlt).1 b off e
theorem tabVals_snoc (TT : Nat → Option Addr) (CC : Nat → Nat) (p : List (List (List Int))) (g : List (List Int)) (T : Option Addr) (c : Nat) :
    tabVals (fun t => if t < p.length then TT t else T) (fun t => if t < p.length then CC t else c) (p ++ [g]) = tabVals TT CC p ++ [.slice T g.length c] := by
  unfold tabVals
  rw [List.length_append, List.length_singleton, List.range_succ, List.map_append]
  congr 1
  · refine List.map_congr_left fun i hi => ?_
    have hi := List.mem_range.1 hi
    simp only [if_pos hi, tabAt_snoc_lt p g i hi]
  · simp [tabAt_snoc_eq]
theorem own_tabs {w : World} {base : Nat} {v : Value} {TT : Nat → Option Addr} {CC : Nat → Nat} {p : List (List (List Int))} (h : w.ownsRow base 23 1 v p.length (tabVals TT CC p)) (h0 : 0 < p.length)
    (hr : ∀ i, i < p.length → Rows2 w (· < w.heap.size) (TT i) (tabAt p i)) :
    ∃ (B : Option Addr) (k : Nat), v = .slice B p.length k ∧ p.length ≤ k ∧ k ≤ maxLen ∧ Tabs3 w (· < w.heap.size) B p := by
  obtain ⟨h1, ⟨rfl, h2⟩ | ⟨b, cap, cur, rfl, h3, h4, h5, h6, h7, h8⟩⟩ := h
  · omega
  · have hlt : b < w.heap.size := (Array.getElem?_eq_some_iff.1 h4).1
    have hcs : cur.size = cap := by rw [h7, Nat.mul_one]
    have hrow : w.rowIs b 23 cap (fun i => cur.getD i undef) := ⟨cur, h4, hcs, fun i hi => by rw [← hcs] at hi; simp [hi]⟩
    refine ⟨_, cap, rfl, h5, h6, fun _ => ⟨b, 0, rfl, hlt, fun i hi => ?_⟩⟩
    refine ⟨TT i, CC i, ?_, hr i hi⟩
    rw [Nat.zero_add, hrow.cell (by omega)]
    have e := tabVals_get TT CC p i hi
    rw [← h8, List.getElem?_take, if_pos (by omega)] at e
    have : cur[i]? = some (.slice (TT i) (tabAt p i).length (CC i)) := by simpa using e
    simp [Array.getD_eq_getD_getElem?, this]
theorem tabVals_one (TT : Nat → Option Addr) (CC : Nat → Nat) (p : List (List (List Int))) : ∀ u ∈ tabVals TT CC p, u.oneCell' = true := by
  intro u hu
  unfold tabVals at hu
  obtain ⟨i, _, rfl⟩ := List.mem_map.1 hu
  rfl
theorem concat_past (b0 c0 : Nat) (A B : Option Addr) (c kk : Nat) (g : List (List Int)) (p : List (List (List Int))) (hp : p.length ≤ 8) (hk : p.length ≤ kk ∧ kk ≤ maxLen) (b1 : Nat) (w w0 : World) (hb0 : b0 < w.heap.size) (hb1 : b1 < w.heap.size) (hw : Below w0.heap.size w0 w)
    (k0 : w.cell? ⟨b0, 0, none⟩ = some (.slice B p.length kk)) (k1 : w.cell? ⟨b0, 1, none⟩ = some (.slice (some ⟨b1, 0, none⟩) 1 1)) (k2 : w.cell? ⟨b1, 0, none⟩ = some (.slice A g.length c))
    (h : Rows2 w0 (· < w0.heap.size) A g) (h' : Tabs3 w0 (· < w0.heap.size) B p) :
    Calls Tryz.prog 34 #[.slice (some ⟨b0, 0, none⟩) 2 c0] w fun e w' => ∃ (D : Option Addr) (k : Nat), e = .returned (.slice D (p ++ [g]).length k) ∧ (p ++ [g]).length ≤ k ∧ k ≤ maxLen ∧ Below w.heap.size w w' ∧ Tabs3 w' (· < w'.heap.size) D (p ++ [g]) := by
  have hlen : (p ++ [g]).length = p.length + 1 := by simp
  have hys : ∀ w', Below w.heap.size w w' → ∀ j u, [Value.slice A g.length c][j]? = some u → w'.cell? ((⟨b1, 0, none⟩ : Addr).add j) = some u := fun w' hb j u hj => by
    cases j with
    | zero => simp at hj; subst hj; exact (hb.cell (p := ⟨b1, 0, none⟩) hb1).trans k2
    | succ j => simp at hj
  have fin : ∀ (TT : Nat → Option Addr) (CC : Nat → Nat), (∀ i, i < p.length → Rows2 w (· < w.heap.size) (TT i) (tabAt p i)) → ∀ (v : Value) (w' : World), Below w.heap.size w w' → w'.ownsRow w.heap.size 23 1 v (p.length + 1) (tabVals TT CC p ++ [.slice A g.length c]) →
      ∃ (D : Option Addr) (k : Nat), v = .slice D (p ++ [g]).length k ∧ (p ++ [g]).length ≤ k ∧ k ≤ maxLen ∧ Tabs3 w' (· < w'.heap.size) D (p ++ [g]) := fun TT CC hr v w' hb ho => by
    rw [← tabVals_snoc, ← hlen] at ho
    refine own_tabs ho (by omega) fun i hi => ?_
    rw [hlen] at hi
    by_cases e : i < p.length
    · simp only [if_pos e]; rw [tabAt_snoc_lt _ _ _ e]
      exact (keepRows hb (hr i e)).lt hb.size
    · obtain rfl : i = p.length := by omega
      simp only [if_neg e]; rw [tabAt_snoc_eq]
      exact (keepRows (belT hw hb) h).lt (belT hw hb).size
  have h3 : Tabs3 w (· < w.heap.size) B p := tabs_mono (tabs_below hw h') fun b (hb : b < w0.heap.size) => Nat.lt_of_lt_of_le hb hw.size
  obtain ⟨TT, CC, hcell, hrr⟩ := tabs_funs h3
  cases B with
  | none =>
    have h0 : p.length = 0 := by
      rcases Nat.eq_zero_or_pos p.length with e | e
      · exact e
      · obtain ⟨_, _, e', _⟩ := h3 e; cases e'
    have hpn : p = [] := List.eq_nil_of_length_eq_zero h0
    rw [h0] at k0
    refine (concatTn b0 c0 ⟨b1, 0, none⟩ kk 1 1 [.slice A g.length c] rfl (by omega) (by omega) (Nat.le_refl _) hk.2 (by unfold maxLen; omega) (by intro u hu; rw [List.mem_singleton.1 hu]; rfl) w hb0 k0 k1 hys).mono ?_
    rintro e w' ⟨v, rfl, hb, ho⟩
    have ho2 : w'.ownsRow w.heap.size 23 1 v (p.length + 1) (tabVals TT CC p ++ [.slice A g.length c]) := by
      rw [h0, show tabVals TT CC p = [] from List.eq_nil_of_length_eq_zero (by rw [tabVals_length]; exact h0)]; exact ho
    obtain ⟨D, k, rfl, q1, q2, q3⟩ := fin TT CC hrr v w' hb ho2
    exact ⟨D, k, rfl, q1, q2, hb, q3⟩
  | some ad =>
    by_cases h0 : p.length = 0
    · rw [h0] at k0
      have e0 : tabVals TT CC p = [] := List.eq_nil_of_length_eq_zero (by rw [tabVals_length]; exact h0)
      refine (concatT b0 c0 ad ⟨b1, 0, none⟩ 0 kk 1 1 [] [.slice A g.length c] rfl rfl (by omega) (by omega) (Nat.zero_le _) (Nat.le_refl _) hk.2 (by unfold maxLen; omega) (fun u hu => by cases hu) (by intro u hu; rw [List.mem_singleton.1 hu]; rfl) w hb0 k0 k1 (fun w' hb j u hj => by simp at hj) hys).mono ?_
      rintro e w' ⟨v, rfl, hb, ho⟩
      obtain ⟨D, k, rfl, q1, q2, q3⟩ := fin TT CC hrr v w' hb (by rw [h0, e0]; exact ho)
      exact ⟨D, k, rfl, q1, q2, hb, q3⟩
    · obtain ⟨b, off, e, hS, _⟩ := h3 (by omega)
      injection e with e
      subst e
      refine (concatT b0 c0 ⟨b, off, none⟩ ⟨b1, 0, none⟩ p.length kk 1 1 (tabVals TT CC p) [.slice A g.length c] (tabVals_length _ _ _) rfl (by omega) (by omega) hk.1 (Nat.le_refl _) hk.2 (by unfold maxLen; omega) (tabVals_one _ _ _) (by intro u hu; rw [List.mem_singleton.1 hu]; rfl) w hb0 k0 k1 (fun w' hb j u hj => ?_) hys).mono ?_
      · have := hcell b off rfl j u hj
        rw [addr_add] at this ⊢; exact (hb.cell (p := ⟨b, off + j, none⟩) hS).trans this
      · rintro e w' ⟨v, rfl, hb, ho⟩
        obtain ⟨D, k, rfl, q1, q2, q3⟩ := fin TT CC hrr v w' hb ho
        exact ⟨D, k, rfl, q1, q2, hb, q3⟩
end Go.Proofs.YtlmaeadbomnhlaaGreat

namespace Go.Proofs.YtlmaeadbomnhlaaGreat
set_option linter.unusedSimpArgs false
set_option linter.unusedVariables false
open Go.RowKit
theorem new_one (w : World) (v : Value) (t : TypeId) : (w.alloc (.cells #[v] t)).cell? ⟨w.heap.size, 0, none⟩ = some v := by simp [go_sem]
set_option maxHeartbeats 40000000 in
set_option maxRecDepth 100000 in
theorem after_impl (A B : Option Addr) (c kk : Nat) (d : Dk) (a : Dd) (hd : dkB d = true) (hkk : d.past.length ≤ kk ∧ kk ≤ maxLen) (w : World) (h : Rows2 w (· < w.heap.size) A d.now) (h' : Rows3 w (· < w.heap.size) B d.past) :
    Calls Tryz.prog 14 #[.agg #[.slice A d.now.length c, .slice B d.past.length kk], ddV a] w (DeskRes w (aftD d a) (.bool (canB d a))) := by
  obtain ⟨hd1, hd2, hd3⟩ := dkB_iff.1 hd
  have hML := made_max hd a
  have hnl : d.now.length ≤ maxLen := by have := (laid_iff.1 hd2).2.1; unfold maxLen; omega
  obtain ⟨W, hW⟩ : ∃ W, W = ((w.alloc (.cells #[.slice A d.now.length c, .slice B d.past.length kk] 26)).alloc (.cells #[.int .i64 a.kind, .int .i64 a.row, .int .i64 a.col, .int .i64 a.num] 28)).alloc (.cells #[.slice none 0 0, .slice none 0 0] 26) := ⟨_, rfl⟩
  have HX : Hid (DoBox w W (.slice A d.now.length c) (.slice B d.past.length kk) a) := by show DoBox _ _ _ _ _; rw [hW]; exact DoBox.new w _ _ a
  have HB := Lib.hid HX.out.bel
  have HP := Lib.hid (plain_impl a W)
  have H1 := Lib.hid h
  have H2 := Lib.hid h'
  have HD := Lib.hid hd
  have HK := Lib.hid hkk
  obtain ⟨_, ⟨e0, e1⟩, ⟨a0, a1, a2, a3⟩, _, _⟩ := HX.out.on (Below.refl _ _)
  have HRW : Hid (∀ w', Below W.heap.size W w' → Rows2 w' (· < w'.heap.size) A d.now ∧ Rows3 w' (· < w'.heap.size) B d.past) := fun w' hb => by
    have hb2 := HB.out.trans (hb.mono HB.out.size)
    exact ⟨(keepRows hb2 H1.out).lt hb2.size, (keepTabs hb2 H2.out).lt hb2.size⟩
  clear h h' hkk
  rcases hp : plainB a with _ | _
  · have hcn := can_unplain hd hp
    rw [hcn, aft_no hcn]
    rw [hp] at HP
    unfold ddV at HP ⊢
    clear hp hcn hd hd1 hd2
    go_enter Tryz.func14, Tryz.ntmps14
    go_wp2_with fail
    rw [← hW]
    clear hW
    refine HP.out.mono ?_
    rintro e w1 ⟨rfl, hb1⟩
    obtain ⟨k0, _, _, ⟨y0, y1⟩, ⟨f0, f1⟩⟩ := HX.out.on hb1
    have HK0 := Lib.hid k0
    clear k0 hb1 e0 e1 a0 a1 a2 a3
    go_wp2_with fail
    obtain ⟨r0, r1, _, _⟩ := box_put (.slice none 0 0) (.slice none 0 0) y0 y1
    exact bodyPost_ret (v := .tuple #[dskV none 0 0 none 0 0, .bool false]) (by simp [results, dskV, Tryz.results14, go_sem, r0, r1]) rfl (DeskRes.zero rfl (below_put HK0.out (by omega) _ _))
  · by_cases k4 : a.kind = 4
    · have hbk : backB a = true := by
        have := plainB_iff.1 hp
        unfold backB; rw [decide_eq_true_eq]; omega
      obtain ⟨hc1, hc2⟩ := can_back hd hbk
      rw [hc1, hc2]
      rw [hp] at HP
      have HBK := Lib.hid (fun w' h h' => back_impl A B c kk d hd HK.out w' h h')
      obtain ⟨D, hD⟩ : ∃ D, backD d = D := ⟨_, rfl⟩
      obtain ⟨cb, hcb⟩ : ∃ cb, decide (0 < d.past.length) = cb := ⟨_, rfl⟩
      rw [hD, hcb] at HBK ⊢
      unfold ddV at HP ⊢
      have hk4 : (a.kind == 4) = true := by rw [k4]; rfl
      clear hp hc1 hc2 hd hd1 hd2 hD hcb hbk k4
      go_enter Tryz.func14, Tryz.ntmps14
      go_wp2_with fail
      rw [← hW]
      clear hW
      refine HP.out.mono ?_
      rintro e w1 ⟨rfl, hb1⟩
      obtain ⟨k0, ⟨d0, d1⟩, ⟨b0, b1, b2, b3⟩, _, _⟩ := HX.out.on hb1
      have HB1 := Lib.hid hb1
      have HBC := Lib.hid (HBK.out w1 (HRW.out w1 hb1).1 (HRW.out w1 hb1).2)
      clear k0 hb1 e0 e1 a0 a1 a2 a3
      go_wp2_with fail
      refine HBC.out.mono ?_
      rintro e w2 ⟨TN, cN, TP, cP, AA, CC, TT, UU, rfl, hb2, ho2⟩
      have HB2 := Lib.hid (HB1.out.trans (hb2.mono HB1.out.size))
      have HO2 := Lib.hid ho2
      obtain ⟨k0, _, _, ⟨y0, y1⟩, ⟨f0, f1⟩⟩ := HX.out.on HB2.out
      have HK0 := Lib.hid k0
      have HS := Lib.hid HB1.out.size
      unfold dskV
      clear k0 hb2 ho2 d0 d1 b0 b1 b2 b3
      go_wp2_with fail
      obtain ⟨r0, r1, rz, rb⟩ := box_put (.slice TN D.now.length cN) (.slice TP D.past.length cP.val) y0 y1
      have hzz := HX.out.size
      have hss := HS.out
      obtain ⟨A', C', TT', CC', hO⟩ := desk_put (w := w) (R := w.heap.size + 1 + 1) (.slice TN D.now.length cN) (.slice TP D.past.length cP.val) ⟨_, _, _, _, HO2.out⟩ (by omega) (by omega) (Nat.le_refl _)
      refine bodyPost_ret (v := .tuple #[dskV TN D.now.length cN TP D.past.length cP.val, .bool cb]) (by simp [results, dskV, Tryz.results14, go_sem, r0, r1]) rfl ?_
      exact ⟨TN, cN, TP, cP, A', C', TT', CC', rfl, below_put HK0.out (by omega) _ _, hO⟩
    · have hnb : backB a = false := by unfold backB; rw [decide_eq_false_iff_not]; omega
      have hnb2 : ¬ (backB a = true ∧ 0 < d.past.length) := fun hh => by rw [hnb] at hh; cases hh.1
      have hk4 : (a.kind == 4) = false := by rw [beq_eq_false_iff_ne]; exact k4
      have HCH := Lib.hid (fun w' h => changed_impl A B c kk d a hd hp w' h)
      rw [hp] at HP
      obtain ⟨M, hM⟩ : ∃ M, madeT d.now a = M := ⟨_, rfl⟩
      rw [hM] at HCH hML
      have HCN : Hid (¬ (laidB M = true ∧ M ≠ d.now) → canB d a = false ∧ aftD d a = dkZero) := fun hh => by
        have q := (do_none hd hnb2 (by rw [hM]; exact hh)).2
        exact ⟨q, aft_no q⟩
      have HCY : Hid (laidB M = true ∧ M ≠ d.now → canB d a = true ∧ aftD d a = ⟨M, pushP d.past d.now⟩) := fun hh => by
        obtain ⟨q1, q2⟩ := do_made hd hnb2 (by rw [hM]; exact hh.1) (by rw [hM]; exact hh.2)
        rw [hM] at q1; exact ⟨q2, by rw [aft_yes q2, q1]⟩
      obtain ⟨cb, hcb⟩ : ∃ cb, canB d a = cb := ⟨_, rfl⟩
      obtain ⟨Z, hZ⟩ : ∃ Z, aftD d a = Z := ⟨_, rfl⟩
      rw [hcb, hZ] at HCN HCY
      rw [hcb, hZ]
      have HLP := Lib.hid (pastB_at.1 hd1)
      have HNL := Lib.hid hd2
      unfold ddV at HP HCH ⊢
      clear hp hd hd1 hd2 hM hnb hnb2 k4 hcb hZ
      go_enter Tryz.func14, Tryz.ntmps14
      go_wp2_with fail
      rw [← hW]
      clear hW
      refine HP.out.mono ?_
      rintro e w1 ⟨rfl, hb1⟩
      obtain ⟨k0, ⟨d0, d1⟩, ⟨b0, b1, b2, b3⟩, _, _⟩ := HX.out.on hb1
      have HB1 := Lib.hid hb1
      have HCC := Lib.hid (HCH.out w1 (HRW.out w1 hb1).1)
      clear k0 hb1 e0 e1 a0 a1 a2 a3
      go_wp2_with fail
      refine HCC.out.mono ?_
      rintro e w2 ⟨TM, cM, rfl, hb2, ho2⟩
      have HB2 := Lib.hid (HB1.out.trans (hb2.mono HB1.out.size))
      have HRM : Hid (∀ w', Below w2.heap.size w2 w' → Rows2 w' (· < w'.heap.size) TM M) := fun w' hb => (keepRows hb (ho2.rows2.mono fun b hb => hb.2)).lt hb.size
      have HL2 := Lib.hid (laid_impl TM cM M _ hML w2 (HRM.out w2 (Below.refl _ _)))
      obtain ⟨k0, ⟨p0, p1⟩, _, _, _⟩ := HX.out.on HB2.out
      clear k0 hb2 ho2 d0 d1 b0 b1 b2 b3 HCC HCH HP
      rcases hlb : laidB M with _ | _
      · have hcf := HCN.out (fun hh => by rw [hlb] at hh; cases hh.1)
        have HCF := Lib.hid hcf
        rw [hlb] at HL2
        obtain ⟨k0, _, _, ⟨y0, y1⟩, ⟨f0, f1⟩⟩ := HX.out.on HB2.out
        have HK0 := Lib.hid k0
        clear k0 hcf hlb
        go_wp2_with (go_at_call 22; refine HL2.out.mono ?_; rintro e w3 ⟨rfl, rfl⟩)
        obtain ⟨r0, r1, _, _⟩ := box_put (.slice none 0 0) (.slice none 0 0) y0 y1
        refine bodyPost_ret (v := .tuple #[dskV none 0 0 none 0 0, .bool false]) (by simp [results, dskV, Tryz.results14, go_sem, r0, r1]) rfl ?_
        rw [HCF.out.1, HCF.out.2]
        exact DeskRes.zero rfl (below_put HK0.out (by omega) _ _)
      · rw [hlb] at HL2
        have HEQ := Lib.hid (equalRows TM A cM c M d.now _ _ hML hnl w2 (HRM.out w2 (Below.refl _ _)) (HRW.out w2 HB2.out).1)
        rcases heq : decide (M = d.now) with _ | _
        · have hct := HCY.out ⟨hlb, of_decide_eq_false heq⟩
          have HCF := Lib.hid hct
          rw [heq] at HEQ
          have HLM := Lib.hid hlb
          clear hct heq hlb HCN HCY
          go_wp2_with (first | (go_at_call 22; refine HL2.out.mono ?_; rintro e w3 ⟨rfl, rfl⟩) | (go_at_call 32; refine HEQ.out.mono ?_; rintro e w3 ⟨rfl, n3, rfl⟩; have t0 : (w2.drewN n3).cell? ⟨w.heap.size, 0, none⟩ = some (.slice A d.now.length c) := p0; have t1 : (w2.drewN n3).cell? ⟨w.heap.size, 1, none⟩ = some (.slice B d.past.length kk) := p1))
          obtain ⟨w6, hw6⟩ : ∃ w6 : World, ((w2.drewN n3).alloc (.cells #[.slice A d.now.length c] 23)).alloc (.cells #[.slice B d.past.length kk, .slice (some ⟨w2.heap.size, 0, none⟩) 1 1] 24) = w6 := ⟨_, rfl⟩
          have hz6 : w6.heap.size = w2.heap.size + 1 + 1 := by rw [← hw6]; simp
          have hb6 : Below w2.heap.size w2 w6 := by rw [← hw6]; exact ((below_drewN (Below.refl _ _) n3).alloc (Nat.le_refl _) _).alloc (by simp) _
          have u0 : w6.cell? ⟨w2.heap.size + 1, 0, none⟩ = some (.slice B d.past.length kk) := by rw [← hw6]; simp [go_sem]
          have u1 : w6.cell? ⟨w2.heap.size + 1, 1, none⟩ = some (.slice (some ⟨w2.heap.size, 0, none⟩) 1 1) := by rw [← hw6]; simp [go_sem]
          have u2 : w6.cell? ⟨w2.heap.size, 0, none⟩ = some (.slice A d.now.length c) := by rw [← hw6]; exact (World.cell?_alloc_lt _ _ _ (by simp)).trans (new_one (w2.drewN n3) _ _)
          have HCA := Lib.hid (concat_past (w2.heap.size + 1) 2 A B c kk d.now d.past hd3 HK.out w2.heap.size w6 w2 (by omega) (by omega) hb6 u0 u1 u2 (HRW.out w2 HB2.out).1 (tabs_of (HRW.out w2 HB2.out).2))
          have HB6 := Lib.hid hb6
          rw [hw6]
          clear hw6 hz6 hb6 u0 u1 u2 p0 p1
          refine HCA.out.mono ?_
          rintro e w7 ⟨D, k7, rfl, hk1, hk2, hb7, hD7⟩
          have HB27 := Lib.hid (belT HB6.out hb7)
          have HDO := Lib.hid (deskOf_impl TM D cM k7 M (d.past ++ [d.now]) (laid_game HLM.out) (fun i hi => by
            rw [List.length_append, List.length_singleton] at hi
            by_cases e : i < d.past.length
            · rw [tabAt_snoc_lt _ _ _ e]; exact HLP.out i e
            · obtain rfl : i = d.past.length := by omega
              rw [tabAt_snoc_eq]; exact HNL.out) (by rw [List.length_append, List.length_singleton]; omega) hk1 hk2 w7 (HRM.out w7 HB27.out) hD7)
          rw [lastD_push M hd3, ← HCF.out.2, List.length_append, List.length_singleton] at HDO
          obtain ⟨k0, _, _, ⟨y0, y1⟩, ⟨f0, f1⟩⟩ := HX.out.on (HB2.out.trans (HB27.out.mono HB2.out.size))
          clear k0 hk1 hk2 hb7 hD7 HCA
          go_wp2_with fail
          refine HDO.out.mono ?_
          rintro e w8 ⟨TN, cN, TP, cP, rfl, hb8, ho8⟩
          have HB8 := Lib.hid (HB2.out.trans ((belT HB27.out hb8).mono HB2.out.size))
          have HO8 := Lib.hid ho8
          have HS7 := Lib.hid (And.intro HB27.out.size hb8.size)
          obtain ⟨k0, _, _, ⟨z0, z1⟩, ⟨g0, g1⟩⟩ := HX.out.on HB8.out
          have HK0 := Lib.hid k0
          clear k0 hb8 ho8 y0 y1 f0 f1
          go_wp2_with fail
          obtain ⟨r0, r1, rz, rb⟩ := box_put (.slice TN Z.now.length cN) (.slice TP Z.past.length cP.val) z0 z1
          have hzz := HX.out.size
          have hss := HS7.out
          have hs2 := HB2.out.size
          obtain ⟨A', C', TT', CC', hO⟩ := desk_put (w := w) (R := w.heap.size + 1 + 1) (.slice TN Z.now.length cN) (.slice TP Z.past.length cP.val) HO8.out (by omega) (by omega) (Nat.le_refl _)
          refine bodyPost_ret (v := .tuple #[dskV TN Z.now.length cN TP Z.past.length cP.val, .bool true]) (by simp [results, dskV, Tryz.results14, go_sem, r0, r1]) rfl ?_
          rw [HCF.out.1]
          exact ⟨TN, cN, TP, cP, A', C', TT', CC', rfl, below_put HK0.out (by omega) _ _, hO⟩
        · have hcf := HCN.out (fun hh => hh.2 (of_decide_eq_true heq))
          have HCF := Lib.hid hcf
          rw [heq] at HEQ
          obtain ⟨k0, _, _, ⟨y0, y1⟩, ⟨f0, f1⟩⟩ := HX.out.on HB2.out
          have HK0 := Lib.hid k0
          clear k0 hcf heq hlb HCN HCY
          go_wp2_with (first | (go_at_call 22; refine HL2.out.mono ?_; rintro e w3 ⟨rfl, rfl⟩) | (go_at_call 32; refine HEQ.out.mono ?_; rintro e w3 ⟨rfl, n3, rfl⟩; have t0 : (w2.drewN n3).cell? ⟨w.heap.size + 1 + 1, 0, none⟩ = some (.slice none 0 0) := y0; have t1 : (w2.drewN n3).cell? ⟨w.heap.size + 1 + 1, 1, none⟩ = some (.slice none 0 0) := y1; have t2 : (w2.drewN n3).frozen? ⟨w.heap.size + 1 + 1, 0, none⟩ = false := f0; have t3 : (w2.drewN n3).frozen? ⟨w.heap.size + 1 + 1, 1, none⟩ = false := f1))
          obtain ⟨r0, r1, _, _⟩ := box_put (.slice none 0 0) (.slice none 0 0) t0 t1
          refine bodyPost_ret (v := .tuple #[dskV none 0 0 none 0 0, .bool false]) (by simp [results, dskV, Tryz.results14, go_sem, r0, r1]) rfl ?_
          rw [HCF.out.1, HCF.out.2]
          exact DeskRes.zero rfl (below_put (below_drewN HK0.out n3) (by omega) _ _)
end Go.Proofs.YtlmaeadbomnhlaaGreat
