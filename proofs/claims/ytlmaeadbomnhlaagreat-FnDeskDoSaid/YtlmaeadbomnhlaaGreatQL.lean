/- Texts in one: DeskIj, Impl12D. -/
import Derived.Test.YtlmaeadbomnhlaaGreatQH
import Derived.Test.YtlmaeadbomnhlaaGreatQK
import Derived.Test.YtlmaeadbomnhlaaGreatExactJf
namespace Go.Proofs.YtlmaeadbomnhlaaGreat
set_option linter.unusedSimpArgs false
set_option linter.unusedVariables false
open Go.RowKit
theorem after_own (A B : Option Addr) (c kk : Nat) (d : Dk) (a : Dd) (hd : dkB d = true) (hkk : d.past.length ≤ kk ∧ kk ≤ maxLen) (w : World) (h : Rows2 w (· < w.heap.size) A d.now) (h' : Rows3 w (· < w.heap.size) B d.past) :
    Calls Tryz.prog 14 #[.agg #[.slice A d.now.length c, .slice B d.past.length kk], .agg #[.int .i64 a.kind, .int .i64 a.row, .int .i64 a.col, .int .i64 a.num]] w fun e w' => ∃ (TN : Option Addr) (cN : Nat) (TP : Option Addr) (cP : CapN (aftD d a).past.length), e = .returned (.tuple #[.agg #[.slice TN (aftD d a).now.length cN, .slice TP (aftD d a).past.length cP], .bool (canB d a)]) ∧ Below w.heap.size w w' ∧ DeskOwn w' w.heap.size w'.heap.size TN TP (aftD d a) := by
  refine (after_impl A B c kk d a hd hkk w h h').mono ?_
  rintro e w' ⟨TN, cN, TP, cP, AA, CC, TT, UU, rfl, hb, ho⟩
  exact ⟨TN, cN, TP, cP, rfl, hb, _, _, _, _, ho⟩
theorem copyI_own (A B : Option Addr) (c kk : Nat) (d : Dk) (hd : dkB d = true) (hkk : d.past.length ≤ kk ∧ kk ≤ maxLen) (w : World) (h : Rows2 w (· < w.heap.size) A d.now) (h' : Rows3 w (· < w.heap.size) B d.past) :
    Calls Tryz.prog 15 #[.slice A d.now.length c, .slice B d.past.length kk] w fun e w' => ∃ (TN : Option Addr) (cN : Nat) (TP : Option Addr) (cP : CapN d.past.length), e = .returned (.agg #[.slice TN d.now.length cN, .slice TP d.past.length cP]) ∧ Below w.heap.size w w' ∧ DeskOwn w' w.heap.size w'.heap.size TN TP d :=
  deskOf_desk A B c kk d hd hkk w h h'
set_option maxHeartbeats 8000000 in
set_option maxRecDepth 100000 in
theorem deskDo_impl (A B : Option Addr) (c kk : Nat) (d : Dk) (a : Dd) (hx : d.now.length ≤ maxLen) (hy : d.past.length ≤ maxLen) (hkk : d.past.length ≤ kk ∧ kk ≤ maxLen) (w : World) (h : Rows2 w (· < w.heap.size) A d.now) (h' : Rows3 w (· < w.heap.size) B d.past) :
    Calls Tryz.prog 5 #[dskV A d.now.length c B d.past.length kk, ddV a] w (DeskRes w (doD d a) (.bool (canB d a))) := by
  obtain ⟨W, hW⟩ : ∃ W, W = ((w.alloc (.cells #[.slice A d.now.length c, .slice B d.past.length kk] 26)).alloc (.cells #[.int .i64 a.kind, .int .i64 a.row, .int .i64 a.col, .int .i64 a.num] 28)).alloc (.cells #[.slice none 0 0, .slice none 0 0] 26) := ⟨_, rfl⟩
  have HX : Hid (DoBox w W (.slice A d.now.length c) (.slice B d.past.length kk) a) := by show DoBox _ _ _ _ _; rw [hW]; exact DoBox.new w _ _ a
  have HB := Lib.hid HX.out.bel
  have HRW : Hid (∀ w', Below W.heap.size W w' → Rows2 w' (· < w'.heap.size) A d.now ∧ Rows3 w' (· < w'.heap.size) B d.past) := fun w' hb => by
    have hb2 := HB.out.trans (hb.mono HB.out.size)
    exact ⟨(keepRows hb2 h).lt hb2.size, (keepTabs hb2 h').lt hb2.size⟩
  have HOK := Lib.hid (deskOk_impl A B c kk d hx hy W (HRW.out W (Below.refl _ _)).1 (HRW.out W (Below.refl _ _)).2)
  have HK := Lib.hid hkk
  have HW := Lib.hid hW.symm
  obtain ⟨_, ⟨e0, e1⟩, ⟨a0, a1, a2, a3⟩, _, _⟩ := HX.out.on (Below.refl _ _)
  clear h h' hkk hW hx hy
  unfold dskV at HOK ⊢
  unfold ddV
  rcases hd : dkB d with _ | _
  · rw [(do_no hd a).1, (do_no hd a).2]
    rw [hd] at HOK
    clear hd
    go_enter Tryz.func5, Tryz.ntmps5
    go_wp2_with fail
    rw [HW.out]
    refine HOK.out.mono ?_
    rintro e w1 ⟨rfl, hb1⟩
    obtain ⟨k0, _, _, ⟨y0, y1⟩, ⟨f0, f1⟩⟩ := HX.out.on hb1
    have HK0 := Lib.hid k0
    clear k0 hb1 e0 e1 a0 a1 a2 a3
    go_wp2_with fail
    obtain ⟨r0, r1, _, _⟩ := box_put (.slice none 0 0) (.slice none 0 0) y0 y1
    exact bodyPost_ret (v := .tuple #[dskV none 0 0 none 0 0, .bool false]) (by simp [results, dskV, Tryz.results5, go_sem, r0, r1]) rfl (DeskRes.zero rfl (below_put HK0.out (by omega) _ _))
  · rw [hd] at HOK
    have HAF : Hid (∀ w', Below W.heap.size W w' → _) := fun w' hb => after_own A B c kk d a hd HK.out w' (HRW.out w' hb).1 (HRW.out w' hb).2
    have HCO : Hid (∀ w', Below W.heap.size W w' → _) := fun w' hb => copyI_own A B c kk d hd HK.out w' (HRW.out w' hb).1 (HRW.out w' hb).2
    have HY : Hid (canB d a = true → doD d a = aftD d a) := fun h => (aft_yes h).symm
    have HN : Hid (canB d a = false → doD d a = d) := fun h => do_stay hd h
    obtain ⟨dn, hdn⟩ : ∃ dn, aftD d a = dn := ⟨_, rfl⟩
    obtain ⟨cb, hcb⟩ : ∃ cb, canB d a = cb := ⟨_, rfl⟩
    obtain ⟨Z, hZ⟩ : ∃ Z, doD d a = Z := ⟨_, rfl⟩
    rw [hdn, hcb] at HAF
    rw [hdn, hcb, hZ] at HY
    rw [hcb, hZ] at HN
    rw [hcb, hZ]
    clear hd hdn hcb hZ
    go_enter Tryz.func5, Tryz.ntmps5
    go_wp2_with fail
    rw [HW.out]
    refine HOK.out.mono ?_
    rintro e w1 ⟨rfl, hb1⟩
    have HB1 := Lib.hid hb1
    obtain ⟨_, ⟨d0, d1⟩, ⟨b0, b1, b2, b3⟩, _, _⟩ := HX.out.on hb1
    have HDO := Lib.hid (HAF.out w1 hb1)
    clear hb1 e0 e1 a0 a1 a2 a3
    go_wp2_with fail
    refine HDO.out.mono ?_
    rintro e w2 ⟨TN5, cN5, TP5, cP5, rfl, hb2, ho2⟩
    have HB2 := Lib.hid (HB1.out.trans (hb2.mono HB1.out.size))
    have HO2 := Lib.hid ho2
    have HS1 := Lib.hid HB1.out.size
    obtain ⟨k0, ⟨q0, q1⟩, _, ⟨y0, y1⟩, ⟨f0, f1⟩⟩ := HX.out.on HB2.out
    have HK0 := Lib.hid k0
    have hxs := HX.out.size
    have hs2 := HB2.out.size
    have q0' : ∀ o, (w2.alloc o).cell? ⟨w.heap.size, 0, none⟩ = some (.slice A d.now.length c) := fun o => (World.cell?_alloc_lt _ _ _ (by show w.heap.size < _; omega)).trans q0
    have q1' : ∀ o, (w2.alloc o).cell? ⟨w.heap.size, 1, none⟩ = some (.slice B d.past.length kk) := fun o => (World.cell?_alloc_lt _ _ _ (by show w.heap.size < _; omega)).trans q1
    have hal : ∀ o, Below W.heap.size W (w2.alloc o) := fun o => HB2.out.alloc hs2 o
    have y0' : ∀ o, (w2.alloc o).cell? ⟨w.heap.size + 1 + 1, 0, none⟩ = some (.slice none 0 0) := fun o => (HX.out.on (hal o)).2.2.2.1.1
    have y1' : ∀ o, (w2.alloc o).cell? ⟨w.heap.size + 1 + 1, 1, none⟩ = some (.slice none 0 0) := fun o => (HX.out.on (hal o)).2.2.2.1.2
    have f0' : ∀ o, (w2.alloc o).frozen? ⟨w.heap.size + 1 + 1, 0, none⟩ = false := fun o => (HX.out.on (hal o)).2.2.2.2.1
    have f1' : ∀ o, (w2.alloc o).frozen? ⟨w.heap.size + 1 + 1, 1, none⟩ = false := fun o => (HX.out.on (hal o)).2.2.2.2.2
    clear k0 hb2 ho2 d0 d1 b0 b1 b2 b3 hxs hs2 hal
    rcases hcb : cb with _ | _
    · have HZ : Hid (Z = d) := HN.out hcb
      have HV := Lib.hid hcb
      clear hcb
      go_wp2_with fail
      obtain ⟨w3, hw3⟩ : ∃ w3, w2.alloc (.cells #[.slice TN5 dn.now.length cN5, .slice TP5 dn.past.length cP5.val] 26) = w3 := ⟨_, rfl⟩
      have hb3 : Below W.heap.size W w3 := by rw [← hw3]; exact HB2.out.alloc HB2.out.size _
      have HC := Lib.hid (HCO.out w3 hb3)
      have HBX := Lib.hid hb3
      rw [hw3]
      clear hw3 hb3
      refine HC.out.mono ?_
      rintro e w8 ⟨TN, cN, TP, cP, rfl, hb8, ho8⟩
      have HB8 := Lib.hid (HBX.out.trans (hb8.mono HBX.out.size))
      have HO8 := Lib.hid ho8
      have HS7 := Lib.hid hb8.size
      obtain ⟨k0, _, _, ⟨z0, z1⟩, ⟨g0, g1⟩⟩ := HX.out.on HB8.out
      have HK1 := Lib.hid k0
      clear k0 hb8 ho8 y0 y1 f0 f1 q0 q1 q0' q1' y0' y1' f0' f1'
      go_wp2_with fail
      obtain ⟨r0, r1, rz, rb⟩ := box_put (.slice TN d.now.length cN) (.slice TP d.past.length cP.val) z0 z1
      have hzz := HX.out.size
      have hss := HS7.out
      have hs2 := HBX.out.size
      obtain ⟨A', C', TT', CC', hO⟩ := desk_put (w := w) (R := w.heap.size + 1 + 1) (.slice TN d.now.length cN) (.slice TP d.past.length cP.val) HO8.out (by omega) (by omega) (Nat.le_refl _)
      rw [HZ.out]
      refine bodyPost_ret (v := .tuple #[dskV TN d.now.length cN TP d.past.length cP.val, .bool false]) (by simp [results, dskV, Tryz.results5, go_sem, r0, r1]) rfl ?_
      rw [HV.out]
      exact ⟨TN, cN, TP, cP, A', C', TT', CC', rfl, below_put HK1.out (by omega) _ _, hO⟩
    · have HZ : Hid (Z = dn) := HY.out hcb
      have HV := Lib.hid hcb
      clear hcb
      go_wp2_with fail
      obtain ⟨w3, hw3⟩ : ∃ w3, w2.alloc (.cells #[.slice TN5 dn.now.length cN5, .slice TP5 dn.past.length cP5.val] 26) = w3 := ⟨_, rfl⟩
      have hb3 : Below W.heap.size W w3 := by rw [← hw3]; exact HB2.out.alloc HB2.out.size _
      obtain ⟨k0, _, _, ⟨z0, z1⟩, ⟨g0, g1⟩⟩ := HX.out.on hb3
      obtain ⟨r0, r1, rz, rb⟩ := box_put (.slice TN5 dn.now.length cN5) (.slice TP5 dn.past.length cP5.val) z0 z1
      have hzz := HX.out.size
      have hs1 := HS1.out
      have hz3 : w3.heap.size = w2.heap.size + 1 := by rw [← hw3]; simp
      have ho3 : ∃ A C TT CC, OwnDk w3 w1.heap.size w2.heap.size TN5 TP5 dn A C TT CC := HO2.out.keep (fun b _ h2 => by rw [← hw3]; exact Below.heap_alloc _ _ _ h2)
      obtain ⟨A', C', TT', CC', hO⟩ := desk_put (w := w) (R := w.heap.size + 1 + 1) (.slice TN5 dn.now.length cN5) (.slice TP5 dn.past.length cP5.val) ho3 (by omega) (by omega) (by omega)
      rw [HZ.out, hw3]
      refine bodyPost_ret (v := .tuple #[dskV TN5 dn.now.length cN5 TP5 dn.past.length cP5.val, .bool true]) (by simp [results, dskV, Tryz.results5, go_sem, r0, r1]) rfl ?_
      rw [HV.out]
      exact ⟨TN5, cN5, TP5, cP5, A', C', TT', CC', rfl, below_put k0 (by omega) _ _, hO⟩
end Go.Proofs.YtlmaeadbomnhlaaGreat

namespace Go.Proofs.YtlmaeadbomnhlaaGreat
set_option linter.unusedSimpArgs false
set_option linter.unusedVariables false
open Go.RowKit
theorem impl12D : Impl12D where
  do_ := fun A B c k d a hx hy hk w h h' => deskDo_impl A B c k d a hx hy hk w h h'
end Go.Proofs.YtlmaeadbomnhlaaGreat
