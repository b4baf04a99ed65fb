/- The walk of the law of DeskOk, over the contract of the program's DeskOk. -/
import Derived.Test.YtlkjpmdnhccdpaaDrawDd
import Derived.Test.YtlkjpmdnhccdpaaQE
import Derived.Test.YtlkjpmdnhccdpaaQF
namespace Go.Proofs.Ytlkjpmdnhccdpaa
set_option linter.unusedSimpArgs false
set_option linter.unusedVariables false
open Go.RowKit

/-- what the law of DeskOk asks of the program's DeskOk -/
structure Impl12O : Prop where
  ok : ∀ (A B : Option Addr) (c k : Nat) (d : Dk) (_ : d.now.length ≤ maxLen) (_ : d.past.length ≤ maxLen) (w : World) (_ : Rows2 w (fun b => b < w.heap.size) A d.now) (_ : Rows3 w (fun b => b < w.heap.size) B d.past), Calls Try.prog 15 #[dskV A d.now.length c B d.past.length k] w (Adds (.bool (dkB d)) w)

theorem dk_front {d : Dk} (h : dkB d = true) : dkB ⟨d.now, []⟩ = true := dkB_iff.2 ⟨rfl, (dkB_iff.1 h).2.1, Nat.zero_le _⟩

set_option maxHeartbeats 4000000 in
set_option maxRecDepth 100000 in
theorem wFnDeskOk (I : Impl12O) (a : Option Addr) (len cap : Nat) (zs : List Int) (w : World) (h : IsRow .u8 w a len cap zs) :
    Calls Try.prog 5 #[.slice a len cap] w fun e w' => e = .returned (.bool true) ∧ Below w.heap.size w w' := by
  have hle := byte_len h
  by_cases hbig : (1048576 : Int) < (len : Int)
  · go_enter Try.func5, Try.ntmps5
    go_wp2_with fail
    go_ret
    exact ⟨rfl, Below.refl _ _⟩
  go_enter Try.func5, Try.ntmps5
  go_wp2_with fail
  refine (dDrawDeskOk a len cap zs w h).mono ?_
  rintro e w1 ⟨d, TN, cN, TP, cP, rfl, B1, hn, hp, s1, s2⟩
  obtain ⟨W, hW⟩ : ∃ W : World, w1.alloc (.cells #[.slice TN d.now.length cN, .slice TP d.past.length cP.val] 26) = W := ⟨_, rfl⟩
  have hbW : Below w1.heap.size w1 W := by rw [← hW]; exact (Below.refl _ _).alloc (Nat.le_refl _) _
  have hzW : w1.heap.size < W.heap.size := by rw [← hW]; simp
  have q0 := stays (W := W) (p := w1.heap.size) (o := 0) hzW (show W.cell? ⟨w1.heap.size, 0, none⟩ = some (.slice TN d.now.length cN) from by rw [← hW]; simp [go_sem])
  have q1 := stays (W := W) (p := w1.heap.size) (o := 1) hzW (show W.cell? ⟨w1.heap.size, 1, none⟩ = some (.slice TP d.past.length cP.val) from by rw [← hW]; simp [go_sem])
  have HR : Hid (∀ w', Below W.heap.size W w' → Rows2 w' (· < w'.heap.size) TN d.now ∧ Rows3 w' (· < w'.heap.size) TP d.past) := fun w' hb => stillDk (stillDk ⟨s1, s2⟩ hbW) hb
  have hx : d.now.length ≤ maxLen := by unfold maxLen; omega
  have hy : d.past.length ≤ maxLen := by unfold maxLen; omega
  have HOK : Hid (∀ w', Below W.heap.size W w' → Calls Try.prog 15 #[.agg #[.slice TN d.now.length cN, .slice TP d.past.length cP.val]] w' (Adds (.bool (dkB d)) w')) := fun w' hb => I.ok TN TP cN cP.val d hx hy w' (HR.out w' hb).1 (HR.out w' hb).2
  have HSP : Hid (∀ w', Below W.heap.size W w' → Calls Try.prog 12 #[.agg #[.slice TN d.now.length cN, .slice TP d.past.length cP.val]] w' (Adds (.bool (dkB d)) w')) := fun w' hb => deskOk_spec TN TP cN cP.val d hx hy w' (HR.out w' hb).1 (HR.out w' hb).2
  have HFR : Hid (∀ w', Below W.heap.size W w' → Calls Try.prog 15 #[.agg #[.slice TN d.now.length cN, .slice none 0 0]] w' (Adds (.bool (dkB ⟨d.now, []⟩)) w')) := fun w' hb => I.ok TN none cN 0 ⟨d.now, []⟩ hx (by show 0 ≤ _; omega) w' (HR.out w' hb).1 (fun h0 => absurd h0 (by simp))
  have HZR : Hid (∀ w', Calls Try.prog 15 #[.agg #[.slice none 0 0, .slice none 0 0]] w' (Adds (.bool false) w')) := fun w' => I.ok none none 0 0 dkZero (by show 0 ≤ _; omega) (by show 0 ≤ _; omega) w' (fun h0 => absurd h0 (by simp [dkZero])) (fun h0 => absurd h0 (by simp [dkZero]))
  have HBW := Lib.hid (B1.trans (hbW.mono B1.size))
  have HBS := Lib.hid (Nat.le_trans B1.size hbW.size)
  have HW := Lib.hid hW
  have HF : Hid (dkB d = true → dkB ⟨d.now, []⟩ = true) := fun h => dk_front h
  obtain ⟨ob, hob⟩ : ∃ ob, dkB d = ob := ⟨_, rfl⟩
  rw [hob] at HOK HSP HF
  unfold dskV
  clear hbig hle B1 hbW hzW hW s1 s2 hob
  rcases hb0 : ob with _ | _
  · rw [hb0] at HOK HSP
    clear hb0
    go_wp2_with fail
    try rw [HW.out]
    have c0 := q0 W (Below.refl _ _)
    have c1 := q1 W (Below.refl _ _)
    go_wp2_with fail
    refine (HOK.out W (Below.refl _ _)).mono ?_
    rintro e w3 ⟨rfl, hb3⟩
    have d0 := q0 _ hb3
    have d1 := q1 _ hb3
    have HB3 := Lib.hid hb3
    clear c0 c1 hb3
    go_wp2_with fail
    refine (HSP.out w3 HB3.out).mono ?_
    rintro e w4 ⟨rfl, hb4⟩
    have HB4 := Lib.hid (belT HB3.out hb4)
    clear d0 d1 hb4
    go_wp2_with fail
    refine (HZR.out _).mono ?_
    rintro e w5 ⟨rfl, hb5⟩
    have HB5 := Lib.hid (belT HB4.out hb5)
    clear hb5
    go_wp2_with fail
    refine (alive _).mono ?_
    rintro e w6 ⟨rfl, hb6⟩
    have HB6 := Lib.hid (belT HB5.out hb6)
    clear hb6
    go_wp2_with fail
    go_ret
    exact ⟨rfl, HBW.out.trans (HB6.out.mono HBS.out)⟩
  · rw [hb0] at HOK HSP
    have hfr := HF.out hb0
    rw [hfr] at HFR
    clear hb0 hfr
    go_wp2_with fail
    try rw [HW.out]
    have c0 := q0 W (Below.refl _ _)
    have c1 := q1 W (Below.refl _ _)
    go_wp2_with fail
    refine (HOK.out W (Below.refl _ _)).mono ?_
    rintro e w3 ⟨rfl, hb3⟩
    have d0 := q0 _ hb3
    have d1 := q1 _ hb3
    have HB3 := Lib.hid hb3
    clear c0 c1 hb3
    go_wp2_with fail
    refine (HSP.out w3 HB3.out).mono ?_
    rintro e w4 ⟨rfl, hb4⟩
    have HB4 := Lib.hid (belT HB3.out hb4)
    have d0 := q0 _ HB4.out
    have d1 := q1 _ HB4.out
    clear hb4
    go_wp2_with fail
    refine (HFR.out w4 HB4.out).mono ?_
    rintro e w4' ⟨rfl, hb4'⟩
    have HB4' := Lib.hid (belT HB4.out hb4')
    clear d0 d1 hb4'
    go_wp2_with fail
    refine (HZR.out _).mono ?_
    rintro e w5 ⟨rfl, hb5⟩
    have HB5 := Lib.hid (belT HB4'.out hb5)
    clear hb5
    go_wp2_with fail
    refine (alive _).mono ?_
    rintro e w6 ⟨rfl, hb6⟩
    have HB6 := Lib.hid (belT HB5.out hb6)
    clear hb6
    go_wp2_with fail
    go_ret
    exact ⟨rfl, HBW.out.trans (HB6.out.mono HBS.out)⟩

end Go.Proofs.Ytlkjpmdnhccdpaa
