/- The walk of the law of LeastGap, over contracts of the program's functions. (Written by wip/gen/law11.py.) -/
import Derived.Test.YtakkdpjgdmngkaaLawIa
namespace Go.Proofs.Ytakkdpjgdmngkaa
set_option linter.unusedSimpArgs false
set_option linter.unusedVariables false
open Go.RowKit

/-- what the law asks of a least gap -/
structure LstL (g : List (List Int)) (q : Nat) : Prop where
  least : ∀ j, j ≤ q → lessB (gpU g j) (gpD g j) (gpU g (lstAt g q)) (gpD g (lstAt g q)) = false
  more : q + 1 ≤ 59 → lessB (gpU g (lstAt g q)) (gpD g (lstAt g q)) (gpU g (lstAt g (q + 1))) (gpD g (lstAt g (q + 1))) = false

theorem lst_law {g : List (List Int)} (h : gameB g = true) {q : Nat} (hq : q ≤ 59) : LstL g q :=
  ⟨fun j hj => lst_least h hq j hj, fun h1 => lst_more h h1⟩

set_option maxHeartbeats 4000000 in
set_option maxRecDepth 100000 in
theorem wFnLeastGap (I : Impl11) (a : Option Addr) (len cap : Nat) (zs : List Int) (w : World) (h : IsRow .u8 w a len cap zs) :
    Calls Try.prog 5 #[.slice a len cap] w fun e w' => e = .returned (.bool true) ∧ Below w.heap.size w w' := by
  have hle := byte_len h
  by_cases hbig : (1048576 : Int) < (len : Int)
  · go_enter Try.func5, Try.ntmps5
    go_wp2_with fail
    go_ret
    exact ⟨rfl, Below.refl _ _⟩
  go_enter Try.func5, Try.ntmps5
  go_wp2_with fail
  refine (dDrawLeastGap a len cap zs w h).mono ?_
  rintro e w1 ⟨g, T, c, s, rfl, hc1, hc2, hg17, hgr, hs1, hs2, hb1, ho1⟩
  clear hbig hle
  have BEL0 := Lib.hid hb1
  have R0 := Lib.hid ho1.lt
  have hl := small_max hg17
  have fs := wf_steps hs1 hs2
  clear hb1 ho1 hgr hc1 hc2
  go_wp2_with fail
  refine (I.least _ _ g s fs hl _ R0.out).mono ?_
  rintro e w2 ⟨rfl, hb2⟩
  replace R0 := Lib.hid (stillRows R0.out hb2)
  replace BEL0 := Lib.hid (belT BEL0.out hb2)
  clear hb2
  go_wp2_with fail
  obtain ⟨WFA, hWFA⟩ : ∃ WFA : World, WFA = w2.alloc (.cells #[.int .i64 (lstU g s), .int .i64 (lstD g s)] 34) := ⟨_, rfl⟩
  have hbWFA : Below w2.heap.size w2 WFA := by rw [hWFA]; exact (Below.refl _ _).alloc (Nat.le_refl _) _
  have FA : Hid (Box2 WFA w2.heap.size (lstU g s) (lstD g s)) := by show Box2 _ _ _ _; rw [hWFA]; exact Box2.new _ _ _
  rw [← hWFA]
  clear hWFA
  replace R0 := Lib.hid (stillRows R0.out hbWFA)
  replace BEL0 := Lib.hid (belT BEL0.out hbWFA)
  clear hbWFA
  go_wp2_with fail
  refine (least_spec _ _ g s hl _ R0.out).mono ?_
  rintro e w3 ⟨rfl, hb3⟩
  replace R0 := Lib.hid (stillRows R0.out hb3)
  replace FA := Lib.hid (FA.out.still hb3)
  replace BEL0 := Lib.hid (belT BEL0.out hb3)
  clear hb3
  have cFA0 := FA.out.c0
  have cFA1 := FA.out.c1
  have ltA := FA.out.lt
  rcases hb : lrnB g s with _ | _
  · skip
    have HU := Lib.hid (lst_no hb)
    rw [HU.out.1] at cFA0
    rw [HU.out.2.1] at cFA1
    rw [HU.out.1, HU.out.2.1, HU.out.2.2]
    clear hb
    go_wp2_with fail
    refine (alive _).mono ?_
    rintro e w9 ⟨rfl, hb9⟩
    have hb8 := Lib.hid (belT (w := w3) (by exact (by repeat (first | exact Below.refl _ _ | assumption | exact bel1 (by assumption) | exact bel2 (by assumption) | exact bel3 (by assumption) | exact bel4 (by assumption) | refine Below.drew ?_ | refine below_drewN ?_ _ | refine Below.setCell ?_ (by first | (simp; done) | (simp; omega)) _ | refine Below.alloc ?_ (by first | (simp; done) | (simp; omega)) _))) hb9)
    clear hb9
    go_wp2_with fail
    go_ret
    exact ⟨by first | rfl | (simp; done), belT BEL0.out hb8.out⟩
  have zU : (lstU g s != lstU g s) = false := by simp
  have zD : (lstD g s != lstD g s) = false := by simp
  have zN : (lstN g s != lstN g s) = false := by simp
  have hgb : gameB g = true := by unfold lrnB at hb; rw [Bool.and_eq_true] at hb; exact hb.1
  have hs60 : 1 ≤ s ∧ s ≤ 60 := by unfold lrnB at hb; rw [Bool.and_eq_true] at hb; have := hb.2; unfold inR at this; exact of_decide_eq_true this
  have HBB := Lib.hid hb
  clear hb
  go_wp2_with fail
  clear cFA0 cFA1
  clear ltA zU zD zN
  obtain ⟨q, rfl⟩ : ∃ q : Nat, s = (q : Int) + 1 := ⟨(s - 1).toNat, by omega⟩
  obtain ⟨y1, y2, y3⟩ := lst_yes HBB.out
  rw [show ((q : Int) + 1).toNat - 1 = q by omega] at y1 y2 y3
  have hq : q ≤ 59 := by omega
  obtain ⟨WFB, hWFB⟩ : ∃ WFB : World, WFB = w3.alloc (.cells #[.int .i64 (lstU g ((q : Int) + 1)), .int .i64 (lstD g ((q : Int) + 1))] 34) := ⟨_, rfl⟩
  have hbWFB : Below w3.heap.size w3 WFB := by rw [hWFB]; exact (Below.refl _ _).alloc (Nat.le_refl _) _
  have FB : Hid (Box2 WFB w3.heap.size (lstU g ((q : Int) + 1)) (lstD g ((q : Int) + 1))) := by show Box2 _ _ _ _; rw [hWFB]; exact Box2.new _ _ _
  rw [← hWFB]
  clear hWFB
  replace R0 := Lib.hid (stillRows R0.out hbWFB)
  replace FA := Lib.hid (FA.out.still hbWFB)
  replace BEL0 := Lib.hid (belT BEL0.out hbWFB)
  clear hbWFB
  clear FB
  rw [y1, y2] at FA
  rw [y3]
  have HL := Lib.hid (lst_law hgb hq)
  obtain ⟨m, hm⟩ : ∃ m, lstAt g q = m := ⟨_, rfl⟩
  have hmq : m ≤ q := by rw [← hm]; exact lstAt_le g q
  rw [hm] at FA
  rw [hm]
  have HM := Lib.hid hm
  have HG := Lib.hid hgb
  have HY := Lib.hid (And.intro y1 y2)
  have HQ := Lib.hid hq
  clear y1 y2 y3 HBB hm hgb hs60 hq hs1 hs2 fs
  go_loopw [11] (fun i wr => ∃ j : Nat, j ≤ q + 1 ∧ i = .int .i64 ((j : Int) + 1) ∧ Hid (Below WFB.heap.size WFB wr)) (fun i _ => q + 2 - (intOf i).toNat)
  case atStart => exact ⟨0, Nat.zero_le _, rfl, Below.refl _ _⟩
  case round =>
    obtain ⟨j, hj, rfl, HV⟩ := hrel
    by_cases hlt : j ≤ q
    · have hje : (j : Int) + 1 ≤ (q : Int) + 1 := by omega
      have hq := HQ.out
      have HGP : Hid (∀ w', Rows2 w' (· < w'.heap.size) T g → Calls Try.prog 22 #[.slice T g.length c, .int .i64 ((j : Int) + 1)] w' (Adds (.tuple #[.agg #[.int .i64 (gpU g j), .int .i64 (gpD g j)], .bool true]) w')) := fun w' h' => by
        have e : lrnB g ((j : Int) + 1) = true := by unfold lrnB inR; rw [HG.out, decide_eq_true (by omega)]; rfl
        have := I.gap T c g ((j : Int) + 1) (wf_steps (by omega) (by omega)) hl w' h'
        rw [(gap_yes e).1, (gap_yes e).2, e, show ((j : Int) + 1).toNat - 1 = j by omega] at this
        exact this
      have HLE : Hid (∀ w', Calls Try.prog 20 #[.agg #[.int .i64 (gpU g j), .int .i64 (gpD g j)], .agg #[.int .i64 (gpU g m), .int .i64 (gpD g m)]] w' fun e w'' => e = .returned (.bool false) ∧ Below w'.heap.size w' w'') := fun w' => by
        have h1 := HL.out.least j hlt
        rw [HM.out] at h1
        have := less_impl (gpU g j) (gpD g j) (gpU g m) (gpD g m) w'
        rwa [h1] at this
      have hwj : IntKind.i64.wrap ((j : Int) + 1 + 1) = (j : Int) + 1 + 1 := IntWalk.i64_in _ ⟨by omega, by omega⟩
      clear hq
      go_wp2_with fail
      refine (HGP.out _ (stillRows R0.out HV.out)).mono ?_
      rintro e w5 ⟨rfl, hb5⟩
      have FW5 := FA.out.still (belT HV.out hb5)
      have v0 := FW5.c0
      have v1 := FW5.c1
      have vl := FW5.lt
      go_wp2_with fail
      obtain ⟨W5, hW5⟩ : ∃ W5 : World, W5 = w5.alloc (.cells #[.int .i64 (gpU g j), .int .i64 (gpD g j)] 34) := ⟨_, rfl⟩
      have hb6 : Below w5.heap.size w5 W5 := by rw [hW5]; exact (Below.refl _ _).alloc (Nat.le_refl _) _
      have FH : Box2 W5 w5.heap.size (gpU g j) (gpD g j) := by rw [hW5]; exact Box2.new _ _ _
      rw [← hW5]
      clear hW5 v0 v1 vl FW5
      refine (HLE.out _).mono ?_
      rintro e w7 ⟨rfl, hb7⟩
      have HV7 := Lib.hid (belT (belT (belT HV.out hb5) hb6) hb7)
      have FW := FA.out.still HV7.out
      have FK := FH.still hb7
      have v0 := FW.c0
      have v1 := FW.c1
      have vl := FW.lt
      have u0 := FK.c0
      have u1 := FK.c1
      have ul := FK.lt
      clear hb5 hb6 hb7 FH FW FK HGP
      by_cases hjm : j = m
      · subst hjm
        have zk : ((j : Int) + 1 == (j : Int) + 1) = true := by simp
        have zU : (gpU g j != gpU g j) = false := by simp
        have zD : (gpD g j != gpD g j) = false := by simp
        go_wp2_with fail
        go_roundw
        case rel => exact ⟨j + 1, by omega, by go_num, HV7.out⟩
        case measure => simp [intOf]; omega
      · have zk : ((j : Int) + 1 == (m : Int) + 1) = false := by rw [beq_eq_false_iff_ne]; omega
        clear hjm
        go_wp2_with fail
        go_roundw
        case rel => exact ⟨j + 1, by omega, by go_num, HV7.out⟩
        case measure => simp [intOf]; omega
    · obtain rfl : j = q + 1 := by omega
      have hq := HQ.out
      have hje : ¬ ((q + 1 : Nat) : Int) + 1 ≤ (q : Int) + 1 := by omega
      have hws : IntKind.i64.wrap ((q : Int) + 1 + 1) = (q : Int) + 1 + 1 := IntWalk.i64_in _ ⟨by omega, by omega⟩
      have HLM := Lib.hid (fun w' h' => I.least T c g ((q : Int) + 1 + 1) (wf_steps (by omega) (by omega)) hl w' h')
      have hm1 : (1 : Int) ≤ (m : Int) + 1 := by omega
      have hm2 : (m : Int) + 1 ≤ (q : Int) + 1 := by omega
      have FW := FA.out.still HV.out
      by_cases h59 : q + 1 ≤ 59
      · have e : lrnB g ((q : Int) + 1 + 1) = true := by unfold lrnB inR; rw [HG.out, decide_eq_true (by omega)]; rfl
        obtain ⟨y1, y2, y3⟩ := lst_yes e
        rw [y1, y2, y3, e, show ((q : Int) + 1 + 1).toNat - 1 = q + 1 by omega] at HLM
        have hml := HL.out.more h59
        rw [HM.out] at hml
        obtain ⟨n, hn⟩ : ∃ n, lstAt g (q + 1) = n := ⟨_, rfl⟩
        rw [hn] at HLM hml
        have HLE : Hid (∀ w', Calls Try.prog 20 #[.agg #[.int .i64 (gpU g m), .int .i64 (gpD g m)], .agg #[.int .i64 (gpU g n), .int .i64 (gpD g n)]] w' fun e w'' => e = .returned (.bool false) ∧ Below w'.heap.size w' w'') := fun w' => by
          have := less_impl (gpU g m) (gpD g m) (gpU g n) (gpD g n) w'
          rwa [hml] at this
        clear y1 y2 y3 e hml hn hq h59
        go_wp2_with fail
        refine (HLM.out _ (stillRows R0.out HV.out)).mono ?_
        rintro e w5 ⟨rfl, hb5⟩
        have FW5 := FW.still hb5
        have v0 := FW5.c0
        have v1 := FW5.c1
        have vl := FW5.lt
        have HV5 := Lib.hid (belT HV.out hb5)
        clear FW FW5 hb5
        go_wp2_with fail
        refine (HLE.out _).mono ?_
        rintro e w7 ⟨rfl, hb7⟩
        have HV7 := Lib.hid (belT (w := w5) (by exact (by repeat (first | exact Below.refl _ _ | assumption | exact bel1 (by assumption) | exact bel2 (by assumption) | exact bel3 (by assumption) | exact bel4 (by assumption) | refine Below.drew ?_ | refine below_drewN ?_ _ | refine Below.setCell ?_ (by first | (simp; done) | (simp; omega)) _ | refine Below.alloc ?_ (by first | (simp; done) | (simp; omega)) _))) hb7)
        clear hb7
        go_wp2_with fail
        go_ret
        exact ⟨by simp, belT BEL0.out (belT HV5.out HV7.out)⟩
      · have e : lrnB g ((q : Int) + 1 + 1) = false := by unfold lrnB inR; rw [HG.out, decide_eq_false (by omega)]; rfl
        obtain ⟨y1, y2, y3⟩ := lst_no e
        rw [y1, y2, y3, e] at HLM
        clear y1 y2 y3 e hq h59
        go_wp2_with fail
        refine (HLM.out _ (stillRows R0.out HV.out)).mono ?_
        rintro e w5 ⟨rfl, hb5⟩
        have HV5 := Lib.hid (belT HV.out hb5)
        clear FW hb5
        go_wp2_with fail
        go_ret
        exact ⟨by simp, belT BEL0.out (HV5.out.alloc (by have := HV5.out.size; omega) _)⟩

end Go.Proofs.Ytakkdpjgdmngkaa
