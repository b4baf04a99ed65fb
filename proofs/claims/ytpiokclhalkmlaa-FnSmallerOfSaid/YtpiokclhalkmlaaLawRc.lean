/- The walk of the law of SmallerOf. (Written by wip/gen/law5.py.) -/
import Derived.Test.YtpiokclhalkmlaaLawY
import Derived.Test.YtpiokclhalkmlaaMO
namespace Go.Proofs.Ytpiokclhalkmlaa
set_option linter.unusedSimpArgs false
set_option linter.unusedVariables false
open Go.RowKit

/-- a cell and the bound of its block -/
def CellF (w : World) (b o : Nat) (v : Value) : Prop := w.cell? ⟨b, o, none⟩ = some v ∧ b < w.heap.size

theorem cell_of {w w' : World} {b o : Nat} {v : Value} (h : w'.cell? ⟨b, o, none⟩ = some v) (hb : b < w.heap.size) (hw : Below w.heap.size w w') : CellF w' b o v := ⟨h, Nat.lt_of_lt_of_le hb hw.size⟩

theorem CellF.still {w w' : World} {b o : Nat} {v : Value} (h : CellF w b o v) (hb : Below w.heap.size w w') : CellF w' b o v := ⟨(hb.cell (p := ⟨b, o, none⟩) h.2).trans h.1, Nat.lt_of_lt_of_le h.2 hb.size⟩

set_option maxHeartbeats 4000000 in
set_option maxRecDepth 100000 in
theorem wFnSmallerOf (a : Option Addr) (len cap : Nat) (zs : List Int) (w : World) (h : IsRow .u8 w a len cap zs) :
    Calls Try.prog 7 #[.slice a len cap] w fun e w' => e = .returned (.bool true) ∧ Below w.heap.size w w' := by
  have hle := byte_len h
  by_cases hbig : (1048576 : Int) < (len : Int)
  · go_enter Try.func7, Try.ntmps7
    go_wp2_with fail
    go_ret
    exact ⟨rfl, Below.refl _ _⟩
  go_enter Try.func7, Try.ntmps7
  go_wp2_with fail
  refine (dDrawSmallerOf a len cap zs w h).mono ?_
  rintro e w1 ⟨g, T, c, rfl, hc1, hc2, hg17, hgr, hb1, ho1⟩
  clear hbig hle
  have BEL0 := Lib.hid hb1
  have R0 := Lib.hid ho1.lt
  have hl := small_max hg17
  clear hb1 ho1 hgr hc1 hc2
  have hxl : (small g).length ≤ maxLen := small_max (by have := (small_len g).1; omega)
  go_wp2_with fail
  refine (small_impl T c g hl _ R0.out).mono ?_
  rintro e w2 ⟨TX0, cX0, rfl, hb2, ho2⟩
  have X0 := Lib.hid ho2.lt
  replace R0 := Lib.hid (stillRows R0.out hb2)
  replace BEL0 := Lib.hid (belT BEL0.out hb2)
  clear hb2 ho2
  go_wp2_with fail
  refine (small_spec T c g hl _ R0.out).mono ?_
  rintro e w3 ⟨TY0, cY0, rfl, hb3, ho3⟩
  have Y0 := Lib.hid ho3.lt
  replace R0 := Lib.hid (stillRows R0.out hb3)
  replace X0 := Lib.hid (stillRows X0.out hb3)
  replace BEL0 := Lib.hid (belT BEL0.out hb3)
  clear hb3 ho3
  go_wp2_with fail
  refine (sameRows _ _ _ _ (small g) _ _ hxl _ X0.out Y0.out).mono ?_
  rintro e w4 ⟨rfl, hq4⟩
  have hb4 : Below w3.heap.size w3 w4 := by obtain ⟨n, rfl⟩ := hq4; exact below_drewN (Below.refl _ _) n
  replace R0 := Lib.hid (stillRows R0.out hb4)
  replace X0 := Lib.hid (stillRows X0.out hb4)
  replace Y0 := Lib.hid (stillRows Y0.out hb4)
  replace BEL0 := Lib.hid (belT BEL0.out hb4)
  clear hq4 hb4
  clear Y0
  rcases hb : gameB g with _ | _
  · skip
    have HZ : Hid ((small g).length = 0) := by rw [small_no hb]; rfl
    have zz : (((small g).length : Int) == 0) = true := by rw [HZ.out]; rfl
    have HB := Lib.hid hb
    clear hb
    go_wp2_with fail
    refine (game_impl T c g _ hl _ R0.out).mono ?_
    rintro e wz ⟨rfl, rfl⟩
    rw [HB.out]
    go_wp2_with fail
    refine (alive _).mono ?_
    rintro e w9 ⟨rfl, hb9⟩
    have hb8 := Lib.hid (belT (w := w4) (by exact (by repeat (first | exact Below.refl _ _ | assumption | exact bel1 (by assumption) | exact bel2 (by assumption) | exact bel3 (by assumption) | exact bel4 (by assumption) | refine Below.drew ?_ | refine below_drewN ?_ _ | refine Below.setCell ?_ (by first | (simp; done) | (simp; omega)) _ | refine Below.alloc ?_ (by first | (simp; done) | (simp; omega)) _))) hb9)
    clear hb9
    go_wp2_with fail
    go_ret
    exact ⟨by first | rfl | (simp; done) | (simp; omega), belT BEL0.out hb8.out⟩
  have hgx := small_game hb
  have HGX := Lib.hid hgx
  have hgg := Game.of hgx
  have hg0 := Game.of hb
  have hxlo := hgg.lo
  have hxhi := hgg.hi
  have hxm := hgg.mlo
  have hxmh := hgg.mhi
  have hglo := hg0.lo
  have hgm := hg0.mlo
  have hgmh := hg0.mhi
  have zz : (((small g).length : Int) == 0) = false := by rw [beq_eq_false_iff_ne]; omega
  have HONE : Hid (g.length ≤ 1 ∨ (rowAt g 0).length ≤ 1 → (small g).length = 1 ∧ (rowAt (small g) 0).length = 1) := small_one hb
  have HSOL : Hid (solB g = true → solB (small g) = true ∧ solU (small g) = solU g ∧ solD (small g) = solD g) := small_sol
  have HRW : Hid (∀ (i j : Nat), i < (small g).length → j < (small g).length → Calls Try.prog 14 #[.slice TX0 (small g).length cX0, .int .i64 (i : Int), .int .i64 (j : Int)] w4 (Same (.bool false) w4)) := fun i j hi hj => by
    have := worseRow_impl TX0 cX0 (small g) (i : Int) (j : Int) _ hxl w4 X0.out
    rwa [small_rows hb i j hi hj] at this
  have HCW : Hid (∀ (i j : Nat) (w' : World), i < (rowAt (small g) 0).length → j < (rowAt (small g) 0).length → Below w4.heap.size w4 w' → Calls Try.prog 19 #[.slice TX0 (small g).length cX0, .int .i64 (i : Int), .int .i64 (j : Int)] w' (Adds (.bool false) w')) := fun i j w' hi hj hb' => by
    have := worseCol_impl TX0 cX0 (small g) (i : Int) (j : Int) hxl w' (stillRows X0.out hb')
    rwa [small_cols hb i j hi hj] at this
  obtain ⟨bx, ox, hTX⟩ := X0.out.some (by omega)
  subst hTX
  obtain ⟨hSx, AX, cx, hcx, hlx, hmx, _⟩ := X0.out.row (i := 0) (by omega)
  rw [Nat.add_zero] at hcx
  have hSxr : bx < w4.heap.size := hSx
  obtain ⟨bt, ot, hTT⟩ := R0.out.some (by omega)
  subst hTT
  obtain ⟨hSt, A0, ct, hct, hlt0, hmt, _⟩ := R0.out.row (i := 0) (by omega)
  rw [Nat.add_zero] at hct
  have hStr : bt < w4.heap.size := hSt
  unfold maxLen at hmx hmt
  have HCX : Hid (∀ w' : World, Below w4.heap.size w4 w' → w'.cell? ⟨bx, ox, none⟩ = some (.slice AX (rowAt (small g) 0).length cx)) := fun w' hb' => (hb'.cell (p := ⟨bx, ox, none⟩) hSx).trans hcx
  have HCT : Hid (∀ w' : World, Below w4.heap.size w4 w' → w'.cell? ⟨bt, ot, none⟩ = some (.slice A0 (rowAt g 0).length ct)) := fun w' hb' => (hb'.cell (p := ⟨bt, ot, none⟩) hSt).trans hct
  clear hb hgx hgg hg0 hcx hct
  go_wp2_with fail
  go_loopw [5] (fun i wr => ∃ k : Nat, k ≤ (small g).length ∧ i = .int .i64 k ∧ w4 = wr) (fun i _ => (small g).length - (intOf i).toNat)
  case atStart => exact ⟨0, Nat.zero_le _, rfl, rfl⟩
  case round =>
    obtain ⟨k, hk, rfl, rfl⟩ := hrel
    by_cases hlt : k < (small g).length
    · go_wp2_with fail
      go_loopw [6] (fun i wr => ∃ m : Nat, m ≤ (small g).length ∧ i = .int .i64 m ∧ w4 = wr) (fun i _ => (small g).length - (intOf i).toNat)
      case atStart => exact ⟨0, Nat.zero_le _, rfl, rfl⟩
      case round =>
        obtain ⟨m, hm, rfl, rfl⟩ := hrel
        by_cases hlm : m < (small g).length
        · go_wp2_with fail
          refine (HRW.out k m hlt hlm).mono ?_
          rintro e w5 ⟨rfl, rfl⟩
          go_wp2_with fail
          go_roundw
          case rel => exact ⟨m + 1, by omega, by go_num, trivial⟩
          case measure => simp [intOf]; omega
        · obtain rfl : m = (small g).length := by omega
          go_wp2_with fail
          go_roundw
          case rel => exact ⟨k + 1, by omega, by go_num, trivial⟩
          case measure => simp [intOf]; omega
    · obtain rfl : k = (small g).length := by omega
      go_wp2_with fail
      go_loopw [7] (fun i wr => ∃ k : Nat, k ≤ (rowAt (small g) 0).length ∧ i = .int .i64 k ∧ Hid (Below w4.heap.size w4 wr)) (fun i _ => (rowAt (small g) 0).length - (intOf i).toNat)
      case atStart => exact ⟨0, Nat.zero_le _, rfl, Below.refl _ _⟩
      case round =>
        obtain ⟨k, hk, rfl, HV⟩ := hrel
        have hc0 := HCX.out _ HV.out
        by_cases hlt : k < (rowAt (small g) 0).length
        · go_wp2_with fail
          clear hc0
          go_loopw [8] (fun i wr => ∃ m : Nat, m ≤ (rowAt (small g) 0).length ∧ i = .int .i64 m ∧ Hid (Below w4.heap.size w4 wr)) (fun i _ => (rowAt (small g) 0).length - (intOf i).toNat)
          case atStart => exact ⟨0, Nat.zero_le _, rfl, HV⟩
          case round =>
            obtain ⟨m, hm, rfl, HV⟩ := hrel
            have hc0 := HCX.out _ HV.out
            by_cases hlm : m < (rowAt (small g) 0).length
            · go_wp2_with fail
              refine (HCW.out k m _ hlt hlm HV.out).mono ?_
              rintro e w5 ⟨rfl, hb5⟩
              have HV2 := Lib.hid (belT HV.out hb5)
              clear hb5
              go_wp2_with fail
              go_roundw
              case rel => exact ⟨m + 1, by omega, by go_num, HV2⟩
              case measure => simp [intOf]; omega
            · obtain rfl : m = (rowAt (small g) 0).length := by omega
              go_wp2_with fail
              go_roundw
              case rel => exact ⟨k + 1, by omega, by go_num, HV⟩
              case measure => simp [intOf]; omega
        · obtain rfl : k = (rowAt (small g) 0).length := by omega
          have hbV := HV.out
          clear HV HRW HCW
          replace R0 := Lib.hid (stillRows R0.out hbV)
          replace X0 := Lib.hid (stillRows X0.out hbV)
          replace BEL0 := Lib.hid (belT BEL0.out hbV)
          have CX := Lib.hid (cell_of (HCX.out _ hbV) hSxr hbV)
          have CT := Lib.hid (cell_of (HCT.out _ hbV) hStr hbV)
          clear hbV HCX HCT
          rcases hs : solB g with _ | _
          · skip
            have HS1 := Lib.hid hs
            clear hs HSOL
            go_wp2_with fail
            refine (worth_impl _ _ g hl _ R0.out).mono ?_
            rintro e w11 ⟨rfl, hb11⟩
            replace R0 := Lib.hid (stillRows R0.out hb11)
            replace X0 := Lib.hid (stillRows X0.out hb11)
            replace CX := Lib.hid (CX.out.still hb11)
            replace CT := Lib.hid (CT.out.still hb11)
            replace BEL0 := Lib.hid (belT BEL0.out hb11)
            clear hb11
            clear hc0
            try unfold FracRes
            rw [HS1.out]
            go_wp2_with fail
            obtain ⟨WFA, hWFA⟩ : ∃ WFA : World, WFA = w11.alloc (.cells #[.int .i64 (solU g), .int .i64 (solD g)] 38) := ⟨_, rfl⟩
            have hbWFA : Below w11.heap.size w11 WFA := by rw [hWFA]; exact (Below.refl _ _).alloc (Nat.le_refl _) _
            have FA : Hid (Box2 WFA w11.heap.size (solU g) (solD g)) := by show Box2 _ _ _ _; rw [hWFA]; exact Box2.new _ _ _
            rw [← hWFA]
            clear hWFA
            replace R0 := Lib.hid (stillRows R0.out hbWFA)
            replace X0 := Lib.hid (stillRows X0.out hbWFA)
            replace CX := Lib.hid (CX.out.still hbWFA)
            replace CT := Lib.hid (CT.out.still hbWFA)
            replace BEL0 := Lib.hid (belT BEL0.out hbWFA)
            clear hbWFA
            go_wp2_with fail
            refine (worth_impl _ _ (small g) hxl _ X0.out).mono ?_
            rintro e w12 ⟨rfl, hb12⟩
            replace R0 := Lib.hid (stillRows R0.out hb12)
            replace X0 := Lib.hid (stillRows X0.out hb12)
            replace CX := Lib.hid (CX.out.still hb12)
            replace CT := Lib.hid (CT.out.still hb12)
            replace FA := Lib.hid (FA.out.still hb12)
            replace BEL0 := Lib.hid (belT BEL0.out hb12)
            clear hb12
            try unfold FracRes
            have cFA0 := FA.out.c0
            have cFA1 := FA.out.c1
            have lFA := FA.out.lt
            go_wp2_with fail
            obtain ⟨WFB, hWFB⟩ : ∃ WFB : World, WFB = w12.alloc (.cells #[.int .i64 (solU (small g)), .int .i64 (solD (small g))] 38) := ⟨_, rfl⟩
            have hbWFB : Below w12.heap.size w12 WFB := by rw [hWFB]; exact (Below.refl _ _).alloc (Nat.le_refl _) _
            have FB : Hid (Box2 WFB w12.heap.size (solU (small g)) (solD (small g))) := by show Box2 _ _ _ _; rw [hWFB]; exact Box2.new _ _ _
            rw [← hWFB]
            clear hWFB
            replace R0 := Lib.hid (stillRows R0.out hbWFB)
            replace X0 := Lib.hid (stillRows X0.out hbWFB)
            replace CX := Lib.hid (CX.out.still hbWFB)
            replace CT := Lib.hid (CT.out.still hbWFB)
            replace FA := Lib.hid (FA.out.still hbWFB)
            replace BEL0 := Lib.hid (belT BEL0.out hbWFB)
            clear hbWFB
            clear cFA0 cFA1
            clear lFA
            refine (game_impl _ _ (small g) _ hxl _ X0.out).mono ?_
            rintro e wz ⟨rfl, rfl⟩
            rw [HGX.out]
            have cFA0 := FA.out.c0
            have cFA1 := FA.out.c1
            have cFB0 := FB.out.c0
            have cFB1 := FB.out.c1
            have hcx := CX.out.1
            have hct := CT.out.1
            have hn3 : (1 < g.length ∧ 1 < (rowAt g 0).length) ∨ (1 < g.length ∧ (rowAt g 0).length ≤ 1) ∨ g.length ≤ 1 := by omega
            rcases hn3 with ⟨n1, n2⟩ | ⟨n1, n2⟩ | n1
            · skip
              go_wp2_with fail
              go_ret
              exact ⟨by first | rfl | (simp; done), BEL0.out⟩
            · skip
              obtain ⟨o1, o2⟩ := HONE.out (by omega)
              have z1 : (((small g).length : Int) == 1) = true := by rw [o1]; rfl
              have z2 : (((rowAt (small g) 0).length : Int) == 1) = true := by rw [o2]; rfl
              clear o1 o2
              go_wp2_with fail
              go_ret
              exact ⟨by first | rfl | (simp; done), BEL0.out⟩
            · skip
              obtain ⟨o1, o2⟩ := HONE.out (by omega)
              have z1 : (((small g).length : Int) == 1) = true := by rw [o1]; rfl
              have z2 : (((rowAt (small g) 0).length : Int) == 1) = true := by rw [o2]; rfl
              clear o1 o2
              go_wp2_with fail
              go_ret
              exact ⟨by first | rfl | (simp; done), BEL0.out⟩
          · skip
            obtain ⟨e1, e2, e3⟩ := HSOL.out hs
            have HS1 := Lib.hid hs
            have HX1 := Lib.hid e1
            have HE : Hid (solU (small g) = solU g ∧ solD (small g) = solD g) := ⟨e2, e3⟩
            clear hs e1 e2 e3 HSOL
            go_wp2_with fail
            refine (worth_impl _ _ g hl _ R0.out).mono ?_
            rintro e w11 ⟨rfl, hb11⟩
            replace R0 := Lib.hid (stillRows R0.out hb11)
            replace X0 := Lib.hid (stillRows X0.out hb11)
            replace CX := Lib.hid (CX.out.still hb11)
            replace CT := Lib.hid (CT.out.still hb11)
            replace BEL0 := Lib.hid (belT BEL0.out hb11)
            clear hb11
            clear hc0
            try unfold FracRes
            rw [HS1.out]
            go_wp2_with fail
            obtain ⟨WFA, hWFA⟩ : ∃ WFA : World, WFA = w11.alloc (.cells #[.int .i64 (solU g), .int .i64 (solD g)] 38) := ⟨_, rfl⟩
            have hbWFA : Below w11.heap.size w11 WFA := by rw [hWFA]; exact (Below.refl _ _).alloc (Nat.le_refl _) _
            have FA : Hid (Box2 WFA w11.heap.size (solU g) (solD g)) := by show Box2 _ _ _ _; rw [hWFA]; exact Box2.new _ _ _
            rw [← hWFA]
            clear hWFA
            replace R0 := Lib.hid (stillRows R0.out hbWFA)
            replace X0 := Lib.hid (stillRows X0.out hbWFA)
            replace CX := Lib.hid (CX.out.still hbWFA)
            replace CT := Lib.hid (CT.out.still hbWFA)
            replace BEL0 := Lib.hid (belT BEL0.out hbWFA)
            clear hbWFA
            go_wp2_with fail
            refine (worth_impl _ _ (small g) hxl _ X0.out).mono ?_
            rintro e w12 ⟨rfl, hb12⟩
            replace R0 := Lib.hid (stillRows R0.out hb12)
            replace X0 := Lib.hid (stillRows X0.out hb12)
            replace CX := Lib.hid (CX.out.still hb12)
            replace CT := Lib.hid (CT.out.still hb12)
            replace FA := Lib.hid (FA.out.still hb12)
            replace BEL0 := Lib.hid (belT BEL0.out hb12)
            clear hb12
            try unfold FracRes
            rw [HX1.out, HE.out.1, HE.out.2]
            have cFA0 := FA.out.c0
            have cFA1 := FA.out.c1
            have lFA := FA.out.lt
            go_wp2_with fail
            obtain ⟨WFB, hWFB⟩ : ∃ WFB : World, WFB = w12.alloc (.cells #[.int .i64 (solU g), .int .i64 (solD g)] 38) := ⟨_, rfl⟩
            have hbWFB : Below w12.heap.size w12 WFB := by rw [hWFB]; exact (Below.refl _ _).alloc (Nat.le_refl _) _
            have FB : Hid (Box2 WFB w12.heap.size (solU g) (solD g)) := by show Box2 _ _ _ _; rw [hWFB]; exact Box2.new _ _ _
            rw [← hWFB]
            clear hWFB
            replace R0 := Lib.hid (stillRows R0.out hbWFB)
            replace X0 := Lib.hid (stillRows X0.out hbWFB)
            replace CX := Lib.hid (CX.out.still hbWFB)
            replace CT := Lib.hid (CT.out.still hbWFB)
            replace FA := Lib.hid (FA.out.still hbWFB)
            replace BEL0 := Lib.hid (belT BEL0.out hbWFB)
            clear hbWFB
            clear cFA0 cFA1
            clear lFA
            refine (game_impl _ _ (small g) _ hxl _ X0.out).mono ?_
            rintro e wz ⟨rfl, rfl⟩
            rw [HGX.out]
            have cFA0 := FA.out.c0
            have cFA1 := FA.out.c1
            have cFB0 := FB.out.c0
            have cFB1 := FB.out.c1
            have hcx := CX.out.1
            have hct := CT.out.1
            have hn3 : (1 < g.length ∧ 1 < (rowAt g 0).length) ∨ (1 < g.length ∧ (rowAt g 0).length ≤ 1) ∨ g.length ≤ 1 := by omega
            rcases hn3 with ⟨n1, n2⟩ | ⟨n1, n2⟩ | n1
            · skip
              go_wp2_with fail
              go_ret
              exact ⟨by first | rfl | (simp; done), BEL0.out⟩
            · skip
              obtain ⟨o1, o2⟩ := HONE.out (by omega)
              have z1 : (((small g).length : Int) == 1) = true := by rw [o1]; rfl
              have z2 : (((rowAt (small g) 0).length : Int) == 1) = true := by rw [o2]; rfl
              clear o1 o2
              go_wp2_with fail
              go_ret
              exact ⟨by first | rfl | (simp; done), BEL0.out⟩
            · skip
              obtain ⟨o1, o2⟩ := HONE.out (by omega)
              have z1 : (((small g).length : Int) == 1) = true := by rw [o1]; rfl
              have z2 : (((rowAt (small g) 0).length : Int) == 1) = true := by rw [o2]; rfl
              clear o1 o2
              go_wp2_with fail
              go_ret
              exact ⟨by first | rfl | (simp; done), BEL0.out⟩

end Go.Proofs.Ytpiokclhalkmlaa
