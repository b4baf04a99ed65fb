/- The walks of the program's mixtures: SettledOk, BestRows, AverageOf. (Written by wip/gen/impl3b.py.) -/
import Derived.Test.YtjojilimdhekfaaImplA
import Derived.Test.YtjojilimdhekfaaMixU
namespace Go.Proofs.Ytjojilimdhekfaa
set_option linter.unusedSimpArgs false
set_option linter.unusedVariables false
open Go.RowKit

set_option maxHeartbeats 2000000 in
theorem set_impl (T A B : Option Addr) (c d e : Nat) (g : List (List Int)) (x y : List Int) (hl : g.length ≤ maxLen) (hx : x.length ≤ 4294967296) (hy : y.length ≤ 4294967296) (w : World) (h : Rows2 w (· < w.heap.size) T g) (h1 : Ints w (· < w.heap.size) A x) (h2 : Ints w (· < w.heap.size) B y) :
    Calls Try.prog 28 #[.slice T g.length c, .slice A x.length d, .slice B y.length e] w (Adds (.bool (setB g x y)) w) := by
  have HR := Lib.hid h
  have HX := Lib.hid h1
  have HY := Lib.hid h2
  have HS : Hid (setB g x y = (safB g x && risB g y && ((safU g x == risU g y) && (safD g x == risD g y)))) := rfl
  clear h h1 h2
  go_enter Try.func28, Try.ntmps28
  go_wp2_with fail
  refine (safe_impl _ _ _ _ g x hl hx _ HR.out HX.out).mono ?_
  rintro e w1 ⟨rfl, hb1⟩
  unfold FracRes
  generalize safU g x = a at HS ⊢
  generalize safD g x = b at HS ⊢
  generalize safB g x = o at HS ⊢
  go_wp2_with fail
  obtain ⟨W, hW⟩ : ∃ W : World, W = (w1.alloc (.cells #[(Value.int .i64 a), (Value.int .i64 b)] 28)) := ⟨_, rfl⟩
  have hzW : W.heap.size = w1.heap.size + 1 := by rw [hW]; simp
  have hbW : Below w1.heap.size w1 W := by rw [hW]; exact (by repeat (first | exact Below.refl _ _ | assumption | exact bel1 (by assumption) | exact bel2 (by assumption) | exact bel3 (by assumption) | exact bel4 (by assumption) | refine Below.drew ?_ | refine below_drewN ?_ _ | refine Below.setCell ?_ (by first | (simp; done) | (simp; omega)) _ | refine Below.alloc ?_ (by first | (simp; done) | (simp; omega)) _))
  have r00 := stays (p := w1.heap.size) (o := 0) (by omega) (show W.cell? ⟨w1.heap.size, 0, none⟩ = some ((Value.int .i64 a)) from by rw [hW]; simp [go_sem])
  have r01 := stays (p := w1.heap.size) (o := 1) (by omega) (show W.cell? ⟨w1.heap.size, 1, none⟩ = some ((Value.int .i64 b)) from by rw [hW]; simp [go_sem])
  rw [← hW]
  clear hW
  have HzW := Lib.hid hzW
  clear hzW
  have hk1 := belT hb1 hbW
  have RW := Lib.hid (keepRows hk1 HR.out)
  have YW := Lib.hid (keepInts hk1 HY.out)
  have hsw := hk1.size
  refine (risk_impl _ _ _ _ g y hl hy _ (RW.out.lt hsw) (YW.out.lt hsw)).mono ?_
  rintro e w2 ⟨rfl, hb2⟩
  unfold FracRes
  generalize risU g y = a' at HS ⊢
  generalize risD g y = b' at HS ⊢
  generalize risB g y = o' at HS ⊢
  have hk2 := belT hk1 hb2
  have hsz : w1.heap.size < w2.heap.size := by have := hb2.size; have := HzW.out; omega
  cases o with
  | false =>
    go_wp2_with fail
    go_ret
    exact Adds.of (by rw [HS.out]; rfl) (hk2.alloc hk2.size _)
  | true =>
    cases o' with
    | false =>
      go_wp2_with fail
      go_ret
      exact Adds.of (by rw [HS.out]; rfl) (hk2.alloc hk2.size _)
    | true =>
      go_wp2_with fail
      all_goals
        go_ret
        exact Adds.of (by rw [HS.out]; first | (simp; done) | (simp; omega)) (hk2.alloc hk2.size _)

theorem cell_one_at (w : World) (o : Obj) (x : Value) (t : TypeId) : ∀ j u, [x][j]? = some u → ((w.alloc o).alloc (.cells #[x] t)).cell? ((⟨w.heap.size + 1, 0, none⟩ : Addr).add j) = some u := by
  have h := cell_one_new (w.alloc o) x t
  have e : (w.alloc o).heap.size = w.heap.size + 1 := by simp
  rwa [e] at h

set_option maxHeartbeats 2000000 in
theorem best_impl (T A : Option Addr) (c d : Nat) (g : List (List Int)) (y : List Int) (hl : g.length ≤ maxLen) (hy : y.length ≤ 4294967296) (w : World) (h : Rows2 w (· < w.heap.size) T g) (h1 : Ints w (· < w.heap.size) A y) :
    Calls Try.prog 31 #[.slice T g.length c, .slice A y.length d] w (NewList w (bestL g y)) := by
  have HR := Lib.hid h
  have HY := Lib.hid h1
  clear h h1
  rcases hB : risB g y with _ | _
  · have H1 : Hid (bestL g y = []) := by simp [Hid, bestL, hB]
    have HB := Lib.hid hB
    clear hB
    go_enter Try.func31, Try.ntmps31
    go_wp2_with fail
    refine (columnsMixed _ _ _ _ g y _ _ hl hy _ HR.out HY.out).mono ?_
    rintro e w1 ⟨rfl, rfl⟩
    rw [HB.out]
    go_wp2_with fail
    go_ret
    rw [H1.out]
    exact NewList.of rfl (Grows.nil _ _) (Below.refl _ _)
  have HB := Lib.hid hB
  have hB2 := hB
  simp only [risB, Bool.and_eq_true] at hB2
  have hg := Game.of hB2.1
  have hx0 := Mix.of hB2.2
  obtain ⟨sb1, sb2⟩ := hx0.sum_bd
  rw [← hx0.len] at sb1 sb2
  have hg1 := hg.lo
  have hg2 := hg.hi
  have HM := Lib.hid hx0.self
  have HGL : Hid (Game g y.length) := by show Game _ _; rw [hx0.len]; exact hg
  have HV := Lib.hid (risk_at g y)
  have HLL := Lib.hid (rowsD_length g y)
  have HBD : Hid (∀ i, i < (rowsD g y).length → -14400000 ≤ nth (rowsD g y) i ∧ nth (rowsD g y) i ≤ 14400000) := fun i hi => by
    rw [rowsD_length] at hi
    rw [nth_rowsD _ _ i hi]; exact rowD_bd HGL.out HM.out i hi
  have H1 : Hid (bestL g y = bestUpTo g y g.length) := by simp [Hid, bestL, hB]
  have HE1 : Hid (lowU (riskN g y) (sumW y y.length) = risU g y) := by simp [Hid, risU, hB]
  have HE2 : Hid (lowD (riskN g y) (sumW y y.length) = risD g y) := by simp [Hid, risD, hB]
  have BI : Hid (∀ k, (lowU (rowD g y k) (sumW y y.length) = risU g y ∧ lowD (rowD g y k) (sumW y y.length) = risD g y) ↔ rowD g y k = riskN g y) := best_iff HB.out
  obtain ⟨i0, hi0, hz0, hz1, hz2⟩ := info_parts infoI
  have HI0 := Lib.hid hi0
  have HZ0 := Lib.hid hz0
  have HZ1 := Lib.hid hz1
  have HZ2 := Lib.hid hz2
  clear hB hB2 hg hx0 hi0 hz0 hz1 hz2
  go_enter Try.func31, Try.ntmps31
  go_wp2_with fail
  refine (columnsMixed _ _ _ _ g y _ _ hl hy _ HR.out HY.out).mono ?_
  rintro e w1 ⟨rfl, rfl⟩
  rw [HB.out]
  go_wp2_with fail
  refine (averagesOf _ _ _ _ g y HGL.out HM.out _ HR.out HY.out).mono ?_
  rintro e w2 ⟨bq, rfl, hb2, hlo, hr⟩
  have FR2 := Lib.hid hr
  have HB2 := Lib.hid hb2
  clear hr hb2
  rw [HLL.out]
  go_wp2_with fail
  have hF := bestOfF _ _ gtB (moreF sb1 sb2) bq g.length (rowsD g y) (by rw [HLL.out]; omega) (by rw [HLL.out]; omega) HBD.out _ FR2.out
  rw [HV.out, HE1.out, HE2.out, HLL.out] at hF
  refine hF.mono ?_
  clear hF
  rintro e w3 ⟨rfl, hb3⟩
  have FR3 : Hid (FracRow w3 bq (rowsD g y) (sumW y y.length)) := World.rowIs.of_block FR2.out (hb3.block bq (World.rowIs.lt FR2.out))
  have HB3 : Hid (Below w.heap.size w w3) := belT HB2.out hb3
  clear hb3 FR2 HB2
  generalize risU g y = a at BI HE1 ⊢
  generalize risD g y = b at BI HE2 ⊢
  clear HE1 HE2
  go_wp2_with fail
  obtain ⟨W, hW⟩ : ∃ W : World, W = (w3.alloc (.cells #[(Value.int .i64 a), (Value.int .i64 b)] 28)) := ⟨_, rfl⟩
  have hzW : W.heap.size = w3.heap.size + 1 := by rw [hW]; simp
  have hbW : Below w3.heap.size w3 W := by rw [hW]; exact (by repeat (first | exact Below.refl _ _ | assumption | exact bel1 (by assumption) | exact bel2 (by assumption) | exact bel3 (by assumption) | exact bel4 (by assumption) | refine Below.drew ?_ | refine below_drewN ?_ _ | refine Below.setCell ?_ (by first | (simp; done) | (simp; omega)) _ | refine Below.alloc ?_ (by first | (simp; done) | (simp; omega)) _))
  have r00 := stays (p := w3.heap.size) (o := 0) (by omega) (show W.cell? ⟨w3.heap.size, 0, none⟩ = some ((Value.int .i64 a)) from by rw [hW]; simp [go_sem])
  have r01 := stays (p := w3.heap.size) (o := 1) (by omega) (show W.cell? ⟨w3.heap.size, 1, none⟩ = some ((Value.int .i64 b)) from by rw [hW]; simp [go_sem])
  have hbq := World.rowIs.lt FR3.out
  have hwz : w3.heap.size < W.heap.size := by omega
  clear hzW
  have FRW : Hid (FracRow W bq (rowsD g y) (sumW y y.length)) := World.rowIs.of_block FR3.out (hbW.block bq hbq)
  have HkW : Hid (Below w.heap.size w W) := belT HB3.out hbW
  rw [← hW]
  clear hW
  have R0 := Lib.hid r00
  have R1 := Lib.hid r01
  clear hbW r00 r01
  go_loopw [8, 25] (fun v i wr => ∃ k : Nat, k ≤ g.length ∧ i = .int .i64 k ∧ Hid (Grows wr W.heap.size v (bestUpTo g y k)) ∧ Hid (Below W.heap.size W wr)) (fun _ i _ => g.length - (intOf i).toNat)
  case atStart => exact ⟨0, Nat.zero_le _, rfl, Grows.nil _ _, Below.refl _ _⟩
  case round =>
    obtain ⟨k, hk, rfl, HO, HV2⟩ := hrel
    have hlen := bestUpTo_len g y k
    have hws := HV2.out.size
    have e00 := R0.out _ HV2.out
    have e01 := R1.out _ HV2.out
    have hn1 : w3.heap.size < wr.heap.size := by omega
    have hn2 : bq < wr.heap.size := by omega
    by_cases hlt : k < g.length
    · have F : FracRow wr bq (rowsD g y) (sumW y y.length) := World.rowIs.of_block FRW.out (HV2.out.block bq (by omega))
      have cu := F.up (k := k) (by rw [HLL.out]; exact hlt)
      have cd := F.down (k := k) (by rw [HLL.out]; exact hlt)
      rw [nth_rowsD g y k hlt] at cu cd
      have BK := Lib.hid (BI.out k)
      have HVA : Hid (Below W.heap.size W (wr.alloc (.cells #[.int .i64 (lowU (rowD g y k) (sumW y y.length)), .int .i64 (lowD (rowD g y k) (sumW y y.length))] 28))) := HV2.out.alloc hws _
      have HOA : Hid (Grows (wr.alloc (.cells #[.int .i64 (lowU (rowD g y k) (sumW y y.length)), .int .i64 (lowD (rowD g y k) (sumW y y.length))] 28)) W.heap.size u8 (bestUpTo g y k)) := HO.out.alloc _
      clear F
      rcases e1 : lowU (rowD g y k) (sumW y y.length) == a with _ | _
      · have hno : Hid (bestUpTo g y (k + 1) = bestUpTo g y k) := by
          show bestUpTo g y (k + 1) = _
          have : ¬ rowD g y k = riskN g y := fun e => by have := (BK.out.2 e).1; rw [this] at e1; simp at e1
          simp [bestUpTo, this]
        go_wp2_with fail
        go_roundw
        case rel => exact ⟨k + 1, by omega, by go_num, by rw [hno.out]; exact HOA.out, HVA⟩
        case measure => simp [intOf]; omega
      · rcases e2 : lowD (rowD g y k) (sumW y y.length) == b with _ | _
        · have hno : Hid (bestUpTo g y (k + 1) = bestUpTo g y k) := by
            show bestUpTo g y (k + 1) = _
            have : ¬ rowD g y k = riskN g y := fun e => by have := (BK.out.2 e).2; rw [this] at e2; simp at e2
            simp [bestUpTo, this]
          go_wp2_with fail
          go_roundw
          case rel => exact ⟨k + 1, by omega, by go_num, by rw [hno.out]; exact HOA.out, HVA⟩
          case measure => simp [intOf]; omega
        · have hy : Hid (bestUpTo g y (k + 1) = bestUpTo g y k ++ [(k : Int)]) := by
            show bestUpTo g y (k + 1) = _
            have : rowD g y k = riskN g y := BK.out.1 ⟨by simpa using e1, by simpa using e2⟩
            simp [bestUpTo, this]
          go_wp2_with (at_builtin; refine wpList_append_own_at _ rfl (.tmp 33) (.tmp 35) _ rfl W.heap.size 3 i0 (.int .i64 0) 1 8 Try.underlying24 HI0.out HZ0.out HZ1.out HZ2.out rfl (by decide) _ _ _ rfl (HOA.out.alloc _) ⟨wr.heap.size + 1, 0, none⟩ 1 1 [.int .i64 (k : Int)] rfl rfl (cell_one_at _ _ _ _) ?c2 ?c3 ?c4 ?c5 ?_)
          case c2 => first | rfl | (intro u hu; simp at hu; subst hu; rfl)
          case c3 => unfold maxLen; omega
          case c4 => omega
          case c5 => first | omega | (simp; omega)
          intro v' w6 hown hgrow _ _
          have HN : Hid (Grows w6 W.heap.size v' (bestUpTo g y (k + 1))) := by rw [hy.out]; exact Grows.snoc hown
          have HV3 : Hid (Below W.heap.size W w6) := HOA.out.below hgrow HVA.out (Nat.le_refl _) (by simp; omega)
          clear hown hgrow
          go_wp2_with fail
          go_roundw
          case rel => exact ⟨k + 1, by omega, by go_num, HN, HV3⟩
          case measure => simp [intOf]; omega
    · obtain rfl : k = g.length := by omega
      have HN := HO.out
      rw [← H1.out] at HN
      have HO2 := Lib.hid HN
      have hle := HkW.out.size
      clear HN
      go_wp2_with fail
      go_ret
      obtain ⟨A, c, hv, _, ho⟩ := HO2.out.own
      exact ⟨A, c, by rw [← hv]; rfl, belT HkW.out HV2.out, ho.more hle (Nat.le_refl _)⟩

/-- the numbers of a row, out of two variables -/
theorem tells_num (w : World) (pg pr : Nat) (T : Option Addr) (c : Nat) (g : List (List Int)) (k n : Nat) (hk : k < g.length) (hn : n ≤ (rowAt g k).length) (hgl : g.length ≤ 16) (hpg : pg < w.heap.size) (hpr : pr < w.heap.size)
    (hcg : w.cell? ⟨pg, 0, none⟩ = some (.slice T g.length c)) (hcr : w.cell? ⟨pr, 0, none⟩ = some (.int .i64 (k : Nat))) (hR : Rows2 w (· < w.heap.size) T g) :
    Tells w 50 #[.pointer (some ⟨pg, 0, none⟩), .pointer (some ⟨pr, 0, none⟩)] n (nth (rowAt g k)) := by
  refine ⟨enters_of Try.func50 (by kernel_rfl) rfl, fun j hj w1 hb => ?_⟩
  show Calls Try.prog 50 #[.int .i64 (j : Nat), .pointer (some ⟨pg, 0, none⟩), .pointer (some ⟨pr, 0, none⟩)] w1 _
  have h1 := (hb.cell (p := ⟨pg, 0, none⟩) hpg).trans hcg
  have h2 := (hb.cell (p := ⟨pr, 0, none⟩) hpr).trans hcr
  have R := keepRows hb hR
  obtain ⟨bt, ot, rfl⟩ := R.some (by omega)
  have hjl : j < (rowAt g k).length := by omega
  obtain ⟨b', off', c', hc1, hle, hmx, _, hc2⟩ := R.cell hk hjl
  unfold maxLen at hmx
  clear R hR hcg hcr hb
  go_enter Try.func50, Try.ntmps50
  go_wp2
  go_ret
  exact Adds.of rfl (Below.refl _ _)

/-- what a row gets on average, times all weights: out of two variables -/
theorem tells_row (w : World) (pg py : Nat) (T B : Option Addr) (c d : Nat) (g : List (List Int)) (y : List Int) (n : Nat) (hn : n ≤ g.length) (hG : Game g y.length) (hM : Mix y y.length) (hpg : pg < w.heap.size) (hpy : py < w.heap.size)
    (hcg : w.cell? ⟨pg, 0, none⟩ = some (.slice T g.length c)) (hcy : w.cell? ⟨py, 0, none⟩ = some (.slice B y.length d)) (hR : Rows2 w (· < w.heap.size) T g) (hY : Ints w (· < w.heap.size) B y) :
    Tells w 49 #[.pointer (some ⟨py, 0, none⟩), .pointer (some ⟨pg, 0, none⟩)] n (rowD g y) := by
  refine ⟨enters_of Try.func49 (by kernel_rfl) rfl, fun k hkn w1 hb => ?_⟩
  show Calls Try.prog 49 #[.int .i64 (k : Nat), .pointer (some ⟨py, 0, none⟩), .pointer (some ⟨pg, 0, none⟩)] w1 _
  have hk : k < g.length := by omega
  have hm2 := hM.hi
  have hlen : (rowAt g k).length = y.length := hG.len k hk
  have h1 := (hb.cell (p := ⟨py, 0, none⟩) hpy).trans hcy
  have h2 := (hb.cell (p := ⟨pg, 0, none⟩) hpg).trans hcg
  have hs := hb.size
  have hp1 : py < w1.heap.size := by omega
  have hp2 : pg < w1.heap.size := by omega
  have HX0 : Below w1.heap.size w1 (w1.alloc (.cells #[.int .i64 (k : Nat)] 3)) := (Below.refl _ _).alloc (Nat.le_refl _) _
  have HBX : Below w.heap.size w (w1.alloc (.cells #[.int .i64 (k : Nat)] 3)) := belT hb HX0
  have HT := Lib.hid (tells_num (w1.alloc (.cells #[.int .i64 (k : Nat)] 3)) pg w1.heap.size T c g k y.length hk (Nat.le_of_eq hlen.symm) hG.hi (by simp; omega) (by simp)
    ((HX0.cell (p := ⟨pg, 0, none⟩) (show pg < _ by omega)).trans h2) (by simp [go_sem]) ((keepRows HBX hR).lt HBX.size))
  have HY2 := Lib.hid ((keepInts HBX hY).lt HBX.size)
  have HM := Lib.hid hM
  have HG := Lib.hid hG
  have HP := Lib.hid (dotW_part hG hM k hk)
  have HX := Lib.hid HX0
  have hmf : ∀ (fn : Fn) (first cap : Array Value) (w : World), (Instr.makeFunc fn first cap).run Try.prog w = .ok (.func fn first cap) w := fun _ _ _ _ => rfl
  clear hb HBX HX0 hR hY hM hG hcg hcy hlen
  go_enter Try.func49, Try.ntmps49
  go_wp2_with fail
  refine (weighted _ _ y _ _ (nth (rowAt g k)) (by omega) _ HY2.out HT.out (fun j hj => ?_) (fun j hj => ?_)).mono ?_
  · have h1 := HM.out.wlo j hj
    have h2 := HM.out.whi j hj
    have h3 := HG.out.nlo k hk j hj
    have h4 := HG.out.nhi k hk j hj
    have := prod_bd h1 h2 h3 h4 (by omega)
    omega
  · rw [← dotW_F]; have := HP.out j hj; omega
  rintro e w2 ⟨rfl, hb2⟩
  go_wp2_with fail
  go_ret
  exact Adds.of (by rw [← dotW_F]; rfl) (belT HX.out hb2)

end Go.Proofs.Ytjojilimdhekfaa
