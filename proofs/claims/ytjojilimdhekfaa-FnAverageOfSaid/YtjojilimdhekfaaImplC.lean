/- The walks of the program's averages. (Written by wip/gen/impl3b.py.) -/
import Derived.Test.YtjojilimdhekfaaImplB
namespace Go.Proofs.Ytjojilimdhekfaa
set_option linter.unusedSimpArgs false
set_option linter.unusedVariables false
open Go.RowKit

theorem ov_ok {a b : Int} (hb : 0 < b) : ovB a b = okB (lowU a b) (lowD a b) := by
  have p := lowD_pos a b (by omega)
  have g := low_gcd a b (by omega)
  rw [Bool.eq_iff_iff, okB_iff]
  simp only [ovB, inR, Bool.and_eq_true, decide_eq_true_eq]
  constructor
  · rintro ⟨⟨h1, h2⟩, h3, h4⟩; exact ⟨h1, h2, p, h4, g⟩
  · rintro ⟨h1, h2, h3, h4, _⟩; exact ⟨⟨h1, h2⟩, by omega, h4⟩

set_option maxHeartbeats 1000000 in
set_option maxRecDepth 100000 in
theorem avg_no1 (T A B : Option Addr) (c d e : Nat) (g : List (List Int)) (x y : List Int) (hl : g.length ≤ maxLen) (hx : x.length ≤ 4294967296) (hy : y.length ≤ 4294967296) (hS : safB g x = false) (w : World) (h : Rows2 w (· < w.heap.size) T g) (h1 : Ints w (· < w.heap.size) A x) (h2 : Ints w (· < w.heap.size) B y) :
    Calls Try.prog 14 #[.slice T g.length c, .slice A x.length d, .slice B y.length e] w (Adds (FracRes 0 0 false) w) := by
  have HS := Lib.hid hS
  clear hS
  have HR := Lib.hid h
  have HX := Lib.hid h1
  have HY := Lib.hid h2
  clear h h1 h2
  go_enter Try.func14, Try.ntmps14
  go_wp2_with fail
  obtain ⟨W, hW⟩ : ∃ W : World, W = (((w.alloc (.cells #[(Value.slice T g.length c)] 23)).alloc (.cells #[(Value.slice B y.length e)] 24)).alloc (.cells #[(Value.int .i64 0), (Value.int .i64 0)] 28)) := ⟨_, rfl⟩
  have hzW : W.heap.size = w.heap.size + 3 := by rw [hW]; simp
  have hbW : Below w.heap.size w W := by rw [hW]; exact (by repeat (first | exact Below.refl _ _ | assumption | exact bel1 (by assumption) | exact bel2 (by assumption) | exact bel3 (by assumption) | exact bel4 (by assumption) | refine Below.drew ?_ | refine below_drewN ?_ _ | refine Below.setCell ?_ (by first | (simp; done) | (simp; omega)) _ | refine Below.alloc ?_ (by first | (simp; done) | (simp; omega)) _))
  have r00 := staysB (w := w) (p := w.heap.size + 2) (b := w.heap.size) (o := 0) (by omega) (by omega) (show W.cell? ⟨w.heap.size, 0, none⟩ = some ((Value.slice T g.length c)) from by rw [hW]; simp [go_sem])
  have r10 := staysB (w := w) (p := w.heap.size + 2) (b := w.heap.size + 1) (o := 0) (by omega) (by omega) (show W.cell? ⟨w.heap.size + 1, 0, none⟩ = some ((Value.slice B y.length e)) from by rw [hW]; simp [go_sem])
  have cp0 : ∀ w1, Boxed w W (w.heap.size + 2) w1 → w1.cell? ⟨w.heap.size + 2, 0, none⟩ = some (held w1 (w.heap.size + 2) 0) := fun _ h => h.cell (by omega)
  have gp0 : ∀ w1, Boxed w W (w.heap.size + 2) w1 → w1.frozen? ⟨w.heap.size + 2, 0, none⟩ = false := fun _ h => h.frozen 0
  have cp1 : ∀ w1, Boxed w W (w.heap.size + 2) w1 → w1.cell? ⟨w.heap.size + 2, 1, none⟩ = some (held w1 (w.heap.size + 2) 1) := fun _ h => h.cell (by omega)
  have gp1 : ∀ w1, Boxed w W (w.heap.size + 2) w1 → w1.frozen? ⟨w.heap.size + 2, 1, none⟩ = false := fun _ h => h.frozen 1
  have B0 : Boxed w W (w.heap.size + 2) W := ⟨hbW, Nat.le_refl _, fun _ _ _ => rfl, fun _ => .int .i64 0, by
    have hs : ((w.alloc (.cells #[(Value.slice T g.length c)] 23)).alloc (.cells #[(Value.slice B y.length e)] 24)).heap.size = w.heap.size + 2 := by simp
    rw [hW, ← hs]; exact World.rowIs_alloc _ #[.int .i64 0, .int .i64 0] _ _ (fun i hi => by have : i = 0 ∨ i = 1 := (by simp at hi; omega); rcases this with rfl | rfl <;> rfl)⟩
  rw [← hW]
  clear hW
  have e0 := r00 _ B0
  have e1 := r10 _ B0
  have c0 := cp0 _ B0
  have c1 := cp1 _ B0
  have f0 := gp0 _ B0
  have f1 := gp1 _ B0
  refine (rowsMixed _ _ _ _ g x _ _ hl hx _ (keepRows hbW HR.out) (keepInts hbW HX.out)).mono ?_
  rintro e w1 ⟨rfl, rfl⟩
  rw [HS.out]
  clear cp0 cp1 gp0 gp1 r00 r10
  go_wp2_with fail
  refine bodyPost_ret (v := .tuple #[.agg #[.int .i64 0, .int .i64 0], .bool false]) (by simp [results, Try.results14, go_sem, c0, c1]) rfl ⟨rfl, ?_⟩
  exact (B0.bel.setCell (by show _ ≤ w.heap.size + 1 + 1; omega) _).setCell (by show _ ≤ w.heap.size + 1 + 1; omega) _

set_option maxHeartbeats 1000000 in
set_option maxRecDepth 100000 in
theorem avg_no2 (T A B : Option Addr) (c d e : Nat) (g : List (List Int)) (x y : List Int) (hl : g.length ≤ maxLen) (hx : x.length ≤ 4294967296) (hy : y.length ≤ 4294967296) (hS : safB g x = true) (hQ : risB g y = false) (w : World) (h : Rows2 w (· < w.heap.size) T g) (h1 : Ints w (· < w.heap.size) A x) (h2 : Ints w (· < w.heap.size) B y) :
    Calls Try.prog 14 #[.slice T g.length c, .slice A x.length d, .slice B y.length e] w (Adds (FracRes 0 0 false) w) := by
  have HS := Lib.hid hS
  clear hS
  have HQ := Lib.hid hQ
  clear hQ
  have HR := Lib.hid h
  have HX := Lib.hid h1
  have HY := Lib.hid h2
  clear h h1 h2
  go_enter Try.func14, Try.ntmps14
  go_wp2_with fail
  obtain ⟨W, hW⟩ : ∃ W : World, W = (((w.alloc (.cells #[(Value.slice T g.length c)] 23)).alloc (.cells #[(Value.slice B y.length e)] 24)).alloc (.cells #[(Value.int .i64 0), (Value.int .i64 0)] 28)) := ⟨_, rfl⟩
  have hzW : W.heap.size = w.heap.size + 3 := by rw [hW]; simp
  have hbW : Below w.heap.size w W := by rw [hW]; exact (by repeat (first | exact Below.refl _ _ | assumption | exact bel1 (by assumption) | exact bel2 (by assumption) | exact bel3 (by assumption) | exact bel4 (by assumption) | refine Below.drew ?_ | refine below_drewN ?_ _ | refine Below.setCell ?_ (by first | (simp; done) | (simp; omega)) _ | refine Below.alloc ?_ (by first | (simp; done) | (simp; omega)) _))
  have r00 := staysB (w := w) (p := w.heap.size + 2) (b := w.heap.size) (o := 0) (by omega) (by omega) (show W.cell? ⟨w.heap.size, 0, none⟩ = some ((Value.slice T g.length c)) from by rw [hW]; simp [go_sem])
  have r10 := staysB (w := w) (p := w.heap.size + 2) (b := w.heap.size + 1) (o := 0) (by omega) (by omega) (show W.cell? ⟨w.heap.size + 1, 0, none⟩ = some ((Value.slice B y.length e)) from by rw [hW]; simp [go_sem])
  have cp0 : ∀ w1, Boxed w W (w.heap.size + 2) w1 → w1.cell? ⟨w.heap.size + 2, 0, none⟩ = some (held w1 (w.heap.size + 2) 0) := fun _ h => h.cell (by omega)
  have gp0 : ∀ w1, Boxed w W (w.heap.size + 2) w1 → w1.frozen? ⟨w.heap.size + 2, 0, none⟩ = false := fun _ h => h.frozen 0
  have cp1 : ∀ w1, Boxed w W (w.heap.size + 2) w1 → w1.cell? ⟨w.heap.size + 2, 1, none⟩ = some (held w1 (w.heap.size + 2) 1) := fun _ h => h.cell (by omega)
  have gp1 : ∀ w1, Boxed w W (w.heap.size + 2) w1 → w1.frozen? ⟨w.heap.size + 2, 1, none⟩ = false := fun _ h => h.frozen 1
  have B0 : Boxed w W (w.heap.size + 2) W := ⟨hbW, Nat.le_refl _, fun _ _ _ => rfl, fun _ => .int .i64 0, by
    have hs : ((w.alloc (.cells #[(Value.slice T g.length c)] 23)).alloc (.cells #[(Value.slice B y.length e)] 24)).heap.size = w.heap.size + 2 := by simp
    rw [hW, ← hs]; exact World.rowIs_alloc _ #[.int .i64 0, .int .i64 0] _ _ (fun i hi => by have : i = 0 ∨ i = 1 := (by simp at hi; omega); rcases this with rfl | rfl <;> rfl)⟩
  rw [← hW]
  clear hW
  have e0 := r00 _ B0
  have e1 := r10 _ B0
  have c0 := cp0 _ B0
  have c1 := cp1 _ B0
  have f0 := gp0 _ B0
  have f1 := gp1 _ B0
  refine (rowsMixed _ _ _ _ g x _ _ hl hx _ (keepRows hbW HR.out) (keepInts hbW HX.out)).mono ?_
  rintro e w1 ⟨rfl, rfl⟩
  rw [HS.out]
  clear cp0 cp1 gp0 gp1 r00 r10
  go_wp2_with fail
  refine (columnsMixed _ _ _ _ g y _ _ hl hy _ (keepRows hbW HR.out) (keepInts hbW HY.out)).mono ?_
  rintro e w1 ⟨rfl, rfl⟩
  rw [HQ.out]
  go_wp2_with fail
  refine bodyPost_ret (v := .tuple #[.agg #[.int .i64 0, .int .i64 0], .bool false]) (by simp [results, Try.results14, go_sem, c0, c1]) rfl ⟨rfl, ?_⟩
  exact (B0.bel.setCell (by show _ ≤ w.heap.size + 1 + 1; omega) _).setCell (by show _ ≤ w.heap.size + 1 + 1; omega) _

set_option maxHeartbeats 1000000 in
set_option maxRecDepth 100000 in
theorem avg_yes (T A B : Option Addr) (c d e : Nat) (g : List (List Int)) (x y : List Int) (hl : g.length ≤ maxLen) (hx : x.length ≤ 4294967296) (hy : y.length ≤ 4294967296) (hS : safB g x = true) (hQ : risB g y = true) (hO : ovB (totN g x y x.length) (sumW x x.length * sumW y y.length) = true) (w : World) (h : Rows2 w (· < w.heap.size) T g) (h1 : Ints w (· < w.heap.size) A x) (h2 : Ints w (· < w.heap.size) B y) :
    Calls Try.prog 14 #[.slice T g.length c, .slice A x.length d, .slice B y.length e] w (Adds (FracRes (lowU (totN g x y x.length) (sumW x x.length * sumW y y.length)) (lowD (totN g x y x.length) (sumW x x.length * sumW y y.length)) true) w) := by
  have hS2 := hS
  have hQ2 := hQ
  simp only [safB, Bool.and_eq_true] at hS2
  simp only [risB, Bool.and_eq_true] at hQ2
  have hg := Game.of hS2.1
  have hmx := Mix.of hS2.2
  have hmy := Mix.of hQ2.2
  obtain ⟨s1, s2⟩ := hmx.sum_bd
  rw [← hmx.len] at s1 s2
  obtain ⟨t1, t2⟩ := hmy.sum_bd
  rw [← hmy.len] at t1 t2
  have hg1 := hg.lo
  have hg2 := hg.hi
  have hxl : x.length ≤ g.length := Nat.le_of_eq hmx.len
  have hxl2 : x.length ≤ 16 := by omega
  have HGL : Hid (Game g y.length) := by show Game _ _; rw [hmy.len]; exact hg
  have HMX := Lib.hid hmx.self
  have HMY := Lib.hid hmy.self
  have HO := Lib.hid hO
  have hbd : ∀ k, k ≤ x.length → dotF x (rowD g y) k = totN g x y k := fun k hk => by
    unfold totN; rw [dotW_F]
    exact dotF_congr _ _ _ _ (fun i hi => (nth_rowsD g y i (by omega)).symm)
  have HTD := Lib.hid hbd
  have HTB : Hid (∀ k, k ≤ x.length → -23040000000000 ≤ totN g x y k ∧ totN g x y k ≤ 23040000000000) := fun k hk => totN_bd hg hmx hmy k (by omega)
  have hm := mul_in (a := sumW x x.length) (b := sumW y y.length) (by omega) (by omega) (by omega) (by omega)
  have hmp := mul_pos s1 t1
  have q1 : -4611686018427387904 ≤ totN g x y x.length := by have := HTB.out x.length (Nat.le_refl _); omega
  have q2 : totN g x y x.length ≤ 4611686018427387904 := by have := HTB.out x.length (Nat.le_refl _); omega
  have q3 : -4611686018427387904 ≤ sumW x x.length * sumW y y.length := by omega
  have q4 : sumW x x.length * sumW y y.length ≤ 4611686018427387904 := by omega
  have q5 : sumW x x.length * sumW y y.length ≠ 0 := by omega
  have x1 : IntKind.i64.wrap (sumW x x.length * sumW y y.length) = sumW x x.length * sumW y y.length := IntWalk.i64_in _ (by omega)
  have HS := Lib.hid hS
  have HQ := Lib.hid hQ
  have hmf : ∀ (fn : Fn) (first cap : Array Value) (w : World), (Instr.makeFunc fn first cap).run Try.prog w = .ok (.func fn first cap) w := fun _ _ _ _ => rfl
  clear hS hQ hS2 hQ2 hg hmx hmy hO hbd hm hmp
  have HR := Lib.hid h
  have HX := Lib.hid h1
  have HY := Lib.hid h2
  clear h h1 h2
  go_enter Try.func14, Try.ntmps14
  go_wp2_with fail
  obtain ⟨W, hW⟩ : ∃ W : World, W = (((w.alloc (.cells #[(Value.slice T g.length c)] 23)).alloc (.cells #[(Value.slice B y.length e)] 24)).alloc (.cells #[(Value.int .i64 0), (Value.int .i64 0)] 28)) := ⟨_, rfl⟩
  have hzW : W.heap.size = w.heap.size + 3 := by rw [hW]; simp
  have hbW : Below w.heap.size w W := by rw [hW]; exact (by repeat (first | exact Below.refl _ _ | assumption | exact bel1 (by assumption) | exact bel2 (by assumption) | exact bel3 (by assumption) | exact bel4 (by assumption) | refine Below.drew ?_ | refine below_drewN ?_ _ | refine Below.setCell ?_ (by first | (simp; done) | (simp; omega)) _ | refine Below.alloc ?_ (by first | (simp; done) | (simp; omega)) _))
  have r00 := staysB (w := w) (p := w.heap.size + 2) (b := w.heap.size) (o := 0) (by omega) (by omega) (show W.cell? ⟨w.heap.size, 0, none⟩ = some ((Value.slice T g.length c)) from by rw [hW]; simp [go_sem])
  have r10 := staysB (w := w) (p := w.heap.size + 2) (b := w.heap.size + 1) (o := 0) (by omega) (by omega) (show W.cell? ⟨w.heap.size + 1, 0, none⟩ = some ((Value.slice B y.length e)) from by rw [hW]; simp [go_sem])
  have cp0 : ∀ w1, Boxed w W (w.heap.size + 2) w1 → w1.cell? ⟨w.heap.size + 2, 0, none⟩ = some (held w1 (w.heap.size + 2) 0) := fun _ h => h.cell (by omega)
  have gp0 : ∀ w1, Boxed w W (w.heap.size + 2) w1 → w1.frozen? ⟨w.heap.size + 2, 0, none⟩ = false := fun _ h => h.frozen 0
  have cp1 : ∀ w1, Boxed w W (w.heap.size + 2) w1 → w1.cell? ⟨w.heap.size + 2, 1, none⟩ = some (held w1 (w.heap.size + 2) 1) := fun _ h => h.cell (by omega)
  have gp1 : ∀ w1, Boxed w W (w.heap.size + 2) w1 → w1.frozen? ⟨w.heap.size + 2, 1, none⟩ = false := fun _ h => h.frozen 1
  have B0 : Boxed w W (w.heap.size + 2) W := ⟨hbW, Nat.le_refl _, fun _ _ _ => rfl, fun _ => .int .i64 0, by
    have hs : ((w.alloc (.cells #[(Value.slice T g.length c)] 23)).alloc (.cells #[(Value.slice B y.length e)] 24)).heap.size = w.heap.size + 2 := by simp
    rw [hW, ← hs]; exact World.rowIs_alloc _ #[.int .i64 0, .int .i64 0] _ _ (fun i hi => by have : i = 0 ∨ i = 1 := (by simp at hi; omega); rcases this with rfl | rfl <;> rfl)⟩
  rw [← hW]
  clear hW
  have e0 := r00 _ B0
  have e1 := r10 _ B0
  have c0 := cp0 _ B0
  have c1 := cp1 _ B0
  have f0 := gp0 _ B0
  have f1 := gp1 _ B0
  have RW := Lib.hid (keepRows hbW HR.out)
  have XW := Lib.hid (keepInts hbW HX.out)
  have YW := Lib.hid (keepInts hbW HY.out)
  have HT := Lib.hid (tells_row W w.heap.size (w.heap.size + 1) T B c e g y x.length (by omega) HGL.out HMY.out (by omega) (by omega) e0 e1 (RW.out.lt hbW.size) (YW.out.lt hbW.size))
  refine (rowsMixed _ _ _ _ g x _ _ hl hx _ RW.out XW.out).mono ?_
  rintro e w1 ⟨rfl, rfl⟩
  rw [HS.out]
  have CP := Lib.hid (And.intro (And.intro cp0 cp1) (And.intro gp0 gp1))
  have RR := Lib.hid (And.intro r00 r10)
  have HW := Lib.hid hzW
  have HBW := Lib.hid hbW
  clear cp0 cp1 gp0 gp1 r00 r10
  go_wp2_with fail
  refine (columnsMixed _ _ _ _ g y _ _ hl hy _ RW.out YW.out).mono ?_
  rintro e w1 ⟨rfl, rfl⟩
  rw [HQ.out]
  go_wp2_with fail
  refine (weighted _ _ x _ _ (rowD g y) (by omega) _ (XW.out.lt hbW.size) HT.out (fun k hk => ?_) (fun k hk => ?_)).mono ?_
  · have h1 := HMX.out.wlo k hk
    have h2 := HMX.out.whi k hk
    have h3 := rowD_bd HGL.out HMY.out k (by omega)
    have := prod_bd h1 h2 h3.1 h3.2 (by omega)
    omega
  · rw [HTD.out k hk]; have := HTB.out k hk; omega
  rintro e w2 ⟨rfl, hb2⟩
  rw [HTD.out _ (Nat.le_refl _)]
  have B2 : Boxed w W (w.heap.size + 2) w2 := Boxed.call hb2 (by omega) B0
  obtain ⟨⟨cp0, cp1⟩, gp0, gp1⟩ := CP.out
  obtain ⟨r00, r10⟩ := RR.out
  clear e0 e1 c0 c1 f0 f1 hb2 hx hy hl hxl hxl2 hg1 hg2
  go_wp2_with fail
  go_region_held3 (fun w' => Boxed w W (w.heap.size + 2) w')
    (first | assumption | exact Boxed.drew (by assumption) | exact Boxed.call (by assumption) (by omega) (by assumption) | exact Boxed.store _ _ (by omega) (by assumption))
    (first | (go_at_call 52; refine (together _ _ _ (by first | exact HMX.out | exact HMY.out) _ (by first | exact (keepInts (Boxed.bel (by assumption)) HX.out).lt (Below.size (Boxed.bel (by assumption))) | exact (keepInts (Boxed.bel (by assumption)) HY.out).lt (Below.size (Boxed.bel (by assumption))))).mono ?_; rintro e w1 ⟨rfl, hb1⟩) | (go_at_call 51; refine (over_yes _ _ q1 q2 q3 q4 q5 HO.out _).mono ?_; rintro e w1 ⟨rfl, hb1⟩))
  have hk : Boxed w W (w.heap.size + 2) w1 := Boxed.call hb1 (by omega) (Boxed.call (by assumption) (by omega) (Boxed.call (by assumption) (by omega) B2.drew))
  go_wp2_with fail
  refine bodyPost_ret (v := .tuple #[.agg #[.int .i64 (lowU (totN g x y x.length) (sumW x x.length * sumW y y.length)), .int .i64 (lowD (totN g x y x.length) (sumW x x.length * sumW y y.length))], .bool true]) (by simp [results, Try.results14, go_sem, cp0 _ hk, cp1 _ hk, gp0 _ hk, gp1 _ hk]) rfl ⟨rfl, ?_⟩
  exact (hk.bel.setCell (by show _ ≤ w.heap.size + 1 + 1; omega) _).setCell (by show _ ≤ w.heap.size + 1 + 1; omega) _

set_option maxHeartbeats 1000000 in
set_option maxRecDepth 100000 in
theorem avg_no3 (T A B : Option Addr) (c d e : Nat) (g : List (List Int)) (x y : List Int) (hl : g.length ≤ maxLen) (hx : x.length ≤ 4294967296) (hy : y.length ≤ 4294967296) (hS : safB g x = true) (hQ : risB g y = true) (hO : ovB (totN g x y x.length) (sumW x x.length * sumW y y.length) = false) (w : World) (h : Rows2 w (· < w.heap.size) T g) (h1 : Ints w (· < w.heap.size) A x) (h2 : Ints w (· < w.heap.size) B y) :
    Calls Try.prog 14 #[.slice T g.length c, .slice A x.length d, .slice B y.length e] w (Adds (FracRes 0 0 false) w) := by
  have hS2 := hS
  have hQ2 := hQ
  simp only [safB, Bool.and_eq_true] at hS2
  simp only [risB, Bool.and_eq_true] at hQ2
  have hg := Game.of hS2.1
  have hmx := Mix.of hS2.2
  have hmy := Mix.of hQ2.2
  obtain ⟨s1, s2⟩ := hmx.sum_bd
  rw [← hmx.len] at s1 s2
  obtain ⟨t1, t2⟩ := hmy.sum_bd
  rw [← hmy.len] at t1 t2
  have hg1 := hg.lo
  have hg2 := hg.hi
  have hxl : x.length ≤ g.length := Nat.le_of_eq hmx.len
  have hxl2 : x.length ≤ 16 := by omega
  have HGL : Hid (Game g y.length) := by show Game _ _; rw [hmy.len]; exact hg
  have HMX := Lib.hid hmx.self
  have HMY := Lib.hid hmy.self
  have HO := Lib.hid hO
  have hbd : ∀ k, k ≤ x.length → dotF x (rowD g y) k = totN g x y k := fun k hk => by
    unfold totN; rw [dotW_F]
    exact dotF_congr _ _ _ _ (fun i hi => (nth_rowsD g y i (by omega)).symm)
  have HTD := Lib.hid hbd
  have HTB : Hid (∀ k, k ≤ x.length → -23040000000000 ≤ totN g x y k ∧ totN g x y k ≤ 23040000000000) := fun k hk => totN_bd hg hmx hmy k (by omega)
  have hm := mul_in (a := sumW x x.length) (b := sumW y y.length) (by omega) (by omega) (by omega) (by omega)
  have hmp := mul_pos s1 t1
  have q1 : -4611686018427387904 ≤ totN g x y x.length := by have := HTB.out x.length (Nat.le_refl _); omega
  have q2 : totN g x y x.length ≤ 4611686018427387904 := by have := HTB.out x.length (Nat.le_refl _); omega
  have q3 : -4611686018427387904 ≤ sumW x x.length * sumW y y.length := by omega
  have q4 : sumW x x.length * sumW y y.length ≤ 4611686018427387904 := by omega
  have q5 : sumW x x.length * sumW y y.length ≠ 0 := by omega
  have x1 : IntKind.i64.wrap (sumW x x.length * sumW y y.length) = sumW x x.length * sumW y y.length := IntWalk.i64_in _ (by omega)
  have HS := Lib.hid hS
  have HQ := Lib.hid hQ
  have hmf : ∀ (fn : Fn) (first cap : Array Value) (w : World), (Instr.makeFunc fn first cap).run Try.prog w = .ok (.func fn first cap) w := fun _ _ _ _ => rfl
  clear hS hQ hS2 hQ2 hg hmx hmy hO hbd hm hmp
  have HR := Lib.hid h
  have HX := Lib.hid h1
  have HY := Lib.hid h2
  clear h h1 h2
  go_enter Try.func14, Try.ntmps14
  go_wp2_with fail
  obtain ⟨W, hW⟩ : ∃ W : World, W = (((w.alloc (.cells #[(Value.slice T g.length c)] 23)).alloc (.cells #[(Value.slice B y.length e)] 24)).alloc (.cells #[(Value.int .i64 0), (Value.int .i64 0)] 28)) := ⟨_, rfl⟩
  have hzW : W.heap.size = w.heap.size + 3 := by rw [hW]; simp
  have hbW : Below w.heap.size w W := by rw [hW]; exact (by repeat (first | exact Below.refl _ _ | assumption | exact bel1 (by assumption) | exact bel2 (by assumption) | exact bel3 (by assumption) | exact bel4 (by assumption) | refine Below.drew ?_ | refine below_drewN ?_ _ | refine Below.setCell ?_ (by first | (simp; done) | (simp; omega)) _ | refine Below.alloc ?_ (by first | (simp; done) | (simp; omega)) _))
  have r00 := staysB (w := w) (p := w.heap.size + 2) (b := w.heap.size) (o := 0) (by omega) (by omega) (show W.cell? ⟨w.heap.size, 0, none⟩ = some ((Value.slice T g.length c)) from by rw [hW]; simp [go_sem])
  have r10 := staysB (w := w) (p := w.heap.size + 2) (b := w.heap.size + 1) (o := 0) (by omega) (by omega) (show W.cell? ⟨w.heap.size + 1, 0, none⟩ = some ((Value.slice B y.length e)) from by rw [hW]; simp [go_sem])
  have cp0 : ∀ w1, Boxed w W (w.heap.size + 2) w1 → w1.cell? ⟨w.heap.size + 2, 0, none⟩ = some (held w1 (w.heap.size + 2) 0) := fun _ h => h.cell (by omega)
  have gp0 : ∀ w1, Boxed w W (w.heap.size + 2) w1 → w1.frozen? ⟨w.heap.size + 2, 0, none⟩ = false := fun _ h => h.frozen 0
  have cp1 : ∀ w1, Boxed w W (w.heap.size + 2) w1 → w1.cell? ⟨w.heap.size + 2, 1, none⟩ = some (held w1 (w.heap.size + 2) 1) := fun _ h => h.cell (by omega)
  have gp1 : ∀ w1, Boxed w W (w.heap.size + 2) w1 → w1.frozen? ⟨w.heap.size + 2, 1, none⟩ = false := fun _ h => h.frozen 1
  have B0 : Boxed w W (w.heap.size + 2) W := ⟨hbW, Nat.le_refl _, fun _ _ _ => rfl, fun _ => .int .i64 0, by
    have hs : ((w.alloc (.cells #[(Value.slice T g.length c)] 23)).alloc (.cells #[(Value.slice B y.length e)] 24)).heap.size = w.heap.size + 2 := by simp
    rw [hW, ← hs]; exact World.rowIs_alloc _ #[.int .i64 0, .int .i64 0] _ _ (fun i hi => by have : i = 0 ∨ i = 1 := (by simp at hi; omega); rcases this with rfl | rfl <;> rfl)⟩
  rw [← hW]
  clear hW
  have e0 := r00 _ B0
  have e1 := r10 _ B0
  have c0 := cp0 _ B0
  have c1 := cp1 _ B0
  have f0 := gp0 _ B0
  have f1 := gp1 _ B0
  have RW := Lib.hid (keepRows hbW HR.out)
  have XW := Lib.hid (keepInts hbW HX.out)
  have YW := Lib.hid (keepInts hbW HY.out)
  have HT := Lib.hid (tells_row W w.heap.size (w.heap.size + 1) T B c e g y x.length (by omega) HGL.out HMY.out (by omega) (by omega) e0 e1 (RW.out.lt hbW.size) (YW.out.lt hbW.size))
  refine (rowsMixed _ _ _ _ g x _ _ hl hx _ RW.out XW.out).mono ?_
  rintro e w1 ⟨rfl, rfl⟩
  rw [HS.out]
  have CP := Lib.hid (And.intro (And.intro cp0 cp1) (And.intro gp0 gp1))
  have RR := Lib.hid (And.intro r00 r10)
  have HW := Lib.hid hzW
  have HBW := Lib.hid hbW
  clear cp0 cp1 gp0 gp1 r00 r10
  go_wp2_with fail
  refine (columnsMixed _ _ _ _ g y _ _ hl hy _ RW.out YW.out).mono ?_
  rintro e w1 ⟨rfl, rfl⟩
  rw [HQ.out]
  go_wp2_with fail
  refine (weighted _ _ x _ _ (rowD g y) (by omega) _ (XW.out.lt hbW.size) HT.out (fun k hk => ?_) (fun k hk => ?_)).mono ?_
  · have h1 := HMX.out.wlo k hk
    have h2 := HMX.out.whi k hk
    have h3 := rowD_bd HGL.out HMY.out k (by omega)
    have := prod_bd h1 h2 h3.1 h3.2 (by omega)
    omega
  · rw [HTD.out k hk]; have := HTB.out k hk; omega
  rintro e w2 ⟨rfl, hb2⟩
  rw [HTD.out _ (Nat.le_refl _)]
  have B2 : Boxed w W (w.heap.size + 2) w2 := Boxed.call hb2 (by omega) B0
  obtain ⟨⟨cp0, cp1⟩, gp0, gp1⟩ := CP.out
  obtain ⟨r00, r10⟩ := RR.out
  clear e0 e1 c0 c1 f0 f1 hb2 hx hy hl hxl hxl2 hg1 hg2
  go_wp2_with fail
  go_region_held3 (fun w' => Boxed w W (w.heap.size + 2) w')
    (first | assumption | exact Boxed.drew (by assumption) | exact Boxed.call (by assumption) (by omega) (by assumption) | exact Boxed.store _ _ (by omega) (by assumption))
    (first | (go_at_call 52; refine (together _ _ _ (by first | exact HMX.out | exact HMY.out) _ (by first | exact (keepInts (Boxed.bel (by assumption)) HX.out).lt (Below.size (Boxed.bel (by assumption))) | exact (keepInts (Boxed.bel (by assumption)) HY.out).lt (Below.size (Boxed.bel (by assumption))))).mono ?_; rintro e w1 ⟨rfl, hb1⟩) | (go_at_call 51; refine (over_no _ _ q1 q2 q3 q4 q5 HO.out _).mono ?_; rintro e w1 ⟨rfl, hb1⟩))
  have hk : Boxed w W (w.heap.size + 2) w1 := Boxed.call hb1 (by omega) (Boxed.call (by assumption) (by omega) (Boxed.call (by assumption) (by omega) B2.drew))
  go_wp2_with fail
  refine bodyPost_ret (v := .tuple #[.agg #[.int .i64 0, .int .i64 0], .bool false]) (by simp [results, Try.results14, go_sem, cp0 _ hk, cp1 _ hk, gp0 _ hk, gp1 _ hk]) rfl ⟨rfl, ?_⟩
  exact (hk.bel.setCell (by show _ ≤ w.heap.size + 1 + 1; omega) _).setCell (by show _ ≤ w.heap.size + 1 + 1; omega) _

theorem avg_impl (T A B : Option Addr) (c d e : Nat) (g : List (List Int)) (x y : List Int) (hl : g.length ≤ maxLen) (hx : x.length ≤ 4294967296) (hy : y.length ≤ 4294967296) (w : World) (h : Rows2 w (· < w.heap.size) T g) (h1 : Ints w (· < w.heap.size) A x) (h2 : Ints w (· < w.heap.size) B y) :
    Calls Try.prog 14 #[.slice T g.length c, .slice A x.length d, .slice B y.length e] w (Adds (FracRes (avgU g x y) (avgD g x y) (avgB g x y)) w) := by
  rcases hS : safB g x with _ | _
  · have hB : avgB g x y = false := by
      have : (gameB g && mixB x (g.length : Int)) = false := hS
      simp [avgB, fitB, this]
    have hU : avgU g x y = 0 := by simp [avgU, hB]
    have hD : avgD g x y = 0 := by simp [avgD, hB]
    rw [hU, hD, hB]; exact avg_no1 T A B c d e g x y hl hx hy hS w h h1 h2
  rcases hQ : risB g y with _ | _
  · have hB : avgB g x y = false := by
      have h3 : (gameB g && mixB y ((rowAt g 0).length : Int)) = false := hQ
      have h4 : (gameB g && mixB x (g.length : Int)) = true := hS
      simp only [Bool.and_eq_true] at h4
      simp only [h4.1, Bool.true_and] at h3
      simp [avgB, fitB, h3]
    have hU : avgU g x y = 0 := by simp [avgU, hB]
    have hD : avgD g x y = 0 := by simp [avgD, hB]
    rw [hU, hD, hB]; exact avg_no2 T A B c d e g x y hl hx hy hS hQ w h h1 h2
  have h3 : (gameB g && mixB y ((rowAt g 0).length : Int)) = true := hQ
  have h4 : (gameB g && mixB x (g.length : Int)) = true := hS
  simp only [Bool.and_eq_true] at h3 h4
  have hx1 := (Mix.of h4.2).sum_bd
  rw [← (Mix.of h4.2).len] at hx1
  have hy1 := (Mix.of h3.2).sum_bd
  rw [← (Mix.of h3.2).len] at hy1
  have hp : 0 < sumW x x.length * sumW y y.length := Int.mul_pos (by omega) (by omega)
  have hB : avgB g x y = ovB (totN g x y x.length) (sumW x x.length * sumW y y.length) := by
    rw [ov_ok hp]; simp [avgB, fitB, h3.1, h3.2, h4.2, avN, avM]
  rcases hO : ovB (totN g x y x.length) (sumW x x.length * sumW y y.length) with _ | _
  · rw [hO] at hB
    have hU : avgU g x y = 0 := by simp [avgU, hB]
    have hD : avgD g x y = 0 := by simp [avgD, hB]
    rw [hU, hD, hB]; exact avg_no3 T A B c d e g x y hl hx hy hS hQ hO w h h1 h2
  · rw [hO] at hB
    have hU : avgU g x y = lowU (totN g x y x.length) (sumW x x.length * sumW y y.length) := by simp [avgU, hB, avN]
    have hD : avgD g x y = lowD (totN g x y x.length) (sumW x x.length * sumW y y.length) := by simp [avgD, hB, avM]
    rw [hU, hD, hB]; exact avg_yes T A B c d e g x y hl hx hy hS hQ hO w h h1 h2

end Go.Proofs.Ytjojilimdhekfaa
