/- Texts in one: BestG, CountI, CountJ. -/
import Derived.Test.YtakkdpjgdmngkaaMI
import Derived.Test.YtakkdpjgdmngkaaNI
import Derived.Test.YtakkdpjgdmngkaaPB
import Derived.Test.YtakkdpjgdmngkaaMC
namespace Go.Proofs.Ytakkdpjgdmngkaa
set_option linter.unusedSimpArgs false
set_option linter.unusedVariables false
open Go.RowKit

/-- the first best place so far -/
def atN (bet : Nat → Nat → Bool) : Nat → Nat
  | 0 => 0
  | k + 1 => if bet k (atN bet k) = true then k else atN bet k

theorem atN_lt (bet : Nat → Nat → Bool) {n k : Nat} (h0 : 0 < n) (hk : k ≤ n) : atN bet k < n := by
  induction k with
  | zero => exact h0
  | succ k ih => unfold atN; split; omega; exact ih (by omega)

/-- fractions in a block, from its first cell on -/
structure FracsAt (w : World) (b n : Nat) (U D : Nat → Int) : Prop where
  lt : b < w.heap.size
  up : ∀ {k}, k < n → w.cell? ⟨b, k * 2, none⟩ = some (.int .i64 (U k))
  down : ∀ {k}, k < n → w.cell? ⟨b, k * 2 + 1, none⟩ = some (.int .i64 (D k))

theorem FracsAt.keep {w w' : World} {b n : Nat} {U D : Nat → Int} (h : FracsAt w b n U D) (hs : w.heap.size ≤ w'.heap.size) (hb : w'.heap[b]? = w.heap[b]?) : FracsAt w' b n U D :=
  ⟨Nat.lt_of_lt_of_le h.lt hs, fun hk => (World.cell?_of_block (a := ⟨b, _, none⟩) hb).trans (h.up hk), fun hk => (World.cell?_of_block (a := ⟨b, _, none⟩) hb).trans (h.down hk)⟩

set_option maxHeartbeats 2000000 in
set_option maxRecDepth 100000 in
theorem bestOfG (f : FuncId) (bet : Nat → Nat → Bool) (n : Nat) (U D : Nat → Int) (hE : ∀ (args : Array Value) (w : World), (callFunc f args).run Try.prog w = .ok (.enter f args) w)
    (hf : ∀ i j, i < n → j < n → ∀ w : World, Calls Try.prog f #[.agg #[.int .i64 (U i), .int .i64 (D i)], .agg #[.int .i64 (U j), .int .i64 (D j)]] w (Adds (.bool (bet i j)) w))
    (b c : Nat) (h0 : 0 < n) (hl : n ≤ 60) (w : World) (h : FracsAt w b n U D) :
    Calls Try.prog 47 #[.slice (some ⟨b, 0, none⟩) n c, .func (.func f) #[] #[]] w
      (Adds (.tuple #[.agg #[.int .i64 (U (atN bet n)), .int .i64 (D (atN bet n))], .int .i64 (atN bet n : Nat)]) w) := by
  have hbw : b < w.heap.size := h.lt
  have HF := Lib.hid hf
  have HR := Lib.hid h
  clear hf h
  go_enter Try.func47, Try.ntmps47
  go_wp2_with fail
  obtain ⟨W, hW⟩ : ∃ W : World, W = (w.alloc (.cells #[(Value.int .i64 0), (Value.int .i64 0)] 34)) := ⟨_, rfl⟩
  have hzW : W.heap.size = w.heap.size + 1 := by rw [hW]; simp
  have hbW : Below w.heap.size w W := by rw [hW]; exact (by repeat (first | exact Below.refl _ _ | assumption | exact bel1 (by assumption) | exact bel2 (by assumption) | exact bel3 (by assumption) | exact bel4 (by assumption) | refine Below.drew ?_ | refine below_drewN ?_ _ | refine Below.setCell ?_ (by first | (simp; done) | (simp; omega)) _ | refine Below.alloc ?_ (by first | (simp; done) | (simp; omega)) _))
  have r00 := stays (p := w.heap.size) (o := 0) (by omega) (show W.cell? ⟨w.heap.size, 0, none⟩ = some ((Value.int .i64 0)) from by rw [hW]; simp [go_sem])
  have g00 := staysF (p := w.heap.size) (o := 0) (by omega) (show W.frozen? ⟨w.heap.size, 0, none⟩ = false from by rw [hW]; simp [go_sem])
  have r01 := stays (p := w.heap.size) (o := 1) (by omega) (show W.cell? ⟨w.heap.size, 1, none⟩ = some ((Value.int .i64 0)) from by rw [hW]; simp [go_sem])
  have g01 := staysF (p := w.heap.size) (o := 1) (by omega) (show W.frozen? ⟨w.heap.size, 1, none⟩ = false from by rw [hW]; simp [go_sem])
  rw [← hW]
  clear hW
  have HRW : Hid (FracsAt W b n U D) := HR.out.keep hbW.size (hbW.block b hbw)
  have hbW2 : b < W.heap.size := by omega
  clear hzW
  go_loopw [6, 11] (fun v i wr => ∃ k : Nat, k ≤ n ∧ i = .int .i64 k ∧ v = .int .i64 (atN bet k : Nat) ∧ Hid (Below W.heap.size W wr)) (fun _ i _ => n - (intOf i).toNat)
  case atStart => exact ⟨0, Nat.zero_le _, rfl, rfl, Below.refl _ _⟩
  case round =>
    obtain ⟨k, hk, rfl, rfl, HV⟩ := hrel
    have hbl : atN bet k < n := atN_lt bet h0 hk
    have R : FracsAt wr b n U D := HRW.out.keep HV.out.size (HV.out.block b hbW2)
    by_cases hlt : k < n
    · have cu := R.up hlt
      have cd := R.down hlt
      have HLT := Lib.hid hlt
      have bu := R.up hbl
      have bd := R.down hbl
      have HBL := Lib.hid hbl
      have hbr : b < wr.heap.size := Nat.lt_of_lt_of_le hbW2 HV.out.size
      clear R r00 r01 g00 g01
      go_wp2_with fail
      obtain ⟨X, hX⟩ : ∃ X : World, X = (wr.alloc (.cells #[(Value.int .i64 (U k)), (Value.int .i64 (D k))] 34)) := ⟨_, rfl⟩
      have hzX : X.heap.size = wr.heap.size + 1 := by rw [hX]; simp
      have hbX : Below wr.heap.size wr X := by rw [hX]; exact (by repeat (first | exact Below.refl _ _ | assumption | exact bel1 (by assumption) | exact bel2 (by assumption) | exact bel3 (by assumption) | exact bel4 (by assumption) | refine Below.drew ?_ | refine below_drewN ?_ _ | refine Below.setCell ?_ (by first | (simp; done) | (simp; omega)) _ | refine Below.alloc ?_ (by first | (simp; done) | (simp; omega)) _))
      have s00 := stays (p := wr.heap.size) (o := 0) (by omega) (show X.cell? ⟨wr.heap.size, 0, none⟩ = some ((Value.int .i64 (U k))) from by rw [hX]; simp [go_sem])
      have s01 := stays (p := wr.heap.size) (o := 1) (by omega) (show X.cell? ⟨wr.heap.size, 1, none⟩ = some ((Value.int .i64 (D k))) from by rw [hX]; simp [go_sem])
      have t00 := stays (p := b) (o := atN bet k * 2) (by omega) ((hbX.cell (p := ⟨b, atN bet k * 2, none⟩) hbr).trans bu)
      have t01 := stays (p := b) (o := atN bet k * 2 + 1) (by omega) ((hbX.cell (p := ⟨b, atN bet k * 2 + 1, none⟩) hbr).trans bd)
      rw [← hX]
      have HVX : Hid (Below W.heap.size W X) := belT HV.out hbX
      clear hX cu cd bu bd hbX hzX hbr
      go_region_held3 (fun w' => Below X.heap.size X w')
        (first | exact Below.refl _ _ | exact Below.drew (Below.refl _ _) | (refine Below.drew ?_; assumption) | exact belT (by assumption) (by assumption) | assumption)
        (first | (refine (HF.out k (atN bet k) HLT.out HBL.out _).mono ?_; rintro e w1 ⟨rfl, hb1⟩))
      have HV2 : Hid (Below W.heap.size W w1) := belT HVX.out (by assumption)
      rcases hb : bet k (atN bet k) with _ | _
      · have HS : Hid (atN bet (k + 1) = atN bet k) := by show atN _ _ = _; simp [atN, hb]
        clear hb
        go_wp2_with fail
        go_roundw
        case rel => exact ⟨k + 1, by omega, by go_num, by rw [HS.out], HV2⟩
        case measure => simp [intOf]; omega
      · have HS : Hid (atN bet (k + 1) = k) := by show atN _ _ = _; simp [atN, hb]
        clear hb
        go_wp2_with fail
        go_roundw
        case rel => exact ⟨k + 1, by omega, by go_num, by rw [HS.out], HV2⟩
        case measure => simp [intOf]; omega
    · obtain rfl : n = k := by omega
      have cu := R.up hbl
      have cd := R.down hbl
      have hk2 := HV.out
      have e00 := r00 _ hk2
      have e01 := r01 _ hk2
      have f00 := g00 _ hk2
      have f01 := g01 _ hk2
      clear R r00 r01 g00 g01
      go_wp2_with fail
      refine bodyPost_ret (v := .tuple #[.agg #[.int .i64 (U (atN bet n)), .int .i64 (D (atN bet n))], .int .i64 (atN bet n : Nat)]) (by simp [results, Try.results47, go_sem, e00, e01]) rfl ⟨rfl, ?_⟩
      exact ((belT hbW hk2).setCell (Nat.le_refl _) _).setCell (Nat.le_refl _) _

end Go.Proofs.Ytakkdpjgdmngkaa

namespace Go.Proofs.Ytakkdpjgdmngkaa
set_option linter.unusedSimpArgs false
set_option linter.unusedVariables false
open Go.RowKit

theorem Grows.cellG {w : World} {base g cap : Nat} {l : List Int} (h : Grows w base (.slice (some ⟨g, 0, none⟩) l.length cap) l) {k : Nat} (hk : k < l.length) : w.cell? ⟨g, k, none⟩ = some (.int .i64 (nth l k)) := by
  rw [World.ownsRow.cellAt h k (by omega)]; exact vals_get l k hk

theorem Grows.bumpG {w : World} {base g cap : Nat} {l : List Int} (h : Grows w base (.slice (some ⟨g, 0, none⟩) l.length cap) l) (k : Nat) : Grows (w.setCell ⟨g, k, none⟩ (.int .i64 (nth l k + 1))) base (.slice (some ⟨g, 0, none⟩) l.length cap) (bump l k) := by
  have := (World.ownsRow.stored h k (.int .i64 (nth l k + 1))).1
  unfold Grows bump
  rw [List.length_set, show vals (l.set k (nth l k + 1)) = (vals l).set k (.int .i64 (nth l k + 1)) by simp [vals, List.map_set]]; exact this

theorem Grows.far {w w' : World} {base g cap : Nat} {l : List Int} (h : Grows w base (.slice (some ⟨g, 0, none⟩) l.length cap) l) (hb : w'.heap[g]? = w.heap[g]?) : Grows w' base (.slice (some ⟨g, 0, none⟩) l.length cap) l :=
  ownsRow_of_block h fun k hk => by simp [Value.ownBlock] at hk; rw [← hk]; exact hb

theorem Grows.baseC {w : World} {b b' : Nat} {v : Value} {l : List Int} (h : Grows w b v l) (hb : b' ≤ b) : Grows w b' v l := by
  obtain ⟨h1, h2 | ⟨g, cap, cur, h3, h4, h5⟩⟩ := h
  · exact ⟨h1, .inl h2⟩
  · exact ⟨h1, .inr ⟨g, cap, cur, h3, Nat.le_trans hb h4, h5⟩⟩

/-- two lists of the call's own, one block each -/
structure CntAt (w : World) (lo a b ca cb : Nat) (x y : List Int) : Prop where
  one : Grows w lo (.slice (some ⟨a, 0, none⟩) x.length ca) x
  two : Grows w lo (.slice (some ⟨b, 0, none⟩) y.length cb) y
  ne : a ≠ b

theorem CntAt.lt {w : World} {lo a b ca cb : Nat} {x y : List Int} (h : CntAt w lo a b ca cb x y) : lo ≤ a ∧ a < w.heap.size ∧ lo ≤ b ∧ b < w.heap.size := by
  have h1 := World.ownsRow.lt h.one a rfl
  have h2 := World.ownsRow.lt h.two b rfl
  exact ⟨h1.1, h1.2, h2.1, h2.2⟩

theorem CntAt.keep {w w' : World} {lo a b ca cb : Nat} {x y : List Int} (h : CntAt w lo a b ca cb x y) (ha : w'.heap[a]? = w.heap[a]?) (hb : w'.heap[b]? = w.heap[b]?) : CntAt w' lo a b ca cb x y :=
  ⟨h.one.far ha, h.two.far hb, h.ne⟩

theorem CntAt.ints {w : World} {lo a b ca cb : Nat} {x y : List Int} (h : CntAt w lo a b ca cb x y) : Ints w (· < w.heap.size) (some ⟨a, 0, none⟩) x ∧ Ints w (· < w.heap.size) (some ⟨b, 0, none⟩) y :=
  ⟨fun _ => ⟨a, 0, rfl, h.lt.2.1, fun i hi => by rw [Nat.zero_add]; exact h.one.cellG hi⟩, fun _ => ⟨b, 0, rfl, h.lt.2.2.2, fun i hi => by rw [Nat.zero_add]; exact h.two.cellG hi⟩⟩

theorem CntAt.base {w : World} {lo lo' a b ca cb : Nat} {x y : List Int} (h : CntAt w lo a b ca cb x y) (hb : lo' ≤ lo) : CntAt w lo' a b ca cb x y := ⟨h.one.baseC hb, h.two.baseC hb, h.ne⟩

theorem CntAt.bump2 {w : World} {lo a b ca cb : Nat} {x y : List Int} (h : CntAt w lo a b ca cb x y) (r s : Nat) {R : Nat} (ra : R ≠ a) (rb : R ≠ b) (u0 u1 : Value) :
    CntAt ((((w.setCell ⟨a, r, none⟩ (.int .i64 (nth x r + 1))).setCell ⟨b, s, none⟩ (.int .i64 (nth y s + 1))).setCell ⟨R, 0, none⟩ u0).setCell ⟨R, 1, none⟩ u1) lo a b ca cb (bump x r) (bump y s) := by
  have h1 := h.one.bumpG r
  have h2 := (h.two.far (w' := w.setCell ⟨a, r, none⟩ (.int .i64 (nth x r + 1))) (Below.heap_setCell _ _ _ _ (by exact h.ne.symm))).bumpG s
  have e1 : (.slice (some ⟨a, 0, none⟩) (bump x r).length ca : Value) = .slice (some ⟨a, 0, none⟩) x.length ca := by rw [bump_length]
  have e2 : (.slice (some ⟨b, 0, none⟩) (bump y s).length cb : Value) = .slice (some ⟨b, 0, none⟩) y.length cb := by rw [bump_length]
  refine ⟨?_, ?_, h.ne⟩
  · rw [← e1] at h1
    exact ((h1.far (Below.heap_setCell _ _ _ _ (by exact h.ne))).far (Below.heap_setCell _ _ _ _ (by exact ra.symm))).far (Below.heap_setCell _ _ _ _ (by exact ra.symm))
  · rw [← e2] at h2
    exact (h2.far (Below.heap_setCell _ _ _ _ (by exact rb.symm))).far (Below.heap_setCell _ _ _ _ (by exact rb.symm))

/-- what hands back counts of its own -/
def NewCnt (w : World) (x y : List Int) (e : Ending) (w' : World) : Prop :=
  ∃ a b ca cb : Nat, e = .returned (.agg #[.slice (some ⟨a, 0, none⟩) x.length ca, .slice (some ⟨b, 0, none⟩) y.length cb]) ∧ Below w.heap.size w w' ∧ CntAt w' w.heap.size a b ca cb x y

/-- counts in a box -/
structure CntBox (w : World) (lo p a b ca cb : Nat) (x y : List Int) : Prop where
  at_ : CntAt w lo a b ca cb x y
  row : w.rowIs p 28 2 (fun i => if i = 0 then .slice (some ⟨a, 0, none⟩) x.length ca else .slice (some ⟨b, 0, none⟩) y.length cb)
  pa : p ≠ a
  pb : p ≠ b

theorem CntBox.made {w : World} {lo p a b ca cb : Nat} {x y : List Int} (h1 : Grows w lo (.slice (some ⟨a, 0, none⟩) x.length ca) x) (h2 : Grows w lo (.slice (some ⟨b, 0, none⟩) y.length cb) y) (hab : a ≠ b) (hr : w.rowIs p 28 2 (fun _ => .slice none 0 0)) (pa : p ≠ a) (pb : p ≠ b) :
    CntBox ((w.setCell ⟨p, 0, none⟩ (.slice (some ⟨a, 0, none⟩) x.length ca)).setCell ⟨p, 1, none⟩ (.slice (some ⟨b, 0, none⟩) y.length cb)) lo p a b ca cb x y := by
  refine ⟨⟨h1.far ?_, h2.far ?_, hab⟩, ((hr.set 0 _).set 1 _).congr fun i hi => ?_, pa, pb⟩
  · rw [Below.heap_setCell _ _ _ _ (by exact pa.symm), Below.heap_setCell _ _ _ _ (by exact pa.symm)]
  · rw [Below.heap_setCell _ _ _ _ (by exact pb.symm), Below.heap_setCell _ _ _ _ (by exact pb.symm)]
  · have : i = 0 ∨ i = 1 := by omega
    rcases this with rfl | rfl <;> rfl

theorem CntBox.made' {w : World} {lo p a b ca cb n m : Nat} {x y : List Int} (hn : x.length = n) (hm : y.length = m) (h1 : Grows w lo (.slice (some ⟨a, 0, none⟩) n ca) x) (h2 : Grows w lo (.slice (some ⟨b, 0, none⟩) m cb) y) (hab : a ≠ b) (hr : w.rowIs p 28 2 (fun _ => .slice none 0 0)) (pa : p ≠ a) (pb : p ≠ b) :
    CntBox ((w.setCell ⟨p, 0, none⟩ (.slice (some ⟨a, 0, none⟩) n ca)).setCell ⟨p, 1, none⟩ (.slice (some ⟨b, 0, none⟩) m cb)) lo p a b ca cb x y := by
  subst hn hm; exact CntBox.made h1 h2 hab hr pa pb

set_option maxHeartbeats 2000000 in
theorem cloneC (A : Option Addr) (c : Nat) (l : List Int) (h0 : 0 < l.length) (hl : l.length ≤ 16) (w : World) (h : Ints w (· < w.heap.size) A l) :
    Calls Try.prog 91 #[.slice A l.length c] w fun e w' => ∃ g cap, e = .returned (.slice (some ⟨g, 0, none⟩) l.length cap) ∧ Below w.heap.size w w' ∧ w.heap.size ≤ g ∧ g < w'.heap.size ∧ Grows w' w.heap.size (.slice (some ⟨g, 0, none⟩) l.length cap) l := by
  obtain ⟨b, o, rfl, hb, hc⟩ := h.at_ h0
  refine (cloneI b o c l (by omega) w hc hb).mono ?_
  rintro e w' ⟨v, rfl, hbw, hg⟩
  have hg0 := hg
  obtain ⟨h1, ⟨rfl, h2⟩ | ⟨g, cap, cur, rfl, h3, h4, h5⟩⟩ := hg0
  · omega
  · exact ⟨g, cap, rfl, hbw, h3, (Array.getElem?_eq_some_iff.1 h4).1, hg⟩

set_option maxHeartbeats 2000000 in
set_option maxRecDepth 100000 in
theorem choosingI (A B : Option Addr) (c d : Nat) (x y : List Int) (r s : Nat) (hr : r < x.length) (hs : s < y.length) (hx : x.length ≤ 16) (hy : y.length ≤ 16) (bx : 0 ≤ nth x r ∧ nth x r ≤ 1000) (hby : 0 ≤ nth y s ∧ nth y s ≤ 1000) (w : World) (h : Ints w (· < w.heap.size) A x) (h' : Ints w (· < w.heap.size) B y) :
    Calls Try.prog 71 #[.agg #[.slice A x.length c, .slice B y.length d], .int .i64 (r : Nat), .int .i64 (s : Nat)] w (NewCnt w (bump x r) (bump y s)) := by
  obtain ⟨W, hW⟩ : ∃ W : World, W = (w.alloc (.cells #[.slice A x.length c, .slice B y.length d] 28)).alloc (.cells #[.slice none 0 0, .slice none 0 0] 28) := ⟨_, rfl⟩
  have hzW : W.heap.size = w.heap.size + 2 := by rw [hW]; simp
  have hbW : Below w.heap.size w W := by rw [hW]; exact ((Below.refl _ w).alloc (Nat.le_refl _) _).alloc (by simp) _
  have r00 := stays (p := w.heap.size) (o := 0) (by omega) (show W.cell? ⟨w.heap.size, 0, none⟩ = some (.slice A x.length c) from by rw [hW]; simp [go_sem])
  have r01 := stays (p := w.heap.size) (o := 1) (by omega) (show W.cell? ⟨w.heap.size, 1, none⟩ = some (.slice B y.length d) from by rw [hW]; simp [go_sem])
  have r10 := stays (p := w.heap.size + 1) (o := 0) (by omega) (show W.cell? ⟨w.heap.size + 1, 0, none⟩ = some (.slice none 0 0) from by rw [hW]; simp [go_sem])
  have g10 := staysF (p := w.heap.size + 1) (o := 0) (by omega) (show W.frozen? ⟨w.heap.size + 1, 0, none⟩ = false from by rw [hW]; simp [go_sem])
  have r11 := stays (p := w.heap.size + 1) (o := 1) (by omega) (show W.cell? ⟨w.heap.size + 1, 1, none⟩ = some (.slice none 0 0) from by rw [hW]; simp [go_sem])
  have g11 := staysF (p := w.heap.size + 1) (o := 1) (by omega) (show W.frozen? ⟨w.heap.size + 1, 1, none⟩ = false from by rw [hW]; simp [go_sem])
  have HW := Lib.hid hW.symm
  have HCX : Hid (∀ w', Below W.heap.size W w' → Calls Try.prog 91 #[.slice A x.length c] w' fun e w2 => ∃ g cap, e = .returned (.slice (some ⟨g, 0, none⟩) x.length cap) ∧ Below w'.heap.size w' w2 ∧ w'.heap.size ≤ g ∧ g < w2.heap.size ∧ Grows w2 w'.heap.size (.slice (some ⟨g, 0, none⟩) x.length cap) x) := fun w' hb => cloneC A c x (by omega) hx w' ((keepInts (belT hbW hb) h).lt (belT hbW hb).size)
  have HCY : Hid (∀ w', Below W.heap.size W w' → Calls Try.prog 91 #[.slice B y.length d] w' fun e w2 => ∃ g cap, e = .returned (.slice (some ⟨g, 0, none⟩) y.length cap) ∧ Below w'.heap.size w' w2 ∧ w'.heap.size ≤ g ∧ g < w2.heap.size ∧ Grows w2 w'.heap.size (.slice (some ⟨g, 0, none⟩) y.length cap) y) := fun w' hb => cloneC B d y (by omega) hy w' ((keepInts (belT hbW hb) h').lt (belT hbW hb).size)
  have HBW := Lib.hid hbW
  have HZW := Lib.hid hzW
  clear h h' hbW hW hzW
  go_enter Try.func71, Try.ntmps71
  go_wp2_with fail
  rw [HW.out]
  go_cut [7] (fun sa wx => ∃ p a b ca cb : Nat, sa = .pointer (some ⟨p, 0, none⟩) ∧ Below W.heap.size W wx ∧ W.heap.size ≤ p ∧ CntBox wx W.heap.size p a b ca cb x y)
  case first =>
    have HS0 : Below W.heap.size W W.drew := (Below.refl _ W).drew
    refine wp_region_held_drew (S := fun w' => Below W.heap.size W w') (by kernel_rfl) HS0 (fun hHeld => ?_)
    clear hHeld
    generalize W.drew = D at HS0 ⊢
    have hs0 := HS0.size
    have hHeld := HS0
    refine wpAnyH_take (i := 0) (v := ?v1) rfl (by kernel_rfl) (by kernel_rfl) (by kernel_rfl) (fun _ _ _ h => h) (Or.inl ⟨by rfl, ?y1⟩) (by assumption) ?z1
    case y1 => (intro w hSw; go_simp; first | done | with_reducible rfl)
    try simp only [List.getElem_toArray, List.getElem_cons_succ, List.getElem_cons_zero, Act.put, List.setIfInBounds_toArray, List.set_cons_zero, List.set_cons_succ]
    refine wpAnyH_take (i := 1) (v := ?v2) rfl (by kernel_rfl) (by kernel_rfl) (by kernel_rfl) (fun _ _ _ h => h) (Or.inl ⟨by rfl, ?y2⟩) (by assumption) ?z2
    case y2 => (intro w hSw; go_simp; first | done | with_reducible rfl)
    try simp only [List.getElem_toArray, List.getElem_cons_succ, List.getElem_cons_zero, Act.put, List.setIfInBounds_toArray, List.set_cons_zero, List.set_cons_succ]
    refine wpAnyH_take (i := 3) (v := ?v3) rfl (by kernel_rfl) (by kernel_rfl) (by kernel_rfl) (fun _ _ _ h => h) (Or.inl ⟨by rfl, ?y3⟩) (by assumption) ?z3
    case y3 => (intro w hSw; go_simp; first | done | with_reducible rfl)
    try simp only [List.getElem_toArray, List.getElem_cons_succ, List.getElem_cons_zero, Act.put, List.setIfInBounds_toArray, List.set_cons_zero, List.set_cons_succ]
    refine wpAnyH_take (i := 4) (v := ?v4) rfl (by kernel_rfl) (by kernel_rfl) (by kernel_rfl) (fun _ _ _ h => h) (Or.inl ⟨by rfl, ?y4⟩) (by assumption) ?z4
    case y4 => (intro w hSw; go_simp; first | done | with_reducible rfl)
    try simp only [List.getElem_toArray, List.getElem_cons_succ, List.getElem_cons_zero, Act.put, List.setIfInBounds_toArray, List.set_cons_zero, List.set_cons_succ]
    refine wpAnyH_ready (rs := [2, 7]) (by kernel_rfl) (by simp) ?_
    refine AllReadyH.cons rfl (fun K hK => ?_) (AllReadyH.cons rfl (fun K hK => ?_) AllReadyH.nil)
    · go_simp
      refine (HCX.out _ HS0).mono ?_
      rintro e w1 ⟨ga, ka, rfl, hb1, hla, hua, GX1⟩
      have HS1 : Below W.heap.size W w1 := HS0.trans (hb1.mono HS0.size)
      have hs1 := hb1.size
      refine hK.out _ _ HS1 (fun hHeld => ?_)
      clear hK K
      try simp only [List.getElem_toArray, List.getElem_cons_succ, List.getElem_cons_zero, Act.put, List.setIfInBounds_toArray, List.set_cons_zero, List.set_cons_succ]
      refine wpAnyH_ready (rs := [5, 7]) (by kernel_rfl) (by simp) ?_
      refine AllReadyH.cons rfl (fun K hK => ?_) (AllReadyH.cons rfl (fun K hK => ?_) AllReadyH.nil)
      · go_simp
        refine (HCY.out _ HS1).mono ?_
        rintro e w2 ⟨gb, kb, rfl, hb2, hlb, hub, GY2⟩
        have HS2 : Below W.heap.size W w2 := HS1.trans (hb2.mono HS1.size)
        have hs2 := hb2.size
        have GX2 := GX1.keep hb2
        refine hK.out _ _ HS2 (fun hHeld => ?_)
        clear hK K
        try simp only [List.getElem_toArray, List.getElem_cons_succ, List.getElem_cons_zero, Act.put, List.setIfInBounds_toArray, List.set_cons_zero, List.set_cons_succ]
        refine wpAnyH_take (i := 6) (v := ?v5) rfl (by kernel_rfl) (by kernel_rfl) (by kernel_rfl) (fun _ _ _ h => h) (Or.inl ⟨by rfl, ?y5⟩) (by assumption) ?z5
        case y5 => (intro w hSw; go_simp; first | done | with_reducible rfl)
        try simp only [List.getElem_toArray, List.getElem_cons_succ, List.getElem_cons_zero, Act.put, List.setIfInBounds_toArray, List.set_cons_zero, List.set_cons_succ]
        refine wpAnyH_ready (rs := [7]) (by kernel_rfl) (by simp) ?_
        refine AllReadyH.cons rfl (fun K hK => ?_) AllReadyH.nil
        go_simp
        obtain ⟨V, hV⟩ : ∃ V : World, V = (w2).alloc (.cells #[.slice none 0 0, .slice none 0 0] 28) := ⟨_, rfl⟩
        rw [← hV]
        have hbV : Below (w2).heap.size (w2) V := by rw [hV]; exact (Below.refl _ _).alloc (Nat.le_refl _) _
        have PL3 : (w2).heap.size < V.heap.size := by rw [hV]; simp
        have PR3 : V.rowIs (w2).heap.size 28 2 (fun _ => .slice none 0 0) := by rw [hV]; exact World.rowIs_alloc _ #[.slice none 0 0, .slice none 0 0] _ _ (fun i hi => by have : i = 0 ∨ i = 1 := (by simp at hi; omega); rcases this with rfl | rfl <;> rfl)
        have HS3 : Below W.heap.size W V := HS2.trans (hbV.mono HS2.size)
        have hsV := hbV.size
        clear hV
        have GX3 := GX2.keep hbV
        have GY3 := GY2.keep hbV
        refine hK.out _ _ HS3 (fun hHeld => ?_)
        clear hK K
        try simp only [List.getElem_toArray, List.getElem_cons_succ, List.getElem_cons_zero, Act.put, List.setIfInBounds_toArray, List.set_cons_zero, List.set_cons_succ]
        refine wpAnyH_ready (rs := [8]) (by kernel_rfl) (by simp) ?_
        refine AllReadyH.cons rfl (fun K hK => ?_) AllReadyH.nil
        have PC0 := PR3.cell (i := 0) (by omega)
        have PC1 := PR3.cell (i := 1) (by omega)
        have PF0 := PR3.frozen 0
        have PF1 := PR3.frozen 1
        have PB := CntBox.made (GX3.baseC (b' := W.heap.size) (by first | exact Nat.le_refl _ | omega)) (GY3.baseC (b' := W.heap.size) (by first | exact Nat.le_refl _ | omega)) (by first | omega) PR3 (by first | omega) (by first | omega)
        have PLE : W.heap.size ≤ (w2).heap.size := by first | exact Nat.le_refl _ | omega
        have HS4 := (HS3.setCell (p := ⟨(w2).heap.size, 0, none⟩) PLE (.slice (some ⟨ga, 0, none⟩) x.length ka)).setCell (p := ⟨(w2).heap.size, 1, none⟩) PLE (.slice (some ⟨gb, 0, none⟩) y.length kb)
        go_simp
        refine hK.out _ _ HS4 (fun hHeld => ?_)
        clear hK K
        try simp only [List.getElem_toArray, List.getElem_cons_succ, List.getElem_cons_zero, Act.put, List.setIfInBounds_toArray, List.set_cons_zero, List.set_cons_succ]
        refine wpAnyH_done (by kernel_rfl) ?_ _
        go_wp2_with fail
        go_meet
        exact ⟨_, ga, gb, ka, kb, rfl, HS4, PLE, PB⟩
      · go_simp
        obtain ⟨V, hV⟩ : ∃ V : World, V = (w1).alloc (.cells #[.slice none 0 0, .slice none 0 0] 28) := ⟨_, rfl⟩
        rw [← hV]
        have hbV : Below (w1).heap.size (w1) V := by rw [hV]; exact (Below.refl _ _).alloc (Nat.le_refl _) _
        have PL2 : (w1).heap.size < V.heap.size := by rw [hV]; simp
        have PR2 : V.rowIs (w1).heap.size 28 2 (fun _ => .slice none 0 0) := by rw [hV]; exact World.rowIs_alloc _ #[.slice none 0 0, .slice none 0 0] _ _ (fun i hi => by have : i = 0 ∨ i = 1 := (by simp at hi; omega); rcases this with rfl | rfl <;> rfl)
        have HS2 : Below W.heap.size W V := HS1.trans (hbV.mono HS1.size)
        have hsV := hbV.size
        clear hV
        have GX2 := GX1.keep hbV
        refine hK.out _ _ HS2 (fun hHeld => ?_)
        clear hK K
        try simp only [List.getElem_toArray, List.getElem_cons_succ, List.getElem_cons_zero, Act.put, List.setIfInBounds_toArray, List.set_cons_zero, List.set_cons_succ]
        refine wpAnyH_ready (rs := [5]) (by kernel_rfl) (by simp) ?_
        refine AllReadyH.cons rfl (fun K hK => ?_) AllReadyH.nil
        go_simp
        refine (HCY.out _ HS2).mono ?_
        rintro e w2 ⟨gb, kb, rfl, hb2, hlb, hub, GY3⟩
        have HS3 : Below W.heap.size W w2 := HS2.trans (hb2.mono HS2.size)
        have hs2 := hb2.size
        have PR3 := PR2.of_block (hb2.block _ PL2)
        have PL3 := Nat.lt_of_lt_of_le PL2 hb2.size
        have GX3 := GX2.keep hb2
        refine hK.out _ _ HS3 (fun hHeld => ?_)
        clear hK K
        try simp only [List.getElem_toArray, List.getElem_cons_succ, List.getElem_cons_zero, Act.put, List.setIfInBounds_toArray, List.set_cons_zero, List.set_cons_succ]
        refine wpAnyH_take (i := 6) (v := ?v6) rfl (by kernel_rfl) (by kernel_rfl) (by kernel_rfl) (fun _ _ _ h => h) (Or.inl ⟨by rfl, ?y6⟩) (by assumption) ?z6
        case y6 => (intro w hSw; go_simp; first | done | with_reducible rfl)
        try simp only [List.getElem_toArray, List.getElem_cons_succ, List.getElem_cons_zero, Act.put, List.setIfInBounds_toArray, List.set_cons_zero, List.set_cons_succ]
        refine wpAnyH_ready (rs := [8]) (by kernel_rfl) (by simp) ?_
        refine AllReadyH.cons rfl (fun K hK => ?_) AllReadyH.nil
        have PC0 := PR3.cell (i := 0) (by omega)
        have PC1 := PR3.cell (i := 1) (by omega)
        have PF0 := PR3.frozen 0
        have PF1 := PR3.frozen 1
        have PB := CntBox.made (GX3.baseC (b' := W.heap.size) (by first | exact Nat.le_refl _ | omega)) (GY3.baseC (b' := W.heap.size) (by first | exact Nat.le_refl _ | omega)) (by first | omega) PR3 (by first | omega) (by first | omega)
        have PLE : W.heap.size ≤ (w1).heap.size := by first | exact Nat.le_refl _ | omega
        have HS4 := (HS3.setCell (p := ⟨(w1).heap.size, 0, none⟩) PLE (.slice (some ⟨ga, 0, none⟩) x.length ka)).setCell (p := ⟨(w1).heap.size, 1, none⟩) PLE (.slice (some ⟨gb, 0, none⟩) y.length kb)
        go_simp
        refine hK.out _ _ HS4 (fun hHeld => ?_)
        clear hK K
        try simp only [List.getElem_toArray, List.getElem_cons_succ, List.getElem_cons_zero, Act.put, List.setIfInBounds_toArray, List.set_cons_zero, List.set_cons_succ]
        refine wpAnyH_done (by kernel_rfl) ?_ _
        go_wp2_with fail
        go_meet
        exact ⟨_, ga, gb, ka, kb, rfl, HS4, PLE, PB⟩
    · go_simp
      obtain ⟨V, hV⟩ : ∃ V : World, V = (D).alloc (.cells #[.slice none 0 0, .slice none 0 0] 28) := ⟨_, rfl⟩
      rw [← hV]
      have hbV : Below (D).heap.size (D) V := by rw [hV]; exact (Below.refl _ _).alloc (Nat.le_refl _) _
      have PL1 : (D).heap.size < V.heap.size := by rw [hV]; simp
      have PR1 : V.rowIs (D).heap.size 28 2 (fun _ => .slice none 0 0) := by rw [hV]; exact World.rowIs_alloc _ #[.slice none 0 0, .slice none 0 0] _ _ (fun i hi => by have : i = 0 ∨ i = 1 := (by simp at hi; omega); rcases this with rfl | rfl <;> rfl)
      have HS1 : Below W.heap.size W V := HS0.trans (hbV.mono HS0.size)
      have hsV := hbV.size
      clear hV
      refine hK.out _ _ HS1 (fun hHeld => ?_)
      clear hK K
      try simp only [List.getElem_toArray, List.getElem_cons_succ, List.getElem_cons_zero, Act.put, List.setIfInBounds_toArray, List.set_cons_zero, List.set_cons_succ]
      refine wpAnyH_ready (rs := [2]) (by kernel_rfl) (by simp) ?_
      refine AllReadyH.cons rfl (fun K hK => ?_) AllReadyH.nil
      go_simp
      refine (HCX.out _ HS1).mono ?_
      rintro e w1 ⟨ga, ka, rfl, hb1, hla, hua, GX2⟩
      have HS2 : Below W.heap.size W w1 := HS1.trans (hb1.mono HS1.size)
      have hs1 := hb1.size
      have PR2 := PR1.of_block (hb1.block _ PL1)
      have PL2 := Nat.lt_of_lt_of_le PL1 hb1.size
      refine hK.out _ _ HS2 (fun hHeld => ?_)
      clear hK K
      try simp only [List.getElem_toArray, List.getElem_cons_succ, List.getElem_cons_zero, Act.put, List.setIfInBounds_toArray, List.set_cons_zero, List.set_cons_succ]
      refine wpAnyH_ready (rs := [5]) (by kernel_rfl) (by simp) ?_
      refine AllReadyH.cons rfl (fun K hK => ?_) AllReadyH.nil
      go_simp
      refine (HCY.out _ HS2).mono ?_
      rintro e w2 ⟨gb, kb, rfl, hb2, hlb, hub, GY3⟩
      have HS3 : Below W.heap.size W w2 := HS2.trans (hb2.mono HS2.size)
      have hs2 := hb2.size
      have PR3 := PR2.of_block (hb2.block _ PL2)
      have PL3 := Nat.lt_of_lt_of_le PL2 hb2.size
      have GX3 := GX2.keep hb2
      refine hK.out _ _ HS3 (fun hHeld => ?_)
      clear hK K
      try simp only [List.getElem_toArray, List.getElem_cons_succ, List.getElem_cons_zero, Act.put, List.setIfInBounds_toArray, List.set_cons_zero, List.set_cons_succ]
      refine wpAnyH_take (i := 6) (v := ?v7) rfl (by kernel_rfl) (by kernel_rfl) (by kernel_rfl) (fun _ _ _ h => h) (Or.inl ⟨by rfl, ?y7⟩) (by assumption) ?z7
      case y7 => (intro w hSw; go_simp; first | done | with_reducible rfl)
      try simp only [List.getElem_toArray, List.getElem_cons_succ, List.getElem_cons_zero, Act.put, List.setIfInBounds_toArray, List.set_cons_zero, List.set_cons_succ]
      refine wpAnyH_ready (rs := [8]) (by kernel_rfl) (by simp) ?_
      refine AllReadyH.cons rfl (fun K hK => ?_) AllReadyH.nil
      have PC0 := PR3.cell (i := 0) (by omega)
      have PC1 := PR3.cell (i := 1) (by omega)
      have PF0 := PR3.frozen 0
      have PF1 := PR3.frozen 1
      have PB := CntBox.made (GX3.baseC (b' := W.heap.size) (by first | exact Nat.le_refl _ | omega)) (GY3.baseC (b' := W.heap.size) (by first | exact Nat.le_refl _ | omega)) (by first | omega) PR3 (by first | omega) (by first | omega)
      have PLE : W.heap.size ≤ (D).heap.size := by first | exact Nat.le_refl _ | omega
      have HS4 := (HS3.setCell (p := ⟨(D).heap.size, 0, none⟩) PLE (.slice (some ⟨ga, 0, none⟩) x.length ka)).setCell (p := ⟨(D).heap.size, 1, none⟩) PLE (.slice (some ⟨gb, 0, none⟩) y.length kb)
      go_simp
      refine hK.out _ _ HS4 (fun hHeld => ?_)
      clear hK K
      try simp only [List.getElem_toArray, List.getElem_cons_succ, List.getElem_cons_zero, Act.put, List.setIfInBounds_toArray, List.set_cons_zero, List.set_cons_succ]
      refine wpAnyH_done (by kernel_rfl) ?_ _
      go_wp2_with fail
      go_meet
      exact ⟨_, ga, gb, ka, kb, rfl, HS4, PLE, PB⟩
  case rest =>
    obtain ⟨p, a, b, ca, cb, rfl, hbw, hp, hbx⟩ := hcut
    have hlt := hbx.at_.lt
    have c0 : wc.cell? ⟨p, 0, none⟩ = some (.slice (some ⟨a, 0, none⟩) x.length ca) := hbx.row.cell (i := 0) (by omega)
    have c1 : wc.cell? ⟨p, 1, none⟩ = some (.slice (some ⟨b, 0, none⟩) y.length cb) := hbx.row.cell (i := 1) (by omega)
    have d0 := hbx.at_.one.cellG hr
    have d1 := hbx.at_.two.cellG hs
    have f0 := World.ownsRow.frozenAt hbx.at_.one r
    have f1 := World.ownsRow.frozenAt hbx.at_.two s
    have e0 := r10 _ hbw
    have e1 := r11 _ hbw
    have e2 := g10 _ hbw
    have e3 := g11 _ hbw
    have hz := HZW.out
    obtain ⟨R, hR⟩ : ∃ R, w.heap.size + 1 = R := ⟨_, rfl⟩
    rw [hR] at e0 e1 e2 e3
    have n1 : ¬ p = a := hbx.pa
    have n2 : ¬ p = b := hbx.pb
    have n3 : ¬ a = b := hbx.at_.ne
    have n4 : ¬ R = a := by omega
    have n5 : ¬ R = b := by omega
    have n6 : ¬ R = p := by omega
    have m1 : ¬ a = p := fun h => n1 h.symm
    have m2 : ¬ b = p := fun h => n2 h.symm
    have m3 : ¬ b = a := fun h => n3 h.symm
    have m4 : ¬ a = R := fun h => n4 h.symm
    have m5 : ¬ b = R := fun h => n5 h.symm
    have m6 : ¬ p = R := fun h => n6 h.symm
    have v1 : IntKind.i64.wrap (nth x r + 1) = nth x r + 1 := IntWalk.i64_in _ ⟨by omega, by omega⟩
    have v2 : IntKind.i64.wrap (nth y s + 1) = nth y s + 1 := IntWalk.i64_in _ ⟨by omega, by omega⟩
    have HBX := Lib.hid hbx
    have HBb := Lib.hid (belT HBW.out hbw)
    have HNE := Lib.hid (And.intro n4 n5)
    have HLO : Hid (w.heap.size ≤ R ∧ w.heap.size ≤ a ∧ w.heap.size ≤ b) := by show _ ∧ _; omega
    have HLW : Hid (w.heap.size ≤ W.heap.size) := by show _ ≤ _; omega
    clear hz hp hlt hbw hbx r00 r01 r10 r11 g10 g11
    rw [hR]
    go_wp2_with fail
    refine bodyPost_ret (v := .agg #[.slice (some ⟨a, 0, none⟩) x.length ca, .slice (some ⟨b, 0, none⟩) y.length cb]) (by simp [results, Try.results71, go_sem, e0, e1, e2, e3, n4, n5, n6, m4, m5, m6]) rfl ?_
    refine ⟨a, b, ca, cb, by rw [bump_length, bump_length], (((HBb.out.setCell (p := ⟨a, r, none⟩) HLO.out.2.1 _).setCell (p := ⟨b, s, none⟩) HLO.out.2.2 _).setCell (p := ⟨R, 0, none⟩) HLO.out.1 _).setCell (p := ⟨R, 1, none⟩) HLO.out.1 _, (HBX.out.at_.bump2 r s HNE.out.1 HNE.out.2 _ _).base HLW.out⟩

end Go.Proofs.Ytakkdpjgdmngkaa

namespace Go.Proofs.Ytakkdpjgdmngkaa
set_option linter.unusedSimpArgs false
set_option linter.unusedVariables false
open Go.RowKit

theorem bestN_max (l : List Int) (f : Nat → Int) (hf : ∀ i, i < l.length → nth l i = f i) : ∀ k, k + 1 ≤ l.length → bestN gtB l (k + 1) = maxAt f k
  | 0, h => by unfold bestN; split <;> rfl
  | k + 1, h => by
    have ih := bestN_max l f hf k (by omega)
    have hb := maxAt_le f k
    show (if gtB (nth l (k + 1)) (nth l (bestN gtB l (k + 1))) = true then k + 1 else bestN gtB l (k + 1)) = if f (maxAt f k) < f (k + 1) then k + 1 else maxAt f k
    rw [ih, hf (k + 1) (by omega), hf _ (by omega)]
    simp [gtB]

theorem bestN_min (l : List Int) (f : Nat → Int) (hf : ∀ i, i < l.length → nth l i = f i) : ∀ k, k + 1 ≤ l.length → bestN ltB l (k + 1) = minAt f k
  | 0, h => by unfold bestN; split <;> rfl
  | k + 1, h => by
    have ih := bestN_min l f hf k (by omega)
    have hb := minAt_le f k
    show (if ltB (nth l (k + 1)) (nth l (bestN ltB l (k + 1))) = true then k + 1 else bestN ltB l (k + 1)) = if f (k + 1) < f (minAt f k) then k + 1 else minAt f k
    rw [ih, hf (k + 1) (by omega), hf _ (by omega)]
    simp [ltB]

theorem next_row {g : List (List Int)} (h1 : 1 ≤ g.length) (y : List Int) : bestN gtB (rowsD g y) (rowsD g y).length = nextX g y := by
  rw [rowsD_length]
  have := bestN_max (rowsD g y) (rowD g y) (fun i hi => nth_rowsD g y i (by rwa [rowsD_length] at hi)) (g.length - 1) (by rw [rowsD_length]; omega)
  rw [show g.length - 1 + 1 = g.length by omega] at this
  exact this

theorem next_col {g : List (List Int)} {x : List Int} (h1 : 1 ≤ (rowAt g 0).length) (hx : x.length = g.length) : bestN ltB (rowsD (cols g) x) (rowsD (cols g) x).length = nextY g x := by
  rw [rowsD_length, cols_length]
  have := bestN_min (rowsD (cols g) x) (colD g x) (fun i hi => by rw [rowsD_length, cols_length] at hi; rw [rowsD_cols hx, nth_colsD _ _ _ hi]) ((rowAt g 0).length - 1) (by rw [rowsD_length, cols_length]; omega)
  rw [show (rowAt g 0).length - 1 + 1 = (rowAt g 0).length by omega] at this
  exact this

set_option maxHeartbeats 4000000 in
set_option maxRecDepth 100000 in
theorem nextI (T A B : Option Addr) (c d e : Nat) (g : List (List Int)) (x y : List Int) (hb : gameB g = true) (hmx : Mix x g.length) (hmy : Mix y (rowAt g 0).length) (bx : ∀ i, i < x.length → 0 ≤ nth x i ∧ nth x i ≤ 1000) (hby : ∀ i, i < y.length → 0 ≤ nth y i ∧ nth y i ≤ 1000)
    (w : World) (h : Rows2 w (· < w.heap.size) T g) (h1 : Ints w (· < w.heap.size) A x) (h2 : Ints w (· < w.heap.size) B y) :
    Calls Try.prog 72 #[.agg #[.slice A x.length d, .slice B y.length e], .slice T g.length c] w (NewCnt w (bump x (nextX g y)) (bump y (nextY g x))) := by
  have hg := Game.of hb
  have hg1 := hg.lo
  have hg2 := hg.hi
  have hg3 := hg.mlo
  have hg4 := hg.mhi
  have hlx := hmx.len
  have hly := hmy.len
  have nx : nextX g y < x.length := by have := maxAt_le (rowD g y) (g.length - 1); unfold nextX; omega
  have ny : nextY g x < y.length := by have := minAt_le (colD g x) ((rowAt g 0).length - 1); unfold nextY; omega
  obtain ⟨X, hX⟩ : ∃ X, nextX g y = X := ⟨_, rfl⟩
  obtain ⟨Y, hY⟩ : ∃ Y, nextY g x = Y := ⟨_, rfl⟩
  have HNX : Hid (bestN gtB (rowsD g y) (rowsD g y).length = X) := (next_row hg1 y).trans hX
  have HNY : Hid (bestN ltB (rowsD (cols g) x) (rowsD (cols g) x).length = Y) := (next_col hg3 hlx).trans hY
  rw [hX] at nx ⊢
  rw [hY] at ny ⊢
  clear hX hY
  obtain ⟨sx1, sx2⟩ := hmx.sum_bd
  rw [← hlx] at sx1 sx2
  obtain ⟨sy1, sy2⟩ := hmy.sum_bd
  rw [← hly] at sy1 sy2
  have HMX := Lib.hid hmx.self
  have HMY := Lib.hid hmy.self
  have HGY : Hid (Game g y.length) := by show Game _ _; rw [hly]; exact hg
  have HGX : Hid (Game (cols g) x.length) := by show Game _ _; rw [hlx]; exact cols_game hg
  have HGG := Lib.hid hg
  have HCL := Lib.hid (cols_length g)
  have HML : Hid (∀ i, i < (cols g).length → (rowAt (cols g) i).length ≤ maxLen) := fun i hi => by rw [rowAt_cols_length g i (by rwa [cols_length] at hi)]; unfold maxLen; omega
  have HLY : Hid (0 < (rowsD g y).length ∧ (rowsD g y).length ≤ 16) := by show _ ∧ _; rw [rowsD_length]; omega
  have HLX : Hid (0 < (rowsD (cols g) x).length ∧ (rowsD (cols g) x).length ≤ 16) := by show _ ∧ _; rw [rowsD_length, cols_length]; omega
  have HBY : Hid (∀ i, i < (rowsD g y).length → -14400000 ≤ nth (rowsD g y) i ∧ nth (rowsD g y) i ≤ 14400000) := fun i hi => by
    rw [rowsD_length] at hi
    rw [nth_rowsD _ _ i hi]; exact rowD_bd HGY.out HMY.out i hi
  have HBX : Hid (∀ i, i < (rowsD (cols g) x).length → -14400000 ≤ nth (rowsD (cols g) x) i ∧ nth (rowsD (cols g) x) i ≤ 14400000) := fun i hi => by
    rw [rowsD_length] at hi
    rw [nth_rowsD _ _ i hi]; exact rowD_bd HGX.out HMX.out i hi
  have HSX := Lib.hid (And.intro sx1 sx2)
  have HSY := Lib.hid (And.intro sy1 sy2)
  have HPX := Lib.hid (bx X nx)
  have HPY := Lib.hid (hby Y ny)
  have HLN : Hid (x.length ≤ 16 ∧ y.length ≤ 16) := by show _ ∧ _; omega
  have HNN := Lib.hid (And.intro nx ny)
  obtain ⟨W, hW⟩ : ∃ W : World, W = (w.alloc (.cells #[.slice A x.length d, .slice B y.length e] 28)).alloc (.cells #[.slice none 0 0, .slice none 0 0] 28) := ⟨_, rfl⟩
  have hzW : W.heap.size = w.heap.size + 2 := by rw [hW]; simp
  have hbW : Below w.heap.size w W := by rw [hW]; exact ((Below.refl _ w).alloc (Nat.le_refl _) _).alloc (by simp) _
  have r00 := stays (p := w.heap.size) (o := 0) (by omega) (show W.cell? ⟨w.heap.size, 0, none⟩ = some (.slice A x.length d) from by rw [hW]; simp [go_sem])
  have r01 := stays (p := w.heap.size) (o := 1) (by omega) (show W.cell? ⟨w.heap.size, 1, none⟩ = some (.slice B y.length e) from by rw [hW]; simp [go_sem])
  have r10 := stays (p := w.heap.size + 1) (o := 0) (by omega) (show W.cell? ⟨w.heap.size + 1, 0, none⟩ = some (.slice none 0 0) from by rw [hW]; simp [go_sem])
  have g10 := staysF (p := w.heap.size + 1) (o := 0) (by omega) (show W.frozen? ⟨w.heap.size + 1, 0, none⟩ = false from by rw [hW]; simp [go_sem])
  have r11 := stays (p := w.heap.size + 1) (o := 1) (by omega) (show W.cell? ⟨w.heap.size + 1, 1, none⟩ = some (.slice none 0 0) from by rw [hW]; simp [go_sem])
  have g11 := staysF (p := w.heap.size + 1) (o := 1) (by omega) (show W.frozen? ⟨w.heap.size + 1, 1, none⟩ = false from by rw [hW]; simp [go_sem])
  have HR : Hid (∀ w', Below W.heap.size W w' → Rows2 w' (· < w'.heap.size) T g) := fun w' hb => (keepRows (belT hbW hb) h).lt (belT hbW hb).size
  have HX : Hid (∀ w', Below W.heap.size W w' → Ints w' (· < w'.heap.size) A x) := fun w' hb => (keepInts (belT hbW hb) h1).lt (belT hbW hb).size
  have HY : Hid (∀ w', Below W.heap.size W w' → Ints w' (· < w'.heap.size) B y) := fun w' hb => (keepInts (belT hbW hb) h2).lt (belT hbW hb).size
  have HW := Lib.hid hW.symm
  have HBW := Lib.hid hbW
  have HZW := Lib.hid hzW
  clear h h1 h2 hbW hW hzW hb hmx hmy bx hby hg hg1 hg2 hg3 hg4 hlx hly nx ny sx1 sx2 sy1 sy2
  have s00 := r00 W (Below.refl _ _)
  have s01 := r01 W (Below.refl _ _)
  go_enter Try.func72, Try.ntmps72
  go_wp2_with fail
  rw [HW.out]
  clear s00 s01
  refine (averagesOf _ _ _ _ g y HGY.out HMY.out _ (HR.out _ (Below.refl _ _)) (HY.out _ (Below.refl _ _))).mono ?_
  rintro e w1 ⟨bq, rfl, hb1, _, hr⟩
  have FR1 := Lib.hid hr
  have HK1 := Lib.hid hb1
  clear hr hb1
  go_wp2_with fail
  refine (bestOfF _ _ gtB (moreF HSY.out.1 HSY.out.2) bq _ (rowsD g y) HLY.out.1 HLY.out.2 HBY.out _ FR1.out).mono ?_
  rintro e w2 ⟨rfl, hb2⟩
  rw [HNX.out]
  have HK2 := Lib.hid (belT HK1.out hb2)
  clear hb2 FR1 HK1
  go_wp2_with fail
  obtain ⟨V0, hV0⟩ : ∃ V0 : World, w2.alloc (.cells #[.int .i64 (lowU (nth (rowsD g y) X) (sumW y y.length)), .int .i64 (lowD (nth (rowsD g y) X) (sumW y y.length))] 34) = V0 := ⟨_, rfl⟩
  have HK3 : Hid (Below W.heap.size W V0) := by rw [← hV0]; exact HK2.out.alloc HK2.out.size _
  rw [hV0]
  clear hV0 HK2
  go_cut [8] (fun sb wx => sb = .int .i64 (Y : Nat) ∧ Below W.heap.size W wx)
  case first =>
    have HS0 : Below W.heap.size W V0.drew := HK3.out.drew
    refine wp_region_held_drew (S := fun w' => Below W.heap.size W w') (by kernel_rfl) HS0 (fun hHeld => ?_)
    clear hHeld
    generalize V0.drew = D at HS0 ⊢
    have hs0 := HS0.size
    have hHeld := HS0
    refine wpAnyH_take (i := 0) (v := ?v1) rfl (by kernel_rfl) (by kernel_rfl) (by kernel_rfl) (fun _ _ _ h => h) (Or.inl ⟨by rfl, ?y1⟩) (by assumption) ?z1
    case y1 => (intro w hSw; go_simp; first | done | with_reducible rfl)
    try simp only [List.getElem_toArray, List.getElem_cons_succ, List.getElem_cons_zero, Act.put, List.setIfInBounds_toArray, List.set_cons_zero, List.set_cons_succ]
    refine wpAnyH_take (i := 2) (v := ?v2) rfl (by kernel_rfl) (by kernel_rfl) (by kernel_rfl) (fun _ _ _ h => h) (Or.inl ⟨by rfl, ?y2⟩) (by assumption) ?z2
    case y2 => (intro w hSw; go_simp; first | done | with_reducible rfl)
    try simp only [List.getElem_toArray, List.getElem_cons_succ, List.getElem_cons_zero, Act.put, List.setIfInBounds_toArray, List.set_cons_zero, List.set_cons_succ]
    refine wpAnyH_take (i := 3) (v := ?v3) rfl (by kernel_rfl) (by kernel_rfl) (by kernel_rfl) (fun _ _ _ h => h) (Or.inl ⟨by rfl, ?y3⟩) (by assumption) ?z3
    case y3 => (intro w hSw; go_simp; first | done | with_reducible rfl)
    try simp only [List.getElem_toArray, List.getElem_cons_succ, List.getElem_cons_zero, Act.put, List.setIfInBounds_toArray, List.set_cons_zero, List.set_cons_succ]
    refine wpAnyH_ready (rs := [1, 9]) (by kernel_rfl) (by simp) ?_
    refine AllReadyH.cons rfl (fun K hK => ?_) (AllReadyH.cons rfl (fun K hK => ?_) AllReadyH.nil)
    · go_simp
      refine (columnsOf _ _ g _ HGG.out _ (HR.out _ HS0)).mono ?_
      rintro e u1 ⟨rfl, hL⟩
      have hb1 := hL.bel
      have RC1 := hL.rows2 (S := (· < u1.heap.size)) (fun _ _ h => h) HML.out
      clear hL
      have HS1 : Below W.heap.size W u1 := HS0.trans (hb1.mono HS0.size)
      have shb1 := hb1.size
      refine hK.out _ _ HS1 (fun hHeld => ?_)
      clear hK K
      try simp only [List.getElem_toArray, List.getElem_cons_succ, List.getElem_cons_zero, Act.put, List.setIfInBounds_toArray, List.set_cons_zero, List.set_cons_succ]
      refine wpAnyH_ready (rs := [4, 9]) (by kernel_rfl) (by simp) ?_
      refine AllReadyH.cons rfl (fun K hK => ?_) (AllReadyH.cons rfl (fun K hK => ?_) AllReadyH.nil)
      · go_simp
        refine (averagesOf _ _ _ _ (cols g) x HGX.out HMX.out _ RC1 (HX.out _ HS1)).mono ?_
        rintro e u2 ⟨bz, rfl, hb2, _, FC2⟩
        have HS2 : Below W.heap.size W u2 := HS1.trans (hb2.mono HS1.size)
        have shb2 := hb2.size
        have RC2 := (keepRows (hb2.mono (Nat.le_refl _)) RC1).lt hb2.size
        refine hK.out _ _ HS2 (fun hHeld => ?_)
        clear hK K
        try simp only [List.getElem_toArray, List.getElem_cons_succ, List.getElem_cons_zero, Act.put, List.setIfInBounds_toArray, List.set_cons_zero, List.set_cons_succ]
        refine wpAnyH_ready (rs := [5, 9]) (by kernel_rfl) (by simp) ?_
        refine AllReadyH.cons rfl (fun K hK => ?_) (AllReadyH.cons rfl (fun K hK => ?_) AllReadyH.nil)
        · go_simp
          refine (bestOfF _ _ ltB (lessF HSX.out.1 HSX.out.2) bz _ (rowsD (cols g) x) HLX.out.1 HLX.out.2 HBX.out _ FC2).mono ?_
          rintro e u3 ⟨rfl, hb3⟩
          rw [HNY.out]
          have HS3 : Below W.heap.size W u3 := HS2.trans (hb3.mono HS2.size)
          have shb3 := hb3.size
          have RC3 := (keepRows (hb3.mono (Nat.le_refl _)) RC2).lt hb3.size
          have FC3 := World.rowIs.of_block FC2 (hb3.block _ (World.rowIs.lt FC2))
          refine hK.out _ _ HS3 (fun hHeld => ?_)
          clear hK K
          try simp only [List.getElem_toArray, List.getElem_cons_succ, List.getElem_cons_zero, Act.put, List.setIfInBounds_toArray, List.set_cons_zero, List.set_cons_succ]
          refine wpAnyH_take (i := 6) (v := ?v4) rfl (by kernel_rfl) (by kernel_rfl) (by kernel_rfl) (fun _ _ _ h => h) (Or.inl ⟨by rfl, ?y4⟩) (by assumption) ?z4
          case y4 => (intro w hSw; go_simp; first | done | with_reducible rfl)
          try simp only [List.getElem_toArray, List.getElem_cons_succ, List.getElem_cons_zero, Act.put, List.setIfInBounds_toArray, List.set_cons_zero, List.set_cons_succ]
          refine wpAnyH_take (i := 7) (v := ?v5) rfl (by kernel_rfl) (by kernel_rfl) (by kernel_rfl) (fun _ _ _ h => h) (Or.inl ⟨by rfl, ?y5⟩) (by assumption) ?z5
          case y5 => (intro w hSw; go_simp; first | done | with_reducible rfl)
          try simp only [List.getElem_toArray, List.getElem_cons_succ, List.getElem_cons_zero, Act.put, List.setIfInBounds_toArray, List.set_cons_zero, List.set_cons_succ]
          refine wpAnyH_take (i := 8) (v := ?v6) rfl (by kernel_rfl) (by kernel_rfl) (by kernel_rfl) (fun _ _ _ h => h) (Or.inl ⟨by rfl, ?y6⟩) (by assumption) ?z6
          case y6 => (intro w hSw; go_simp; first | done | with_reducible rfl)
          try simp only [List.getElem_toArray, List.getElem_cons_succ, List.getElem_cons_zero, Act.put, List.setIfInBounds_toArray, List.set_cons_zero, List.set_cons_succ]
          refine wpAnyH_ready (rs := [9]) (by kernel_rfl) (by simp) ?_
          refine AllReadyH.cons rfl (fun K hK => ?_) AllReadyH.nil
          go_simp
          obtain ⟨V, hV⟩ : ∃ V : World, V = (u3).alloc (.cells #[.int .i64 0, .int .i64 0] 34) := ⟨_, rfl⟩
          rw [← hV]
          have hbV : Below (u3).heap.size (u3) V := by rw [hV]; exact (Below.refl _ _).alloc (Nat.le_refl _) _
          have PL4 : (u3).heap.size < V.heap.size := by rw [hV]; simp
          have PR4 : V.rowIs (u3).heap.size 34 2 (fun _ => .int .i64 0) := by rw [hV]; exact World.rowIs_alloc _ #[.int .i64 0, .int .i64 0] _ _ (fun i hi => by have : i = 0 ∨ i = 1 := (by simp at hi; omega); rcases this with rfl | rfl <;> rfl)
          have HS4 : Below W.heap.size W V := HS3.trans (hbV.mono HS3.size)
          have hsV := hbV.size
          clear hV
          have RC4 := (keepRows (hbV.mono (Nat.le_refl _)) RC3).lt hbV.size
          have FC4 := World.rowIs.of_block FC3 (hbV.block _ (World.rowIs.lt FC3))
          refine hK.out _ _ HS4 (fun hHeld => ?_)
          clear hK K
          try simp only [List.getElem_toArray, List.getElem_cons_succ, List.getElem_cons_zero, Act.put, List.setIfInBounds_toArray, List.set_cons_zero, List.set_cons_succ]
          refine wpAnyH_ready (rs := [10]) (by kernel_rfl) (by simp) ?_
          refine AllReadyH.cons rfl (fun K hK => ?_) AllReadyH.nil
          have PC0 := PR4.cell (i := 0) (by omega)
          have PC1 := PR4.cell (i := 1) (by omega)
          have PF0 := PR4.frozen 0
          have PF1 := PR4.frozen 1
          have PLE : W.heap.size ≤ (u3).heap.size := by first | exact Nat.le_refl _ | omega
          have HS5 : ∀ u v : Value, Below W.heap.size W ((V.setCell ⟨(u3).heap.size, 0, none⟩ u).setCell ⟨(u3).heap.size, 1, none⟩ v) := fun u v => (HS4.setCell PLE u).setCell PLE v
          have PRX := PR4
          have PLX := PL4
          go_simp
          refine hK.out _ _ (HS5 _ _) (fun hHeld => ?_)
          clear hK K
          try simp only [List.getElem_toArray, List.getElem_cons_succ, List.getElem_cons_zero, Act.put, List.setIfInBounds_toArray, List.set_cons_zero, List.set_cons_succ]
          refine wpAnyH_take (i := 11) (v := ?v7) rfl (by kernel_rfl) (by kernel_rfl) (by kernel_rfl) (fun _ _ _ h => h) (Or.inl ⟨by rfl, ?y7⟩) (by assumption) ?z7
          case y7 => (intro w hSw; go_simp; first | done | with_reducible rfl)
          try simp only [List.getElem_toArray, List.getElem_cons_succ, List.getElem_cons_zero, Act.put, List.setIfInBounds_toArray, List.set_cons_zero, List.set_cons_succ]
          refine wpAnyH_done (by kernel_rfl) ?_ _
          go_wp2_with fail
          go_meet
          exact ⟨rfl, HS5 _ _⟩
        · go_simp
          obtain ⟨V, hV⟩ : ∃ V : World, V = (u2).alloc (.cells #[.int .i64 0, .int .i64 0] 34) := ⟨_, rfl⟩
          rw [← hV]
          have hbV : Below (u2).heap.size (u2) V := by rw [hV]; exact (Below.refl _ _).alloc (Nat.le_refl _) _
          have PL3 : (u2).heap.size < V.heap.size := by rw [hV]; simp
          have PR3 : V.rowIs (u2).heap.size 34 2 (fun _ => .int .i64 0) := by rw [hV]; exact World.rowIs_alloc _ #[.int .i64 0, .int .i64 0] _ _ (fun i hi => by have : i = 0 ∨ i = 1 := (by simp at hi; omega); rcases this with rfl | rfl <;> rfl)
          have HS3 : Below W.heap.size W V := HS2.trans (hbV.mono HS2.size)
          have hsV := hbV.size
          clear hV
          have RC3 := (keepRows (hbV.mono (Nat.le_refl _)) RC2).lt hbV.size
          have FC3 := World.rowIs.of_block FC2 (hbV.block _ (World.rowIs.lt FC2))
          refine hK.out _ _ HS3 (fun hHeld => ?_)
          clear hK K
          try simp only [List.getElem_toArray, List.getElem_cons_succ, List.getElem_cons_zero, Act.put, List.setIfInBounds_toArray, List.set_cons_zero, List.set_cons_succ]
          refine wpAnyH_ready (rs := [5]) (by kernel_rfl) (by simp) ?_
          refine AllReadyH.cons rfl (fun K hK => ?_) AllReadyH.nil
          go_simp
          refine (bestOfF _ _ ltB (lessF HSX.out.1 HSX.out.2) bz _ (rowsD (cols g) x) HLX.out.1 HLX.out.2 HBX.out _ FC3).mono ?_
          rintro e u3 ⟨rfl, hb3⟩
          rw [HNY.out]
          have HS4 : Below W.heap.size W u3 := HS3.trans (hb3.mono HS3.size)
          have shb3 := hb3.size
          have PR4 := PR3.of_block (hb3.block _ PL3)
          have PL4 := Nat.lt_of_lt_of_le PL3 hb3.size
          have RC4 := (keepRows (hb3.mono (Nat.le_refl _)) RC3).lt hb3.size
          have FC4 := World.rowIs.of_block FC3 (hb3.block _ (World.rowIs.lt FC3))
          refine hK.out _ _ HS4 (fun hHeld => ?_)
          clear hK K
          try simp only [List.getElem_toArray, List.getElem_cons_succ, List.getElem_cons_zero, Act.put, List.setIfInBounds_toArray, List.set_cons_zero, List.set_cons_succ]
          refine wpAnyH_take (i := 6) (v := ?v8) rfl (by kernel_rfl) (by kernel_rfl) (by kernel_rfl) (fun _ _ _ h => h) (Or.inl ⟨by rfl, ?y8⟩) (by assumption) ?z8
          case y8 => (intro w hSw; go_simp; first | done | with_reducible rfl)
          try simp only [List.getElem_toArray, List.getElem_cons_succ, List.getElem_cons_zero, Act.put, List.setIfInBounds_toArray, List.set_cons_zero, List.set_cons_succ]
          refine wpAnyH_take (i := 7) (v := ?v9) rfl (by kernel_rfl) (by kernel_rfl) (by kernel_rfl) (fun _ _ _ h => h) (Or.inl ⟨by rfl, ?y9⟩) (by assumption) ?z9
          case y9 => (intro w hSw; go_simp; first | done | with_reducible rfl)
          try simp only [List.getElem_toArray, List.getElem_cons_succ, List.getElem_cons_zero, Act.put, List.setIfInBounds_toArray, List.set_cons_zero, List.set_cons_succ]
          refine wpAnyH_take (i := 8) (v := ?v10) rfl (by kernel_rfl) (by kernel_rfl) (by kernel_rfl) (fun _ _ _ h => h) (Or.inl ⟨by rfl, ?y10⟩) (by assumption) ?z10
          case y10 => (intro w hSw; go_simp; first | done | with_reducible rfl)
          try simp only [List.getElem_toArray, List.getElem_cons_succ, List.getElem_cons_zero, Act.put, List.setIfInBounds_toArray, List.set_cons_zero, List.set_cons_succ]
          refine wpAnyH_ready (rs := [10]) (by kernel_rfl) (by simp) ?_
          refine AllReadyH.cons rfl (fun K hK => ?_) AllReadyH.nil
          have PC0 := PR4.cell (i := 0) (by omega)
          have PC1 := PR4.cell (i := 1) (by omega)
          have PF0 := PR4.frozen 0
          have PF1 := PR4.frozen 1
          have PLE : W.heap.size ≤ (u2).heap.size := by first | exact Nat.le_refl _ | omega
          have HS5 : ∀ u v : Value, Below W.heap.size W ((u3.setCell ⟨(u2).heap.size, 0, none⟩ u).setCell ⟨(u2).heap.size, 1, none⟩ v) := fun u v => (HS4.setCell PLE u).setCell PLE v
          have PRX := PR4
          have PLX := PL4
          go_simp
          refine hK.out _ _ (HS5 _ _) (fun hHeld => ?_)
          clear hK K
          try simp only [List.getElem_toArray, List.getElem_cons_succ, List.getElem_cons_zero, Act.put, List.setIfInBounds_toArray, List.set_cons_zero, List.set_cons_succ]
          refine wpAnyH_take (i := 11) (v := ?v11) rfl (by kernel_rfl) (by kernel_rfl) (by kernel_rfl) (fun _ _ _ h => h) (Or.inl ⟨by rfl, ?y11⟩) (by assumption) ?z11
          case y11 => (intro w hSw; go_simp; first | done | with_reducible rfl)
          try simp only [List.getElem_toArray, List.getElem_cons_succ, List.getElem_cons_zero, Act.put, List.setIfInBounds_toArray, List.set_cons_zero, List.set_cons_succ]
          refine wpAnyH_done (by kernel_rfl) ?_ _
          go_wp2_with fail
          go_meet
          exact ⟨rfl, HS5 _ _⟩
      · go_simp
        obtain ⟨V, hV⟩ : ∃ V : World, V = (u1).alloc (.cells #[.int .i64 0, .int .i64 0] 34) := ⟨_, rfl⟩
        rw [← hV]
        have hbV : Below (u1).heap.size (u1) V := by rw [hV]; exact (Below.refl _ _).alloc (Nat.le_refl _) _
        have PL2 : (u1).heap.size < V.heap.size := by rw [hV]; simp
        have PR2 : V.rowIs (u1).heap.size 34 2 (fun _ => .int .i64 0) := by rw [hV]; exact World.rowIs_alloc _ #[.int .i64 0, .int .i64 0] _ _ (fun i hi => by have : i = 0 ∨ i = 1 := (by simp at hi; omega); rcases this with rfl | rfl <;> rfl)
        have HS2 : Below W.heap.size W V := HS1.trans (hbV.mono HS1.size)
        have hsV := hbV.size
        clear hV
        have RC2 := (keepRows (hbV.mono (Nat.le_refl _)) RC1).lt hbV.size
        refine hK.out _ _ HS2 (fun hHeld => ?_)
        clear hK K
        try simp only [List.getElem_toArray, List.getElem_cons_succ, List.getElem_cons_zero, Act.put, List.setIfInBounds_toArray, List.set_cons_zero, List.set_cons_succ]
        refine wpAnyH_ready (rs := [4]) (by kernel_rfl) (by simp) ?_
        refine AllReadyH.cons rfl (fun K hK => ?_) AllReadyH.nil
        go_simp
        refine (averagesOf _ _ _ _ (cols g) x HGX.out HMX.out _ RC2 (HX.out _ HS2)).mono ?_
        rintro e u2 ⟨bz, rfl, hb2, _, FC3⟩
        have HS3 : Below W.heap.size W u2 := HS2.trans (hb2.mono HS2.size)
        have shb2 := hb2.size
        have PR3 := PR2.of_block (hb2.block _ PL2)
        have PL3 := Nat.lt_of_lt_of_le PL2 hb2.size
        have RC3 := (keepRows (hb2.mono (Nat.le_refl _)) RC2).lt hb2.size
        refine hK.out _ _ HS3 (fun hHeld => ?_)
        clear hK K
        try simp only [List.getElem_toArray, List.getElem_cons_succ, List.getElem_cons_zero, Act.put, List.setIfInBounds_toArray, List.set_cons_zero, List.set_cons_succ]
        refine wpAnyH_ready (rs := [5]) (by kernel_rfl) (by simp) ?_
        refine AllReadyH.cons rfl (fun K hK => ?_) AllReadyH.nil
        go_simp
        refine (bestOfF _ _ ltB (lessF HSX.out.1 HSX.out.2) bz _ (rowsD (cols g) x) HLX.out.1 HLX.out.2 HBX.out _ FC3).mono ?_
        rintro e u3 ⟨rfl, hb3⟩
        rw [HNY.out]
        have HS4 : Below W.heap.size W u3 := HS3.trans (hb3.mono HS3.size)
        have shb3 := hb3.size
        have PR4 := PR3.of_block (hb3.block _ PL3)
        have PL4 := Nat.lt_of_lt_of_le PL3 hb3.size
        have RC4 := (keepRows (hb3.mono (Nat.le_refl _)) RC3).lt hb3.size
        have FC4 := World.rowIs.of_block FC3 (hb3.block _ (World.rowIs.lt FC3))
        refine hK.out _ _ HS4 (fun hHeld => ?_)
        clear hK K
        try simp only [List.getElem_toArray, List.getElem_cons_succ, List.getElem_cons_zero, Act.put, List.setIfInBounds_toArray, List.set_cons_zero, List.set_cons_succ]
        refine wpAnyH_take (i := 6) (v := ?v12) rfl (by kernel_rfl) (by kernel_rfl) (by kernel_rfl) (fun _ _ _ h => h) (Or.inl ⟨by rfl, ?y12⟩) (by assumption) ?z12
        case y12 => (intro w hSw; go_simp; first | done | with_reducible rfl)
        try simp only [List.getElem_toArray, List.getElem_cons_succ, List.getElem_cons_zero, Act.put, List.setIfInBounds_toArray, List.set_cons_zero, List.set_cons_succ]
        refine wpAnyH_take (i := 7) (v := ?v13) rfl (by kernel_rfl) (by kernel_rfl) (by kernel_rfl) (fun _ _ _ h => h) (Or.inl ⟨by rfl, ?y13⟩) (by assumption) ?z13
        case y13 => (intro w hSw; go_simp; first | done | with_reducible rfl)
        try simp only [List.getElem_toArray, List.getElem_cons_succ, List.getElem_cons_zero, Act.put, List.setIfInBounds_toArray, List.set_cons_zero, List.set_cons_succ]
        refine wpAnyH_take (i := 8) (v := ?v14) rfl (by kernel_rfl) (by kernel_rfl) (by kernel_rfl) (fun _ _ _ h => h) (Or.inl ⟨by rfl, ?y14⟩) (by assumption) ?z14
        case y14 => (intro w hSw; go_simp; first | done | with_reducible rfl)
        try simp only [List.getElem_toArray, List.getElem_cons_succ, List.getElem_cons_zero, Act.put, List.setIfInBounds_toArray, List.set_cons_zero, List.set_cons_succ]
        refine wpAnyH_ready (rs := [10]) (by kernel_rfl) (by simp) ?_
        refine AllReadyH.cons rfl (fun K hK => ?_) AllReadyH.nil
        have PC0 := PR4.cell (i := 0) (by omega)
        have PC1 := PR4.cell (i := 1) (by omega)
        have PF0 := PR4.frozen 0
        have PF1 := PR4.frozen 1
        have PLE : W.heap.size ≤ (u1).heap.size := by first | exact Nat.le_refl _ | omega
        have HS5 : ∀ u v : Value, Below W.heap.size W ((u3.setCell ⟨(u1).heap.size, 0, none⟩ u).setCell ⟨(u1).heap.size, 1, none⟩ v) := fun u v => (HS4.setCell PLE u).setCell PLE v
        have PRX := PR4
        have PLX := PL4
        go_simp
        refine hK.out _ _ (HS5 _ _) (fun hHeld => ?_)
        clear hK K
        try simp only [List.getElem_toArray, List.getElem_cons_succ, List.getElem_cons_zero, Act.put, List.setIfInBounds_toArray, List.set_cons_zero, List.set_cons_succ]
        refine wpAnyH_take (i := 11) (v := ?v15) rfl (by kernel_rfl) (by kernel_rfl) (by kernel_rfl) (fun _ _ _ h => h) (Or.inl ⟨by rfl, ?y15⟩) (by assumption) ?z15
        case y15 => (intro w hSw; go_simp; first | done | with_reducible rfl)
        try simp only [List.getElem_toArray, List.getElem_cons_succ, List.getElem_cons_zero, Act.put, List.setIfInBounds_toArray, List.set_cons_zero, List.set_cons_succ]
        refine wpAnyH_done (by kernel_rfl) ?_ _
        go_wp2_with fail
        go_meet
        exact ⟨rfl, HS5 _ _⟩
    · go_simp
      obtain ⟨V, hV⟩ : ∃ V : World, V = (D).alloc (.cells #[.int .i64 0, .int .i64 0] 34) := ⟨_, rfl⟩
      rw [← hV]
      have hbV : Below (D).heap.size (D) V := by rw [hV]; exact (Below.refl _ _).alloc (Nat.le_refl _) _
      have PL1 : (D).heap.size < V.heap.size := by rw [hV]; simp
      have PR1 : V.rowIs (D).heap.size 34 2 (fun _ => .int .i64 0) := by rw [hV]; exact World.rowIs_alloc _ #[.int .i64 0, .int .i64 0] _ _ (fun i hi => by have : i = 0 ∨ i = 1 := (by simp at hi; omega); rcases this with rfl | rfl <;> rfl)
      have HS1 : Below W.heap.size W V := HS0.trans (hbV.mono HS0.size)
      have hsV := hbV.size
      clear hV
      refine hK.out _ _ HS1 (fun hHeld => ?_)
      clear hK K
      try simp only [List.getElem_toArray, List.getElem_cons_succ, List.getElem_cons_zero, Act.put, List.setIfInBounds_toArray, List.set_cons_zero, List.set_cons_succ]
      refine wpAnyH_ready (rs := [1]) (by kernel_rfl) (by simp) ?_
      refine AllReadyH.cons rfl (fun K hK => ?_) AllReadyH.nil
      go_simp
      refine (columnsOf _ _ g _ HGG.out _ (HR.out _ HS1)).mono ?_
      rintro e u1 ⟨rfl, hL⟩
      have hb1 := hL.bel
      have RC2 := hL.rows2 (S := (· < u1.heap.size)) (fun _ _ h => h) HML.out
      clear hL
      have HS2 : Below W.heap.size W u1 := HS1.trans (hb1.mono HS1.size)
      have shb1 := hb1.size
      have PR2 := PR1.of_block (hb1.block _ PL1)
      have PL2 := Nat.lt_of_lt_of_le PL1 hb1.size
      refine hK.out _ _ HS2 (fun hHeld => ?_)
      clear hK K
      try simp only [List.getElem_toArray, List.getElem_cons_succ, List.getElem_cons_zero, Act.put, List.setIfInBounds_toArray, List.set_cons_zero, List.set_cons_succ]
      refine wpAnyH_ready (rs := [4]) (by kernel_rfl) (by simp) ?_
      refine AllReadyH.cons rfl (fun K hK => ?_) AllReadyH.nil
      go_simp
      refine (averagesOf _ _ _ _ (cols g) x HGX.out HMX.out _ RC2 (HX.out _ HS2)).mono ?_
      rintro e u2 ⟨bz, rfl, hb2, _, FC3⟩
      have HS3 : Below W.heap.size W u2 := HS2.trans (hb2.mono HS2.size)
      have shb2 := hb2.size
      have PR3 := PR2.of_block (hb2.block _ PL2)
      have PL3 := Nat.lt_of_lt_of_le PL2 hb2.size
      have RC3 := (keepRows (hb2.mono (Nat.le_refl _)) RC2).lt hb2.size
      refine hK.out _ _ HS3 (fun hHeld => ?_)
      clear hK K
      try simp only [List.getElem_toArray, List.getElem_cons_succ, List.getElem_cons_zero, Act.put, List.setIfInBounds_toArray, List.set_cons_zero, List.set_cons_succ]
      refine wpAnyH_ready (rs := [5]) (by kernel_rfl) (by simp) ?_
      refine AllReadyH.cons rfl (fun K hK => ?_) AllReadyH.nil
      go_simp
      refine (bestOfF _ _ ltB (lessF HSX.out.1 HSX.out.2) bz _ (rowsD (cols g) x) HLX.out.1 HLX.out.2 HBX.out _ FC3).mono ?_
      rintro e u3 ⟨rfl, hb3⟩
      rw [HNY.out]
      have HS4 : Below W.heap.size W u3 := HS3.trans (hb3.mono HS3.size)
      have shb3 := hb3.size
      have PR4 := PR3.of_block (hb3.block _ PL3)
      have PL4 := Nat.lt_of_lt_of_le PL3 hb3.size
      have RC4 := (keepRows (hb3.mono (Nat.le_refl _)) RC3).lt hb3.size
      have FC4 := World.rowIs.of_block FC3 (hb3.block _ (World.rowIs.lt FC3))
      refine hK.out _ _ HS4 (fun hHeld => ?_)
      clear hK K
      try simp only [List.getElem_toArray, List.getElem_cons_succ, List.getElem_cons_zero, Act.put, List.setIfInBounds_toArray, List.set_cons_zero, List.set_cons_succ]
      refine wpAnyH_take (i := 6) (v := ?v16) rfl (by kernel_rfl) (by kernel_rfl) (by kernel_rfl) (fun _ _ _ h => h) (Or.inl ⟨by rfl, ?y16⟩) (by assumption) ?z16
      case y16 => (intro w hSw; go_simp; first | done | with_reducible rfl)
      try simp only [List.getElem_toArray, List.getElem_cons_succ, List.getElem_cons_zero, Act.put, List.setIfInBounds_toArray, List.set_cons_zero, List.set_cons_succ]
      refine wpAnyH_take (i := 7) (v := ?v17) rfl (by kernel_rfl) (by kernel_rfl) (by kernel_rfl) (fun _ _ _ h => h) (Or.inl ⟨by rfl, ?y17⟩) (by assumption) ?z17
      case y17 => (intro w hSw; go_simp; first | done | with_reducible rfl)
      try simp only [List.getElem_toArray, List.getElem_cons_succ, List.getElem_cons_zero, Act.put, List.setIfInBounds_toArray, List.set_cons_zero, List.set_cons_succ]
      refine wpAnyH_take (i := 8) (v := ?v18) rfl (by kernel_rfl) (by kernel_rfl) (by kernel_rfl) (fun _ _ _ h => h) (Or.inl ⟨by rfl, ?y18⟩) (by assumption) ?z18
      case y18 => (intro w hSw; go_simp; first | done | with_reducible rfl)
      try simp only [List.getElem_toArray, List.getElem_cons_succ, List.getElem_cons_zero, Act.put, List.setIfInBounds_toArray, List.set_cons_zero, List.set_cons_succ]
      refine wpAnyH_ready (rs := [10]) (by kernel_rfl) (by simp) ?_
      refine AllReadyH.cons rfl (fun K hK => ?_) AllReadyH.nil
      have PC0 := PR4.cell (i := 0) (by omega)
      have PC1 := PR4.cell (i := 1) (by omega)
      have PF0 := PR4.frozen 0
      have PF1 := PR4.frozen 1
      have PLE : W.heap.size ≤ (D).heap.size := by first | exact Nat.le_refl _ | omega
      have HS5 : ∀ u v : Value, Below W.heap.size W ((u3.setCell ⟨(D).heap.size, 0, none⟩ u).setCell ⟨(D).heap.size, 1, none⟩ v) := fun u v => (HS4.setCell PLE u).setCell PLE v
      have PRX := PR4
      have PLX := PL4
      go_simp
      refine hK.out _ _ (HS5 _ _) (fun hHeld => ?_)
      clear hK K
      try simp only [List.getElem_toArray, List.getElem_cons_succ, List.getElem_cons_zero, Act.put, List.setIfInBounds_toArray, List.set_cons_zero, List.set_cons_succ]
      refine wpAnyH_take (i := 11) (v := ?v19) rfl (by kernel_rfl) (by kernel_rfl) (by kernel_rfl) (fun _ _ _ h => h) (Or.inl ⟨by rfl, ?y19⟩) (by assumption) ?z19
      case y19 => (intro w hSw; go_simp; first | done | with_reducible rfl)
      try simp only [List.getElem_toArray, List.getElem_cons_succ, List.getElem_cons_zero, Act.put, List.setIfInBounds_toArray, List.set_cons_zero, List.set_cons_succ]
      refine wpAnyH_done (by kernel_rfl) ?_ _
      go_wp2_with fail
      go_meet
      exact ⟨rfl, HS5 _ _⟩
  case rest =>
    obtain ⟨rfl, hbw⟩ := hcut
    have e0 := r00 _ hbw
    have e1 := r01 _ hbw
    have HBw := Lib.hid hbw
    clear r00 r01 hbw
    go_wp2_with fail
    refine (choosingI _ _ _ _ x y X Y HNN.out.1 HNN.out.2 HLN.out.1 HLN.out.2 HPX.out HPY.out _ (HX.out _ HBw.out) (HY.out _ HBw.out)).mono ?_
    rintro e w5 ⟨a, b, ca, cb, rfl, hb5, hc5⟩
    have hk5 := belT HBw.out hb5
    have e0 := r10 _ hk5
    have e1 := r11 _ hk5
    have e2 := g10 _ hk5
    have e3 := g11 _ hk5
    have HK5 := Lib.hid (belT HBW.out hk5)
    have hz := HZW.out
    have hlt := hc5.lt
    have hzz := HBw.out.size
    obtain ⟨R, hR⟩ : ∃ R, w.heap.size + 1 = R := ⟨_, rfl⟩
    rw [hR] at e0 e1 e2 e3
    have HNE : Hid (R ≠ a ∧ R ≠ b ∧ w.heap.size ≤ R ∧ w.heap.size ≤ wc.heap.size) := by show _ ∧ _ ∧ _ ∧ _; omega
    have HC5 := Lib.hid hc5
    clear hb5 hk5 r10 r11 g10 g11 hz hlt hzz hc5
    rw [hR]
    go_wp2_with fail
    refine bodyPost_ret (v := .agg #[.slice (some ⟨a, 0, none⟩) (bump x X).length ca, .slice (some ⟨b, 0, none⟩) (bump y Y).length cb]) (by simp [results, Try.results72, go_sem, e0, e1, e2, e3]) rfl ?_
    refine ⟨a, b, ca, cb, rfl, (HK5.out.setCell (p := ⟨R, 0, none⟩) HNE.out.2.2.1 _).setCell (p := ⟨R, 1, none⟩) HNE.out.2.2.1 _, ((HC5.out.keep ?_ ?_).base HNE.out.2.2.2)⟩
    · rw [Below.heap_setCell _ _ _ _ (by exact HNE.out.1.symm), Below.heap_setCell _ _ _ _ (by exact HNE.out.1.symm)]
    · rw [Below.heap_setCell _ _ _ _ (by exact HNE.out.2.1.symm), Below.heap_setCell _ _ _ _ (by exact HNE.out.2.1.symm)]

theorem FracBox.made {w : World} {p : Nat} {f : Nat → Value} (h : w.rowIs p 34 2 f) {u v : Value} : ((w.setCell ⟨p, 0, none⟩ u).setCell ⟨p, 1, none⟩ v).cell? ⟨p, 0, none⟩ = some u ∧ ((w.setCell ⟨p, 0, none⟩ u).setCell ⟨p, 1, none⟩ v).cell? ⟨p, 1, none⟩ = some v := by
  have h2 := (h.set 0 u).set 1 v
  exact ⟨by simpa using h2.cell (i := 0) (by omega), by simpa using h2.cell (i := 1) (by omega)⟩

set_option maxHeartbeats 4000000 in
set_option maxRecDepth 100000 in
theorem gapI (T A B : Option Addr) (c d e : Nat) (g : List (List Int)) (k : Nat) (hb : gameB g = true) (hk : k ≤ 59)
    (w : World) (h : Rows2 w (· < w.heap.size) T g) (h1 : Ints w (· < w.heap.size) A (lrnP g k).1) (h2 : Ints w (· < w.heap.size) B (lrnP g k).2) :
    Calls Try.prog 57 #[.agg #[.slice A (lrnP g k).1.length d, .slice B (lrnP g k).2.length e], .slice T g.length c] w (Adds (.agg #[.int .i64 (gpU g k), .int .i64 (gpD g k)]) w) := by
  have hg := Game.of hb
  have hg2 := hg.hi
  have hg4 := hg.mhi
  obtain ⟨l1, l2⟩ := lrnP_length g k
  have HPS := Lib.hid (gap_facts hb hk).ps
  have HPU : Hid (psU (risU g (lrnP g k).2) (risD g (lrnP g k).2) (mnU (safU g (lrnP g k).1) (safD g (lrnP g k).1)) (mnD (safU g (lrnP g k).1) (safD g (lrnP g k).1)) = gpU g k) := rfl
  have HPD : Hid (psD (risU g (lrnP g k).2) (risD g (lrnP g k).2) (mnU (safU g (lrnP g k).1) (safD g (lrnP g k).1)) (mnD (safU g (lrnP g k).1) (safD g (lrnP g k).1)) = gpD g k) := rfl
  obtain ⟨x, hx⟩ : ∃ x, (lrnP g k).1 = x := ⟨_, rfl⟩
  obtain ⟨y, hy⟩ : ∃ y, (lrnP g k).2 = y := ⟨_, rfl⟩
  rw [hx] at l1 h1 HPS HPU HPD ⊢
  rw [hy] at l2 h2 HPS HPU HPD ⊢
  have HLN : Hid (g.length ≤ maxLen ∧ x.length ≤ 4294967296 ∧ y.length ≤ 4294967296) := by show _ ∧ _ ∧ _; unfold maxLen; omega
  obtain ⟨W, hW⟩ : ∃ W : World, W = (w.alloc (.cells #[.slice A x.length d, .slice B y.length e] 28)).alloc (.cells #[.int .i64 0, .int .i64 0] 34) := ⟨_, rfl⟩
  have hzW : W.heap.size = w.heap.size + 2 := by rw [hW]; simp
  have hbW : Below w.heap.size w W := by rw [hW]; exact ((Below.refl _ w).alloc (Nat.le_refl _) _).alloc (by simp) _
  have r00 := stays (p := w.heap.size) (o := 0) (by omega) (show W.cell? ⟨w.heap.size, 0, none⟩ = some (.slice A x.length d) from by rw [hW]; simp [go_sem])
  have r01 := stays (p := w.heap.size) (o := 1) (by omega) (show W.cell? ⟨w.heap.size, 1, none⟩ = some (.slice B y.length e) from by rw [hW]; simp [go_sem])
  have r10 := stays (p := w.heap.size + 1) (o := 0) (by omega) (show W.cell? ⟨w.heap.size + 1, 0, none⟩ = some (.int .i64 0) from by rw [hW]; simp [go_sem])
  have g10 := staysF (p := w.heap.size + 1) (o := 0) (by omega) (show W.frozen? ⟨w.heap.size + 1, 0, none⟩ = false from by rw [hW]; simp [go_sem])
  have r11 := stays (p := w.heap.size + 1) (o := 1) (by omega) (show W.cell? ⟨w.heap.size + 1, 1, none⟩ = some (.int .i64 0) from by rw [hW]; simp [go_sem])
  have g11 := staysF (p := w.heap.size + 1) (o := 1) (by omega) (show W.frozen? ⟨w.heap.size + 1, 1, none⟩ = false from by rw [hW]; simp [go_sem])
  have HR : Hid (∀ w', Below W.heap.size W w' → Rows2 w' (· < w'.heap.size) T g) := fun w' hb => (keepRows (belT hbW hb) h).lt (belT hbW hb).size
  have HX : Hid (∀ w', Below W.heap.size W w' → Ints w' (· < w'.heap.size) A x) := fun w' hb => (keepInts (belT hbW hb) h1).lt (belT hbW hb).size
  have HY : Hid (∀ w', Below W.heap.size W w' → Ints w' (· < w'.heap.size) B y) := fun w' hb => (keepInts (belT hbW hb) h2).lt (belT hbW hb).size
  have HW := Lib.hid hW.symm
  have HBW := Lib.hid hbW
  have HZW := Lib.hid hzW
  clear h h1 h2 hbW hW hzW hb hk hg hg2 hg4 l1 l2 hx hy
  have s00 := r00 W (Below.refl _ _)
  have s01 := r01 W (Below.refl _ _)
  go_enter Try.func57, Try.ntmps57
  go_wp2_with fail
  rw [HW.out]
  clear s00 s01
  refine (risk_impl _ _ _ _ g y HLN.out.1 HLN.out.2.2 _ (HR.out _ (Below.refl _ _)) (HY.out _ (Below.refl _ _))).mono ?_
  rintro e w1 ⟨rfl, hb1⟩
  have HK1 := Lib.hid hb1
  have q0 := r00 _ hb1
  have hq : w.heap.size < w1.heap.size := by have := hb1.size; have := HZW.out; omega
  clear hb1
  unfold FracRes
  go_wp2_with fail
  clear hq
  obtain ⟨V0, hV0⟩ : ∃ V0 : World, w1.alloc (.cells #[.int .i64 (risU g y), .int .i64 (risD g y)] 34) = V0 := ⟨_, rfl⟩
  have HK2 : Hid (Below W.heap.size W V0) := by rw [← hV0]; exact HK1.out.alloc HK1.out.size _
  have t0 := stays (W := V0) (p := w1.heap.size) (o := 0) (by rw [← hV0]; simp) (show V0.cell? ⟨w1.heap.size, 0, none⟩ = some (.int .i64 (risU g y)) from by rw [← hV0]; simp [go_sem])
  have t1 := stays (W := V0) (p := w1.heap.size) (o := 1) (by rw [← hV0]; simp) (show V0.cell? ⟨w1.heap.size, 1, none⟩ = some (.int .i64 (risD g y)) from by rw [← hV0]; simp [go_sem])
  have HP5 : Hid (w1.heap.size < V0.heap.size) := by show _ < _; rw [← hV0]; simp
  rw [hV0]
  clear hV0 HK1 q0
  refine (safe_impl _ _ _ _ g x HLN.out.1 HLN.out.2.1 _ (HR.out _ HK2.out) (HX.out _ HK2.out)).mono ?_
  rintro e w2 ⟨rfl, hb2⟩
  have HB2 := Lib.hid hb2
  have HK3 := Lib.hid (belT HK2.out hb2)
  clear hb2
  unfold FracRes
  go_wp2_with fail
  obtain ⟨V1, hV1⟩ : ∃ V1 : World, w2.alloc (.cells #[.int .i64 (safU g x), .int .i64 (safD g x)] 34) = V1 := ⟨_, rfl⟩
  have hb3 : Below V0.heap.size V0 V1 := by rw [← hV1]; exact HB2.out.alloc HB2.out.size _
  have HK4 : Hid (Below W.heap.size W V1) := belT HK2.out hb3
  have hl1 : w1.heap.size < V1.heap.size := Nat.lt_of_lt_of_le HP5.out hb3.size
  have u0 := stays (W := V1) (p := w1.heap.size) (o := 0) hl1 (t0 _ hb3)
  have u1 := stays (W := V1) (p := w1.heap.size) (o := 1) hl1 (t1 _ hb3)
  have v0 := stays (W := V1) (p := w2.heap.size) (o := 0) (by rw [← hV1]; simp) (show V1.cell? ⟨w2.heap.size, 0, none⟩ = some (.int .i64 (safU g x)) from by rw [← hV1]; simp [go_sem])
  have v1 := stays (W := V1) (p := w2.heap.size) (o := 1) (by rw [← hV1]; simp) (show V1.cell? ⟨w2.heap.size, 1, none⟩ = some (.int .i64 (safD g x)) from by rw [← hV1]; simp [go_sem])
  rw [hV1]
  clear hV1 hb3 t0 t1
  go_cut [9] (fun sa wx => ∃ p : Nat, sa = .pointer (some ⟨p, 0, none⟩) ∧ Below V1.heap.size V1 wx ∧ V1.heap.size ≤ p ∧ p < wx.heap.size ∧ wx.cell? ⟨p, 0, none⟩ = some (.int .i64 (gpU g k)) ∧ wx.cell? ⟨p, 1, none⟩ = some (.int .i64 (gpD g k)))
  case first =>
    have HS0 : Below V1.heap.size V1 V1.drew := (Below.refl _ _).drew
    refine wp_region_held_drew (S := fun w' => Below V1.heap.size V1 w') (by kernel_rfl) HS0 (fun hHeld => ?_)
    clear hHeld
    generalize V1.drew = D at HS0 ⊢
    have hs0 := HS0.size
    have hHeld := HS0
    refine wpAnyH_take (i := 0) (v := ?v20) rfl (by kernel_rfl) (by kernel_rfl) (by kernel_rfl) (fun _ _ _ h => h) (Or.inl ⟨by rfl, ?y20⟩) (by assumption) ?z20
    case y20 => (intro w hSw; go_simp; first | done | with_reducible rfl)
    try simp only [List.getElem_toArray, List.getElem_cons_succ, List.getElem_cons_zero, Act.put, List.setIfInBounds_toArray, List.set_cons_zero, List.set_cons_succ]
    refine wpAnyH_take (i := 1) (v := ?v21) rfl (by kernel_rfl) (by kernel_rfl) (by kernel_rfl) (fun _ _ _ h => h) (Or.inl ⟨by rfl, ?y21⟩) (by assumption) ?z21
    case y21 => (intro w hSw; go_simp; first | done | with_reducible rfl)
    try simp only [List.getElem_toArray, List.getElem_cons_succ, List.getElem_cons_zero, Act.put, List.setIfInBounds_toArray, List.set_cons_zero, List.set_cons_succ]
    refine wpAnyH_ready (rs := [2, 7]) (by kernel_rfl) (by simp) ?_
    refine AllReadyH.cons rfl (fun K hK => ?_) (AllReadyH.cons rfl (fun K hK => ?_) AllReadyH.nil)
    · go_simp
      refine (minus_impl _ _ _).mono ?_
      rintro e u1 ⟨rfl, hb1⟩
      have HS1 : Below V1.heap.size V1 u1 := HS0.trans (hb1.mono HS0.size)
      have shb1 := hb1.size
      refine hK.out _ _ HS1 (fun hHeld => ?_)
      clear hK K
      try simp only [List.getElem_toArray, List.getElem_cons_succ, List.getElem_cons_zero, Act.put, List.setIfInBounds_toArray, List.set_cons_zero, List.set_cons_succ]
      refine wpAnyH_ready (rs := [3, 7]) (by kernel_rfl) (by simp) ?_
      refine AllReadyH.cons rfl (fun K hK => ?_) (AllReadyH.cons rfl (fun K hK => ?_) AllReadyH.nil)
      · go_simp
        refine (plus_impl _ _ _ _ _).mono ?_
        rintro e u2 ⟨rfl, hb2⟩
        rw [HPU.out, HPD.out]
        have HS2 : Below V1.heap.size V1 u2 := HS1.trans (hb2.mono HS1.size)
        have shb2 := hb2.size
        refine hK.out _ _ HS2 (fun hHeld => ?_)
        clear hK K
        try simp only [List.getElem_toArray, List.getElem_cons_succ, List.getElem_cons_zero, Act.put, List.setIfInBounds_toArray, List.set_cons_zero, List.set_cons_succ]
        refine wpAnyH_take (i := 4) (v := ?v22) rfl (by kernel_rfl) (by kernel_rfl) (by kernel_rfl) (fun _ _ _ h => h) (Or.inl ⟨by rfl, ?y22⟩) (by assumption) ?z22
        case y22 => (intro w hSw; go_simp; first | done | with_reducible rfl)
        try simp only [List.getElem_toArray, List.getElem_cons_succ, List.getElem_cons_zero, Act.put, List.setIfInBounds_toArray, List.set_cons_zero, List.set_cons_succ]
        refine wpAnyH_take (i := 5) (v := ?v23) rfl (by kernel_rfl) (by kernel_rfl) (by kernel_rfl) (fun _ _ _ h => h) (Or.inl ⟨by rfl, ?y23⟩) (by assumption) ?z23
        case y23 => (intro w hSw; go_simp; first | done | with_reducible rfl)
        try simp only [List.getElem_toArray, List.getElem_cons_succ, List.getElem_cons_zero, Act.put, List.setIfInBounds_toArray, List.set_cons_zero, List.set_cons_succ]
        refine wpAnyH_take (i := 6) (v := ?v24) rfl (by kernel_rfl) (by kernel_rfl) (by kernel_rfl) (fun _ _ _ h => h) (Or.inl ⟨by rfl, ?y24⟩) (by assumption) ?z24
        case y24 => (intro w hSw; go_simp; first | done | with_reducible rfl)
        try simp only [List.getElem_toArray, List.getElem_cons_succ, List.getElem_cons_zero, Act.put, List.setIfInBounds_toArray, List.set_cons_zero, List.set_cons_succ]
        refine wpAnyH_ready (rs := [7]) (by kernel_rfl) (by simp) ?_
        refine AllReadyH.cons rfl (fun K hK => ?_) AllReadyH.nil
        go_simp
        obtain ⟨V, hV⟩ : ∃ V : World, V = (u2).alloc (.cells #[.int .i64 0, .int .i64 0] 34) := ⟨_, rfl⟩
        rw [← hV]
        have hbV : Below (u2).heap.size (u2) V := by rw [hV]; exact (Below.refl _ _).alloc (Nat.le_refl _) _
        have PL3 : (u2).heap.size < V.heap.size := by rw [hV]; simp
        have PR3 : V.rowIs (u2).heap.size 34 2 (fun _ => .int .i64 0) := by rw [hV]; exact World.rowIs_alloc _ #[.int .i64 0, .int .i64 0] _ _ (fun i hi => by have : i = 0 ∨ i = 1 := (by simp at hi; omega); rcases this with rfl | rfl <;> rfl)
        have HS3 : Below V1.heap.size V1 V := HS2.trans (hbV.mono HS2.size)
        have hsV := hbV.size
        clear hV
        refine hK.out _ _ HS3 (fun hHeld => ?_)
        clear hK K
        try simp only [List.getElem_toArray, List.getElem_cons_succ, List.getElem_cons_zero, Act.put, List.setIfInBounds_toArray, List.set_cons_zero, List.set_cons_succ]
        refine wpAnyH_ready (rs := [8]) (by kernel_rfl) (by simp) ?_
        refine AllReadyH.cons rfl (fun K hK => ?_) AllReadyH.nil
        have PC0 := PR3.cell (i := 0) (by omega)
        have PC1 := PR3.cell (i := 1) (by omega)
        have PF0 := PR3.frozen 0
        have PF1 := PR3.frozen 1
        have PLE : V1.heap.size ≤ (u2).heap.size := by first | exact Nat.le_refl _ | omega
        have HS4 : ∀ u v : Value, Below V1.heap.size V1 ((V.setCell ⟨(u2).heap.size, 0, none⟩ u).setCell ⟨(u2).heap.size, 1, none⟩ v) := fun u v => (HS3.setCell PLE u).setCell PLE v
        have PRX := PR3
        have PLX := PL3
        go_simp
        refine hK.out _ _ (HS4 _ _) (fun hHeld => ?_)
        clear hK K
        try simp only [List.getElem_toArray, List.getElem_cons_succ, List.getElem_cons_zero, Act.put, List.setIfInBounds_toArray, List.set_cons_zero, List.set_cons_succ]
        refine wpAnyH_take (i := 9) (v := ?v25) rfl (by kernel_rfl) (by kernel_rfl) (by kernel_rfl) (fun _ _ _ h => h) (Or.inl ⟨by rfl, ?y25⟩) (by assumption) ?z25
        case y25 => (intro w hSw; go_simp; first | done | with_reducible rfl)
        try simp only [List.getElem_toArray, List.getElem_cons_succ, List.getElem_cons_zero, Act.put, List.setIfInBounds_toArray, List.set_cons_zero, List.set_cons_succ]
        refine wpAnyH_done (by kernel_rfl) ?_ _
        go_wp2_with fail
        go_meet
        exact ⟨(u2).heap.size, rfl, HS4 _ _, PLE, by simp [World.setCell]; exact PLX, FracBox.made PRX⟩
      · go_simp
        obtain ⟨V, hV⟩ : ∃ V : World, V = (u1).alloc (.cells #[.int .i64 0, .int .i64 0] 34) := ⟨_, rfl⟩
        rw [← hV]
        have hbV : Below (u1).heap.size (u1) V := by rw [hV]; exact (Below.refl _ _).alloc (Nat.le_refl _) _
        have PL2 : (u1).heap.size < V.heap.size := by rw [hV]; simp
        have PR2 : V.rowIs (u1).heap.size 34 2 (fun _ => .int .i64 0) := by rw [hV]; exact World.rowIs_alloc _ #[.int .i64 0, .int .i64 0] _ _ (fun i hi => by have : i = 0 ∨ i = 1 := (by simp at hi; omega); rcases this with rfl | rfl <;> rfl)
        have HS2 : Below V1.heap.size V1 V := HS1.trans (hbV.mono HS1.size)
        have hsV := hbV.size
        clear hV
        refine hK.out _ _ HS2 (fun hHeld => ?_)
        clear hK K
        try simp only [List.getElem_toArray, List.getElem_cons_succ, List.getElem_cons_zero, Act.put, List.setIfInBounds_toArray, List.set_cons_zero, List.set_cons_succ]
        refine wpAnyH_ready (rs := [3]) (by kernel_rfl) (by simp) ?_
        refine AllReadyH.cons rfl (fun K hK => ?_) AllReadyH.nil
        go_simp
        refine (plus_impl _ _ _ _ _).mono ?_
        rintro e u2 ⟨rfl, hb2⟩
        rw [HPU.out, HPD.out]
        have HS3 : Below V1.heap.size V1 u2 := HS2.trans (hb2.mono HS2.size)
        have shb2 := hb2.size
        have PR3 := PR2.of_block (hb2.block _ PL2)
        have PL3 := Nat.lt_of_lt_of_le PL2 hb2.size
        refine hK.out _ _ HS3 (fun hHeld => ?_)
        clear hK K
        try simp only [List.getElem_toArray, List.getElem_cons_succ, List.getElem_cons_zero, Act.put, List.setIfInBounds_toArray, List.set_cons_zero, List.set_cons_succ]
        refine wpAnyH_take (i := 4) (v := ?v26) rfl (by kernel_rfl) (by kernel_rfl) (by kernel_rfl) (fun _ _ _ h => h) (Or.inl ⟨by rfl, ?y26⟩) (by assumption) ?z26
        case y26 => (intro w hSw; go_simp; first | done | with_reducible rfl)
        try simp only [List.getElem_toArray, List.getElem_cons_succ, List.getElem_cons_zero, Act.put, List.setIfInBounds_toArray, List.set_cons_zero, List.set_cons_succ]
        refine wpAnyH_take (i := 5) (v := ?v27) rfl (by kernel_rfl) (by kernel_rfl) (by kernel_rfl) (fun _ _ _ h => h) (Or.inl ⟨by rfl, ?y27⟩) (by assumption) ?z27
        case y27 => (intro w hSw; go_simp; first | done | with_reducible rfl)
        try simp only [List.getElem_toArray, List.getElem_cons_succ, List.getElem_cons_zero, Act.put, List.setIfInBounds_toArray, List.set_cons_zero, List.set_cons_succ]
        refine wpAnyH_take (i := 6) (v := ?v28) rfl (by kernel_rfl) (by kernel_rfl) (by kernel_rfl) (fun _ _ _ h => h) (Or.inl ⟨by rfl, ?y28⟩) (by assumption) ?z28
        case y28 => (intro w hSw; go_simp; first | done | with_reducible rfl)
        try simp only [List.getElem_toArray, List.getElem_cons_succ, List.getElem_cons_zero, Act.put, List.setIfInBounds_toArray, List.set_cons_zero, List.set_cons_succ]
        refine wpAnyH_ready (rs := [8]) (by kernel_rfl) (by simp) ?_
        refine AllReadyH.cons rfl (fun K hK => ?_) AllReadyH.nil
        have PC0 := PR3.cell (i := 0) (by omega)
        have PC1 := PR3.cell (i := 1) (by omega)
        have PF0 := PR3.frozen 0
        have PF1 := PR3.frozen 1
        have PLE : V1.heap.size ≤ (u1).heap.size := by first | exact Nat.le_refl _ | omega
        have HS4 : ∀ u v : Value, Below V1.heap.size V1 ((u2.setCell ⟨(u1).heap.size, 0, none⟩ u).setCell ⟨(u1).heap.size, 1, none⟩ v) := fun u v => (HS3.setCell PLE u).setCell PLE v
        have PRX := PR3
        have PLX := PL3
        go_simp
        refine hK.out _ _ (HS4 _ _) (fun hHeld => ?_)
        clear hK K
        try simp only [List.getElem_toArray, List.getElem_cons_succ, List.getElem_cons_zero, Act.put, List.setIfInBounds_toArray, List.set_cons_zero, List.set_cons_succ]
        refine wpAnyH_take (i := 9) (v := ?v29) rfl (by kernel_rfl) (by kernel_rfl) (by kernel_rfl) (fun _ _ _ h => h) (Or.inl ⟨by rfl, ?y29⟩) (by assumption) ?z29
        case y29 => (intro w hSw; go_simp; first | done | with_reducible rfl)
        try simp only [List.getElem_toArray, List.getElem_cons_succ, List.getElem_cons_zero, Act.put, List.setIfInBounds_toArray, List.set_cons_zero, List.set_cons_succ]
        refine wpAnyH_done (by kernel_rfl) ?_ _
        go_wp2_with fail
        go_meet
        exact ⟨(u1).heap.size, rfl, HS4 _ _, PLE, by simp [World.setCell]; exact PLX, FracBox.made PRX⟩
    · go_simp
      obtain ⟨V, hV⟩ : ∃ V : World, V = (D).alloc (.cells #[.int .i64 0, .int .i64 0] 34) := ⟨_, rfl⟩
      rw [← hV]
      have hbV : Below (D).heap.size (D) V := by rw [hV]; exact (Below.refl _ _).alloc (Nat.le_refl _) _
      have PL1 : (D).heap.size < V.heap.size := by rw [hV]; simp
      have PR1 : V.rowIs (D).heap.size 34 2 (fun _ => .int .i64 0) := by rw [hV]; exact World.rowIs_alloc _ #[.int .i64 0, .int .i64 0] _ _ (fun i hi => by have : i = 0 ∨ i = 1 := (by simp at hi; omega); rcases this with rfl | rfl <;> rfl)
      have HS1 : Below V1.heap.size V1 V := HS0.trans (hbV.mono HS0.size)
      have hsV := hbV.size
      clear hV
      refine hK.out _ _ HS1 (fun hHeld => ?_)
      clear hK K
      try simp only [List.getElem_toArray, List.getElem_cons_succ, List.getElem_cons_zero, Act.put, List.setIfInBounds_toArray, List.set_cons_zero, List.set_cons_succ]
      refine wpAnyH_ready (rs := [2]) (by kernel_rfl) (by simp) ?_
      refine AllReadyH.cons rfl (fun K hK => ?_) AllReadyH.nil
      go_simp
      refine (minus_impl _ _ _).mono ?_
      rintro e u1 ⟨rfl, hb1⟩
      have HS2 : Below V1.heap.size V1 u1 := HS1.trans (hb1.mono HS1.size)
      have shb1 := hb1.size
      have PR2 := PR1.of_block (hb1.block _ PL1)
      have PL2 := Nat.lt_of_lt_of_le PL1 hb1.size
      refine hK.out _ _ HS2 (fun hHeld => ?_)
      clear hK K
      try simp only [List.getElem_toArray, List.getElem_cons_succ, List.getElem_cons_zero, Act.put, List.setIfInBounds_toArray, List.set_cons_zero, List.set_cons_succ]
      refine wpAnyH_ready (rs := [3]) (by kernel_rfl) (by simp) ?_
      refine AllReadyH.cons rfl (fun K hK => ?_) AllReadyH.nil
      go_simp
      refine (plus_impl _ _ _ _ _).mono ?_
      rintro e u2 ⟨rfl, hb2⟩
      rw [HPU.out, HPD.out]
      have HS3 : Below V1.heap.size V1 u2 := HS2.trans (hb2.mono HS2.size)
      have shb2 := hb2.size
      have PR3 := PR2.of_block (hb2.block _ PL2)
      have PL3 := Nat.lt_of_lt_of_le PL2 hb2.size
      refine hK.out _ _ HS3 (fun hHeld => ?_)
      clear hK K
      try simp only [List.getElem_toArray, List.getElem_cons_succ, List.getElem_cons_zero, Act.put, List.setIfInBounds_toArray, List.set_cons_zero, List.set_cons_succ]
      refine wpAnyH_take (i := 4) (v := ?v30) rfl (by kernel_rfl) (by kernel_rfl) (by kernel_rfl) (fun _ _ _ h => h) (Or.inl ⟨by rfl, ?y30⟩) (by assumption) ?z30
      case y30 => (intro w hSw; go_simp; first | done | with_reducible rfl)
      try simp only [List.getElem_toArray, List.getElem_cons_succ, List.getElem_cons_zero, Act.put, List.setIfInBounds_toArray, List.set_cons_zero, List.set_cons_succ]
      refine wpAnyH_take (i := 5) (v := ?v31) rfl (by kernel_rfl) (by kernel_rfl) (by kernel_rfl) (fun _ _ _ h => h) (Or.inl ⟨by rfl, ?y31⟩) (by assumption) ?z31
      case y31 => (intro w hSw; go_simp; first | done | with_reducible rfl)
      try simp only [List.getElem_toArray, List.getElem_cons_succ, List.getElem_cons_zero, Act.put, List.setIfInBounds_toArray, List.set_cons_zero, List.set_cons_succ]
      refine wpAnyH_take (i := 6) (v := ?v32) rfl (by kernel_rfl) (by kernel_rfl) (by kernel_rfl) (fun _ _ _ h => h) (Or.inl ⟨by rfl, ?y32⟩) (by assumption) ?z32
      case y32 => (intro w hSw; go_simp; first | done | with_reducible rfl)
      try simp only [List.getElem_toArray, List.getElem_cons_succ, List.getElem_cons_zero, Act.put, List.setIfInBounds_toArray, List.set_cons_zero, List.set_cons_succ]
      refine wpAnyH_ready (rs := [8]) (by kernel_rfl) (by simp) ?_
      refine AllReadyH.cons rfl (fun K hK => ?_) AllReadyH.nil
      have PC0 := PR3.cell (i := 0) (by omega)
      have PC1 := PR3.cell (i := 1) (by omega)
      have PF0 := PR3.frozen 0
      have PF1 := PR3.frozen 1
      have PLE : V1.heap.size ≤ (D).heap.size := by first | exact Nat.le_refl _ | omega
      have HS4 : ∀ u v : Value, Below V1.heap.size V1 ((u2.setCell ⟨(D).heap.size, 0, none⟩ u).setCell ⟨(D).heap.size, 1, none⟩ v) := fun u v => (HS3.setCell PLE u).setCell PLE v
      have PRX := PR3
      have PLX := PL3
      go_simp
      refine hK.out _ _ (HS4 _ _) (fun hHeld => ?_)
      clear hK K
      try simp only [List.getElem_toArray, List.getElem_cons_succ, List.getElem_cons_zero, Act.put, List.setIfInBounds_toArray, List.set_cons_zero, List.set_cons_succ]
      refine wpAnyH_take (i := 9) (v := ?v33) rfl (by kernel_rfl) (by kernel_rfl) (by kernel_rfl) (fun _ _ _ h => h) (Or.inl ⟨by rfl, ?y33⟩) (by assumption) ?z33
      case y33 => (intro w hSw; go_simp; first | done | with_reducible rfl)
      try simp only [List.getElem_toArray, List.getElem_cons_succ, List.getElem_cons_zero, Act.put, List.setIfInBounds_toArray, List.set_cons_zero, List.set_cons_succ]
      refine wpAnyH_done (by kernel_rfl) ?_ _
      go_wp2_with fail
      go_meet
      exact ⟨(D).heap.size, rfl, HS4 _ _, PLE, by simp [World.setCell]; exact PLX, FracBox.made PRX⟩
  case rest =>
    obtain ⟨p, rfl, hbw, hp1, hp2, hc0, hc1⟩ := hcut
    have hk5 := belT HK4.out hbw
    have e0 := r10 _ hk5
    have e1 := r11 _ hk5
    have e2 := g10 _ hk5
    have e3 := g11 _ hk5
    have HK5 := Lib.hid (belT HBW.out hk5)
    have hz := HZW.out
    have hzz := HK4.out.size
    obtain ⟨R, hR⟩ : ∃ R, w.heap.size + 1 = R := ⟨_, rfl⟩
    rw [hR] at e0 e1 e2 e3
    have n1 : ¬ R = p := by omega
    have n2 : ¬ p = R := by omega
    have HNE : Hid (w.heap.size ≤ R) := by show _ ≤ _; omega
    clear hk5 r10 r11 g10 g11 hz hzz hbw hp1 hp2
    rw [hR]
    go_wp2_with fail
    refine bodyPost_ret (v := .agg #[.int .i64 (gpU g k), .int .i64 (gpD g k)]) (by simp [results, Try.results57, go_sem, e0, e1, e2, e3]) rfl ?_
    exact ⟨rfl, (HK5.out.setCell (p := ⟨R, 0, none⟩) HNE.out _).setCell (p := ⟨R, 1, none⟩) HNE.out _⟩

end Go.Proofs.Ytakkdpjgdmngkaa
