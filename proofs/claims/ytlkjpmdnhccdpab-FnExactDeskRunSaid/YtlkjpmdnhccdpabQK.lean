/- Texts in one: RunS, ExactJe. -/
import Derived.Test.YtlkjpmdnhccdpabQD
import Derived.Test.YtlkjpmdnhccdpabStrM
import Derived.Test.YtlkjpmdnhccdpabQJ
namespace Go.Proofs.Ytlkjpmdnhccdpab
set_option linter.unusedSimpArgs false
set_option linter.unusedVariables false
open Go.RowKit

theorem do_stay {d : Dk} (h : dkB d = true) {a : Dd} (hc : canB d a = false) : doD d a = d := by
  by_cases hb : backB a = true ∧ 0 < d.past.length
  · rw [(do_back h hb.1 hb.2).2] at hc; cases hc
  by_cases hm : laidB (madeT d.now a) = true ∧ madeT d.now a ≠ d.now
  · rw [(do_made h hb hm.1 hm.2).2] at hc; cases hc
  · exact (do_none h hb hm).1

/-- the desk behind the first k deeds, how many were done -/
def runK (d : Dk) (l : List Dd) (k : Nat) : Dk := runD d (l.take k)

def runC (d : Dk) (l : List Dd) (k : Nat) : Nat := runN d (l.take k)

theorem run_step (d : Dk) (l : List Dd) {k : Nat} (hk : k < l.length) : runK d l (k + 1) = doD (runK d l k) (ddAt l k) ∧ runC d l (k + 1) = runC d l k + (if canB (runK d l k) (ddAt l k) = true then 1 else 0) := by
  unfold runK runC
  rw [List.take_succ_eq_append_getElem hk, (run_app d _ _).1, (run_app d _ _).2, ← ddAt_eq l k hk]
  exact ⟨rfl, by simp [runN]⟩

theorem runK_ok {d : Dk} (h : dkB d = true) (l : List Dd) (k : Nat) : dkB (runK d l k) = true := run_ok h _

theorem runC_le (d : Dk) (l : List Dd) : ∀ k, runC d l k ≤ k
  | 0 => Nat.le_refl _
  | k + 1 => by
    have ih := runC_le d l k
    by_cases hk : k < l.length
    · rw [(run_step d l hk).2]; split <;> omega
    · have : runC d l (k + 1) = runC d l k := by unfold runC; rw [List.take_of_length_le (by omega), List.take_of_length_le (by omega)]
      omega

/-- deeds at a desk, so many at most -/
def rnB (d : Dk) (l : List Dd) : Bool := dkB d && decide (l.length ≤ 40)

def rnD (d : Dk) (l : List Dd) : Dk := if rnB d l = true then runD d l else dkZero

def rnN (d : Dk) (l : List Dd) : Nat := if rnB d l = true then runN d l else 0

theorem rn_no {d : Dk} {l : List Dd} (h : rnB d l = false) : rnD d l = dkZero ∧ rnN d l = 0 := by unfold rnD rnN; rw [h]; exact ⟨rfl, rfl⟩

theorem rn_yes {d : Dk} {l : List Dd} (h : rnB d l = true) : rnD d l = runK d l l.length ∧ rnN d l = runC d l l.length := by
  unfold rnD rnN runK runC; rw [h, if_pos rfl, if_pos rfl, List.take_of_length_le (Nat.le_refl _)]; exact ⟨rfl, rfl⟩

theorem dk_max {d : Dk} (h : dkB d = true) : d.now.length ≤ maxLen ∧ d.past.length ≤ maxLen := by
  obtain ⟨_, h2, h3⟩ := dkB_iff.1 h
  obtain ⟨_, h4, _⟩ := laid_iff.1 h2
  unfold maxLen; omega

/-- a desk of the call's own, as slices -/
def DeskOwn (w : World) (lo hi : Nat) (TN : Option Addr) (TP : Option Addr) (d : Dk) : Prop := ∃ A C TT CC, OwnDk w lo hi TN TP d A C TT CC

theorem DeskOwn.keep {w w' : World} {lo hi : Nat} {TN TP : Option Addr} {d : Dk} (h : DeskOwn w lo hi TN TP d) (hk : ∀ b, lo ≤ b → b < hi → w'.heap[b]? = w.heap[b]?) : DeskOwn w' lo hi TN TP d := by
  obtain ⟨A, C, TT, CC, h⟩ := h; exact ⟨A, C, TT, CC, h.keep hk⟩

theorem DeskOwn.more {w : World} {lo hi lo' hi' : Nat} {TN TP : Option Addr} {d : Dk} (h : DeskOwn w lo hi TN TP d) (h1 : lo' ≤ lo) (h2 : hi ≤ hi') : DeskOwn w lo' hi' TN TP d := by
  obtain ⟨A, C, TT, CC, h⟩ := h; exact ⟨A, C, TT, CC, h.more h1 h2⟩

theorem DeskOwn.two {w : World} {lo hi : Nat} {TN TP : Option Addr} {d : Dk} (h : DeskOwn w lo hi TN TP d) (hh : hi ≤ w.heap.size) : Rows2 w (· < w.heap.size) TN d.now ∧ Rows3 w (· < w.heap.size) TP d.past := by
  obtain ⟨A, C, TT, CC, h⟩ := h
  exact ⟨h.rows2.mono fun b hb => by show b < _; omega, h.rows3.mono fun b hb => by show b < _; omega⟩

theorem copyD_own (A B : Option Addr) (c kk : Nat) (d : Dk) (hd : dkB d = true) (w : World) (h : Rows2 w (· < w.heap.size) A d.now) (h' : Rows3 w (· < w.heap.size) B d.past) :
    Calls Try.prog 29 #[.agg #[.slice A d.now.length c, .slice B d.past.length kk]] w fun e w' => ∃ (TN : Option Addr) (cN : Nat) (TP : Option Addr) (cP : CapN d.past.length), e = .returned (.agg #[.slice TN d.now.length cN, .slice TP d.past.length cP]) ∧ Below w.heap.size w w' ∧ DeskOwn w' w.heap.size w'.heap.size TN TP d := by
  refine (copyD_spec A B c kk d hd w h h').mono ?_
  rintro e w' ⟨TN, cN, v, A0, C0, AA, CC, TT, UU, rfl, _, _, hb, hT, hG, hap⟩
  obtain ⟨TP, cP, rfl, hc1, hc2, hp⟩ := hG.past
  exact ⟨TN, cN, TP, ⟨cP, hc1, hc2⟩, rfl, hb, _, _, _, _, own_copy hT hp hap⟩

theorem deskDo_own (A B : Option Addr) (c kk : Nat) (d : Dk) (a : Dd) (hd : dkB d = true) (w : World) (h : Rows2 w (· < w.heap.size) A d.now) (h' : Rows3 w (· < w.heap.size) B d.past) :
    Calls Try.prog 30 #[.agg #[.slice A d.now.length c, .slice B d.past.length kk], .agg #[.int .i64 a.kind, .int .i64 a.row, .int .i64 a.col, .int .i64 a.num]] w fun e w' => ∃ (TN : Option Addr) (cN : Nat) (TP : Option Addr) (cP : CapN (doD d a).past.length), e = .returned (.tuple #[.agg #[.slice TN (doD d a).now.length cN, .slice TP (doD d a).past.length cP], .bool (canB d a)]) ∧ Below w.heap.size w w' ∧ DeskOwn w' w.heap.size w'.heap.size TN TP (doD d a) := by
  refine (deskDo_spec A B c kk d a (dk_max hd).1 (dk_max hd).2 w h h').mono ?_
  rintro e w' ⟨TN, cN, TP, cP, AA, CC, TT, UU, rfl, hb, ho⟩
  exact ⟨TN, cN, TP, cP, rfl, hb, _, _, _, _, ho⟩

theorem desk_row {w : World} {p : Nat} {f : Nat → Value} (h : w.rowIs p 29 2 f) (s0 s1 : Value) : ((w.setCell ⟨p, 0, none⟩ s0).setCell ⟨p, 1, none⟩ s1).rowIs p 29 2 (fun i => if i = 0 then s0 else s1) :=
  ((h.set 0 s0).set 1 s1).congr fun i hi => by
    have : i = 0 ∨ i = 1 := by omega
    rcases this with rfl | rfl <;> rfl

theorem far2 {w : World} {p b : Nat} (h : b ≠ p) (s0 s1 : Value) : ((w.setCell ⟨p, 0, none⟩ s0).setCell ⟨p, 1, none⟩ s1).heap[b]? = w.heap[b]? := by
  rw [Below.heap_setCell _ _ _ _ h, Below.heap_setCell _ _ _ _ h]

/-- what stands at the head of each round: the desk so far, in a box -/
structure RunAt (W wr : World) (pO : Nat) (d : Dk) : Prop where
  bel : Below W.heap.size W wr
  ex : ∃ (TN : Option Addr) (cN : Nat) (TP : Option Addr) (cP lo hi : Nat), wr.rowIs pO 29 2 (fun i => if i = 0 then .slice TN d.now.length cN else .slice TP d.past.length cP) ∧ DeskOwn wr lo hi TN TP d ∧ W.heap.size ≤ lo ∧ hi ≤ wr.heap.size ∧ (hi ≤ pO ∨ pO < lo) ∧ d.past.length ≤ cP ∧ cP ≤ maxLen

set_option maxHeartbeats 8000000 in
set_option maxRecDepth 100000 in
theorem deskRun_spec (A B D : Option Addr) (c kk e : Nat) (d : Dk) (l : List Dd) (hx : d.now.length ≤ maxLen) (hy : d.past.length ≤ maxLen) (hl : l.length ≤ 4294967296) (w : World) (h : Rows2 w (· < w.heap.size) A d.now) (h' : Rows3 w (· < w.heap.size) B d.past) (h2 : Deeds w (· < w.heap.size) D l) :
    Calls Try.prog 9 #[dskV A d.now.length c B d.past.length kk, .slice D l.length e] w (DeskRes w (rnD d l) (.int .i64 (rnN d l : Nat))) := by
  obtain ⟨W, hW⟩ : ∃ W : World, W = (w.alloc (.cells #[.slice A d.now.length c, .slice B d.past.length kk] 29)).alloc (.cells #[.slice none 0 0, .slice none 0 0] 29) := ⟨_, rfl⟩
  have hzW : W.heap.size = w.heap.size + 2 := by rw [hW]; simp
  have hbW : Below w.heap.size w W := by rw [hW]; exact ((Below.refl _ w).alloc (Nat.le_refl _) _).alloc (by simp) _
  have r00 := stays (p := w.heap.size) (o := 0) (by omega) (show W.cell? ⟨w.heap.size, 0, none⟩ = some (.slice A d.now.length c) from by rw [hW]; simp [go_sem])
  have r01 := stays (p := w.heap.size) (o := 1) (by omega) (show W.cell? ⟨w.heap.size, 1, none⟩ = some (.slice B d.past.length kk) from by rw [hW]; simp [go_sem])
  have r10 := stays (p := w.heap.size + 1) (o := 0) (by omega) (show W.cell? ⟨w.heap.size + 1, 0, none⟩ = some (.slice none 0 0) from by rw [hW]; simp [go_sem])
  have g10 := staysF (p := w.heap.size + 1) (o := 0) (by omega) (show W.frozen? ⟨w.heap.size + 1, 0, none⟩ = false from by rw [hW]; simp [go_sem])
  have r11 := stays (p := w.heap.size + 1) (o := 1) (by omega) (show W.cell? ⟨w.heap.size + 1, 1, none⟩ = some (.slice none 0 0) from by rw [hW]; simp [go_sem])
  have g11 := staysF (p := w.heap.size + 1) (o := 1) (by omega) (show W.frozen? ⟨w.heap.size + 1, 1, none⟩ = false from by rw [hW]; simp [go_sem])
  have HR : Hid (∀ w', Below W.heap.size W w' → Rows2 w' (· < w'.heap.size) A d.now ∧ Rows3 w' (· < w'.heap.size) B d.past) := fun w' hb => ⟨(keepRows (belT hbW hb) h).lt (belT hbW hb).size, (keepTabs (belT hbW hb) h').mono fun b hb' => Nat.lt_of_lt_of_le hb' (belT hbW hb).size⟩
  have HOK := Lib.hid (deskOk_spec A B c kk d hx hy W (HR.out W (Below.refl _ _)).1 (HR.out W (Below.refl _ _)).2)
  have HD := Lib.hid h2
  have HW := Lib.hid hW.symm
  have HBW := Lib.hid hbW
  have HZW := Lib.hid hzW
  clear h h' h2 hW hbW hzW
  unfold dskV at HOK ⊢
  rcases hb : rnB d l with _ | _
  · rw [(rn_no hb).1, (rn_no hb).2]
    have HNO : Hid (dkB d = false ∨ ¬ l.length ≤ 40) := by
      unfold rnB at hb
      rcases hx : dkB d with _ | _
      · exact .inl rfl
      · rw [hx] at hb; simp at hb; exact .inr (by omega)
    clear hb hx hy
    have s00 := r00 W (Below.refl _ _)
    have s01 := r01 W (Below.refl _ _)
    go_enter Try.func9, Try.ntmps9
    go_wp2_with fail
    rw [HW.out]
    clear s00 s01
    refine HOK.out.mono ?_
    rintro e w1 ⟨rfl, hb1⟩
    have y0 := r10 _ hb1
    have y1 := r11 _ hb1
    have z0 := g10 _ hb1
    have z1 := g11 _ hb1
    have HB1 := Lib.hid (belT HBW.out hb1)
    clear r00 r01 r10 r11 g10 g11 hb1
    rcases hdk : dkB d with _ | _
    · clear HNO
      go_wp2_with fail
      refine bodyPost_ret (v := .tuple #[.agg #[.slice none 0 0, .slice none 0 0], .int .i64 0]) (by simp [results, Try.results9, go_sem, y0, y1]) rfl ?_
      exact DeskRes.zero (TN := none) (TP := none) rfl ((HB1.out.setCell (p := ⟨w.heap.size + 1, 0, none⟩) (Nat.le_succ _) _).setCell (p := ⟨w.heap.size + 1, 1, none⟩) (Nat.le_succ _) _)
    · have h40 : (40 : Int) < (l.length : Int) := by rcases HNO.out with h | h; rw [hdk] at h; cases h; omega
      clear HNO
      go_wp2_with fail
      refine bodyPost_ret (v := .tuple #[.agg #[.slice none 0 0, .slice none 0 0], .int .i64 0]) (by simp [results, Try.results9, go_sem, y0, y1]) rfl ?_
      exact DeskRes.zero (TN := none) (TP := none) rfl ((HB1.out.setCell (p := ⟨w.heap.size + 1, 0, none⟩) (Nat.le_succ _) _).setCell (p := ⟨w.heap.size + 1, 1, none⟩) (Nat.le_succ _) _)
  · have hdk : dkB d = true := by unfold rnB at hb; rw [Bool.and_eq_true] at hb; exact hb.1
    have h40 : l.length ≤ 40 := by unfold rnB at hb; rw [Bool.and_eq_true, decide_eq_true_eq] at hb; exact hb.2
    have h40i : ¬ (40 : Int) < (l.length : Int) := by omega
    have HRY := Lib.hid (rn_yes hb)
    have HDK := Lib.hid hdk
    rw [hdk] at HOK
    clear hb hx hy hdk
    have s00 := r00 W (Below.refl _ _)
    have s01 := r01 W (Below.refl _ _)
    go_enter Try.func9, Try.ntmps9
    go_wp2_with fail
    rw [HW.out]
    clear s00 s01
    refine HOK.out.mono ?_
    rintro e w1 ⟨rfl, hb1⟩
    have q0 := r00 _ hb1
    have q1 := r01 _ hb1
    have HB1 := Lib.hid hb1
    have HC1 := Lib.hid (copyD_own A B c kk d HDK.out w1 (HR.out w1 hb1).1 (HR.out w1 hb1).2)
    clear r00 r01 hb1
    go_wp2_with fail
    refine HC1.out.mono ?_
    rintro e w2 ⟨TN, cN, TP, cP, rfl, hb2, ho2⟩
    have HB2 := Lib.hid (HB1.out.trans (hb2.mono HB1.out.size))
    have HO2 := Lib.hid ho2
    have hw1s := HB1.out.size
    clear hb2 ho2 q0 q1
    go_wp2_with fail
    obtain ⟨V0, hV0⟩ : ∃ V0 : World, w2.alloc (.cells #[.slice TN d.now.length cN, .slice TP d.past.length cP] 29) = V0 := ⟨_, rfl⟩
    have HA0 : Hid (RunAt W V0 w2.heap.size (runK d l 0)) := by
      have hb : Below w2.heap.size w2 V0 := by rw [← hV0]; exact (Below.refl _ _).alloc (Nat.le_refl _) _
      refine ⟨HB2.out.trans (hb.mono HB2.out.size), TN, cN, TP, cP, w1.heap.size, w2.heap.size, ?_, HO2.out.keep (fun b _ h2 => hb.block b h2), hw1s, hb.size, .inl (Nat.le_refl _), cP.lo, cP.hi⟩
      rw [← hV0]
      exact World.rowIs_alloc w2 #[.slice TN d.now.length cN, .slice TP d.past.length cP] _ _ (fun i hi => by have : i = 0 ∨ i = 1 := (by simp at hi; omega); rcases this with rfl | rfl <;> rfl)
    have HPO : Hid (W.heap.size ≤ w2.heap.size) := HB2.out.size
    obtain ⟨pO, hpO⟩ : ∃ pO, w2.heap.size = pO := ⟨_, rfl⟩
    rw [hpO] at HA0 HPO
    rw [hV0, hpO]
    clear hV0 hpO HO2 HB2 HC1 HB1 hw1s HOK
    go_loopw [7, 8] (fun nv kv wr => ∃ k : Nat, k ≤ l.length ∧ kv = .int .i64 (k : Nat) ∧ nv = .int .i64 (runC d l k : Nat) ∧ Hid (RunAt W wr pO (runK d l k))) (fun _ kv _ => l.length - (intOf kv).toNat)
    case atStart => exact ⟨0, Nat.zero_le _, rfl, rfl, HA0⟩
    case round =>
      clear HA0
      obtain ⟨k, hk, rfl, rfl, HA⟩ := hrel
      obtain ⟨TN, cN, TP, cP, lo, hi, hrow, hown, hlo, hhi, hap, hcap1, hcap2⟩ := HA.out.ex
      have HCP : Hid ((runK d l k).past.length ≤ cP ∧ cP ≤ maxLen) := ⟨hcap1, hcap2⟩
      clear hcap1 hcap2
      have hpl := hrow.lt
      have hrc := runC_le d l k
      by_cases hlt : k < l.length
      · have hst := run_step d l hlt
        have hok := runK_ok HDK.out l k
        obtain ⟨bd, od, rfl, hbd, hcd⟩ := (HD.out.below (belT HBW.out HA.out.bel)) (by omega)
        obtain ⟨c0, c1, c2, c3⟩ := hcd k hlt
        obtain ⟨dk, hdk⟩ : ∃ dk, runK d l k = dk := ⟨_, rfl⟩
        obtain ⟨nk, hnk⟩ : ∃ nk, runC d l k = nk := ⟨_, rfl⟩
        obtain ⟨⟨kd, rr, cc, nn⟩, ha⟩ : ∃ a, ddAt l k = a := ⟨_, rfl⟩
        rw [hdk] at hst hok hrow hown HCP
        rw [ha] at hst c0 c1 c2 c3
        rw [hnk] at hst hrc ⊢
        simp only at c0 c1 c2 c3
        have hbl : bd < wr.heap.size := by have := HA.out.bel.size; have := HBW.out.size; omega
        have d0 := stays (W := wr) (p := bd) (o := od + k * 4) hbl c0
        have d1 := stays (W := wr) (p := bd) (o := od + k * 4 + 1) hbl c1
        have d2 := stays (W := wr) (p := bd) (o := od + k * 4 + 2) hbl c2
        have d3 := stays (W := wr) (p := bd) (o := od + k * 4 + 3) hbl c3
        have e0 := stays (W := wr) (p := pO) (o := 0) hpl (show wr.cell? ⟨pO, 0, none⟩ = some (.slice TN dk.now.length cN) from hrow.cell (i := 0) (by omega))
        have e1 := stays (W := wr) (p := pO) (o := 1) hpl (show wr.cell? ⟨pO, 1, none⟩ = some (.slice TP dk.past.length cP) from hrow.cell (i := 1) (by omega))
        have HROW : Hid (∀ wx, Below wr.heap.size wr wx → wx.rowIs pO 29 2 (fun i => if i = 0 then .slice TN dk.now.length cN else .slice TP dk.past.length cP)) := fun wx hb => hrow.of_block (hb.block _ hpl)
        have HDO : Hid (∀ w', Below wr.heap.size wr w' → Calls Try.prog 30 #[.agg #[.slice TN dk.now.length cN, .slice TP dk.past.length cP], .agg #[.int .i64 kd, .int .i64 rr, .int .i64 cc, .int .i64 nn]] w' fun e w'' => ∃ (TN' : Option Addr) (cN' : Nat) (TP' : Option Addr) (cP' : CapN (doD dk ⟨kd, rr, cc, nn⟩).past.length), e = .returned (.tuple #[.agg #[.slice TN' (doD dk ⟨kd, rr, cc, nn⟩).now.length cN', .slice TP' (doD dk ⟨kd, rr, cc, nn⟩).past.length cP'], .bool (canB dk ⟨kd, rr, cc, nn⟩)]) ∧ Below w'.heap.size w' w'' ∧ DeskOwn w'' w'.heap.size w''.heap.size TN' TP' (doD dk ⟨kd, rr, cc, nn⟩)) := fun w' hb => by
          have h2 := (hown.keep (fun b _ h2 => hb.block b (by omega))).two (Nat.le_trans hhi hb.size)
          exact deskDo_own TN TP cN cP dk ⟨kd, rr, cc, nn⟩ hok w' h2.1 h2.2
        have HOWN := Lib.hid hown
        have HLH := Lib.hid (And.intro hlo (And.intro hhi hap))
        have HST := Lib.hid hst
        have HKN : Hid (dkB dk = true) := hok
        have HNK : Hid (nk ≤ k) := hrc
        have HBL := Lib.hid HA.out.bel
        have hki : (k : Int) < (l.length : Int) := by omega
        have hw1 : IntKind.i64.wrap ((k : Int) + 1) = (k : Int) + 1 := IntWalk.i64_in _ ⟨by omega, by omega⟩
        have hw2 : IntKind.i64.wrap ((nk : Int) + 1) = (nk : Int) + 1 := IntWalk.i64_in _ ⟨by omega, by omega⟩
        have HPL := Lib.hid hpl
        obtain ⟨dn, hdn⟩ : ∃ dn, doD dk ⟨kd, rr, cc, nn⟩ = dn := ⟨_, rfl⟩
        obtain ⟨cb, hcb⟩ : ∃ cb, canB dk ⟨kd, rr, cc, nn⟩ = cb := ⟨_, rfl⟩
        have HCB : Hid (cb = false → dn = dk) := fun h => by rw [← hdn]; exact do_stay HKN.out (by rw [hcb]; exact h)
        rw [hdn, hcb] at HDO HST
        clear hst hok hown hlo hhi hap hrow hrc hcd c0 c1 c2 c3 hdk hnk ha hpl hdn hcb HA hbd hbl
        go_wp2_with fail
        go_cut [9, 10] (fun sp sb wx => ∃ (p : Nat) (TN' : Option Addr) (cN' : Nat) (TP' : Option Addr) (cP' : CapN dn.past.length) (lo' hi' : Nat), sp = .pointer (some ⟨p, 0, none⟩) ∧ sb = .bool cb ∧ Below wr.heap.size wr wx ∧ wr.heap.size ≤ p ∧ wx.rowIs p 29 2 (fun i => if i = 0 then .slice TN' dn.now.length cN' else .slice TP' dn.past.length cP') ∧ DeskOwn wx lo' hi' TN' TP' dn ∧ wr.heap.size ≤ lo' ∧ hi' ≤ wx.heap.size)
        case first =>
          have HS0 : Below wr.heap.size wr wr.drew := (Below.refl _ _).drew
          refine wp_region_held_drew (S := fun w' => Below wr.heap.size wr w') (by kernel_rfl) HS0 (fun hHeld => ?_)
          clear hHeld
          generalize wr.drew = D at HS0 ⊢
          have hs0 := HS0.size
          have hHeld := HS0
          refine wpAnyH_take (i := 0) (v := ?v1) rfl (by kernel_rfl) (by kernel_rfl) (by kernel_rfl) (fun _ _ _ h => h) (Or.inl ⟨by rfl, ?y1⟩) (by assumption) ?z1
          case y1 => (intro w hSw; go_simp; first | done | with_reducible rfl)
          try simp only [List.getElem_toArray, List.getElem_cons_succ, List.getElem_cons_zero, Act.put, List.setIfInBounds_toArray, List.set_cons_zero, List.set_cons_succ]
          refine wpAnyH_take (i := 1) (v := ?v2) rfl (by kernel_rfl) (by kernel_rfl) (by kernel_rfl) (fun _ _ _ h => h) (Or.inl ⟨by rfl, ?y2⟩) (by assumption) ?z2
          case y2 => (intro w hSw; go_simp; first | done | with_reducible rfl)
          try simp only [List.getElem_toArray, List.getElem_cons_succ, List.getElem_cons_zero, Act.put, List.setIfInBounds_toArray, List.set_cons_zero, List.set_cons_succ]
          refine wpAnyH_take (i := 2) (v := ?v3) rfl (by kernel_rfl) (by kernel_rfl) (by kernel_rfl) (fun _ _ _ h => h) (Or.inl ⟨by rfl, ?y3⟩) (by assumption) ?z3
          case y3 => (intro w hSw; go_simp; first | done | with_reducible rfl)
          try simp only [List.getElem_toArray, List.getElem_cons_succ, List.getElem_cons_zero, Act.put, List.setIfInBounds_toArray, List.set_cons_zero, List.set_cons_succ]
          refine wpAnyH_take (i := 3) (v := ?v4) rfl (by kernel_rfl) (by kernel_rfl) (by kernel_rfl) (fun _ _ _ h => h) (Or.inl ⟨by rfl, ?y4⟩) (by assumption) ?z4
          case y4 => (intro w hSw; go_simp; first | done | with_reducible rfl)
          try simp only [List.getElem_toArray, List.getElem_cons_succ, List.getElem_cons_zero, Act.put, List.setIfInBounds_toArray, List.set_cons_zero, List.set_cons_succ]
          refine wpAnyH_take (i := 4) (v := ?v5) rfl (by kernel_rfl) (by kernel_rfl) (by kernel_rfl) (fun _ _ _ h => h) (Or.inl ⟨by rfl, ?y5⟩) (by assumption) ?z5
          case y5 => (intro w hSw; go_simp; first | done | with_reducible rfl)
          try simp only [List.getElem_toArray, List.getElem_cons_succ, List.getElem_cons_zero, Act.put, List.setIfInBounds_toArray, List.set_cons_zero, List.set_cons_succ]
          refine wpAnyH_ready (rs := [5, 9]) (by kernel_rfl) (by simp) ?_
          refine AllReadyH.cons rfl (fun K hK => ?_) (AllReadyH.cons rfl (fun K hK => ?_) AllReadyH.nil)
          · go_simp
            refine (HDO.out _ HS0).mono ?_
            rintro e u5 ⟨TN5, cN5, TP5, cP5, rfl, hb5, DO1⟩
            have HS1 : Below wr.heap.size wr u5 := HS0.trans (hb5.mono HS0.size)
            have shb5 := hb5.size
            refine hK.out _ _ HS1 (fun hHeld => ?_)
            clear hK K
            try simp only [List.getElem_toArray, List.getElem_cons_succ, List.getElem_cons_zero, Act.put, List.setIfInBounds_toArray, List.set_cons_zero, List.set_cons_succ]
            refine wpAnyH_take (i := 6) (v := ?v6) rfl (by kernel_rfl) (by kernel_rfl) (by kernel_rfl) (fun _ _ _ h => h) (Or.inl ⟨by rfl, ?y6⟩) (by assumption) ?z6
            case y6 => (intro w hSw; go_simp; first | done | with_reducible rfl)
            try simp only [List.getElem_toArray, List.getElem_cons_succ, List.getElem_cons_zero, Act.put, List.setIfInBounds_toArray, List.set_cons_zero, List.set_cons_succ]
            refine wpAnyH_take (i := 7) (v := ?v7) rfl (by kernel_rfl) (by kernel_rfl) (by kernel_rfl) (fun _ _ _ h => h) (Or.inl ⟨by rfl, ?y7⟩) (by assumption) ?z7
            case y7 => (intro w hSw; go_simp; first | done | with_reducible rfl)
            try simp only [List.getElem_toArray, List.getElem_cons_succ, List.getElem_cons_zero, Act.put, List.setIfInBounds_toArray, List.set_cons_zero, List.set_cons_succ]
            refine wpAnyH_take (i := 8) (v := ?v8) rfl (by kernel_rfl) (by kernel_rfl) (by kernel_rfl) (fun _ _ _ h => h) (Or.inl ⟨by rfl, ?y8⟩) (by assumption) ?z8
            case y8 => (intro w hSw; go_simp; first | done | with_reducible rfl)
            try simp only [List.getElem_toArray, List.getElem_cons_succ, List.getElem_cons_zero, Act.put, List.setIfInBounds_toArray, List.set_cons_zero, List.set_cons_succ]
            refine wpAnyH_ready (rs := [9]) (by kernel_rfl) (by simp) ?_
            refine AllReadyH.cons rfl (fun K hK => ?_) AllReadyH.nil
            go_simp
            obtain ⟨V, hV⟩ : ∃ V : World, V = (u5).alloc (.cells #[.slice none 0 0, .slice none 0 0] 29) := ⟨_, rfl⟩
            rw [← hV]
            have hbV : Below (u5).heap.size (u5) V := by rw [hV]; exact (Below.refl _ _).alloc (Nat.le_refl _) _
            have PL2 : (u5).heap.size < V.heap.size := by rw [hV]; simp
            have PR2 : V.rowIs (u5).heap.size 29 2 (fun _ => .slice none 0 0) := by rw [hV]; exact World.rowIs_alloc _ #[.slice none 0 0, .slice none 0 0] _ _ (fun i hi => by have : i = 0 ∨ i = 1 := (by simp at hi; omega); rcases this with rfl | rfl <;> rfl)
            have HS2 : Below wr.heap.size wr V := HS1.trans (hbV.mono HS1.size)
            have hsV := hbV.size
            clear hV
            have DO2 := DO1.keep (fun b _ h2 => hbV.block b h2)
            refine hK.out _ _ HS2 (fun hHeld => ?_)
            clear hK K
            try simp only [List.getElem_toArray, List.getElem_cons_succ, List.getElem_cons_zero, Act.put, List.setIfInBounds_toArray, List.set_cons_zero, List.set_cons_succ]
            refine wpAnyH_ready (rs := [10]) (by kernel_rfl) (by simp) ?_
            refine AllReadyH.cons rfl (fun K hK => ?_) AllReadyH.nil
            have PC0 := PR2.cell (i := 0) (by omega)
            have PC1 := PR2.cell (i := 1) (by omega)
            have PF0 := PR2.frozen 0
            have PF1 := PR2.frozen 1
            have PLE : wr.heap.size ≤ (u5).heap.size := by first | exact Nat.le_refl _ | omega
            have HS3 : ∀ u v : Value, Below wr.heap.size wr ((V.setCell ⟨(u5).heap.size, 0, none⟩ u).setCell ⟨(u5).heap.size, 1, none⟩ v) := fun u v => (HS2.setCell PLE u).setCell PLE v
            have PRX := PR2
            have PLX := PL2
            go_simp
            refine hK.out _ _ (HS3 _ _) (fun hHeld => ?_)
            clear hK K
            try simp only [List.getElem_toArray, List.getElem_cons_succ, List.getElem_cons_zero, Act.put, List.setIfInBounds_toArray, List.set_cons_zero, List.set_cons_succ]
            refine wpAnyH_take (i := 11) (v := ?v9) rfl (by kernel_rfl) (by kernel_rfl) (by kernel_rfl) (fun _ _ _ h => h) (Or.inl ⟨by rfl, ?y9⟩) (by assumption) ?z9
            case y9 => (intro w hSw; go_simp; first | done | with_reducible rfl)
            try simp only [List.getElem_toArray, List.getElem_cons_succ, List.getElem_cons_zero, Act.put, List.setIfInBounds_toArray, List.set_cons_zero, List.set_cons_succ]
            refine wpAnyH_done (by kernel_rfl) ?_ _
            go_wp2_with fail
            go_meet
            exact ⟨(u5).heap.size, TN5, cN5, TP5, cP5, _, _, rfl, rfl, HS3 _ _, PLE, desk_row PRX _ _, DO2.keep (fun b h1 h2 => far2 (by omega) _ _), by omega, by simp [World.setCell]; try omega⟩
          · go_simp
            obtain ⟨V, hV⟩ : ∃ V : World, V = (D).alloc (.cells #[.slice none 0 0, .slice none 0 0] 29) := ⟨_, rfl⟩
            rw [← hV]
            have hbV : Below (D).heap.size (D) V := by rw [hV]; exact (Below.refl _ _).alloc (Nat.le_refl _) _
            have PL1 : (D).heap.size < V.heap.size := by rw [hV]; simp
            have PR1 : V.rowIs (D).heap.size 29 2 (fun _ => .slice none 0 0) := by rw [hV]; exact World.rowIs_alloc _ #[.slice none 0 0, .slice none 0 0] _ _ (fun i hi => by have : i = 0 ∨ i = 1 := (by simp at hi; omega); rcases this with rfl | rfl <;> rfl)
            have HS1 : Below wr.heap.size wr V := HS0.trans (hbV.mono HS0.size)
            have hsV := hbV.size
            clear hV
            refine hK.out _ _ HS1 (fun hHeld => ?_)
            clear hK K
            try simp only [List.getElem_toArray, List.getElem_cons_succ, List.getElem_cons_zero, Act.put, List.setIfInBounds_toArray, List.set_cons_zero, List.set_cons_succ]
            refine wpAnyH_ready (rs := [5]) (by kernel_rfl) (by simp) ?_
            refine AllReadyH.cons rfl (fun K hK => ?_) AllReadyH.nil
            go_simp
            refine (HDO.out _ HS1).mono ?_
            rintro e u5 ⟨TN5, cN5, TP5, cP5, rfl, hb5, DO2⟩
            have HS2 : Below wr.heap.size wr u5 := HS1.trans (hb5.mono HS1.size)
            have shb5 := hb5.size
            have PR2 := PR1.of_block (hb5.block _ PL1)
            have PL2 := Nat.lt_of_lt_of_le PL1 hb5.size
            refine hK.out _ _ HS2 (fun hHeld => ?_)
            clear hK K
            try simp only [List.getElem_toArray, List.getElem_cons_succ, List.getElem_cons_zero, Act.put, List.setIfInBounds_toArray, List.set_cons_zero, List.set_cons_succ]
            refine wpAnyH_take (i := 6) (v := ?v10) rfl (by kernel_rfl) (by kernel_rfl) (by kernel_rfl) (fun _ _ _ h => h) (Or.inl ⟨by rfl, ?y10⟩) (by assumption) ?z10
            case y10 => (intro w hSw; go_simp; first | done | with_reducible rfl)
            try simp only [List.getElem_toArray, List.getElem_cons_succ, List.getElem_cons_zero, Act.put, List.setIfInBounds_toArray, List.set_cons_zero, List.set_cons_succ]
            refine wpAnyH_take (i := 7) (v := ?v11) rfl (by kernel_rfl) (by kernel_rfl) (by kernel_rfl) (fun _ _ _ h => h) (Or.inl ⟨by rfl, ?y11⟩) (by assumption) ?z11
            case y11 => (intro w hSw; go_simp; first | done | with_reducible rfl)
            try simp only [List.getElem_toArray, List.getElem_cons_succ, List.getElem_cons_zero, Act.put, List.setIfInBounds_toArray, List.set_cons_zero, List.set_cons_succ]
            refine wpAnyH_take (i := 8) (v := ?v12) rfl (by kernel_rfl) (by kernel_rfl) (by kernel_rfl) (fun _ _ _ h => h) (Or.inl ⟨by rfl, ?y12⟩) (by assumption) ?z12
            case y12 => (intro w hSw; go_simp; first | done | with_reducible rfl)
            try simp only [List.getElem_toArray, List.getElem_cons_succ, List.getElem_cons_zero, Act.put, List.setIfInBounds_toArray, List.set_cons_zero, List.set_cons_succ]
            refine wpAnyH_ready (rs := [10]) (by kernel_rfl) (by simp) ?_
            refine AllReadyH.cons rfl (fun K hK => ?_) AllReadyH.nil
            have PC0 := PR2.cell (i := 0) (by omega)
            have PC1 := PR2.cell (i := 1) (by omega)
            have PF0 := PR2.frozen 0
            have PF1 := PR2.frozen 1
            have PLE : wr.heap.size ≤ (D).heap.size := by first | exact Nat.le_refl _ | omega
            have HS3 : ∀ u v : Value, Below wr.heap.size wr ((u5.setCell ⟨(D).heap.size, 0, none⟩ u).setCell ⟨(D).heap.size, 1, none⟩ v) := fun u v => (HS2.setCell PLE u).setCell PLE v
            have PRX := PR2
            have PLX := PL2
            go_simp
            refine hK.out _ _ (HS3 _ _) (fun hHeld => ?_)
            clear hK K
            try simp only [List.getElem_toArray, List.getElem_cons_succ, List.getElem_cons_zero, Act.put, List.setIfInBounds_toArray, List.set_cons_zero, List.set_cons_succ]
            refine wpAnyH_take (i := 11) (v := ?v13) rfl (by kernel_rfl) (by kernel_rfl) (by kernel_rfl) (fun _ _ _ h => h) (Or.inl ⟨by rfl, ?y13⟩) (by assumption) ?z13
            case y13 => (intro w hSw; go_simp; first | done | with_reducible rfl)
            try simp only [List.getElem_toArray, List.getElem_cons_succ, List.getElem_cons_zero, Act.put, List.setIfInBounds_toArray, List.set_cons_zero, List.set_cons_succ]
            refine wpAnyH_done (by kernel_rfl) ?_ _
            go_wp2_with fail
            go_meet
            exact ⟨(D).heap.size, TN5, cN5, TP5, cP5, _, _, rfl, rfl, HS3 _ _, PLE, desk_row PRX _ _, DO2.keep (fun b h1 h2 => far2 (by omega) _ _), by omega, by simp [World.setCell]; try omega⟩
        case rest =>
          obtain ⟨p, TN5, cN5, TP5, cP5, lo5, hi5, rfl, rfl, hbx, hp1, hrow5, hown5, hlo5, hhi5⟩ := hcut
          have hr6 := HROW.out wc hbx
          have HBX := Lib.hid hbx
          have HOW5 := Lib.hid hown5
          have HPP : Hid (wr.heap.size ≤ p ∧ wr.heap.size ≤ lo5 ∧ hi5 ≤ wc.heap.size) := ⟨hp1, hlo5, hhi5⟩
          have HR6 := Lib.hid hr6
          have hpw : pO < wc.heap.size := Nat.lt_of_lt_of_le HPL.out hbx.size
          rcases hcb : cb with _ | _
          · have hdn : dn = dk := HCB.out hcb
            rw [hcb] at HST
            have HN : Hid (RunAt W wc pO (runK d l (k + 1))) := by
              show RunAt _ _ _ _
              rw [HST.out.1, hdn]
              exact ⟨HBL.out.trans (hbx.mono HBL.out.size), TN, cN, TP, cP, lo, hi, hr6, HOWN.out.keep (fun b _ h2 => hbx.block b (by have := HLH.out.2.1; omega)), HLH.out.1, Nat.le_trans HLH.out.2.1 hbx.size, HLH.out.2.2, HCP.out.1, HCP.out.2⟩
            have HC : Hid (runC d l (k + 1) = nk) := by show _ = _; rw [HST.out.2]; simp
            clear hdn hcb d0 d1 d2 d3 e0 e1 hbx hp1 hrow5 hown5 hlo5 hhi5 hr6 hpw
            go_wp2_with fail
            first
              | exact ⟨⟨k + 1, hlt, by first | rfl | simp, by rw [HC.out], HN⟩, by simp [intOf]; omega⟩
              | (go_roundw
                 case rel => exact ⟨k + 1, hlt, by go_num, by rw [HC.out], HN⟩
                 case measure => simp [intOf]; omega)
          · rw [hcb] at HST
            have x0 : wc.cell? ⟨p, 0, none⟩ = some (.slice TN5 dn.now.length cN5) := hrow5.cell (i := 0) (by omega)
            have x1 : wc.cell? ⟨p, 1, none⟩ = some (.slice TP5 dn.past.length cP5) := hrow5.cell (i := 1) (by omega)
            have y0 : wc.cell? ⟨pO, 0, none⟩ = some (.slice TN dk.now.length cN) := hr6.cell (i := 0) (by omega)
            have y1 : wc.cell? ⟨pO, 1, none⟩ = some (.slice TP dk.past.length cP) := hr6.cell (i := 1) (by omega)
            have z0 := hr6.frozen 0
            have z1 := hr6.frozen 1
            have HN : Hid (RunAt W ((wc.setCell ⟨pO, 0, none⟩ (.slice TN5 dn.now.length cN5)).setCell ⟨pO, 1, none⟩ (.slice TP5 dn.past.length cP5)) pO (runK d l (k + 1))) := by
              show RunAt _ _ _ _
              rw [HST.out.1]
              refine ⟨((HBL.out.trans (hbx.mono HBL.out.size)).setCell (p := ⟨pO, 0, none⟩) HPO.out _).setCell (p := ⟨pO, 1, none⟩) HPO.out _, TN5, cN5, TP5, cP5, lo5, hi5, desk_row hr6 _ _, HOW5.out.keep (fun b h1 h2 => far2 (by have := HPL.out; have := HPP.out.2.1; omega) _ _), ?_, by simp [World.setCell]; exact hhi5, .inr (by have := HPL.out; omega), cP5.lo, cP5.hi⟩
              have := HBL.out.size; omega
            have HC : Hid (runC d l (k + 1) = nk + 1) := by show _ = _; rw [HST.out.2]; simp
            clear hcb d0 d1 d2 d3 e0 e1 hbx hp1 hrow5 hown5 hlo5 hhi5 hr6 hpw
            go_wp2_with fail
            first
              | exact ⟨⟨k + 1, hlt, by first | rfl | simp, by rw [HC.out]; first | rfl | simp, HN⟩, by simp [intOf]; omega⟩
              | (go_roundw
                 case rel => exact ⟨k + 1, hlt, by go_num, by rw [HC.out]; go_num, HN⟩
                 case measure => simp [intOf]; omega)
      · have hkl : k = l.length := by omega
        rw [hkl] at hrow hown ⊢
        obtain ⟨dk, hdk⟩ : ∃ dk, runK d l l.length = dk := ⟨_, rfl⟩
        obtain ⟨nk, hnk⟩ : ∃ nk, runC d l l.length = nk := ⟨_, rfl⟩
        rw [hkl, hdk] at HCP
        rw [hdk] at hrow hown
        rw [hnk]
        have HRD : Hid (rnD d l = dk ∧ rnN d l = nk) := by have := HRY.out; rw [hdk, hnk] at this; exact this
        have x0 : wr.cell? ⟨pO, 0, none⟩ = some (.slice TN dk.now.length cN) := hrow.cell (i := 0) (by omega)
        have x1 : wr.cell? ⟨pO, 1, none⟩ = some (.slice TP dk.past.length cP) := hrow.cell (i := 1) (by omega)
        have y0 := r10 _ HA.out.bel
        have y1 := r11 _ HA.out.bel
        have z0 := g10 _ HA.out.bel
        have z1 := g11 _ HA.out.bel
        have HBL := Lib.hid (belT HBW.out HA.out.bel)
        have HOWN := Lib.hid hown
        have HLL : Hid (W.heap.size ≤ lo ∧ hi ≤ wr.heap.size ∧ W.heap.size = w.heap.size + 2) := ⟨hlo, hhi, HZW.out⟩
        have hnl : ¬ (k : Int) < (l.length : Int) := by omega
        clear hrow hown hlo hhi hap hrc hdk hnk HA r10 r11 g10 g11 hpl hkl
        obtain ⟨R, hR⟩ : ∃ R, w.heap.size + 1 = R := ⟨_, rfl⟩
        rw [hR] at y0 y1 z0 z1 ⊢
        have HRR : Hid (w.heap.size + 1 = R) := hR
        clear hR
        go_wp2_with fail
        refine bodyPost_ret (v := .tuple #[.agg #[.slice TN dk.now.length cN, .slice TP dk.past.length cP], .int .i64 (nk : Nat)]) (by simp [results, Try.results9, go_sem, y0, y1]) rfl ?_
        rw [HRD.out.1, HRD.out.2]
        have hr1 := HRR.out
        have hr2 := HLL.out
        have hfin := (HBL.out.setCell (p := ⟨R, 0, none⟩) (show w.heap.size ≤ R by omega) (.slice TN dk.now.length cN)).setCell (p := ⟨R, 1, none⟩) (show w.heap.size ≤ R by omega) (.slice TP dk.past.length cP)
        obtain ⟨AA, CC, TT, UU, ho⟩ := (HOWN.out.keep (w' := (wr.setCell ⟨R, 0, none⟩ (.slice TN dk.now.length cN)).setCell ⟨R, 1, none⟩ (.slice TP dk.past.length cP)) (fun b h1 h2 => far2 (by omega) _ _)).more (lo' := w.heap.size) (hi' := ((wr.setCell ⟨R, 0, none⟩ (.slice TN dk.now.length cN)).setCell ⟨R, 1, none⟩ (.slice TP dk.past.length cP)).heap.size) (by omega) (by simp [World.setCell]; omega)
        exact ⟨TN, cN, TP, ⟨cP, HCP.out.1, HCP.out.2⟩, AA, CC, TT, UU, rfl, hfin, ho⟩

end Go.Proofs.Ytlkjpmdnhccdpab

namespace Go.Proofs.Ytlkjpmdnhccdpab
set_option linter.unusedSimpArgs false
set_option linter.unusedVariables false
open Go.RowKit

theorem keepDd {w w' : World} {B : Nat} {A : Option Addr} {l : List Dd} (hb : Below B w w') (h : Deeds w (· < B) A l) : Deeds w' (· < B) A l := h.below hb

theorem OwnDd.keepB {w w' : World} {lo hi : Nat} {A : Option Addr} {l : List Dd} (h : OwnDd w lo hi A l) (hk : ∀ b, lo ≤ b → b < hi → w'.heap[b]? = w.heap[b]?) : OwnDd w' lo hi A l := by
  intro h0
  obtain ⟨b, N, f, e, h1, h2, h3, h4, h5⟩ := h h0
  exact ⟨b, N, f, e, h1, h2, h3.of_block (hk b h1 h2), h4, h5⟩

theorem OwnDd.below {w w' : World} {lo hi : Nat} {A : Option Addr} {l : List Dd} (h : OwnDd w lo hi A l) (hb : Below hi w w') : OwnDd w' lo hi A l := h.keepB fun b _ h2 => hb.block b h2

theorem OwnDd.off {w w' : World} {lo hi lo' hi' : Nat} {A : Option Addr} {l : List Dd} (h : OwnDd w lo hi A l) (ho : Off lo' hi' w w') (hd : hi ≤ lo' ∨ hi' ≤ lo) : OwnDd w' lo hi A l := h.keepB fun b h1 h2 => ho.block b (by omega)

theorem OwnDd.offB {w w' : World} {lo hi lo' hi' : Nat} {A : Option Addr} {l : List Dd} (h : OwnDd w lo hi A l) (ho : OffB lo' hi' w w') (hs : hi ≤ w.heap.size) (hd : hi ≤ lo' ∨ hi' ≤ lo) : OwnDd w' lo hi A l := h.keepB fun b h1 h2 => ho.block b (by omega) (by omega)

theorem OwnDd.lt {w : World} {lo hi : Nat} {A : Option Addr} {l : List Dd} (h : OwnDd w lo hi A l) : Deeds w (· < hi) A l := h.deeds.mono fun _ h => h.2

theorem OwnDk.offB {w w' : World} {lo hi lo' hi' : Nat} {TN TP : Option Addr} {d : Dk} {A : Nat → Nat → Option Addr} {C : Nat → Nat → Nat} {TT : Nat → Option Addr} {CC : Nat → Nat} (h : OwnDk w lo hi TN TP d A C TT CC) (ho : OffB lo' hi' w w') (hs : hi ≤ w.heap.size) (hd : hi ≤ lo' ∨ hi' ≤ lo) : OwnDk w' lo hi TN TP d A C TT CC := h.keep fun b h1 h2 => ho.block b (by omega) (by omega)

theorem RdD.two {w : World} {B : Nat} {TN TP : Option Addr} {d : Dk} (h : RdD w B TN TP d) (hB : B ≤ w.heap.size) : Rows2 w (· < w.heap.size) TN d.now ∧ Rows3 w (· < w.heap.size) TP d.past := ⟨(h.lt hB).n, (h.lt hB).p⟩

theorem RdD.keepB {w w' : World} {B : Nat} {TN TP : Option Addr} {d : Dk} (h : RdD w B TN TP d) (hb : Below B w w') : RdD w' B TN TP d := keepDk hb h

theorem BoxD.made {w : World} {p : Nat} {s0 s1 : Value} (h : w.rowIs p 29 2 (fun i => if i = 0 then s0 else s1)) : BoxD w p s0 s1 := ⟨h.lt, h.cell (i := 0) (by omega), h.cell (i := 1) (by omega)⟩

theorem run_small (d : Dk) (l : List Dd) : SmallD (rnD d l) := by
  rcases hb : rnB d l with _ | _
  · rw [(rn_no hb).1]; exact small_zero
  · have hk : dkB d = true := by unfold rnB at hb; rw [Bool.and_eq_true] at hb; exact hb.1
    have he : rnD d l = runD d l := by unfold rnD; rw [if_pos hb]
    rw [he]; exact small_ok (run_ok hk l)

/-- what is asked of the program's DeskRun -/
structure Impl12R : Prop where
  run : ∀ (A B D : Option Addr) (c kk e : Nat) (d : Dk) (l : List Dd) (_ : d.now.length ≤ maxLen) (_ : d.past.length ≤ maxLen) (_ : l.length ≤ 4294967296) (_ : d.past.length ≤ kk ∧ kk ≤ maxLen) (w : World) (_ : Rows2 w (fun b => b < w.heap.size) A d.now) (_ : Rows3 w (fun b => b < w.heap.size) B d.past) (_ : Deeds w (fun b => b < w.heap.size) D l),
    Calls Try.prog 12 #[dskV A d.now.length c B d.past.length kk, .slice D l.length e] w (DeskRes w (rnD d l) (.int .i64 (rnN d l : Nat)))

set_option maxHeartbeats 8000000 in
set_option maxRecDepth 100000 in
theorem wFnExactDeskRun (I : Impl12R) (A B L : Option Addr) (c k e0 : Nat) (d : Dk) (l : List Dd) (hx : d.now.length ≤ maxLen) (hy : d.past.length ≤ maxLen) (hl : l.length ≤ maxLen) (w : World) (h : Rows2 w (· < w.heap.size) A d.now) (h' : Rows3 w (· < w.heap.size) B d.past) (h2 : Deeds w (· < w.heap.size) L l) :
    Calls Try.prog 3 #[dskV A d.now.length c B d.past.length k, .slice L l.length e0] w (Adds (.bool true) w) := by
  have R0 : Hid (RdD w w.heap.size A B d) := ⟨h, h'⟩
  have RL := Lib.hid h2
  have HSZ := Lib.hid (szDesk_c A B c k d 1048576 hx hy (by omega) (by omega))
  have HSR := Lib.hid (run_small d l)
  have HL1 : Hid ((rnD d l).now.length ≤ maxLen) := by have := HSR.out.now; show _ ≤ _; unfold maxLen; omega
  have HL2 : Hid ((rnD d l).past.length ≤ maxLen) := by have := HSR.out.past; show _ ≤ _; unfold maxLen; omega
  have zB : (((rnN d l : Nat) : Int) != ((rnN d l : Nat) : Int)) = false := by simp
  unfold dskV
  clear h h' h2
  obtain ⟨W, hW⟩ : ∃ W, W = w.alloc (.cells #[.slice A d.now.length c, .slice B d.past.length k] 25) := ⟨_, rfl⟩
  have hbW : Below w.heap.size w W := by rw [hW]; exact (Below.refl _ _).alloc (Nat.le_refl _) _
  have BP : Hid (BoxD W w.heap.size (.slice A d.now.length c) (.slice B d.past.length k)) := by show BoxD _ _ _ _; rw [hW]; exact ⟨by simp, by simp [go_sem], by simp [go_sem]⟩
  have bzBP : w.heap.size < W.heap.size := by rw [hW]; simp
  have BEL0 := Lib.hid hbW
  have le_w : w.heap.size ≤ W.heap.size := hbW.size
  replace R0 := Lib.hid (keepDk hbW R0.out)
  replace RL := Lib.hid (keepDd hbW RL.out)
  clear hbW
  have o_w_W : w.heap.size ≤ W.heap.size := le_w
  have le_W : W.heap.size ≤ W.heap.size := Nat.le_refl _
  have cBP0 := BP.out.c0
  have cBP1 := BP.out.c1
  have ltBP := BP.out.lt
  go_enter Try.func3, Try.ntmps3
  go_wp2_with fail
  rw [← hW]
  clear hW
  refine (HSZ.out W (R0.out.lt le_w).n (R0.out.lt le_w).p).mono ?_
  rintro e w1 ⟨r, rfl, hb1, hr⟩
  clear cBP0 cBP1 ltBP
  replace BP := Lib.hid (BP.out.still hb1)
  replace R0 := Lib.hid (keepDk (hb1.mono le_w) R0.out)
  replace RL := Lib.hid (keepDd (hb1.mono le_w) RL.out)
  replace le_w := Nat.le_trans le_w hb1.size
  replace le_W := Nat.le_trans le_W hb1.size
  replace BEL0 := Lib.hid (belT BEL0.out hb1)
  clear hb1
  by_cases hz : r < 0
  · clear hr
    go_wp2_with fail
    go_ret
    exact Adds.of rfl BEL0.out
  have HD := Lib.hid (SizedD.small (d := d) (left := 1048576) (r := r) (by omega) (by omega) (by omega))
  have hrl : r ≤ 1048576 := by omega
  clear hr HSZ
  go_wp2_with fail
  refine (szDeedS_c L e0 l.length r hl (by omega) (by omega) _).mono ?_
  rintro e w2 ⟨q, rfl, rfl, hq⟩
  by_cases hzq : q < 0
  · clear hq
    go_wp2_with fail
    go_ret
    exact Adds.of rfl BEL0.out
  have hl3 : l.length ≤ 1048576 := by omega
  have hl4 : l.length ≤ 4294967296 := by omega
  clear hq hrl hz
  have hsd : sizeD d ≤ 1048576 := HD.out.size
  have hsr : sizeD (rnD d l) ≤ 1048576 := HSR.out.size
  have o_W_w1 : W.heap.size ≤ w1.heap.size := le_W
  have le_w1 : w1.heap.size ≤ w1.heap.size := Nat.le_refl _
  have cBP0 := BP.out.c0
  have cBP1 := BP.out.c1
  have ltBP := BP.out.lt
  go_wp2_with fail
  refine (toDesk_c A B c k d HD.out HD.out.short.now HD.out.short.past _ (R0.out.lt le_w).n (R0.out.lt le_w).p).mono ?_
  rintro e w2 ⟨v2, rfl, TS1, cS1, TS2, cS2, AS, CS, US, KS, rfl, hb2, ho2⟩
  have S := Lib.hid ho2
  clear cBP0 cBP1 ltBP
  replace BP := Lib.hid (BP.out.still hb2)
  replace R0 := Lib.hid (keepDk (hb2.mono le_w) R0.out)
  replace RL := Lib.hid (keepDd (hb2.mono le_w) RL.out)
  replace le_w := Nat.le_trans le_w hb2.size
  replace le_W := Nat.le_trans le_W hb2.size
  replace le_w1 := Nat.le_trans le_w1 hb2.size
  replace BEL0 := Lib.hid (belT BEL0.out hb2)
  have o_w1_w2 : w1.heap.size ≤ w2.heap.size := le_w1
  have le_w2 : w2.heap.size ≤ w2.heap.size := Nat.le_refl _
  clear hb2 ho2
  go_wp2_with fail
  refine (toDeedS_c L e0 l hl4 _ (RL.out.lt le_w)).mono ?_
  rintro e w3 ⟨TT, cT, rfl, -, -, hb3, ho3⟩
  have T := Lib.hid ho3
  replace BP := Lib.hid (BP.out.still hb3)
  replace S := Lib.hid (S.out.below (hb3.mono le_w2))
  replace R0 := Lib.hid (keepDk (hb3.mono le_w) R0.out)
  replace RL := Lib.hid (keepDd (hb3.mono le_w) RL.out)
  replace le_w := Nat.le_trans le_w hb3.size
  replace le_W := Nat.le_trans le_W hb3.size
  replace le_w1 := Nat.le_trans le_w1 hb3.size
  replace le_w2 := Nat.le_trans le_w2 hb3.size
  replace BEL0 := Lib.hid (belT BEL0.out hb3)
  have o_w2_w3 : w2.heap.size ≤ w3.heap.size := le_w2
  have le_w3 : w3.heap.size ≤ w3.heap.size := Nat.le_refl _
  clear hb3 ho3
  go_wp2_with fail
  refine (deskRun_spec TS1 TS2 TT cS1 cS2 cT d l hx hy hl4 _ (S.out.lt.lt le_w2).n (S.out.lt.lt le_w2).p (T.out.lt.lt le_w3)).mono ?_
  rintro e w4 ⟨TV1, cV1, TV2, cV2, AV, CV, UV, KV, rfl, hb4, ho4⟩
  unfold dskV
  have V := Lib.hid ho4
  replace BP := Lib.hid (BP.out.still hb4)
  replace S := Lib.hid (S.out.below (hb4.mono le_w2))
  replace T := Lib.hid (T.out.below (hb4.mono le_w3))
  replace R0 := Lib.hid (keepDk (hb4.mono le_w) R0.out)
  replace RL := Lib.hid (keepDd (hb4.mono le_w) RL.out)
  replace le_w := Nat.le_trans le_w hb4.size
  replace le_W := Nat.le_trans le_W hb4.size
  replace le_w1 := Nat.le_trans le_w1 hb4.size
  replace le_w2 := Nat.le_trans le_w2 hb4.size
  replace le_w3 := Nat.le_trans le_w3 hb4.size
  replace BEL0 := Lib.hid (belT BEL0.out hb4)
  have o_w3_w4 : w3.heap.size ≤ w4.heap.size := le_w3
  have le_w4 : w4.heap.size ≤ w4.heap.size := Nat.le_refl _
  clear hb4 ho4
  clear S
  clear T
  replace V := Lib.hid V.out.lt
  have cBP0 := BP.out.c0
  have cBP1 := BP.out.c1
  have ltBP := BP.out.lt
  go_wp2_with fail
  clear cBP0 cBP1 ltBP
  obtain ⟨WBV, hWBV⟩ : ∃ WBV : World, WBV = w4.alloc (.cells #[.slice TV1 (rnD d l).now.length cV1, .slice TV2 (rnD d l).past.length cV2] 29) := ⟨_, rfl⟩
  have hbWBV : Below w4.heap.size w4 WBV := by rw [hWBV]; exact (Below.refl _ _).alloc (Nat.le_refl _) _
  have BV : Hid (BoxD WBV w4.heap.size (.slice TV1 (rnD d l).now.length cV1) (.slice TV2 (rnD d l).past.length cV2)) := by show BoxD _ _ _ _; rw [hWBV]; exact BoxD.new _ _ _
  have bzBV : w4.heap.size < WBV.heap.size := by rw [hWBV]; simp
  rw [← hWBV]
  clear hWBV
  replace BP := Lib.hid (BP.out.still hbWBV)
  replace R0 := Lib.hid (keepDk (hbWBV.mono le_w) R0.out)
  replace RL := Lib.hid (keepDd (hbWBV.mono le_w) RL.out)
  replace V := Lib.hid (keepDk (hbWBV.mono le_w4) V.out)
  replace le_w := Nat.le_trans le_w hbWBV.size
  replace le_W := Nat.le_trans le_W hbWBV.size
  replace le_w1 := Nat.le_trans le_w1 hbWBV.size
  replace le_w2 := Nat.le_trans le_w2 hbWBV.size
  replace le_w3 := Nat.le_trans le_w3 hbWBV.size
  replace le_w4 := Nat.le_trans le_w4 hbWBV.size
  replace BEL0 := Lib.hid (belT BEL0.out hbWBV)
  have o_w4_WBV : w4.heap.size ≤ WBV.heap.size := le_w4
  have le_WBV : WBV.heap.size ≤ WBV.heap.size := Nat.le_refl _
  clear hbWBV
  have cBP0 := BP.out.c0
  have cBP1 := BP.out.c1
  have ltBP := BP.out.lt
  go_wp2_with fail
  refine (toDesk_c A B c k d HD.out HD.out.short.now HD.out.short.past _ (R0.out.lt le_w).n (R0.out.lt le_w).p).mono ?_
  rintro e w5 ⟨v5, rfl, TX1, cX1, TX2, cX2, AX, CX, UX, KX, rfl, hb5, ho5⟩
  have X := Lib.hid ho5
  clear cBP0 cBP1 ltBP
  replace BP := Lib.hid (BP.out.still hb5)
  replace BV := Lib.hid (BV.out.still hb5)
  replace R0 := Lib.hid (keepDk (hb5.mono le_w) R0.out)
  replace RL := Lib.hid (keepDd (hb5.mono le_w) RL.out)
  replace V := Lib.hid (keepDk (hb5.mono le_w4) V.out)
  replace le_w := Nat.le_trans le_w hb5.size
  replace le_W := Nat.le_trans le_W hb5.size
  replace le_w1 := Nat.le_trans le_w1 hb5.size
  replace le_w2 := Nat.le_trans le_w2 hb5.size
  replace le_w3 := Nat.le_trans le_w3 hb5.size
  replace le_w4 := Nat.le_trans le_w4 hb5.size
  replace le_WBV := Nat.le_trans le_WBV hb5.size
  replace BEL0 := Lib.hid (belT BEL0.out hb5)
  have o_WBV_w5 : WBV.heap.size ≤ w5.heap.size := le_WBV
  have le_w5 : w5.heap.size ≤ w5.heap.size := Nat.le_refl _
  clear hb5 ho5
  go_wp2_with fail
  obtain ⟨WBX, hWBX⟩ : ∃ WBX : World, WBX = w5.alloc (.cells #[.slice TX1 d.now.length cX1, .slice TX2 d.past.length cX2] 29) := ⟨_, rfl⟩
  have hbWBX : Below w5.heap.size w5 WBX := by rw [hWBX]; exact (Below.refl _ _).alloc (Nat.le_refl _) _
  have BX : Hid (BoxD WBX w5.heap.size (.slice TX1 d.now.length cX1) (.slice TX2 d.past.length cX2)) := by show BoxD _ _ _ _; rw [hWBX]; exact BoxD.new _ _ _
  have bzBX : w5.heap.size < WBX.heap.size := by rw [hWBX]; simp
  rw [← hWBX]
  clear hWBX
  replace BP := Lib.hid (BP.out.still hbWBX)
  replace BV := Lib.hid (BV.out.still hbWBX)
  replace X := Lib.hid (X.out.below (hbWBX.mono le_w5))
  replace R0 := Lib.hid (keepDk (hbWBX.mono le_w) R0.out)
  replace RL := Lib.hid (keepDd (hbWBX.mono le_w) RL.out)
  replace V := Lib.hid (keepDk (hbWBX.mono le_w4) V.out)
  replace le_w := Nat.le_trans le_w hbWBX.size
  replace le_W := Nat.le_trans le_W hbWBX.size
  replace le_w1 := Nat.le_trans le_w1 hbWBX.size
  replace le_w2 := Nat.le_trans le_w2 hbWBX.size
  replace le_w3 := Nat.le_trans le_w3 hbWBX.size
  replace le_w4 := Nat.le_trans le_w4 hbWBX.size
  replace le_WBV := Nat.le_trans le_WBV hbWBX.size
  replace le_w5 := Nat.le_trans le_w5 hbWBX.size
  replace BEL0 := Lib.hid (belT BEL0.out hbWBX)
  have o_w5_WBX : w5.heap.size ≤ WBX.heap.size := le_w5
  have le_WBX : WBX.heap.size ≤ WBX.heap.size := Nat.le_refl _
  clear hbWBX
  go_wp2_with fail
  refine (toDeedS_c L e0 l hl4 _ (RL.out.lt le_w)).mono ?_
  rintro e w6 ⟨TY, cY, rfl, -, -, hb6, ho6⟩
  have Y := Lib.hid ho6
  replace BP := Lib.hid (BP.out.still hb6)
  replace BV := Lib.hid (BV.out.still hb6)
  replace BX := Lib.hid (BX.out.still hb6)
  replace X := Lib.hid (X.out.below (hb6.mono le_w5))
  replace R0 := Lib.hid (keepDk (hb6.mono le_w) R0.out)
  replace RL := Lib.hid (keepDd (hb6.mono le_w) RL.out)
  replace V := Lib.hid (keepDk (hb6.mono le_w4) V.out)
  replace le_w := Nat.le_trans le_w hb6.size
  replace le_W := Nat.le_trans le_W hb6.size
  replace le_w1 := Nat.le_trans le_w1 hb6.size
  replace le_w2 := Nat.le_trans le_w2 hb6.size
  replace le_w3 := Nat.le_trans le_w3 hb6.size
  replace le_w4 := Nat.le_trans le_w4 hb6.size
  replace le_WBV := Nat.le_trans le_WBV hb6.size
  replace le_w5 := Nat.le_trans le_w5 hb6.size
  replace le_WBX := Nat.le_trans le_WBX hb6.size
  replace BEL0 := Lib.hid (belT BEL0.out hb6)
  have o_WBX_w6 : WBX.heap.size ≤ w6.heap.size := le_WBX
  have le_w6 : w6.heap.size ≤ w6.heap.size := Nat.le_refl _
  clear hb6 ho6
  have cBX0 := BX.out.c0
  have cBX1 := BX.out.c1
  have ltBX := BX.out.lt
  go_wp2_with fail
  refine (I.run TX1 TX2 TY cX1 cX2 cY d l hx hy hl4 cX2.two _ (X.out.lt.lt le_w5).n (X.out.lt.lt le_w5).p (Y.out.lt.lt le_w6)).mono ?_
  rintro e w7 ⟨TG1, cG1, TG2, cG2, AG, CG, UG, KG, rfl, hb7, ho7⟩
  unfold dskV
  have G := Lib.hid ho7
  replace BP := Lib.hid (BP.out.still hb7)
  replace BV := Lib.hid (BV.out.still hb7)
  replace BX := Lib.hid (BX.out.still hb7)
  replace X := Lib.hid (X.out.below (hb7.mono le_w5))
  replace Y := Lib.hid (Y.out.below (hb7.mono le_w6))
  replace R0 := Lib.hid (keepDk (hb7.mono le_w) R0.out)
  replace RL := Lib.hid (keepDd (hb7.mono le_w) RL.out)
  replace V := Lib.hid (keepDk (hb7.mono le_w4) V.out)
  replace le_w := Nat.le_trans le_w hb7.size
  replace le_W := Nat.le_trans le_W hb7.size
  replace le_w1 := Nat.le_trans le_w1 hb7.size
  replace le_w2 := Nat.le_trans le_w2 hb7.size
  replace le_w3 := Nat.le_trans le_w3 hb7.size
  replace le_w4 := Nat.le_trans le_w4 hb7.size
  replace le_WBV := Nat.le_trans le_WBV hb7.size
  replace le_w5 := Nat.le_trans le_w5 hb7.size
  replace le_WBX := Nat.le_trans le_WBX hb7.size
  replace le_w6 := Nat.le_trans le_w6 hb7.size
  replace BEL0 := Lib.hid (belT BEL0.out hb7)
  have o_w6_w7 : w6.heap.size ≤ w7.heap.size := le_w6
  have le_w7 : w7.heap.size ≤ w7.heap.size := Nat.le_refl _
  clear hb7 ho7
  clear cBX0 cBX1 ltBX
  have cBV0 := BV.out.c0
  have cBV1 := BV.out.c1
  have ltBV := BV.out.lt
  go_wp2_with fail
  clear cBV0 cBV1 ltBV
  obtain ⟨WBG, hWBG⟩ : ∃ WBG : World, WBG = w7.alloc (.cells #[.slice TG1 (rnD d l).now.length cG1, .slice TG2 (rnD d l).past.length cG2] 29) := ⟨_, rfl⟩
  have hbWBG : Below w7.heap.size w7 WBG := by rw [hWBG]; exact (Below.refl _ _).alloc (Nat.le_refl _) _
  have BG : Hid (BoxD WBG w7.heap.size (.slice TG1 (rnD d l).now.length cG1) (.slice TG2 (rnD d l).past.length cG2)) := by show BoxD _ _ _ _; rw [hWBG]; exact BoxD.new _ _ _
  have bzBG : w7.heap.size < WBG.heap.size := by rw [hWBG]; simp
  rw [← hWBG]
  clear hWBG
  replace BP := Lib.hid (BP.out.still hbWBG)
  replace BV := Lib.hid (BV.out.still hbWBG)
  replace BX := Lib.hid (BX.out.still hbWBG)
  replace X := Lib.hid (X.out.below (hbWBG.mono le_w5))
  replace Y := Lib.hid (Y.out.below (hbWBG.mono le_w6))
  replace G := Lib.hid (G.out.below (hbWBG.mono le_w7))
  replace R0 := Lib.hid (keepDk (hbWBG.mono le_w) R0.out)
  replace RL := Lib.hid (keepDd (hbWBG.mono le_w) RL.out)
  replace V := Lib.hid (keepDk (hbWBG.mono le_w4) V.out)
  replace le_w := Nat.le_trans le_w hbWBG.size
  replace le_W := Nat.le_trans le_W hbWBG.size
  replace le_w1 := Nat.le_trans le_w1 hbWBG.size
  replace le_w2 := Nat.le_trans le_w2 hbWBG.size
  replace le_w3 := Nat.le_trans le_w3 hbWBG.size
  replace le_w4 := Nat.le_trans le_w4 hbWBG.size
  replace le_WBV := Nat.le_trans le_WBV hbWBG.size
  replace le_w5 := Nat.le_trans le_w5 hbWBG.size
  replace le_WBX := Nat.le_trans le_WBX hbWBG.size
  replace le_w6 := Nat.le_trans le_w6 hbWBG.size
  replace le_w7 := Nat.le_trans le_w7 hbWBG.size
  replace BEL0 := Lib.hid (belT BEL0.out hbWBG)
  have o_w7_WBG : w7.heap.size ≤ WBG.heap.size := le_w7
  have le_WBG : WBG.heap.size ≤ WBG.heap.size := Nat.le_refl _
  clear hbWBG
  have cBG0 := BG.out.c0
  have cBG1 := BG.out.c1
  have ltBG := BG.out.lt
  have cBV0 := BV.out.c0
  have cBV1 := BV.out.c1
  have ltBV := BV.out.lt
  go_wp2_with fail
  refine (eqDesk_same _ _ _ _ _ _ _ _ (rnD d l) HL1.out HL2.out _ (G.out.lt.lt le_w7).n (G.out.lt.lt le_w7).p (V.out.lt le_w4).n (V.out.lt le_w4).p).mono ?_
  rintro e w8 ⟨rfl, hb8⟩
  replace BP := Lib.hid (BP.out.still hb8)
  replace BV := Lib.hid (BV.out.still hb8)
  replace BX := Lib.hid (BX.out.still hb8)
  replace BG := Lib.hid (BG.out.still hb8)
  replace X := Lib.hid (X.out.below (hb8.mono le_w5))
  replace Y := Lib.hid (Y.out.below (hb8.mono le_w6))
  replace G := Lib.hid (G.out.below (hb8.mono le_w7))
  replace R0 := Lib.hid (keepDk (hb8.mono le_w) R0.out)
  replace RL := Lib.hid (keepDd (hb8.mono le_w) RL.out)
  replace V := Lib.hid (keepDk (hb8.mono le_w4) V.out)
  replace le_w := Nat.le_trans le_w hb8.size
  replace le_W := Nat.le_trans le_W hb8.size
  replace le_w1 := Nat.le_trans le_w1 hb8.size
  replace le_w2 := Nat.le_trans le_w2 hb8.size
  replace le_w3 := Nat.le_trans le_w3 hb8.size
  replace le_w4 := Nat.le_trans le_w4 hb8.size
  replace le_WBV := Nat.le_trans le_WBV hb8.size
  replace le_w5 := Nat.le_trans le_w5 hb8.size
  replace le_WBX := Nat.le_trans le_WBX hb8.size
  replace le_w6 := Nat.le_trans le_w6 hb8.size
  replace le_w7 := Nat.le_trans le_w7 hb8.size
  replace le_WBG := Nat.le_trans le_WBG hb8.size
  replace BEL0 := Lib.hid (belT BEL0.out hb8)
  clear hb8
  clear cBG0 cBG1 ltBG
  clear cBV0 cBV1 ltBV
  have o_WBG_w8 : WBG.heap.size ≤ w8.heap.size := le_WBG
  have le_w8 : w8.heap.size ≤ w8.heap.size := Nat.le_refl _
  have sX0 := stays BX.out.lt BX.out.c0
  have sX1 := stays BX.out.lt BX.out.c1
  have sY0 := stays BP.out.lt BP.out.c0
  have sY1 := stays BP.out.lt BP.out.c1
  have HR : Hid (∀ w', Below w8.heap.size w8 w' → (Rows2 w' (· < w'.heap.size) A d.now ∧ Rows3 w' (· < w'.heap.size) B d.past) ∧ (Rows2 w' (· < w'.heap.size) TX1 d.now ∧ Rows3 w' (· < w'.heap.size) TX2 d.past)) := fun w' hb => ⟨(keepDk (hb.mono le_w) R0.out).two (Nat.le_trans le_w hb.size), (keepDk (hb.mono le_w5) X.out.lt).two (Nat.le_trans le_w5 hb.size)⟩
  go_wp2_with fail
  go_region_held3 (fun w' => Below w8.heap.size w8 w')
    (first | exact Below.refl _ _ | exact Below.drew (Below.refl _ _) | (refine Below.drew ?_; assumption) | exact belT (by assumption) (by assumption) | assumption)
    (first
      | (go_at_call 10; refine (toDesk_c A B c k d HD.out HD.out.short.now HD.out.short.past _ (HR.out _ (by first | exact Below.refl _ _ | exact Below.drew (Below.refl _ _) | assumption)).1.1 (HR.out _ (by first | exact Below.refl _ _ | exact Below.drew (Below.refl _ _) | assumption)).1.2).mono ?_; rintro e w9 ⟨v9, rfl, TN9, cN9, TP9, cP9, AA9, CC9, TT9, UU9, rfl, hb9, ho9⟩
         have hk9 : Below w8.heap.size w8 w9 := belT (by first | exact Below.refl _ _ | exact Below.drew (Below.refl _ _) | assumption) hb9)
      | (go_at_call 13; refine (eqDesk_same TX1 TX2 TN9 TP9 _ _ cN9 cP9 d hx hy w9 (HR.out _ hk9).2.1 (HR.out _ hk9).2.2 (ho9.more (lo' := 0) (Nat.zero_le _) (Nat.le_refl _)).two.1 (ho9.more (lo' := 0) (Nat.zero_le _) (Nat.le_refl _)).two.2).mono ?_; rintro e w10 ⟨rfl, hb10⟩))
  have hbr : Below w8.heap.size w8 w10 := belT hk9 hb10
  clear HR sX0 sX1 sY0 sY1 ho9 hk9 hb9 hb10
  replace BP := Lib.hid (BP.out.still hbr)
  replace BV := Lib.hid (BV.out.still hbr)
  replace BX := Lib.hid (BX.out.still hbr)
  replace BG := Lib.hid (BG.out.still hbr)
  replace X := Lib.hid (X.out.below (hbr.mono le_w5))
  replace Y := Lib.hid (Y.out.below (hbr.mono le_w6))
  replace G := Lib.hid (G.out.below (hbr.mono le_w7))
  replace R0 := Lib.hid (keepDk (hbr.mono le_w) R0.out)
  replace RL := Lib.hid (keepDd (hbr.mono le_w) RL.out)
  replace V := Lib.hid (keepDk (hbr.mono le_w4) V.out)
  replace le_w := Nat.le_trans le_w hbr.size
  replace le_W := Nat.le_trans le_W hbr.size
  replace le_w1 := Nat.le_trans le_w1 hbr.size
  replace le_w2 := Nat.le_trans le_w2 hbr.size
  replace le_w3 := Nat.le_trans le_w3 hbr.size
  replace le_w4 := Nat.le_trans le_w4 hbr.size
  replace le_WBV := Nat.le_trans le_WBV hbr.size
  replace le_w5 := Nat.le_trans le_w5 hbr.size
  replace le_WBX := Nat.le_trans le_WBX hbr.size
  replace le_w6 := Nat.le_trans le_w6 hbr.size
  replace le_w7 := Nat.le_trans le_w7 hbr.size
  replace le_WBG := Nat.le_trans le_WBG hbr.size
  replace le_w8 := Nat.le_trans le_w8 hbr.size
  replace BEL0 := Lib.hid (belT BEL0.out hbr)
  clear hbr
  have o_w8_w10 : w8.heap.size ≤ w10.heap.size := le_w8
  have le_w10 : w10.heap.size ≤ w10.heap.size := Nat.le_refl _
  go_wp2_with fail
  refine (toDeedS_c L e0 l hl4 _ (RL.out.lt le_w)).mono ?_
  rintro e w11 ⟨TE, cE, rfl, -, -, hb11, ho11⟩
  have E := Lib.hid ho11
  replace BP := Lib.hid (BP.out.still hb11)
  replace BV := Lib.hid (BV.out.still hb11)
  replace BX := Lib.hid (BX.out.still hb11)
  replace BG := Lib.hid (BG.out.still hb11)
  replace X := Lib.hid (X.out.below (hb11.mono le_w5))
  replace Y := Lib.hid (Y.out.below (hb11.mono le_w6))
  replace G := Lib.hid (G.out.below (hb11.mono le_w7))
  replace R0 := Lib.hid (keepDk (hb11.mono le_w) R0.out)
  replace RL := Lib.hid (keepDd (hb11.mono le_w) RL.out)
  replace V := Lib.hid (keepDk (hb11.mono le_w4) V.out)
  replace le_w := Nat.le_trans le_w hb11.size
  replace le_W := Nat.le_trans le_W hb11.size
  replace le_w1 := Nat.le_trans le_w1 hb11.size
  replace le_w2 := Nat.le_trans le_w2 hb11.size
  replace le_w3 := Nat.le_trans le_w3 hb11.size
  replace le_w4 := Nat.le_trans le_w4 hb11.size
  replace le_WBV := Nat.le_trans le_WBV hb11.size
  replace le_w5 := Nat.le_trans le_w5 hb11.size
  replace le_WBX := Nat.le_trans le_WBX hb11.size
  replace le_w6 := Nat.le_trans le_w6 hb11.size
  replace le_w7 := Nat.le_trans le_w7 hb11.size
  replace le_WBG := Nat.le_trans le_WBG hb11.size
  replace le_w8 := Nat.le_trans le_w8 hb11.size
  replace le_w10 := Nat.le_trans le_w10 hb11.size
  replace BEL0 := Lib.hid (belT BEL0.out hb11)
  have o_w10_w11 : w10.heap.size ≤ w11.heap.size := le_w10
  have le_w11 : w11.heap.size ≤ w11.heap.size := Nat.le_refl _
  clear hb11 ho11
  go_wp2_with fail
  refine (eqDeedS_same TY TE cY cE l hl4 _ (Y.out.lt.lt le_w6) (E.out.lt.lt le_w11)).mono ?_
  rintro e w12 ⟨rfl, hb12⟩
  replace BP := Lib.hid (BP.out.still hb12)
  replace BV := Lib.hid (BV.out.still hb12)
  replace BX := Lib.hid (BX.out.still hb12)
  replace BG := Lib.hid (BG.out.still hb12)
  replace X := Lib.hid (X.out.below (hb12.mono le_w5))
  replace Y := Lib.hid (Y.out.below (hb12.mono le_w6))
  replace G := Lib.hid (G.out.below (hb12.mono le_w7))
  replace E := Lib.hid (E.out.below (hb12.mono le_w11))
  replace R0 := Lib.hid (keepDk (hb12.mono le_w) R0.out)
  replace RL := Lib.hid (keepDd (hb12.mono le_w) RL.out)
  replace V := Lib.hid (keepDk (hb12.mono le_w4) V.out)
  replace le_w := Nat.le_trans le_w hb12.size
  replace le_W := Nat.le_trans le_W hb12.size
  replace le_w1 := Nat.le_trans le_w1 hb12.size
  replace le_w2 := Nat.le_trans le_w2 hb12.size
  replace le_w3 := Nat.le_trans le_w3 hb12.size
  replace le_w4 := Nat.le_trans le_w4 hb12.size
  replace le_WBV := Nat.le_trans le_WBV hb12.size
  replace le_w5 := Nat.le_trans le_w5 hb12.size
  replace le_WBX := Nat.le_trans le_WBX hb12.size
  replace le_w6 := Nat.le_trans le_w6 hb12.size
  replace le_w7 := Nat.le_trans le_w7 hb12.size
  replace le_WBG := Nat.le_trans le_WBG hb12.size
  replace le_w8 := Nat.le_trans le_w8 hb12.size
  replace le_w10 := Nat.le_trans le_w10 hb12.size
  replace le_w11 := Nat.le_trans le_w11 hb12.size
  replace BEL0 := Lib.hid (belT BEL0.out hb12)
  clear hb12
  clear E
  have cBX0 := BX.out.c0
  have cBX1 := BX.out.c1
  have ltBX := BX.out.lt
  go_wp2_with fail
  refine (markDesk_c TX1 TX2 AX CX UX KX _ _ d _ _ 1 HD.out (by omega) (by omega) _ le_w5 X.out).mono ?_
  rintro e w13 ⟨rfl, hf13, ho13⟩
  clear cBX0 cBX1 ltBX
  have hfb13 := hf13.below (Nat.le_refl _) (show WBV.heap.size ≤ w12.heap.size by omega)
  replace BP := Lib.hid (BP.out.offB hf13 (by omega))
  replace BV := Lib.hid (BV.out.offB hf13 (by omega))
  replace BX := Lib.hid (BX.out.offB hf13 (by omega))
  replace BG := Lib.hid (BG.out.offB hf13 (by omega))
  replace X := Lib.hid ho13
  replace Y := Lib.hid (Y.out.offB hf13 le_w6 (by omega))
  replace G := Lib.hid (G.out.offB hf13 le_w7 (by omega))
  replace R0 := Lib.hid (keepDk (hfb13.mono (by omega)) R0.out)
  replace RL := Lib.hid (keepDd (hfb13.mono (by omega)) RL.out)
  replace V := Lib.hid (keepDk (hfb13.mono (by omega)) V.out)
  replace le_w := Nat.le_trans le_w hf13.size
  replace le_W := Nat.le_trans le_W hf13.size
  replace le_w1 := Nat.le_trans le_w1 hf13.size
  replace le_w2 := Nat.le_trans le_w2 hf13.size
  replace le_w3 := Nat.le_trans le_w3 hf13.size
  replace le_w4 := Nat.le_trans le_w4 hf13.size
  replace le_WBV := Nat.le_trans le_WBV hf13.size
  replace le_w5 := Nat.le_trans le_w5 hf13.size
  replace le_WBX := Nat.le_trans le_WBX hf13.size
  replace le_w6 := Nat.le_trans le_w6 hf13.size
  replace le_w7 := Nat.le_trans le_w7 hf13.size
  replace le_WBG := Nat.le_trans le_WBG hf13.size
  replace le_w8 := Nat.le_trans le_w8 hf13.size
  replace le_w10 := Nat.le_trans le_w10 hf13.size
  replace le_w11 := Nat.le_trans le_w11 hf13.size
  replace BEL0 := Lib.hid (BEL0.out.trans (hfb13.mono (by omega)))
  clear hf13 hfb13 ho13
  have o_w11_w13 : w11.heap.size ≤ w13.heap.size := le_w11
  have le_w13 : w13.heap.size ≤ w13.heap.size := Nat.le_refl _
  clear X
  clear BX
  go_wp2_with fail
  refine (markDeedS_c TY cY l _ _ (1 + (sizeD d : Int)) hl4 (by omega) (by omega) _ Y.out).mono ?_
  rintro e w14 ⟨rfl, hf14, ho14⟩
  replace BP := Lib.hid (BP.out.off hf14 (by omega))
  replace BV := Lib.hid (BV.out.off hf14 (by omega))
  replace BG := Lib.hid (BG.out.off hf14 (by omega))
  replace Y := Lib.hid ho14
  replace G := Lib.hid (G.out.off hf14 (by omega))
  replace R0 := Lib.hid (keepDk (hf14.below (by omega)) R0.out)
  replace RL := Lib.hid (keepDd (hf14.below (by omega)) RL.out)
  replace V := Lib.hid (keepDk (hf14.below (by omega)) V.out)
  have hz14 := hf14.size
  replace le_w : w.heap.size ≤ w14.heap.size := by omega
  replace le_W : W.heap.size ≤ w14.heap.size := by omega
  replace le_w1 : w1.heap.size ≤ w14.heap.size := by omega
  replace le_w2 : w2.heap.size ≤ w14.heap.size := by omega
  replace le_w3 : w3.heap.size ≤ w14.heap.size := by omega
  replace le_w4 : w4.heap.size ≤ w14.heap.size := by omega
  replace le_WBV : WBV.heap.size ≤ w14.heap.size := by omega
  replace le_w5 : w5.heap.size ≤ w14.heap.size := by omega
  replace le_WBX : WBX.heap.size ≤ w14.heap.size := by omega
  replace le_w6 : w6.heap.size ≤ w14.heap.size := by omega
  replace le_w7 : w7.heap.size ≤ w14.heap.size := by omega
  replace le_WBG : WBG.heap.size ≤ w14.heap.size := by omega
  replace le_w8 : w8.heap.size ≤ w14.heap.size := by omega
  replace le_w10 : w10.heap.size ≤ w14.heap.size := by omega
  replace le_w11 : w11.heap.size ≤ w14.heap.size := by omega
  replace le_w13 : w13.heap.size ≤ w14.heap.size := by omega
  replace BEL0 := Lib.hid (BEL0.out.trans (hf14.below (by omega)))
  clear hf14 hz14 ho14
  have o_w13_w14 : w13.heap.size ≤ w14.heap.size := le_w13
  have le_w14 : w14.heap.size ≤ w14.heap.size := Nat.le_refl _
  clear Y
  have kpos : ¬ (1 + (sizeD d : Int) + 4 * (l.length : Int)) < 0 := by omega
  have cBG0 := BG.out.c0
  have cBG1 := BG.out.c1
  have ltBG := BG.out.lt
  have cBV0 := BV.out.c0
  have cBV1 := BV.out.c1
  have ltBV := BV.out.lt
  go_wp2_with fail
  refine (eqDesk_same _ _ _ _ _ _ _ _ (rnD d l) HL1.out HL2.out _ (G.out.lt.lt le_w7).n (G.out.lt.lt le_w7).p (V.out.lt le_w4).n (V.out.lt le_w4).p).mono ?_
  rintro e w15 ⟨rfl, hb15⟩
  replace BP := Lib.hid (BP.out.still hb15)
  replace BV := Lib.hid (BV.out.still hb15)
  replace BG := Lib.hid (BG.out.still hb15)
  replace G := Lib.hid (G.out.below (hb15.mono le_w7))
  replace R0 := Lib.hid (keepDk (hb15.mono le_w) R0.out)
  replace RL := Lib.hid (keepDd (hb15.mono le_w) RL.out)
  replace V := Lib.hid (keepDk (hb15.mono le_w4) V.out)
  replace le_w := Nat.le_trans le_w hb15.size
  replace le_W := Nat.le_trans le_W hb15.size
  replace le_w1 := Nat.le_trans le_w1 hb15.size
  replace le_w2 := Nat.le_trans le_w2 hb15.size
  replace le_w3 := Nat.le_trans le_w3 hb15.size
  replace le_w4 := Nat.le_trans le_w4 hb15.size
  replace le_WBV := Nat.le_trans le_WBV hb15.size
  replace le_w5 := Nat.le_trans le_w5 hb15.size
  replace le_WBX := Nat.le_trans le_WBX hb15.size
  replace le_w6 := Nat.le_trans le_w6 hb15.size
  replace le_w7 := Nat.le_trans le_w7 hb15.size
  replace le_WBG := Nat.le_trans le_WBG hb15.size
  replace le_w8 := Nat.le_trans le_w8 hb15.size
  replace le_w10 := Nat.le_trans le_w10 hb15.size
  replace le_w11 := Nat.le_trans le_w11 hb15.size
  replace le_w13 := Nat.le_trans le_w13 hb15.size
  replace le_w14 := Nat.le_trans le_w14 hb15.size
  replace BEL0 := Lib.hid (belT BEL0.out hb15)
  clear hb15
  clear cBG0 cBG1 ltBG
  clear cBV0 cBV1 ltBV
  have cBG0 := BG.out.c0
  have cBG1 := BG.out.c1
  have ltBG := BG.out.lt
  go_wp2_with fail
  refine (markDesk_c TG1 TG2 AG CG UG KG _ _ (rnD d l) _ _ 1 HSR.out (by omega) (by omega) _ le_w7 G.out).mono ?_
  rintro e w16 ⟨rfl, hf16, ho16⟩
  clear cBG0 cBG1 ltBG
  have hfb16 := hf16.below (Nat.le_refl _) (show w6.heap.size ≤ w15.heap.size by omega)
  replace BP := Lib.hid (BP.out.offB hf16 (by omega))
  replace BV := Lib.hid (BV.out.offB hf16 (by omega))
  replace BG := Lib.hid (BG.out.offB hf16 (by omega))
  replace G := Lib.hid ho16
  replace R0 := Lib.hid (keepDk (hfb16.mono (by omega)) R0.out)
  replace RL := Lib.hid (keepDd (hfb16.mono (by omega)) RL.out)
  replace V := Lib.hid (keepDk (hfb16.mono (by omega)) V.out)
  replace le_w := Nat.le_trans le_w hf16.size
  replace le_W := Nat.le_trans le_W hf16.size
  replace le_w1 := Nat.le_trans le_w1 hf16.size
  replace le_w2 := Nat.le_trans le_w2 hf16.size
  replace le_w3 := Nat.le_trans le_w3 hf16.size
  replace le_w4 := Nat.le_trans le_w4 hf16.size
  replace le_WBV := Nat.le_trans le_WBV hf16.size
  replace le_w5 := Nat.le_trans le_w5 hf16.size
  replace le_WBX := Nat.le_trans le_WBX hf16.size
  replace le_w6 := Nat.le_trans le_w6 hf16.size
  replace le_w7 := Nat.le_trans le_w7 hf16.size
  replace le_WBG := Nat.le_trans le_WBG hf16.size
  replace le_w8 := Nat.le_trans le_w8 hf16.size
  replace le_w10 := Nat.le_trans le_w10 hf16.size
  replace le_w11 := Nat.le_trans le_w11 hf16.size
  replace le_w13 := Nat.le_trans le_w13 hf16.size
  replace le_w14 := Nat.le_trans le_w14 hf16.size
  replace BEL0 := Lib.hid (BEL0.out.trans (hfb16.mono (by omega)))
  clear hf16 hfb16 ho16
  have o_w14_w16 : w14.heap.size ≤ w16.heap.size := le_w14
  have le_w16 : w16.heap.size ≤ w16.heap.size := Nat.le_refl _
  have zz : ((1 + (sizeD (rnD d l) : Int)) != (1 + (sizeD (rnD d l) : Int))) = false := by simp
  have kpos2 : ¬ (1 + (sizeD (rnD d l) : Int)) < 0 := by omega
  have cBG0 := BG.out.c0
  have cBG1 := BG.out.c1
  have ltBG := BG.out.lt
  go_wp2_with fail
  refine (heldDesk_c _ _ _ _ (rnD d l) _ _ 1 HSR.out (by omega) (by omega) _ (fun b hb => Nat.lt_of_lt_of_le hb.2 le_w7) (fun b hb => Nat.lt_of_lt_of_le hb.2 le_w7) G.out.rows2 G.out.rows3).mono ?_
  rintro e w17 ⟨rfl, hb17⟩
  replace BP := Lib.hid (BP.out.still hb17)
  replace BV := Lib.hid (BV.out.still hb17)
  replace BG := Lib.hid (BG.out.still hb17)
  replace G := Lib.hid (G.out.below (hb17.mono le_w7))
  replace R0 := Lib.hid (keepDk (hb17.mono le_w) R0.out)
  replace RL := Lib.hid (keepDd (hb17.mono le_w) RL.out)
  replace V := Lib.hid (keepDk (hb17.mono le_w4) V.out)
  replace le_w := Nat.le_trans le_w hb17.size
  replace le_W := Nat.le_trans le_W hb17.size
  replace le_w1 := Nat.le_trans le_w1 hb17.size
  replace le_w2 := Nat.le_trans le_w2 hb17.size
  replace le_w3 := Nat.le_trans le_w3 hb17.size
  replace le_w4 := Nat.le_trans le_w4 hb17.size
  replace le_WBV := Nat.le_trans le_WBV hb17.size
  replace le_w5 := Nat.le_trans le_w5 hb17.size
  replace le_WBX := Nat.le_trans le_WBX hb17.size
  replace le_w6 := Nat.le_trans le_w6 hb17.size
  replace le_w7 := Nat.le_trans le_w7 hb17.size
  replace le_WBG := Nat.le_trans le_WBG hb17.size
  replace le_w8 := Nat.le_trans le_w8 hb17.size
  replace le_w10 := Nat.le_trans le_w10 hb17.size
  replace le_w11 := Nat.le_trans le_w11 hb17.size
  replace le_w13 := Nat.le_trans le_w13 hb17.size
  replace le_w14 := Nat.le_trans le_w14 hb17.size
  replace le_w16 := Nat.le_trans le_w16 hb17.size
  replace BEL0 := Lib.hid (belT BEL0.out hb17)
  clear hb17
  clear cBG0 cBG1 ltBG
  have o_w16_w17 : w16.heap.size ≤ w17.heap.size := le_w16
  have le_w17 : w17.heap.size ≤ w17.heap.size := Nat.le_refl _
  have cBP0 := BP.out.c0
  have cBP1 := BP.out.c1
  have ltBP := BP.out.lt
  go_wp2_with fail
  refine (toDesk_c A B c k d HD.out HD.out.short.now HD.out.short.past _ (R0.out.lt le_w).n (R0.out.lt le_w).p).mono ?_
  rintro e w18 ⟨v18, rfl, TS1, cS1, TS2, cS2, AS, CS, US, KS, rfl, hb18, ho18⟩
  have S := Lib.hid ho18
  clear cBP0 cBP1 ltBP
  replace BP := Lib.hid (BP.out.still hb18)
  replace BV := Lib.hid (BV.out.still hb18)
  replace BG := Lib.hid (BG.out.still hb18)
  replace G := Lib.hid (G.out.below (hb18.mono le_w7))
  replace R0 := Lib.hid (keepDk (hb18.mono le_w) R0.out)
  replace RL := Lib.hid (keepDd (hb18.mono le_w) RL.out)
  replace V := Lib.hid (keepDk (hb18.mono le_w4) V.out)
  replace le_w := Nat.le_trans le_w hb18.size
  replace le_W := Nat.le_trans le_W hb18.size
  replace le_w1 := Nat.le_trans le_w1 hb18.size
  replace le_w2 := Nat.le_trans le_w2 hb18.size
  replace le_w3 := Nat.le_trans le_w3 hb18.size
  replace le_w4 := Nat.le_trans le_w4 hb18.size
  replace le_WBV := Nat.le_trans le_WBV hb18.size
  replace le_w5 := Nat.le_trans le_w5 hb18.size
  replace le_WBX := Nat.le_trans le_WBX hb18.size
  replace le_w6 := Nat.le_trans le_w6 hb18.size
  replace le_w7 := Nat.le_trans le_w7 hb18.size
  replace le_WBG := Nat.le_trans le_WBG hb18.size
  replace le_w8 := Nat.le_trans le_w8 hb18.size
  replace le_w10 := Nat.le_trans le_w10 hb18.size
  replace le_w11 := Nat.le_trans le_w11 hb18.size
  replace le_w13 := Nat.le_trans le_w13 hb18.size
  replace le_w14 := Nat.le_trans le_w14 hb18.size
  replace le_w16 := Nat.le_trans le_w16 hb18.size
  replace le_w17 := Nat.le_trans le_w17 hb18.size
  replace BEL0 := Lib.hid (belT BEL0.out hb18)
  have o_w17_w18 : w17.heap.size ≤ w18.heap.size := le_w17
  have le_w18 : w18.heap.size ≤ w18.heap.size := Nat.le_refl _
  clear hb18 ho18
  go_wp2_with fail
  refine (toDeedS_c L e0 l hl4 _ (RL.out.lt le_w)).mono ?_
  rintro e w19 ⟨TT, cT, rfl, -, -, hb19, ho19⟩
  have T := Lib.hid ho19
  replace BP := Lib.hid (BP.out.still hb19)
  replace BV := Lib.hid (BV.out.still hb19)
  replace BG := Lib.hid (BG.out.still hb19)
  replace G := Lib.hid (G.out.below (hb19.mono le_w7))
  replace S := Lib.hid (S.out.below (hb19.mono le_w18))
  replace R0 := Lib.hid (keepDk (hb19.mono le_w) R0.out)
  replace RL := Lib.hid (keepDd (hb19.mono le_w) RL.out)
  replace V := Lib.hid (keepDk (hb19.mono le_w4) V.out)
  replace le_w := Nat.le_trans le_w hb19.size
  replace le_W := Nat.le_trans le_W hb19.size
  replace le_w1 := Nat.le_trans le_w1 hb19.size
  replace le_w2 := Nat.le_trans le_w2 hb19.size
  replace le_w3 := Nat.le_trans le_w3 hb19.size
  replace le_w4 := Nat.le_trans le_w4 hb19.size
  replace le_WBV := Nat.le_trans le_WBV hb19.size
  replace le_w5 := Nat.le_trans le_w5 hb19.size
  replace le_WBX := Nat.le_trans le_WBX hb19.size
  replace le_w6 := Nat.le_trans le_w6 hb19.size
  replace le_w7 := Nat.le_trans le_w7 hb19.size
  replace le_WBG := Nat.le_trans le_WBG hb19.size
  replace le_w8 := Nat.le_trans le_w8 hb19.size
  replace le_w10 := Nat.le_trans le_w10 hb19.size
  replace le_w11 := Nat.le_trans le_w11 hb19.size
  replace le_w13 := Nat.le_trans le_w13 hb19.size
  replace le_w14 := Nat.le_trans le_w14 hb19.size
  replace le_w16 := Nat.le_trans le_w16 hb19.size
  replace le_w17 := Nat.le_trans le_w17 hb19.size
  replace le_w18 := Nat.le_trans le_w18 hb19.size
  replace BEL0 := Lib.hid (belT BEL0.out hb19)
  have o_w18_w19 : w18.heap.size ≤ w19.heap.size := le_w18
  have le_w19 : w19.heap.size ≤ w19.heap.size := Nat.le_refl _
  clear hb19 ho19
  go_wp2_with fail
  refine (I.run TS1 TS2 TT cS1 cS2 cT d l hx hy hl4 cS2.two _ (S.out.lt.lt le_w18).n (S.out.lt.lt le_w18).p (T.out.lt.lt le_w19)).mono ?_
  rintro e w20 ⟨TH1, cH1, TH2, cH2, AH, CH, UH, KH, rfl, hb20, ho20⟩
  unfold dskV
  have H := Lib.hid ho20
  replace BP := Lib.hid (BP.out.still hb20)
  replace BV := Lib.hid (BV.out.still hb20)
  replace BG := Lib.hid (BG.out.still hb20)
  replace G := Lib.hid (G.out.below (hb20.mono le_w7))
  replace S := Lib.hid (S.out.below (hb20.mono le_w18))
  replace T := Lib.hid (T.out.below (hb20.mono le_w19))
  replace R0 := Lib.hid (keepDk (hb20.mono le_w) R0.out)
  replace RL := Lib.hid (keepDd (hb20.mono le_w) RL.out)
  replace V := Lib.hid (keepDk (hb20.mono le_w4) V.out)
  replace le_w := Nat.le_trans le_w hb20.size
  replace le_W := Nat.le_trans le_W hb20.size
  replace le_w1 := Nat.le_trans le_w1 hb20.size
  replace le_w2 := Nat.le_trans le_w2 hb20.size
  replace le_w3 := Nat.le_trans le_w3 hb20.size
  replace le_w4 := Nat.le_trans le_w4 hb20.size
  replace le_WBV := Nat.le_trans le_WBV hb20.size
  replace le_w5 := Nat.le_trans le_w5 hb20.size
  replace le_WBX := Nat.le_trans le_WBX hb20.size
  replace le_w6 := Nat.le_trans le_w6 hb20.size
  replace le_w7 := Nat.le_trans le_w7 hb20.size
  replace le_WBG := Nat.le_trans le_WBG hb20.size
  replace le_w8 := Nat.le_trans le_w8 hb20.size
  replace le_w10 := Nat.le_trans le_w10 hb20.size
  replace le_w11 := Nat.le_trans le_w11 hb20.size
  replace le_w13 := Nat.le_trans le_w13 hb20.size
  replace le_w14 := Nat.le_trans le_w14 hb20.size
  replace le_w16 := Nat.le_trans le_w16 hb20.size
  replace le_w17 := Nat.le_trans le_w17 hb20.size
  replace le_w18 := Nat.le_trans le_w18 hb20.size
  replace le_w19 := Nat.le_trans le_w19 hb20.size
  replace BEL0 := Lib.hid (belT BEL0.out hb20)
  have o_w19_w20 : w19.heap.size ≤ w20.heap.size := le_w19
  have le_w20 : w20.heap.size ≤ w20.heap.size := Nat.le_refl _
  clear hb20 ho20
  clear S
  clear T
  replace H := Lib.hid H.out.lt
  have cBV0 := BV.out.c0
  have cBV1 := BV.out.c1
  have ltBV := BV.out.lt
  go_wp2_with fail
  clear cBV0 cBV1 ltBV
  obtain ⟨WBH, hWBH⟩ : ∃ WBH : World, WBH = w20.alloc (.cells #[.slice TH1 (rnD d l).now.length cH1, .slice TH2 (rnD d l).past.length cH2] 29) := ⟨_, rfl⟩
  have hbWBH : Below w20.heap.size w20 WBH := by rw [hWBH]; exact (Below.refl _ _).alloc (Nat.le_refl _) _
  have BH : Hid (BoxD WBH w20.heap.size (.slice TH1 (rnD d l).now.length cH1) (.slice TH2 (rnD d l).past.length cH2)) := by show BoxD _ _ _ _; rw [hWBH]; exact BoxD.new _ _ _
  have bzBH : w20.heap.size < WBH.heap.size := by rw [hWBH]; simp
  rw [← hWBH]
  clear hWBH
  replace BP := Lib.hid (BP.out.still hbWBH)
  replace BV := Lib.hid (BV.out.still hbWBH)
  replace BG := Lib.hid (BG.out.still hbWBH)
  replace G := Lib.hid (G.out.below (hbWBH.mono le_w7))
  replace R0 := Lib.hid (keepDk (hbWBH.mono le_w) R0.out)
  replace RL := Lib.hid (keepDd (hbWBH.mono le_w) RL.out)
  replace V := Lib.hid (keepDk (hbWBH.mono le_w4) V.out)
  replace H := Lib.hid (keepDk (hbWBH.mono le_w20) H.out)
  replace le_w := Nat.le_trans le_w hbWBH.size
  replace le_W := Nat.le_trans le_W hbWBH.size
  replace le_w1 := Nat.le_trans le_w1 hbWBH.size
  replace le_w2 := Nat.le_trans le_w2 hbWBH.size
  replace le_w3 := Nat.le_trans le_w3 hbWBH.size
  replace le_w4 := Nat.le_trans le_w4 hbWBH.size
  replace le_WBV := Nat.le_trans le_WBV hbWBH.size
  replace le_w5 := Nat.le_trans le_w5 hbWBH.size
  replace le_WBX := Nat.le_trans le_WBX hbWBH.size
  replace le_w6 := Nat.le_trans le_w6 hbWBH.size
  replace le_w7 := Nat.le_trans le_w7 hbWBH.size
  replace le_WBG := Nat.le_trans le_WBG hbWBH.size
  replace le_w8 := Nat.le_trans le_w8 hbWBH.size
  replace le_w10 := Nat.le_trans le_w10 hbWBH.size
  replace le_w11 := Nat.le_trans le_w11 hbWBH.size
  replace le_w13 := Nat.le_trans le_w13 hbWBH.size
  replace le_w14 := Nat.le_trans le_w14 hbWBH.size
  replace le_w16 := Nat.le_trans le_w16 hbWBH.size
  replace le_w17 := Nat.le_trans le_w17 hbWBH.size
  replace le_w18 := Nat.le_trans le_w18 hbWBH.size
  replace le_w19 := Nat.le_trans le_w19 hbWBH.size
  replace le_w20 := Nat.le_trans le_w20 hbWBH.size
  replace BEL0 := Lib.hid (belT BEL0.out hbWBH)
  have o_w20_WBH : w20.heap.size ≤ WBH.heap.size := le_w20
  have le_WBH : WBH.heap.size ≤ WBH.heap.size := Nat.le_refl _
  clear hbWBH
  have cBH0 := BH.out.c0
  have cBH1 := BH.out.c1
  have ltBH := BH.out.lt
  have cBV0 := BV.out.c0
  have cBV1 := BV.out.c1
  have ltBV := BV.out.lt
  go_wp2_with fail
  refine (eqDesk_same _ _ _ _ _ _ _ _ (rnD d l) HL1.out HL2.out _ (H.out.lt le_w20).n (H.out.lt le_w20).p (V.out.lt le_w4).n (V.out.lt le_w4).p).mono ?_
  rintro e w21 ⟨rfl, hb21⟩
  replace BP := Lib.hid (BP.out.still hb21)
  replace BV := Lib.hid (BV.out.still hb21)
  replace BG := Lib.hid (BG.out.still hb21)
  replace BH := Lib.hid (BH.out.still hb21)
  replace G := Lib.hid (G.out.below (hb21.mono le_w7))
  replace R0 := Lib.hid (keepDk (hb21.mono le_w) R0.out)
  replace RL := Lib.hid (keepDd (hb21.mono le_w) RL.out)
  replace V := Lib.hid (keepDk (hb21.mono le_w4) V.out)
  replace H := Lib.hid (keepDk (hb21.mono le_w20) H.out)
  replace le_w := Nat.le_trans le_w hb21.size
  replace le_W := Nat.le_trans le_W hb21.size
  replace le_w1 := Nat.le_trans le_w1 hb21.size
  replace le_w2 := Nat.le_trans le_w2 hb21.size
  replace le_w3 := Nat.le_trans le_w3 hb21.size
  replace le_w4 := Nat.le_trans le_w4 hb21.size
  replace le_WBV := Nat.le_trans le_WBV hb21.size
  replace le_w5 := Nat.le_trans le_w5 hb21.size
  replace le_WBX := Nat.le_trans le_WBX hb21.size
  replace le_w6 := Nat.le_trans le_w6 hb21.size
  replace le_w7 := Nat.le_trans le_w7 hb21.size
  replace le_WBG := Nat.le_trans le_WBG hb21.size
  replace le_w8 := Nat.le_trans le_w8 hb21.size
  replace le_w10 := Nat.le_trans le_w10 hb21.size
  replace le_w11 := Nat.le_trans le_w11 hb21.size
  replace le_w13 := Nat.le_trans le_w13 hb21.size
  replace le_w14 := Nat.le_trans le_w14 hb21.size
  replace le_w16 := Nat.le_trans le_w16 hb21.size
  replace le_w17 := Nat.le_trans le_w17 hb21.size
  replace le_w18 := Nat.le_trans le_w18 hb21.size
  replace le_w19 := Nat.le_trans le_w19 hb21.size
  replace le_w20 := Nat.le_trans le_w20 hb21.size
  replace le_WBH := Nat.le_trans le_WBH hb21.size
  replace BEL0 := Lib.hid (belT BEL0.out hb21)
  clear hb21
  clear cBH0 cBH1 ltBH
  clear cBV0 cBV1 ltBV
  clear H
  clear V
  clear BH
  clear BV
  have cBG0 := BG.out.c0
  have cBG1 := BG.out.c1
  have ltBG := BG.out.lt
  go_wp2_with fail
  refine (heldDesk_c _ _ _ _ (rnD d l) _ _ 1 HSR.out (by omega) (by omega) _ (fun b hb => Nat.lt_of_lt_of_le hb.2 le_w7) (fun b hb => Nat.lt_of_lt_of_le hb.2 le_w7) G.out.rows2 G.out.rows3).mono ?_
  rintro e w22 ⟨rfl, hb22⟩
  replace BP := Lib.hid (BP.out.still hb22)
  replace BG := Lib.hid (BG.out.still hb22)
  replace G := Lib.hid (G.out.below (hb22.mono le_w7))
  replace R0 := Lib.hid (keepDk (hb22.mono le_w) R0.out)
  replace RL := Lib.hid (keepDd (hb22.mono le_w) RL.out)
  replace le_w := Nat.le_trans le_w hb22.size
  replace le_W := Nat.le_trans le_W hb22.size
  replace le_w1 := Nat.le_trans le_w1 hb22.size
  replace le_w2 := Nat.le_trans le_w2 hb22.size
  replace le_w3 := Nat.le_trans le_w3 hb22.size
  replace le_w4 := Nat.le_trans le_w4 hb22.size
  replace le_WBV := Nat.le_trans le_WBV hb22.size
  replace le_w5 := Nat.le_trans le_w5 hb22.size
  replace le_WBX := Nat.le_trans le_WBX hb22.size
  replace le_w6 := Nat.le_trans le_w6 hb22.size
  replace le_w7 := Nat.le_trans le_w7 hb22.size
  replace le_WBG := Nat.le_trans le_WBG hb22.size
  replace le_w8 := Nat.le_trans le_w8 hb22.size
  replace le_w10 := Nat.le_trans le_w10 hb22.size
  replace le_w11 := Nat.le_trans le_w11 hb22.size
  replace le_w13 := Nat.le_trans le_w13 hb22.size
  replace le_w14 := Nat.le_trans le_w14 hb22.size
  replace le_w16 := Nat.le_trans le_w16 hb22.size
  replace le_w17 := Nat.le_trans le_w17 hb22.size
  replace le_w18 := Nat.le_trans le_w18 hb22.size
  replace le_w19 := Nat.le_trans le_w19 hb22.size
  replace le_w20 := Nat.le_trans le_w20 hb22.size
  replace le_WBH := Nat.le_trans le_WBH hb22.size
  replace BEL0 := Lib.hid (belT BEL0.out hb22)
  clear hb22
  clear cBG0 cBG1 ltBG
  go_wp2_with fail
  go_ret
  exact Adds.of rfl BEL0.out

end Go.Proofs.Ytlkjpmdnhccdpab
