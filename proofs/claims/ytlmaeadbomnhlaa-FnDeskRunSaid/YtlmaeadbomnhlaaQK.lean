/- Texts in one: RunS, ExactJe. -/
import Derived.Test.YtlmaeadbomnhlaaQD
import Derived.Test.YtlmaeadbomnhlaaStrM
import Derived.Test.YtlmaeadbomnhlaaQJ
namespace Go.Proofs.Ytlmaeadbomnhlaa
set_option linter.unusedSimpArgs false
set_option linter.unusedVariables false
open Go.RowKit

theorem do_stay {d : Dk} (h : dkB d = true) {a : Dd} (hc : canB d a = false) : doD d a = d := by
  by_cases hb : backB a = true ∧ 0 < d.past.length
  · rw [(do_back h hb.1 hb.2).2] at hc; cases hc
  by_cases hm : laidB (madeT d.now a) = true ∧ madeT d.now a ≠ d.now
  · rw [(do_made h hb hm.1 hm.2).2] at hc; cases hc
  · exact (do_none h hb hm).1

/-- the desk behind the first k deeds, how many were done -/
def runK (d : Dk) (l : List Dd) (k : Nat) : Dk := runD d (l.take k)

def runC (d : Dk) (l : List Dd) (k : Nat) : Nat := runN d (l.take k)

theorem run_step (d : Dk) (l : List Dd) {k : Nat} (hk : k < l.length) : runK d l (k + 1) = doD (runK d l k) (ddAt l k) ∧ runC d l (k + 1) = runC d l k + (if canB (runK d l k) (ddAt l k) = true then 1 else 0) := by
  unfold runK runC
  rw [List.take_succ_eq_append_getElem hk, (run_app d _ _).1, (run_app d _ _).2, ← ddAt_eq l k hk]
  exact ⟨rfl, by simp [runN]⟩

theorem runK_ok {d : Dk} (h : dkB d = true) (l : List Dd) (k : Nat) : dkB (runK d l k) = true := run_ok h _

theorem runC_le (d : Dk) (l : List Dd) : ∀ k, runC d l k ≤ k
  | 0 => Nat.le_refl _
  | k + 1 => by
    have ih := runC_le d l k
    by_cases hk : k < l.length
    · rw [(run_step d l hk).2]; split <;> omega
    · have : runC d l (k + 1) = runC d l k := by unfold runC; rw [List.take_of_length_le (by omega), List.take_of_length_le (by omega)]
      omega

/-- deeds at a desk, so many at most -/
def rnB (d : Dk) (l : List Dd) : Bool := dkB d && decide (l.length ≤ 40)

def rnD (d : Dk) (l : List Dd) : Dk := if rnB d l = true then runD d l else dkZero

def rnN (d : Dk) (l : List Dd) : Nat := if rnB d l = true then runN d l else 0

theorem rn_no {d : Dk} {l : List Dd} (h : rnB d l = false) : rnD d l = dkZero ∧ rnN d l = 0 := by unfold rnD rnN; rw [h]; exact ⟨rfl, rfl⟩

theorem rn_yes {d : Dk} {l : List Dd} (h : rnB d l = true) : rnD d l = runK d l l.length ∧ rnN d l = runC d l l.length := by
  unfold rnD rnN runK runC; rw [h, if_pos rfl, if_pos rfl, List.take_of_length_le (Nat.le_refl _)]; exact ⟨rfl, rfl⟩

theorem dk_max {d : Dk} (h : dkB d = true) : d.now.length ≤ maxLen ∧ d.past.length ≤ maxLen := by
  obtain ⟨_, h2, h3⟩ := dkB_iff.1 h
  obtain ⟨_, h4, _⟩ := laid_iff.1 h2
  unfold maxLen; omega

/-- a desk of the call's own, as slices -/
def DeskOwn (w : World) (lo hi : Nat) (TN : Option Addr) (TP : Option Addr) (d : Dk) : Prop := ∃ A C TT CC, OwnDk w lo hi TN TP d A C TT CC

theorem DeskOwn.keep {w w' : World} {lo hi : Nat} {TN TP : Option Addr} {d : Dk} (h : DeskOwn w lo hi TN TP d) (hk : ∀ b, lo ≤ b → b < hi → w'.heap[b]? = w.heap[b]?) : DeskOwn w' lo hi TN TP d := by
  obtain ⟨A, C, TT, CC, h⟩ := h; exact ⟨A, C, TT, CC, h.keep hk⟩

theorem DeskOwn.more {w : World} {lo hi lo' hi' : Nat} {TN TP : Option Addr} {d : Dk} (h : DeskOwn w lo hi TN TP d) (h1 : lo' ≤ lo) (h2 : hi ≤ hi') : DeskOwn w lo' hi' TN TP d := by
  obtain ⟨A, C, TT, CC, h⟩ := h; exact ⟨A, C, TT, CC, h.more h1 h2⟩

theorem DeskOwn.two {w : World} {lo hi : Nat} {TN TP : Option Addr} {d : Dk} (h : DeskOwn w lo hi TN TP d) (hh : hi ≤ w.heap.size) : Rows2 w (· < w.heap.size) TN d.now ∧ Rows3 w (· < w.heap.size) TP d.past := by
  obtain ⟨A, C, TT, CC, h⟩ := h
  exact ⟨h.rows2.mono fun b hb => by show b < _; omega, h.rows3.mono fun b hb => by show b < _; omega⟩

theorem copyD_own (A B : Option Addr) (c kk : Nat) (d : Dk) (hd : dkB d = true) (w : World) (h : Rows2 w (· < w.heap.size) A d.now) (h' : Rows3 w (· < w.heap.size) B d.past) :
    Calls Try.prog 44 #[.agg #[.slice A d.now.length c, .slice B d.past.length kk]] w fun e w' => ∃ (TN : Option Addr) (cN : Nat) (TP : Option Addr) (cP : CapN d.past.length), e = .returned (.agg #[.slice TN d.now.length cN, .slice TP d.past.length cP]) ∧ Below w.heap.size w w' ∧ DeskOwn w' w.heap.size w'.heap.size TN TP d := by
  refine (copyD_spec A B c kk d hd w h h').mono ?_
  rintro e w' ⟨TN, cN, v, A0, C0, AA, CC, TT, UU, rfl, _, _, hb, hT, hG, hap⟩
  obtain ⟨TP, cP, rfl, hc1, hc2, hp⟩ := hG.past
  exact ⟨TN, cN, TP, ⟨cP, hc1, hc2⟩, rfl, hb, _, _, _, _, own_copy hT hp hap⟩

theorem deskDo_own (A B : Option Addr) (c kk : Nat) (d : Dk) (a : Dd) (hd : dkB d = true) (w : World) (h : Rows2 w (· < w.heap.size) A d.now) (h' : Rows3 w (· < w.heap.size) B d.past) :
    Calls Try.prog 45 #[.agg #[.slice A d.now.length c, .slice B d.past.length kk], .agg #[.int .i64 a.kind, .int .i64 a.row, .int .i64 a.col, .int .i64 a.num]] w fun e w' => ∃ (TN : Option Addr) (cN : Nat) (TP : Option Addr) (cP : CapN (doD d a).past.length), e = .returned (.tuple #[.agg #[.slice TN (doD d a).now.length cN, .slice TP (doD d a).past.length cP], .bool (canB d a)]) ∧ Below w.heap.size w w' ∧ DeskOwn w' w.heap.size w'.heap.size TN TP (doD d a) := by
  refine (deskDo_spec A B c kk d a (dk_max hd).1 (dk_max hd).2 w h h').mono ?_
  rintro e w' ⟨TN, cN, TP, cP, AA, CC, TT, UU, rfl, hb, ho⟩
  exact ⟨TN, cN, TP, cP, rfl, hb, _, _, _, _, ho⟩

theorem desk_row {w : World} {p : Nat} {f : Nat → Value} (h : w.rowIs p 37 2 f) (s0 s1 : Value) : ((w.setCell ⟨p, 0, none⟩ s0).setCell ⟨p, 1, none⟩ s1).rowIs p 37 2 (fun i => if i = 0 then s0 else s1) :=
  ((h.set 0 s0).set 1 s1).congr fun i hi => by
    have : i = 0 ∨ i = 1 := by omega
    rcases this with rfl | rfl <;> rfl

theorem far2 {w : World} {p b : Nat} (h : b ≠ p) (s0 s1 : Value) : ((w.setCell ⟨p, 0, none⟩ s0).setCell ⟨p, 1, none⟩ s1).heap[b]? = w.heap[b]? := by
  rw [Below.heap_setCell _ _ _ _ h, Below.heap_setCell _ _ _ _ h]

/-- what stands at the head of each round: the desk so far, in a box -/
structure RunAt (W wr : World) (pO : Nat) (d : Dk) : Prop where
  bel : Below W.heap.size W wr
  ex : ∃ (TN : Option Addr) (cN : Nat) (TP : Option Addr) (cP lo hi : Nat), wr.rowIs pO 37 2 (fun i => if i = 0 then .slice TN d.now.length cN else .slice TP d.past.length cP) ∧ DeskOwn wr lo hi TN TP d ∧ W.heap.size ≤ lo ∧ hi ≤ wr.heap.size ∧ (hi ≤ pO ∨ pO < lo) ∧ d.past.length ≤ cP ∧ cP ≤ maxLen

set_option maxHeartbeats 8000000 in
set_option maxRecDepth 100000 in
theorem deskRun_spec (A B D : Option Addr) (c kk e : Nat) (d : Dk) (l : List Dd) (hx : d.now.length ≤ maxLen) (hy : d.past.length ≤ maxLen) (hl : l.length ≤ 4294967296) (w : World) (h : Rows2 w (· < w.heap.size) A d.now) (h' : Rows3 w (· < w.heap.size) B d.past) (h2 : Deeds w (· < w.heap.size) D l) :
    Calls Try.prog 24 #[dskV A d.now.length c B d.past.length kk, .slice D l.length e] w (DeskRes w (rnD d l) (.int .i64 (rnN d l : Nat))) := by
  obtain ⟨W, hW⟩ : ∃ W : World, W = (w.alloc (.cells #[.slice A d.now.length c, .slice B d.past.length kk] 37)).alloc (.cells #[.slice none 0 0, .slice none 0 0] 37) := ⟨_, rfl⟩
  have hzW : W.heap.size = w.heap.size + 2 := by rw [hW]; simp
  have hbW : Below w.heap.size w W := by rw [hW]; exact ((Below.refl _ w).alloc (Nat.le_refl _) _).alloc (by simp) _
  have r00 := stays (p := w.heap.size) (o := 0) (by omega) (show W.cell? ⟨w.heap.size, 0, none⟩ = some (.slice A d.now.length c) from by rw [hW]; simp [go_sem])
  have r01 := stays (p := w.heap.size) (o := 1) (by omega) (show W.cell? ⟨w.heap.size, 1, none⟩ = some (.slice B d.past.length kk) from by rw [hW]; simp [go_sem])
  have r10 := stays (p := w.heap.size + 1) (o := 0) (by omega) (show W.cell? ⟨w.heap.size + 1, 0, none⟩ = some (.slice none 0 0) from by rw [hW]; simp [go_sem])
  have g10 := staysF (p := w.heap.size + 1) (o := 0) (by omega) (show W.frozen? ⟨w.heap.size + 1, 0, none⟩ = false from by rw [hW]; simp [go_sem])
  have r11 := stays (p := w.heap.size + 1) (o := 1) (by omega) (show W.cell? ⟨w.heap.size + 1, 1, none⟩ = some (.slice none 0 0) from by rw [hW]; simp [go_sem])
  have g11 := staysF (p := w.heap.size + 1) (o := 1) (by omega) (show W.frozen? ⟨w.heap.size + 1, 1, none⟩ = false from by rw [hW]; simp [go_sem])
  have HR : Hid (∀ w', Below W.heap.size W w' → Rows2 w' (· < w'.heap.size) A d.now ∧ Rows3 w' (· < w'.heap.size) B d.past) := fun w' hb => ⟨(keepRows (belT hbW hb) h).lt (belT hbW hb).size, (keepTabs (belT hbW hb) h').mono fun b hb' => Nat.lt_of_lt_of_le hb' (belT hbW hb).size⟩
  have HOK := Lib.hid (deskOk_spec A B c kk d hx hy W (HR.out W (Below.refl _ _)).1 (HR.out W (Below.refl _ _)).2)
  have HD := Lib.hid h2
  have HW := Lib.hid hW.symm
  have HBW := Lib.hid hbW
  have HZW := Lib.hid hzW
  clear h h' h2 hW hbW hzW
  unfold dskV at HOK ⊢
  rcases hb : rnB d l with _ | _
  · rw [(rn_no hb).1, (rn_no hb).2]
    have HNO : Hid (dkB d = false ∨ ¬ l.length ≤ 40) := by
      unfold rnB at hb
      rcases hx : dkB d with _ | _
      · exact .inl rfl
      · rw [hx] at hb; simp at hb; exact .inr (by omega)
    clear hb hx hy
    have s00 := r00 W (Below.refl _ _)
    have s01 := r01 W (Below.refl _ _)
    go_enter Try.func24, Try.ntmps24
    go_wp2_with fail
    rw [HW.out]
    clear s00 s01
    refine HOK.out.mono ?_
    rintro e w1 ⟨rfl, hb1⟩
    have y0 := r10 _ hb1
    have y1 := r11 _ hb1
    have z0 := g10 _ hb1
    have z1 := g11 _ hb1
    have HB1 := Lib.hid (belT HBW.out hb1)
    clear r00 r01 r10 r11 g10 g11 hb1
    rcases hdk : dkB d with _ | _
    · clear HNO
      go_wp2_with fail
      refine bodyPost_ret (v := .tuple #[.agg #[.slice none 0 0, .slice none 0 0], .int .i64 0]) (by simp [results, Try.results24, go_sem, y0, y1]) rfl ?_
      exact DeskRes.zero (TN := none) (TP := none) rfl ((HB1.out.setCell (p := ⟨w.heap.size + 1, 0, none⟩) (Nat.le_succ _) _).setCell (p := ⟨w.heap.size + 1, 1, none⟩) (Nat.le_succ _) _)
    · have h40 : (40 : Int) < (l.length : Int) := by rcases HNO.out with h | h; rw [hdk] at h; cases h; omega
      clear HNO
      go_wp2_with fail
      refine bodyPost_ret (v := .tuple #[.agg #[.slice none 0 0, .slice none 0 0], .int .i64 0]) (by simp [results, Try.results24, go_sem, y0, y1]) rfl ?_
      exact DeskRes.zero (TN := none) (TP := none) rfl ((HB1.out.setCell (p := ⟨w.heap.size + 1, 0, none⟩) (Nat.le_succ _) _).setCell (p := ⟨w.heap.size + 1, 1, none⟩) (Nat.le_succ _) _)
  · have hdk : dkB d = true := by unfold rnB at hb; rw [Bool.and_eq_true] at hb; exact hb.1
    have h40 : l.length ≤ 40 := by unfold rnB at hb; rw [Bool.and_eq_true, decide_eq_true_eq] at hb; exact hb.2
    have h40i : ¬ (40 : Int) < (l.length : Int) := by omega
    have HRY := Lib.hid (rn_yes hb)
    have HDK := Lib.hid hdk
    rw [hdk] at HOK
    clear hb hx hy hdk
    have s00 := r00 W (Below.refl _ _)
    have s01 := r01 W (Below.refl _ _)
    go_enter Try.func24, Try.ntmps24
    go_wp2_with fail
    rw [HW.out]
    clear s00 s01
    refine HOK.out.mono ?_
    rintro e w1 ⟨rfl, hb1⟩
    have q0 := r00 _ hb1
    have q1 := r01 _ hb1
    have HB1 := Lib.hid hb1
    have HC1 := Lib.hid (copyD_own A B c kk d HDK.out w1 (HR.out w1 hb1).1 (HR.out w1 hb1).2)
    clear r00 r01 hb1
    go_wp2_with fail
    refine HC1.out.mono ?_
    rintro e w2 ⟨TN, cN, TP, cP, rfl, hb2, ho2⟩
    have HB2 := Lib.hid (HB1.out.trans (hb2.mono HB1.out.size))
    have HO2 := Lib.hid ho2
    have hw1s := HB1.out.size
    clear hb2 ho2 q0 q1
    go_wp2_with fail
    obtain ⟨V0, hV0⟩ : ∃ V0 : World, w2.alloc (.cells #[.slice TN d.now.length cN, .slice TP d.past.length cP] 37) = V0 := ⟨_, rfl⟩
    have HA0 : Hid (RunAt W V0 w2.heap.size (runK d l 0)) := by
      have hb : Below w2.heap.size w2 V0 := by rw [← hV0]; exact (Below.refl _ _).alloc (Nat.le_refl _) _
      refine ⟨HB2.out.trans (hb.mono HB2.out.size), TN, cN, TP, cP, w1.heap.size, w2.heap.size, ?_, HO2.out.keep (fun b _ h2 => hb.block b h2), hw1s, hb.size, .inl (Nat.le_refl _), cP.lo, cP.hi⟩
      rw [← hV0]
      exact World.rowIs_alloc w2 #[.slice TN d.now.length cN, .slice TP d.past.length cP] _ _ (fun i hi => by have : i = 0 ∨ i = 1 := (by simp at hi; omega); rcases this with rfl | rfl <;> rfl)
    have HPO : Hid (W.heap.size ≤ w2.heap.size) := HB2.out.size
    obtain ⟨pO, hpO⟩ : ∃ pO, w2.heap.size = pO := ⟨_, rfl⟩
    rw [hpO] at HA0 HPO
    rw [hV0, hpO]
    clear hV0 hpO HO2 HB2 HC1 HB1 hw1s HOK
    go_loopw [7, 8] (fun nv kv wr => ∃ k : Nat, k ≤ l.length ∧ kv = .int .i64 (k : Nat) ∧ nv = .int .i64 (runC d l k : Nat) ∧ Hid (RunAt W wr pO (runK d l k))) (fun _ kv _ => l.length - (intOf kv).toNat)
    case atStart => exact ⟨0, Nat.zero_le _, rfl, rfl, HA0⟩
    case round =>
      clear HA0
      obtain ⟨k, hk, rfl, rfl, HA⟩ := hrel
      obtain ⟨TN, cN, TP, cP, lo, hi, hrow, hown, hlo, hhi, hap, hcap1, hcap2⟩ := HA.out.ex
      have HCP : Hid ((runK d l k).past.length ≤ cP ∧ cP ≤ maxLen) := ⟨hcap1, hcap2⟩
      clear hcap1 hcap2
      have hpl := hrow.lt
      have hrc := runC_le d l k
      by_cases hlt : k < l.length
      · have hst := run_step d l hlt
        have hok := runK_ok HDK.out l k
        obtain ⟨bd, od, rfl, hbd, hcd⟩ := (HD.out.below (belT HBW.out HA.out.bel)) (by omega)
        obtain ⟨c0, c1, c2, c3⟩ := hcd k hlt
        obtain ⟨dk, hdk⟩ : ∃ dk, runK d l k = dk := ⟨_, rfl⟩
        obtain ⟨nk, hnk⟩ : ∃ nk, runC d l k = nk := ⟨_, rfl⟩
        obtain ⟨⟨kd, rr, cc, nn⟩, ha⟩ : ∃ a, ddAt l k = a := ⟨_, rfl⟩
        rw [hdk] at hst hok hrow hown HCP
        rw [ha] at hst c0 c1 c2 c3
        rw [hnk] at hst hrc ⊢
        simp only at c0 c1 c2 c3
        have hbl : bd < wr.heap.size := by have := HA.out.bel.size; have := HBW.out.size; omega
        have d0 := stays (W := wr) (p := bd) (o := od + k * 4) hbl c0
        have d1 := stays (W := wr) (p := bd) (o := od + k * 4 + 1) hbl c1
        have d2 := stays (W := wr) (p := bd) (o := od + k * 4 + 2) hbl c2
        have d3 := stays (W := wr) (p := bd) (o := od + k * 4 + 3) hbl c3
        have e0 := stays (W := wr) (p := pO) (o := 0) hpl (show wr.cell? ⟨pO, 0, none⟩ = some (.slice TN dk.now.length cN) from hrow.cell (i := 0) (by omega))
        have e1 := stays (W := wr) (p := pO) (o := 1) hpl (show wr.cell? ⟨pO, 1, none⟩ = some (.slice TP dk.past.length cP) from hrow.cell (i := 1) (by omega))
        have HROW : Hid (∀ wx, Below wr.heap.size wr wx → wx.rowIs pO 37 2 (fun i => if i = 0 then .slice TN dk.now.length cN else .slice TP dk.past.length cP)) := fun wx hb => hrow.of_block (hb.block _ hpl)
        have HDO : Hid (∀ w', Below wr.heap.size wr w' → Calls Try.prog 45 #[.agg #[.slice TN dk.now.length cN, .slice TP dk.past.length cP], .agg #[.int .i64 kd, .int .i64 rr, .int .i64 cc, .int .i64 nn]] w' fun e w'' => ∃ (TN' : Option Addr) (cN' : Nat) (TP' : Option Addr) (cP' : CapN (doD dk ⟨kd, rr, cc, nn⟩).past.length), e = .returned (.tuple #[.agg #[.slice TN' (doD dk ⟨kd, rr, cc, nn⟩).now.length cN', .slice TP' (doD dk ⟨kd, rr, cc, nn⟩).past.length cP'], .bool (canB dk ⟨kd, rr, cc, nn⟩)]) ∧ Below w'.heap.size w' w'' ∧ DeskOwn w'' w'.heap.size w''.heap.size TN' TP' (doD dk ⟨kd, rr, cc, nn⟩)) := fun w' hb => by
          have h2 := (hown.keep (fun b _ h2 => hb.block b (by omega))).two (Nat.le_trans hhi hb.size)
          exact deskDo_own TN TP cN cP dk ⟨kd, rr, cc, nn⟩ hok w' h2.1 h2.2
        have HOWN := Lib.hid hown
        have HLH := Lib.hid (And.intro hlo (And.intro hhi hap))
        have HST := Lib.hid hst
        have HKN : Hid (dkB dk = true) := hok
        have HNK : Hid (nk ≤ k) := hrc
        have HBL := Lib.hid HA.out.bel
        have hki : (k : Int) < (l.length : Int) := by omega
        have hw1 : IntKind.i64.wrap ((k : Int) + 1) = (k : Int) + 1 := IntWalk.i64_in _ ⟨by omega, by omega⟩
        have hw2 : IntKind.i64.wrap ((nk : Int) + 1) = (nk : Int) + 1 := IntWalk.i64_in _ ⟨by omega, by omega⟩
        have HPL := Lib.hid hpl
        obtain ⟨dn, hdn⟩ : ∃ dn, doD dk ⟨kd, rr, cc, nn⟩ = dn := ⟨_, rfl⟩
        obtain ⟨cb, hcb⟩ : ∃ cb, canB dk ⟨kd, rr, cc, nn⟩ = cb := ⟨_, rfl⟩
        have HCB : Hid (cb = false → dn = dk) := fun h => by rw [← hdn]; exact do_stay HKN.out (by rw [hcb]; exact h)
        rw [hdn, hcb] at HDO HST
        clear hst hok hown hlo hhi hap hrow hrc hcd c0 c1 c2 c3 hdk hnk ha hpl hdn hcb HA hbd hbl
        go_wp2_with fail
        go_cut [9, 10] (fun sp sb wx => ∃ (p : Nat) (TN' : Option Addr) (cN' : Nat) (TP' : Option Addr) (cP' : CapN dn.past.length) (lo' hi' : Nat), sp = .pointer (some ⟨p, 0, none⟩) ∧ sb = .bool cb ∧ Below wr.heap.size wr wx ∧ wr.heap.size ≤ p ∧ wx.rowIs p 37 2 (fun i => if i = 0 then .slice TN' dn.now.length cN' else .slice TP' dn.past.length cP') ∧ DeskOwn wx lo' hi' TN' TP' dn ∧ wr.heap.size ≤ lo' ∧ hi' ≤ wx.heap.size)
        case first =>
          have HS0 : Below wr.heap.size wr wr.drew := (Below.refl _ _).drew
          refine wp_region_held_drew (S := fun w' => Below wr.heap.size wr w') (by kernel_rfl) HS0 (fun hHeld => ?_)
          clear hHeld
          generalize wr.drew = D at HS0 ⊢
          have hs0 := HS0.size
          have hHeld := HS0
          refine wpAnyH_take (i := 0) (v := ?v1) rfl (by kernel_rfl) (by kernel_rfl) (by kernel_rfl) (fun _ _ _ h => h) (Or.inl ⟨by rfl, ?y1⟩) (by assumption) ?z1
          case y1 => (intro w hSw; go_simp; first | done | with_reducible rfl)
          try simp only [List.getElem_toArray, List.getElem_cons_succ, List.getElem_cons_zero, Act.put, List.setIfInBounds_toArray, List.set_cons_zero, List.set_cons_succ]
          refine wpAnyH_take (i := 1) (v := ?v2) rfl (by kernel_rfl) (by kernel_rfl) (by kernel_rfl) (fun _ _ _ h => h) (Or.inl ⟨by rfl, ?y2⟩) (by assumption) ?z2
          case y2 => (intro w hSw; go_simp; first | done | with_reducible rfl)
          try simp only [List.getElem_toArray, List.getElem_cons_succ, List.getElem_cons_zero, Act.put, List.setIfInBounds_toArray, List.set_cons_zero, List.set_cons_succ]
          refine wpAnyH_take (i := 2) (v := ?v3) rfl (by kernel_rfl) (by kernel_rfl) (by kernel_rfl) (fun _ _ _ h => h) (Or.inl ⟨by rfl, ?y3⟩) (by assumption) ?z3
          case y3 => (intro w hSw; go_simp; first | done | with_reducible rfl)
          try simp only [List.getElem_toArray, List.getElem_cons_succ, List.getElem_cons_zero, Act.put, List.setIfInBounds_toArray, List.set_cons_zero, List.set_cons_succ]
          refine wpAnyH_take (i := 3) (v := ?v4) rfl (by kernel_rfl) (by kernel_rfl) (by kernel_rfl) (fun _ _ _ h => h) (Or.inl ⟨by rfl, ?y4⟩) (by assumption) ?z4
          case y4 => (intro w hSw; go_simp; first | done | with_reducible rfl)
          try simp only [List.getElem_toArray, List.getElem_cons_succ, List.getElem_cons_zero, Act.put, List.setIfInBounds_toArray, List.set_cons_zero, List.set_cons_succ]
          refine wpAnyH_take (i := 4) (v := ?v5) rfl (by kernel_rfl) (by kernel_rfl) (by kernel_rfl) (fun _ _ _ h => h) (Or.inl ⟨by rfl, ?y5⟩) (by assumption) ?z5
          case y5 => (intro w hSw; go_simp; first | done | with_reducible rfl)
          try simp only [List.getElem_toArray, List.getElem_cons_succ, List.getElem_cons_zero, Act.put, List.setIfInBounds_toArray, List.set_cons_zero, List.set_cons_succ]
          refine wpAnyH_ready (rs := [5, 9]) (by kernel_rfl) (by simp) ?_
          refine AllReadyH.cons rfl (fun K hK => ?_) (AllReadyH.cons rfl (fun K hK => ?_) AllReadyH.nil)
          · go_simp
            refine (HDO.out _ HS0).mono ?_
            rintro e u5 ⟨TN5, cN5, TP5, cP5, rfl, hb5, DO1⟩
            have HS1 : Below wr.heap.size wr u5 := HS0.trans (hb5.mono HS0.size)
            have shb5 := hb5.size
            refine hK.out _ _ HS1 (fun hHeld => ?_)
            clear hK K
            try simp only [List.getElem_toArray, List.getElem_cons_succ, List.getElem_cons_zero, Act.put, List.setIfInBounds_toArray, List.set_cons_zero, List.set_cons_succ]
            refine wpAnyH_take (i := 6) (v := ?v6) rfl (by kernel_rfl) (by kernel_rfl) (by kernel_rfl) (fun _ _ _ h => h) (Or.inl ⟨by rfl, ?y6⟩) (by assumption) ?z6
            case y6 => (intro w hSw; go_simp; first | done | with_reducible rfl)
            try simp only [List.getElem_toArray, List.getElem_cons_succ, List.getElem_cons_zero, Act.put, List.setIfInBounds_toArray, List.set_cons_zero, List.set_cons_succ]
            refine wpAnyH_take (i := 7) (v := ?v7) rfl (by kernel_rfl) (by kernel_rfl) (by kernel_rfl) (fun _ _ _ h => h) (Or.inl ⟨by rfl, ?y7⟩) (by assumption) ?z7
            case y7 => (intro w hSw; go_simp; first | done | with_reducible rfl)
            try simp only [List.getElem_toArray, List.getElem_cons_succ, List.getElem_cons_zero, Act.put, List.setIfInBounds_toArray, List.set_cons_zero, List.set_cons_succ]
            refine wpAnyH_take (i := 8) (v := ?v8) rfl (by kernel_rfl) (by kernel_rfl) (by kernel_rfl) (fun _ _ _ h => h) (Or.inl ⟨by rfl, ?y8⟩) (by assumption) ?z8
            case y8 => (intro w hSw; go_simp; first | done | with_reducible rfl)
            try simp only [List.getElem_toArray, List.getElem_cons_succ, List.getElem_cons_zero, Act.put, List.setIfInBounds_toArray, List.set_cons_zero, List.set_cons_succ]
            refine wpAnyH_ready (rs := [9]) (by kernel_rfl) (by simp) ?_
            refine AllReadyH.cons rfl (fun K hK => ?_) AllReadyH.nil
            go_simp
            obtain ⟨V, hV⟩ : ∃ V : World, V = (u5).alloc (.cells #[.slice none 0 0, .slice none 0 0] 37) := ⟨_, rfl⟩
            rw [← hV]
            have hbV : Below (u5).heap.size (u5) V := by rw [hV]; exact (Below.refl _ _).alloc (Nat.le_refl _) _
            have PL2 : (u5).heap.size < V.heap.size := by rw [hV]; simp
            have PR2 : V.rowIs (u5).heap.size 37 2 (fun _ => .slice none 0 0) := by rw [hV]; exact World.rowIs_alloc _ #[.slice none 0 0, .slice none 0 0] _ _ (fun i hi => by have : i = 0 ∨ i = 1 := (by simp at hi; omega); rcases this with rfl | rfl <;> rfl)
            have HS2 : Below wr.heap.size wr V := HS1.trans (hbV.mono HS1.size)
            have hsV := hbV.size
            clear hV
            have DO2 := DO1.keep (fun b _ h2 => hbV.block b h2)
            refine hK.out _ _ HS2 (fun hHeld => ?_)
            clear hK K
            try simp only [List.getElem_toArray, List.getElem_cons_succ, List.getElem_cons_zero, Act.put, List.setIfInBounds_toArray, List.set_cons_zero, List.set_cons_succ]
            refine wpAnyH_ready (rs := [10]) (by kernel_rfl) (by simp) ?_
            refine AllReadyH.cons rfl (fun K hK => ?_) AllReadyH.nil
            have PC0 := PR2.cell (i := 0) (by omega)
            have PC1 := PR2.cell (i := 1) (by omega)
            have PF0 := PR2.frozen 0
            have PF1 := PR2.frozen 1
            have PLE : wr.heap.size ≤ (u5).heap.size := by first | exact Nat.le_refl _ | omega
            have HS3 : ∀ u v : Value, Below wr.heap.size wr ((V.setCell ⟨(u5).heap.size, 0, none⟩ u).setCell ⟨(u5).heap.size, 1, none⟩ v) := fun u v => (HS2.setCell PLE u).setCell PLE v
            have PRX := PR2
            have PLX := PL2
            go_simp
            refine hK.out _ _ (HS3 _ _) (fun hHeld => ?_)
            clear hK K
            try simp only [List.getElem_toArray, List.getElem_cons_succ, List.getElem_cons_zero, Act.put, List.setIfInBounds_toArray, List.set_cons_zero, List.set_cons_succ]
            refine wpAnyH_take (i := 11) (v := ?v9) rfl (by kernel_rfl) (by kernel_rfl) (by kernel_rfl) (fun _ _ _ h => h) (Or.inl ⟨by rfl, ?y9⟩) (by assumption) ?z9
            case y9 => (intro w hSw; go_simp; first | done | with_reducible rfl)
            try simp only [List.getElem_toArray, List.getElem_cons_succ, List.getElem_cons_zero, Act.put, List.setIfInBounds_toArray, List.set_cons_zero, List.set_cons_succ]
            refine wpAnyH_done (by kernel_rfl) ?_ _
            go_wp2_with fail
            go_meet
            exact ⟨(u5).heap.size, TN5, cN5, TP5, cP5, _, _, rfl, rfl, HS3 _ _, PLE, desk_row PRX _ _, DO2.keep (fun b h1 h2 => far2 (by omega) _ _), by omega, by simp [World.setCell]; try omega⟩
          · go_simp
            obtain ⟨V, hV⟩ : ∃ V : World, V = (D).alloc (.cells #[.slice none 0 0, .slice none 0 0] 37) := ⟨_, rfl⟩
            rw [← hV]
            have hbV : Below (D).heap.size (D) V := by rw [hV]; exact (Below.refl _ _).alloc (Nat.le_refl _) _
            have PL1 : (D).heap.size < V.heap.size := by rw [hV]; simp
            have PR1 : V.rowIs (D).heap.size 37 2 (fun _ => .slice none 0 0) := by rw [hV]; exact World.rowIs_alloc _ #[.slice none 0 0, .slice none 0 0] _ _ (fun i hi => by have : i = 0 ∨ i = 1 := (by simp at hi; omega); rcases this with rfl | rfl <;> rfl)
            have HS1 : Below wr.heap.size wr V := HS0.trans (hbV.mono HS0.size)
            have hsV := hbV.size
            clear hV
            refine hK.out _ _ HS1 (fun hHeld => ?_)
            clear hK K
            try simp only [List.getElem_toArray, List.getElem_cons_succ, List.getElem_cons_zero, Act.put, List.setIfInBounds_toArray, List.set_cons_zero, List.set_cons_succ]
            refine wpAnyH_ready (rs := [5]) (by kernel_rfl) (by simp) ?_
            refine AllReadyH.cons rfl (fun K hK => ?_) AllReadyH.nil
            go_simp
            refine (HDO.out _ HS1).mono ?_
            rintro e u5 ⟨TN5, cN5, TP5, cP5, rfl, hb5, DO2⟩
            have HS2 : Below wr.heap.size wr u5 := HS1.trans (hb5.mono HS1.size)
            have shb5 := hb5.size
            have PR2 := PR1.of_block (hb5.block _ PL1)
            have PL2 := Nat.lt_of_lt_of_le PL1 hb5.size
            refine hK.out _ _ HS2 (fun hHeld => ?_)
            clear hK K
            try simp only [List.getElem_toArray, List.getElem_cons_succ, List.getElem_cons_zero, Act.put, List.setIfInBounds_toArray, List.set_cons_zero, List.set_cons_succ]
            refine wpAnyH_take (i := 6) (v := ?v10) rfl (by kernel_rfl) (by kernel_rfl) (by kernel_rfl) (fun _ _ _ h => h) (Or.inl ⟨by rfl, ?y10⟩) (by assumption) ?z10
            case y10 => (intro w hSw; go_simp; first | done | with_reducible rfl)
            try simp only [List.getElem_toArray, List.getElem_cons_succ, List.getElem_cons_zero, Act.put, List.setIfInBounds_toArray, List.set_cons_zero, List.set_cons_succ]
            refine wpAnyH_take (i := 7) (v := ?v11) rfl (by kernel_rfl) (by kernel_rfl) (by kernel_rfl) (fun _ _ _ h => h) (Or.inl ⟨by rfl, ?y11⟩) (by assumption) ?z11
            case y11 => (intro w hSw; go_simp; first | done | with_reducible rfl)
            try simp only [List.getElem_toArray, List.getElem_cons_succ, List.getElem_cons_zero, Act.put, List.setIfInBounds_toArray, List.set_cons_zero, List.set_cons_succ]
            refine wpAnyH_take (i := 8) (v := ?v12) rfl (by kernel_rfl) (by kernel_rfl) (by kernel_rfl) (fun _ _ _ h => h) (Or.inl ⟨by rfl, ?y12⟩) (by assumption) ?z12
            case y12 => (intro w hSw; go_simp; first | done | with_reducible rfl)
            try simp only [List.getElem_toArray, List.getElem_cons_succ, List.getElem_cons_zero, Act.put, List.setIfInBounds_toArray, List.set_cons_zero, List.set_cons_succ]
            refine wpAnyH_ready (rs := [10]) (by kernel_rfl) (by simp) ?_
            refine AllReadyH.cons rfl (fun K hK => ?_) AllReadyH.nil
            have PC0 := PR2.cell (i := 0) (by omega)
            have PC1 := PR2.cell (i := 1) (by omega)
            have PF0 := PR2.frozen 0
            have PF1 := PR2.frozen 1
            have PLE : wr.heap.size ≤ (D).heap.size := by first | exact Nat.le_refl _ | omega
            have HS3 : ∀ u v : Value, Below wr.heap.size wr ((u5.setCell ⟨(D).heap.size, 0, none⟩ u).setCell ⟨(D).heap.size, 1, none⟩ v) := fun u v => (HS2.setCell PLE u).setCell PLE v
            have PRX := PR2
            have PLX := PL2
            go_simp
            refine hK.out _ _ (HS3 _ _) (fun hHeld => ?_)
            clear hK K
            try simp only [List.getElem_toArray, List.getElem_cons_succ, List.getElem_cons_zero, Act.put, List.setIfInBounds_toArray, List.set_cons_zero, List.set_cons_succ]
            refine wpAnyH_take (i := 11) (v := ?v13) rfl (by kernel_rfl) (by kernel_rfl) (by kernel_rfl) (fun _ _ _ h => h) (Or.inl ⟨by rfl, ?y13⟩) (by assumption) ?z13
            case y13 => (intro w hSw; go_simp; first | done | with_reducible rfl)
            try simp only [List.getElem_toArray, List.getElem_cons_succ, List.getElem_cons_zero, Act.put, List.setIfInBounds_toArray, List.set_cons_zero, List.set_cons_succ]
            refine wpAnyH_done (by kernel_rfl) ?_ _
            go_wp2_with fail
            go_meet
            exact ⟨(D).heap.size, TN5, cN5, TP5, cP5, _, _, rfl, rfl, HS3 _ _, PLE, desk_row PRX _ _, DO2.keep (fun b h1 h2 => far2 (by omega) _ _), by omega, by simp [World.setCell]; try omega⟩
        case rest =>
          obtain ⟨p, TN5, cN5, TP5, cP5, lo5, hi5, rfl, rfl, hbx, hp1, hrow5, hown5, hlo5, hhi5⟩ := hcut
          have hr6 := HROW.out wc hbx
          have HBX := Lib.hid hbx
          have HOW5 := Lib.hid hown5
          have HPP : Hid (wr.heap.size ≤ p ∧ wr.heap.size ≤ lo5 ∧ hi5 ≤ wc.heap.size) := ⟨hp1, hlo5, hhi5⟩
          have HR6 := Lib.hid hr6
          have hpw : pO < wc.heap.size := Nat.lt_of_lt_of_le HPL.out hbx.size
          rcases hcb : cb with _ | _
          · have hdn : dn = dk := HCB.out hcb
            rw [hcb] at HST
            have HN : Hid (RunAt W wc pO (runK d l (k + 1))) := by
              show RunAt _ _ _ _
              rw [HST.out.1, hdn]
              exact ⟨HBL.out.trans (hbx.mono HBL.out.size), TN, cN, TP, cP, lo, hi, hr6, HOWN.out.keep (fun b _ h2 => hbx.block b (by have := HLH.out.2.1; omega)), HLH.out.1, Nat.le_trans HLH.out.2.1 hbx.size, HLH.out.2.2, HCP.out.1, HCP.out.2⟩
            have HC : Hid (runC d l (k + 1) = nk) := by show _ = _; rw [HST.out.2]; simp
            clear hdn hcb d0 d1 d2 d3 e0 e1 hbx hp1 hrow5 hown5 hlo5 hhi5 hr6 hpw
            go_wp2_with fail
            first
              | exact ⟨⟨k + 1, hlt, by first | rfl | simp, by rw [HC.out], HN⟩, by simp [intOf]; omega⟩
              | (go_roundw
                 case rel => exact ⟨k + 1, hlt, by go_num, by rw [HC.out], HN⟩
                 case measure => simp [intOf]; omega)
          · rw [hcb] at HST
            have x0 : wc.cell? ⟨p, 0, none⟩ = some (.slice TN5 dn.now.length cN5) := hrow5.cell (i := 0) (by omega)
            have x1 : wc.cell? ⟨p, 1, none⟩ = some (.slice TP5 dn.past.length cP5) := hrow5.cell (i := 1) (by omega)
            have y0 : wc.cell? ⟨pO, 0, none⟩ = some (.slice TN dk.now.length cN) := hr6.cell (i := 0) (by omega)
            have y1 : wc.cell? ⟨pO, 1, none⟩ = some (.slice TP dk.past.length cP) := hr6.cell (i := 1) (by omega)
            have z0 := hr6.frozen 0
            have z1 := hr6.frozen 1
            have HN : Hid (RunAt W ((wc.setCell ⟨pO, 0, none⟩ (.slice TN5 dn.now.length cN5)).setCell ⟨pO, 1, none⟩ (.slice TP5 dn.past.length cP5)) pO (runK d l (k + 1))) := by
              show RunAt _ _ _ _
              rw [HST.out.1]
              refine ⟨((HBL.out.trans (hbx.mono HBL.out.size)).setCell (p := ⟨pO, 0, none⟩) HPO.out _).setCell (p := ⟨pO, 1, none⟩) HPO.out _, TN5, cN5, TP5, cP5, lo5, hi5, desk_row hr6 _ _, HOW5.out.keep (fun b h1 h2 => far2 (by have := HPL.out; have := HPP.out.2.1; omega) _ _), ?_, by simp [World.setCell]; exact hhi5, .inr (by have := HPL.out; omega), cP5.lo, cP5.hi⟩
              have := HBL.out.size; omega
            have HC : Hid (runC d l (k + 1) = nk + 1) := by show _ = _; rw [HST.out.2]; simp
            clear hcb d0 d1 d2 d3 e0 e1 hbx hp1 hrow5 hown5 hlo5 hhi5 hr6 hpw
            go_wp2_with fail
            first
              | exact ⟨⟨k + 1, hlt, by first | rfl | simp, by rw [HC.out]; first | rfl | simp, HN⟩, by simp [intOf]; omega⟩
              | (go_roundw
                 case rel => exact ⟨k + 1, hlt, by go_num, by rw [HC.out]; go_num, HN⟩
                 case measure => simp [intOf]; omega)
      · have hkl : k = l.length := by omega
        rw [hkl] at hrow hown ⊢
        obtain ⟨dk, hdk⟩ : ∃ dk, runK d l l.length = dk := ⟨_, rfl⟩
        obtain ⟨nk, hnk⟩ : ∃ nk, runC d l l.length = nk := ⟨_, rfl⟩
        rw [hkl, hdk] at HCP
        rw [hdk] at hrow hown
        rw [hnk]
        have HRD : Hid (rnD d l = dk ∧ rnN d l = nk) := by have := HRY.out; rw [hdk, hnk] at this; exact this
        have x0 : wr.cell? ⟨pO, 0, none⟩ = some (.slice TN dk.now.length cN) := hrow.cell (i := 0) (by omega)
        have x1 : wr.cell? ⟨pO, 1, none⟩ = some (.slice TP dk.past.length cP) := hrow.cell (i := 1) (by omega)
        have y0 := r10 _ HA.out.bel
        have y1 := r11 _ HA.out.bel
        have z0 := g10 _ HA.out.bel
        have z1 := g11 _ HA.out.bel
        have HBL := Lib.hid (belT HBW.out HA.out.bel)
        have HOWN := Lib.hid hown
        have HLL : Hid (W.heap.size ≤ lo ∧ hi ≤ wr.heap.size ∧ W.heap.size = w.heap.size + 2) := ⟨hlo, hhi, HZW.out⟩
        have hnl : ¬ (k : Int) < (l.length : Int) := by omega
        clear hrow hown hlo hhi hap hrc hdk hnk HA r10 r11 g10 g11 hpl hkl
        obtain ⟨R, hR⟩ : ∃ R, w.heap.size + 1 = R := ⟨_, rfl⟩
        rw [hR] at y0 y1 z0 z1 ⊢
        have HRR : Hid (w.heap.size + 1 = R) := hR
        clear hR
        go_wp2_with fail
        refine bodyPost_ret (v := .tuple #[.agg #[.slice TN dk.now.length cN, .slice TP dk.past.length cP], .int .i64 (nk : Nat)]) (by simp [results, Try.results24, go_sem, y0, y1]) rfl ?_
        rw [HRD.out.1, HRD.out.2]
        have hr1 := HRR.out
        have hr2 := HLL.out
        have hfin := (HBL.out.setCell (p := ⟨R, 0, none⟩) (show w.heap.size ≤ R by omega) (.slice TN dk.now.length cN)).setCell (p := ⟨R, 1, none⟩) (show w.heap.size ≤ R by omega) (.slice TP dk.past.length cP)
        obtain ⟨AA, CC, TT, UU, ho⟩ := (HOWN.out.keep (w' := (wr.setCell ⟨R, 0, none⟩ (.slice TN dk.now.length cN)).setCell ⟨R, 1, none⟩ (.slice TP dk.past.length cP)) (fun b h1 h2 => far2 (by omega) _ _)).more (lo' := w.heap.size) (hi' := ((wr.setCell ⟨R, 0, none⟩ (.slice TN dk.now.length cN)).setCell ⟨R, 1, none⟩ (.slice TP dk.past.length cP)).heap.size) (by omega) (by simp [World.setCell]; omega)
        exact ⟨TN, cN, TP, ⟨cP, HCP.out.1, HCP.out.2⟩, AA, CC, TT, UU, rfl, hfin, ho⟩

end Go.Proofs.Ytlmaeadbomnhlaa

namespace Go.Proofs.Ytlmaeadbomnhlaa
set_option linter.unusedSimpArgs false
set_option linter.unusedVariables false
open Go.RowKit

theorem keepDd {w w' : World} {B : Nat} {A : Option Addr} {l : List Dd} (hb : Below B w w') (h : Deeds w (· < B) A l) : Deeds w' (· < B) A l := h.below hb

theorem OwnDd.keepB {w w' : World} {lo hi : Nat} {A : Option Addr} {l : List Dd} (h : OwnDd w lo hi A l) (hk : ∀ b, lo ≤ b → b < hi → w'.heap[b]? = w.heap[b]?) : OwnDd w' lo hi A l := by
  intro h0
  obtain ⟨b, N, f, e, h1, h2, h3, h4, h5⟩ := h h0
  exact ⟨b, N, f, e, h1, h2, h3.of_block (hk b h1 h2), h4, h5⟩

theorem OwnDd.below {w w' : World} {lo hi : Nat} {A : Option Addr} {l : List Dd} (h : OwnDd w lo hi A l) (hb : Below hi w w') : OwnDd w' lo hi A l := h.keepB fun b _ h2 => hb.block b h2

theorem OwnDd.off {w w' : World} {lo hi lo' hi' : Nat} {A : Option Addr} {l : List Dd} (h : OwnDd w lo hi A l) (ho : Off lo' hi' w w') (hd : hi ≤ lo' ∨ hi' ≤ lo) : OwnDd w' lo hi A l := h.keepB fun b h1 h2 => ho.block b (by omega)

theorem OwnDd.lt {w : World} {lo hi : Nat} {A : Option Addr} {l : List Dd} (h : OwnDd w lo hi A l) : Deeds w (· < hi) A l := h.deeds.mono fun _ h => h.2

theorem RdD.two {w : World} {B : Nat} {TN TP : Option Addr} {d : Dk} (h : RdD w B TN TP d) (hB : B ≤ w.heap.size) : Rows2 w (· < w.heap.size) TN d.now ∧ Rows3 w (· < w.heap.size) TP d.past := ⟨(h.lt hB).n, (h.lt hB).p⟩

theorem RdD.keepB {w w' : World} {B : Nat} {TN TP : Option Addr} {d : Dk} (h : RdD w B TN TP d) (hb : Below B w w') : RdD w' B TN TP d := keepDk hb h

theorem BoxD.made {w : World} {p : Nat} {s0 s1 : Value} (h : w.rowIs p 37 2 (fun i => if i = 0 then s0 else s1)) : BoxD w p s0 s1 := ⟨h.lt, h.cell (i := 0) (by omega), h.cell (i := 1) (by omega)⟩

theorem run_small (d : Dk) (l : List Dd) : SmallD (rnD d l) := by
  rcases hb : rnB d l with _ | _
  · rw [(rn_no hb).1]; exact small_zero
  · have hk : dkB d = true := by unfold rnB at hb; rw [Bool.and_eq_true] at hb; exact hb.1
    have he : rnD d l = runD d l := by unfold rnD; rw [if_pos hb]
    rw [he]; exact small_ok (run_ok hk l)

/-- what is asked of the program's DeskRun -/
structure Impl12R : Prop where
  run : ∀ (A B D : Option Addr) (c kk e : Nat) (d : Dk) (l : List Dd) (_ : d.now.length ≤ maxLen) (_ : d.past.length ≤ maxLen) (_ : l.length ≤ 4294967296) (_ : d.past.length ≤ kk ∧ kk ≤ maxLen) (w : World) (_ : Rows2 w (fun b => b < w.heap.size) A d.now) (_ : Rows3 w (fun b => b < w.heap.size) B d.past) (_ : Deeds w (fun b => b < w.heap.size) D l),
    Calls Try.prog 23 #[dskV A d.now.length c B d.past.length kk, .slice D l.length e] w (DeskRes w (rnD d l) (.int .i64 (rnN d l : Nat)))

end Go.Proofs.Ytlmaeadbomnhlaa
