/- What the program's functions on learning are asked, proved. -/
import Derived.Test.YtakkdpjgdmngkaaPE
import Derived.Test.YtakkdpjgdmngkaaPC
import Derived.Test.YtakkdpjgdmngkaaPD
import Derived.Deep.AppendLies
namespace Go.Proofs.Ytakkdpjgdmngkaa
set_option linter.unusedSimpArgs false
set_option linter.unusedVariables false
open Go.RowKit Go.Shelf

attribute [local go_sem] Oper.semAt_some

theorem lrn_yes {g : List (List Int)} {s : Int} (h : lrnB g s = true) : gameB g = true ∧ ∃ q : Nat, s = (q : Int) + 1 ∧ q + 1 ≤ 60 ∧ lrnX g s = (lrnP g q).1 ∧ lrnY g s = (lrnP g q).2 := by
  have hgb : gameB g = true := by unfold lrnB at h; rw [Bool.and_eq_true] at h; exact h.1
  have hin : inR s 1 60 = true := by unfold lrnB at h; rw [Bool.and_eq_true] at h; exact h.2
  have hs60 : 1 ≤ s ∧ s ≤ 60 := by unfold inR at hin; exact of_decide_eq_true hin
  have e : s.toNat - 1 = s.toNat - 1 := rfl
  refine ⟨hgb, s.toNat - 1, by omega, by omega, ?_, ?_⟩
  · unfold lrnX; rw [h, if_pos rfl]
  · unfold lrnY; rw [h, if_pos rfl]

theorem Grows.ownA {w : World} {lo a ca : Nat} {l : List Int} (h : Grows w lo (.slice (some ⟨a, 0, none⟩) l.length ca) l) : OwnI w lo w.heap.size (some ⟨a, 0, none⟩) l := by
  obtain ⟨A, c, e, _, ho⟩ := h.own
  simp at e
  rw [← e.1] at ho; exact ho

theorem CntAt.base' {w : World} {lo lo' a b ca cb : Nat} {x y : List Int} (h : CntAt w lo a b ca cb x y) (ha : lo' ≤ a) (hb : lo' ≤ b) : CntAt w lo' a b ca cb x y := by
  have up : ∀ {z cz : Nat} {l : List Int}, Grows w lo (.slice (some ⟨z, 0, none⟩) l.length cz) l → lo' ≤ z → Grows w lo' (.slice (some ⟨z, 0, none⟩) l.length cz) l := fun hg hz => by
    obtain ⟨h1, ⟨h2, _⟩ | ⟨g', cap, cur, h3, h4, h5⟩⟩ := hg
    · simp at h2
    · have e := h3
      simp at e
      exact ⟨h1, .inr ⟨g', cap, cur, h3, by omega, h5⟩⟩
  exact ⟨up h.one ha, up h.two hb, h.ne⟩

/-- the counts that were handed on last, in a box of the caller's; where the result will stand -/
structure Lasts (w : World) (rb lb : Nat) (pre : List (List Int × List Int)) (S : Nat → Prop) (W : World) : Prop where
  bel : Below w.heap.size w W
  res : W.rowIs rb 28 2 (fun _ => .slice none 0 0)
  any : ∃ f, W.rowIs lb 28 2 f
  last : ∀ x, pre.getLast? = some x → ∃ a b ca cb, CntBox W w.heap.size lb a b ca cb x.1 x.2 ∧ S a ∧ S b ∧ rb ≠ a ∧ rb ≠ b
  own : S lb

theorem Lasts.own1 {w : World} {rb lb B : Nat} (hB : w.heap.size ≤ B) (h1 : rb < B) : Own1 B (fun pre S W => Lasts w rb lb pre S W) := by
  intro pre S W W' h hl
  have hlb : W'.heap[lb]? = W.heap[lb]? := hl.block _ (h.any.choose_spec.lt) (.inr h.own)
  refine ⟨?_, h.res.of_block (hl.block _ h.res.lt (.inl h1)), ⟨_, h.any.choose_spec.of_block hlb⟩, fun x hx => ?_, h.own⟩
  · exact h.bel.trans (hl.below h.bel.size fun k hk => .inl (by omega))
  · obtain ⟨a, b, ca, cb, hb, sa, sb, n1, n2⟩ := h.last x hx
    exact ⟨a, b, ca, cb, ⟨hb.at_.keep (hl.block _ hb.at_.lt.2.1 (.inr sa)) (hl.block _ hb.at_.lt.2.2.2 (.inr sb)), hb.row.of_block hlb, hb.pa, hb.pb⟩, sa, sb, n1, n2⟩

set_option maxRecDepth 100000 in
set_option maxHeartbeats 4000000 in
theorem learned_impl (A : Option Addr) (c : Nat) (g : List (List Int)) (s : Int) (hl : g.length ≤ maxLen) (w : World) (h : Rows2 w (· < w.heap.size) A g) :
    Calls Try.prog 10 #[.slice A g.length c, .int .i64 s] w (CntRes w (lrnB g s) (lrnX g s) (lrnY g s)) := by
  have hk := fun w' h' => learnOkI A c g s (fun b => b < w.heap.size) hl w' h'
  rcases hb : lrnB g s with _ | _
  · rw [(lrn_no hb).1, (lrn_no hb).2]
    have HLK : Hid (∀ w', Below w.heap.size w w' → Calls Try.prog 38 #[.slice A g.length c, .int .i64 s] w' (Same (.bool false) w')) := fun w' hbw => by have := hk w' (keepRows hbw h); rwa [hb] at this
    clear hb hk h
    go_enter Try.func10, Try.ntmps10
    go_wp2_with (go_at_call 38; refine (HLK.out _ (by repeat (first | exact Below.refl _ _ | assumption | exact bel1 (by assumption) | exact bel2 (by assumption) | exact bel3 (by assumption) | exact bel4 (by assumption) | refine Below.drew ?_ | refine below_drewN ?_ _ | refine Below.setCell ?_ (by first | (simp; done) | (simp; omega)) _ | refine Below.alloc ?_ (by first | (simp; done) | (simp; omega)) _))).mono ?_; rintro e w1 ⟨rfl, rfl⟩)
    refine bodyPost_ret (v := .tuple #[.agg #[.slice none 0 0, .slice none 0 0], .bool false]) (by simp [results, Try.results10, go_sem]) rfl ?_
    exact CntRes.zero w (by repeat (first | exact Below.refl _ _ | assumption | exact bel1 (by assumption) | exact bel2 (by assumption) | exact bel3 (by assumption) | exact bel4 (by assumption) | refine Below.drew ?_ | refine below_drewN ?_ _ | refine Below.setCell ?_ (by first | (simp; done) | (simp; omega)) _ | refine Below.alloc ?_ (by first | (simp; done) | (simp; omega)) _))
  · obtain ⟨hgb, q, rfl, hq, eX, eY⟩ := lrn_yes hb
    have HXY := Lib.hid (And.intro eX eY)
    have HLK : Hid (∀ w', Below w.heap.size w w' → Calls Try.prog 38 #[.slice A g.length c, .int .i64 ((q : Int) + 1)] w' (Same (.bool true) w')) := fun w' hbw => by have := hk w' (keepRows hbw h); rwa [hb] at this
    have HO := Lib.hid (countsI A c g.length ((q : Int) + 1))
    have HR := Lib.hid h
    have HGB := Lib.hid hgb
    have HQ := Lib.hid hq
    clear hb hk h eX eY hgb hq
    refine (callsIn_wide (n := 9)).1 ?_
    refine callsIn_of_wp_marks Try.func10 rfl trivial ?_ rfl
    refine wpIn_wide.2 ?_
    simp only [Try.ntmps10, List.size_toArray, List.length_cons, List.length_nil, Nat.reduceAdd, Nat.reduceSub, Array.replicate_succ, Array.replicate_zero, List.push_toArray, List.append_toArray, List.nil_append, List.cons_append]
    go_wp2_with (first | (go_at_call 38; refine (HLK.out _ (by repeat (first | exact Below.refl _ _ | assumption | exact bel1 (by assumption) | exact bel2 (by assumption) | exact bel3 (by assumption) | exact bel4 (by assumption) | refine Below.drew ?_ | refine below_drewN ?_ _ | refine Below.setCell ?_ (by first | (simp; done) | (simp; omega)) _ | refine Below.alloc ?_ (by first | (simp; done) | (simp; omega)) _))).mono ?_; rintro e w1 ⟨rfl, rfl⟩) | (go_at_call 39; refine (HO.out _).mono ?_; rintro e w2 ⟨b1, b2, rfl, hb2, c1, c2, l1, l2⟩))
    obtain ⟨W1, hW1⟩ : ∃ W1 : World, W1 = (w.alloc (.cells #[.slice none 0 0, .slice none 0 0] 28)).alloc (.cells #[.slice none 0 0, .slice none 0 0] 28) := ⟨_, rfl⟩
    rw [← hW1] at hb2 l1 l2
    have hz1 : W1.heap.size = w.heap.size + 2 := by rw [hW1]; simp
    have hb1 : Below w.heap.size w W1 := by rw [hW1]; exact ((Below.refl _ w).alloc (Nat.le_refl _) _).alloc (by simp) _
    have hr0 : W1.rowIs w.heap.size 28 2 (fun _ => .slice none 0 0) := by
      rw [hW1]; exact World.rowIs.alloc (World.rowIs_alloc w #[.slice none 0 0, .slice none 0 0] _ _ (fun i hi => by have : i = 0 ∨ i = 1 := (by simp at hi; omega); rcases this with rfl | rfl <;> rfl)) _
    have hr1 : W1.rowIs (w.heap.size + 1) 28 2 (fun _ => .slice none 0 0) := by
      have := World.rowIs_alloc (w.alloc (.cells #[.slice none 0 0, .slice none 0 0] 28)) #[.slice none 0 0, .slice none 0 0] 28 (fun _ => .slice none 0 0) (fun i hi => by have : i = 0 ∨ i = 1 := (by simp at hi; omega); rcases this with rfl | rfl <;> rfl)
      rw [hW1]; rwa [World.size_alloc] at this
    clear hW1
    have hz2 := hb2.size
    have hbb : Below w.heap.size w w2 := hb1.trans (hb2.mono (by omega))
    have hp0 : Lasts w w.heap.size (w.heap.size + 1) [] (fun k => k = w.heap.size + 1) w2 :=
      ⟨hbb, hr0.of_block (hb2.block _ (by omega)), ⟨_, hr1.of_block (hb2.block _ (by omega))⟩, fun x hx => by simp at hx, rfl⟩
    have l3 := c1.lt
    have l4 := c2.lt
    have HIT := Lib.hid (cntIter g q HGB.out HQ.out A c b1 b2 (fun k => k < w.heap.size ∨ k = b1 ∨ k = b2) w2 c1 c2 (.inr (.inl rfl)) (.inr (.inr rfl)) ((keepRows hbb HR.out).mono fun _ hb => .inl hb))
    clear c1 c2 hb1 hr0 hr1
    refine (wpIn_wide (n := 9)).1 ?_
    refine overOuterH (gf := 70) (lb := #[.pointer (some ⟨b1, 0, none⟩), .pointer (some ⟨b2, 0, none⟩)]) rfl (enters_of Try.func70 (by kernel_rfl) rfl) HIT.out (Lies.refl _ _) (fun k hk => by rcases hk with h | rfl | rfl; omega; exact l3; exact l4) CntGiven.size
      (fun k => k = w.heap.size + 1) (fun k hk => ⟨by omega, fun h => by omega⟩)
      (fun pre S W => Lasts w w.heap.size (w.heap.size + 1) pre S W) (fun _ _ _ => False) (Lasts.own1 (by omega) (by omega)) (fun _ _ _ _ h _ => h) hp0 ?hround ?hdone ?hstop
    case hstop => intro _ _ _ _ _ _ h; exact h.elim
    case hdone =>
      rintro D S W hD hS hSD hla hKD
      obtain ⟨a, b, ca, cb, hcb, sa, sb, na, nb⟩ := hla.last (lrnP g q) (by rw [lrnTo_succ]; simp)
      have hzz := hla.bel.size
      have hl := hcb.at_.lt
      have e0 : W.cell? ⟨w.heap.size + 1, 0, none⟩ = some (.slice (some ⟨a, 0, none⟩) (lrnP g q).1.length ca) := hcb.row.cell (i := 0) (by omega)
      have e1 : W.cell? ⟨w.heap.size + 1, 1, none⟩ = some (.slice (some ⟨b, 0, none⟩) (lrnP g q).2.length cb) := hcb.row.cell (i := 1) (by omega)
      have d0 := hla.res.cell (i := 0) (by omega)
      have d1 := hla.res.cell (i := 1) (by omega)
      have f0 := hla.res.frozen 0
      have f1 := hla.res.frozen 1
      have nD : D ≠ w.heap.size := by omega
      have nDa : D ≠ a := fun e => hSD (e ▸ sa)
      have nDb : D ≠ b := fun e => hSD (e ▸ sb)
      have HF : Hid (∀ X : World, X = ((W.setCell ⟨w.heap.size, 0, none⟩ (.slice (some ⟨a, 0, none⟩) (lrnP g q).1.length ca)).setCell ⟨w.heap.size, 1, none⟩ (.slice (some ⟨b, 0, none⟩) (lrnP g q).2.length cb)).putObj D (.deferred none) →
          X.cell? ⟨w.heap.size, 0, none⟩ = some (.slice (some ⟨a, 0, none⟩) (lrnP g q).1.length ca) ∧ X.cell? ⟨w.heap.size, 1, none⟩ = some (.slice (some ⟨b, 0, none⟩) (lrnP g q).2.length cb) ∧
          CntRes w true (lrnX g ((q : Int) + 1)) (lrnY g ((q : Int) + 1)) (.returned (.tuple #[.agg #[.slice (some ⟨a, 0, none⟩) (lrnP g q).1.length ca, .slice (some ⟨b, 0, none⟩) (lrnP g q).2.length cb], .bool true])) X) := fun X hX => by
        have hrow := ((hla.res.set 0 (.slice (some ⟨a, 0, none⟩) (lrnP g q).1.length ca)).set 1 (.slice (some ⟨b, 0, none⟩) (lrnP g q).2.length cb)).of_block (World.putObj_heap_other (o := .deferred none) (Ne.symm nD))
        have hfar : ∀ z, z ≠ w.heap.size → z ≠ D → X.heap[z]? = W.heap[z]? := fun z h1 h2 => by
          rw [hX, World.putObj_heap_other h2, Below.heap_setCell _ _ _ _ (by exact h1), Below.heap_setCell _ _ _ _ (by exact h1)]
        have hbel : Below w.heap.size w X := hla.bel.trans ⟨by rw [hX]; rfl, by rw [hX]; rfl, by rw [hX]; rfl, by rw [hX]; simp [World.setCell], fun k hk => hfar k (by omega) (by omega)⟩
        rw [← hX] at hrow
        have hat := hcb.at_.keep (hfar a (Ne.symm na) (Ne.symm nDa)) (hfar b (Ne.symm nb) (Ne.symm nDb))
        refine ⟨by simpa using hrow.cell (i := 0) (by omega), by simpa using hrow.cell (i := 1) (by omega), _, ca, _, cb, by rw [HXY.out.1, HXY.out.2], hbel, ?_, ?_, fun _ _ h => ?_⟩
        · rw [HXY.out.1]; exact hat.one.ownA
        · rw [HXY.out.2]; exact hat.two.ownA
        · simp at h; exact hat.ne h
      have hKD' : ((W.setCell ⟨w.heap.size, 0, none⟩ (.slice (some ⟨a, 0, none⟩) (lrnP g q).1.length ca)).setCell ⟨w.heap.size, 1, none⟩ (.slice (some ⟨b, 0, none⟩) (lrnP g q).2.length cb)).heap[D]? = some (.deferred (some [])) := by
        rw [Below.heap_setCell _ _ _ _ (by exact nD), Below.heap_setCell _ _ _ _ (by exact nD)]; exact hKD
      have HKD := Lib.hid hKD'
      clear hKD hKD' hcb hla hl nD nDa nDb hz1 hz2 hzz l1 l2 l3 l4 hp0 hb2 hbb hS hSD sa sb na nb hD
      go_wp2_with fail
      refine ⟨by simp, .inl ⟨_, _, rfl, run_takeDeferred HKD.out, ?_⟩⟩
      obtain ⟨h1, h2, h3⟩ := HF.out _ rfl
      exact ⟨_, by simp only [results, Try.results10]; simp [go_sem, h1, h2], h3⟩
    case hround =>
      rintro l pre x post S G v W hx hl1 hl2 hbg hSo hSl hGl hla ⟨a, b, ca, cb, rfl, rfl, hat⟩ K' hK'
      gi_wp2
      obtain ⟨Wa, hWa⟩ : ∃ Wa : World, W.alloc (.cells #[.slice (some ⟨a, 0, none⟩) x.1.length ca, .slice (some ⟨b, 0, none⟩) x.2.length cb] 28) = Wa := ⟨_, rfl⟩
      have hba : Below W.heap.size W Wa := by rw [← hWa]; exact (Below.refl _ _).alloc (Nat.le_refl _) _
      have hsa : Wa.heap.size = W.heap.size + 1 := by rw [← hWa]; simp
      have hra : Wa.rowIs W.heap.size 28 2 (fun i => if i = 0 then .slice (some ⟨a, 0, none⟩) x.1.length ca else .slice (some ⟨b, 0, none⟩) x.2.length cb) := by
        rw [← hWa]; exact World.rowIs_alloc _ #[.slice (some ⟨a, 0, none⟩) x.1.length ca, .slice (some ⟨b, 0, none⟩) x.2.length cb] _ _ (fun i hi => by have : i = 0 ∨ i = 1 := (by simp at hi; omega); rcases this with rfl | rfl <;> rfl)
      rw [hWa]
      clear hWa
      refine hK' _ _ hba ?_
      intro W2 ht
      clear hK' K'
      have hs2 := ht.size
      have hlt := hat.lt
      have fa := hbg.fresh a (.inl rfl)
      have fb := hbg.fresh b (.inr rfl)
      have hfar : ∀ z, z < W.heap.size → z ≠ l → W2.heap[z]? = W.heap[z]? := fun z h1 h2 => (ht.other h2).trans (hba.block z h1)
      have nl : w.heap.size + 1 ≠ l := fun e => hSl (e ▸ hla.own)
      have nla : a ≠ l := fun e => hGl (.inl e.symm)
      have nlb : b ≠ l := fun e => hGl (.inr e.symm)
      have r7 := hra.of_block (ht.other (by omega))
      have c70 : W2.cell? ⟨W.heap.size, 0, none⟩ = some (.slice (some ⟨a, 0, none⟩) x.1.length ca) := r7.cell (i := 0) (by omega)
      have c71 : W2.cell? ⟨W.heap.size, 1, none⟩ = some (.slice (some ⟨b, 0, none⟩) x.2.length cb) := r7.cell (i := 1) (by omega)
      obtain ⟨f, hf⟩ := hla.any
      have hfl := hf.lt
      have hf2 := hf.of_block (hfar _ hfl nl)
      have q0 := hf2.cell (i := 0) (by omega)
      have q1 := hf2.cell (i := 1) (by omega)
      have p0 := hf2.frozen 0
      have p1 := hf2.frozen 1
      have HF : Hid (∀ W3 : World, W3 = (W2.setCell ⟨w.heap.size + 1, 0, none⟩ (.slice (some ⟨a, 0, none⟩) x.1.length ca)).setCell ⟨w.heap.size + 1, 1, none⟩ (.slice (some ⟨b, 0, none⟩) x.2.length cb) →
          ∃ S', Owns S (fun k => k = a ∨ k = b) W.heap.size S' W3 ∧ Lasts w w.heap.size (w.heap.size + 1) (pre ++ [x]) S' W3 ∧ Lies (fun k => k < W.heap.size ∧ ¬ S k) W2 W3) := fun W3 hW3 => by
        have hs3 : W3.heap.size = W2.heap.size := by rw [hW3]; simp [World.setCell]
        have hfar3 : ∀ z, z < W.heap.size → z ≠ l → z ≠ w.heap.size + 1 → W3.heap[z]? = W.heap[z]? := fun z h1 h2 h3 => by
          rw [hW3, Below.heap_setCell _ _ _ _ (by exact h3), Below.heap_setCell _ _ _ _ (by exact h3)]; exact hfar z h1 h2
        have hrow := (hf2.set 0 (.slice (some ⟨a, 0, none⟩) x.1.length ca)).set 1 (.slice (some ⟨b, 0, none⟩) x.2.length cb)
        rw [← hW3] at hrow
        have na : a ≠ w.heap.size + 1 := by omega
        have nb : b ≠ w.heap.size + 1 := by omega
        refine ⟨fun z => z = w.heap.size + 1 ∨ z = a ∨ z = b, ⟨fun k hk => ?_, fun k hk => ?_⟩, ⟨?_, ?_, ⟨_, hrow⟩, fun y hy => ?_, .inl rfl⟩, ?_⟩
        · rcases hk with rfl | hk
          · exact .inl hla.own
          · exact .inr (.inl hk)
        · rcases hk with rfl | rfl | rfl
          · omega
          · omega
          · omega
        · rw [hW3]; exact (((hla.bel.trans (hba.mono hla.bel.size)).trans (ht.below (show w.heap.size ≤ l by omega))).setCell (p := ⟨w.heap.size + 1, 0, none⟩) (Nat.le_succ _) _).setCell (p := ⟨w.heap.size + 1, 1, none⟩) (Nat.le_succ _) _
        · exact hla.res.of_block (hfar3 _ (by omega) (by omega) (by omega))
        · simp at hy
          subst hy
          refine ⟨a, b, ca, cb, ⟨?_, hrow.congr fun i hi => ?_, na.symm, nb.symm⟩, .inr (.inl rfl), .inr (.inr rfl), by omega, by omega⟩
          · exact ((hat.keep (hfar3 a fa.2.1 nla na) (hfar3 b fb.2.1 nlb nb))).base' (by omega) (by omega)
          · have : i = 0 ∨ i = 1 := by omega
            rcases this with rfl | rfl <;> rfl
        · rw [hW3]; exact (Lies.setCell _ _ _ (fun h => h.2 hla.own)).trans (Lies.setCell _ _ _ (fun h => h.2 hla.own))
      clear hf hfl hf2 hla hlt fa fb hfar nl nla nlb r7 hra hba ht hs2 hsa hbg hSo hSl hGl hl1 hl2 hx hat hp0 hb2 hbb hz1 hz2 l1 l2 l3 l4
      gi_wp2
      exact HF.out _ rfl

set_option maxRecDepth 100000 in
set_option maxHeartbeats 2000000 in
theorem gap_impl (A : Option Addr) (c : Nat) (g : List (List Int)) (s : Int) (hl : g.length ≤ maxLen) (w : World) (h : Rows2 w (· < w.heap.size) A g) :
    Calls Try.prog 22 #[.slice A g.length c, .int .i64 s] w (Adds (FracRes (gapU g s) (gapD g s) (lrnB g s)) w) := by
  have HR := Lib.hid h
  have HLS := Lib.hid (fun w' h' => learned_impl A c g s hl w' h')
  rcases hb : lrnB g s with _ | _
  · rw [(gap_no hb).1, (gap_no hb).2]
    rw [hb, (lrn_no hb).1, (lrn_no hb).2] at HLS
    clear hb h
    go_enter Try.func22, Try.ntmps22
    go_wp2_with fail
    obtain ⟨W, hW⟩ : ∃ W : World, W = (w.alloc (.cells #[(Value.int .i64 0), (Value.int .i64 0)] 34)) := ⟨_, rfl⟩
    have hzW : W.heap.size = w.heap.size + 1 := by rw [hW]; simp
    have hbW : Below w.heap.size w W := by rw [hW]; exact (by repeat (first | exact Below.refl _ _ | assumption | exact bel1 (by assumption) | exact bel2 (by assumption) | exact bel3 (by assumption) | exact bel4 (by assumption) | refine Below.drew ?_ | refine below_drewN ?_ _ | refine Below.setCell ?_ (by first | (simp; done) | (simp; omega)) _ | refine Below.alloc ?_ (by first | (simp; done) | (simp; omega)) _))
    have r00 := stays (p := w.heap.size) (o := 0) (by omega) (show W.cell? ⟨w.heap.size, 0, none⟩ = some ((Value.int .i64 0)) from by rw [hW]; simp [go_sem])
    have g00 := staysF (p := w.heap.size) (o := 0) (by omega) (show W.frozen? ⟨w.heap.size, 0, none⟩ = false from by rw [hW]; simp [go_sem])
    have r01 := stays (p := w.heap.size) (o := 1) (by omega) (show W.cell? ⟨w.heap.size, 1, none⟩ = some ((Value.int .i64 0)) from by rw [hW]; simp [go_sem])
    have g01 := staysF (p := w.heap.size) (o := 1) (by omega) (show W.frozen? ⟨w.heap.size, 1, none⟩ = false from by rw [hW]; simp [go_sem])
    rw [← hW]
    clear hW
    have HzW := Lib.hid hzW
    clear hzW
    refine (HLS.out _ ((keepRows hbW HR.out).lt hbW.size)).mono ?_
    rintro e w1 ⟨A1, c1, B1, k1, rfl, hb1, _, _, _⟩
    have HB1 := Lib.hid hb1
    have HBW := Lib.hid hbW
    have e00 := r00 _ hb1
    have e01 := r01 _ hb1
    have f00 := g00 _ hb1
    have f01 := g01 _ hb1
    have hlt : w.heap.size < w1.heap.size := by have := hb1.size; have := HzW.out; omega
    clear r00 r01 g00 g01 hb1
    go_wp2_with fail
    refine bodyPost_ret (v := FracRes 0 0 false) (by simp [results, Try.results22, go_sem, FracRes, e00, e01, hlt, Nat.ne_of_lt hlt, Nat.ne_of_gt hlt]) rfl ⟨rfl, ?_⟩
    have hbb := belT HBW.out HB1.out
    exact (by repeat (first | exact Below.refl _ _ | assumption | exact bel1 (by assumption) | exact bel2 (by assumption) | exact bel3 (by assumption) | exact bel4 (by assumption) | refine Below.drew ?_ | refine below_drewN ?_ _ | refine Below.setCell ?_ (by first | (simp; done) | (simp; omega)) _ | refine Below.alloc ?_ (by first | (simp; done) | (simp; omega)) _))
  · obtain ⟨hgb, q, rfl, hq, eX, eY⟩ := lrn_yes hb
    have eq : ((q : Int) + 1).toNat - 1 = q := by omega
    rw [(gap_yes hb).1, (gap_yes hb).2, eq]
    rw [hb, eX, eY] at HLS
    have HGI := Lib.hid (fun T A B c d e w h h1 h2 => gapI T A B c d e g q hgb (by omega) w h h1 h2)
    clear hb h hgb hq eX eY eq
    obtain ⟨X, hX⟩ : ∃ X, (lrnP g q).1 = X := ⟨_, rfl⟩
    obtain ⟨Y, hY⟩ : ∃ Y, (lrnP g q).2 = Y := ⟨_, rfl⟩
    rw [hX, hY] at HLS HGI
    clear hX hY
    go_enter Try.func22, Try.ntmps22
    go_wp2_with fail
    obtain ⟨W, hW⟩ : ∃ W : World, W = (w.alloc (.cells #[(Value.int .i64 0), (Value.int .i64 0)] 34)) := ⟨_, rfl⟩
    have hzW : W.heap.size = w.heap.size + 1 := by rw [hW]; simp
    have hbW : Below w.heap.size w W := by rw [hW]; exact (by repeat (first | exact Below.refl _ _ | assumption | exact bel1 (by assumption) | exact bel2 (by assumption) | exact bel3 (by assumption) | exact bel4 (by assumption) | refine Below.drew ?_ | refine below_drewN ?_ _ | refine Below.setCell ?_ (by first | (simp; done) | (simp; omega)) _ | refine Below.alloc ?_ (by first | (simp; done) | (simp; omega)) _))
    have r00 := stays (p := w.heap.size) (o := 0) (by omega) (show W.cell? ⟨w.heap.size, 0, none⟩ = some ((Value.int .i64 0)) from by rw [hW]; simp [go_sem])
    have g00 := staysF (p := w.heap.size) (o := 0) (by omega) (show W.frozen? ⟨w.heap.size, 0, none⟩ = false from by rw [hW]; simp [go_sem])
    have r01 := stays (p := w.heap.size) (o := 1) (by omega) (show W.cell? ⟨w.heap.size, 1, none⟩ = some ((Value.int .i64 0)) from by rw [hW]; simp [go_sem])
    have g01 := staysF (p := w.heap.size) (o := 1) (by omega) (show W.frozen? ⟨w.heap.size, 1, none⟩ = false from by rw [hW]; simp [go_sem])
    rw [← hW]
    clear hW
    have HzW := Lib.hid hzW
    clear hzW
    refine (HLS.out _ ((keepRows hbW HR.out).lt hbW.size)).mono ?_
    rintro e w1 ⟨A1, c1, B1, k1, rfl, hb1, ho1, ho2, _⟩
    have HB1 := Lib.hid hb1
    have HBW := Lib.hid hbW
    have hlt : w.heap.size < w1.heap.size := by have := hb1.size; have := HzW.out; omega
    have HO1 : Hid (Ints w1 (fun b => b < w1.heap.size) A1 X) := ho1.ints.mono fun b h => h.2
    have HO2 : Hid (Ints w1 (fun b => b < w1.heap.size) B1 Y) := ho2.ints.mono fun b h => h.2
    clear ho1 ho2
    go_wp2_with fail
    obtain ⟨V, hV⟩ : ∃ V : World, V = w1.alloc (.cells #[.slice A1 X.length c1, .slice B1 Y.length k1] 28) := ⟨_, rfl⟩
    have hbV : Below w1.heap.size w1 V := by rw [hV]; exact (Below.refl _ _).alloc (Nat.le_refl _) _
    rw [← hV]
    clear hV
    have HKV : Hid (Below W.heap.size W V) := HB1.out.trans (hbV.mono HB1.out.size)
    refine (HGI.out _ _ _ _ _ _ _ ((keepRows (belT HBW.out HKV.out) HR.out).lt (belT HBW.out HKV.out).size) ((keepInts hbV HO1.out).lt hbV.size) ((keepInts hbV HO2.out).lt hbV.size)).mono ?_
    rintro e w3 ⟨rfl, hb3⟩
    have hk3 := HKV.out.trans (hb3.mono HKV.out.size)
    have e00 := r00 _ hk3
    have e01 := r01 _ hk3
    have f00 := g00 _ hk3
    have f01 := g01 _ hk3
    have HK3 := Lib.hid (belT HBW.out hk3)
    clear r00 r01 g00 g01 hb3 hk3 hbV hbW hb1 hlt
    go_wp2_with fail
    refine bodyPost_ret (v := FracRes (gpU g q) (gpD g q) true) (by simp [results, Try.results22, go_sem, FracRes, e00, e01]) rfl ⟨rfl, ?_⟩
    exact (HK3.out.setCell (Nat.le_refl _) _).setCell (Nat.le_refl _) _

/-- an append at a step of a region that draws its order, in a round -/
theorem stepIn_append_run {F : Fence} {n : Nat} {P : Program} {ops : Array Oper} {o : Oper} {a : Act} {K : Act → World → Prop} {Q : Exit → Act → World → Prop} {E : Prop} {w : World} (hgd : o.guard = none) (s x : Operand) (t : TypeId)
    (ho : o.op = .call { callee := .builtin .append, args := #[s, x], argTypes := #[t, t] }) (v sx v' : Value) (w' : World) (hs : a.eval s = v) (hx : a.eval x = sx) (hr : (Builtin.append_ #[t, t] o.type #[v, sx]).run P w = .ok v' w') (h : K (a.put o.dst v') w') :
    if Region.wanted o (yielded ops a.tmps) = true then Oper.wpIn F n P o a w K Q else E := by
  have hw : Region.wanted o (yielded ops a.tmps) = true := by simp [Region.wanted, hgd]
  rw [if_pos hw]
  unfold Oper.wpIn
  refine ⟨by simp [Oper.about, ho, resolve, Target.leads, Sem.run_pure], ?_⟩
  rw [Oper.semAt_plain F _ _ (by rw [ho]; intro c hc'; cases hc')]
  simp [execOp, ho, resolve, invoke, builtin, hs, hx, hr, Result.andThen]
  exact h

theorem ownsRow_some {w : World} {base : Nat} {t : TypeId} {s n : Nat} {v : Value} {xs : List Value} (h : w.ownsRow base t s v n xs) (h0 : 0 < n) : ∃ z cap, v = .slice (some ⟨z, 0, none⟩) n cap := by
  rcases h.2 with ⟨_, h2⟩ | ⟨g, cap, cur, rfl, _⟩
  · omega
  · exact ⟨g, cap, rfl⟩

theorem lrnTo_at {g : List (List Int)} {n : Nat} {pre post : List (List Int × List Int)} {x : List Int × List Int} (h : lrnTo g n = pre ++ x :: post) : pre.length + 1 ≤ n ∧ x = lrnP g pre.length := by
  have hl : (lrnTo g n).length = n := lrnTo_length g n
  have h1 : pre.length < n := by rw [h] at hl; simp at hl; omega
  have h2 : (lrnTo g n)[pre.length]? = some x := by rw [h]; simp
  unfold lrnTo at h2
  rw [List.getElem?_map, List.getElem?_range h1] at h2
  exact ⟨h1, by simpa using h2.symm⟩

/-- the gaps after each of the first k steps, number by number -/
def gapVals (g : List (List Int)) : Nat → List Value
  | 0 => []
  | k + 1 => gapVals g k ++ [.int .i64 (gpU g k), .int .i64 (gpD g k)]

theorem gapVals_length (g : List (List Int)) (k : Nat) : (gapVals g k).length = k * 2 := by
  induction k with
  | zero => rfl
  | succ k ih => simp [gapVals, ih]; omega

theorem gapVals_at (g : List (List Int)) {i : Nat} : ∀ {k : Nat}, i < k → (gapVals g k)[i * 2]? = some (.int .i64 (gpU g i)) ∧ (gapVals g k)[i * 2 + 1]? = some (.int .i64 (gpD g i))
  | 0, h => by omega
  | k + 1, h => by
    have hl := gapVals_length g k
    by_cases e : i = k
    · subst e
      refine ⟨?_, ?_⟩
      · show (gapVals g i ++ _)[i * 2]? = _
        rw [List.getElem?_append_right (by omega), hl, show i * 2 - i * 2 = 0 by omega]; rfl
      · show (gapVals g i ++ _)[i * 2 + 1]? = _
        rw [List.getElem?_append_right (by omega), hl, show i * 2 + 1 - i * 2 = 1 by omega]; rfl
    · obtain ⟨h1, h2⟩ := gapVals_at g (show i < k by omega)
      refine ⟨?_, ?_⟩
      · show (gapVals g k ++ _)[i * 2]? = _
        rw [List.getElem?_append_left (by omega)]; exact h1
      · show (gapVals g k ++ _)[i * 2 + 1]? = _
        rw [List.getElem?_append_left (by omega)]; exact h2

theorem atN_lst (g : List (List Int)) : ∀ k, atN (gLess g) (k + 1) = lstAt g k
  | 0 => by unfold atN; split <;> rfl
  | k + 1 => by
    show (if gLess g (k + 1) (atN (gLess g) (k + 1)) = true then k + 1 else atN (gLess g) (k + 1)) = if gLess g (k + 1) (lstAt g k) = true then k + 1 else lstAt g k
    rw [atN_lst g k]

theorem gaps_less {g : List (List Int)} (hgb : gameB g = true) {i j : Nat} (hi : i ≤ 59) (hj : j ≤ 59) (w : World) :
    Calls Try.prog 50 #[.agg #[.int .i64 (gpU g i), .int .i64 (gpD g i)], .agg #[.int .i64 (gpU g j), .int .i64 (gpD g j)]] w (Adds (.bool (gLess g i j)) w) := by
  have h1 := (gap_facts hgb hi).ok
  have h2 := (gap_facts hgb hj).ok
  have e : gLess g i j = decide (gpU g i * gpD g j < gpU g j * gpD g i) := by unfold gLess; exact lessB_ok h1 h2
  have k1 := okB_iff.1 h1
  have k2 := okB_iff.1 h2
  have m1 := mul_in (a := gpU g i) (b := gpD g j) (by omega) (by omega) (by omega) (by omega)
  have m2 := mul_in (a := gpU g j) (b := gpD g i) (by omega) (by omega) (by omega) (by omega)
  refine (less _ _ _ _ (by omega) (by omega) (by omega) (by omega) w).mono ?_
  rintro _ w1 ⟨rfl, hb1⟩
  exact Adds.of (by rw [e]) hb1

/-- the gaps so far; the variables' boxes -/
structure Gaps (w : World) (base rb gb fb : Nat) (tb : Value) (g : List (List Int)) (n : Nat) (S : Nat → Prop) (W : World) : Prop where
  bel : Below w.heap.size w W
  res : W.rowIs rb 34 2 (fun _ => .int .i64 0)
  game : Cell1 W fb 23 tb
  ex : ∃ v, Cell1 W gb 66 v ∧ W.ownsRow base 34 2 v n (gapVals g n) ∧ ∀ z, v.ownBlock = some z → S z
  own : S gb

theorem Gaps.own1 {α : Type} {w : World} {base rb gb fb B : Nat} {tb : Value} {g : List (List Int)} (hB : w.heap.size ≤ B) (h1 : rb < B) (h2 : fb < B) : Own1 B (fun (pre : List α) S W => Gaps w base rb gb fb tb g pre.length S W) := by
  intro pre S W W' h hl
  obtain ⟨v, e1, e2, e3⟩ := h.ex
  exact ⟨h.bel.trans (hl.below h.bel.size fun k hk => .inl (by omega)), h.res.of_block (hl.block _ h.res.lt (.inl h1)), h.game.keep (hl.block _ h.game.lt (.inl h2)),
    ⟨v, e1.keep (hl.block _ e1.lt (.inr h.own)), ownsRow_of_block e2 fun k hk => hl.block k (World.ownsRow.lt e2 k hk).2 (.inr (e3 k hk)), e3⟩, h.own⟩

set_option maxRecDepth 100000 in
set_option maxHeartbeats 4000000 in
theorem least_impl (A : Option Addr) (c : Nat) (g : List (List Int)) (s : Int) (hl : g.length ≤ maxLen) (w : World) (h : Rows2 w (· < w.heap.size) A g) :
    Calls Try.prog 25 #[.slice A g.length c, .int .i64 s] w (Adds (.tuple #[.agg #[.int .i64 (lstU g s), .int .i64 (lstD g s)], .int .i64 (lstN g s), .bool (lrnB g s)]) w) := by
  have hk := fun w' h' => learnOkI A c g s (fun b => b < w.heap.size) hl w' h'
  rcases hb : lrnB g s with _ | _
  · rw [(lst_no hb).1, (lst_no hb).2.1, (lst_no hb).2.2]
    have HLK : Hid (∀ w', Below w.heap.size w w' → Calls Try.prog 38 #[.slice A g.length c, .int .i64 s] w' (Same (.bool false) w')) := fun w' hbw => by have := hk w' (keepRows hbw h); rwa [hb] at this
    clear hb hk h
    go_enter Try.func25, Try.ntmps25
    go_wp2_with (go_at_call 38; refine (HLK.out _ (by repeat (first | exact Below.refl _ _ | assumption | exact bel1 (by assumption) | exact bel2 (by assumption) | exact bel3 (by assumption) | exact bel4 (by assumption) | refine Below.drew ?_ | refine below_drewN ?_ _ | refine Below.setCell ?_ (by first | (simp; done) | (simp; omega)) _ | refine Below.alloc ?_ (by first | (simp; done) | (simp; omega)) _))).mono ?_; rintro e w1 ⟨rfl, rfl⟩)
    refine bodyPost_ret (v := .tuple #[.agg #[.int .i64 0, .int .i64 0], .int .i64 (-1), .bool false]) (by simp [results, Try.results25, go_sem]) rfl ?_
    exact ⟨rfl, (by repeat (first | exact Below.refl _ _ | assumption | exact bel1 (by assumption) | exact bel2 (by assumption) | exact bel3 (by assumption) | exact bel4 (by assumption) | refine Below.drew ?_ | refine below_drewN ?_ _ | refine Below.setCell ?_ (by first | (simp; done) | (simp; omega)) _ | refine Below.alloc ?_ (by first | (simp; done) | (simp; omega)) _))⟩
  · obtain ⟨hgb, q, rfl, hq, -, -⟩ := lrn_yes hb
    have eq : ((q : Int) + 1).toNat - 1 = q := by omega
    rw [(lst_yes hb).1, (lst_yes hb).2.1, (lst_yes hb).2.2, eq]
    have HLK : Hid (∀ w', Below w.heap.size w w' → Calls Try.prog 38 #[.slice A g.length c, .int .i64 ((q : Int) + 1)] w' (Same (.bool true) w')) := fun w' hbw => by have := hk w' (keepRows hbw h); rwa [hb] at this
    have HO := Lib.hid (countsI A c g.length ((q : Int) + 1))
    have HR := Lib.hid h
    have HGB := Lib.hid hgb
    have HQ := Lib.hid hq
    clear hb hk h hgb hq eq
    refine (callsIn_wide (n := 9)).1 ?_
    refine callsIn_of_wp_marks Try.func25 rfl trivial ?_ rfl
    refine wpIn_wide.2 ?_
    simp only [Try.ntmps25, List.size_toArray, List.length_cons, List.length_nil, Nat.reduceAdd, Nat.reduceSub, Array.replicate_succ, Array.replicate_zero, List.push_toArray, List.append_toArray, List.nil_append, List.cons_append]
    go_wp2_with (first | (go_at_call 38; refine (HLK.out _ (by repeat (first | exact Below.refl _ _ | assumption | exact bel1 (by assumption) | exact bel2 (by assumption) | exact bel3 (by assumption) | exact bel4 (by assumption) | refine Below.drew ?_ | refine below_drewN ?_ _ | refine Below.setCell ?_ (by first | (simp; done) | (simp; omega)) _ | refine Below.alloc ?_ (by first | (simp; done) | (simp; omega)) _))).mono ?_; rintro e w1 ⟨rfl, rfl⟩) | (go_at_call 39; refine (HO.out _).mono ?_; rintro e w2 ⟨b1, b2, rfl, hb2, c1, c2, l1, l2⟩))
    obtain ⟨W1, hW1⟩ : ∃ W1 : World, W1 = ((w.alloc (.cells #[.slice A g.length c] 23)).alloc (.cells #[.int .i64 0, .int .i64 0] 34)).alloc (.cells #[.slice none 0 0] 66) := ⟨_, rfl⟩
    rw [← hW1] at hb2 l1 l2
    have hz1 : W1.heap.size = w.heap.size + 3 := by rw [hW1]; simp
    have hb1 : Below w.heap.size w W1 := by rw [hW1]; exact (((Below.refl _ w).alloc (Nat.le_refl _) _).alloc (by simp) _).alloc (by simp; omega) _
    have hg1 : Cell1 W1 w.heap.size 23 (.slice A g.length c) := by rw [hW1]; exact ((Cell1.new _ _ _).alloc _).alloc _
    have hr1 : W1.rowIs (w.heap.size + 1) 34 2 (fun _ => .int .i64 0) := by
      have := World.rowIs_alloc (w.alloc (.cells #[.slice A g.length c] 23)) #[.int .i64 0, .int .i64 0] 34 (fun _ => .int .i64 0) (fun i hi => by have : i = 0 ∨ i = 1 := (by simp at hi; omega); rcases this with rfl | rfl <;> rfl)
      rw [hW1]; rw [World.size_alloc] at this; exact World.rowIs.alloc this _
    have hv1 : Cell1 W1 (w.heap.size + 2) 66 (.slice none 0 0) := by
      have := Cell1.new ((w.alloc (.cells #[.slice A g.length c] 23)).alloc (.cells #[.int .i64 0, .int .i64 0] 34)) 66 (.slice none 0 0)
      rw [hW1]; simp only [World.size_alloc] at this; exact this
    clear hW1
    have hz2 := hb2.size
    have hbb : Below w.heap.size w w2 := hb1.trans (hb2.mono (by omega))
    have hp0 : Gaps w w2.heap.size (w.heap.size + 1) (w.heap.size + 2) w.heap.size (.slice A g.length c) g 0 (fun k => k = w.heap.size + 2) w2 :=
      ⟨hbb, hr1.of_block (hb2.block _ (by omega)), hg1.below hb2 (by omega), ⟨_, hv1.below hb2 (by omega), World.ownsRow_nil _ _ _ _, fun z hz => by simp [Value.ownBlock] at hz⟩, rfl⟩
    have l3 := c1.lt
    have l4 := c2.lt
    have HIT := Lib.hid (cntIter g q HGB.out HQ.out A c b1 b2 (fun k => k < w.heap.size ∨ k = b1 ∨ k = b2) w2 c1 c2 (.inr (.inl rfl)) (.inr (.inr rfl)) ((keepRows hbb HR.out).mono fun _ hb => .inl hb))
    have HBB := Lib.hid hbb
    have HZ : Hid (w.heap.size + 3 ≤ w2.heap.size) := by show _ ≤ _; omega
    obtain ⟨i0, hi0, hzz⟩ := Option.map_eq_some_iff.1 infoF
    simp only [Prod.mk.injEq] at hzz
    obtain ⟨hy0, hy1, hy2⟩ := hzz
    have HI0 := Lib.hid hi0
    have HY0 := Lib.hid hy0
    have HY1 := Lib.hid hy1
    have HY2 := Lib.hid hy2
    clear c1 c2 hb1 hr1 hg1 hv1 hi0 hy0 hy1 hy2
    refine (wpIn_wide (n := 9)).1 ?_
    refine overOuterH (gf := 70) (lb := #[.pointer (some ⟨b1, 0, none⟩), .pointer (some ⟨b2, 0, none⟩)]) rfl (enters_of Try.func70 (by kernel_rfl) rfl) HIT.out (Lies.refl _ _) (fun k hk => by rcases hk with h | rfl | rfl; omega; exact l3; exact l4) CntGiven.size
      (fun k => k = w.heap.size + 2) (fun k hk => ⟨by omega, fun h => by omega⟩)
      (fun pre S W => Gaps w w2.heap.size (w.heap.size + 1) (w.heap.size + 2) w.heap.size (.slice A g.length c) g pre.length S W) (fun _ _ _ => False) (Gaps.own1 (by omega) (by omega) (by omega)) (fun _ _ _ _ h _ => h) hp0 ?hround ?hdone ?hstop
    case hstop => intro _ _ _ _ _ _ h; exact h.elim
    case hdone =>
      rintro D S W hD hS hSD hla hKD
      rw [lrnTo_length] at hla
      obtain ⟨v, hv1, hv2, hv3⟩ := hla.ex
      obtain ⟨z, cap, rfl⟩ := ownsRow_some hv2 (by omega)
      have hzl := World.ownsRow.lt hv2 z rfl
      have hfr : FracsAt W z (q + 1) (gpU g) (gpD g) := ⟨hzl.2, fun hk => by rw [World.ownsRow.cellAt hv2 _ (by omega)]; exact (gapVals_at g hk).1, fun hk => by rw [World.ownsRow.cellAt hv2 _ (by omega)]; exact (gapVals_at g hk).2⟩
      have hbg := bestOfG 50 (gLess g) (q + 1) (gpU g) (gpD g) (enters_of Try.func50 (by kernel_rfl) rfl) (fun i j hi hj w => gaps_less HGB.out (by have := HQ.out; omega) (by have := HQ.out; omega) w) z cap (by omega) HQ.out W hfr
      rw [atN_lst] at hbg
      have HBG := Lib.hid hbg
      have e7 := hv1.cell
      have hzz := hla.bel.size
      have nD : D ≠ w.heap.size + 1 := by omega
      have hlq : lstAt g q ≤ q := lstAt_le g q
      have hw1 : IntKind.i64.wrap ((lstAt g q : Int) + 1) = (lstAt g q : Int) + 1 := IntWalk.i64_in _ ⟨by omega, by have := HQ.out; omega⟩
      have HAF : Hid (∀ w3, Below W.heap.size W w3 → w3.rowIs (w.heap.size + 1) 34 2 (fun _ => .int .i64 0) ∧ w3.heap[D]? = some (.deferred (some [])) ∧ Below w.heap.size w w3 ∧ w.heap.size + 1 < w3.heap.size ∧ D < w3.heap.size) := fun w3 hb3 => by
        have hDl : D < W.heap.size := (Array.getElem?_eq_some_iff.1 hKD).1
        have := hb3.size
        have := hla.res.lt
        exact ⟨hla.res.of_block (hb3.block _ hla.res.lt), (hb3.block D hDl).trans hKD, hla.bel.trans (hb3.mono hla.bel.size), by omega, by omega⟩
      clear hv1 hv2 hv3 hzl hfr hbg hla hKD hS hSD hz2 hzz hp0 hb2 hbb l1 l2 l3 l4 hlq
      go_wp2_with (go_at_call 47; refine HBG.out.mono ?_; rintro e w3 ⟨rfl, hb3⟩; obtain ⟨h1, h2, h3, h4, h5⟩ := HAF.out w3 hb3; have d0 := h1.cell (i := 0) (by omega); have d1 := h1.cell (i := 1) (by omega); have f0 := h1.frozen 0; have f1 := h1.frozen 1; have H1 := Lib.hid h1; have H2 := Lib.hid h2; have H3 := Lib.hid h3; have H5 := Lib.hid h5; clear h1 h2 h3 h5 hb3)
      have hbel : ∀ o, Below w.heap.size w ((((w3.setCell ⟨w.heap.size + 1, 0, none⟩ (.int .i64 (gpU g (lstAt g q)))).setCell ⟨w.heap.size + 1, 1, none⟩ (.int .i64 (gpD g (lstAt g q)))).alloc o).putObj D (.deferred none)) := fun o =>
        ((((H3.out.setCell (p := ⟨w.heap.size + 1, 0, none⟩) (Nat.le_succ _) _).setCell (p := ⟨w.heap.size + 1, 1, none⟩) (Nat.le_succ _) _)).alloc (by simp [World.setCell]; omega) o).trans ⟨rfl, rfl, rfl, by simp, fun k hk => World.putObj_heap_other (by have := HZ.out; omega)⟩
      have hKD2 : ∀ o, (((w3.setCell ⟨w.heap.size + 1, 0, none⟩ (.int .i64 (gpU g (lstAt g q)))).setCell ⟨w.heap.size + 1, 1, none⟩ (.int .i64 (gpD g (lstAt g q)))).alloc o).heap[D]? = some (.deferred (some [])) := fun o => by
        rw [Below.heap_alloc _ _ _ (by have := H5.out; simp [World.setCell]; omega), Below.heap_setCell _ _ _ _ (by exact nD), Below.heap_setCell _ _ _ _ (by exact nD)]; exact H2.out
      have hrow : ∀ o, ((((w3.setCell ⟨w.heap.size + 1, 0, none⟩ (.int .i64 (gpU g (lstAt g q)))).setCell ⟨w.heap.size + 1, 1, none⟩ (.int .i64 (gpD g (lstAt g q)))).alloc o).putObj D (.deferred none)).cell? ⟨w.heap.size + 1, 0, none⟩ = some (.int .i64 (gpU g (lstAt g q))) ∧
          ((((w3.setCell ⟨w.heap.size + 1, 0, none⟩ (.int .i64 (gpU g (lstAt g q)))).setCell ⟨w.heap.size + 1, 1, none⟩ (.int .i64 (gpD g (lstAt g q)))).alloc o).putObj D (.deferred none)).cell? ⟨w.heap.size + 1, 1, none⟩ = some (.int .i64 (gpD g (lstAt g q))) := fun o => by
        have hr := (World.rowIs.alloc ((H1.out.set 0 (.int .i64 (gpU g (lstAt g q)))).set 1 (.int .i64 (gpD g (lstAt g q)))) o).of_block (World.putObj_heap_other (r := D) (o := .deferred none) (Ne.symm nD))
        exact ⟨by simpa using hr.cell (i := 0) (by omega), by simpa using hr.cell (i := 1) (by omega)⟩
      refine ⟨by simp, .inl ⟨_, _, rfl, run_takeDeferred (hKD2 _), ?_⟩⟩
      obtain ⟨h1, h2⟩ := hrow (.cells #[.int .i64 (gpU g (lstAt g q)), .int .i64 (gpD g (lstAt g q))] 34)
      exact ⟨_, by simp only [results, Try.results25]; simp [go_sem, h1, h2], rfl, hbel _⟩
    case hround =>
      rintro l pre x post S G v W hx hl1 hl2 hbg hSo hSl hGl hla ⟨a, b, ca, cb, rfl, rfl, hat⟩ K' hK'
      obtain ⟨hpq, rfl⟩ := lrnTo_at hx
      have hlen : (pre ++ [lrnP g pre.length]).length = pre.length + 1 := by simp
      rw [hlen] at hK'
      obtain ⟨k, hk⟩ : ∃ k, pre.length = k := ⟨_, rfl⟩
      rw [hk] at hK' hpq hla hat ⊢
      gi_wp2
      obtain ⟨Wa, hWa⟩ : ∃ Wa : World, W.alloc (.cells #[.slice (some ⟨a, 0, none⟩) (lrnP g k).1.length ca, .slice (some ⟨b, 0, none⟩) (lrnP g k).2.length cb] 28) = Wa := ⟨_, rfl⟩
      have hba : Below W.heap.size W Wa := by rw [← hWa]; exact (Below.refl _ _).alloc (Nat.le_refl _) _
      have hsa : Wa.heap.size = W.heap.size + 1 := by rw [← hWa]; simp
      have hra : Wa.rowIs W.heap.size 28 2 (fun i => if i = 0 then .slice (some ⟨a, 0, none⟩) (lrnP g k).1.length ca else .slice (some ⟨b, 0, none⟩) (lrnP g k).2.length cb) := by
        rw [← hWa]; exact World.rowIs_alloc _ #[.slice (some ⟨a, 0, none⟩) (lrnP g k).1.length ca, .slice (some ⟨b, 0, none⟩) (lrnP g k).2.length cb] _ _ (fun i hi => by have : i = 0 ∨ i = 1 := (by simp at hi; omega); rcases this with rfl | rfl <;> rfl)
      rw [hWa]
      clear hWa
      refine hK' _ _ hba ?_
      intro W2 ht
      clear hK' K'
      have hs2 := ht.size
      have hlt := hat.lt
      have fa := hbg.fresh a (.inl rfl)
      have fb := hbg.fresh b (.inr rfl)
      have hfar : ∀ z, z < W.heap.size → z ≠ l → W2.heap[z]? = W.heap[z]? := fun z h1 h2 => (ht.other h2).trans (hba.block z h1)
      have nl : ∀ z, S z → z ≠ l := fun z hz e => hSl (e ▸ hz)
      have nla : a ≠ l := fun e => hGl (.inl e.symm)
      have nlb : b ≠ l := fun e => hGl (.inr e.symm)
      have hwl : w2.heap.size ≤ l := hl1
      have hz2 := HZ.out
      have r8 := hra.of_block (ht.other (by omega))
      have c80 : W2.cell? ⟨W.heap.size, 0, none⟩ = some (.slice (some ⟨a, 0, none⟩) (lrnP g k).1.length ca) := r8.cell (i := 0) (by omega)
      have c81 : W2.cell? ⟨W.heap.size, 1, none⟩ = some (.slice (some ⟨b, 0, none⟩) (lrnP g k).2.length cb) := r8.cell (i := 1) (by omega)
      have hat2 := hat.keep (hfar a fa.2.1 nla) (hfar b fb.2.1 nlb)
      obtain ⟨v, hv1, hv2, hv3⟩ := hla.ex
      have q1 : Cell1 W2 (w.heap.size + 2) 66 v := hv1.keep (hfar _ hv1.lt (nl _ hla.own))
      have q2 : W2.ownsRow w2.heap.size 34 2 v k (gapVals g k) := ownsRow_of_block hv2 fun z hz => hfar z (World.ownsRow.lt hv2 z hz).2 (nl z (hv3 z hz))
      have q3 : Cell1 W2 w.heap.size 23 (.slice A g.length c) := hla.game.keep (hfar _ hla.game.lt (by omega))
      have hb2w : Below w.heap.size w W2 := (hla.bel.trans (hba.mono hla.bel.size)).trans (ht.below (show w.heap.size ≤ l by omega))
      have e7 := q1.cell
      have e2 := q3.cell
      have HGP := Lib.hid (gapI A (some ⟨a, 0, none⟩) (some ⟨b, 0, none⟩) c ca cb g k HGB.out (by have := HQ.out; omega) W2.drew ((keepRows hb2w.drew HR.out).lt hb2w.size) hat2.ints.1 hat2.ints.2)
      have Q1 := Lib.hid q1
      have Q2 := Lib.hid q2
      have HV3 := Lib.hid hv3
      have HLA := Lib.hid hla
      have HB2W := Lib.hid hb2w
      have hres : W2.rowIs (w.heap.size + 1) 34 2 (fun _ => .int .i64 0) := hla.res.of_block (hfar _ hla.res.lt (by omega))
      have HRES := Lib.hid hres
      have Q3 := Lib.hid q3
      have hnv : v.ownBlock ≠ some (w.heap.size + 2) := fun e => by have := (World.ownsRow.lt q2 _ e).1; omega
      have HNV := Lib.hid hnv
      have HSZ : Hid (W2.heap.size = W.heap.size + 1 ∧ w2.heap.size ≤ W.heap.size) := ⟨by omega, hbg.size⟩
      clear hla hv1 hv2 hv3 hfar nl nla nlb fa fb hlt r8 hra hba ht hs2 hsa hbg hSo hSl hGl hl1 hl2 hx hat hat2 q1 q2 q3 hb2w hp0 hb2 hbb hz1 hz2 l1 l2 l3 l4 hwl hres hnv hlen
      have k1 : k + 1 ≤ 60 := by have := HQ.out; omega
      clear hpq hk
      have hmx : Try.prog.follows .mixedOrders = true := by kernel_rfl
      have HAP : Hid (∀ w3, Below W2.heap.size W2 w3 → ∃ (z cap' : Nat) (w5 : World), (Builtin.append_ #[66, 66] 66 #[v, .slice (some ⟨w3.heap.size, 0, none⟩) 1 1]).run Try.prog (w3.alloc (.cells #[.int .i64 (gpU g k), .int .i64 (gpD g k)] 34)) = .ok (.slice (some ⟨z, 0, none⟩) (k + 1) cap') w5 ∧
          w5.ownsRow w2.heap.size 34 2 (.slice (some ⟨z, 0, none⟩) (k + 1) cap') (k + 1) (gapVals g (k + 1)) ∧ (w3.alloc (.cells #[.int .i64 (gpU g k), .int .i64 (gpD g k)] 34)).grownBy w5 v.ownBlock ∧ (v.ownBlock = some z ∨ W2.heap.size ≤ z)) := fun w3 hb3 => by
        have q3 : w3.ownsRow w2.heap.size 34 2 v k (gapVals g k) := ownsRow_of_block Q2.out fun z hz => hb3.block z (World.ownsRow.lt Q2.out z hz).2
        have hs3 := hb3.size
        have hZ := HSZ.out
        obtain ⟨v', w5, hrun, hown, hgrow, -, hat⟩ := run_append_own_at (P := Try.prog) (w := w3.alloc (.cells #[.int .i64 (gpU g k), .int .i64 (gpD g k)] 34)) w2.heap.size 66 66 34 i0 (.agg #[.int .i64 0, .int .i64 0]) 2 16 Try.underlying66 HI0.out HY0.out HY1.out HY2.out rfl (by decide) v k (gapVals g k) (World.ownsRow.alloc q3 _) ⟨w3.heap.size, 0, none⟩ 1 1 [.int .i64 (gpU g k), .int .i64 (gpD g k)] rfl
          (World.news_of_block (cs := #[.int .i64 (gpU g k), .int .i64 (gpD g k)]) (World.alloc_heap_new w3 _)) (by intro u hu; simp at hu; rcases hu with rfl | rfl <;> rfl) (by unfold maxLen; omega) (by omega) (by simp; omega)
        obtain ⟨z, cap', rfl⟩ := ownsRow_some hown (by omega)
        refine ⟨z, cap', w5, hrun, hown, hgrow, ?_⟩
        rcases hat with e | e
        · left; rw [← e]; rfl
        · right; simp [Value.ownBlock] at e; omega
      have HF : Hid (∀ (w3 w5 : World) (z cap' : Nat), Below W2.heap.size W2 w3 → w5.ownsRow w2.heap.size 34 2 (.slice (some ⟨z, 0, none⟩) (k + 1) cap') (k + 1) (gapVals g (k + 1)) →
          (w3.alloc (.cells #[.int .i64 (gpU g k), .int .i64 (gpD g k)] 34)).grownBy w5 v.ownBlock → (v.ownBlock = some z ∨ W2.heap.size ≤ z) →
          ∃ S', Owns S (fun k => k = a ∨ k = b) W.heap.size S' (w5.setCell ⟨w.heap.size + 2, 0, none⟩ (.slice (some ⟨z, 0, none⟩) (k + 1) cap')) ∧ Gaps w w2.heap.size (w.heap.size + 1) (w.heap.size + 2) w.heap.size (.slice A g.length c) g (k + 1) S' (w5.setCell ⟨w.heap.size + 2, 0, none⟩ (.slice (some ⟨z, 0, none⟩) (k + 1) cap')) ∧
            Lies (fun k => k < W.heap.size ∧ ¬ S k) W2 (w5.setCell ⟨w.heap.size + 2, 0, none⟩ (.slice (some ⟨z, 0, none⟩) (k + 1) cap'))) := fun w3 w5 z cap' hb3 hown hgrow hz => by
        obtain ⟨hz1, hz2⟩ := HSZ.out
        have hZ := HZ.out
        have hs3 := hb3.size
        have hs5 := hgrow.size
        simp only [World.size_alloc] at hs5
        have hzl := World.ownsRow.lt hown z rfl
        have hvl : ∀ y, v.ownBlock = some y → w2.heap.size ≤ y ∧ y < W2.heap.size := fun y hy => World.ownsRow.lt Q2.out y hy
        have far : ∀ y, y < W2.heap.size → v.ownBlock ≠ some y → w5.heap[y]? = W2.heap[y]? := fun y h1 h2 => by
          rw [hgrow.block y (by simp; omega) (fun e => h2 e.symm), Below.heap_alloc _ _ _ (by omega)]; exact hb3.block y h1
        have farS : ∀ (u : Value) y, y < W2.heap.size → v.ownBlock ≠ some y → y ≠ w.heap.size + 2 → (w5.setCell ⟨w.heap.size + 2, 0, none⟩ u).heap[y]? = W2.heap[y]? := fun u y h1 h2 h3 => by
          rw [Below.heap_setCell _ _ _ _ (by exact h3)]; exact far y h1 h2
        have hnv : ∀ y, y < w2.heap.size → v.ownBlock ≠ some y := fun y hy e => by have := hvl y e; omega
        have q5 : Cell1 w5 (w.heap.size + 2) 66 v := Q1.out.keep (far _ (by omega) HNV.out)
        have hos : w5.os = W2.os := hgrow.os.trans hb3.os
        have hta : w5.tape = W2.tape := hgrow.tape.trans hb3.tape
        have hou : w5.output = W2.output := hgrow.output.trans hb3.output
        refine ⟨fun y => y = w.heap.size + 2 ∨ y = z, ⟨fun y hy => ?_, fun y hy => ?_⟩, ⟨?_, ?_, ?_, ⟨_, q5.set _, ?_, fun y hy => ?_⟩, .inl rfl⟩, ?_⟩
        · rcases hy with rfl | rfl
          · exact .inl HLA.out.own
          · rcases hz with e | e
            · exact .inl (HV3.out _ e)
            · right; right; omega
        · rcases hy with rfl | rfl
          · simp [World.setCell]; omega
          · simp [World.setCell]; exact hzl.2
        · exact HB2W.out.trans ⟨hos, hta, hou, by simp [World.setCell]; omega, fun y hy => farS _ y (by omega) (hnv y (by omega)) (by omega)⟩
        · exact HRES.out.of_block (farS _ _ (by omega) (hnv _ (by omega)) (by omega))
        · exact Q3.out.keep (farS _ _ (by omega) (hnv _ (by omega)) (by omega))
        · exact ownsRow_of_block hown fun y hy => by
            simp [Value.ownBlock] at hy
            rw [← hy]; exact Below.heap_setCell _ _ _ _ (by show z ≠ w.heap.size + 2; omega)
        · simp [Value.ownBlock] at hy; exact .inr hy.symm
        · refine ⟨hos, hta, hou, by simp [World.setCell]; omega, fun y h1 h2 => farS _ y h1 (fun e => h2.2 (HV3.out _ e)) (fun e => h2.2 (e ▸ HLA.out.own))⟩
      gi_wp2
      refine wpIn_region_any (by assumption) ?_
      try (change wpAnyIn _ _ _ _ _ _ _ _ _ (World.drew _))
      refine wpAnyIn_ready (rs := [0, 1, 2]) (by kernel_rfl) (by simp) ?_
      refine AllReadyIn.cons rfl (fun K hK => ?_) (AllReadyIn.cons rfl (fun K hK => ?_) (AllReadyIn.cons rfl (fun K hK => ?_) AllReadyIn.nil))
      · go_simp
        refine hK _ _ ?_
        clear hK K
        try simp only [List.getElem_toArray, List.getElem_cons_succ, List.getElem_cons_zero, Act.put, List.setIfInBounds_toArray, List.set_cons_zero, List.set_cons_succ]
        refine wpAnyIn_ready (rs := [1, 2]) (by kernel_rfl) (by simp) ?_
        refine AllReadyIn.cons rfl (fun K hK => ?_) (AllReadyIn.cons rfl (fun K hK => ?_) AllReadyIn.nil)
        · go_simp
          refine hK _ _ ?_
          clear hK K
          try simp only [List.getElem_toArray, List.getElem_cons_succ, List.getElem_cons_zero, Act.put, List.setIfInBounds_toArray, List.set_cons_zero, List.set_cons_succ]
          refine wpAnyIn_ready (rs := [2]) (by kernel_rfl) (by simp) ?_
          refine AllReadyIn.cons rfl (fun K hK => ?_) AllReadyIn.nil
          go_simp
          refine hK _ _ ?_
          clear hK K
          try simp only [List.getElem_toArray, List.getElem_cons_succ, List.getElem_cons_zero, Act.put, List.setIfInBounds_toArray, List.set_cons_zero, List.set_cons_succ]
          refine wpAnyIn_ready (rs := [3]) (by kernel_rfl) (by simp) ?_
          refine AllReadyIn.cons rfl (fun K hK => ?_) AllReadyIn.nil
          go_simp
          refine ⟨trivial, ?_⟩
          gi_at_call 57
          refine (CallsIn.inRound l (callsIn_wide.2 HGP.out)).mono ?_
          rintro e w3 ⟨rfl, hb3'⟩
          have hb3 : Below W2.heap.size W2 w3 := ⟨hb3'.os, hb3'.tape, hb3'.output, hb3'.size, hb3'.block⟩
          clear hb3'
          obtain ⟨z, cap', w5, hrun, hown, hgrow, hz⟩ := HAP.out w3 hb3
          have d7 : w3.cell? ⟨w.heap.size + 2, 0, none⟩ = some v := (Q1.out.below hb3 Q1.out.lt).cell
          have hl7 : w.heap.size + 1 + 1 < w3.heap.size := (Q1.out.below hb3 Q1.out.lt).lt
          have g5 : Cell1 w5 (w.heap.size + 2) 66 v := (((Q1.out.below hb3 Q1.out.lt).alloc _).keep (hgrow.block _ (by have := Q1.out.lt; have := hb3.size; simp; omega) (fun e => HNV.out e.symm)))
          have x7 := g5.cell
          have f7 := g5.frozen
          have HB3 := Lib.hid hb3
          have HOWN := Lib.hid hown
          have HGR := Lib.hid hgrow
          have HZZ := Lib.hid hz
          clear hb3 hown hgrow hz g5
          dsimp only
          refine hK _ _ ?_
          clear hK K
          try simp only [List.getElem_toArray, List.getElem_cons_succ, List.getElem_cons_zero, Act.put, List.setIfInBounds_toArray, List.set_cons_zero, List.set_cons_succ]
          refine wpAnyIn_ready (rs := [4]) (by kernel_rfl) (by simp) ?_
          refine AllReadyIn.cons rfl (fun K hK => ?_) AllReadyIn.nil
          go_simp
          refine hK _ _ ?_
          clear hK K
          try simp only [List.getElem_toArray, List.getElem_cons_succ, List.getElem_cons_zero, Act.put, List.setIfInBounds_toArray, List.set_cons_zero, List.set_cons_succ]
          refine wpAnyIn_ready (rs := [5]) (by kernel_rfl) (by simp) ?_
          refine AllReadyIn.cons rfl (fun K hK => ?_) AllReadyIn.nil
          refine stepIn_append_run rfl (.tmp 20) (.tmp 24) 66 rfl _ _ _ _ rfl rfl hrun ?_
          refine hK _ _ ?_
          clear hK K
          try simp only [List.getElem_toArray, List.getElem_cons_succ, List.getElem_cons_zero, Act.put, List.setIfInBounds_toArray, List.set_cons_zero, List.set_cons_succ]
          refine wpAnyIn_ready (rs := [6]) (by kernel_rfl) (by simp) ?_
          refine AllReadyIn.cons rfl (fun K hK => ?_) AllReadyIn.nil
          go_simp
          refine hK _ _ ?_
          clear hK K
          try simp only [List.getElem_toArray, List.getElem_cons_succ, List.getElem_cons_zero, Act.put, List.setIfInBounds_toArray, List.set_cons_zero, List.set_cons_succ]
          refine wpAnyIn_done (by kernel_rfl) ?_ _
          gi_wp2
          exact HF.out w3 w5 z cap' HB3.out HOWN.out HGR.out HZZ.out
        · go_simp
          refine hK _ _ ?_
          clear hK K
          try simp only [List.getElem_toArray, List.getElem_cons_succ, List.getElem_cons_zero, Act.put, List.setIfInBounds_toArray, List.set_cons_zero, List.set_cons_succ]
          refine wpAnyIn_ready (rs := [1]) (by kernel_rfl) (by simp) ?_
          refine AllReadyIn.cons rfl (fun K hK => ?_) AllReadyIn.nil
          go_simp
          refine hK _ _ ?_
          clear hK K
          try simp only [List.getElem_toArray, List.getElem_cons_succ, List.getElem_cons_zero, Act.put, List.setIfInBounds_toArray, List.set_cons_zero, List.set_cons_succ]
          refine wpAnyIn_ready (rs := [3]) (by kernel_rfl) (by simp) ?_
          refine AllReadyIn.cons rfl (fun K hK => ?_) AllReadyIn.nil
          go_simp
          refine ⟨trivial, ?_⟩
          gi_at_call 57
          refine (CallsIn.inRound l (callsIn_wide.2 HGP.out)).mono ?_
          rintro e w3 ⟨rfl, hb3'⟩
          have hb3 : Below W2.heap.size W2 w3 := ⟨hb3'.os, hb3'.tape, hb3'.output, hb3'.size, hb3'.block⟩
          clear hb3'
          obtain ⟨z, cap', w5, hrun, hown, hgrow, hz⟩ := HAP.out w3 hb3
          have d7 : w3.cell? ⟨w.heap.size + 2, 0, none⟩ = some v := (Q1.out.below hb3 Q1.out.lt).cell
          have hl7 : w.heap.size + 1 + 1 < w3.heap.size := (Q1.out.below hb3 Q1.out.lt).lt
          have g5 : Cell1 w5 (w.heap.size + 2) 66 v := (((Q1.out.below hb3 Q1.out.lt).alloc _).keep (hgrow.block _ (by have := Q1.out.lt; have := hb3.size; simp; omega) (fun e => HNV.out e.symm)))
          have x7 := g5.cell
          have f7 := g5.frozen
          have HB3 := Lib.hid hb3
          have HOWN := Lib.hid hown
          have HGR := Lib.hid hgrow
          have HZZ := Lib.hid hz
          clear hb3 hown hgrow hz g5
          dsimp only
          refine hK _ _ ?_
          clear hK K
          try simp only [List.getElem_toArray, List.getElem_cons_succ, List.getElem_cons_zero, Act.put, List.setIfInBounds_toArray, List.set_cons_zero, List.set_cons_succ]
          refine wpAnyIn_ready (rs := [4]) (by kernel_rfl) (by simp) ?_
          refine AllReadyIn.cons rfl (fun K hK => ?_) AllReadyIn.nil
          go_simp
          refine hK _ _ ?_
          clear hK K
          try simp only [List.getElem_toArray, List.getElem_cons_succ, List.getElem_cons_zero, Act.put, List.setIfInBounds_toArray, List.set_cons_zero, List.set_cons_succ]
          refine wpAnyIn_ready (rs := [5]) (by kernel_rfl) (by simp) ?_
          refine AllReadyIn.cons rfl (fun K hK => ?_) AllReadyIn.nil
          refine stepIn_append_run rfl (.tmp 20) (.tmp 24) 66 rfl _ _ _ _ rfl rfl hrun ?_
          refine hK _ _ ?_
          clear hK K
          try simp only [List.getElem_toArray, List.getElem_cons_succ, List.getElem_cons_zero, Act.put, List.setIfInBounds_toArray, List.set_cons_zero, List.set_cons_succ]
          refine wpAnyIn_ready (rs := [6]) (by kernel_rfl) (by simp) ?_
          refine AllReadyIn.cons rfl (fun K hK => ?_) AllReadyIn.nil
          go_simp
          refine hK _ _ ?_
          clear hK K
          try simp only [List.getElem_toArray, List.getElem_cons_succ, List.getElem_cons_zero, Act.put, List.setIfInBounds_toArray, List.set_cons_zero, List.set_cons_succ]
          refine wpAnyIn_done (by kernel_rfl) ?_ _
          gi_wp2
          exact HF.out w3 w5 z cap' HB3.out HOWN.out HGR.out HZZ.out
      · go_simp
        refine hK _ _ ?_
        clear hK K
        try simp only [List.getElem_toArray, List.getElem_cons_succ, List.getElem_cons_zero, Act.put, List.setIfInBounds_toArray, List.set_cons_zero, List.set_cons_succ]
        refine wpAnyIn_ready (rs := [0, 2]) (by kernel_rfl) (by simp) ?_
        refine AllReadyIn.cons rfl (fun K hK => ?_) (AllReadyIn.cons rfl (fun K hK => ?_) AllReadyIn.nil)
        · go_simp
          refine hK _ _ ?_
          clear hK K
          try simp only [List.getElem_toArray, List.getElem_cons_succ, List.getElem_cons_zero, Act.put, List.setIfInBounds_toArray, List.set_cons_zero, List.set_cons_succ]
          refine wpAnyIn_ready (rs := [2]) (by kernel_rfl) (by simp) ?_
          refine AllReadyIn.cons rfl (fun K hK => ?_) AllReadyIn.nil
          go_simp
          refine hK _ _ ?_
          clear hK K
          try simp only [List.getElem_toArray, List.getElem_cons_succ, List.getElem_cons_zero, Act.put, List.setIfInBounds_toArray, List.set_cons_zero, List.set_cons_succ]
          refine wpAnyIn_ready (rs := [3]) (by kernel_rfl) (by simp) ?_
          refine AllReadyIn.cons rfl (fun K hK => ?_) AllReadyIn.nil
          go_simp
          refine ⟨trivial, ?_⟩
          gi_at_call 57
          refine (CallsIn.inRound l (callsIn_wide.2 HGP.out)).mono ?_
          rintro e w3 ⟨rfl, hb3'⟩
          have hb3 : Below W2.heap.size W2 w3 := ⟨hb3'.os, hb3'.tape, hb3'.output, hb3'.size, hb3'.block⟩
          clear hb3'
          obtain ⟨z, cap', w5, hrun, hown, hgrow, hz⟩ := HAP.out w3 hb3
          have d7 : w3.cell? ⟨w.heap.size + 2, 0, none⟩ = some v := (Q1.out.below hb3 Q1.out.lt).cell
          have hl7 : w.heap.size + 1 + 1 < w3.heap.size := (Q1.out.below hb3 Q1.out.lt).lt
          have g5 : Cell1 w5 (w.heap.size + 2) 66 v := (((Q1.out.below hb3 Q1.out.lt).alloc _).keep (hgrow.block _ (by have := Q1.out.lt; have := hb3.size; simp; omega) (fun e => HNV.out e.symm)))
          have x7 := g5.cell
          have f7 := g5.frozen
          have HB3 := Lib.hid hb3
          have HOWN := Lib.hid hown
          have HGR := Lib.hid hgrow
          have HZZ := Lib.hid hz
          clear hb3 hown hgrow hz g5
          dsimp only
          refine hK _ _ ?_
          clear hK K
          try simp only [List.getElem_toArray, List.getElem_cons_succ, List.getElem_cons_zero, Act.put, List.setIfInBounds_toArray, List.set_cons_zero, List.set_cons_succ]
          refine wpAnyIn_ready (rs := [4]) (by kernel_rfl) (by simp) ?_
          refine AllReadyIn.cons rfl (fun K hK => ?_) AllReadyIn.nil
          go_simp
          refine hK _ _ ?_
          clear hK K
          try simp only [List.getElem_toArray, List.getElem_cons_succ, List.getElem_cons_zero, Act.put, List.setIfInBounds_toArray, List.set_cons_zero, List.set_cons_succ]
          refine wpAnyIn_ready (rs := [5]) (by kernel_rfl) (by simp) ?_
          refine AllReadyIn.cons rfl (fun K hK => ?_) AllReadyIn.nil
          refine stepIn_append_run rfl (.tmp 20) (.tmp 24) 66 rfl _ _ _ _ rfl rfl hrun ?_
          refine hK _ _ ?_
          clear hK K
          try simp only [List.getElem_toArray, List.getElem_cons_succ, List.getElem_cons_zero, Act.put, List.setIfInBounds_toArray, List.set_cons_zero, List.set_cons_succ]
          refine wpAnyIn_ready (rs := [6]) (by kernel_rfl) (by simp) ?_
          refine AllReadyIn.cons rfl (fun K hK => ?_) AllReadyIn.nil
          go_simp
          refine hK _ _ ?_
          clear hK K
          try simp only [List.getElem_toArray, List.getElem_cons_succ, List.getElem_cons_zero, Act.put, List.setIfInBounds_toArray, List.set_cons_zero, List.set_cons_succ]
          refine wpAnyIn_done (by kernel_rfl) ?_ _
          gi_wp2
          exact HF.out w3 w5 z cap' HB3.out HOWN.out HGR.out HZZ.out
        · go_simp
          refine hK _ _ ?_
          clear hK K
          try simp only [List.getElem_toArray, List.getElem_cons_succ, List.getElem_cons_zero, Act.put, List.setIfInBounds_toArray, List.set_cons_zero, List.set_cons_succ]
          refine wpAnyIn_ready (rs := [0, 3]) (by kernel_rfl) (by simp) ?_
          refine AllReadyIn.cons rfl (fun K hK => ?_) (AllReadyIn.cons rfl (fun K hK => ?_) AllReadyIn.nil)
          · go_simp
            refine hK _ _ ?_
            clear hK K
            try simp only [List.getElem_toArray, List.getElem_cons_succ, List.getElem_cons_zero, Act.put, List.setIfInBounds_toArray, List.set_cons_zero, List.set_cons_succ]
            refine wpAnyIn_ready (rs := [3]) (by kernel_rfl) (by simp) ?_
            refine AllReadyIn.cons rfl (fun K hK => ?_) AllReadyIn.nil
            go_simp
            refine ⟨trivial, ?_⟩
            gi_at_call 57
            refine (CallsIn.inRound l (callsIn_wide.2 HGP.out)).mono ?_
            rintro e w3 ⟨rfl, hb3'⟩
            have hb3 : Below W2.heap.size W2 w3 := ⟨hb3'.os, hb3'.tape, hb3'.output, hb3'.size, hb3'.block⟩
            clear hb3'
            obtain ⟨z, cap', w5, hrun, hown, hgrow, hz⟩ := HAP.out w3 hb3
            have d7 : w3.cell? ⟨w.heap.size + 2, 0, none⟩ = some v := (Q1.out.below hb3 Q1.out.lt).cell
            have hl7 : w.heap.size + 1 + 1 < w3.heap.size := (Q1.out.below hb3 Q1.out.lt).lt
            have g5 : Cell1 w5 (w.heap.size + 2) 66 v := (((Q1.out.below hb3 Q1.out.lt).alloc _).keep (hgrow.block _ (by have := Q1.out.lt; have := hb3.size; simp; omega) (fun e => HNV.out e.symm)))
            have x7 := g5.cell
            have f7 := g5.frozen
            have HB3 := Lib.hid hb3
            have HOWN := Lib.hid hown
            have HGR := Lib.hid hgrow
            have HZZ := Lib.hid hz
            clear hb3 hown hgrow hz g5
            dsimp only
            refine hK _ _ ?_
            clear hK K
            try simp only [List.getElem_toArray, List.getElem_cons_succ, List.getElem_cons_zero, Act.put, List.setIfInBounds_toArray, List.set_cons_zero, List.set_cons_succ]
            refine wpAnyIn_ready (rs := [4]) (by kernel_rfl) (by simp) ?_
            refine AllReadyIn.cons rfl (fun K hK => ?_) AllReadyIn.nil
            go_simp
            refine hK _ _ ?_
            clear hK K
            try simp only [List.getElem_toArray, List.getElem_cons_succ, List.getElem_cons_zero, Act.put, List.setIfInBounds_toArray, List.set_cons_zero, List.set_cons_succ]
            refine wpAnyIn_ready (rs := [5]) (by kernel_rfl) (by simp) ?_
            refine AllReadyIn.cons rfl (fun K hK => ?_) AllReadyIn.nil
            refine stepIn_append_run rfl (.tmp 20) (.tmp 24) 66 rfl _ _ _ _ rfl rfl hrun ?_
            refine hK _ _ ?_
            clear hK K
            try simp only [List.getElem_toArray, List.getElem_cons_succ, List.getElem_cons_zero, Act.put, List.setIfInBounds_toArray, List.set_cons_zero, List.set_cons_succ]
            refine wpAnyIn_ready (rs := [6]) (by kernel_rfl) (by simp) ?_
            refine AllReadyIn.cons rfl (fun K hK => ?_) AllReadyIn.nil
            go_simp
            refine hK _ _ ?_
            clear hK K
            try simp only [List.getElem_toArray, List.getElem_cons_succ, List.getElem_cons_zero, Act.put, List.setIfInBounds_toArray, List.set_cons_zero, List.set_cons_succ]
            refine wpAnyIn_done (by kernel_rfl) ?_ _
            gi_wp2
            exact HF.out w3 w5 z cap' HB3.out HOWN.out HGR.out HZZ.out
          · go_simp
            refine ⟨trivial, ?_⟩
            gi_at_call 57
            refine (CallsIn.inRound l (callsIn_wide.2 HGP.out)).mono ?_
            rintro e w3 ⟨rfl, hb3'⟩
            have hb3 : Below W2.heap.size W2 w3 := ⟨hb3'.os, hb3'.tape, hb3'.output, hb3'.size, hb3'.block⟩
            clear hb3'
            obtain ⟨z, cap', w5, hrun, hown, hgrow, hz⟩ := HAP.out w3 hb3
            have d7 : w3.cell? ⟨w.heap.size + 2, 0, none⟩ = some v := (Q1.out.below hb3 Q1.out.lt).cell
            have hl7 : w.heap.size + 1 + 1 < w3.heap.size := (Q1.out.below hb3 Q1.out.lt).lt
            have g5 : Cell1 w5 (w.heap.size + 2) 66 v := (((Q1.out.below hb3 Q1.out.lt).alloc _).keep (hgrow.block _ (by have := Q1.out.lt; have := hb3.size; simp; omega) (fun e => HNV.out e.symm)))
            have x7 := g5.cell
            have f7 := g5.frozen
            have HB3 := Lib.hid hb3
            have HOWN := Lib.hid hown
            have HGR := Lib.hid hgrow
            have HZZ := Lib.hid hz
            clear hb3 hown hgrow hz g5
            dsimp only
            refine hK _ _ ?_
            clear hK K
            try simp only [List.getElem_toArray, List.getElem_cons_succ, List.getElem_cons_zero, Act.put, List.setIfInBounds_toArray, List.set_cons_zero, List.set_cons_succ]
            refine wpAnyIn_ready (rs := [0, 4]) (by kernel_rfl) (by simp) ?_
            refine AllReadyIn.cons rfl (fun K hK => ?_) (AllReadyIn.cons rfl (fun K hK => ?_) AllReadyIn.nil)
            · go_simp
              refine hK _ _ ?_
              clear hK K
              try simp only [List.getElem_toArray, List.getElem_cons_succ, List.getElem_cons_zero, Act.put, List.setIfInBounds_toArray, List.set_cons_zero, List.set_cons_succ]
              refine wpAnyIn_ready (rs := [4]) (by kernel_rfl) (by simp) ?_
              refine AllReadyIn.cons rfl (fun K hK => ?_) AllReadyIn.nil
              go_simp
              refine hK _ _ ?_
              clear hK K
              try simp only [List.getElem_toArray, List.getElem_cons_succ, List.getElem_cons_zero, Act.put, List.setIfInBounds_toArray, List.set_cons_zero, List.set_cons_succ]
              refine wpAnyIn_ready (rs := [5]) (by kernel_rfl) (by simp) ?_
              refine AllReadyIn.cons rfl (fun K hK => ?_) AllReadyIn.nil
              refine stepIn_append_run rfl (.tmp 20) (.tmp 24) 66 rfl _ _ _ _ rfl rfl hrun ?_
              refine hK _ _ ?_
              clear hK K
              try simp only [List.getElem_toArray, List.getElem_cons_succ, List.getElem_cons_zero, Act.put, List.setIfInBounds_toArray, List.set_cons_zero, List.set_cons_succ]
              refine wpAnyIn_ready (rs := [6]) (by kernel_rfl) (by simp) ?_
              refine AllReadyIn.cons rfl (fun K hK => ?_) AllReadyIn.nil
              go_simp
              refine hK _ _ ?_
              clear hK K
              try simp only [List.getElem_toArray, List.getElem_cons_succ, List.getElem_cons_zero, Act.put, List.setIfInBounds_toArray, List.set_cons_zero, List.set_cons_succ]
              refine wpAnyIn_done (by kernel_rfl) ?_ _
              gi_wp2
              exact HF.out w3 w5 z cap' HB3.out HOWN.out HGR.out HZZ.out
            · go_simp
              refine hK _ _ ?_
              clear hK K
              try simp only [List.getElem_toArray, List.getElem_cons_succ, List.getElem_cons_zero, Act.put, List.setIfInBounds_toArray, List.set_cons_zero, List.set_cons_succ]
              refine wpAnyIn_ready (rs := [0]) (by kernel_rfl) (by simp) ?_
              refine AllReadyIn.cons rfl (fun K hK => ?_) AllReadyIn.nil
              go_simp
              refine hK _ _ ?_
              clear hK K
              try simp only [List.getElem_toArray, List.getElem_cons_succ, List.getElem_cons_zero, Act.put, List.setIfInBounds_toArray, List.set_cons_zero, List.set_cons_succ]
              refine wpAnyIn_ready (rs := [5]) (by kernel_rfl) (by simp) ?_
              refine AllReadyIn.cons rfl (fun K hK => ?_) AllReadyIn.nil
              refine stepIn_append_run rfl (.tmp 20) (.tmp 24) 66 rfl _ _ _ _ rfl rfl hrun ?_
              refine hK _ _ ?_
              clear hK K
              try simp only [List.getElem_toArray, List.getElem_cons_succ, List.getElem_cons_zero, Act.put, List.setIfInBounds_toArray, List.set_cons_zero, List.set_cons_succ]
              refine wpAnyIn_ready (rs := [6]) (by kernel_rfl) (by simp) ?_
              refine AllReadyIn.cons rfl (fun K hK => ?_) AllReadyIn.nil
              go_simp
              refine hK _ _ ?_
              clear hK K
              try simp only [List.getElem_toArray, List.getElem_cons_succ, List.getElem_cons_zero, Act.put, List.setIfInBounds_toArray, List.set_cons_zero, List.set_cons_succ]
              refine wpAnyIn_done (by kernel_rfl) ?_ _
              gi_wp2
              exact HF.out w3 w5 z cap' HB3.out HOWN.out HGR.out HZZ.out
      · go_simp
        refine hK _ _ ?_
        clear hK K
        try simp only [List.getElem_toArray, List.getElem_cons_succ, List.getElem_cons_zero, Act.put, List.setIfInBounds_toArray, List.set_cons_zero, List.set_cons_succ]
        refine wpAnyIn_ready (rs := [0, 1]) (by kernel_rfl) (by simp) ?_
        refine AllReadyIn.cons rfl (fun K hK => ?_) (AllReadyIn.cons rfl (fun K hK => ?_) AllReadyIn.nil)
        · go_simp
          refine hK _ _ ?_
          clear hK K
          try simp only [List.getElem_toArray, List.getElem_cons_succ, List.getElem_cons_zero, Act.put, List.setIfInBounds_toArray, List.set_cons_zero, List.set_cons_succ]
          refine wpAnyIn_ready (rs := [1]) (by kernel_rfl) (by simp) ?_
          refine AllReadyIn.cons rfl (fun K hK => ?_) AllReadyIn.nil
          go_simp
          refine hK _ _ ?_
          clear hK K
          try simp only [List.getElem_toArray, List.getElem_cons_succ, List.getElem_cons_zero, Act.put, List.setIfInBounds_toArray, List.set_cons_zero, List.set_cons_succ]
          refine wpAnyIn_ready (rs := [3]) (by kernel_rfl) (by simp) ?_
          refine AllReadyIn.cons rfl (fun K hK => ?_) AllReadyIn.nil
          go_simp
          refine ⟨trivial, ?_⟩
          gi_at_call 57
          refine (CallsIn.inRound l (callsIn_wide.2 HGP.out)).mono ?_
          rintro e w3 ⟨rfl, hb3'⟩
          have hb3 : Below W2.heap.size W2 w3 := ⟨hb3'.os, hb3'.tape, hb3'.output, hb3'.size, hb3'.block⟩
          clear hb3'
          obtain ⟨z, cap', w5, hrun, hown, hgrow, hz⟩ := HAP.out w3 hb3
          have d7 : w3.cell? ⟨w.heap.size + 2, 0, none⟩ = some v := (Q1.out.below hb3 Q1.out.lt).cell
          have hl7 : w.heap.size + 1 + 1 < w3.heap.size := (Q1.out.below hb3 Q1.out.lt).lt
          have g5 : Cell1 w5 (w.heap.size + 2) 66 v := (((Q1.out.below hb3 Q1.out.lt).alloc _).keep (hgrow.block _ (by have := Q1.out.lt; have := hb3.size; simp; omega) (fun e => HNV.out e.symm)))
          have x7 := g5.cell
          have f7 := g5.frozen
          have HB3 := Lib.hid hb3
          have HOWN := Lib.hid hown
          have HGR := Lib.hid hgrow
          have HZZ := Lib.hid hz
          clear hb3 hown hgrow hz g5
          dsimp only
          refine hK _ _ ?_
          clear hK K
          try simp only [List.getElem_toArray, List.getElem_cons_succ, List.getElem_cons_zero, Act.put, List.setIfInBounds_toArray, List.set_cons_zero, List.set_cons_succ]
          refine wpAnyIn_ready (rs := [4]) (by kernel_rfl) (by simp) ?_
          refine AllReadyIn.cons rfl (fun K hK => ?_) AllReadyIn.nil
          go_simp
          refine hK _ _ ?_
          clear hK K
          try simp only [List.getElem_toArray, List.getElem_cons_succ, List.getElem_cons_zero, Act.put, List.setIfInBounds_toArray, List.set_cons_zero, List.set_cons_succ]
          refine wpAnyIn_ready (rs := [5]) (by kernel_rfl) (by simp) ?_
          refine AllReadyIn.cons rfl (fun K hK => ?_) AllReadyIn.nil
          refine stepIn_append_run rfl (.tmp 20) (.tmp 24) 66 rfl _ _ _ _ rfl rfl hrun ?_
          refine hK _ _ ?_
          clear hK K
          try simp only [List.getElem_toArray, List.getElem_cons_succ, List.getElem_cons_zero, Act.put, List.setIfInBounds_toArray, List.set_cons_zero, List.set_cons_succ]
          refine wpAnyIn_ready (rs := [6]) (by kernel_rfl) (by simp) ?_
          refine AllReadyIn.cons rfl (fun K hK => ?_) AllReadyIn.nil
          go_simp
          refine hK _ _ ?_
          clear hK K
          try simp only [List.getElem_toArray, List.getElem_cons_succ, List.getElem_cons_zero, Act.put, List.setIfInBounds_toArray, List.set_cons_zero, List.set_cons_succ]
          refine wpAnyIn_done (by kernel_rfl) ?_ _
          gi_wp2
          exact HF.out w3 w5 z cap' HB3.out HOWN.out HGR.out HZZ.out
        · go_simp
          refine hK _ _ ?_
          clear hK K
          try simp only [List.getElem_toArray, List.getElem_cons_succ, List.getElem_cons_zero, Act.put, List.setIfInBounds_toArray, List.set_cons_zero, List.set_cons_succ]
          refine wpAnyIn_ready (rs := [0, 3]) (by kernel_rfl) (by simp) ?_
          refine AllReadyIn.cons rfl (fun K hK => ?_) (AllReadyIn.cons rfl (fun K hK => ?_) AllReadyIn.nil)
          · go_simp
            refine hK _ _ ?_
            clear hK K
            try simp only [List.getElem_toArray, List.getElem_cons_succ, List.getElem_cons_zero, Act.put, List.setIfInBounds_toArray, List.set_cons_zero, List.set_cons_succ]
            refine wpAnyIn_ready (rs := [3]) (by kernel_rfl) (by simp) ?_
            refine AllReadyIn.cons rfl (fun K hK => ?_) AllReadyIn.nil
            go_simp
            refine ⟨trivial, ?_⟩
            gi_at_call 57
            refine (CallsIn.inRound l (callsIn_wide.2 HGP.out)).mono ?_
            rintro e w3 ⟨rfl, hb3'⟩
            have hb3 : Below W2.heap.size W2 w3 := ⟨hb3'.os, hb3'.tape, hb3'.output, hb3'.size, hb3'.block⟩
            clear hb3'
            obtain ⟨z, cap', w5, hrun, hown, hgrow, hz⟩ := HAP.out w3 hb3
            have d7 : w3.cell? ⟨w.heap.size + 2, 0, none⟩ = some v := (Q1.out.below hb3 Q1.out.lt).cell
            have hl7 : w.heap.size + 1 + 1 < w3.heap.size := (Q1.out.below hb3 Q1.out.lt).lt
            have g5 : Cell1 w5 (w.heap.size + 2) 66 v := (((Q1.out.below hb3 Q1.out.lt).alloc _).keep (hgrow.block _ (by have := Q1.out.lt; have := hb3.size; simp; omega) (fun e => HNV.out e.symm)))
            have x7 := g5.cell
            have f7 := g5.frozen
            have HB3 := Lib.hid hb3
            have HOWN := Lib.hid hown
            have HGR := Lib.hid hgrow
            have HZZ := Lib.hid hz
            clear hb3 hown hgrow hz g5
            dsimp only
            refine hK _ _ ?_
            clear hK K
            try simp only [List.getElem_toArray, List.getElem_cons_succ, List.getElem_cons_zero, Act.put, List.setIfInBounds_toArray, List.set_cons_zero, List.set_cons_succ]
            refine wpAnyIn_ready (rs := [4]) (by kernel_rfl) (by simp) ?_
            refine AllReadyIn.cons rfl (fun K hK => ?_) AllReadyIn.nil
            go_simp
            refine hK _ _ ?_
            clear hK K
            try simp only [List.getElem_toArray, List.getElem_cons_succ, List.getElem_cons_zero, Act.put, List.setIfInBounds_toArray, List.set_cons_zero, List.set_cons_succ]
            refine wpAnyIn_ready (rs := [5]) (by kernel_rfl) (by simp) ?_
            refine AllReadyIn.cons rfl (fun K hK => ?_) AllReadyIn.nil
            refine stepIn_append_run rfl (.tmp 20) (.tmp 24) 66 rfl _ _ _ _ rfl rfl hrun ?_
            refine hK _ _ ?_
            clear hK K
            try simp only [List.getElem_toArray, List.getElem_cons_succ, List.getElem_cons_zero, Act.put, List.setIfInBounds_toArray, List.set_cons_zero, List.set_cons_succ]
            refine wpAnyIn_ready (rs := [6]) (by kernel_rfl) (by simp) ?_
            refine AllReadyIn.cons rfl (fun K hK => ?_) AllReadyIn.nil
            go_simp
            refine hK _ _ ?_
            clear hK K
            try simp only [List.getElem_toArray, List.getElem_cons_succ, List.getElem_cons_zero, Act.put, List.setIfInBounds_toArray, List.set_cons_zero, List.set_cons_succ]
            refine wpAnyIn_done (by kernel_rfl) ?_ _
            gi_wp2
            exact HF.out w3 w5 z cap' HB3.out HOWN.out HGR.out HZZ.out
          · go_simp
            refine ⟨trivial, ?_⟩
            gi_at_call 57
            refine (CallsIn.inRound l (callsIn_wide.2 HGP.out)).mono ?_
            rintro e w3 ⟨rfl, hb3'⟩
            have hb3 : Below W2.heap.size W2 w3 := ⟨hb3'.os, hb3'.tape, hb3'.output, hb3'.size, hb3'.block⟩
            clear hb3'
            obtain ⟨z, cap', w5, hrun, hown, hgrow, hz⟩ := HAP.out w3 hb3
            have d7 : w3.cell? ⟨w.heap.size + 2, 0, none⟩ = some v := (Q1.out.below hb3 Q1.out.lt).cell
            have hl7 : w.heap.size + 1 + 1 < w3.heap.size := (Q1.out.below hb3 Q1.out.lt).lt
            have g5 : Cell1 w5 (w.heap.size + 2) 66 v := (((Q1.out.below hb3 Q1.out.lt).alloc _).keep (hgrow.block _ (by have := Q1.out.lt; have := hb3.size; simp; omega) (fun e => HNV.out e.symm)))
            have x7 := g5.cell
            have f7 := g5.frozen
            have HB3 := Lib.hid hb3
            have HOWN := Lib.hid hown
            have HGR := Lib.hid hgrow
            have HZZ := Lib.hid hz
            clear hb3 hown hgrow hz g5
            dsimp only
            refine hK _ _ ?_
            clear hK K
            try simp only [List.getElem_toArray, List.getElem_cons_succ, List.getElem_cons_zero, Act.put, List.setIfInBounds_toArray, List.set_cons_zero, List.set_cons_succ]
            refine wpAnyIn_ready (rs := [0, 4]) (by kernel_rfl) (by simp) ?_
            refine AllReadyIn.cons rfl (fun K hK => ?_) (AllReadyIn.cons rfl (fun K hK => ?_) AllReadyIn.nil)
            · go_simp
              refine hK _ _ ?_
              clear hK K
              try simp only [List.getElem_toArray, List.getElem_cons_succ, List.getElem_cons_zero, Act.put, List.setIfInBounds_toArray, List.set_cons_zero, List.set_cons_succ]
              refine wpAnyIn_ready (rs := [4]) (by kernel_rfl) (by simp) ?_
              refine AllReadyIn.cons rfl (fun K hK => ?_) AllReadyIn.nil
              go_simp
              refine hK _ _ ?_
              clear hK K
              try simp only [List.getElem_toArray, List.getElem_cons_succ, List.getElem_cons_zero, Act.put, List.setIfInBounds_toArray, List.set_cons_zero, List.set_cons_succ]
              refine wpAnyIn_ready (rs := [5]) (by kernel_rfl) (by simp) ?_
              refine AllReadyIn.cons rfl (fun K hK => ?_) AllReadyIn.nil
              refine stepIn_append_run rfl (.tmp 20) (.tmp 24) 66 rfl _ _ _ _ rfl rfl hrun ?_
              refine hK _ _ ?_
              clear hK K
              try simp only [List.getElem_toArray, List.getElem_cons_succ, List.getElem_cons_zero, Act.put, List.setIfInBounds_toArray, List.set_cons_zero, List.set_cons_succ]
              refine wpAnyIn_ready (rs := [6]) (by kernel_rfl) (by simp) ?_
              refine AllReadyIn.cons rfl (fun K hK => ?_) AllReadyIn.nil
              go_simp
              refine hK _ _ ?_
              clear hK K
              try simp only [List.getElem_toArray, List.getElem_cons_succ, List.getElem_cons_zero, Act.put, List.setIfInBounds_toArray, List.set_cons_zero, List.set_cons_succ]
              refine wpAnyIn_done (by kernel_rfl) ?_ _
              gi_wp2
              exact HF.out w3 w5 z cap' HB3.out HOWN.out HGR.out HZZ.out
            · go_simp
              refine hK _ _ ?_
              clear hK K
              try simp only [List.getElem_toArray, List.getElem_cons_succ, List.getElem_cons_zero, Act.put, List.setIfInBounds_toArray, List.set_cons_zero, List.set_cons_succ]
              refine wpAnyIn_ready (rs := [0]) (by kernel_rfl) (by simp) ?_
              refine AllReadyIn.cons rfl (fun K hK => ?_) AllReadyIn.nil
              go_simp
              refine hK _ _ ?_
              clear hK K
              try simp only [List.getElem_toArray, List.getElem_cons_succ, List.getElem_cons_zero, Act.put, List.setIfInBounds_toArray, List.set_cons_zero, List.set_cons_succ]
              refine wpAnyIn_ready (rs := [5]) (by kernel_rfl) (by simp) ?_
              refine AllReadyIn.cons rfl (fun K hK => ?_) AllReadyIn.nil
              refine stepIn_append_run rfl (.tmp 20) (.tmp 24) 66 rfl _ _ _ _ rfl rfl hrun ?_
              refine hK _ _ ?_
              clear hK K
              try simp only [List.getElem_toArray, List.getElem_cons_succ, List.getElem_cons_zero, Act.put, List.setIfInBounds_toArray, List.set_cons_zero, List.set_cons_succ]
              refine wpAnyIn_ready (rs := [6]) (by kernel_rfl) (by simp) ?_
              refine AllReadyIn.cons rfl (fun K hK => ?_) AllReadyIn.nil
              go_simp
              refine hK _ _ ?_
              clear hK K
              try simp only [List.getElem_toArray, List.getElem_cons_succ, List.getElem_cons_zero, Act.put, List.setIfInBounds_toArray, List.set_cons_zero, List.set_cons_succ]
              refine wpAnyIn_done (by kernel_rfl) ?_ _
              gi_wp2
              exact HF.out w3 w5 z cap' HB3.out HOWN.out HGR.out HZZ.out

/-- what is asked of the program's functions on learning -/
theorem impl11 : Impl11 where
  learn := fun A c g s _ hl w h => learned_impl A c g s hl w h
  gap := fun A c g s _ hl w h => gap_impl A c g s hl w h
  least := fun A c g s _ hl w h => least_impl A c g s hl w h

end Go.Proofs.Ytakkdpjgdmngkaa
