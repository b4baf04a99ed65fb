/- Texts in one: ImplP, Impl4. -/
import Derived.Test.YtlmaeadbomnhlaaGreatMN
import Derived.Test.YtlmaeadbomnhlaaGreatMK
import Derived.Test.YtlmaeadbomnhlaaGreatMI
import Derived.Test.YtlmaeadbomnhlaaGreatMF
namespace Go.Proofs.YtlmaeadbomnhlaaGreat
set_option linter.unusedSimpArgs false
set_option linter.unusedVariables false
open Go.RowKit Go.Shelf
attribute [local go_sem] Oper.semAt_some
theorem partsIter (m n b1 b2 : Nat) (hm : m ≤ 4) (hn : n ≤ 4) (w : World) (h1 : Cell1 w b1 3 (.int .i64 (m : Nat))) (h2 : Cell1 w b2 3 (.int .i64 (n : Nat))) :
    Iter Tryz.prog 59 #[.pointer (some ⟨b1, 0, none⟩), .pointer (some ⟨b2, 0, none⟩)] (fun x : Nat × Nat => #[.int .i64 (x.1 : Nat), .int .i64 (x.2 : Nat)]) (parts m n) w := by
  by_cases h : m ≤ n
  · exact partsLe m n b1 b2 hm hn h w h1 h2
  · exact partsGt m n b1 b2 hm hn h w h1 h2
theorem SolOwn.none_ {w w' : World} {x : Value} (hx : x = .tuple #[.agg #[.int .i64 0, .int .i64 0, .slice none 0 0, .slice none 0 0], .bool false]) (hb : Below w.heap.size w w') : SolOwn w false 0 0 [] [] (.returned x) w' :=
  ⟨none, 0, none, 0, by rw [hx]; rfl, hb, fun h => absurd h (by simp), fun h => absurd h (by simp), fun h => absurd h (by simp)⟩
set_option maxHeartbeats 1000000 in
theorem sol_un (T : Option Addr) (c : Nat) (g : List (List Int)) (hl : g.length ≤ maxLen) (w : World) (h : Rows2 w (· < w.heap.size) T g) (hs : solB' g = false) :
    Calls Tryz.prog 24 #[.slice T g.length c] w (SolOwn w false 0 0 [] []) := by
  have HS : Hid (∀ w', Below w.heap.size w w' → Calls Tryz.prog 43 #[.slice T g.length c] w' (Same (.bool false) w')) := fun w' hb => by
    have := solvedOkI T c g _ hl w' (keepRows hb h); rw [hs] at this; exact this
  clear h hl hs
  go_enter Tryz.func24, Tryz.ntmps24
  go_wp2_with (go_at_call 43; refine (HS.out _ (by repeat (first | exact Below.refl _ _ | assumption | exact bel1 (by assumption) | exact bel2 (by assumption) | exact bel3 (by assumption) | exact bel4 (by assumption) | refine Below.drew ?_ | refine below_drewN ?_ _ | refine Below.setCell ?_ (by first | (simp; done) | (simp; omega)) _ | refine Below.alloc ?_ (by first | (simp; done) | (simp; omega)) _))).mono ?_; rintro e w1 ⟨rfl, rfl⟩)
  refine bodyPost_ret (v := .tuple #[.agg #[.int .i64 0, .int .i64 0, .slice none 0 0, .slice none 0 0], .bool false]) (by simp [results, Tryz.results24, go_sem]) rfl (SolOwn.none_ rfl ?_)
  exact (((Below.refl _ _).alloc (Nat.le_refl _) _).alloc (by simp) _).alloc (by simp; omega) _
theorem noSol {g : List (List Int)} (hs : solB' g = false) (n : Nat) : hitN g n = false := by
  rw [← Bool.not_eq_true]; intro hh
  have hp := hit_parts (show hit g (n / 256) (n / 16 % 16) (n % 16) = true from hh)
  have hk := kerB_parts hp.2.2.2.2.2.2.2.1
  have : solB' g = true := by simp [solB', hk.1, hk.2.1, hk.2.2.1]
  rw [this] at hs; cases hs
theorem solNone {g : List (List Int)} (hs : solB' g = false) : solB g = false ∧ solU g = 0 ∧ solD g = 0 ∧ solX g = [] ∧ solY g = [] :=
  sol_eq (Or.inr ⟨rfl, noSol hs, rfl, rfl, rfl, rfl⟩)
theorem partsBySizeB (m k : Nat) (w : World) :
    Calls Tryz.prog 46 #[.int .i64 (m : Nat), .int .i64 (k : Nat)] w fun e w' => ∃ b1 b2, e = .returned (.func (.func 59) #[] #[.pointer (some ⟨b1, 0, none⟩), .pointer (some ⟨b2, 0, none⟩)]) ∧ Below w.heap.size w w' ∧
      Cell1 w' b1 3 (.int .i64 (m : Nat)) ∧ Cell1 w' b2 3 (.int .i64 (k : Nat)) :=
  (partsBySizeI m k w).mono fun e w' ⟨h1, h2⟩ => by
    refine ⟨_, _, h1, ?_, ?_, ?_⟩
    · rw [h2]; exact ((Below.refl _ w).alloc (Nat.le_refl _) _).alloc (by simp) _
    · rw [h2]; exact (Cell1.new _ _ _).alloc _
    · rw [h2]; have := Cell1.new (w.alloc (.cells #[.int .i64 (m : Nat)] 3)) 3 (.int .i64 (k : Nat)); rw [World.size_alloc] at this; exact this
theorem some_hit {g : List (List Int)} (hs : solB g = true) (h : ∀ y, y ∈ parts g.length (rowAt g 0).length → hitP g y = false) : False := by
  rcases sol_is g with ⟨_, s, r, q, _, _, h1, _⟩ | ⟨h1, _⟩
  · have hp := hit_parts h1
    have hk := kerB_parts hp.2.2.2.2.2.2.2.1
    have hm := parts_mem (m := g.length) (n := (rowAt g 0).length) hp.2.2.2.1 hp.2.2.2.2.1 hp.2.2.2.2.2.2.1 hk.2.2.2.2.2.1
    rw [hit_P, h _ hm, Bool.and_false] at h1; cases h1
  · rw [h1] at hs; cases hs
theorem cells_of_rowIs {w w' : World} {b n : Nat} {t : TypeId} {f : Nat → Value} (h : w.rowIs b t n f) (hk : ∀ (k : Nat) (o : Obj), w.heap[k]? = some o → o.isCells = true → w'.heap[k]? = some o) : w'.rowIs b t n f := by
  obtain ⟨cur, h1, h2, h3⟩ := h
  exact ⟨cur, hk _ _ h1 rfl, h2, h3⟩
theorem OwnI.cells {w w' : World} {lo : Nat} {A : Option Addr} {l : List Int} (h : OwnI w lo w.heap.size A l) (hk : ∀ (k : Nat) (o : Obj), w.heap[k]? = some o → o.isCells = true → w'.heap[k]? = some o) (hs : w.heap.size ≤ w'.heap.size) : OwnI w' lo w'.heap.size A l := by
  intro h0
  obtain ⟨b, N, f, e, k1, k2, k3, k4, k5⟩ := h h0
  exact ⟨b, N, f, e, k1, by omega, cells_of_rowIs k3 hk, k4, k5⟩
structure Solved (w : World) (g : List (List Int)) (r q : Nat) (W : World) : Prop where
  bel : Below w.heap.size w W
  res : ∃ (A : Option Addr) (c : Nat) (B : Option Addr) (d : Nat) (f : Nat → Value), W.rowIs (w.heap.size + 1) 54 4 f ∧ f 0 = .int .i64 (safU g (kerX g (r : Int) (q : Int))) ∧ f 1 = .int .i64 (safD g (kerX g (r : Int) (q : Int))) ∧
    f 2 = .slice A (kerX g (r : Int) (q : Int)).length c ∧ f 3 = .slice B (kerY g (r : Int) (q : Int)).length d ∧
    OwnI W w.heap.size W.heap.size A (kerX g (r : Int) (q : Int)) ∧ OwnI W w.heap.size W.heap.size B (kerY g (r : Int) (q : Int)) ∧ (0 < (kerX g (r : Int) (q : Int)).length → 0 < (kerY g (r : Int) (q : Int)).length → A.map (·.block) ≠ B.map (·.block))
  yes : Cell1 W (w.heap.size + 1 + 1) 4 (.bool true)
theorem Solved.step {w : World} {g : List (List Int)} {r q B : Nat} {W W' : World} (h : Solved w g r q W) (hs : StepX B W W') (hB : w.heap.size ≤ B) : Solved w g r q W' := by
  obtain ⟨h1, ⟨A, c, B', d, f, k1, k2, k3, k4, k5, k6, k7, k8⟩, h3⟩ := h
  exact ⟨h1.trans (hs.below.mono hB), ⟨A, c, B', d, f, cells_of_rowIs k1 hs.cells, k2, k3, k4, k5, k6.cells hs.cells hs.below.size, k7.cells hs.cells hs.below.size, k8⟩, hs.cells _ _ h3 rfl⟩
set_option maxRecDepth 100000 in
set_option maxHeartbeats 2000000 in
theorem sol_told (T : Option Addr) (c : Nat) (g : List (List Int)) (hl : g.length ≤ maxLen) (w : World) (h : Rows2 w (· < w.heap.size) T g) (hs : solB' g = true) :
    Calls Tryz.prog 24 #[.slice T g.length c] w (SolOwn w (solB g) (solU g) (solD g) (solX g) (solY g)) := by
  obtain ⟨h1, h2, h3⟩ := solB'_parts hs
  have hsg := sol_game h1 h2 h3
  have h0 := (Game.of h1).lo
  have HS : Hid (∀ w', Below w.heap.size w w' → Calls Tryz.prog 43 #[.slice T g.length c] w' (Same (.bool true) w')) := fun w' hb => by
    have := solvedOkI T c g _ hl w' (keepRows hb h); rw [hs] at this; exact this
  obtain ⟨b, off, rfl⟩ := h.some (by omega)
  obtain ⟨hS, A0, c0, hc0, hl0, hm0, _⟩ := h.row (i := 0) (by omega)
  rw [Nat.add_zero] at hc0
  unfold maxLen at hm0
  have hp1 : 0 < g.length := by omega
  have hp2 : (0 : Int) < (g.length : Int) := by omega
  have HR := Lib.hid h
  have HC0 := Lib.hid hc0
  have HL := Lib.hid hl
  have HSG := Lib.hid hsg
  clear h hs h1 hsg hc0 hl
  refine (callsIn_wide (n := 9)).1 ?_
  refine callsIn_of_wp_marks Tryz.func24 rfl trivial ?_ rfl
  refine wpIn_wide.2 ?_
  simp only [Tryz.ntmps24, List.size_toArray, List.length_cons, List.length_nil, Nat.reduceAdd, Nat.reduceSub, Array.replicate_succ, Array.replicate_zero, List.push_toArray, List.append_toArray, List.nil_append, List.cons_append]
  go_wp2_with (go_at_call 43; refine (HS.out _ (by repeat (first | exact Below.refl _ _ | assumption | exact bel1 (by assumption) | exact bel2 (by assumption) | exact bel3 (by assumption) | exact bel4 (by assumption) | refine Below.drew ?_ | refine below_drewN ?_ _ | refine Below.setCell ?_ (by first | (simp; done) | (simp; omega)) _ | refine Below.alloc ?_ (by first | (simp; done) | (simp; omega)) _))).mono ?_; rintro e w1 ⟨rfl, rfl⟩)
  obtain ⟨W0, hW0⟩ : ∃ W0 : World, W0 = (((w.alloc (.cells #[.slice (some ⟨b, off, none⟩) g.length c] 23)).alloc (.cells #[.int .i64 0, .int .i64 0, .slice none 0 0, .slice none 0 0] 54)).alloc (.cells #[.bool false] 4)) := ⟨_, rfl⟩
  have hz0 : W0.heap.size = w.heap.size + 3 := by rw [hW0]; simp
  have hb0 : Below w.heap.size w W0 := by rw [hW0]; exact (((Below.refl _ _).alloc (Nat.le_refl _) _).alloc (by simp) _).alloc (by simp; omega) _
  have bg : Cell1 W0 w.heap.size 23 (.slice (some ⟨b, off, none⟩) g.length c) := by rw [hW0]; exact ((Cell1.new _ _ _).alloc _).alloc _
  have bt : Cell1 W0 (w.heap.size + 1 + 1) 4 (.bool false) := by
    rw [hW0]; have := Cell1.new ((w.alloc (.cells #[.slice (some ⟨b, off, none⟩) g.length c] 23)).alloc (.cells #[.int .i64 0, .int .i64 0, .slice none 0 0, .slice none 0 0] 54)) 4 (.bool false)
    simp only [World.size_alloc] at this; exact this
  have br : ∃ f, W0.rowIs (w.heap.size + 1) 54 4 f := by
    have h1 := World.rowIs_alloc (w.alloc (.cells #[.slice (some ⟨b, off, none⟩) g.length c] 23)) #[.int .i64 0, .int .i64 0, .slice none 0 0, .slice none 0 0] 54 (fun i => (#[.int .i64 0, .int .i64 0, .slice none 0 0, .slice none 0 0] : Array Value).getD i undef) (fun i hi => by simp at hi; have : i = 0 ∨ i = 1 ∨ i = 2 ∨ i = 3 := (by omega); rcases this with rfl | rfl | rfl | rfl <;> rfl)
    rw [World.size_alloc] at h1
    rw [hW0]
    exact ⟨_, h1.alloc _⟩
  rw [← hW0]
  clear hW0
  have HZ0 : Hid (W0.heap.size = w.heap.size + 3) := hz0
  have HB0 := Lib.hid hb0
  have HBG := Lib.hid bg
  have HBT := Lib.hid bt
  have HBR := Lib.hid br
  have t0 := stays (W := W0) (p := w.heap.size) (o := 0) (by omega) bg.cell
  have t1 := stays (W := W0) (p := b) (o := off) (by omega) ((hb0.cell (p := ⟨b, off, none⟩) hS).trans HC0.out)
  clear hz0 hb0 bg bt br
  go_region_held3 (fun w' => Below W0.heap.size W0 w')
    (first | exact Below.refl _ _ | exact Below.drew (Below.refl _ _) | (refine Below.drew ?_; assumption) | exact belT (by assumption) (by assumption) | assumption)
    ((go_at_call 46; refine (partsBySizeB g.length (rowAt g 0).length _).mono ?_; rintro e w1 ⟨b1, b2, rfl, hb1, hc1, hc2⟩))
  go_wp2_with fail
  have HW1 : Hid (Below W0.heap.size W0 w1) := by assumption
  have HIT := Lib.hid (partsIter g.length (rowAt g 0).length b1 b2 h2 h3 w1 hc1 hc2)
  clear hc1 hc2
  have hs1 : w.heap.size + 3 ≤ w1.heap.size := by have := HW1.out.size; have := HZ0.out; omega
  have HBW : Hid (Below w.heap.size w w1) := belT HB0.out HW1.out
  refine (wpIn_wide (n := 9)).1 ?_
  refine overOuterK (gf := 59) (lb := #[.pointer (some ⟨b1, 0, none⟩), .pointer (some ⟨b2, 0, none⟩)]) rfl (enters_of Tryz.func59 (by kernel_rfl) rfl) (encs := fun x : Nat × Nat => #[.int .i64 (x.1 : Nat), .int .i64 (x.2 : Nat)]) (xs := parts g.length (rowAt g 0).length) (w0 := w1)
    HIT.out (Below.refl _ _) (fun _ => rfl)
    (fun pre W' => (∀ y, y ∈ pre → hitP g y = false) ∧ Below w1.heap.size w1 W')
    (fun c pre W' => c = .ret ∧ (∃ pre0 r q post, parts g.length (rowAt g 0).length = pre0 ++ (r, q) :: post ∧ (∀ y, y ∈ pre0 → hitP g y = false) ∧ hitP g (r, q) = true ∧ Solved w g r q W'))
    ?hI ?hIx ?h0 ?hround ?hdone ?hstop
  case hI => exact fun s A A' h hb => ⟨h.1, h.2.trans hb⟩
  case hIx =>
    intro c' s A A' h hb
    obtain ⟨h1, p0, r, q, post, a1, a2, a3, a4⟩ := h
    exact ⟨h1, p0, r, q, post, a1, a2, a3, a4.step hb (by omega)⟩
  case h0 => exact ⟨fun y hy => (by cases hy), Below.refl _ _⟩
  case hdone =>
    rintro D W' hD ⟨hno, _⟩ hKD
    exact (some_hit HSG.out hno).elim
  case hstop =>
    rintro D c' pre W' hD hp ⟨rfl, p0, r, q, post, hx, hno, hyes, hres⟩ hKD
    gi_wp2
    have hres' := hres.step (StepX.putObj (.deferred none) hKD rfl hD) (by omega)
    refine ⟨by simp, .inl ⟨_, _, rfl, run_takeDeferred hKD, ?_⟩⟩
    obtain ⟨W9, hW9⟩ : ∃ W9, W'.putObj D (.deferred none) = W9 := ⟨_, rfl⟩
    rw [hW9] at hres' ⊢
    clear hW9
    obtain ⟨hbel, ⟨A, ca, B, cb, f, k1, k2, k3, k4, k5, k6, k7, k8⟩, hyb⟩ := hres'
    have r0 := k1.cell (i := 0) (by omega)
    have r1 := k1.cell (i := 1) (by omega)
    have r2 := k1.cell (i := 2) (by omega)
    have r3 := k1.cell (i := 3) (by omega)
    rw [k2] at r0
    rw [k3] at r1
    rw [k4] at r2
    rw [k5] at r3
    have r4 := hyb.cell
    obtain ⟨e1, e2, e3, e4, e5⟩ := sol_eq (sol_first h2 h3 hx hno hyes)
    rw [e1, e2, e3, e4, e5]
    refine ⟨.tuple #[.agg #[.int .i64 (safU g (kerX g (r : Int) (q : Int))), .int .i64 (safD g (kerX g (r : Int) (q : Int))), .slice A (kerX g (r : Int) (q : Int)).length ca, .slice B (kerY g (r : Int) (q : Int)).length cb], .bool true], by simp [results, Tryz.results24, go_sem, r0, r1, r2, r3, r4], ?_⟩
    exact ⟨A, ca, B, cb, rfl, hbel, k6, k7, k8⟩
  case hround =>
    rintro l pre ⟨r, q⟩ post Wc hx hl1 hl2 ⟨hno, hbc⟩ K hK
    have hsc := hbc.size
    have HNO := Lib.hid hno
    have HBC := Lib.hid hbc
    have HX := Lib.hid hx
    clear hno hbc hx
    gi_wp2
    refine hK _ _ (Below.refl _ Wc) ?_
    intro W2 ht
    clear hK K
    have hs2 : Wc.heap.size ≤ W2.heap.size ∧ W2.heap.size ≤ Wc.heap.size := by have := ht.size; omega
    have HB2 : Hid (Below w1.heap.size w1 W2) := HBC.out.trans (ht.below hl1)
    clear ht
    have HRW : Hid (∀ w', Below W2.heap.size W2 w' → Rows2 w' (· < w'.heap.size) (some ⟨b, off, none⟩) g) := fun w' hb' =>
      (keepRows ((belT HBW.out HB2.out).trans (hb'.mono (by have := HBW.out.size; omega))) HR.out).lt (by have := HBW.out.size; have := hb'.size; omega)
    have HGB : Hid (∀ w', Below W2.heap.size W2 w' → w'.cell? ⟨w.heap.size, 0, none⟩ = some (.slice (some ⟨b, off, none⟩) g.length c)) := fun w' hb' =>
      t0 w' (((HW1.out.trans (HB2.out.mono HW1.out.size))).trans (hb'.mono (by have := HW1.out.size; omega)))
    have hg2 := HGB.out W2 (Below.refl _ _)
    have HRB : Hid (∀ X, Below W2.heap.size W2 X → ∃ f, X.rowIs (w.heap.size + 1) 54 4 f) := fun X hb' => by
      obtain ⟨f, hf⟩ := HBR.out
      exact ⟨f, hf.of_block (((HW1.out.trans (HB2.out.mono HW1.out.size)).trans (hb'.mono (by have := HW1.out.size; omega))).block _ hf.lt)⟩
    have HTB : Hid (∀ X, Below W2.heap.size W2 X → Cell1 X (w.heap.size + 1 + 1) 4 (.bool false)) := fun X hb' =>
      HBT.out.below ((HW1.out.trans (HB2.out.mono HW1.out.size)).trans (hb'.mono (by have := HW1.out.size; omega))) HBT.out.lt
    have HK := Lib.hid (ker_impl (some ⟨b, off, none⟩) c g (r : Int) (q : Int) HL.out W2 (HRW.out W2 (Below.refl _ _)))
    clear t0 t1
    have hkx := kerX_len g (r : Int) (q : Int)
    have hky := kerY_len g (r : Int) (q : Int)
    rcases hkb : kerB g (r : Int) (q : Int) with _ | _
    · have HNP : Hid (hitP g (r, q) = false) := by show _ = _; unfold hitP; rw [show kerB g ((r, q).1 : Int) ((r, q).2 : Int) = false from hkb]; rfl
      rw [hkb] at HK
      gi_wp2_with (first | (refine ⟨trivial, ?_⟩; gi_at_call 47; refine (CallsIn.inRound l (callsIn_wide.2 HK.out)).mono ?_; rintro e W3 ⟨A, ca, B, cb, rfl, hb3, ha3, hbb3, hap3⟩) | refine ⟨trivial, ?_⟩)
      refine ⟨⟨fun y hy => ?_, HB2.out.trans (hb3.mono (by omega))⟩, hb3⟩
      rcases List.mem_append.1 hy with h | h
      · exact HNO.out y h
      · rw [List.mem_singleton.1 h]; exact HNP.out
    rcases hsb : setB g (kerX g (r : Int) (q : Int)) (kerY g (r : Int) (q : Int)) with _ | _
    · have HNP : Hid (hitP g (r, q) = false) := by show _ = _; unfold hitP; rw [show setB g (kerX g ((r, q).1 : Int) ((r, q).2 : Int)) (kerY g ((r, q).1 : Int) ((r, q).2 : Int)) = false from hsb, Bool.and_false]
      rw [hkb] at HK
      have HST : Hid (∀ (A B : Option Addr) (ca cb : Nat) (W3 : World), Below W2.heap.size W2 W3 → Ints W3 (· < W3.heap.size) A (kerX g (r : Int) (q : Int)) → Ints W3 (· < W3.heap.size) B (kerY g (r : Int) (q : Int)) → Calls Tryz.prog 48 #[.slice (some ⟨b, off, none⟩) g.length c, .slice A (kerX g (r : Int) (q : Int)).length ca, .slice B (kerY g (r : Int) (q : Int)).length cb] W3 (Adds (.bool false) W3)) := fun A B ca cb W3 hb h1 h2 => by
        rw [← hsb]; exact set_impl _ A B c ca cb g _ _ HL.out (by omega) (by omega) W3 (HRW.out W3 hb) h1 h2
      clear hsb hkb
      gi_wp2_with (first | (refine ⟨trivial, ?_⟩; gi_at_call 47; refine (CallsIn.inRound l (callsIn_wide.2 HK.out)).mono ?_; rintro e W3 ⟨A, ca, B, cb, rfl, hb3, ha3, hbb3, hap3⟩; have hg3 := HGB.out W3 hb3) | (refine ⟨trivial, ?_⟩; gi_at_call 48; refine (CallsIn.inRound l (callsIn_wide.2 (HST.out A B ca cb _ hb3 (ha3.ints.mono fun _ h => h.2) (hbb3.ints.mono fun _ h => h.2)))).mono ?_; rintro e W4 ⟨rfl, hb4⟩))
      have hb24 : Below W2.heap.size W2 W4 := belT hb3 hb4
      refine ⟨⟨fun y hy => ?_, HB2.out.trans (hb24.mono (by omega))⟩, hb24⟩
      rcases List.mem_append.1 hy with h | h
      · exact HNO.out y h
      · rw [List.mem_singleton.1 h]; exact HNP.out
    have HYP : Hid (hitP g (r, q) = true) := by show _ = _; unfold hitP; rw [show setB g (kerX g ((r, q).1 : Int) ((r, q).2 : Int)) (kerY g ((r, q).1 : Int) ((r, q).2 : Int)) = true from hsb, Bool.and_true]; exact hkb
    rw [hkb] at HK
    have HST : Hid (∀ (A B : Option Addr) (ca cb : Nat) (W3 : World), Below W2.heap.size W2 W3 → Ints W3 (· < W3.heap.size) A (kerX g (r : Int) (q : Int)) → Ints W3 (· < W3.heap.size) B (kerY g (r : Int) (q : Int)) → Calls Tryz.prog 48 #[.slice (some ⟨b, off, none⟩) g.length c, .slice A (kerX g (r : Int) (q : Int)).length ca, .slice B (kerY g (r : Int) (q : Int)).length cb] W3 (Adds (.bool true) W3)) := fun A B ca cb W3 hb h1 h2 => by
      rw [← hsb]; exact set_impl _ A B c ca cb g _ _ HL.out (by omega) (by omega) W3 (HRW.out W3 hb) h1 h2
    have HSF : Hid (∀ (A : Option Addr) (ca : Nat) (W3 : World), Below W2.heap.size W2 W3 → Ints W3 (· < W3.heap.size) A (kerX g (r : Int) (q : Int)) → Calls Tryz.prog 49 #[.slice (some ⟨b, off, none⟩) g.length c, .slice A (kerX g (r : Int) (q : Int)).length ca] W3 (Adds (FracRes (safU g (kerX g (r : Int) (q : Int))) (safD g (kerX g (r : Int) (q : Int))) (safB g (kerX g (r : Int) (q : Int)))) W3)) := fun A ca W3 hb h1 =>
      safe_impl _ A c ca g _ HL.out (by omega) W3 (HRW.out W3 hb) h1
    clear hsb hkb
    gi_wp2_with (first | (refine ⟨trivial, ?_⟩; gi_at_call 47; refine (CallsIn.inRound l (callsIn_wide.2 HK.out)).mono ?_; rintro e W3 ⟨A, ca, B, cb, rfl, hb3, ha3, hbb3, hap3⟩; have hg3 := HGB.out W3 hb3) | (refine ⟨trivial, ?_⟩; gi_at_call 48; refine (CallsIn.inRound l (callsIn_wide.2 (HST.out A B ca cb _ hb3 (ha3.ints.mono fun _ h => h.2) (hbb3.ints.mono fun _ h => h.2)))).mono ?_; rintro e W4 ⟨rfl, hb4⟩; have hg4 := HGB.out W4 (belT hb3 hb4)) | (refine ⟨trivial, ?_⟩; gi_at_call 49; refine (CallsIn.inRound l (callsIn_wide.2 (HSF.out A ca _ (belT hb3 hb4) ((keepInts hb4 (ha3.ints.mono fun _ h => h.2)).lt hb4.size)))).mono ?_; rintro e W5 ⟨rfl, hb5⟩; unfold FracRes; obtain ⟨f5, hf5⟩ := HRB.out W5 (belT (belT hb3 hb4) hb5); have ht5 := HTB.out W5 (belT (belT hb3 hb4) hb5); have k0 := fun o => (hf5.alloc o).cell (i := 0) (by omega); have k1 := fun o => (hf5.alloc o).cell (i := 1) (by omega); have k2 := fun o => (hf5.alloc o).cell (i := 2) (by omega); have k3 := fun o => (hf5.alloc o).cell (i := 3) (by omega); have z0 := fun o => (hf5.alloc o).frozen 0; have z1 := fun o => (hf5.alloc o).frozen 1; have z2 := fun o => (hf5.alloc o).frozen 2; have z3 := fun o => (hf5.alloc o).frozen 3; have k4 := fun o => (ht5.alloc o).cell; have z4 := fun o => (ht5.alloc o).frozen))
    have hb25 : Below W2.heap.size W2 W5 := belT (belT hb3 hb4) hb5
    have hb2a : Below W2.heap.size W2 (W5.alloc (.cells #[.int .i64 (safU g (kerX g (r : Int) (q : Int))), .int .i64 (safD g (kerX g (r : Int) (q : Int)))] 37)) := hb25.alloc hb25.size _
    have hb35 : Below W3.heap.size W3 (W5.alloc (.cells #[.int .i64 (safU g (kerX g (r : Int) (q : Int))), .int .i64 (safD g (kerX g (r : Int) (q : Int)))] 37)) := (belT hb4 hb5).alloc (belT hb4 hb5).size _
    have hrow := ((((hf5.alloc (.cells #[.int .i64 (safU g (kerX g (r : Int) (q : Int))), .int .i64 (safD g (kerX g (r : Int) (q : Int)))] 37)).set 0 (.int .i64 (safU g (kerX g (r : Int) (q : Int))))).set 1 (.int .i64 (safD g (kerX g (r : Int) (q : Int))))).set 2 (.slice A (kerX g (r : Int) (q : Int)).length ca)).set 3 (.slice B (kerY g (r : Int) (q : Int)).length cb)
    have hcel := ht5.alloc (.cells #[.int .i64 (safU g (kerX g (r : Int) (q : Int))), .int .i64 (safD g (kerX g (r : Int) (q : Int)))] 37)
    clear k0 k1 k2 k3 z0 z1 z2 z3 k4 z4 hf5 ht5
    obtain ⟨Wa, hWa⟩ : ∃ Wa, W5.alloc (.cells #[.int .i64 (safU g (kerX g (r : Int) (q : Int))), .int .i64 (safD g (kerX g (r : Int) (q : Int)))] 37) = Wa := ⟨_, rfl⟩
    rw [hWa] at hb2a hb35 hrow hcel ⊢
    clear hWa
    have hs2a := hb2a.size
    have hs35 := hb35.size
    have hs23 := hb3.size
    have hsbw := HBW.out.size
    have hsb2 := HB2.out.size
    have hsame : ∀ k, w.heap.size + 3 ≤ k → (((((Wa.setCell ⟨w.heap.size + 1, 0, none⟩ (.int .i64 (safU g (kerX g (r : Int) (q : Int))))).setCell ⟨w.heap.size + 1, 1, none⟩ (.int .i64 (safD g (kerX g (r : Int) (q : Int))))).setCell ⟨w.heap.size + 1, 2, none⟩ (.slice A (kerX g (r : Int) (q : Int)).length ca)).setCell ⟨w.heap.size + 1, 3, none⟩ (.slice B (kerY g (r : Int) (q : Int)).length cb)).setCell ⟨w.heap.size + 1 + 1, 0, none⟩ (.bool true)).heap[k]? = Wa.heap[k]? := fun k hk => by
      rw [Below.heap_setCell _ _ _ _ (by show k ≠ w.heap.size + 1 + 1; omega), Below.heap_setCell _ _ _ _ (by show k ≠ w.heap.size + 1; omega), Below.heap_setCell _ _ _ _ (by show k ≠ w.heap.size + 1; omega), Below.heap_setCell _ _ _ _ (by show k ≠ w.heap.size + 1; omega), Below.heap_setCell _ _ _ _ (by show k ≠ w.heap.size + 1; omega)]
    have hsz : (((((Wa.setCell ⟨w.heap.size + 1, 0, none⟩ (.int .i64 (safU g (kerX g (r : Int) (q : Int))))).setCell ⟨w.heap.size + 1, 1, none⟩ (.int .i64 (safD g (kerX g (r : Int) (q : Int))))).setCell ⟨w.heap.size + 1, 2, none⟩ (.slice A (kerX g (r : Int) (q : Int)).length ca)).setCell ⟨w.heap.size + 1, 3, none⟩ (.slice B (kerY g (r : Int) (q : Int)).length cb)).setCell ⟨w.heap.size + 1 + 1, 0, none⟩ (.bool true)).heap.size = Wa.heap.size := by simp [World.setCell]
    have hbel : Below w.heap.size w Wa := (belT HBW.out HB2.out).trans (hb2a.mono (by omega))
    refine ⟨⟨rfl, pre, r, q, post, HX.out, HNO.out, HYP.out, ⟨?_, ⟨A, ca, B, cb, _, hrow.setOther (by show w.heap.size + 1 ≠ w.heap.size + 1 + 1; omega) _, by simp, by simp, by simp, by simp, ?_, ?_, hap3⟩, ?_⟩⟩, ?_⟩
    · exact ((((hbel.setCell (by show w.heap.size ≤ w.heap.size + 1; omega) _).setCell (by show w.heap.size ≤ w.heap.size + 1; omega) _).setCell (by show w.heap.size ≤ w.heap.size + 1; omega) _).setCell (by show w.heap.size ≤ w.heap.size + 1; omega) _).setCell (by show w.heap.size ≤ w.heap.size + 1 + 1; omega) _
    · exact (ha3.keep (fun k h1 h2 => (hsame k (by omega)).trans (hb35.block k h2))).more (by omega) (by rw [hsz]; omega)
    · exact (hbb3.keep (fun k h1 h2 => (hsame k (by omega)).trans (hb35.block k h2))).more (by omega) (by rw [hsz]; omega)
    · refine Cell1.set (v := .bool false) ?_ _
      refine hcel.keep ?_
      rw [Below.heap_setCell _ _ _ _ (by show w.heap.size + 1 + 1 ≠ w.heap.size + 1; omega), Below.heap_setCell _ _ _ _ (by show w.heap.size + 1 + 1 ≠ w.heap.size + 1; omega), Below.heap_setCell _ _ _ _ (by show w.heap.size + 1 + 1 ≠ w.heap.size + 1; omega), Below.heap_setCell _ _ _ _ (by show w.heap.size + 1 + 1 ≠ w.heap.size + 1; omega)]
    · exact ⟨by rw [hsz]; omega, fun k h1 h2 => (hsame k (by omega)).trans (hb2a.block k h2)⟩
theorem sol_impl (T : Option Addr) (c : Nat) (g : List (List Int)) (hl : g.length ≤ maxLen) (w : World) (h : Rows2 w (· < w.heap.size) T g) :
    Calls Tryz.prog 24 #[.slice T g.length c] w (SolOwn w (solB g) (solU g) (solD g) (solX g) (solY g)) := by
  rcases hs : solB' g with _ | _
  · obtain ⟨e1, e2, e3, e4, e5⟩ := solNone hs
    rw [e1, e2, e3, e4, e5]
    exact sol_un T c g hl w h hs
  · exact sol_told T c g hl w h hs
end Go.Proofs.YtlmaeadbomnhlaaGreat

namespace Go.Proofs.YtlmaeadbomnhlaaGreat
set_option linter.unusedSimpArgs false
set_option linter.unusedVariables false
open Go.RowKit
set_option maxHeartbeats 1000000 in
theorem worth_impl (T : Option Addr) (c : Nat) (g : List (List Int)) (hl : g.length ≤ maxLen) (w : World) (h : Rows2 w (· < w.heap.size) T g) :
    Calls Tryz.prog 10 #[.slice T g.length c] w (Adds (FracRes (solU g) (solD g) (solB g)) w) := by
  have HS : Hid (∀ w', Below w.heap.size w w' → Calls Tryz.prog 24 #[.slice T g.length c] w' (SolOwn w' (solB g) (solU g) (solD g) (solX g) (solY g))) := fun w' hb =>
    sol_impl T c g hl w' ((keepRows hb h).lt hb.size)
  clear h hl
  go_enter Tryz.func10, Tryz.ntmps10
  go_wp2_with fail
  obtain ⟨W, hW⟩ : ∃ W : World, W = w.alloc (.cells #[.int .i64 0, .int .i64 0] 37) := ⟨_, rfl⟩
  have hz : W.heap.size = w.heap.size + 1 := by rw [hW]; simp
  have hb0 : Below w.heap.size w W := by rw [hW]; exact (Below.refl _ _).alloc (Nat.le_refl _) _
  have hr0 : ∃ f, W.rowIs w.heap.size 37 2 f := by
    rw [hW]; exact ⟨_, World.rowIs_alloc w #[.int .i64 0, .int .i64 0] 37 (fun i => (#[.int .i64 0, .int .i64 0] : Array Value).getD i undef) (fun i hi => by simp at hi; have : i = 0 ∨ i = 1 := (by omega); rcases this with rfl | rfl <;> rfl)⟩
  rw [← hW]
  clear hW
  have HZ := Lib.hid hz
  clear hz
  refine (HS.out _ hb0).mono ?_
  rintro e w1 ⟨A, ca, B, cb, rfl, hb1, _, _, _⟩
  obtain ⟨f, hf⟩ := hr0
  have hf1 := hf.of_block (hb1.block _ hf.lt)
  have k0 := fun o => (hf1.alloc o).cell (i := 0) (by omega)
  have k1 := fun o => (hf1.alloc o).cell (i := 1) (by omega)
  have z0 := fun o => (hf1.alloc o).frozen 0
  have z1 := fun o => (hf1.alloc o).frozen 1
  go_wp2_with fail
  have hs1 := hb1.size
  have hlt := hf.lt
  have hb2 : Below w.heap.size w (w1.alloc (.cells #[.int .i64 (solU g), .int .i64 (solD g), .slice A (solX g).length ca, .slice B (solY g).length cb] 54)) := (belT hb0 hb1).alloc (by omega) _
  refine bodyPost_ret (v := FracRes (solU g) (solD g) (solB g)) (by simp [results, Tryz.results10, go_sem, FracRes, k0, k1, z0, z1]) rfl ⟨rfl, ?_⟩
  exact (hb2.setCell (Nat.le_refl _) _).setCell (Nat.le_refl _) _
end Go.Proofs.YtlmaeadbomnhlaaGreat
