/- The walk of the program's iterator over the placings of soldiers. -/
import Derived.Test.YtanfefgigepdcaaML
import Derived.Test.YtanfefgigepdcaaMV
import Derived.Test.YtanfefgigepdcaaNI
import Derived.Test.YtanfefgigepdcaaOB
namespace Go.Proofs.Ytanfefgigepdcaa
set_option linter.unusedSimpArgs false
set_option linter.unusedVariables false
open Go.RowKit Go.Shelf

attribute [local go_sem] Oper.semAt_some

theorem placingsOnI (s f : Int) (w : World) :
    Calls Try.prog 62 #[.int .i64 s, .int .i64 f] w fun e w' => ∃ b1 b2, e = .returned (.func (.func 95) #[] #[.pointer (some ⟨b1, 0, none⟩), .pointer (some ⟨b2, 0, none⟩)]) ∧ Below w.heap.size w w' ∧
      Cell1 w' b1 3 (.int .i64 f) ∧ Cell1 w' b2 3 (.int .i64 s) ∧ w.heap.size ≤ b1 ∧ w.heap.size ≤ b2 := by
  go_enter Try.func62, Try.ntmps62
  go_wp2_with fail
  go_ret
  refine ⟨w.heap.size + 1, w.heap.size, by simp, ((Below.refl _ w).alloc (Nat.le_refl _) _).alloc (by simp) _, ?_, (Cell1.new _ _ _).alloc _, by omega, by omega⟩
  have := Cell1.new (w.alloc (.cells #[.int .i64 s] 3)) 3 (.int .i64 f)
  simp only [World.size_alloc] at this; exact this

/-- what the iterator has of its own: the box of its yield, in block B, and the marks of its loops -/
structure MineR (B : Nat) (y : Value) (ds : List Deferred) (S : Nat → Prop) (wr : World) : Prop where
  marks : Marks B ds wr
  apart : ∀ k, (k = B ∨ ({ target := .collected k, args := #[] } : Deferred) ∈ ds) → ¬ S k
  box : Cell1 wr B 85 y

theorem MineR.lies {B : Nat} {y : Value} {ds : List Deferred} {S S' L : Nat → Prop} {wr w' : World} (h : MineR B y ds S wr) (hl : Lies L wr w') (hL : ∀ k, (k = B ∨ ({ target := .collected k, args := #[] } : Deferred) ∈ ds) → L k) (hS : ∀ k, S' k → S k ∨ wr.heap.size ≤ k) : MineR B y ds S' w' := by
  refine ⟨h.marks.keep fun k hk hk2 ⟨d, hd, e⟩ => hl.block k hk2 (hL k (.inr (e ▸ hd))), fun k hk hs => ?_, h.box.keep (hl.block _ h.box.lt (hL _ (.inl rfl)))⟩
  rcases hS k hs with h1 | h1
  · exact h.apart k hk h1
  · rcases hk with e | e
    · have := h.box.lt; omega
    · obtain ⟨D, h2, h3⟩ := h.marks.lt _ e; cases h2; omega

theorem MineR.below {B : Nat} {y : Value} {ds : List Deferred} {S : Nat → Prop} {wr w' : World} (h : MineR B y ds S wr) (hb : Below wr.heap.size wr w') : MineR B y ds S w' :=
  h.lies (Lies.of_below (K := fun _ => True) hb (fun _ h _ => h)) (fun _ _ => trivial) (fun _ hk => .inl hk)

theorem MineR.lt {B : Nat} {y : Value} {ds : List Deferred} {S : Nat → Prop} {wr : World} (h : MineR B y ds S wr) {k : Nat} (hk : k = B ∨ ({ target := .collected k, args := #[] } : Deferred) ∈ ds) : B ≤ k ∧ k < wr.heap.size := by
  rcases hk with e | e
  · subst e; exact ⟨Nat.le_refl _, h.box.lt⟩
  · have hm := h.marks
    obtain ⟨D, h2, h3⟩ := hm.lt _ e; cases h2
    refine ⟨?_, h3⟩
    clear h h3
    induction ds with
    | nil => cases e
    | cons d ds ih =>
      obtain ⟨D', k1, k2, _, _, k5⟩ := hm
      rcases List.mem_cons.1 e with e | e
      · rw [← e] at k1; cases k1; exact k2
      · exact ih e k5

theorem MineR.more {B D : Nat} {y : Value} {ds : List Deferred} {S : Nat → Prop} {wr : World} (h : MineR B y ds S wr) (hB : B ≤ D) (hnew : ∀ k, ({ target := .collected k, args := #[] } : Deferred) ∈ ds → k ≠ D) (hS : ¬ S D) (hD : wr.heap[D]? = some (.deferred (some []))) : MineR B y ({ target := .collected D, args := #[] } :: ds) S wr := by
  refine ⟨⟨D, rfl, hB, hD, fun d' hd' e => hnew D (e ▸ hd') rfl, h.marks⟩, fun k hk => ?_, h.box⟩
  rcases hk with e | e
  · exact h.apart k (.inl e)
  · rcases List.mem_cons.1 e with e | e
    · cases e; exact hS
    · exact h.apart k (.inr e)

/-- the blocks that the iterator reads -/
def PlaK (b1 b2 : Nat) (k : Nat) : Prop := k = b1 ∨ k = b2

theorem plaV_next (f s k : Nat) : plaV f s (k + 1) = plaV f s k ++ ((plaR f (s - k)).map castT).map fun r => (k : Int) :: r := by
  rw [← plaM_all]; unfold plaM; rw [List.take_length]

theorem plaV_prefix (f s : Nat) {k m : Nat} (h : k ≤ m) : plaV f s k <+: plaV f s m := by
  induction m with
  | zero => obtain rfl : k = 0 := by omega
            exact List.prefix_rfl
  | succ m ih =>
    by_cases e : k = m + 1
    · subst e; exact List.prefix_rfl
    · exact (ih (by omega)).trans ⟨_, (plaV_next f s m).symm⟩

theorem pla_split {f s k : Nat} (hk : k < s + 1) {pre post : List (List Int)} {x : List Int} (hx : (plaR f (s - k)).map castT = pre ++ x :: post) :
    ∃ rest, (plaR (f + 1) s).map castT = (plaV f s k ++ pre.map fun r => (k : Int) :: r) ++ ((k : Int) :: x) :: rest := by
  obtain ⟨t, ht⟩ := plaV_prefix f s (show k + 1 ≤ s + 1 by omega)
  rw [plaV_all, plaV_next, hx] at ht
  exact ⟨post.map (fun r => (k : Int) :: r) ++ t, by rw [← ht]; simp⟩

theorem pla_len {f s : Nat} (hf : f ≤ 2) (hs : s ≤ 4) {x : List Int} (hx : x ∈ (plaR f s).map castT) : x.length = f + 1 := by
  obtain ⟨i, hi, rfl⟩ := List.mem_iff_getElem.1 hx
  have h1 := (plaOk_at hf hs).2.1 i hi
  have e : rowAt ((plaR f s).map castT) i = ((plaR f s).map castT)[i] := by
    obtain ⟨L, hL⟩ : ∃ L, (plaR f s).map castT = L := ⟨_, rfl⟩
    simp only [hL] at hi ⊢
    unfold rowAt; simp [hi]
  rw [← e]; exact h1

/-- a number put ahead of a row -/
theorem concatRow (V : World) (z : Int) (b cb N : Nat) (x : List Int) (f : Nat → Value) (h0 : x.length ≤ 900) (h1 : x.length ≤ cb) (h2 : cb ≤ maxLen) (h3 : x.length ≤ N) (hr : V.rowIs b 3 N f) (hf : ∀ i, i < x.length → f i = .int .i64 (nth x i)) :
    Calls Try.prog 96 #[.slice (some ⟨V.heap.size + 1, 0, none⟩) 2 2]
      (((V.alloc (.cells #[.int .i64 z] 3)).alloc (.cells #[.slice (some ⟨V.heap.size, 0, none⟩) 1 1, .slice (some ⟨b, 0, none⟩) x.length cb] 31)).drew)
      fun e w4 => ∃ gb cap, e = .returned (.slice (some ⟨gb, 0, none⟩) (x.length + 1) cap) ∧ Below V.heap.size V w4 ∧ V.heap.size ≤ gb ∧ gb < w4.heap.size ∧ RowGot (z :: x) #[.slice (some ⟨gb, 0, none⟩) (x.length + 1) cap] (fun k => k = gb) w4 := by
  obtain ⟨WC, hWC⟩ : ∃ WC : World, ((V.alloc (.cells #[.int .i64 z] 3)).alloc (.cells #[.slice (some ⟨V.heap.size, 0, none⟩) 1 1, .slice (some ⟨b, 0, none⟩) x.length cb] 31)).drew = WC := ⟨_, rfl⟩
  have hbC : Below V.heap.size V WC := by rw [← hWC]; exact (((Below.refl _ V).alloc (Nat.le_refl _) _).alloc (by simp) _).drew
  have hsC : WC.heap.size = V.heap.size + 2 := by rw [← hWC]; simp [World.drew]
  have hlt := hr.lt
  have r1 : WC.rowIs V.heap.size 3 1 (fun _ => .int .i64 z) := by
    rw [← hWC]
    have := World.rowIs_alloc V #[.int .i64 z] 3 (fun _ => .int .i64 z) (fun i hi => by simp at hi; subst hi; rfl)
    exact (World.rowIs.alloc (by simpa using this) _).of_block rfl
  have r2 : WC.rowIs (V.heap.size + 1) 31 2 (fun i => (#[.slice (some ⟨V.heap.size, 0, none⟩) 1 1, .slice (some ⟨b, 0, none⟩) x.length cb] : Array Value).getD i undef) := by
    rw [← hWC]
    have := World.rowIs_alloc (V.alloc (.cells #[.int .i64 z] 3)) #[.slice (some ⟨V.heap.size, 0, none⟩) 1 1, .slice (some ⟨b, 0, none⟩) x.length cb] 31 (fun i => (#[.slice (some ⟨V.heap.size, 0, none⟩) 1 1, .slice (some ⟨b, 0, none⟩) x.length cb] : Array Value).getD i undef) (fun i hi => by simp at hi; have : i = 0 ∨ i = 1 := (by omega); rcases this with rfl | rfl <;> rfl)
    rw [World.size_alloc] at this
    exact World.rowIs.of_block this rfl
  have r3 : WC.rowIs b 3 N f := hr.of_block (hbC.block _ hlt)
  rw [hWC]
  refine (concatI (V.heap.size + 1) 2 ⟨V.heap.size, 0, none⟩ ⟨b, 0, none⟩ 1 1 x.length cb [.int .i64 z] (vals x) rfl (vals_length x) (by omega) (by omega) (Nat.le_refl _) h1 (by unfold maxLen; omega) h2
    (fun u hu => by rw [List.mem_singleton.1 hu]; rfl) (fun u hu => by unfold vals at hu; obtain ⟨a, _, rfl⟩ := List.mem_map.1 hu; rfl) WC (by omega) (by show V.heap.size < _; omega) (by show b < _; omega) (r2.cell (i := 0) (by omega)) (r2.cell (i := 1) (by omega))
    (fun w' hb j u hu => ?_) (fun w' hb j u hu => ?_)).mono ?_
  · have hj : j = 0 := by
      rcases j with _ | j
      · rfl
      · simp at hu
    subst hj
    have hu' : u = .int .i64 z := by simpa using hu.symm
    subst hu'
    exact (hb.cell (p := ⟨V.heap.size, 0, none⟩) (by show V.heap.size < _; omega)).trans (r1.cell (i := 0) (by omega))
  · have hj : j < x.length := by
      have := (List.getElem?_eq_some_iff.1 hu).1; rwa [vals_length] at this
    have hu' : u = .int .i64 (nth x j) := by rw [vals_get x j hj] at hu; exact (Option.some.inj hu).symm
    subst hu'
    have hc := r3.cell (i := j) (by omega)
    rw [hf j hj] at hc
    have := (hb.cell (p := ⟨b, j, none⟩) (by show b < _; omega)).trans hc
    rcases Nat.eq_zero_or_pos j with e | e
    · subst e; simpa [Addr.add] using this
    · simpa [Addr.add, show ¬ j = 0 by omega] using this
  · rintro e w4 ⟨v, rfl, hb4, ho⟩
    have hg : Grows w4 WC.heap.size v (z :: x) := by
      unfold Grows
      rw [Nat.add_comm 1] at ho
      exact ho
    obtain ⟨A, cap, rfl, hc1, hc2, hoi⟩ := hg.own'
    obtain ⟨gb, N', f', rfl, g1, g2, g3, g4, g5⟩ := hoi (by simp)
    exact ⟨gb, cap, rfl, belT hbC hb4, by omega, g2, gb, cap, rfl, hc1, hc2, rfl, N', f', g4, g3, g5⟩

set_option maxRecDepth 100000 in
set_option maxHeartbeats 4000000 in
theorem placIter : ∀ f s : Nat, f ≤ 2 → s ≤ 4 → ∀ (w : World) (b1 b2 : Nat), Cell1 w b1 3 (.int .i64 ((f + 1 : Nat) : Int)) → Cell1 w b2 3 (.int .i64 (s : Nat)) →
    IterS Try.prog 95 #[.pointer (some ⟨b1, 0, none⟩), .pointer (some ⟨b2, 0, none⟩)] RowGot ((plaR f s).map castT) (PlaK b1 b2) w := by
  intro f
  induction f with
  | zero =>
    intro s _ hs w b1 b2 h1 h2 l S0 J Jx W hW hK hS0 hJ hJx hY h0 hl nn
    refine callsIn_wide.2 ((callsIn_wide (n := 9)).1 ?_)
    refine callsIn_of_wp_marks Try.func95 rfl trivial ?_ rfl
    simp only [Try.ntmps95, List.size_toArray, List.length_cons, List.length_nil, Nat.reduceAdd, Nat.reduceSub, Array.replicate_succ, Array.replicate_zero, List.push_toArray, List.append_toArray, List.nil_append, List.cons_append]
    have hwW := hW.size
    have c1 := (hW.cellAt (.inl rfl) h1).cell
    have l1 := (hW.cellAt (.inl rfl) h1).lt
    have c2 := (hW.cellAt (.inr rfl) h2).cell
    have l2 := (hW.cellAt (.inr rfl) h2).lt
    have G0 := Lib.hid (Going.start hW hS0 h0)
    have HRD := Lib.hid (fun (G : Nat → Prop) (v : Array Value) (W1 : World) (hb : Below W.heap.size W W1) => Going.roundG hY hJ hK hwW hS0 hl G0.out hb (G := G) (pre := []) (post := []) (x := [(s : Int)]) (v := v) rfl)
    clear hJ hJx hK hS0 hl hY h0 hW h1 h2
    have hbA : Below W.heap.size W ((W.alloc (.cells #[.func (.yield l) #[] #[]] 85)).alloc (.cells #[.int .i64 (s : Int)] 3)) := ((Below.refl _ W).alloc (Nat.le_refl _) _).alloc (by simp) _
    have hrow : RowGot [(s : Int)] #[.slice (some ⟨W.heap.size + 1, 0, none⟩) 1 1] (fun k => k = W.heap.size + 1) ((W.alloc (.cells #[.func (.yield l) #[] #[]] 85)).alloc (.cells #[.int .i64 (s : Int)] 3)) := by
      refine ⟨W.heap.size + 1, 1, rfl, Nat.le_refl _, by unfold maxLen; omega, rfl, 1, fun _ => .int .i64 (s : Int), Nat.le_refl _, ?_, fun i hi => ?_⟩
      · have := World.rowIs_alloc (W.alloc (.cells #[.func (.yield l) #[] #[]] 85)) #[.int .i64 (s : Int)] 3 (fun _ => .int .i64 (s : Int)) (fun i hi => by simp at hi; subst hi; rfl)
        simpa using this
      · have : i = 0 := by simp at hi; exact hi
        subst this; rfl
    have hrd := HRD.out _ _ _ hbA hrow (fun k hk => by subst hk; simp)
    have HE : Hid ((plaR 0 s).map castT = [[(s : Int)]]) := rfl
    obtain ⟨fn, tmps, assign, body, hy, hR⟩ := hrd (9 - 1)
    have HRR := Lib.hid hR
    clear hrd hR hrow hbA
    gi_wp2_with (refine HRR.out.mono ?_; rintro e W3 ⟨b, rfl, hb1, hb2⟩; cases b <;> first | (have HJX := Lib.hid (hb2 rfl); clear hb1 hb2) | (obtain ⟨S', hg', _⟩ := hb1 rfl; have HG' := Lib.hid hg'; clear hb1 hb2 hg'))
    · exact ⟨_, results_none rfl _ _ _, ⟨_, rfl⟩, .inr ⟨[[(s : Int)]], by rw [HE.out]; exact List.prefix_rfl, HJX.out.1⟩⟩
    · exact ⟨_, results_none rfl _ _ _, ⟨_, rfl⟩, .inl ⟨S', HG'.out.of, by rw [HE.out]; exact HG'.out.inv⟩⟩
  | succ f ih =>
    intro s hf hs w b1 b2 h1 h2 l S0 J Jx W hW hK hS0 hJ hJx hY h0 hl nn
    obtain ⟨F, hF⟩ : ∃ F : Int, ((f + 1 + 1 : Nat) : Int) = F := ⟨_, rfl⟩
    rw [hF] at h1
    refine callsIn_wide.2 ((callsIn_wide (n := 9)).1 ?_)
    refine callsIn_of_wp_marks Try.func95 rfl trivial ?_ rfl
    simp only [Try.ntmps95, List.size_toArray, List.length_cons, List.length_nil, Nat.reduceAdd, Nat.reduceSub, Array.replicate_succ, Array.replicate_zero, List.push_toArray, List.append_toArray, List.nil_append, List.cons_append]
    have hwW := hW.size
    have hk1 : PlaK b1 b2 b1 := .inl rfl
    have hk2 : PlaK b1 b2 b2 := .inr rfl
    have c1 := (hW.cellAt hk1 h1).cell
    have l1 := (hW.cellAt hk1 h1).lt
    have c2 := (hW.cellAt hk2 h2).cell
    have l2 := (hW.cellAt hk2 h2).lt
    have ef : (F == 1) = false := by rw [beq_eq_false_iff_ne]; omega
    have hs1 : IntKind.i64.wrap ((s : Int) + 1) = (s : Int) + 1 := IntWalk.i64_in _ ⟨by omega, by omega⟩
    have hF1 : F - 1 = ((f + 1 : Nat) : Int) := by omega
    have hFw : IntKind.i64.wrap ((f + 1 : Nat) : Int) = ((f + 1 : Nat) : Int) := IntWalk.i64_in _ ⟨by omega, by omega⟩
    have hmx : Try.prog.follows .mixedOrders = true := by kernel_rfl
    have G0 := Lib.hid (Going.start hW hS0 h0)
    have HRD := Lib.hid (fun (pre post : List (List Int)) (x : List Int) (S G : Nat → Prop) (v : Array Value) (wr W1 : World) (g : Going _ S0 S w W wr J pre) (hb : Below wr.heap.size wr W1) (hx : (plaR (f + 1) s).map castT = pre ++ x :: post) => Going.roundG hY hJ hK hwW hS0 hl g hb hx (R := RowGot) (v := v) (G := G))
    have HC := Lib.hid (fun (wr : World) (hL : Lies (PlaK b1 b2) w wr) => And.intro (hL.cellAt hk1 h1) (hL.cellAt hk2 h2))
    have HJ := Lib.hid hJ
    have HJX := Lib.hid hJx
    have HK := Lib.hid hK
    have HS0 := Lib.hid hS0
    have HIH := Lib.hid ih
    have HLW := Lib.hid hl
    clear hJ hJx hK hS0 ih hl hY h0 hW h1 h2 hk1 hk2 hF
    obtain ⟨V0, hV0⟩ : ∃ V0 : World, V0 = W.alloc (.cells #[.func (.yield l) #[] #[]] 85) := ⟨_, rfl⟩
    have hbV : Below W.heap.size W V0 := by rw [hV0]; exact (Below.refl _ W).alloc (Nat.le_refl _) _
    have hyV : Cell1 V0 W.heap.size 85 (.func (.yield l) #[] #[]) := by rw [hV0]; exact Cell1.new W _ _
    have gV : Going (PlaK b1 b2) S0 S0 w W V0 J [] := G0.out.low HJ.out HK.out hbV
    have mV : MineR W.heap.size (.func (.yield l) #[] #[]) [] S0 V0 := ⟨trivial, (fun k hk hs => by
      rcases hk with e | e
      · have := (HS0.out k hs).1; omega
      · cases e), hyV⟩
    have HBV := Lib.hid hbV
    have HV0 := Lib.hid hV0
    clear hV0 hyV hbV
    gi_wp2
    rw [← HV0.out]
    refine wpIn_loop (fun a' w' => ∃ (ix u4 u5 u8 u9 u10 u11 u15 u16 u17 u18 u19 u20 u21 u22 u23 u24 u25 u26 u27 u28 u29 u30 u31 u32 : Value) (k : Nat) (ds : List Deferred) (S : Nat → Prop), a' = { tmps := #[.func (.yield l) #[] #[], .pointer (some ⟨b1, 0, none⟩), .pointer (some ⟨b2, 0, none⟩), .pointer (some ⟨W.heap.size, 0, none⟩), u4, u5, .int .i64 F, .bool false, u8, u9, u10, u11, .int .i64 (s : Int), .int .i64 ((s : Int) + 1), ix, u15, u16, u17, u18, u19, u20, u21, u22, u23, u24, u25, u26, u27, u28, u29, u30, u31, u32], defers := ds } ∧ ix = .int .i64 (k : Int) ∧ k ≤ s + 1 ∧
        Hid (Going (PlaK b1 b2) S0 S w W w' J (plaV f s k)) ∧ Hid (MineR W.heap.size (.func (.yield l) #[] #[]) ds S w'))
      (fun a' _ => s + 1 - (intOf (a'.tmps.getD 14 undef)).toNat) ?start ?round
    case start => exact ⟨_, _, _, _, _, _, _, _, _, _, _, _, _, _, _, _, _, _, _, _, _, _, _, _, _, 0, [], S0, rfl, rfl, Nat.zero_le _, gV, mV⟩
    case round =>
      clear gV mV
      rintro _ wr ⟨_, u4, u5, u8, u9, u10, u11, u15, u16, u17, u18, u19, u20, u21, u22, u23, u24, u25, u26, u27, u28, u29, u30, u31, u32, k, ds, S, rfl, rfl, hk, HG, HM⟩
      obtain ⟨k1, k2⟩ := HC.out wr HG.out.lies
      have e1 := k1.cell
      have e2 := k2.cell
      have l1 := k1.lt
      have l2 := k2.lt
      clear k1 k2 c1 c2
      by_cases hlt : k < s + 1
      · obtain ⟨wo, hwo⟩ : ∃ wo : World, wo = wr.alloc (.cells #[.int .i64 (k : Int)] 3) := ⟨_, rfl⟩
        have hbo : Below wr.heap.size wr wo := by rw [hwo]; exact (Below.refl _ wr).alloc (Nat.le_refl _) _
        have ho1 : Cell1 wo wr.heap.size 3 (.int .i64 (k : Int)) := by rw [hwo]; exact Cell1.new _ _ _
        have hso : wo.heap.size = wr.heap.size + 1 := by rw [hwo]; simp
        have HGO := Lib.hid (HG.out.low HJ.out HK.out hbo)
        have HMO := Lib.hid (HM.out.below hbo)
        have HWO := Lib.hid hwo
        have HBO := Lib.hid hbo
        have HO1 := Lib.hid ho1
        have HSO := Lib.hid hso
        have LT := Lib.hid HG.out.lt
        obtain ⟨d, hd⟩ : ∃ d, s - k = d := ⟨_, rfl⟩
        obtain ⟨m, hm⟩ : ∃ m, f + 1 = m := ⟨_, rfl⟩
        have hsub : (s : Int) - (k : Int) = (d : Int) := by omega
        have hwd : IntKind.i64.wrap (d : Int) = (d : Int) := IntWalk.i64_in _ ⟨by omega, by omega⟩
        have hFm : F - 1 = (m : Int) := by rw [← hm]; exact hF1
        have hwm : IntKind.i64.wrap (m : Int) = (m : Int) := by rw [← hm]; exact hFw
        have HWF : Hid (∀ w', Calls Try.prog 62 #[.int .i64 (d : Int), .int .i64 (m : Int)] w' fun e w'' => ∃ b1 b2, e = .returned (.func (.func 95) #[] #[.pointer (some ⟨b1, 0, none⟩), .pointer (some ⟨b2, 0, none⟩)]) ∧ Below w'.heap.size w' w'' ∧
            Cell1 w'' b1 3 (.int .i64 (m : Int)) ∧ Cell1 w'' b2 3 (.int .i64 (d : Int)) ∧ w'.heap.size ≤ b1 ∧ w'.heap.size ≤ b2) := fun w' => placingsOnI (d : Int) (m : Int) w'
        have HD := Lib.hid hd
        have HMM := Lib.hid hm
        clear hwo hbo ho1 hso hd hm hF1 hFw
        gi_wp2_with (refine ⟨trivial, ?_⟩; gi_at_call 62; refine (callsIn_wide.2 (HWF.out _)).mono ?_; rintro e w6 ⟨q1, q2, rfl, hb6, z1, z2, n1, n2⟩)
        rw [← HWO.out] at hb6 n1 n2
        have HB6 := Lib.hid hb6
        have hso := HSO.out
        have hs6 := hb6.size
        have hwr := HG.out.size
        have hG6 : Going (PlaK b1 b2) S0 S w W w6 J (plaV f s k) := HGO.out.low HJ.out HK.out hb6
        have hM6 : MineR W.heap.size (.func (.yield l) #[] #[]) ds S w6 := HMO.out.below hb6
        have hat6 : Cell1 w6 wr.heap.size 3 (.int .i64 (k : Int)) := HO1.out.below hb6 (by omega)
        rw [← HMM.out] at z1
        have hdd := HD.out
        have HIT := Lib.hid (HIH.out d (by omega) (by omega) w6 q1 q2 z1 z2)
        have hK6 : ∀ q, PlaK q1 q2 q → q < w6.heap.size ∧ ¬ S q := fun q hq => by
          rcases hq with e | e
          · rw [e]; exact ⟨z1.lt, fun hs => by have := LT.out _ hs; omega⟩
          · rw [e]; exact ⟨z2.lt, fun hs => by have := LT.out _ hs; omega⟩
        have hKW : ∀ q, PlaK q1 q2 q → W.heap.size ≤ q := fun q hq => by
          rcases hq with e | e
          · omega
          · omega
        have hown : ∀ q, (q = wr.heap.size ∨ q = W.heap.size ∨ ({ target := .collected q, args := #[] } : Deferred) ∈ ds) → q < w6.heap.size ∧ W.heap.size ≤ q ∧ ¬ S q := fun q hq => by
          rcases hq with e | e
          · rw [e]; exact ⟨by omega, by omega, fun hs => by have := LT.out _ hs; omega⟩
          · exact ⟨(hM6.lt e).2, (hM6.lt e).1, hM6.apart q e⟩
        have hxs : ∀ z, z ∈ (plaR f d).map castT → z.length = f + 1 := fun z hz => pla_len (by omega) (by omega) hz
        have HG6 := Lib.hid hG6
        have HM6 := Lib.hid hM6
        have HAT := Lib.hid hat6
        have HK6 := Lib.hid hK6
        have HKW := Lib.hid hKW
        have HOWN := Lib.hid hown
        have HXS := Lib.hid hxs
        have HWR := Lib.hid (show W.heap.size ≤ w6.heap.size by omega)
        clear hb6 hso hs6 hwr hG6 hM6 hat6 hK6 hKW hown hxs z1 z2 n1 n2 l1 l2 e1 e2 hdd
        refine overOuterS (gf := 95) (lb := #[.pointer (some ⟨q1, 0, none⟩), .pointer (some ⟨q2, 0, none⟩)]) rfl (enters_of Try.func95 (by kernel_rfl) rfl) HIT.out (Lies.refl _ _) (fun q hq => (HK6.out q hq).1) RowGot.size
          S (fun q hq => ⟨HG6.out.lt q hq, fun h => (HK6.out q h).2 hq⟩)
          (fun pre S' V => Going (PlaK b1 b2) S0 S' w W V J (plaV f s k ++ pre.map (fun r => (k : Int) :: r)) ∧ Lies (fun q => q = wr.heap.size ∨ q = W.heap.size ∨ ({ target := .collected q, args := #[] } : Deferred) ∈ ds) w6 V ∧ ∀ q, S' q → S q ∨ w6.heap.size ≤ q)
          (fun cc _ V => cc = .ret ∧ (∃ pre, pre <+: (plaR (f + 1) s).map castT ∧ Jx pre V) ∧ Marks W.heap.size ds V)
          ?hI ?hIx ?h0 ?hround ?hdone ?hstop
        case hI =>
          exact fun s S' V V' h hl => ⟨h.1.keepS HJ.out hl (fun q hq => .inl (Nat.lt_of_lt_of_le hq HWR.out)) (fun q hq => .inr hq) (fun q hq => .inl (Nat.lt_of_lt_of_le (HK.out q hq) (Nat.le_trans hwW HWR.out))), h.2.1.trans (hl.mono fun q _ hq => .inl (HOWN.out q hq).1), h.2.2⟩
        case hIx =>
          exact fun cc s V V' h hb => ⟨h.1, h.2.1.elim fun pre hp => ⟨pre, hp.1, HJX.out _ _ _ hp.2 (hb.mono HWR.out)⟩, h.2.2.keep fun q _ _ ⟨d, hd, e⟩ => hb.below.block q (HOWN.out q (.inr (.inr (e ▸ hd)))).1⟩
        case h0 => exact ⟨by rw [List.map_nil, List.append_nil]; exact HG6.out, Lies.refl _ _, fun q h => .inl h⟩
        case hround =>
          rintro l' pre' x' post' S' G v V hx' hl1 hl2 hbg hSo hSl hGl ⟨g', hli, ho⟩ ⟨bx, cx, rfl, hc1, hc2, rfl, N, fx, hN, hrw, hfx⟩ K' hK'
          have hxl : x'.length ≤ 900 := by have := HXS.out x' (by rw [hx']; simp); omega
          rw [← HD.out] at hx'
          obtain ⟨rest, hrest⟩ := pla_split hlt hx'
          gi_wp2
          refine hK' _ _ (Below.refl _ V) ?_
          intro V2 ht
          clear hK' K'
          have hs2 := ht.size
          have hfr := hbg.fresh bx rfl
          have hrw2 : V2.rowIs bx 3 N fx := World.rowIs.of_block hrw (ht.other (fun e => hGl e.symm))
          have hown' : ∀ q, (q = wr.heap.size ∨ q = W.heap.size ∨ ({ target := .collected q, args := #[] } : Deferred) ∈ ds) → q ≠ l' ∧ ¬ S' q ∧ q ≠ bx := fun q hq => by
            have h1 := HOWN.out q hq
            exact ⟨by omega, (fun hs => by rcases ho q hs with h | h; exact h1.2.2 h; omega), by omega⟩
          have g2 : Going (PlaK b1 b2) S0 S' w W V2 J (plaV f s k ++ pre'.map (fun r => (k : Int) :: r)) :=
            g'.keepS (L := fun q => q ≠ l') HJ.out (Lies.turn ht (fun h => h rfl)) (fun q hq => by have := HWR.out; omega) (fun q hq e => hSl (e ▸ hq)) (fun q hq => by have := HK.out q hq; have := HWR.out; omega)
          have hli2 := hli.trans (Lies.turn (K := fun q => q = wr.heap.size ∨ q = W.heap.size ∨ ({ target := .collected q, args := #[] } : Deferred) ∈ ds) ht (fun h => (hown' _ h).1 rfl))
          have ey := (hli2.cellAt (.inr (.inl rfl)) HM6.out.box).cell
          have ek := (hli2.cellAt (.inl rfl) HAT.out).cell
          have ly := (hli2.cellAt (.inr (.inl rfl)) HM6.out.box).lt
          have lk := (hli2.cellAt (.inl rfl) HAT.out).lt
          have HCC := Lib.hid (concatRow V2 (k : Int) bx cx N x' fx (by omega) hc1 hc2 hN hrw2 hfx)
          have HRY := Lib.hid (fun (gb cap : Nat) (w4 : World) (hb4 : Below V2.heap.size V2 w4) (h1 : V2.heap.size ≤ gb) (h2 : gb < w4.heap.size) (hr4 : RowGot ((k : Int) :: x') #[.slice (some ⟨gb, 0, none⟩) (x'.length + 1) cap] (fun q => q = gb) w4) =>
            HRD.out _ rest ((k : Int) :: x') S' (fun q => q = gb) _ V2 w4 g2 hb4 hrest hr4 (fun q hq => by rw [hq]; exact ⟨h1, h2⟩) (9 - 1))
          have HREST := Lib.hid hrest
          have HLI2 := Lib.hid hli2
          have HOW2 := Lib.hid hown'
          have HS2 := Lib.hid hs2
          have HOO := Lib.hid ho
          have HVS := Lib.hid hbg.size
          have HT : Hid (∀ V3 S3, (Going (PlaK b1 b2) S0 S3 w W V3 J (plaV f s k ++ pre'.map (fun r => (k : Int) :: r) ++ [(k : Int) :: x']) ∧ (∀ q, S3 q → S' q ∨ V2.heap.size ≤ q) ∧ Lies (fun q => q < V2.heap.size ∧ ¬ S' q) V2 V3) →
              ∃ S'', Owns S' (fun q => q = bx) V.heap.size S'' V3 ∧ (Going (PlaK b1 b2) S0 S'' w W V3 J (plaV f s k ++ (pre'.map (fun r => (k : Int) :: r) ++ [(k : Int) :: x'])) ∧ Lies (fun q => q = wr.heap.size ∨ q = W.heap.size ∨ ({ target := .collected q, args := #[] } : Deferred) ∈ ds) w6 V3 ∧ ∀ q, S'' q → S q ∨ w6.heap.size ≤ q) ∧ Lies (fun q => q < V.heap.size ∧ ¬ S' q ∧ ¬ (fun q => q = bx) q) V2 V3) := fun V3 S3 ⟨h1, h2, h3⟩ => by
            refine ⟨S3, ⟨fun q hq => ?_, h1.lt⟩, ⟨?_, HLI2.out.trans (h3.mono fun q hq1 hq => ⟨hq1, (HOW2.out q hq).2.1⟩), fun q hq => ?_⟩, h3.mono fun q _ hq => ⟨by have := HS2.out; omega, hq.2.1⟩⟩
            · rcases h2 q hq with h | h
              · exact .inl h
              · right; right; have := HS2.out; omega
            · rw [← List.append_assoc]; exact h1
            · rcases h2 q hq with h | h
              · exact HOO.out q h
              · right; have := HS2.out; have := HVS.out; omega
          have HF : Hid (∀ V3, (Jx (plaV f s k ++ pre'.map (fun r => (k : Int) :: r) ++ [(k : Int) :: x']) V3 ∧ Lies (fun q => (W.heap.size ≤ q ∨ PlaK b1 b2 q) ∧ q < V2.heap.size ∧ ¬ S' q) V2 V3) →
              (Code.ret = Code.ret ∧ (∃ pre, pre <+: (plaR (f + 1) s).map castT ∧ Jx pre V3) ∧ Marks W.heap.size ds V3) ∧ Lies (fun q => (w6.heap.size ≤ q ∨ PlaK q1 q2 q) ∧ q < V.heap.size ∧ ¬ S' q ∧ ¬ (fun q => q = bx) q) V2 V3) := fun V3 ⟨h1, h2⟩ => by
            refine ⟨⟨rfl, ⟨_, ⟨rest, ?_⟩, h1⟩, ?_⟩, h2.mono fun q _ hq => ⟨?_, by have := HS2.out; omega, hq.2.2.1⟩⟩
            · rw [HREST.out]; simp
            · refine (HM6.out.marks.keep fun q _ hq ⟨d, hd, e⟩ => ?_)
              have hm := HOWN.out q (.inr (.inr (e ▸ hd)))
              have hm2 := HOW2.out q (.inr (.inr (e ▸ hd)))
              have hlt2 := Nat.lt_of_lt_of_le hm.1 HLI2.out.size
              rw [h2.block q hlt2 ⟨.inl hm.2.1, hlt2, hm2.2.1⟩]
              exact HLI2.out.block q hm.1 (.inr (.inr (e ▸ hd)))
            · rcases hq.1 with h | h
              · left; have := HWR.out; omega
              · left; have := HKW.out q h; exact this
          clear hrest hli2 hown' hs2 ho g' g2 hli hbg hSo hSl hGl hl1 hl2 ht hx' hrw hrw2 hfx hN hc1 hc2 hfr hxl
          gi_wp2
          gi_region_with_o (first | (refine ⟨trivial, ?_⟩; gi_at_call 96; refine (CallsIn.inRound l' (callsIn_wide.2 HCC.out)).mono ?_; rintro e w4 ⟨gb, cap, rfl, hb4, hg1, hg2, hr4⟩; have ey4 := (hb4.cell (p := ⟨W.heap.size, 0, none⟩) ly).trans ey; obtain ⟨fn, tmps, assign, body, hy, hR⟩ := HRY.out gb cap w4 hb4 hg1 hg2 hr4; have HRR := Lib.hid hR; clear hR hr4 hb4) | (refine RoundIn.mono HRR.out ?_; rintro e V3 ⟨b, rfl, hb1, hb2⟩))
          all_goals cases b
          all_goals gi_wp2
          all_goals first
            | (obtain ⟨S3, hS3⟩ := hb1 (by first | rfl | trivial); exact HT.out _ S3 hS3)
            | (have hx2 := hb2 (by first | rfl | trivial); have h9 := HF.out _ hx2; exact ⟨⟨rfl, h9.1.2⟩, h9.2⟩)
        case hdone =>
          rintro D S' V hD hSo hSD ⟨g', hli, ho⟩ hKD
          have hwk : IntKind.i64.wrap ((k : Int) + 1) = (k : Int) + 1 := IntWalk.i64_in _ ⟨by omega, by omega⟩
          have HGD : Hid (Going (PlaK b1 b2) S0 S' w W V J (plaV f s (k + 1))) := by show Going _ _ _ _ _ _ _ _; rw [plaV_next, HD.out]; exact g'
          have HMD : Hid (MineR W.heap.size (.func (.yield l) #[] #[]) ({ target := .collected D, args := #[] } :: ds) S' V) :=
            (HM6.out.lies hli (fun q hq => .inr hq) ho).more (by have := HWR.out; omega) (fun q hq e => by have := (HOWN.out q (.inr (.inr hq))).1; omega) hSD hKD
          clear g' hli ho hKD hSD hSo
          gi_wp2
          clear hwk
          exact ⟨⟨_, _, _, _, _, _, _, _, _, _, _, _, _, _, _, _, _, _, _, _, _, _, _, _, _, k + 1, _, S', rfl, by simp, by omega, HGD.out, HMD.out⟩, by simp [intOf]; omega⟩
        case hstop =>
          rintro D cc pre' V hD hp ⟨rfl, ⟨pre, h1, h2⟩, hm⟩ hKD
          have HMM2 : Hid (Marks W.heap.size ({ target := .collected D, args := #[] } :: ds) V) :=
            ⟨D, rfl, by have := HWR.out; omega, hKD, fun d' hd' e => by have := (HOWN.out D (.inr (.inr (e ▸ hd')))).1; omega, hm⟩
          gi_wp2
          refine marks_leave HMM2.out ?_
          intro w' hb
          exact ⟨_, results_none rfl _ _ _, ⟨_, rfl⟩, .inr ⟨pre, h1, HJX.out _ _ _ h2 hb⟩⟩
      · have hkl : k = s + 1 := by omega
        have hall : plaV f s k = (plaR (f + 1) s).map castT := by rw [hkl]; exact plaV_all f s
        have HG2 := HG
        rw [hall] at HG2
        clear hall hkl
        gi_wp2
        refine marks_leaveS HM.out.marks ?_
        intro w' hs hl
        refine ⟨_, results_none rfl _ _ _, ⟨_, rfl⟩, .inl ⟨S, HG2.out.of, HJ.out _ _ _ _ HG2.out.inv (hl.mono fun q hq hh d hd e => ?_)⟩⟩
        rcases hh with h | h
        · have := (HM.out.lt (.inr (e ▸ hd))).1; omega
        · exact HM.out.apart q (.inr (e ▸ hd)) h

end Go.Proofs.Ytanfefgigepdcaa
