/- The walk of the law of FieldWorth, over contracts of the program's functions. (Written by wip/gen/law8.py.) -/
import Derived.Test.YtcfmfpkmcngacaaNB
import Derived.Test.YtcfmfpkmcngacaaNA
import Derived.Test.YtcfmfpkmcngacaaLawT
import Derived.Test.YtcfmfpkmcngacaaMA
import Derived.Test.YtcfmfpkmcngacaaMO
import Derived.Test.YtcfmfpkmcngacaaMI
namespace Go.Proofs.Ytcfmfpkmcngacaa
set_option linter.unusedSimpArgs false
set_option linter.unusedVariables false
open Go.RowKit

set_option maxHeartbeats 4000000 in
set_option maxRecDepth 100000 in
theorem wFnFieldWorth (I : Impl8) (a : Option Addr) (len cap : Nat) (zs : List Int) (w : World) (h : IsRow .u8 w a len cap zs) :
    Calls Try.prog 8 #[.slice a len cap] w fun e w' => e = .returned (.bool true) ∧ Below w.heap.size w w' := by
  have hle := byte_len h
  by_cases hbig : (1048576 : Int) < (len : Int)
  · go_enter Try.func8, Try.ntmps8
    go_wp2_with fail
    go_ret
    exact ⟨rfl, Below.refl _ _⟩
  go_enter Try.func8, Try.ntmps8
  go_wp2_with fail
  refine (dDrawFieldWorth a len cap zs w h).mono ?_
  rintro e w1 ⟨R, C, S, rfl, ⟨p1, p2, p3, p4, f3⟩, hb1⟩
  clear hbig hle
  have BEL0 := Lib.hid hb1
  have f1 := wf_16 (z := R) (by omega) (by omega)
  have f2 := wf_16 (z := C) (by omega) (by omega)
  clear hb1
  unfold fldV
  obtain ⟨WB, hWB⟩ : ∃ WB : World, WB = w1.alloc (.cells #[.int .i64 R, .int .i64 C, .int .i64 S] 24) := ⟨_, rfl⟩
  have hbWB : Below w1.heap.size w1 WB := by rw [hWB]; exact (Below.refl _ _).alloc (Nat.le_refl _) _
  have FB : Hid (Box3 WB w1.heap.size R C S) := by show Box3 _ _ _ _ _; rw [hWB]; exact Box3.new w1 R C S
  have cX0 := FB.out.c0
  have cX1 := FB.out.c1
  have cX2 := FB.out.c2
  rw [hWB] at cX0 cX1 cX2
  have HWB := Lib.hid hWB
  clear hWB
  go_wp2_with fail
  rw [← HWB.out]
  clear cX0 cX1 cX2
  replace BEL0 := Lib.hid (belT BEL0.out hbWB)
  clear hbWB
  have HWI : Hid (∀ w', Calls Try.prog 39 #[.agg #[.int .i64 R, .int .i64 C, .int .i64 S]] w' (Adds (FracRes (fwU R C S) (fwD R C S) (fldB R C S)) w')) := fun w' => I.worth R C S f1 f2 f3 w'
  have HWS : Hid (∀ w', Calls Try.prog 40 #[.agg #[.int .i64 R, .int .i64 C, .int .i64 S]] w' (Adds (FracRes (fwU R C S) (fwD R C S) (fldB R C S)) w')) := fun w' => fieldWorth_spec R C S w'
  rcases hb : fldB R C S with _ | _
  · skip
    have HN := Lib.hid (fld_no hb)
    rw [HN.out.2.2.2.2.1, HN.out.2.2.2.2.2, hb] at HWI HWS
    clear hb
    refine (HWI.out _).mono ?_
    rintro e w2 ⟨rfl, hb2⟩
    replace FB := Lib.hid (FB.out.still hb2)
    replace BEL0 := Lib.hid (belT BEL0.out hb2)
    clear hb2
    try unfold FracRes
    have cB0 := FB.out.c0
    have cB1 := FB.out.c1
    have cB2 := FB.out.c2
    have ltB := FB.out.lt
    go_wp2_with fail
    obtain ⟨WFA, hWFA⟩ : ∃ WFA : World, WFA = w2.alloc (.cells #[.int .i64 0, .int .i64 0] 40) := ⟨_, rfl⟩
    have hbWFA : Below w2.heap.size w2 WFA := by rw [hWFA]; exact (Below.refl _ _).alloc (Nat.le_refl _) _
    have FA : Hid (Box2 WFA w2.heap.size 0 0) := by show Box2 _ _ _ _; rw [hWFA]; exact Box2.new _ _ _
    rw [← hWFA]
    clear hWFA
    replace FB := Lib.hid (FB.out.still hbWFA)
    replace BEL0 := Lib.hid (belT BEL0.out hbWFA)
    clear hbWFA
    clear cB0 cB1 cB2 ltB
    refine (HWS.out _).mono ?_
    rintro e w3 ⟨rfl, hb3⟩
    replace FB := Lib.hid (FB.out.still hb3)
    replace FA := Lib.hid (FA.out.still hb3)
    replace BEL0 := Lib.hid (belT BEL0.out hb3)
    clear hb3
    try unfold FracRes
    have cFA0 := FA.out.c0
    have cFA1 := FA.out.c1
    have ltA := FA.out.lt
    go_wp2_with fail
    clear cFA0 cFA1 ltA
    refine (alive _).mono ?_
    rintro e w99 ⟨rfl, hb9⟩
    have hb8 := Lib.hid (belT (w := w3) (by exact (by repeat (first | exact Below.refl _ _ | assumption | exact bel1 (by assumption) | exact bel2 (by assumption) | exact bel3 (by assumption) | exact bel4 (by assumption) | refine Below.drew ?_ | refine below_drewN ?_ _ | refine Below.setCell ?_ (by first | (simp; done) | (simp; omega)) _ | refine Below.alloc ?_ (by first | (simp; done) | (simp; omega)) _))) hb9)
    clear hb9
    go_wp2_with fail
    go_ret
    exact ⟨by first | rfl | (simp; done) | (simp; omega), belT BEL0.out hb8.out⟩
  have HF := Lib.hid (fld_facts hb)
  have hgl : (fldG R C S).length ≤ maxLen := small_max (by have := (fldG_len R C S).1; omega)
  obtain ⟨r, c, s, rfl, rfl, rfl, hf⟩ := fld_nat hb
  have hq := hf.rc
  have hs16 : s < 65536 := Nat.lt_of_lt_of_le hf.shi (Nat.pow_le_pow_right (by omega) hq.2)
  obtain ⟨q, hqe⟩ : ∃ q, r * c = q := ⟨_, rfl⟩
  have hrc : (r : Int) * (c : Int) = (q : Int) := by rw [← hqe]; simp
  rw [hqe] at hq
  have hrw : IntKind.i64.wrap (q : Int) = (q : Int) := IntWalk.i64_in _ ⟨by omega, by omega⟩
  have hy := fld_yes hf
  obtain ⟨M, hM⟩ : ∃ M : Nat, mosV (r : Int) (c : Int) (s : Int) = (M : Int) := ⟨_, hy.1⟩
  have hMm : mst r c s r 0 = M := by have := hy.1; omega
  rw [hy.2.2.2.2.1, hy.2.2.2.2.2, hMm, hb] at HWI HWS
  have HWT : Hid (∀ w', Calls Try.prog 39 #[.agg #[.int .i64 (c : Int), .int .i64 (r : Int), .int .i64 ((trn r c s q : Nat) : Int)]] w' (Adds (FracRes 1 (M : Int) true) w')) := fun w' => by
    have ht := hf.trn
    have hyt := fld_yes ht
    have hlt := trn_lt (s := s) hf.rlo hf.clo (r * c) (Nat.le_refl _)
    have hcr : c * r ≤ 16 := by rw [Nat.mul_comm]; exact hf.rc.2
    have h6 : trn r c s (r * c) < 65536 := Nat.lt_of_lt_of_le hlt (Nat.pow_le_pow_right (by omega) hcr)
    have := I.worth (c : Int) (r : Int) ((trn r c s (r * c) : Nat) : Int) f2 f1 (wf_16 (by omega) (by omega)) w'
    rw [hyt.2.2.2.2.1, hyt.2.2.2.2.2, fld_trn hf, hMm, ht.to] at this
    rw [← hqe]; exact this
  have HSOL := Lib.hid HF.out.sol
  rw [hM] at HSOL
  have HTR : Hid (∀ k, k < q → trn r c s k < 65536 ∧ k % c * r + k / c < 16) := fun k hk => by
    have hcr : c * r ≤ 16 := by rw [Nat.mul_comm]; exact hf.rc.2
    have h1 := trn_lt (s := s) hf.rlo hf.clo k (by rw [hqe]; omega)
    refine ⟨Nat.lt_of_lt_of_le h1 (Nat.pow_le_pow_right (by omega) hcr), ?_⟩
    have hd := cellF_of (r := r) (c := c) (k := k) (by rw [hqe]; exact hk) hf.clo
    have := cell_lt (r := c) (c := r) hd.2.1 hd.1
    omega
  have hcl := hf.clo
  have hch := hf.chi
  have hrl := hf.rlo
  have hrh := hf.rhi
  clear hb hy hM hMm hqe HF hf
  refine (HWI.out _).mono ?_
  rintro e w2 ⟨rfl, hb2⟩
  replace FB := Lib.hid (FB.out.still hb2)
  replace BEL0 := Lib.hid (belT BEL0.out hb2)
  clear hb2
  try unfold FracRes
  have cB0 := FB.out.c0
  have cB1 := FB.out.c1
  have cB2 := FB.out.c2
  have ltB := FB.out.lt
  go_wp2_with fail
  obtain ⟨WFA, hWFA⟩ : ∃ WFA : World, WFA = w2.alloc (.cells #[.int .i64 1, .int .i64 (M : Int)] 40) := ⟨_, rfl⟩
  have hbWFA : Below w2.heap.size w2 WFA := by rw [hWFA]; exact (Below.refl _ _).alloc (Nat.le_refl _) _
  have FA : Hid (Box2 WFA w2.heap.size 1 (M : Int)) := by show Box2 _ _ _ _; rw [hWFA]; exact Box2.new _ _ _
  rw [← hWFA]
  clear hWFA
  replace FB := Lib.hid (FB.out.still hbWFA)
  replace BEL0 := Lib.hid (belT BEL0.out hbWFA)
  clear hbWFA
  clear cB0 cB1 cB2 ltB
  refine (HWS.out _).mono ?_
  rintro e w3 ⟨rfl, hb3⟩
  replace FB := Lib.hid (FB.out.still hb3)
  replace FA := Lib.hid (FA.out.still hb3)
  replace BEL0 := Lib.hid (belT BEL0.out hb3)
  clear hb3
  try unfold FracRes
  have zM : ((M : Int) != (M : Int)) = false := by simp
  obtain ⟨V0, hV0⟩ : ∃ V0 : World, V0 = w3.alloc (.cells #[.int .i64 1, .int .i64 (M : Int)] 40) := ⟨_, rfl⟩
  have hbV0 : Below w3.heap.size w3 V0 := by rw [hV0]; exact (Below.refl _ _).alloc (Nat.le_refl _) _
  have FX : Hid (Box2 V0 w3.heap.size 1 (M : Int)) := by show Box2 _ _ _ _; rw [hV0]; exact Box2.new _ _ _
  have HV0 := Lib.hid hV0
  have hzV0 : Hid (V0.heap.size = w3.heap.size + 1) := by show V0.heap.size = _; rw [hV0]; simp
  clear hV0
  have cB0 := FB.out.c0
  have cB1 := FB.out.c1
  have cB2 := FB.out.c2
  have ltB := FB.out.lt
  have cFA0 := FA.out.c0
  have cFA1 := FA.out.c1
  have ltA := FA.out.lt
  go_wp2_with fail
  clear cFA0 cFA1 ltA
  clear cB0 cB1 cB2 ltB
  rw [← HV0.out]
  obtain ⟨bt, hbt⟩ : ∃ bt, bt = w3.heap.size + 1 := ⟨_, rfl⟩
  rw [← hbt]
  have HZ : Hid (V0.heap.size = bt) := by show _ = _; rw [hbt]; exact hzV0.out
  clear hbt hzV0 HV0 FX
  replace FB := Lib.hid (FB.out.still hbV0)
  replace FA := Lib.hid (FA.out.still hbV0)
  replace BEL0 := Lib.hid (belT BEL0.out hbV0)
  clear hbV0
  have hbt0 : Below V0.heap.size V0 (V0.alloc (.cells #[.int .i64 (c : Int), .int .i64 (r : Int), .int .i64 0] 24)) := (Below.refl _ _).alloc (Nat.le_refl _) _
  have HT0 : Hid ((V0.alloc (.cells #[.int .i64 (c : Int), .int .i64 (r : Int), .int .i64 0] 24)).rowIs bt 24 3 (fun i => (#[.int .i64 (c : Int), .int .i64 (r : Int), .int .i64 ((trn r c s 0 : Nat) : Int)] : Array Value).getD i undef)) := by
    show World.rowIs _ _ _ _ _
    rw [← HZ.out]; exact World.rowIs_alloc V0 #[.int .i64 (c : Int), .int .i64 (r : Int), .int .i64 0] 24 _ (fun i hi => by simp at hi; have : i = 0 ∨ i = 1 ∨ i = 2 := (by omega); rcases this with rfl | rfl | rfl <;> rfl)
  have HB0 := Lib.hid hbt0
  have hzt : bt < (V0.alloc (.cells #[.int .i64 (c : Int), .int .i64 (r : Int), .int .i64 0] 24)).heap.size := by rw [World.size_alloc, HZ.out]; omega
  have HBN : Hid (w1.heap.size < bt) := by show _ < _; rw [← HZ.out]; exact FB.out.lt
  clear hbt0
  go_loopw [9] (fun i wr => ∃ k : Nat, k ≤ q ∧ i = .int .i64 (k : Int) ∧ Hid (Below V0.heap.size V0 wr) ∧ Hid (wr.rowIs bt 24 3 (fun i => (#[.int .i64 (c : Int), .int .i64 (r : Int), .int .i64 ((trn r c s k : Nat) : Int)] : Array Value).getD i undef)) ∧ bt < wr.heap.size) (fun i _ => q - (intOf i).toNat)
  case atStart => exact ⟨0, Nat.zero_le _, rfl, HB0, HT0, hzt⟩
  case round =>
    clear HB0 HT0 hzt
    obtain ⟨k, hk, rfl, HV, HT, hbtw⟩ := hrel
    have HBr := Lib.hid (FB.out.still HV.out)
    have cB0 := HBr.out.c0
    have cB1 := HBr.out.c1
    have cB2 := HBr.out.c2
    have ltB := HBr.out.lt
    by_cases hlt : k < q
    · have hlt2 : (k : Int) < (q : Int) := by omega
      rcases hbk : bP s k with _ | _
      · have e1 := bit_no hbk
        have HTK : Hid (trn r c s (k + 1) = trn r c s k) := by show _ = _; simp only [trn, hbk]; rfl
        clear hbk
        go_wp2_with fail
        clear cB0 cB1 cB2 ltB
        go_roundw
        case rel => exact ⟨k + 1, by omega, by go_num, HV, by rw [HTK.out]; exact HT.out, hbtw⟩
        case measure => simp [intOf]; omega
      · have e1 := bit_yes hbk
        have HTK : Hid (trn r c s (k + 1) = orB (trn r c s k) (k % c * r + k / c)) := by show _ = _; simp only [trn, hbk]; rfl
        obtain ⟨ht6, he6⟩ := HTR.out k hlt
        obtain ⟨T, hT⟩ : ∃ T : Nat, trn r c s k = T := ⟨_, rfl⟩
        rw [hT] at HT HTK ht6
        obtain ⟨am, ham⟩ : ∃ am : Nat, k % c = am := ⟨_, rfl⟩
        obtain ⟨dd, hdd⟩ : ∃ dd : Nat, k / c = dd := ⟨_, rfl⟩
        have m1 : (k : Int).tmod (c : Int) = (am : Int) := by rw [Int.tmod_eq_emod_of_nonneg (by omega), ← ham]; rfl
        have m2 : (k : Int).tdiv (c : Int) = (dd : Int) := by rw [Int.tdiv_eq_ediv_of_nonneg (by omega), ← hdd]; rfl
        rw [ham, hdd] at HTK he6
        obtain ⟨pp, hpp⟩ : ∃ pp : Nat, am * r = pp := ⟨_, rfl⟩
        rw [hpp] at HTK he6
        have m3 : (am : Int) * (r : Int) = (pp : Int) := by rw [← hpp]; simp
        obtain ⟨ee, hee⟩ : ∃ ee : Nat, pp + dd = ee := ⟨_, rfl⟩
        rw [hee] at HTK he6
        have m4 : (pp : Int) + (dd : Int) = (ee : Int) := by omega
        have ham4 : am ≤ 16 := by rw [← ham]; have := Nat.mod_lt k (show 0 < c by omega); omega
        have hdd4 : dd ≤ 16 := by rw [← hdd]; exact Nat.le_trans (Nat.div_le_self _ _) (by omega)
        have w1' : IntKind.i64.wrap (am : Int) = (am : Int) := IntWalk.i64_in _ ⟨by omega, by omega⟩
        have w2' : IntKind.i64.wrap (dd : Int) = (dd : Int) := IntWalk.i64_in _ ⟨by omega, by omega⟩
        have w3' : IntKind.i64.wrap (pp : Int) = (pp : Int) := IntWalk.i64_in _ ⟨by omega, by omega⟩
        have w4' : IntKind.i64.wrap (ee : Int) = (ee : Int) := IntWalk.i64_in _ ⟨by omega, by omega⟩
        have hcn : ¬ c = 0 := by omega
        have hcz : ((c : Int) == 0) = false := by rw [beq_eq_false_iff_ne]; omega
        have hor := orI ht6 he6
        obtain ⟨o, ho⟩ : ∃ o : Nat, orB T ee = o := ⟨_, rfl⟩
        rw [ho] at hor HTK
        have P0 : FldS bt wr bt (c : Int) (r : Int) wr := ⟨Nat.le_refl _, fun _ _ _ _ => rfl, ((T : Nat) : Int), HT.out⟩
        have hz : zOf wr bt = ((T : Nat) : Int) := by unfold zOf; rw [HT.out.cell (i := 2) (by omega)]; rfl
        have hz' : zOf wr.drew bt = ((T : Nat) : Int) := hz
        have E4 : ∀ w1, FldS bt wr bt (c : Int) (r : Int) w1 → w1.cell? ⟨bt, 2, none⟩ = some (.int .i64 (zOf w1 bt)) := fun _ h => h.cell
        have E5 : ∀ w1, FldS bt wr bt (c : Int) (r : Int) w1 → w1.frozen? ⟨bt, 2, none⟩ = false := fun _ h => h.frozen 2
        have hne : w1.heap.size ≠ bt := by have := HBN.out; omega
        have E0 : ∀ V, FldS bt wr bt (c : Int) (r : Int) V → V.cell? ⟨w1.heap.size, 0, none⟩ = some (.int .i64 (r : Int)) := fun V h => (World.cell?_of_block (w := wr) (h.block _ HBr.out.lt hne hne)).trans HBr.out.c0
        have E1 : ∀ V, FldS bt wr bt (c : Int) (r : Int) V → V.cell? ⟨w1.heap.size, 1, none⟩ = some (.int .i64 (c : Int)) := fun V h => (World.cell?_of_block (w := wr) (h.block _ HBr.out.lt hne hne)).trans HBr.out.c1
        have o1 := hor.1
        have o2 := hor.2.1
        have o3 := hor.2.2
        clear hbk ham hdd hpp hee hor ho hT hne
        go_wp2_with fail
        clear cB0 cB1 cB2 ltB
        refine wp_region_held_drew (S := fun w' => FldS bt wr bt (c : Int) (r : Int) w') (by kernel_rfl) (by first | exact FldS.drew (by assumption)) (fun hHeld => ?_)
        refine wpAnyH_take (i := 0) (v := ?vh1) rfl (by kernel_rfl) (by kernel_rfl) (by kernel_rfl) (fun _ _ _ h => h) (Or.inl ⟨by rfl, ?yh1⟩) (by assumption) ?zh1
        case yh1 => (intro w hSw; go_simp; first | done | with_reducible rfl)
        try simp only [List.getElem_toArray, List.getElem_cons_succ, List.getElem_cons_zero, Act.put, List.setIfInBounds_toArray, List.set_cons_zero, List.set_cons_succ]
        refine wpAnyH_take (i := 2) (v := ?vh2) rfl (by kernel_rfl) (by kernel_rfl) (by kernel_rfl) (fun _ _ _ h => h) (Or.inl ⟨by rfl, ?yh2⟩) (by assumption) ?zh2
        case yh2 => (intro w hSw; go_simp; first | done | with_reducible rfl)
        try simp only [List.getElem_toArray, List.getElem_cons_succ, List.getElem_cons_zero, Act.put, List.setIfInBounds_toArray, List.set_cons_zero, List.set_cons_succ]
        refine wpAnyH_take (i := 3) (v := ?vh3) rfl (by kernel_rfl) (by kernel_rfl) (by kernel_rfl) (fun _ _ _ h => h) (Or.inl ⟨by rfl, ?yh3⟩) (by assumption) ?zh3
        case yh3 => (intro w hSw; go_simp; first | done | with_reducible rfl)
        try simp only [List.getElem_toArray, List.getElem_cons_succ, List.getElem_cons_zero, Act.put, List.setIfInBounds_toArray, List.set_cons_zero, List.set_cons_succ]
        refine wpAnyH_take (i := 4) (v := ?vh4) rfl (by kernel_rfl) (by kernel_rfl) (by kernel_rfl) (fun _ _ _ h => h) (Or.inl ⟨by rfl, ?yh4⟩) (by assumption) ?zh4
        case yh4 => (intro w hSw; go_simp; first | done | with_reducible rfl)
        try simp only [List.getElem_toArray, List.getElem_cons_succ, List.getElem_cons_zero, Act.put, List.setIfInBounds_toArray, List.set_cons_zero, List.set_cons_succ]
        refine wpAnyH_take (i := 5) (v := ?vh5) rfl (by kernel_rfl) (by kernel_rfl) (by kernel_rfl) (fun _ _ _ h => h) (Or.inl ⟨by rfl, ?yh5⟩) (by assumption) ?zh5
        case yh5 => (intro w hSw; go_simp; first | done | with_reducible rfl)
        try simp only [List.getElem_toArray, List.getElem_cons_succ, List.getElem_cons_zero, Act.put, List.setIfInBounds_toArray, List.set_cons_zero, List.set_cons_succ]
        refine wpAnyH_take (i := 6) (v := ?vh6) rfl (by kernel_rfl) (by kernel_rfl) (by kernel_rfl) (fun _ _ _ h => h) (Or.inl ⟨by rfl, ?yh6⟩) (by assumption) ?zh6
        case yh6 => (intro w hSw; go_simp; first | done | with_reducible rfl)
        try simp only [List.getElem_toArray, List.getElem_cons_succ, List.getElem_cons_zero, Act.put, List.setIfInBounds_toArray, List.set_cons_zero, List.set_cons_succ]
        refine wpAnyH_take (i := 7) (v := ?vh7) rfl (by kernel_rfl) (by kernel_rfl) (by kernel_rfl) (fun _ _ _ h => h) (Or.inl ⟨by rfl, ?yh7⟩) (by assumption) ?zh7
        case yh7 => (intro w hSw; go_simp; first | done | with_reducible rfl)
        try simp only [List.getElem_toArray, List.getElem_cons_succ, List.getElem_cons_zero, Act.put, List.setIfInBounds_toArray, List.set_cons_zero, List.set_cons_succ]
        refine wpAnyH_take (i := 8) (v := ?vh8) rfl (by kernel_rfl) (by kernel_rfl) (by kernel_rfl) (fun _ _ _ h => h) (Or.inl ⟨by rfl, ?yh8⟩) (by assumption) ?zh8
        case yh8 => (intro w hSw; go_simp; first | done | with_reducible rfl)
        try simp only [List.getElem_toArray, List.getElem_cons_succ, List.getElem_cons_zero, Act.put, List.setIfInBounds_toArray, List.set_cons_zero, List.set_cons_succ]
        refine wpAnyH_take (i := 9) (v := ?vh9) rfl (by kernel_rfl) (by kernel_rfl) (by kernel_rfl) (fun _ _ _ h => h) (Or.inl ⟨by rfl, ?yh9⟩) (by assumption) ?zh9
        case yh9 => (intro w hSw; go_simp; first | done | with_reducible rfl)
        try simp only [List.getElem_toArray, List.getElem_cons_succ, List.getElem_cons_zero, Act.put, List.setIfInBounds_toArray, List.set_cons_zero, List.set_cons_succ]
        refine wpAnyH_take (i := 10) (v := ?vh10) rfl (by kernel_rfl) (by kernel_rfl) (by kernel_rfl) (fun _ _ _ h => h) (Or.inl ⟨by rfl, ?yh10⟩) (by assumption) ?zh10
        case yh10 => (intro w hSw; go_simp; first | done | with_reducible rfl)
        try simp only [List.getElem_toArray, List.getElem_cons_succ, List.getElem_cons_zero, Act.put, List.setIfInBounds_toArray, List.set_cons_zero, List.set_cons_succ]
        refine wpAnyH_take (i := 11) (v := ?vh11) rfl (by kernel_rfl) (by kernel_rfl) (by kernel_rfl) (fun _ _ _ h => h) (Or.inl ⟨by rfl, ?yh11⟩) (by assumption) ?zh11
        case yh11 => (intro w hSw; go_simp; first | done | with_reducible rfl)
        try simp only [List.getElem_toArray, List.getElem_cons_succ, List.getElem_cons_zero, Act.put, List.setIfInBounds_toArray, List.set_cons_zero, List.set_cons_succ]
        refine wpAnyH_take (i := 12) (v := ?vh12) rfl (by kernel_rfl) (by kernel_rfl) (by kernel_rfl) (fun _ _ _ h => h) (Or.inl ⟨by rfl, ?yh12⟩) (by assumption) ?zh12
        case yh12 => (intro w hSw; go_simp; first | done | with_reducible rfl)
        try simp only [List.getElem_toArray, List.getElem_cons_succ, List.getElem_cons_zero, Act.put, List.setIfInBounds_toArray, List.set_cons_zero, List.set_cons_succ]
        refine wpAnyH_take (i := 13) (v := ?vh13) rfl (by kernel_rfl) (by kernel_rfl) (by kernel_rfl) (fun _ _ _ h => h) (Or.inl ⟨by rfl, ?yh13⟩) (by assumption) ?zh13
        case yh13 => (intro w hSw; go_simp; first | done | with_reducible rfl)
        try simp only [List.getElem_toArray, List.getElem_cons_succ, List.getElem_cons_zero, Act.put, List.setIfInBounds_toArray, List.set_cons_zero, List.set_cons_succ]
        refine wpAnyH_take (i := 14) (v := ?vh14) rfl (by kernel_rfl) (by kernel_rfl) (by kernel_rfl) (fun _ _ _ h => h) (Or.inl ⟨by rfl, ?yh14⟩) (by assumption) ?zh14
        case yh14 => (intro w hSw; go_simp; first | done | with_reducible rfl)
        try simp only [List.getElem_toArray, List.getElem_cons_succ, List.getElem_cons_zero, Act.put, List.setIfInBounds_toArray, List.set_cons_zero, List.set_cons_succ]
        refine wpAnyH_ready (rs := [1]) (by kernel_rfl) (by simp) ?_
        refine AllReadyH.cons rfl (fun K hK => ?_) AllReadyH.nil
        go_simp
        refine hK.out _ _ (by first | assumption | exact FldS.drew (by assumption) | exact FldS.store _ (by assumption)) (fun hHeld => ?_)
        clear hK K
        try simp only [List.getElem_toArray, List.getElem_cons_succ, List.getElem_cons_zero, Act.put, List.setIfInBounds_toArray, List.set_cons_zero, List.set_cons_succ]
        refine wpAnyH_take (i := 15) (v := ?vh15) rfl (by kernel_rfl) (by kernel_rfl) (by kernel_rfl) (fun _ _ _ h => h) (Or.inl ⟨by rfl, ?yh15⟩) (by assumption) ?zh15
        case yh15 => (intro w hSw; go_simp; first | done | with_reducible rfl)
        try simp only [List.getElem_toArray, List.getElem_cons_succ, List.getElem_cons_zero, Act.put, List.setIfInBounds_toArray, List.set_cons_zero, List.set_cons_succ]
        refine wpAnyH_take (i := 16) (v := ?vh16) rfl (by kernel_rfl) (by kernel_rfl) (by kernel_rfl) (fun _ _ _ h => h) (Or.inl ⟨by rfl, ?yh16⟩) (by assumption) ?zh16
        case yh16 => (intro w hSw; go_simp; first | done | with_reducible rfl)
        try simp only [List.getElem_toArray, List.getElem_cons_succ, List.getElem_cons_zero, Act.put, List.setIfInBounds_toArray, List.set_cons_zero, List.set_cons_succ]
        refine wpAnyH_ready (rs := [17]) (by kernel_rfl) (by simp) ?_
        refine AllReadyH.cons rfl (fun K hK => ?_) AllReadyH.nil
        go_simp
        refine hK.out _ _ (by first | assumption | exact FldS.drew (by assumption) | exact FldS.store _ (by assumption)) (fun hHeld => ?_)
        clear hK K
        try simp only [List.getElem_toArray, List.getElem_cons_succ, List.getElem_cons_zero, Act.put, List.setIfInBounds_toArray, List.set_cons_zero, List.set_cons_succ]
        refine wpAnyH_done (by kernel_rfl) ?_ _
        have hN : World.rowIs ((wr.setCell ⟨bt, 2, none⟩ (.int .i64 ((o : Nat) : Int))).drew) bt 24 3 (fun i => (#[.int .i64 (c : Int), .int .i64 (r : Int), .int .i64 ((o : Nat) : Int)] : Array Value).getD i undef) :=
          (World.rowIs.congr (HT.out.set 2 (.int .i64 ((o : Nat) : Int))) fun i hi => by
            have : i = 0 ∨ i = 1 ∨ i = 2 := by omega
            rcases this with rfl | rfl | rfl <;> rfl)
        have HN := Lib.hid hN
        have HV2 : Hid (Below V0.heap.size V0 ((wr.setCell ⟨bt, 2, none⟩ (.int .i64 ((o : Nat) : Int))).drew)) := (HV.out.setCell (p := ⟨bt, 2, none⟩) (by show V0.heap.size ≤ bt; have := HZ.out; omega) _).drew
        have hbt2 : bt < ((wr.setCell ⟨bt, 2, none⟩ (.int .i64 ((o : Nat) : Int))).drew).heap.size := by show bt < (wr.setCell _ _).heap.size; simpa [World.setCell] using hbtw
        clear hN P0 E4 E5 E0 E1 hz hz' o1 o2 o3 m1 m2 m3 m4
        go_wp2_with fail
        go_roundw
        case rel => exact ⟨k + 1, by omega, by go_num, HV2, by rw [HTK.out]; exact HN.out, hbt2⟩
        case measure => simp [intOf]; omega
    · obtain rfl : k = q := by omega
      have t0 := HT.out.cell (i := 0) (by omega)
      have t1 := HT.out.cell (i := 1) (by omega)
      have t2 := HT.out.cell (i := 2) (by omega)
      have hbtl := HT.out.lt
      go_wp2_with fail
      clear cB0 cB1 cB2 ltB t0 t1 t2 hbtl
      have hbV := HV.out
      clear HV
      replace FB := Lib.hid (FB.out.still hbV)
      replace FA := Lib.hid (FA.out.still hbV)
      replace BEL0 := Lib.hid (belT BEL0.out hbV)
      clear hbV HT
      refine (HWT.out _).mono ?_
      rintro e w21 ⟨rfl, hb21⟩
      replace FB := Lib.hid (FB.out.still hb21)
      replace FA := Lib.hid (FA.out.still hb21)
      replace BEL0 := Lib.hid (belT BEL0.out hb21)
      clear hb21
      try unfold FracRes
      have cB0 := FB.out.c0
      have cB1 := FB.out.c1
      have cB2 := FB.out.c2
      have ltB := FB.out.lt
      go_wp2_with fail
      obtain ⟨WFV, hWFV⟩ : ∃ WFV : World, WFV = w21.alloc (.cells #[.int .i64 1, .int .i64 (M : Int)] 40) := ⟨_, rfl⟩
      have hbWFV : Below w21.heap.size w21 WFV := by rw [hWFV]; exact (Below.refl _ _).alloc (Nat.le_refl _) _
      have FV : Hid (Box2 WFV w21.heap.size 1 (M : Int)) := by show Box2 _ _ _ _; rw [hWFV]; exact Box2.new _ _ _
      rw [← hWFV]
      clear hWFV
      replace FB := Lib.hid (FB.out.still hbWFV)
      replace FA := Lib.hid (FA.out.still hbWFV)
      replace BEL0 := Lib.hid (belT BEL0.out hbWFV)
      clear hbWFV
      clear cB0 cB1 cB2 ltB
      refine (I.game (r : Int) (c : Int) (s : Int) f1 f2 f3 _).mono ?_
      rintro e w22 ⟨TG, cG, rfl, hb22, ho22⟩
      have G0 := Lib.hid ho22.lt
      replace FB := Lib.hid (FB.out.still hb22)
      replace FA := Lib.hid (FA.out.still hb22)
      replace FV := Lib.hid (FV.out.still hb22)
      replace BEL0 := Lib.hid (belT BEL0.out hb22)
      clear hb22 ho22
      go_wp2_with fail
      refine (worth_impl _ _ (fldG (r : Int) (c : Int) (s : Int)) hgl _ G0.out).mono ?_
      rintro e w23 ⟨rfl, hb23⟩
      replace FB := Lib.hid (FB.out.still hb23)
      replace FA := Lib.hid (FA.out.still hb23)
      replace FV := Lib.hid (FV.out.still hb23)
      replace G0 := Lib.hid (stillRows G0.out hb23)
      replace BEL0 := Lib.hid (belT BEL0.out hb23)
      clear hb23
      try unfold FracRes
      have zMM : ((M : Int) == (M : Int)) = true := by simp
      have cFA0 := FA.out.c0
      have cFA1 := FA.out.c1
      have cFV0 := FV.out.c0
      have cFV1 := FV.out.c1
      have lFA := FA.out.lt
      have lFV := FV.out.lt
      rcases hs : solB (fldG (r : Int) (c : Int) (s : Int)) with _ | _
      · go_wp2_with fail
        go_ret
        exact ⟨by first | rfl | (simp; done), BEL0.out.alloc BEL0.out.size _⟩
      · rw [(HSOL.out hs).1, (HSOL.out hs).2]
        go_wp2_with fail
        go_ret
        exact ⟨by first | rfl | (simp; done), BEL0.out.alloc BEL0.out.size _⟩

end Go.Proofs.Ytcfmfpkmcngacaa
