/- Texts in one: FieldW, FieldX, FieldY, FieldZ, FieldZb. -/
import Derived.Test.YtcfmfpkmcngacaaMX
import Derived.Test.YtcfmfpkmcngacaaMQ
import Derived.Test.YtcfmfpkmcngacaaMD
import Derived.Deep.AppendLies
import Derived.Deep.RegionHeldLaw
import Derived.Deep.RegionHeld3
namespace Go.Proofs.Ytcfmfpkmcngacaa
set_option linter.unusedSimpArgs false
set_option linter.unusedVariables false
open Go.RowKit

/-- the best set so far, as the specification holds it -/
def bstI (r c s n : Nat) : Int := if bst r c s n = 0 then -1 else (bst r c s n : Int)

/-- the first numbers of the plan -/
def lokTo (b : Nat) : Nat → List Int
  | 0 => []
  | k + 1 => lokTo b k ++ [if bP b k = true then 1 else 0]

theorem lokTo_len (b k : Nat) : (lokTo b k).length = k := by
  induction k with
  | zero => rfl
  | succ k ih => simp [lokTo, ih]

theorem lokTo_all (r c s : Nat) : lokTo (bstL r c s) (r + c) = lokT r c s := by
  have key : ∀ k, lokTo (bstL r c s) k = (List.range k).map fun i => if bP (bstL r c s) i = true then 1 else 0 := fun k => by
    induction k with
    | zero => rfl
    | succ k ih => rw [List.range_succ, List.map_append]; simp only [lokTo, ih]; rfl
  exact key _

theorem bst_step {r c s t : Nat} (h : 1 ≤ t) : bst r c s t = if (shwB r c s t && (bst r c s (t - 1) == 0 || decide (popN t < popN (bst r c s (t - 1))))) = true then t else bst r c s (t - 1) := by
  obtain ⟨q, rfl⟩ : ∃ q, t = q + 1 := ⟨t - 1, by omega⟩
  rfl

theorem bstI_no {r c s t : Nat} (h : 1 ≤ t) (h1 : shwB r c s t = false) : bstI r c s t = bstI r c s (t - 1) := by
  unfold bstI; rw [bst_step h, h1]; simp

theorem bstI_first {r c s t : Nat} (h : 1 ≤ t) (h1 : shwB r c s t = true) (h2 : bst r c s (t - 1) = 0) : bstI r c s t = (t : Int) := by
  unfold bstI; rw [bst_step h, h1, h2]; simp; omega

theorem bstI_less {r c s t : Nat} (h : 1 ≤ t) (h1 : shwB r c s t = true) (h2 : popN t < popN (bst r c s (t - 1))) : bstI r c s t = (t : Int) := by
  unfold bstI; rw [bst_step h, h1, decide_eq_true h2]; simp; omega

theorem bstI_more {r c s t : Nat} (h : 1 ≤ t) (h0 : bst r c s (t - 1) ≠ 0) (h2 : ¬ popN t < popN (bst r c s (t - 1))) : bstI r c s t = bstI r c s (t - 1) := by
  unfold bstI; rw [bst_step h, decide_eq_false h2]; simp [h0]

theorem bst_hi (r c s : Nat) : ∀ n, bst r c s n ≤ n := by
  intro n
  rcases bst_is r c s n with ⟨h, _⟩ | h
  · omega
  · exact h.hi

set_option maxHeartbeats 4000000 in
set_option maxRecDepth 100000 in
theorem lookLines_spec (R C S : Int) (w : World) :
    Calls Try.prog 35 #[fldV R C S] w (NewList w (lokL R C S)) := by
  unfold fldV
  obtain ⟨W, hW, hB, hbW, hz⟩ := fld_world w R C S
  have HW := Lib.hid hW
  have HBW := Lib.hid hbW
  have HB := Lib.hid hB
  have hb0 : Below W.heap.size W (W.alloc (.cells #[] 3)) := (Below.refl _ _).alloc (Nat.le_refl _) _
  have G0 : Hid (Grows (W.alloc (.cells #[] 3)) W.heap.size (.slice (some ⟨w.heap.size + 1, 0, none⟩) 0 0) []) := by
    have := Grows.lit W (base := W.heap.size) (Nat.le_refl _); rw [hz] at this ⊢; exact this
  obtain ⟨X, hX⟩ : ∃ X, X = W.alloc (.cells #[] 3) := ⟨_, rfl⟩
  have hs0 : X.heap.size = W.heap.size + 1 := by rw [hX]; simp
  rw [← hX] at hb0 G0
  have HB0 := Lib.hid hb0
  have HX := Lib.hid hX
  have hBX := HB.out.still hb0
  have c0 := hBX.c0
  have c1 := hBX.c1
  have c2 := hBX.c2
  have HOK : Hid (∀ w', Calls Try.prog 17 #[.agg #[.int .i64 R, .int .i64 C, .int .i64 S]] w' (Adds (.bool (fldB R C S)) w')) := fun w' => fldOk_spec R C S w'
  have HS0 := Lib.hid hs0
  clear hW hX hB hbW hb0 hBX hz hs0
  rcases hb : fldB R C S with _ | _
  · have HN := Lib.hid (fld_no hb).2.2.2.1
    rw [hb] at HOK
    clear hb
    go_enter Try.func35, Try.ntmps35
    go_wp2_with fail
    rw [← HW.out, ← HX.out]
    go_wp2_with fail
    refine (HOK.out _).mono ?_
    rintro e w1 ⟨rfl, hb1⟩
    have HB1 := Lib.hid hb1
    clear hb1
    go_wp2_with fail
    go_ret
    rw [HN.out]
    exact ⟨_, 0, rfl, belT HBW.out (belT HB0.out HB1.out), fun h0 => absurd h0 (by simp)⟩
  obtain ⟨r, c, s, rfl, rfl, rfl, hf⟩ := fld_nat hb
  rw [hb] at HOK
  have HF := Lib.hid hf
  have hr4 := hf.rhi
  have hc4 := hf.chi
  have hr1 := hf.rlo
  have hc1' := hf.clo
  obtain ⟨hbi, hbp, hblt⟩ := bstL_is hf
  have HBI := Lib.hid hbi
  have HE : Hid (lokL r c s = lokTo (bstL r c s) (r + c)) := by show lokL r c s = _; rw [(fld_yes hf).2.2.2.1, lokTo_all]
  obtain ⟨b, hbb⟩ : ∃ b, bstL r c s = b := ⟨_, rfl⟩
  have HBB := Lib.hid hbb
  rw [hbb] at HE hblt
  obtain ⟨M, hM⟩ : ∃ M : Nat, 2 ^ (r + c) = M := ⟨_, rfl⟩
  have hp := pw16 (k := r + c) (by omega)
  have hM256 : M ≤ 256 := by rw [← hM]; exact Nat.pow_le_pow_right (by omega) (show r + c ≤ 8 by omega)
  have hM1 : 1 ≤ M := by rw [← hM]; exact Nat.two_pow_pos _
  rw [hM] at hp hblt
  have HP := Lib.hid hp
  have hsh : Hid (∀ t, t < M → ∀ w', Calls Try.prog 76 #[.agg #[.int .i64 (r : Int), .int .i64 (c : Int), .int .i64 (s : Int)], .int .i64 (t : Int)] w' (Adds (.bool (shwB r c s t)) w')) := fun t ht w' => shows_spec hf (by rw [hM]; exact ht) w'
  have HLAST : Hid (bst r c s (M - 1) = b) := by show _ = b; rw [← hbb]; unfold bstL allL; rw [hM]
  have hrc : IntKind.i64.wrap ((r : Int) + (c : Int)) = (r : Int) + (c : Int) := IntWalk.i64_in _ ⟨by omega, by omega⟩
  have hrt : ((r : Int) + (c : Int)).toNat = r + c := by omega
  have p1 : wrap64 (2 ^ ((r : Int) + (c : Int)).toNat) = (M : Int) := by rw [hrt]; exact hp.2.1
  have p2 : IntKind.i64.wrap (2 ^ ((r : Int) + (c : Int)).toNat) = (M : Int) := by rw [hrt]; exact hp.2.2.1
  obtain ⟨i0, hi0, hz0, hz1, hz2⟩ := info_parts infoI
  have HI0 := Lib.hid hi0
  have HZ0 := Lib.hid hz0
  have HZ1 := Lib.hid hz1
  have HZ2 := Lib.hid hz2
  clear hb hf hi0 hz0 hz1 hz2 hbi hbp hp hrt hbb hM HP
  go_enter Try.func35, Try.ntmps35
  go_wp2_with fail
  rw [← HW.out, ← HX.out]
  go_wp2_with fail
  refine (HOK.out _).mono ?_
  rintro e w1 ⟨rfl, hb1⟩
  have HB1 := Lib.hid (belT HB0.out hb1)
  have G1 := Lib.hid (G0.out.keep hb1)
  clear hb1 c0 c1 c2 G0
  go_wp2_with fail
  go_loopw [4, 5] (fun v i wr => ∃ t : Nat, 1 ≤ t ∧ t ≤ M ∧ i = .int .i64 (t : Int) ∧ v = .int .i64 (bstI r c s (t - 1)) ∧ Hid (Below w1.heap.size w1 wr)) (fun _ i _ => M - (intOf i).toNat)
  case atStart => exact ⟨1, by omega, by omega, rfl, rfl, Below.refl _ _⟩
  case round =>
    obtain ⟨t, ht1, ht, rfl, rfl, HV⟩ := hrel
    have hB3 := HB.out.still (belT HB1.out HV.out)
    have c0 := hB3.c0
    have c1 := hB3.c1
    have c2 := hB3.c2
    have s0 := stays hB3.lt c0
    have s1 := stays hB3.lt c1
    have s2 := stays hB3.lt c2
    clear hB3
    by_cases hlt : t < M
    · obtain ⟨z, hz⟩ : ∃ z, bstI r c s (t - 1) = z := ⟨_, rfl⟩
      have HZI := Lib.hid hz
      rw [hz]
      clear hz
      have hmono : M - (t + 1) < M - t := by omega
      go_wp2_with fail
      refine (hsh.out t hlt _).mono ?_
      rintro e w2 ⟨rfl, hb2⟩
      have HV2 := Lib.hid (belT HV.out hb2)
      clear hb2 s0 s1 s2
      have HT1 := Lib.hid ht1
      rcases hq : shwB r c s t with _ | _
      · have HN : Hid (bstI r c s (t + 1 - 1) = z) := by show bstI r c s (t + 1 - 1) = z; rw [Nat.add_sub_cancel, bstI_no HT1.out hq]; exact HZI.out
        clear hq
        go_wp2_with fail
        go_roundw
        case rel => exact ⟨t + 1, by omega, by omega, by go_num, by rw [HN.out], HV2.out⟩
        case measure => simp [intOf]; omega
      · by_cases h0 : bst r c s (t - 1) = 0
        · have hz1 : z = -1 := by have := HZI.out; unfold bstI at this; rw [if_pos h0] at this; omega
          have HN : Hid (bstI r c s (t + 1 - 1) = (t : Int)) := by show bstI r c s (t + 1 - 1) = _; rw [Nat.add_sub_cancel]; exact bstI_first HT1.out hq h0
          clear hq h0
          subst hz1
          go_wp2_with fail
          go_roundw
          case rel => exact ⟨t + 1, by omega, by omega, by go_num, by rw [HN.out], HV2.out⟩
          case measure => simp [intOf]; omega
        · have hbh := bst_hi r c s (t - 1)
          obtain ⟨u, hu⟩ : ∃ u, bst r c s (t - 1) = u := ⟨_, rfl⟩
          have hz1 : z = (u : Int) := by have := HZI.out; unfold bstI at this; rw [if_neg h0, hu] at this; omega
          have HMORE : Hid (¬ popN t < popN u → bstI r c s (t + 1 - 1) = (u : Int)) := fun h => by
            rw [Nat.add_sub_cancel, bstI_more HT1.out h0 (by rw [hu]; exact h)]; unfold bstI; rw [if_neg h0, hu]
          have HLESS : Hid (popN t < popN u → bstI r c s (t + 1 - 1) = (t : Int)) := fun h => by
            rw [Nat.add_sub_cancel]; exact bstI_less HT1.out hq (by rw [hu]; exact h)
          rw [hu] at hbh
          clear hq h0 hu
          subst hz1
          obtain ⟨pt, hpt⟩ : ∃ p, popN t = p := ⟨_, rfl⟩
          obtain ⟨pu, hpu⟩ : ∃ p, popN u = p := ⟨_, rfl⟩
          have HZ3 : Hid (∀ w', Calls Try.prog 77 #[.int .i64 (t : Int)] w' (Same (.int .i64 (pt : Int)) w')) := fun w' => by have := size_of_set t (by omega) w'; rw [hpt] at this; exact this
          have HZ4 : Hid (∀ w', Calls Try.prog 77 #[.int .i64 (u : Int)] w' (Same (.int .i64 (pu : Int)) w')) := fun w' => by have := size_of_set u (by omega) w'; rw [hpu] at this; exact this
          rw [hpt, hpu] at HMORE HLESS
          clear hpt hpu
          go_wp2_with fail
          refine (HZ3.out _).mono ?_
          rintro e wz ⟨rfl, rfl⟩
          go_wp2_with fail
          refine (HZ4.out _).mono ?_
          rintro e wz ⟨rfl, rfl⟩
          by_cases hl : pt < pu
          · have HN := Lib.hid (HLESS.out hl)
            go_wp2_with fail
            go_roundw
            case rel => exact ⟨t + 1, by omega, by omega, by go_num, by rw [HN.out], HV2.out⟩
            case measure => simp [intOf]; omega
          · have HN := Lib.hid (HMORE.out hl)
            go_wp2_with fail
            go_roundw
            case rel => exact ⟨t + 1, by omega, by omega, by go_num, by rw [HN.out], HV2.out⟩
            case measure => simp [intOf]; omega
    · obtain rfl : t = M := by omega
      have hlast : bstI r c s (t - 1) = (b : Int) := by unfold bstI; rw [HLAST.out, if_neg (by have := HBI.out.lo; have := HBB.out; omega)]
      rw [hlast]
      clear hlast
      have GV := Lib.hid (G1.out.keep HV.out)
      have HVW := Lib.hid (belT HB1.out HV.out)
      clear s0 s1 s2
      go_wp2_with fail
      clear c0 c1 c2
      go_loopw [3, 6] (fun v i wr => ∃ k : Nat, k ≤ r + c ∧ i = .int .i64 (k : Int) ∧ Hid (Grows wr W.heap.size v (lokTo b k)) ∧ Hid (Below W.heap.size W wr)) (fun _ i _ => r + c - (intOf i).toNat)
      case atStart => exact ⟨0, Nat.zero_le _, rfl, GV, HVW⟩
      case round =>
        clear GV HVW
        obtain ⟨k, hk, rfl, HO, HU⟩ := hrel
        have hB4 := HB.out.still HU.out
        have c0 := hB4.c0
        have c1 := hB4.c1
        have hws := HU.out.size
        clear hB4
        have hlk := lokTo_len b k
        by_cases hlk2 : k < r + c
        · have o2 : decide ((k : Int) < (r : Int) + (c : Int)) = true := decide_eq_true (by omega)
          have e1 := shr_mod (s := b) (k := k)
          obtain ⟨x, hx⟩ : ∃ x : Int, (if bP b k = true then 1 else 0) = x := ⟨_, rfl⟩
          have hx01 : 0 ≤ x ∧ x ≤ 1 := by rw [← hx]; split <;> omega
          rw [hx] at e1
          have w1 : IntKind.i64.wrap x = x := IntWalk.i64_in _ ⟨by omega, by omega⟩
          have hy : Hid (lokTo b (k + 1) = lokTo b k ++ [x]) := by show lokTo b (k + 1) = _; simp only [lokTo, hx]
          clear hx
          go_wp2_with (at_builtin; refine wpList_append_own_at _ rfl (.tmp 46) (.tmp 51) _ rfl W.heap.size 3 i0 (.int .i64 0) 1 8 Try.underlying32 HI0.out HZ0.out HZ1.out HZ2.out rfl (by decide) _ _ _ rfl (HO.out.alloc _) ⟨wr.heap.size, 0, none⟩ 1 1 [.int .i64 x] rfl rfl (cell_one_new _ _ _) ?c2 ?c3 ?c4 ?c5 ?_)
          case c2 => first | rfl | (intro u hu; simp at hu; subst hu; rfl)
          case c3 => rw [hlk]; unfold maxLen; omega
          case c4 => rw [hlk]; omega
          case c5 => first | omega | (simp; omega)
          intro v' w6 hown hgrow _ _
          have HN : Hid (Grows w6 W.heap.size v' (lokTo b (k + 1))) := by rw [hy.out]; exact Grows.snoc (by rw [hlk]; exact hown)
          have HV2 : Hid (Below W.heap.size W w6) := HO.out.below hgrow HU.out (Nat.le_refl _) hws
          clear hown hgrow
          go_wp2_with fail
          go_roundw
          case rel => exact ⟨k + 1, by omega, by go_num, HN, HV2⟩
          case measure => simp [intOf]; omega
        · obtain rfl : k = r + c := by omega
          go_wp2_with fail
          go_ret
          rw [HE.out]
          exact NewList.of rfl (HO.out.base HBW.out.size) (belT HBW.out HU.out)

end Go.Proofs.Ytcfmfpkmcngacaa

namespace Go.Proofs.Ytcfmfpkmcngacaa
set_option linter.unusedSimpArgs false
set_option linter.unusedVariables false
open Go.RowKit

/-- what a call leaves that hands back a list of so many numbers, to be read -/
def LenList (w : World) (n : Nat) (e : Ending) (w' : World) : Prop :=
  ∃ (b cap : Nat) (l : List Int), e = .returned (.slice (some ⟨b, 0, none⟩) n cap) ∧ l.length = n ∧ Below w.heap.size w w' ∧ Grows w' w.heap.size (.slice (some ⟨b, 0, none⟩) n cap) l

theorem or_set : ∀ T : Fin 16, ∀ j : Fin 4, bP T.val j.val = false → bits BinOp.or IntKind.i64 (T.val : Int) (wrap64 (2 ^ j.val)) = ((T.val + 2 ^ j.val : Nat) : Int) ∧ bits BinOp.or IntKind.i64 (T.val : Int) (IntKind.i64.wrap (2 ^ j.val)) = ((T.val + 2 ^ j.val : Nat) : Int) := by decide +kernel

theorem or_at {T j : Nat} (hT : T < 16) (hj : j < 4) (h : bP T j = false) : bits BinOp.or IntKind.i64 (T : Int) (wrap64 (2 ^ j)) = ((T + 2 ^ j : Nat) : Int) ∧ bits BinOp.or IntKind.i64 (T : Int) (IntKind.i64.wrap (2 ^ j)) = ((T + 2 ^ j : Nat) : Int) := or_set ⟨T, hT⟩ ⟨j, hj⟩ h

theorem Grows.at_ {w : World} {base : Nat} {v : Value} {l : List Int} (h : Grows w base v l) (h0 : 0 < l.length) : ∃ b cap, v = .slice (some ⟨b, 0, none⟩) l.length cap := by
  obtain ⟨h1, ⟨h2, h3⟩ | ⟨b, cap, cur, h2, h3⟩⟩ := h
  · omega
  · exact ⟨b, cap, h2⟩

/-- one number, written out -/
theorem Grows.one (w : World) (q : Int) {base : Nat} (hb : base ≤ w.heap.size) : Grows (w.alloc (.cells #[.int .i64 q] 3)) base (.slice (some ⟨w.heap.size, 0, none⟩) 1 1) [q] :=
  ⟨rfl, .inr ⟨w.heap.size, 1, _, rfl, hb, heap_alloc_new w _, Nat.le_refl _, by unfold maxLen; omega, by simp, by simp [vals]⟩⟩

theorem Grows.cells {w : World} {base b n cap : Nat} {l : List Int} (h : Grows w base (.slice (some ⟨b, 0, none⟩) n cap) l) : ∀ j u, (vals l)[j]? = some u → w.cell? ((⟨b, 0, none⟩ : Addr).add j) = some u := by
  obtain ⟨A, c, e, _, ho⟩ := h.own
  injection e with e1 e2 e3
  refine news_of fun i hi => ?_
  obtain ⟨b', o', e', _, hc⟩ := ho.ints (by omega)
  rw [← e1] at e'
  injection e' with e'
  injection e' with e4 e5
  subst e4
  subst e5
  exact hc i hi

set_option maxHeartbeats 4000000 in
set_option maxRecDepth 100000 in
theorem most_spec {r c s : Nat} (h : Fld r c s) : ∀ k : Nat, k ≤ r → ∀ T : Nat, T < 16 → ∀ w : World,
    Calls Try.prog 68 #[fldV r c s, .int .i64 ((r - k : Nat) : Int), .int .i64 (T : Int)] w (LenList w (mst r c s k T)) := by
  intro k
  induction k with
  | zero =>
    intro _ T _ w
    unfold fldV
    obtain ⟨W, hW, hB, hbW, hz⟩ := fld_world w r c s
    have HW := Lib.hid hW
    have HBW := Lib.hid hbW
    have G0 : Hid (Grows (W.alloc (.cells #[] 3)) W.heap.size (.slice (some ⟨w.heap.size + 1, 0, none⟩) 0 0) []) := by
      have := Grows.lit W (base := W.heap.size) (Nat.le_refl _); rw [hz] at this ⊢; exact this
    have hb0 : Below W.heap.size W (W.alloc (.cells #[] 3)) := (Below.refl _ _).alloc (Nat.le_refl _) _
    obtain ⟨X, hX⟩ : ∃ X, X = W.alloc (.cells #[] 3) := ⟨_, rfl⟩
    rw [← hX] at hb0 G0
    have HB0 := Lib.hid hb0
    have HX := Lib.hid hX
    have hBX := hB.still hb0
    have c0 := hBX.c0
    have c1 := hBX.c1
    have e0 : ((r : Int) == (r : Int)) = true := beq_self_eq_true _
    rw [Nat.sub_zero]
    clear hW hX hB hbW hb0 hBX hz
    go_enter Try.func68, Try.ntmps68
    go_wp2_with fail
    rw [← HW.out, ← HX.out]
    go_wp2_with fail
    go_ret
    exact ⟨w.heap.size + 1, 0, [], rfl, rfl, belT HBW.out HB0.out, G0.out.base HBW.out.size⟩
  | succ k ih =>
    intro hk T hT w
    unfold fldV
    have HIH := Lib.hid ih
    clear ih
    obtain ⟨row, hrow⟩ : ∃ row, r - (k + 1) = row := ⟨_, rfl⟩
    have hrk : r - k = row + 1 := by omega
    have hrr : row < r := by omega
    obtain ⟨W, hW, hB, hbW, hz⟩ := fld_world w r c s
    have HW := Lib.hid hW
    have HBW := Lib.hid hbW
    have HB := Lib.hid hB
    have hb0 : Below W.heap.size W (W.alloc (.cells #[] 3)) := (Below.refl _ _).alloc (Nat.le_refl _) _
    obtain ⟨X, hX⟩ : ∃ X, X = W.alloc (.cells #[] 3) := ⟨_, rfl⟩
    rw [← hX] at hb0
    have HB0 := Lib.hid hb0
    have HX := Lib.hid hX
    have hBX := hB.still hb0
    have c0 := hBX.c0
    have c1 := hBX.c1
    have c2 := hBX.c2
    have hr4 := h.rhi
    have hc4 := h.chi
    have HC : Hid (∀ T' : Nat, T' < 16 → ∀ w', Calls Try.prog 68 #[.agg #[.int .i64 (r : Int), .int .i64 (c : Int), .int .i64 (s : Int)], .int .i64 ((row : Int) + 1), .int .i64 (T' : Int)] w' (LenList w' (mst r c s k T'))) := fun T' hT' w' => by
      have := HIH.out (by omega) T' hT' w'
      rw [hrk] at this
      exact this
    have HMS : Hid (mst r c s (k + 1) T = mstJ (mst r c s k) c s row T (mst r c s k T) c) := by show mstJ _ _ _ _ _ _ _ = _; rw [hrow]
    have e0 : ((row : Int) == (r : Int)) = false := by rw [beq_eq_false_iff_ne]; omega
    have w1 : IntKind.i64.wrap ((row : Int) + 1) = (row : Int) + 1 := IntWalk.i64_in _ ⟨by omega, by omega⟩
    rw [hrow]
    obtain ⟨i0, hi0, hz0, hz1, hz2⟩ := info_parts infoI
    have HI0 := Lib.hid hi0
    have HZ0 := Lib.hid hz0
    have HZ1 := Lib.hid hz1
    have HZ2 := Lib.hid hz2
    clear hi0 hz0 hz1 hz2
    clear hW hX hB hbW hb0 hBX hz hrk HIH hrow h
    go_enter Try.func68, Try.ntmps68
    go_wp2_with fail
    rw [← HW.out, ← HX.out]
    go_wp2_with fail
    refine (HC.out T hT _).mono ?_
    rintro e w1 ⟨b0, cap0, l0, rfl, hl0, hb1, hg0⟩
    obtain ⟨n0, hn0⟩ : ∃ n0, mst r c s k T = n0 := ⟨_, rfl⟩
    have hmk : ∀ T', mst r c s k T' ≤ 4 := fun T' => by have := mst_le r c s k T'; omega
    have HMK := Lib.hid hmk
    have HN0 := Lib.hid hn0
    have HV1 := Lib.hid (belT HB0.out hb1)
    have hn04 : n0 ≤ 4 := by rw [← hn0]; exact hmk T
    rw [hn0] at hl0 hg0
    have HL0 := Lib.hid hl0
    have HG0 := Lib.hid (hg0.base HB0.out.size)
    rw [hn0]
    obtain ⟨p, hp⟩ : ∃ p, row * c = p := ⟨_, rfl⟩
    have hpi : (row : Int) * (c : Int) = (p : Int) := by rw [← hp]; simp
    have hp12 : p ≤ 16 := by rw [← hp]; exact Nat.mul_le_mul (show row ≤ 4 by omega) hc4
    have HP := Lib.hid hp
    have w2 : IntKind.i64.wrap (p : Int) = (p : Int) := IntWalk.i64_in _ ⟨by omega, by omega⟩
    clear hb1 hl0 hg0 hn0 hmk hp c0 c1 c2
    go_wp2_with fail
    go_loopw [7, 8] (fun v i wr => ∃ j : Nat, j ≤ c ∧ i = .int .i64 (j : Int) ∧ Hid (∃ (n b cap : Nat) (l : List Int), v = .slice (some ⟨b, 0, none⟩) n cap ∧ l.length = n ∧ n = mstJ (mst r c s k) c s row T n0 j ∧ n ≤ 4 ∧ Grows wr W.heap.size v l) ∧ Hid (Below W.heap.size W wr)) (fun _ i _ => c - (intOf i).toNat)
    case atStart => exact ⟨0, Nat.zero_le _, rfl, ⟨n0, b0, cap0, l0, rfl, HL0.out, rfl, hn04, HG0.out⟩, HV1⟩
    case round =>
      clear HV1 HG0 HL0
      obtain ⟨j, hj, rfl, HG, HV⟩ := hrel
      obtain ⟨n, b, cap, l, rfl, hln, hnj, hn4, hgr⟩ := HG.out
      have HLN := Lib.hid hln
      have HNJ := Lib.hid hnj
      have HGR := Lib.hid hgr
      clear HG hln hnj hgr
      have hB3 := HB.out.still HV.out
      have c0 := hB3.c0
      have c1 := hB3.c1
      have c2 := hB3.c2
      have s0 := stays hB3.lt c0
      have s1 := stays hB3.lt c1
      have s2 := stays hB3.lt c2
      have hws := HV.out.size
      clear hB3
      by_cases hlt : j < c
      · have w3 : IntKind.i64.wrap ((p : Int) + (j : Int)) = (p : Int) + (j : Int) := IntWalk.i64_in _ ⟨by omega, by omega⟩
        have hpj : ((p : Int) + (j : Int)).toNat = p + j := by omega
        have w4 : decide ((j : Int) < (c : Int)) = true := decide_eq_true (by omega)
        rcases hbit : bP s (row * c + j) with _ | _
        · have e1 : ((s : Int) / 2 ^ ((p : Int) + (j : Int)).toNat).tmod 2 = 0 := by rw [hpj, ← HP.out]; exact bit_no hbit
          have e1' : ((s : Int) / 2 ^ (p + j)).tmod 2 = 0 := by rw [← HP.out]; exact bit_no hbit
          have HS : Hid (n = mstJ (mst r c s k) c s row T n0 (j + 1)) := by show n = _; simp only [mstJ, hbit]; exact HNJ.out
          clear hbit
          go_wp2_with fail
          go_roundw
          case rel => exact ⟨j + 1, by omega, by go_num, ⟨n, b, cap, l, rfl, HLN.out, HS.out, hn4, HGR.out⟩, HV.out⟩
          case measure => simp [intOf]; omega
        have e1 : ((s : Int) / 2 ^ ((p : Int) + (j : Int)).toNat).tmod 2 = 1 := by rw [hpj, ← HP.out]; exact bit_yes hbit
        have e1' : ((s : Int) / 2 ^ (p + j)).tmod 2 = 1 := by rw [← HP.out]; exact bit_yes hbit
        rcases hTj : bP T j with _ | _
        · have e2 := bit_no hTj
          obtain ⟨t1, t2⟩ := or_at hT (show j < 4 by omega) hTj
          obtain ⟨t3, _⟩ := bit_add hT (show j < 4 by omega) hTj
          obtain ⟨T2, hT2⟩ : ∃ T2, T + 2 ^ j = T2 := ⟨_, rfl⟩
          rw [hT2] at t1 t2 t3
          obtain ⟨mx, hmx⟩ : ∃ mx, mst r c s k T2 = mx := ⟨_, rfl⟩
          have hmx4 : mx ≤ 4 := by rw [← hmx]; exact HMK.out T2
          have hmx3 : mx + 1 ≤ 4 := by rw [← hmx]; have := mst_le r c s k T2; omega
          have HSY : Hid (n < mx + 1 → mx + 1 = mstJ (mst r c s k) c s row T n0 (j + 1)) := fun h => by simp only [mstJ, hbit, hTj]; rw [← HNJ.out, hT2, hmx]; simp; omega
          have HSN : Hid (¬ n < mx + 1 → n = mstJ (mst r c s k) c s row T n0 (j + 1)) := fun h => by simp only [mstJ, hbit, hTj]; rw [← HNJ.out, hT2, hmx]; simp; omega
          have HC2 := Lib.hid (HC.out T2 t3)
          rw [hmx] at HC2
          clear hbit hTj hT2 hmx
          go_wp2_with fail
          go_region_held3 (fun w' => Below wr.heap.size wr w')
            (first | exact Below.refl _ _ | exact Below.drew (Below.refl _ _) | (refine Below.drew ?_; assumption) | exact belT (by assumption) (by assumption) | assumption)
            (first | (go_at_call 68; refine (HC2.out _).mono ?_; rintro e w5 ⟨bx, capx, lx, rfl, hlx, hb5, hgx⟩))
          have hk5 : Below wr.heap.size wr w5 := by assumption
          have HK5 := Lib.hid hk5
          have GX := Lib.hid hgx
          have HLX := Lib.hid hlx
          have c1 := s1 _ hk5
          have hs5 := hk5.size
          have hmn : IntKind.i64.wrap ((mx : Int) + 1) = (mx : Int) + 1 := IntWalk.i64_in _ ⟨by omega, by omega⟩
          by_cases hlt2 : n < mx + 1
          · have HN := Lib.hid (HSY.out hlt2)
            have o1 : decide ((n : Int) < (mx : Int) + 1) = true := decide_eq_true (by omega)
            have G1 : Hid (Grows (w5.alloc (.cells #[.int .i64 ((p : Int) + (j : Int))] 3)) W.heap.size (.slice (some ⟨w5.heap.size, 0, none⟩) 1 1) [(p : Int) + (j : Int)]) := Grows.one w5 _ (by omega)
            have HCX := Lib.hid ((GX.out.alloc (.cells #[.int .i64 ((p : Int) + (j : Int))] 3)).cells)
            clear hb5 hgx hlx c0 c2 s0 s1 s2 hk5
            go_wp2_with (at_builtin; refine wpList_append_own_at _ rfl (.tmp 65) (.tmp 66) _ rfl W.heap.size 3 i0 (.int .i64 0) 1 8 Try.underlying32 HI0.out HZ0.out HZ1.out HZ2.out rfl (by decide) _ 1 (vals [(p : Int) + (j : Int)]) rfl G1.out ⟨bx, 0, none⟩ mx capx (vals lx) rfl (by rw [vals_length, HLX.out, Nat.mul_one]) HCX.out vals_one (by unfold maxLen; omega) (by omega) (by simp; omega) ?_)
            intro v' w6 hown hgrow _ _
            have hll : (((p : Int) + (j : Int)) :: lx).length = mx + 1 := by simp [HLX.out]
            have hg6 : Grows w6 W.heap.size v' (((p : Int) + (j : Int)) :: lx) := by
              show World.ownsRow _ _ _ _ _ _ _
              rw [hll, Nat.add_comm mx 1, show vals (((p : Int) + (j : Int)) :: lx) = vals [(p : Int) + (j : Int)] ++ vals lx from by simp [vals]]
              exact hown
            have hb56 : Below W.heap.size W w6 := ((belT HV.out HK5.out).alloc (Nat.le_trans hws hs5) _).grown hgrow (by simp; omega) (fun k hk => by simp [Value.ownBlock] at hk; omega)
            obtain ⟨b', cap', hv'⟩ := hg6.at_ (by rw [hll]; omega)
            rw [hll] at hv'
            subst hv'
            have HG6 := Lib.hid hg6
            have HB56 := Lib.hid hb56
            have HLL := Lib.hid hll
            clear hown hgrow hll hg6 hb56
            go_wp2_with fail
            go_roundw
            case rel => exact ⟨j + 1, by omega, by go_num, ⟨mx + 1, b', cap', _, rfl, HLL.out, HN.out, hmx3, HG6.out⟩, HB56.out⟩
            case measure => simp [intOf]; omega
          · have HN := Lib.hid (HSN.out hlt2)
            have o1 : decide ((n : Int) < (mx : Int) + 1) = false := decide_eq_false (by omega)
            clear hb5 hgx hlx c0 c2 s0 s1 s2 hk5
            go_wp2_with fail
            go_roundw
            case rel => exact ⟨j + 1, by omega, by go_num, ⟨n, b, cap, l, rfl, HLN.out, HN.out, hn4, HGR.out.keep HK5.out⟩, belT HV.out HK5.out⟩
            case measure => simp [intOf]; omega
        · have e2 := bit_yes hTj
          have HS : Hid (n = mstJ (mst r c s k) c s row T n0 (j + 1)) := by show n = _; simp only [mstJ, hTj]; rw [Bool.not_true, Bool.and_false]; exact HNJ.out
          clear hbit hTj
          go_wp2_with fail
          go_roundw
          case rel => exact ⟨j + 1, by omega, by go_num, ⟨n, b, cap, l, rfl, HLN.out, HS.out, hn4, HGR.out⟩, HV.out⟩
          case measure => simp [intOf]; omega
      · obtain rfl : j = c := by omega
        go_wp2_with fail
        go_ret
        rw [HMS.out, HN0.out]
        exact ⟨b, cap, l, by rw [← HNJ.out]; rfl, by rw [← HNJ.out]; exact HLN.out, belT HBW.out HV.out, by rw [← HNJ.out]; exact HGR.out.base HBW.out.size⟩

end Go.Proofs.Ytcfmfpkmcngacaa

namespace Go.Proofs.Ytcfmfpkmcngacaa
set_option linter.unusedSimpArgs false
set_option linter.unusedVariables false
open Go.RowKit

set_option maxHeartbeats 2000000 in
theorem mostApart_spec (R C S : Int) (w : World) :
    Calls Try.prog 27 #[fldV R C S] w (Adds (.int .i64 (mosV R C S)) w) := by
  unfold fldV
  obtain ⟨W, hW, hB, hbW, hz⟩ := fld_world w R C S
  have HW := Lib.hid hW
  have HBW := Lib.hid hbW
  have HB := Lib.hid hB
  have c0 := hB.c0
  have c1 := hB.c1
  have c2 := hB.c2
  have HOK : Hid (∀ w', Calls Try.prog 17 #[.agg #[.int .i64 R, .int .i64 C, .int .i64 S]] w' (Adds (.bool (fldB R C S)) w')) := fun w' => fldOk_spec R C S w'
  clear hW hB hbW hz
  rcases hb : fldB R C S with _ | _
  · have HN := Lib.hid (fld_no hb).1
    rw [hb] at HOK
    clear hb
    go_enter Try.func27, Try.ntmps27
    go_wp2_with fail
    rw [← HW.out]
    go_wp2_with fail
    refine (HOK.out _).mono ?_
    rintro e w1 ⟨rfl, hb1⟩
    have HB1 := Lib.hid hb1
    clear hb1
    go_wp2_with fail
    go_ret
    exact Adds.of (by rw [HN.out]; rfl) (belT HBW.out HB1.out)
  obtain ⟨r, c, s, rfl, rfl, rfl, hf⟩ := fld_nat hb
  rw [hb] at HOK
  have HN := Lib.hid (fld_yes hf).1
  have HM : Hid (∀ w', Calls Try.prog 68 #[.agg #[.int .i64 (r : Int), .int .i64 (c : Int), .int .i64 (s : Int)], .int .i64 0, .int .i64 0] w' (LenList w' (mst r c s r 0))) := fun w' => by
    have := most_spec hf r (Nat.le_refl _) 0 (by omega) w'
    rw [Nat.sub_self] at this; exact this
  obtain ⟨n, hn⟩ : ∃ n, mst r c s r 0 = n := ⟨_, rfl⟩
  rw [hn] at HM HN
  clear hb hf hn
  go_enter Try.func27, Try.ntmps27
  go_wp2_with fail
  rw [← HW.out]
  go_wp2_with fail
  refine (HOK.out _).mono ?_
  rintro e w1 ⟨rfl, hb1⟩
  have HB1 := Lib.hid hb1
  have hB1 := HB.out.still hb1
  have c0 := hB1.c0
  have c1 := hB1.c1
  have c2 := hB1.c2
  clear hb1 hB1
  go_wp2_with fail
  refine (HM.out _).mono ?_
  rintro e w2 ⟨b0, cap0, l0, rfl, _, hb2, _⟩
  have HB2 := Lib.hid hb2
  clear hb2
  go_wp2_with fail
  go_ret
  exact Adds.of (by rw [HN.out]; rfl) (belT HBW.out (belT HB1.out HB2.out))

set_option maxHeartbeats 2000000 in
theorem fieldWorth_spec (R C S : Int) (w : World) :
    Calls Try.prog 40 #[fldV R C S] w (Adds (FracRes (fwU R C S) (fwD R C S) (fldB R C S)) w) := by
  unfold fldV
  have HOK : Hid (∀ w', Calls Try.prog 17 #[.agg #[.int .i64 R, .int .i64 C, .int .i64 S]] w' (Adds (.bool (fldB R C S)) w')) := fun w' => fldOk_spec R C S w'
  have HMA : Hid (∀ w', Calls Try.prog 27 #[.agg #[.int .i64 R, .int .i64 C, .int .i64 S]] w' (Adds (.int .i64 (mosV R C S)) w')) := fun w' => mostApart_spec R C S w'
  obtain ⟨W, hW, hB, hbW, hz⟩ := fld_world w R C S
  obtain ⟨V, hV⟩ : ∃ V, V = W.alloc (.cells #[.int .i64 0, .int .i64 0] 40) := ⟨_, rfl⟩
  have hzV : V.heap.size = w.heap.size + 2 := by rw [hV]; simp; omega
  have hbV : Below W.heap.size W V := by rw [hV]; exact (Below.refl _ _).alloc (Nat.le_refl _) _
  have hBV := hB.still hbV
  have r00 := stays (p := w.heap.size + 1) (o := 0) (by omega) (show V.cell? ⟨w.heap.size + 1, 0, none⟩ = some ((Value.int .i64 0)) from by rw [hV, ← hz]; simp [go_sem])
  have g00 := staysF (p := w.heap.size + 1) (o := 0) (by omega) (show V.frozen? ⟨w.heap.size + 1, 0, none⟩ = false from by rw [hV, ← hz]; simp [go_sem])
  have r01 := stays (p := w.heap.size + 1) (o := 1) (by omega) (show V.cell? ⟨w.heap.size + 1, 1, none⟩ = some ((Value.int .i64 0)) from by rw [hV, ← hz]; simp [go_sem])
  have g01 := staysF (p := w.heap.size + 1) (o := 1) (by omega) (show V.frozen? ⟨w.heap.size + 1, 1, none⟩ = false from by rw [hV, ← hz]; simp [go_sem])
  have HW := Lib.hid hW
  have HV := Lib.hid hV
  have HBV := Lib.hid (show Below w.heap.size w V from belT hbW hbV)
  have HB := Lib.hid hBV
  have HZV := Lib.hid hzV
  have c0 := hBV.c0
  have c1 := hBV.c1
  have c2 := hBV.c2
  clear hW hV hB hbW hbV hBV hz hzV
  rcases hb : fldB R C S with _ | _
  · have HN := Lib.hid (fld_no hb).2.2.2.2
    rw [hb] at HOK
    clear hb
    rw [HN.out.1, HN.out.2]
    go_enter Try.func40, Try.ntmps40
    go_wp2_with fail
    rw [← HW.out, ← HV.out]
    refine (HOK.out _).mono ?_
    rintro e w1 ⟨rfl, hb1⟩
    have e00 := r00 _ hb1
    have e01 := r01 _ hb1
    have f00 := g00 _ hb1
    have f01 := g01 _ hb1
    have hlt : w.heap.size + 1 < w1.heap.size := by have := hb1.size; have := HZV.out; omega
    have HB1 := Lib.hid (belT HBV.out hb1)
    clear r00 r01 g00 g01 hb1
    go_wp2_with fail
    refine bodyPost_ret (v := FracRes 0 0 false) (by simp [results, Try.results40, go_sem, FracRes, e00, e01, hlt, Nat.ne_of_lt hlt, Nat.ne_of_gt hlt]) rfl ⟨rfl, ?_⟩
    exact ((HB1.out.setCell (by show w.heap.size ≤ w.heap.size + 1; omega) _).setCell (by show w.heap.size ≤ w.heap.size + 1; omega) _)
  · have HN : Hid (fwU R C S = 1 ∧ fwD R C S = mosV R C S) := by
      show _ ∧ _
      unfold fwU fwD; rw [if_pos hb, if_pos hb]; exact ⟨rfl, rfl⟩
    rw [hb] at HOK
    clear hb
    rw [HN.out.1, HN.out.2]
    obtain ⟨n, hn⟩ : ∃ n, mosV R C S = n := ⟨_, rfl⟩
    rw [hn] at HMA ⊢
    clear hn
    go_enter Try.func40, Try.ntmps40
    go_wp2_with fail
    rw [← HW.out, ← HV.out]
    refine (HOK.out _).mono ?_
    rintro e w1 ⟨rfl, hb1⟩
    have hB1 := HB.out.still hb1
    have c0 := hB1.c0
    have c1 := hB1.c1
    have c2 := hB1.c2
    have HB1 := Lib.hid hb1
    clear hb1 hB1
    go_wp2_with fail
    refine (HMA.out _).mono ?_
    rintro e w2 ⟨rfl, hb2⟩
    have hb12 := belT HB1.out hb2
    have e00 := r00 _ hb12
    have e01 := r01 _ hb12
    have f00 := g00 _ hb12
    have f01 := g01 _ hb12
    have hlt : w.heap.size + 1 < w2.heap.size := by have := hb12.size; have := HZV.out; omega
    have HB2 := Lib.hid (belT HBV.out hb12)
    clear r00 r01 g00 g01 hb2 hb12
    go_wp2_with fail
    refine bodyPost_ret (v := FracRes 1 n true) (by simp [results, Try.results40, go_sem, FracRes, e00, e01, hlt, Nat.ne_of_lt hlt, Nat.ne_of_gt hlt]) rfl ⟨rfl, ?_⟩
    exact ((HB2.out.setCell (by show w.heap.size ≤ w.heap.size + 1; omega) _).setCell (by show w.heap.size ≤ w.heap.size + 1; omega) _)

end Go.Proofs.Ytcfmfpkmcngacaa

namespace Go.Proofs.Ytcfmfpkmcngacaa
set_option linter.unusedSimpArgs false
set_option linter.unusedVariables false
open Go.RowKit

def castL (l : List Nat) : List Int := l.map fun n : Nat => (n : Int)

theorem castL_length (l : List Nat) : (castL l).length = l.length := by simp [castL]

theorem nth_castL (l : List Nat) (i : Nat) : nth (castL l) i = ((l.getD i 0 : Nat) : Int) := by
  unfold castL nth
  rw [List.getD_eq_getElem?_getD, List.getD_eq_getElem?_getD, List.getElem?_map]
  cases l[i]? <;> rfl

/-- what a call leaves that hands back numbers to be read: in new memory, or in block p -/
def ReadL (w : World) (p : Nat) (l : List Int) (e : Ending) (w' : World) : Prop :=
  ∃ (a : Addr) (c : Nat), e = .returned (.slice (some a) l.length c) ∧ Below w.heap.size w w' ∧ Ints w' (fun b => b = p ∨ (w.heap.size ≤ b ∧ b < w'.heap.size)) (some a) l

/-- the first k of a list are apart from a cell -/
def apN (c : Nat) (l : List Nat) (x : Nat) : Nat → Bool
  | 0 => true
  | k + 1 => apN c l x k && ((l.getD k 0 / c != x / c) && (l.getD k 0 % c != x % c))

theorem apN_all (c : Nat) (l : List Nat) (x : Nat) : apN c l x l.length = apB c l x := by
  have key : ∀ k, k ≤ l.length → apN c l x k = (l.take k).all fun y => (y / c != x / c) && (y % c != x % c) := fun k => by
    induction k with
    | zero => intro _; simp [apN]
    | succ k ih =>
      intro hk
      have e : l.take (k + 1) = l.take k ++ [l.getD k 0] := by
        rw [List.take_add_one, List.getElem?_eq_getElem (by omega)]
        simp [show k < l.length by omega]
      rw [e, List.all_append]
      simp only [apN, ih (by omega), List.all_cons, List.all_nil, Bool.and_true]
  rw [key _ (Nat.le_refl _), List.take_length]; rfl

theorem fL_step {c many : Nat} {cs l : List Nat} {k : Nat} (hk : k < cs.length) (hl : l.length ≠ many) :
    fL c many (cs.drop k) l = if (apB c l (cs.getD k 0) && (fL c many (cs.drop (k + 1)) (l ++ [cs.getD k 0])).length == many) = true then fL c many (cs.drop (k + 1)) (l ++ [cs.getD k 0]) else fL c many (cs.drop (k + 1)) l := by
  have e : cs.drop k = cs.getD k 0 :: cs.drop (k + 1) := by
    rw [List.drop_eq_getElem_cons hk]; simp [hk]
  rw [e]
  simp only [fL, if_neg hl]

/-- append as a step of a region that draws, of whatever length -/
theorem step_append_any {P : Program} {ops : Array Oper} {o : Oper} {a : Act} {w : World} {K : Act → World → Prop} {Q : Exit → Act → World → Prop} {E : Prop} (hgd : o.guard = none) (s x : Operand) (t : TypeId)
    (ho : o.op = .call { callee := .builtin .append, args := #[s, x], argTypes := #[t, t] })
    (base : Nat) (e : TypeId) (i : TypeInfo) (z : Value) (size bytes : Nat) (ht : P.underlying t = some (.slice e)) (hi : P.info? e = some i) (hz : i.zero = some z)
    (hsize : i.size = size) (hby : i.bytes = bytes) (hzs : z.cells.size = size) (hsz : 0 < size)
    (v : Value) (n : Nat) (xs : List Value) (hs : a.eval s = v) (hown : w.ownsRow base e size v n xs)
    (ad : Addr) (m c : Nat) (news : List Value) (hx : a.eval x = .slice (some ad) m c) (hl : news.length = m * size) (hnews : ∀ j u, news[j]? = some u → w.cell? (ad.add j) = some u) (h1 : ∀ u ∈ news, u.oneCell' = true)
    (h63 : n + m ≤ maxLen) (hbytes : (n + m) * bytes ≤ 140737488355328) (hbase : base ≤ w.heap.size)
    (h : ∀ v' w', w'.ownsRow base e size v' (n + m) (xs ++ news) → w.grownBy w' v.ownBlock → K (a.put o.dst v') w') :
    if Region.wanted o (yielded ops a.tmps) = true then Oper.wp P o a w K Q else E := by
  have hw : Region.wanted o (yielded ops a.tmps) = true := by simp [Region.wanted, hgd]
  rw [if_pos hw]
  obtain ⟨v', w', hr, h2, h3, _, _⟩ := run_append_own_at (P := P) w base t o.type e i z size bytes ht hi hz hsize hby hzs hsz v n xs hown ad m c news hl hnews h1 h63 hbytes hbase
  unfold Oper.wp
  simp [execOp, ho, resolve, invoke, builtin, hs, hx, hr, Result.andThen]
  exact h v' w' h2 h3

/-- one number laid in a block, behind an append elsewhere -/
theorem one_far {w w1 : World} {b k : Nat} {q : Int} (hg : w.grownBy w1 (some k)) (h : w.cell? ⟨b, 0, none⟩ = some (.int .i64 q)) (hb : b < w.heap.size) (hne : b ≠ k) : ∀ j u, [Value.int .i64 q][j]? = some u → w1.cell? ((⟨b, 0, none⟩ : Addr).add j) = some u := by
  intro j u hj
  cases j with
  | zero =>
    simp at hj; subst hj
    show w1.cell? ⟨b, 0, none⟩ = _
    rw [World.cell?_of_block (a := ⟨b, 0, none⟩) (hg.block b hb (fun e => hne (by injection e)))]; exact h
  | succ j => simp at hj

theorem ints_of_own {w : World} {base g n cap x : Nat} {l : List Nat} (hn : l.length = n) (h : w.ownsRow base 3 1 (.slice (some ⟨g, 0, none⟩) (n + 1) cap) (n + 1) (vals (castL l) ++ [.int .i64 (x : Int)])) : Ints w (· < w.heap.size) (some ⟨g, 0, none⟩) (castL (l ++ [x])) := by
  have hg : Grows w base (.slice (some ⟨g, 0, none⟩) (n + 1) cap) (castL (l ++ [x])) := by
    show World.ownsRow _ _ _ _ _ _ _
    rw [show (castL (l ++ [x])).length = n + 1 from by rw [castL_length]; simp [hn], show vals (castL (l ++ [x])) = vals (castL l) ++ [.int .i64 (x : Int)] from by simp [vals, castL]]
    exact h
  obtain ⟨A, c, e, _, ho⟩ := hg.own
  injection e with e1
  rw [e1]
  exact ho.ints.mono fun b hb => hb.2

theorem fL_done {c many : Nat} {l : List Nat} (xs : List Nat) (h : l.length = many) : fL c many xs l = l := by
  cases xs <;> simp only [fL, if_pos h]

theorem fL_end {c many : Nat} {l : List Nat} (h : l.length ≠ many) : fL c many [] l = [] := by simp only [fL, if_neg h]

set_option maxHeartbeats 4000000 in
set_option maxRecDepth 100000 in
theorem first_spec {r c s many N : Nat} (h : Fld r c s) (hmany : 1 ≤ many ∧ many ≤ 4) (cs : List Nat) (hN : cs.length = N) (hN16 : N ≤ 16) (hcs : ∀ i, cs.getD i 0 < 16) :
    ∀ d fr : Nat, fr + d = N → ∀ l : List Nat, l.length ≤ fr → (∀ i, l.getD i 0 < 16) → ∀ (bc oc cc : Nat) (aL : Addr) (cl : Nat) (w : World), Ints w (· < w.heap.size) (some ⟨bc, oc, none⟩) (castL cs) → Ints w (· < w.heap.size) (some aL) (castL l) →
    Calls Try.prog 71 #[fldV r c s, .slice (some ⟨bc, oc, none⟩) N cc, .int .i64 (fr : Int), .slice (some aL) l.length cl, .int .i64 (many : Int)] w (ReadL w aL.block (castL (fL c many (cs.drop fr) l))) := by
  intro d
  induction d using Nat.strongRecOn with
  | _ d ih =>
    intro fr hfr l hlf hl16 bc oc cc aL cl w hC hL
    unfold fldV
    obtain ⟨W, hW, hB, hbW, hz⟩ := fld_world w r c s
    have HW := Lib.hid hW
    have HBW := Lib.hid hbW
    have HB := Lib.hid hB
    have HIH := Lib.hid ih
    have HC0 := Lib.hid hC
    have HL0 := Lib.hid hL
    have hr4 := h.rhi
    have hc4 := h.chi
    have hc1' := h.clo
    have hcn : ¬ c = 0 := by omega
    have HCS := Lib.hid hcs
    have HL16 := Lib.hid hl16
    have HF := Lib.hid h
    clear hW hB hbW hz ih hC hL h hcs hl16
    by_cases hlm : l.length = many
    · have hD := Lib.hid (fL_done (c := c) (cs.drop fr) hlm)
      have e0 : ((l.length : Int) == (many : Int)) = true := by rw [beq_iff_eq]; omega
      have HLW := Lib.hid ((keepInts HBW.out HL0.out).lt HBW.out.size)
      clear hlm
      go_enter Try.func71, Try.ntmps71
      go_wp2_with fail
      rw [← HW.out]
      go_wp2_with fail
      go_ret
      rw [hD.out]
      exact ⟨aL, cl, by rw [castL_length]; rfl, HBW.out, fun h0 => by obtain ⟨b, o, e, _, hc⟩ := HLW.out h0; exact ⟨b, o, e, .inl (by injection e with e; rw [e]), hc⟩⟩
    have HLM := Lib.hid hlm
    have e0 : ((l.length : Int) == (many : Int)) = false := by rw [beq_eq_false_iff_ne]; omega
    clear hlm
    go_enter Try.func71, Try.ntmps71
    go_wp2_with fail
    rw [← HW.out]
    go_loopw [11] (fun i wr => ∃ k : Nat, fr ≤ k ∧ k ≤ N ∧ i = .int .i64 (k : Int) ∧ Hid (fL c many (cs.drop fr) l = fL c many (cs.drop k) l) ∧ Hid (Below W.heap.size W wr)) (fun i _ => N - (intOf i).toNat)
    case atStart => exact ⟨fr, Nat.le_refl _, by omega, rfl, rfl, Below.refl _ _⟩
    case round =>
      obtain ⟨k, hk1, hk, rfl, HK, HV⟩ := hrel
      have hB3 := HB.out.still HV.out
      have c0 := hB3.c0
      have c1 := hB3.c1
      have c2 := hB3.c2
      have hBl := hB3.lt
      clear hB3
      by_cases hlt : k < N
      · obtain ⟨x, hx⟩ : ∃ x, cs.getD k 0 = x := ⟨_, rfl⟩
        have hx16 : x < 16 := by rw [← hx]; exact HCS.out k
        have HX := Lib.hid hx
        have hcx : wr.cell? ⟨bc, oc + k, none⟩ = some (.int .i64 (x : Int)) := by
          obtain ⟨b', o', e1, e2, h3⟩ := HC0.out (by rw [castL_length]; omega)
          injection e1 with e1; injection e1 with e1 e3
          subst e1; subst e3
          have := h3 k (by rw [castL_length]; omega)
          rw [nth_castL, hx] at this
          exact ((belT HBW.out HV.out).cell (p := ⟨bc, oc + k, none⟩) (by show bc < _; omega)).trans this
        have hbcw : bc < wr.heap.size := by
          obtain ⟨b', o', e1, e2, h3⟩ := HC0.out (by rw [castL_length]; omega)
          injection e1 with e1; injection e1 with e1 e3
          subst e1
          have := (belT HBW.out HV.out).size; omega
        have w0 : decide ((k : Int) < (N : Int)) = true := decide_eq_true (by omega)
        have w0' : decide (k < N) = true := decide_eq_true (by omega)
        obtain ⟨d2, hd2⟩ : ∃ d, x / c = d := ⟨_, rfl⟩
        obtain ⟨m2, hm2⟩ : ∃ m, x % c = m := ⟨_, rfl⟩
        have hd216 : d2 ≤ 16 := by rw [← hd2]; exact Nat.le_trans (Nat.div_le_self _ _) (by omega)
        have hm216 : m2 ≤ 16 := by rw [← hm2]; exact Nat.le_trans (Nat.mod_le _ _) (by omega)
        have q1 : (x : Int).tdiv (c : Int) = (d2 : Int) := by rw [Int.tdiv_eq_ediv_of_nonneg (by omega), ← hd2]; rfl
        have q2 : (x : Int).tmod (c : Int) = (m2 : Int) := by rw [Int.tmod_eq_emod_of_nonneg (by omega), ← hm2]; rfl
        have q3 : IntKind.i64.wrap (d2 : Int) = (d2 : Int) := IntWalk.i64_in _ ⟨by omega, by omega⟩
        have q4 : IntKind.i64.wrap (m2 : Int) = (m2 : Int) := IntWalk.i64_in _ ⟨by omega, by omega⟩
        have HD2 := Lib.hid hd2
        have HM2 := Lib.hid hm2
        have HV0 := HV
        have HCX := Lib.hid hcx
        clear hx hd2 hm2 hcx c0 c1 c2
        go_wp2_with fail
        obtain ⟨wo, rfl⟩ : ∃ wo : World, wo = wr := ⟨_, rfl⟩
        go_loopw [12, 13] (fun v i wr => ∃ j : Nat, j ≤ l.length ∧ i = .int .i64 (j : Int) ∧ v = .bool (apN c l x j) ∧ Hid (Below wo.heap.size wo wr)) (fun _ i _ => l.length - (intOf i).toNat)
        case atStart => exact ⟨0, Nat.zero_le _, rfl, rfl, Below.refl _ _⟩
        case round =>
          obtain ⟨j, hj, rfl, rfl, HU⟩ := hrel
          by_cases hlj : j < l.length
          · obtain ⟨y, hy⟩ : ∃ y, l.getD j 0 = y := ⟨_, rfl⟩
            have hy16 : y < 16 := by rw [← hy]; exact HL16.out j
            obtain ⟨bl, ol, hal, hbl, hcl⟩ := HL0.out (by rw [castL_length]; omega)
            injection hal with hal
            subst hal
            have HVU := belT (belT HBW.out HV.out) HU.out
            have hcy : wr.cell? ⟨bl, ol + j, none⟩ = some (.int .i64 (y : Int)) := by
              have := hcl j (by rw [castL_length]; omega)
              rw [nth_castL, hy] at this
              exact (HVU.cell (p := ⟨bl, ol + j, none⟩) hbl).trans this
            have hB4 := HB.out.still (belT HV.out HU.out)
            have s1 := stays hB4.lt hB4.c1
            have s3 := stays (W := wr) (by have := HU.out.size; omega) ((HU.out.cell (p := ⟨bc, oc + k, none⟩) (by show bc < _; omega)).trans HCX.out)
            have s4 := stays (W := wr) (by have := HVU.size; omega) hcy
            obtain ⟨d1, hd1⟩ : ∃ d, y / c = d := ⟨_, rfl⟩
            obtain ⟨m1, hm1⟩ : ∃ m, y % c = m := ⟨_, rfl⟩
            have hd116 : d1 ≤ 16 := by rw [← hd1]; exact Nat.le_trans (Nat.div_le_self _ _) (by omega)
            have hm116 : m1 ≤ 16 := by rw [← hm1]; exact Nat.le_trans (Nat.mod_le _ _) (by omega)
            have q5 : (y : Int).tdiv (c : Int) = (d1 : Int) := by rw [Int.tdiv_eq_ediv_of_nonneg (by omega), ← hd1]; rfl
            have q6 : (y : Int).tmod (c : Int) = (m1 : Int) := by rw [Int.tmod_eq_emod_of_nonneg (by omega), ← hm1]; rfl
            have q7 : IntKind.i64.wrap (d1 : Int) = (d1 : Int) := IntWalk.i64_in _ ⟨by omega, by omega⟩
            have q8 : IntKind.i64.wrap (m1 : Int) = (m1 : Int) := IntWalk.i64_in _ ⟨by omega, by omega⟩
            have HAP : Hid (apN c l x (j + 1) = (apN c l x j && ((d1 != d2) && (m1 != m2)))) := by show apN c l x (j + 1) = _; simp only [apN]; rw [hy, hd1, hm1, HD2.out, HM2.out]
            clear hy hcl hcy hB4 HVU hd1 hm1
            rcases ha : apN c l x j with _ | _
            · have HN : Hid (apN c l x (j + 1) = false) := by show _ = false; rw [HAP.out, ha]; rfl
              clear ha HAP
              go_wp2_with fail
              refine wp_region_held_drew (S := fun w' => Below wr.heap.size wr w') (by kernel_rfl) (by first | exact Below.drew (Below.refl _ _) | exact Below.drew (by assumption)) (fun hHeld => ?_)
              refine wpAnyH_take (i := 0) (v := ?v11_0) rfl (by kernel_rfl) (by kernel_rfl) (by kernel_rfl) (fun _ _ _ h => h) (Or.inl ⟨by rfl, ?y11_0⟩) (by assumption) ?z11_0
              case y11_0 => (intro w hSw; go_simp; first | done | with_reducible rfl)
              try simp only [List.getElem_toArray, List.getElem_cons_succ, List.getElem_cons_zero, Act.put, List.setIfInBounds_toArray, List.set_cons_zero, List.set_cons_succ]
              refine wpAnyH_take (i := 1) (v := ?v11_1) rfl (by kernel_rfl) (by kernel_rfl) (by kernel_rfl) (fun _ _ _ h => h) (Or.inl ⟨by rfl, ?y11_1⟩) (by assumption) ?z11_1
              case y11_1 => (intro w hSw; go_simp; first | done | with_reducible rfl)
              try simp only [List.getElem_toArray, List.getElem_cons_succ, List.getElem_cons_zero, Act.put, List.setIfInBounds_toArray, List.set_cons_zero, List.set_cons_succ]
              refine wpAnyH_take (i := 2) rfl (by kernel_rfl) (by kernel_rfl) (by kernel_rfl) (fun _ _ _ h => h) (Or.inr ⟨by rfl, rfl⟩) (by assumption) ?_
              try simp only [List.getElem_toArray, List.getElem_cons_succ, List.getElem_cons_zero, Act.put, List.setIfInBounds_toArray, List.set_cons_zero, List.set_cons_succ]
              refine wpAnyH_take (i := 3) rfl (by kernel_rfl) (by kernel_rfl) (by kernel_rfl) (fun _ _ _ h => h) (Or.inr ⟨by rfl, rfl⟩) (by assumption) ?_
              try simp only [List.getElem_toArray, List.getElem_cons_succ, List.getElem_cons_zero, Act.put, List.setIfInBounds_toArray, List.set_cons_zero, List.set_cons_succ]
              refine wpAnyH_take (i := 4) rfl (by kernel_rfl) (by kernel_rfl) (by kernel_rfl) (fun _ _ _ h => h) (Or.inr ⟨by rfl, rfl⟩) (by assumption) ?_
              try simp only [List.getElem_toArray, List.getElem_cons_succ, List.getElem_cons_zero, Act.put, List.setIfInBounds_toArray, List.set_cons_zero, List.set_cons_succ]
              refine wpAnyH_take (i := 5) rfl (by kernel_rfl) (by kernel_rfl) (by kernel_rfl) (fun _ _ _ h => h) (Or.inr ⟨by rfl, rfl⟩) (by assumption) ?_
              try simp only [List.getElem_toArray, List.getElem_cons_succ, List.getElem_cons_zero, Act.put, List.setIfInBounds_toArray, List.set_cons_zero, List.set_cons_succ]
              refine wpAnyH_take (i := 6) rfl (by kernel_rfl) (by kernel_rfl) (by kernel_rfl) (fun _ _ _ h => h) (Or.inr ⟨by rfl, rfl⟩) (by assumption) ?_
              try simp only [List.getElem_toArray, List.getElem_cons_succ, List.getElem_cons_zero, Act.put, List.setIfInBounds_toArray, List.set_cons_zero, List.set_cons_succ]
              refine wpAnyH_take (i := 7) rfl (by kernel_rfl) (by kernel_rfl) (by kernel_rfl) (fun _ _ _ h => h) (Or.inr ⟨by rfl, rfl⟩) (by assumption) ?_
              try simp only [List.getElem_toArray, List.getElem_cons_succ, List.getElem_cons_zero, Act.put, List.setIfInBounds_toArray, List.set_cons_zero, List.set_cons_succ]
              refine wpAnyH_take (i := 8) rfl (by kernel_rfl) (by kernel_rfl) (by kernel_rfl) (fun _ _ _ h => h) (Or.inr ⟨by rfl, rfl⟩) (by assumption) ?_
              try simp only [List.getElem_toArray, List.getElem_cons_succ, List.getElem_cons_zero, Act.put, List.setIfInBounds_toArray, List.set_cons_zero, List.set_cons_succ]
              refine wpAnyH_take (i := 9) rfl (by kernel_rfl) (by kernel_rfl) (by kernel_rfl) (fun _ _ _ h => h) (Or.inr ⟨by rfl, rfl⟩) (by assumption) ?_
              try simp only [List.getElem_toArray, List.getElem_cons_succ, List.getElem_cons_zero, Act.put, List.setIfInBounds_toArray, List.set_cons_zero, List.set_cons_succ]
              refine wpAnyH_take (i := 10) rfl (by kernel_rfl) (by kernel_rfl) (by kernel_rfl) (fun _ _ _ h => h) (Or.inr ⟨by rfl, rfl⟩) (by assumption) ?_
              try simp only [List.getElem_toArray, List.getElem_cons_succ, List.getElem_cons_zero, Act.put, List.setIfInBounds_toArray, List.set_cons_zero, List.set_cons_succ]
              refine wpAnyH_take (i := 11) rfl (by kernel_rfl) (by kernel_rfl) (by kernel_rfl) (fun _ _ _ h => h) (Or.inr ⟨by rfl, rfl⟩) (by assumption) ?_
              try simp only [List.getElem_toArray, List.getElem_cons_succ, List.getElem_cons_zero, Act.put, List.setIfInBounds_toArray, List.set_cons_zero, List.set_cons_succ]
              refine wpAnyH_take (i := 12) rfl (by kernel_rfl) (by kernel_rfl) (by kernel_rfl) (fun _ _ _ h => h) (Or.inr ⟨by rfl, rfl⟩) (by assumption) ?_
              try simp only [List.getElem_toArray, List.getElem_cons_succ, List.getElem_cons_zero, Act.put, List.setIfInBounds_toArray, List.set_cons_zero, List.set_cons_succ]
              refine wpAnyH_take (i := 13) rfl (by kernel_rfl) (by kernel_rfl) (by kernel_rfl) (fun _ _ _ h => h) (Or.inr ⟨by rfl, rfl⟩) (by assumption) ?_
              try simp only [List.getElem_toArray, List.getElem_cons_succ, List.getElem_cons_zero, Act.put, List.setIfInBounds_toArray, List.set_cons_zero, List.set_cons_succ]
              refine wpAnyH_take (i := 14) rfl (by kernel_rfl) (by kernel_rfl) (by kernel_rfl) (fun _ _ _ h => h) (Or.inr ⟨by rfl, rfl⟩) (by assumption) ?_
              try simp only [List.getElem_toArray, List.getElem_cons_succ, List.getElem_cons_zero, Act.put, List.setIfInBounds_toArray, List.set_cons_zero, List.set_cons_succ]
              refine wpAnyH_take (i := 15) rfl (by kernel_rfl) (by kernel_rfl) (by kernel_rfl) (fun _ _ _ h => h) (Or.inr ⟨by rfl, rfl⟩) (by assumption) ?_
              try simp only [List.getElem_toArray, List.getElem_cons_succ, List.getElem_cons_zero, Act.put, List.setIfInBounds_toArray, List.set_cons_zero, List.set_cons_succ]
              refine wpAnyH_take (i := 16) rfl (by kernel_rfl) (by kernel_rfl) (by kernel_rfl) (fun _ _ _ h => h) (Or.inr ⟨by rfl, rfl⟩) (by assumption) ?_
              try simp only [List.getElem_toArray, List.getElem_cons_succ, List.getElem_cons_zero, Act.put, List.setIfInBounds_toArray, List.set_cons_zero, List.set_cons_succ]
              refine wpAnyH_take (i := 17) (v := ?v11_17) rfl (by kernel_rfl) (by kernel_rfl) (by kernel_rfl) (fun _ _ _ h => h) (Or.inl ⟨by rfl, ?y11_17⟩) (by assumption) ?z11_17
              case y11_17 => (intro w hSw; go_simp; first | done | with_reducible rfl)
              try simp only [List.getElem_toArray, List.getElem_cons_succ, List.getElem_cons_zero, Act.put, List.setIfInBounds_toArray, List.set_cons_zero, List.set_cons_succ]
              refine wpAnyH_take (i := 18) (v := ?v11_18) rfl (by kernel_rfl) (by kernel_rfl) (by kernel_rfl) (fun _ _ _ h => h) (Or.inl ⟨by rfl, ?y11_18⟩) (by assumption) ?z11_18
              case y11_18 => (intro w hSw; go_simp; first | done | with_reducible rfl)
              try simp only [List.getElem_toArray, List.getElem_cons_succ, List.getElem_cons_zero, Act.put, List.setIfInBounds_toArray, List.set_cons_zero, List.set_cons_succ]
              refine wpAnyH_take (i := 19) rfl (by kernel_rfl) (by kernel_rfl) (by kernel_rfl) (fun _ _ _ h => h) (Or.inr ⟨by rfl, rfl⟩) (by assumption) ?_
              try simp only [List.getElem_toArray, List.getElem_cons_succ, List.getElem_cons_zero, Act.put, List.setIfInBounds_toArray, List.set_cons_zero, List.set_cons_succ]
              refine wpAnyH_take (i := 20) rfl (by kernel_rfl) (by kernel_rfl) (by kernel_rfl) (fun _ _ _ h => h) (Or.inr ⟨by rfl, rfl⟩) (by assumption) ?_
              try simp only [List.getElem_toArray, List.getElem_cons_succ, List.getElem_cons_zero, Act.put, List.setIfInBounds_toArray, List.set_cons_zero, List.set_cons_succ]
              refine wpAnyH_take (i := 21) rfl (by kernel_rfl) (by kernel_rfl) (by kernel_rfl) (fun _ _ _ h => h) (Or.inr ⟨by rfl, rfl⟩) (by assumption) ?_
              try simp only [List.getElem_toArray, List.getElem_cons_succ, List.getElem_cons_zero, Act.put, List.setIfInBounds_toArray, List.set_cons_zero, List.set_cons_succ]
              refine wpAnyH_take (i := 22) rfl (by kernel_rfl) (by kernel_rfl) (by kernel_rfl) (fun _ _ _ h => h) (Or.inr ⟨by rfl, rfl⟩) (by assumption) ?_
              try simp only [List.getElem_toArray, List.getElem_cons_succ, List.getElem_cons_zero, Act.put, List.setIfInBounds_toArray, List.set_cons_zero, List.set_cons_succ]
              refine wpAnyH_take (i := 23) rfl (by kernel_rfl) (by kernel_rfl) (by kernel_rfl) (fun _ _ _ h => h) (Or.inr ⟨by rfl, rfl⟩) (by assumption) ?_
              try simp only [List.getElem_toArray, List.getElem_cons_succ, List.getElem_cons_zero, Act.put, List.setIfInBounds_toArray, List.set_cons_zero, List.set_cons_succ]
              refine wpAnyH_take (i := 24) rfl (by kernel_rfl) (by kernel_rfl) (by kernel_rfl) (fun _ _ _ h => h) (Or.inr ⟨by rfl, rfl⟩) (by assumption) ?_
              try simp only [List.getElem_toArray, List.getElem_cons_succ, List.getElem_cons_zero, Act.put, List.setIfInBounds_toArray, List.set_cons_zero, List.set_cons_succ]
              refine wpAnyH_take (i := 25) rfl (by kernel_rfl) (by kernel_rfl) (by kernel_rfl) (fun _ _ _ h => h) (Or.inr ⟨by rfl, rfl⟩) (by assumption) ?_
              try simp only [List.getElem_toArray, List.getElem_cons_succ, List.getElem_cons_zero, Act.put, List.setIfInBounds_toArray, List.set_cons_zero, List.set_cons_succ]
              refine wpAnyH_take (i := 26) rfl (by kernel_rfl) (by kernel_rfl) (by kernel_rfl) (fun _ _ _ h => h) (Or.inr ⟨by rfl, rfl⟩) (by assumption) ?_
              try simp only [List.getElem_toArray, List.getElem_cons_succ, List.getElem_cons_zero, Act.put, List.setIfInBounds_toArray, List.set_cons_zero, List.set_cons_succ]
              refine wpAnyH_take (i := 27) rfl (by kernel_rfl) (by kernel_rfl) (by kernel_rfl) (fun _ _ _ h => h) (Or.inr ⟨by rfl, rfl⟩) (by assumption) ?_
              try simp only [List.getElem_toArray, List.getElem_cons_succ, List.getElem_cons_zero, Act.put, List.setIfInBounds_toArray, List.set_cons_zero, List.set_cons_succ]
              refine wpAnyH_take (i := 28) rfl (by kernel_rfl) (by kernel_rfl) (by kernel_rfl) (fun _ _ _ h => h) (Or.inr ⟨by rfl, rfl⟩) (by assumption) ?_
              try simp only [List.getElem_toArray, List.getElem_cons_succ, List.getElem_cons_zero, Act.put, List.setIfInBounds_toArray, List.set_cons_zero, List.set_cons_succ]
              refine wpAnyH_take (i := 29) rfl (by kernel_rfl) (by kernel_rfl) (by kernel_rfl) (fun _ _ _ h => h) (Or.inr ⟨by rfl, rfl⟩) (by assumption) ?_
              try simp only [List.getElem_toArray, List.getElem_cons_succ, List.getElem_cons_zero, Act.put, List.setIfInBounds_toArray, List.set_cons_zero, List.set_cons_succ]
              refine wpAnyH_take (i := 30) rfl (by kernel_rfl) (by kernel_rfl) (by kernel_rfl) (fun _ _ _ h => h) (Or.inr ⟨by rfl, rfl⟩) (by assumption) ?_
              try simp only [List.getElem_toArray, List.getElem_cons_succ, List.getElem_cons_zero, Act.put, List.setIfInBounds_toArray, List.set_cons_zero, List.set_cons_succ]
              refine wpAnyH_take (i := 31) rfl (by kernel_rfl) (by kernel_rfl) (by kernel_rfl) (fun _ _ _ h => h) (Or.inr ⟨by rfl, rfl⟩) (by assumption) ?_
              try simp only [List.getElem_toArray, List.getElem_cons_succ, List.getElem_cons_zero, Act.put, List.setIfInBounds_toArray, List.set_cons_zero, List.set_cons_succ]
              refine wpAnyH_take (i := 32) rfl (by kernel_rfl) (by kernel_rfl) (by kernel_rfl) (fun _ _ _ h => h) (Or.inr ⟨by rfl, rfl⟩) (by assumption) ?_
              try simp only [List.getElem_toArray, List.getElem_cons_succ, List.getElem_cons_zero, Act.put, List.setIfInBounds_toArray, List.set_cons_zero, List.set_cons_succ]
              refine wpAnyH_take (i := 33) rfl (by kernel_rfl) (by kernel_rfl) (by kernel_rfl) (fun _ _ _ h => h) (Or.inr ⟨by rfl, rfl⟩) (by assumption) ?_
              try simp only [List.getElem_toArray, List.getElem_cons_succ, List.getElem_cons_zero, Act.put, List.setIfInBounds_toArray, List.set_cons_zero, List.set_cons_succ]
              refine wpAnyH_take (i := 34) (v := ?v11_34) rfl (by kernel_rfl) (by kernel_rfl) (by kernel_rfl) (fun _ _ _ h => h) (Or.inl ⟨by rfl, ?y11_34⟩) (by assumption) ?z11_34
              case y11_34 => (intro w hSw; go_simp; first | done | with_reducible rfl)
              try simp only [List.getElem_toArray, List.getElem_cons_succ, List.getElem_cons_zero, Act.put, List.setIfInBounds_toArray, List.set_cons_zero, List.set_cons_succ]
              refine wpAnyH_take (i := 35) (v := ?v11_35) rfl (by kernel_rfl) (by kernel_rfl) (by kernel_rfl) (fun _ _ _ h => h) (Or.inl ⟨by rfl, ?y11_35⟩) (by assumption) ?z11_35
              case y11_35 => (intro w hSw; go_simp; first | done | with_reducible rfl)
              try simp only [List.getElem_toArray, List.getElem_cons_succ, List.getElem_cons_zero, Act.put, List.setIfInBounds_toArray, List.set_cons_zero, List.set_cons_succ]
              refine wpAnyH_done (by kernel_rfl) ?_ _
              go_wp2_with fail
              go_roundw
              case rel => exact ⟨j + 1, by omega, by go_num, by rw [HN.out], belT HU.out (by assumption)⟩
              case measure => simp [intOf]; omega
            by_cases hdd : d1 = d2
            · have HN : Hid (apN c l x (j + 1) = false) := by show _ = false; rw [HAP.out, hdd]; simp
              have f1 : ((d1 : Int) != (d2 : Int)) = false := by rw [hdd]; simp
              have f2 : ((d1 : Int) == (d2 : Int)) = true := by rw [hdd]; simp
              clear ha HAP hdd
              go_wp2_with fail
              refine wp_region_held_drew (S := fun w' => Below wr.heap.size wr w') (by kernel_rfl) (by first | exact Below.drew (Below.refl _ _) | exact Below.drew (by assumption)) (fun hHeld => ?_)
              refine wpAnyH_take (i := 0) (v := ?v12_0) rfl (by kernel_rfl) (by kernel_rfl) (by kernel_rfl) (fun _ _ _ h => h) (Or.inl ⟨by rfl, ?y12_0⟩) (by assumption) ?z12_0
              case y12_0 => (intro w hSw; go_simp; first | done | with_reducible rfl)
              try simp only [List.getElem_toArray, List.getElem_cons_succ, List.getElem_cons_zero, Act.put, List.setIfInBounds_toArray, List.set_cons_zero, List.set_cons_succ]
              refine wpAnyH_take (i := 1) (v := ?v12_1) rfl (by kernel_rfl) (by kernel_rfl) (by kernel_rfl) (fun _ _ _ h => h) (Or.inl ⟨by rfl, ?y12_1⟩) (by assumption) ?z12_1
              case y12_1 => (intro w hSw; go_simp; first | done | with_reducible rfl)
              try simp only [List.getElem_toArray, List.getElem_cons_succ, List.getElem_cons_zero, Act.put, List.setIfInBounds_toArray, List.set_cons_zero, List.set_cons_succ]
              refine wpAnyH_take (i := 2) (v := ?v12_2) rfl (by kernel_rfl) (by kernel_rfl) (by kernel_rfl) (fun _ _ _ h => h) (Or.inl ⟨by rfl, ?y12_2⟩) (by assumption) ?z12_2
              case y12_2 => (intro w hSw; go_simp; first | done | with_reducible rfl)
              try simp only [List.getElem_toArray, List.getElem_cons_succ, List.getElem_cons_zero, Act.put, List.setIfInBounds_toArray, List.set_cons_zero, List.set_cons_succ]
              refine wpAnyH_take (i := 3) (v := ?v12_3) rfl (by kernel_rfl) (by kernel_rfl) (by kernel_rfl) (fun _ _ _ h => h) (Or.inl ⟨by rfl, ?y12_3⟩) (by assumption) ?z12_3
              case y12_3 => (intro w hSw; go_simp; first | done | with_reducible rfl)
              try simp only [List.getElem_toArray, List.getElem_cons_succ, List.getElem_cons_zero, Act.put, List.setIfInBounds_toArray, List.set_cons_zero, List.set_cons_succ]
              refine wpAnyH_take (i := 4) (v := ?v12_4) rfl (by kernel_rfl) (by kernel_rfl) (by kernel_rfl) (fun _ _ _ h => h) (Or.inl ⟨by rfl, ?y12_4⟩) (by assumption) ?z12_4
              case y12_4 => (intro w hSw; go_simp; first | done | with_reducible rfl)
              try simp only [List.getElem_toArray, List.getElem_cons_succ, List.getElem_cons_zero, Act.put, List.setIfInBounds_toArray, List.set_cons_zero, List.set_cons_succ]
              refine wpAnyH_take (i := 5) (v := ?v12_5) rfl (by kernel_rfl) (by kernel_rfl) (by kernel_rfl) (fun _ _ _ h => h) (Or.inl ⟨by rfl, ?y12_5⟩) (by assumption) ?z12_5
              case y12_5 => (intro w hSw; go_simp; first | done | with_reducible rfl)
              try simp only [List.getElem_toArray, List.getElem_cons_succ, List.getElem_cons_zero, Act.put, List.setIfInBounds_toArray, List.set_cons_zero, List.set_cons_succ]
              refine wpAnyH_take (i := 6) (v := ?v12_6) rfl (by kernel_rfl) (by kernel_rfl) (by kernel_rfl) (fun _ _ _ h => h) (Or.inl ⟨by rfl, ?y12_6⟩) (by assumption) ?z12_6
              case y12_6 => (intro w hSw; go_simp; first | done | with_reducible rfl)
              try simp only [List.getElem_toArray, List.getElem_cons_succ, List.getElem_cons_zero, Act.put, List.setIfInBounds_toArray, List.set_cons_zero, List.set_cons_succ]
              refine wpAnyH_take (i := 7) (v := ?v12_7) rfl (by kernel_rfl) (by kernel_rfl) (by kernel_rfl) (fun _ _ _ h => h) (Or.inl ⟨by rfl, ?y12_7⟩) (by assumption) ?z12_7
              case y12_7 => (intro w hSw; go_simp; first | done | with_reducible rfl)
              try simp only [List.getElem_toArray, List.getElem_cons_succ, List.getElem_cons_zero, Act.put, List.setIfInBounds_toArray, List.set_cons_zero, List.set_cons_succ]
              refine wpAnyH_take (i := 8) (v := ?v12_8) rfl (by kernel_rfl) (by kernel_rfl) (by kernel_rfl) (fun _ _ _ h => h) (Or.inl ⟨by rfl, ?y12_8⟩) (by assumption) ?z12_8
              case y12_8 => (intro w hSw; go_simp; first | done | with_reducible rfl)
              try simp only [List.getElem_toArray, List.getElem_cons_succ, List.getElem_cons_zero, Act.put, List.setIfInBounds_toArray, List.set_cons_zero, List.set_cons_succ]
              refine wpAnyH_take (i := 9) (v := ?v12_9) rfl (by kernel_rfl) (by kernel_rfl) (by kernel_rfl) (fun _ _ _ h => h) (Or.inl ⟨by rfl, ?y12_9⟩) (by assumption) ?z12_9
              case y12_9 => (intro w hSw; go_simp; first | done | with_reducible rfl)
              try simp only [List.getElem_toArray, List.getElem_cons_succ, List.getElem_cons_zero, Act.put, List.setIfInBounds_toArray, List.set_cons_zero, List.set_cons_succ]
              refine wpAnyH_take (i := 10) (v := ?v12_10) rfl (by kernel_rfl) (by kernel_rfl) (by kernel_rfl) (fun _ _ _ h => h) (Or.inl ⟨by rfl, ?y12_10⟩) (by assumption) ?z12_10
              case y12_10 => (intro w hSw; go_simp; first | done | with_reducible rfl)
              try simp only [List.getElem_toArray, List.getElem_cons_succ, List.getElem_cons_zero, Act.put, List.setIfInBounds_toArray, List.set_cons_zero, List.set_cons_succ]
              refine wpAnyH_take (i := 11) (v := ?v12_11) rfl (by kernel_rfl) (by kernel_rfl) (by kernel_rfl) (fun _ _ _ h => h) (Or.inl ⟨by rfl, ?y12_11⟩) (by assumption) ?z12_11
              case y12_11 => (intro w hSw; go_simp; first | done | with_reducible rfl)
              try simp only [List.getElem_toArray, List.getElem_cons_succ, List.getElem_cons_zero, Act.put, List.setIfInBounds_toArray, List.set_cons_zero, List.set_cons_succ]
              refine wpAnyH_take (i := 12) (v := ?v12_12) rfl (by kernel_rfl) (by kernel_rfl) (by kernel_rfl) (fun _ _ _ h => h) (Or.inl ⟨by rfl, ?y12_12⟩) (by assumption) ?z12_12
              case y12_12 => (intro w hSw; go_simp; first | done | with_reducible rfl)
              try simp only [List.getElem_toArray, List.getElem_cons_succ, List.getElem_cons_zero, Act.put, List.setIfInBounds_toArray, List.set_cons_zero, List.set_cons_succ]
              refine wpAnyH_take (i := 13) (v := ?v12_13) rfl (by kernel_rfl) (by kernel_rfl) (by kernel_rfl) (fun _ _ _ h => h) (Or.inl ⟨by rfl, ?y12_13⟩) (by assumption) ?z12_13
              case y12_13 => (intro w hSw; go_simp; first | done | with_reducible rfl)
              try simp only [List.getElem_toArray, List.getElem_cons_succ, List.getElem_cons_zero, Act.put, List.setIfInBounds_toArray, List.set_cons_zero, List.set_cons_succ]
              refine wpAnyH_take (i := 14) (v := ?v12_14) rfl (by kernel_rfl) (by kernel_rfl) (by kernel_rfl) (fun _ _ _ h => h) (Or.inl ⟨by rfl, ?y12_14⟩) (by assumption) ?z12_14
              case y12_14 => (intro w hSw; go_simp; first | done | with_reducible rfl)
              try simp only [List.getElem_toArray, List.getElem_cons_succ, List.getElem_cons_zero, Act.put, List.setIfInBounds_toArray, List.set_cons_zero, List.set_cons_succ]
              refine wpAnyH_take (i := 15) (v := ?v12_15) rfl (by kernel_rfl) (by kernel_rfl) (by kernel_rfl) (fun _ _ _ h => h) (Or.inl ⟨by rfl, ?y12_15⟩) (by assumption) ?z12_15
              case y12_15 => (intro w hSw; go_simp; first | done | with_reducible rfl)
              try simp only [List.getElem_toArray, List.getElem_cons_succ, List.getElem_cons_zero, Act.put, List.setIfInBounds_toArray, List.set_cons_zero, List.set_cons_succ]
              refine wpAnyH_take (i := 16) (v := ?v12_16) rfl (by kernel_rfl) (by kernel_rfl) (by kernel_rfl) (fun _ _ _ h => h) (Or.inl ⟨by rfl, ?y12_16⟩) (by assumption) ?z12_16
              case y12_16 => (intro w hSw; go_simp; first | done | with_reducible rfl)
              try simp only [List.getElem_toArray, List.getElem_cons_succ, List.getElem_cons_zero, Act.put, List.setIfInBounds_toArray, List.set_cons_zero, List.set_cons_succ]
              refine wpAnyH_take (i := 17) (v := ?v12_17) rfl (by kernel_rfl) (by kernel_rfl) (by kernel_rfl) (fun _ _ _ h => h) (Or.inl ⟨by rfl, ?y12_17⟩) (by assumption) ?z12_17
              case y12_17 => (intro w hSw; go_simp; first | done | with_reducible rfl)
              try simp only [List.getElem_toArray, List.getElem_cons_succ, List.getElem_cons_zero, Act.put, List.setIfInBounds_toArray, List.set_cons_zero, List.set_cons_succ]
              refine wpAnyH_take (i := 18) (v := ?v12_18) rfl (by kernel_rfl) (by kernel_rfl) (by kernel_rfl) (fun _ _ _ h => h) (Or.inl ⟨by rfl, ?y12_18⟩) (by assumption) ?z12_18
              case y12_18 => (intro w hSw; go_simp; first | done | with_reducible rfl)
              try simp only [List.getElem_toArray, List.getElem_cons_succ, List.getElem_cons_zero, Act.put, List.setIfInBounds_toArray, List.set_cons_zero, List.set_cons_succ]
              refine wpAnyH_take (i := 19) rfl (by kernel_rfl) (by kernel_rfl) (by kernel_rfl) (fun _ _ _ h => h) (Or.inr ⟨by rfl, rfl⟩) (by assumption) ?_
              try simp only [List.getElem_toArray, List.getElem_cons_succ, List.getElem_cons_zero, Act.put, List.setIfInBounds_toArray, List.set_cons_zero, List.set_cons_succ]
              refine wpAnyH_take (i := 20) rfl (by kernel_rfl) (by kernel_rfl) (by kernel_rfl) (fun _ _ _ h => h) (Or.inr ⟨by rfl, rfl⟩) (by assumption) ?_
              try simp only [List.getElem_toArray, List.getElem_cons_succ, List.getElem_cons_zero, Act.put, List.setIfInBounds_toArray, List.set_cons_zero, List.set_cons_succ]
              refine wpAnyH_take (i := 21) rfl (by kernel_rfl) (by kernel_rfl) (by kernel_rfl) (fun _ _ _ h => h) (Or.inr ⟨by rfl, rfl⟩) (by assumption) ?_
              try simp only [List.getElem_toArray, List.getElem_cons_succ, List.getElem_cons_zero, Act.put, List.setIfInBounds_toArray, List.set_cons_zero, List.set_cons_succ]
              refine wpAnyH_take (i := 22) rfl (by kernel_rfl) (by kernel_rfl) (by kernel_rfl) (fun _ _ _ h => h) (Or.inr ⟨by rfl, rfl⟩) (by assumption) ?_
              try simp only [List.getElem_toArray, List.getElem_cons_succ, List.getElem_cons_zero, Act.put, List.setIfInBounds_toArray, List.set_cons_zero, List.set_cons_succ]
              refine wpAnyH_take (i := 23) rfl (by kernel_rfl) (by kernel_rfl) (by kernel_rfl) (fun _ _ _ h => h) (Or.inr ⟨by rfl, rfl⟩) (by assumption) ?_
              try simp only [List.getElem_toArray, List.getElem_cons_succ, List.getElem_cons_zero, Act.put, List.setIfInBounds_toArray, List.set_cons_zero, List.set_cons_succ]
              refine wpAnyH_take (i := 24) rfl (by kernel_rfl) (by kernel_rfl) (by kernel_rfl) (fun _ _ _ h => h) (Or.inr ⟨by rfl, rfl⟩) (by assumption) ?_
              try simp only [List.getElem_toArray, List.getElem_cons_succ, List.getElem_cons_zero, Act.put, List.setIfInBounds_toArray, List.set_cons_zero, List.set_cons_succ]
              refine wpAnyH_take (i := 25) rfl (by kernel_rfl) (by kernel_rfl) (by kernel_rfl) (fun _ _ _ h => h) (Or.inr ⟨by rfl, rfl⟩) (by assumption) ?_
              try simp only [List.getElem_toArray, List.getElem_cons_succ, List.getElem_cons_zero, Act.put, List.setIfInBounds_toArray, List.set_cons_zero, List.set_cons_succ]
              refine wpAnyH_take (i := 26) rfl (by kernel_rfl) (by kernel_rfl) (by kernel_rfl) (fun _ _ _ h => h) (Or.inr ⟨by rfl, rfl⟩) (by assumption) ?_
              try simp only [List.getElem_toArray, List.getElem_cons_succ, List.getElem_cons_zero, Act.put, List.setIfInBounds_toArray, List.set_cons_zero, List.set_cons_succ]
              refine wpAnyH_take (i := 27) rfl (by kernel_rfl) (by kernel_rfl) (by kernel_rfl) (fun _ _ _ h => h) (Or.inr ⟨by rfl, rfl⟩) (by assumption) ?_
              try simp only [List.getElem_toArray, List.getElem_cons_succ, List.getElem_cons_zero, Act.put, List.setIfInBounds_toArray, List.set_cons_zero, List.set_cons_succ]
              refine wpAnyH_take (i := 28) rfl (by kernel_rfl) (by kernel_rfl) (by kernel_rfl) (fun _ _ _ h => h) (Or.inr ⟨by rfl, rfl⟩) (by assumption) ?_
              try simp only [List.getElem_toArray, List.getElem_cons_succ, List.getElem_cons_zero, Act.put, List.setIfInBounds_toArray, List.set_cons_zero, List.set_cons_succ]
              refine wpAnyH_take (i := 29) rfl (by kernel_rfl) (by kernel_rfl) (by kernel_rfl) (fun _ _ _ h => h) (Or.inr ⟨by rfl, rfl⟩) (by assumption) ?_
              try simp only [List.getElem_toArray, List.getElem_cons_succ, List.getElem_cons_zero, Act.put, List.setIfInBounds_toArray, List.set_cons_zero, List.set_cons_succ]
              refine wpAnyH_take (i := 30) rfl (by kernel_rfl) (by kernel_rfl) (by kernel_rfl) (fun _ _ _ h => h) (Or.inr ⟨by rfl, rfl⟩) (by assumption) ?_
              try simp only [List.getElem_toArray, List.getElem_cons_succ, List.getElem_cons_zero, Act.put, List.setIfInBounds_toArray, List.set_cons_zero, List.set_cons_succ]
              refine wpAnyH_take (i := 31) rfl (by kernel_rfl) (by kernel_rfl) (by kernel_rfl) (fun _ _ _ h => h) (Or.inr ⟨by rfl, rfl⟩) (by assumption) ?_
              try simp only [List.getElem_toArray, List.getElem_cons_succ, List.getElem_cons_zero, Act.put, List.setIfInBounds_toArray, List.set_cons_zero, List.set_cons_succ]
              refine wpAnyH_take (i := 32) rfl (by kernel_rfl) (by kernel_rfl) (by kernel_rfl) (fun _ _ _ h => h) (Or.inr ⟨by rfl, rfl⟩) (by assumption) ?_
              try simp only [List.getElem_toArray, List.getElem_cons_succ, List.getElem_cons_zero, Act.put, List.setIfInBounds_toArray, List.set_cons_zero, List.set_cons_succ]
              refine wpAnyH_take (i := 33) rfl (by kernel_rfl) (by kernel_rfl) (by kernel_rfl) (fun _ _ _ h => h) (Or.inr ⟨by rfl, rfl⟩) (by assumption) ?_
              try simp only [List.getElem_toArray, List.getElem_cons_succ, List.getElem_cons_zero, Act.put, List.setIfInBounds_toArray, List.set_cons_zero, List.set_cons_succ]
              refine wpAnyH_take (i := 34) (v := ?v12_34) rfl (by kernel_rfl) (by kernel_rfl) (by kernel_rfl) (fun _ _ _ h => h) (Or.inl ⟨by rfl, ?y12_34⟩) (by assumption) ?z12_34
              case y12_34 => (intro w hSw; go_simp; first | done | with_reducible rfl)
              try simp only [List.getElem_toArray, List.getElem_cons_succ, List.getElem_cons_zero, Act.put, List.setIfInBounds_toArray, List.set_cons_zero, List.set_cons_succ]
              refine wpAnyH_take (i := 35) (v := ?v12_35) rfl (by kernel_rfl) (by kernel_rfl) (by kernel_rfl) (fun _ _ _ h => h) (Or.inl ⟨by rfl, ?y12_35⟩) (by assumption) ?z12_35
              case y12_35 => (intro w hSw; go_simp; first | done | with_reducible rfl)
              try simp only [List.getElem_toArray, List.getElem_cons_succ, List.getElem_cons_zero, Act.put, List.setIfInBounds_toArray, List.set_cons_zero, List.set_cons_succ]
              refine wpAnyH_done (by kernel_rfl) ?_ _
              go_wp2_with fail
              go_roundw
              case rel => exact ⟨j + 1, by omega, by go_num, by rw [HN.out], belT HU.out (by assumption)⟩
              case measure => simp [intOf]; omega
            have f1 : ((d1 : Int) != (d2 : Int)) = true := by rw [bne_iff_ne]; omega
            have f2 : ((d1 : Int) == (d2 : Int)) = false := by rw [beq_eq_false_iff_ne]; omega
            by_cases hmm : m1 = m2
            · have HN : Hid (apN c l x (j + 1) = false) := by show _ = false; rw [HAP.out, hmm]; simp
              have f3 : ((m1 : Int) != (m2 : Int)) = false := by rw [hmm]; simp
              have f4 : ((m1 : Int) == (m2 : Int)) = true := by rw [hmm]; simp
              clear ha HAP hdd hmm
              go_wp2_with fail
              refine wp_region_held_drew (S := fun w' => Below wr.heap.size wr w') (by kernel_rfl) (by first | exact Below.drew (Below.refl _ _) | exact Below.drew (by assumption)) (fun hHeld => ?_)
              refine wpAnyH_take (i := 0) (v := ?v13_0) rfl (by kernel_rfl) (by kernel_rfl) (by kernel_rfl) (fun _ _ _ h => h) (Or.inl ⟨by rfl, ?y13_0⟩) (by assumption) ?z13_0
              case y13_0 => (intro w hSw; go_simp; first | done | with_reducible rfl)
              try simp only [List.getElem_toArray, List.getElem_cons_succ, List.getElem_cons_zero, Act.put, List.setIfInBounds_toArray, List.set_cons_zero, List.set_cons_succ]
              refine wpAnyH_take (i := 1) (v := ?v13_1) rfl (by kernel_rfl) (by kernel_rfl) (by kernel_rfl) (fun _ _ _ h => h) (Or.inl ⟨by rfl, ?y13_1⟩) (by assumption) ?z13_1
              case y13_1 => (intro w hSw; go_simp; first | done | with_reducible rfl)
              try simp only [List.getElem_toArray, List.getElem_cons_succ, List.getElem_cons_zero, Act.put, List.setIfInBounds_toArray, List.set_cons_zero, List.set_cons_succ]
              refine wpAnyH_take (i := 2) (v := ?v13_2) rfl (by kernel_rfl) (by kernel_rfl) (by kernel_rfl) (fun _ _ _ h => h) (Or.inl ⟨by rfl, ?y13_2⟩) (by assumption) ?z13_2
              case y13_2 => (intro w hSw; go_simp; first | done | with_reducible rfl)
              try simp only [List.getElem_toArray, List.getElem_cons_succ, List.getElem_cons_zero, Act.put, List.setIfInBounds_toArray, List.set_cons_zero, List.set_cons_succ]
              refine wpAnyH_take (i := 3) (v := ?v13_3) rfl (by kernel_rfl) (by kernel_rfl) (by kernel_rfl) (fun _ _ _ h => h) (Or.inl ⟨by rfl, ?y13_3⟩) (by assumption) ?z13_3
              case y13_3 => (intro w hSw; go_simp; first | done | with_reducible rfl)
              try simp only [List.getElem_toArray, List.getElem_cons_succ, List.getElem_cons_zero, Act.put, List.setIfInBounds_toArray, List.set_cons_zero, List.set_cons_succ]
              refine wpAnyH_take (i := 4) (v := ?v13_4) rfl (by kernel_rfl) (by kernel_rfl) (by kernel_rfl) (fun _ _ _ h => h) (Or.inl ⟨by rfl, ?y13_4⟩) (by assumption) ?z13_4
              case y13_4 => (intro w hSw; go_simp; first | done | with_reducible rfl)
              try simp only [List.getElem_toArray, List.getElem_cons_succ, List.getElem_cons_zero, Act.put, List.setIfInBounds_toArray, List.set_cons_zero, List.set_cons_succ]
              refine wpAnyH_take (i := 5) (v := ?v13_5) rfl (by kernel_rfl) (by kernel_rfl) (by kernel_rfl) (fun _ _ _ h => h) (Or.inl ⟨by rfl, ?y13_5⟩) (by assumption) ?z13_5
              case y13_5 => (intro w hSw; go_simp; first | done | with_reducible rfl)
              try simp only [List.getElem_toArray, List.getElem_cons_succ, List.getElem_cons_zero, Act.put, List.setIfInBounds_toArray, List.set_cons_zero, List.set_cons_succ]
              refine wpAnyH_take (i := 6) (v := ?v13_6) rfl (by kernel_rfl) (by kernel_rfl) (by kernel_rfl) (fun _ _ _ h => h) (Or.inl ⟨by rfl, ?y13_6⟩) (by assumption) ?z13_6
              case y13_6 => (intro w hSw; go_simp; first | done | with_reducible rfl)
              try simp only [List.getElem_toArray, List.getElem_cons_succ, List.getElem_cons_zero, Act.put, List.setIfInBounds_toArray, List.set_cons_zero, List.set_cons_succ]
              refine wpAnyH_take (i := 7) (v := ?v13_7) rfl (by kernel_rfl) (by kernel_rfl) (by kernel_rfl) (fun _ _ _ h => h) (Or.inl ⟨by rfl, ?y13_7⟩) (by assumption) ?z13_7
              case y13_7 => (intro w hSw; go_simp; first | done | with_reducible rfl)
              try simp only [List.getElem_toArray, List.getElem_cons_succ, List.getElem_cons_zero, Act.put, List.setIfInBounds_toArray, List.set_cons_zero, List.set_cons_succ]
              refine wpAnyH_take (i := 8) (v := ?v13_8) rfl (by kernel_rfl) (by kernel_rfl) (by kernel_rfl) (fun _ _ _ h => h) (Or.inl ⟨by rfl, ?y13_8⟩) (by assumption) ?z13_8
              case y13_8 => (intro w hSw; go_simp; first | done | with_reducible rfl)
              try simp only [List.getElem_toArray, List.getElem_cons_succ, List.getElem_cons_zero, Act.put, List.setIfInBounds_toArray, List.set_cons_zero, List.set_cons_succ]
              refine wpAnyH_take (i := 9) (v := ?v13_9) rfl (by kernel_rfl) (by kernel_rfl) (by kernel_rfl) (fun _ _ _ h => h) (Or.inl ⟨by rfl, ?y13_9⟩) (by assumption) ?z13_9
              case y13_9 => (intro w hSw; go_simp; first | done | with_reducible rfl)
              try simp only [List.getElem_toArray, List.getElem_cons_succ, List.getElem_cons_zero, Act.put, List.setIfInBounds_toArray, List.set_cons_zero, List.set_cons_succ]
              refine wpAnyH_take (i := 10) (v := ?v13_10) rfl (by kernel_rfl) (by kernel_rfl) (by kernel_rfl) (fun _ _ _ h => h) (Or.inl ⟨by rfl, ?y13_10⟩) (by assumption) ?z13_10
              case y13_10 => (intro w hSw; go_simp; first | done | with_reducible rfl)
              try simp only [List.getElem_toArray, List.getElem_cons_succ, List.getElem_cons_zero, Act.put, List.setIfInBounds_toArray, List.set_cons_zero, List.set_cons_succ]
              refine wpAnyH_take (i := 11) (v := ?v13_11) rfl (by kernel_rfl) (by kernel_rfl) (by kernel_rfl) (fun _ _ _ h => h) (Or.inl ⟨by rfl, ?y13_11⟩) (by assumption) ?z13_11
              case y13_11 => (intro w hSw; go_simp; first | done | with_reducible rfl)
              try simp only [List.getElem_toArray, List.getElem_cons_succ, List.getElem_cons_zero, Act.put, List.setIfInBounds_toArray, List.set_cons_zero, List.set_cons_succ]
              refine wpAnyH_take (i := 12) (v := ?v13_12) rfl (by kernel_rfl) (by kernel_rfl) (by kernel_rfl) (fun _ _ _ h => h) (Or.inl ⟨by rfl, ?y13_12⟩) (by assumption) ?z13_12
              case y13_12 => (intro w hSw; go_simp; first | done | with_reducible rfl)
              try simp only [List.getElem_toArray, List.getElem_cons_succ, List.getElem_cons_zero, Act.put, List.setIfInBounds_toArray, List.set_cons_zero, List.set_cons_succ]
              refine wpAnyH_take (i := 13) (v := ?v13_13) rfl (by kernel_rfl) (by kernel_rfl) (by kernel_rfl) (fun _ _ _ h => h) (Or.inl ⟨by rfl, ?y13_13⟩) (by assumption) ?z13_13
              case y13_13 => (intro w hSw; go_simp; first | done | with_reducible rfl)
              try simp only [List.getElem_toArray, List.getElem_cons_succ, List.getElem_cons_zero, Act.put, List.setIfInBounds_toArray, List.set_cons_zero, List.set_cons_succ]
              refine wpAnyH_take (i := 14) (v := ?v13_14) rfl (by kernel_rfl) (by kernel_rfl) (by kernel_rfl) (fun _ _ _ h => h) (Or.inl ⟨by rfl, ?y13_14⟩) (by assumption) ?z13_14
              case y13_14 => (intro w hSw; go_simp; first | done | with_reducible rfl)
              try simp only [List.getElem_toArray, List.getElem_cons_succ, List.getElem_cons_zero, Act.put, List.setIfInBounds_toArray, List.set_cons_zero, List.set_cons_succ]
              refine wpAnyH_take (i := 15) (v := ?v13_15) rfl (by kernel_rfl) (by kernel_rfl) (by kernel_rfl) (fun _ _ _ h => h) (Or.inl ⟨by rfl, ?y13_15⟩) (by assumption) ?z13_15
              case y13_15 => (intro w hSw; go_simp; first | done | with_reducible rfl)
              try simp only [List.getElem_toArray, List.getElem_cons_succ, List.getElem_cons_zero, Act.put, List.setIfInBounds_toArray, List.set_cons_zero, List.set_cons_succ]
              refine wpAnyH_take (i := 16) (v := ?v13_16) rfl (by kernel_rfl) (by kernel_rfl) (by kernel_rfl) (fun _ _ _ h => h) (Or.inl ⟨by rfl, ?y13_16⟩) (by assumption) ?z13_16
              case y13_16 => (intro w hSw; go_simp; first | done | with_reducible rfl)
              try simp only [List.getElem_toArray, List.getElem_cons_succ, List.getElem_cons_zero, Act.put, List.setIfInBounds_toArray, List.set_cons_zero, List.set_cons_succ]
              refine wpAnyH_take (i := 17) (v := ?v13_17) rfl (by kernel_rfl) (by kernel_rfl) (by kernel_rfl) (fun _ _ _ h => h) (Or.inl ⟨by rfl, ?y13_17⟩) (by assumption) ?z13_17
              case y13_17 => (intro w hSw; go_simp; first | done | with_reducible rfl)
              try simp only [List.getElem_toArray, List.getElem_cons_succ, List.getElem_cons_zero, Act.put, List.setIfInBounds_toArray, List.set_cons_zero, List.set_cons_succ]
              refine wpAnyH_take (i := 18) (v := ?v13_18) rfl (by kernel_rfl) (by kernel_rfl) (by kernel_rfl) (fun _ _ _ h => h) (Or.inl ⟨by rfl, ?y13_18⟩) (by assumption) ?z13_18
              case y13_18 => (intro w hSw; go_simp; first | done | with_reducible rfl)
              try simp only [List.getElem_toArray, List.getElem_cons_succ, List.getElem_cons_zero, Act.put, List.setIfInBounds_toArray, List.set_cons_zero, List.set_cons_succ]
              refine wpAnyH_take (i := 19) (v := ?v13_19) rfl (by kernel_rfl) (by kernel_rfl) (by kernel_rfl) (fun _ _ _ h => h) (Or.inl ⟨by rfl, ?y13_19⟩) (by assumption) ?z13_19
              case y13_19 => (intro w hSw; go_simp; first | done | with_reducible rfl)
              try simp only [List.getElem_toArray, List.getElem_cons_succ, List.getElem_cons_zero, Act.put, List.setIfInBounds_toArray, List.set_cons_zero, List.set_cons_succ]
              refine wpAnyH_take (i := 20) (v := ?v13_20) rfl (by kernel_rfl) (by kernel_rfl) (by kernel_rfl) (fun _ _ _ h => h) (Or.inl ⟨by rfl, ?y13_20⟩) (by assumption) ?z13_20
              case y13_20 => (intro w hSw; go_simp; first | done | with_reducible rfl)
              try simp only [List.getElem_toArray, List.getElem_cons_succ, List.getElem_cons_zero, Act.put, List.setIfInBounds_toArray, List.set_cons_zero, List.set_cons_succ]
              refine wpAnyH_take (i := 21) (v := ?v13_21) rfl (by kernel_rfl) (by kernel_rfl) (by kernel_rfl) (fun _ _ _ h => h) (Or.inl ⟨by rfl, ?y13_21⟩) (by assumption) ?z13_21
              case y13_21 => (intro w hSw; go_simp; first | done | with_reducible rfl)
              try simp only [List.getElem_toArray, List.getElem_cons_succ, List.getElem_cons_zero, Act.put, List.setIfInBounds_toArray, List.set_cons_zero, List.set_cons_succ]
              refine wpAnyH_take (i := 22) (v := ?v13_22) rfl (by kernel_rfl) (by kernel_rfl) (by kernel_rfl) (fun _ _ _ h => h) (Or.inl ⟨by rfl, ?y13_22⟩) (by assumption) ?z13_22
              case y13_22 => (intro w hSw; go_simp; first | done | with_reducible rfl)
              try simp only [List.getElem_toArray, List.getElem_cons_succ, List.getElem_cons_zero, Act.put, List.setIfInBounds_toArray, List.set_cons_zero, List.set_cons_succ]
              refine wpAnyH_take (i := 23) (v := ?v13_23) rfl (by kernel_rfl) (by kernel_rfl) (by kernel_rfl) (fun _ _ _ h => h) (Or.inl ⟨by rfl, ?y13_23⟩) (by assumption) ?z13_23
              case y13_23 => (intro w hSw; go_simp; first | done | with_reducible rfl)
              try simp only [List.getElem_toArray, List.getElem_cons_succ, List.getElem_cons_zero, Act.put, List.setIfInBounds_toArray, List.set_cons_zero, List.set_cons_succ]
              refine wpAnyH_take (i := 24) (v := ?v13_24) rfl (by kernel_rfl) (by kernel_rfl) (by kernel_rfl) (fun _ _ _ h => h) (Or.inl ⟨by rfl, ?y13_24⟩) (by assumption) ?z13_24
              case y13_24 => (intro w hSw; go_simp; first | done | with_reducible rfl)
              try simp only [List.getElem_toArray, List.getElem_cons_succ, List.getElem_cons_zero, Act.put, List.setIfInBounds_toArray, List.set_cons_zero, List.set_cons_succ]
              refine wpAnyH_take (i := 25) (v := ?v13_25) rfl (by kernel_rfl) (by kernel_rfl) (by kernel_rfl) (fun _ _ _ h => h) (Or.inl ⟨by rfl, ?y13_25⟩) (by assumption) ?z13_25
              case y13_25 => (intro w hSw; go_simp; first | done | with_reducible rfl)
              try simp only [List.getElem_toArray, List.getElem_cons_succ, List.getElem_cons_zero, Act.put, List.setIfInBounds_toArray, List.set_cons_zero, List.set_cons_succ]
              refine wpAnyH_take (i := 26) (v := ?v13_26) rfl (by kernel_rfl) (by kernel_rfl) (by kernel_rfl) (fun _ _ _ h => h) (Or.inl ⟨by rfl, ?y13_26⟩) (by assumption) ?z13_26
              case y13_26 => (intro w hSw; go_simp; first | done | with_reducible rfl)
              try simp only [List.getElem_toArray, List.getElem_cons_succ, List.getElem_cons_zero, Act.put, List.setIfInBounds_toArray, List.set_cons_zero, List.set_cons_succ]
              refine wpAnyH_take (i := 27) (v := ?v13_27) rfl (by kernel_rfl) (by kernel_rfl) (by kernel_rfl) (fun _ _ _ h => h) (Or.inl ⟨by rfl, ?y13_27⟩) (by assumption) ?z13_27
              case y13_27 => (intro w hSw; go_simp; first | done | with_reducible rfl)
              try simp only [List.getElem_toArray, List.getElem_cons_succ, List.getElem_cons_zero, Act.put, List.setIfInBounds_toArray, List.set_cons_zero, List.set_cons_succ]
              refine wpAnyH_take (i := 28) (v := ?v13_28) rfl (by kernel_rfl) (by kernel_rfl) (by kernel_rfl) (fun _ _ _ h => h) (Or.inl ⟨by rfl, ?y13_28⟩) (by assumption) ?z13_28
              case y13_28 => (intro w hSw; go_simp; first | done | with_reducible rfl)
              try simp only [List.getElem_toArray, List.getElem_cons_succ, List.getElem_cons_zero, Act.put, List.setIfInBounds_toArray, List.set_cons_zero, List.set_cons_succ]
              refine wpAnyH_take (i := 29) (v := ?v13_29) rfl (by kernel_rfl) (by kernel_rfl) (by kernel_rfl) (fun _ _ _ h => h) (Or.inl ⟨by rfl, ?y13_29⟩) (by assumption) ?z13_29
              case y13_29 => (intro w hSw; go_simp; first | done | with_reducible rfl)
              try simp only [List.getElem_toArray, List.getElem_cons_succ, List.getElem_cons_zero, Act.put, List.setIfInBounds_toArray, List.set_cons_zero, List.set_cons_succ]
              refine wpAnyH_take (i := 30) (v := ?v13_30) rfl (by kernel_rfl) (by kernel_rfl) (by kernel_rfl) (fun _ _ _ h => h) (Or.inl ⟨by rfl, ?y13_30⟩) (by assumption) ?z13_30
              case y13_30 => (intro w hSw; go_simp; first | done | with_reducible rfl)
              try simp only [List.getElem_toArray, List.getElem_cons_succ, List.getElem_cons_zero, Act.put, List.setIfInBounds_toArray, List.set_cons_zero, List.set_cons_succ]
              refine wpAnyH_take (i := 31) (v := ?v13_31) rfl (by kernel_rfl) (by kernel_rfl) (by kernel_rfl) (fun _ _ _ h => h) (Or.inl ⟨by rfl, ?y13_31⟩) (by assumption) ?z13_31
              case y13_31 => (intro w hSw; go_simp; first | done | with_reducible rfl)
              try simp only [List.getElem_toArray, List.getElem_cons_succ, List.getElem_cons_zero, Act.put, List.setIfInBounds_toArray, List.set_cons_zero, List.set_cons_succ]
              refine wpAnyH_take (i := 32) (v := ?v13_32) rfl (by kernel_rfl) (by kernel_rfl) (by kernel_rfl) (fun _ _ _ h => h) (Or.inl ⟨by rfl, ?y13_32⟩) (by assumption) ?z13_32
              case y13_32 => (intro w hSw; go_simp; first | done | with_reducible rfl)
              try simp only [List.getElem_toArray, List.getElem_cons_succ, List.getElem_cons_zero, Act.put, List.setIfInBounds_toArray, List.set_cons_zero, List.set_cons_succ]
              refine wpAnyH_take (i := 33) (v := ?v13_33) rfl (by kernel_rfl) (by kernel_rfl) (by kernel_rfl) (fun _ _ _ h => h) (Or.inl ⟨by rfl, ?y13_33⟩) (by assumption) ?z13_33
              case y13_33 => (intro w hSw; go_simp; first | done | with_reducible rfl)
              try simp only [List.getElem_toArray, List.getElem_cons_succ, List.getElem_cons_zero, Act.put, List.setIfInBounds_toArray, List.set_cons_zero, List.set_cons_succ]
              refine wpAnyH_take (i := 34) (v := ?v13_34) rfl (by kernel_rfl) (by kernel_rfl) (by kernel_rfl) (fun _ _ _ h => h) (Or.inl ⟨by rfl, ?y13_34⟩) (by assumption) ?z13_34
              case y13_34 => (intro w hSw; go_simp; first | done | with_reducible rfl)
              try simp only [List.getElem_toArray, List.getElem_cons_succ, List.getElem_cons_zero, Act.put, List.setIfInBounds_toArray, List.set_cons_zero, List.set_cons_succ]
              refine wpAnyH_take (i := 35) (v := ?v13_35) rfl (by kernel_rfl) (by kernel_rfl) (by kernel_rfl) (fun _ _ _ h => h) (Or.inl ⟨by rfl, ?y13_35⟩) (by assumption) ?z13_35
              case y13_35 => (intro w hSw; go_simp; first | done | with_reducible rfl)
              try simp only [List.getElem_toArray, List.getElem_cons_succ, List.getElem_cons_zero, Act.put, List.setIfInBounds_toArray, List.set_cons_zero, List.set_cons_succ]
              refine wpAnyH_done (by kernel_rfl) ?_ _
              go_wp2_with fail
              go_roundw
              case rel => exact ⟨j + 1, by omega, by go_num, by rw [HN.out], belT HU.out (by assumption)⟩
              case measure => simp [intOf]; omega
            · have HN : Hid (apN c l x (j + 1) = true) := by show _ = true; rw [HAP.out, ha]; simp [hdd, hmm]
              have f3 : ((m1 : Int) != (m2 : Int)) = true := by rw [bne_iff_ne]; omega
              have f4 : ((m1 : Int) == (m2 : Int)) = false := by rw [beq_eq_false_iff_ne]; omega
              clear ha HAP hdd hmm
              go_wp2_with fail
              refine wp_region_held_drew (S := fun w' => Below wr.heap.size wr w') (by kernel_rfl) (by first | exact Below.drew (Below.refl _ _) | exact Below.drew (by assumption)) (fun hHeld => ?_)
              refine wpAnyH_take (i := 0) (v := ?v14_0) rfl (by kernel_rfl) (by kernel_rfl) (by kernel_rfl) (fun _ _ _ h => h) (Or.inl ⟨by rfl, ?y14_0⟩) (by assumption) ?z14_0
              case y14_0 => (intro w hSw; go_simp; first | done | with_reducible rfl)
              try simp only [List.getElem_toArray, List.getElem_cons_succ, List.getElem_cons_zero, Act.put, List.setIfInBounds_toArray, List.set_cons_zero, List.set_cons_succ]
              refine wpAnyH_take (i := 1) (v := ?v14_1) rfl (by kernel_rfl) (by kernel_rfl) (by kernel_rfl) (fun _ _ _ h => h) (Or.inl ⟨by rfl, ?y14_1⟩) (by assumption) ?z14_1
              case y14_1 => (intro w hSw; go_simp; first | done | with_reducible rfl)
              try simp only [List.getElem_toArray, List.getElem_cons_succ, List.getElem_cons_zero, Act.put, List.setIfInBounds_toArray, List.set_cons_zero, List.set_cons_succ]
              refine wpAnyH_take (i := 2) (v := ?v14_2) rfl (by kernel_rfl) (by kernel_rfl) (by kernel_rfl) (fun _ _ _ h => h) (Or.inl ⟨by rfl, ?y14_2⟩) (by assumption) ?z14_2
              case y14_2 => (intro w hSw; go_simp; first | done | with_reducible rfl)
              try simp only [List.getElem_toArray, List.getElem_cons_succ, List.getElem_cons_zero, Act.put, List.setIfInBounds_toArray, List.set_cons_zero, List.set_cons_succ]
              refine wpAnyH_take (i := 3) (v := ?v14_3) rfl (by kernel_rfl) (by kernel_rfl) (by kernel_rfl) (fun _ _ _ h => h) (Or.inl ⟨by rfl, ?y14_3⟩) (by assumption) ?z14_3
              case y14_3 => (intro w hSw; go_simp; first | done | with_reducible rfl)
              try simp only [List.getElem_toArray, List.getElem_cons_succ, List.getElem_cons_zero, Act.put, List.setIfInBounds_toArray, List.set_cons_zero, List.set_cons_succ]
              refine wpAnyH_take (i := 4) (v := ?v14_4) rfl (by kernel_rfl) (by kernel_rfl) (by kernel_rfl) (fun _ _ _ h => h) (Or.inl ⟨by rfl, ?y14_4⟩) (by assumption) ?z14_4
              case y14_4 => (intro w hSw; go_simp; first | done | with_reducible rfl)
              try simp only [List.getElem_toArray, List.getElem_cons_succ, List.getElem_cons_zero, Act.put, List.setIfInBounds_toArray, List.set_cons_zero, List.set_cons_succ]
              refine wpAnyH_take (i := 5) (v := ?v14_5) rfl (by kernel_rfl) (by kernel_rfl) (by kernel_rfl) (fun _ _ _ h => h) (Or.inl ⟨by rfl, ?y14_5⟩) (by assumption) ?z14_5
              case y14_5 => (intro w hSw; go_simp; first | done | with_reducible rfl)
              try simp only [List.getElem_toArray, List.getElem_cons_succ, List.getElem_cons_zero, Act.put, List.setIfInBounds_toArray, List.set_cons_zero, List.set_cons_succ]
              refine wpAnyH_take (i := 6) (v := ?v14_6) rfl (by kernel_rfl) (by kernel_rfl) (by kernel_rfl) (fun _ _ _ h => h) (Or.inl ⟨by rfl, ?y14_6⟩) (by assumption) ?z14_6
              case y14_6 => (intro w hSw; go_simp; first | done | with_reducible rfl)
              try simp only [List.getElem_toArray, List.getElem_cons_succ, List.getElem_cons_zero, Act.put, List.setIfInBounds_toArray, List.set_cons_zero, List.set_cons_succ]
              refine wpAnyH_take (i := 7) (v := ?v14_7) rfl (by kernel_rfl) (by kernel_rfl) (by kernel_rfl) (fun _ _ _ h => h) (Or.inl ⟨by rfl, ?y14_7⟩) (by assumption) ?z14_7
              case y14_7 => (intro w hSw; go_simp; first | done | with_reducible rfl)
              try simp only [List.getElem_toArray, List.getElem_cons_succ, List.getElem_cons_zero, Act.put, List.setIfInBounds_toArray, List.set_cons_zero, List.set_cons_succ]
              refine wpAnyH_take (i := 8) (v := ?v14_8) rfl (by kernel_rfl) (by kernel_rfl) (by kernel_rfl) (fun _ _ _ h => h) (Or.inl ⟨by rfl, ?y14_8⟩) (by assumption) ?z14_8
              case y14_8 => (intro w hSw; go_simp; first | done | with_reducible rfl)
              try simp only [List.getElem_toArray, List.getElem_cons_succ, List.getElem_cons_zero, Act.put, List.setIfInBounds_toArray, List.set_cons_zero, List.set_cons_succ]
              refine wpAnyH_take (i := 9) (v := ?v14_9) rfl (by kernel_rfl) (by kernel_rfl) (by kernel_rfl) (fun _ _ _ h => h) (Or.inl ⟨by rfl, ?y14_9⟩) (by assumption) ?z14_9
              case y14_9 => (intro w hSw; go_simp; first | done | with_reducible rfl)
              try simp only [List.getElem_toArray, List.getElem_cons_succ, List.getElem_cons_zero, Act.put, List.setIfInBounds_toArray, List.set_cons_zero, List.set_cons_succ]
              refine wpAnyH_take (i := 10) (v := ?v14_10) rfl (by kernel_rfl) (by kernel_rfl) (by kernel_rfl) (fun _ _ _ h => h) (Or.inl ⟨by rfl, ?y14_10⟩) (by assumption) ?z14_10
              case y14_10 => (intro w hSw; go_simp; first | done | with_reducible rfl)
              try simp only [List.getElem_toArray, List.getElem_cons_succ, List.getElem_cons_zero, Act.put, List.setIfInBounds_toArray, List.set_cons_zero, List.set_cons_succ]
              refine wpAnyH_take (i := 11) (v := ?v14_11) rfl (by kernel_rfl) (by kernel_rfl) (by kernel_rfl) (fun _ _ _ h => h) (Or.inl ⟨by rfl, ?y14_11⟩) (by assumption) ?z14_11
              case y14_11 => (intro w hSw; go_simp; first | done | with_reducible rfl)
              try simp only [List.getElem_toArray, List.getElem_cons_succ, List.getElem_cons_zero, Act.put, List.setIfInBounds_toArray, List.set_cons_zero, List.set_cons_succ]
              refine wpAnyH_take (i := 12) (v := ?v14_12) rfl (by kernel_rfl) (by kernel_rfl) (by kernel_rfl) (fun _ _ _ h => h) (Or.inl ⟨by rfl, ?y14_12⟩) (by assumption) ?z14_12
              case y14_12 => (intro w hSw; go_simp; first | done | with_reducible rfl)
              try simp only [List.getElem_toArray, List.getElem_cons_succ, List.getElem_cons_zero, Act.put, List.setIfInBounds_toArray, List.set_cons_zero, List.set_cons_succ]
              refine wpAnyH_take (i := 13) (v := ?v14_13) rfl (by kernel_rfl) (by kernel_rfl) (by kernel_rfl) (fun _ _ _ h => h) (Or.inl ⟨by rfl, ?y14_13⟩) (by assumption) ?z14_13
              case y14_13 => (intro w hSw; go_simp; first | done | with_reducible rfl)
              try simp only [List.getElem_toArray, List.getElem_cons_succ, List.getElem_cons_zero, Act.put, List.setIfInBounds_toArray, List.set_cons_zero, List.set_cons_succ]
              refine wpAnyH_take (i := 14) (v := ?v14_14) rfl (by kernel_rfl) (by kernel_rfl) (by kernel_rfl) (fun _ _ _ h => h) (Or.inl ⟨by rfl, ?y14_14⟩) (by assumption) ?z14_14
              case y14_14 => (intro w hSw; go_simp; first | done | with_reducible rfl)
              try simp only [List.getElem_toArray, List.getElem_cons_succ, List.getElem_cons_zero, Act.put, List.setIfInBounds_toArray, List.set_cons_zero, List.set_cons_succ]
              refine wpAnyH_take (i := 15) (v := ?v14_15) rfl (by kernel_rfl) (by kernel_rfl) (by kernel_rfl) (fun _ _ _ h => h) (Or.inl ⟨by rfl, ?y14_15⟩) (by assumption) ?z14_15
              case y14_15 => (intro w hSw; go_simp; first | done | with_reducible rfl)
              try simp only [List.getElem_toArray, List.getElem_cons_succ, List.getElem_cons_zero, Act.put, List.setIfInBounds_toArray, List.set_cons_zero, List.set_cons_succ]
              refine wpAnyH_take (i := 16) (v := ?v14_16) rfl (by kernel_rfl) (by kernel_rfl) (by kernel_rfl) (fun _ _ _ h => h) (Or.inl ⟨by rfl, ?y14_16⟩) (by assumption) ?z14_16
              case y14_16 => (intro w hSw; go_simp; first | done | with_reducible rfl)
              try simp only [List.getElem_toArray, List.getElem_cons_succ, List.getElem_cons_zero, Act.put, List.setIfInBounds_toArray, List.set_cons_zero, List.set_cons_succ]
              refine wpAnyH_take (i := 17) (v := ?v14_17) rfl (by kernel_rfl) (by kernel_rfl) (by kernel_rfl) (fun _ _ _ h => h) (Or.inl ⟨by rfl, ?y14_17⟩) (by assumption) ?z14_17
              case y14_17 => (intro w hSw; go_simp; first | done | with_reducible rfl)
              try simp only [List.getElem_toArray, List.getElem_cons_succ, List.getElem_cons_zero, Act.put, List.setIfInBounds_toArray, List.set_cons_zero, List.set_cons_succ]
              refine wpAnyH_take (i := 18) (v := ?v14_18) rfl (by kernel_rfl) (by kernel_rfl) (by kernel_rfl) (fun _ _ _ h => h) (Or.inl ⟨by rfl, ?y14_18⟩) (by assumption) ?z14_18
              case y14_18 => (intro w hSw; go_simp; first | done | with_reducible rfl)
              try simp only [List.getElem_toArray, List.getElem_cons_succ, List.getElem_cons_zero, Act.put, List.setIfInBounds_toArray, List.set_cons_zero, List.set_cons_succ]
              refine wpAnyH_take (i := 19) (v := ?v14_19) rfl (by kernel_rfl) (by kernel_rfl) (by kernel_rfl) (fun _ _ _ h => h) (Or.inl ⟨by rfl, ?y14_19⟩) (by assumption) ?z14_19
              case y14_19 => (intro w hSw; go_simp; first | done | with_reducible rfl)
              try simp only [List.getElem_toArray, List.getElem_cons_succ, List.getElem_cons_zero, Act.put, List.setIfInBounds_toArray, List.set_cons_zero, List.set_cons_succ]
              refine wpAnyH_take (i := 20) (v := ?v14_20) rfl (by kernel_rfl) (by kernel_rfl) (by kernel_rfl) (fun _ _ _ h => h) (Or.inl ⟨by rfl, ?y14_20⟩) (by assumption) ?z14_20
              case y14_20 => (intro w hSw; go_simp; first | done | with_reducible rfl)
              try simp only [List.getElem_toArray, List.getElem_cons_succ, List.getElem_cons_zero, Act.put, List.setIfInBounds_toArray, List.set_cons_zero, List.set_cons_succ]
              refine wpAnyH_take (i := 21) (v := ?v14_21) rfl (by kernel_rfl) (by kernel_rfl) (by kernel_rfl) (fun _ _ _ h => h) (Or.inl ⟨by rfl, ?y14_21⟩) (by assumption) ?z14_21
              case y14_21 => (intro w hSw; go_simp; first | done | with_reducible rfl)
              try simp only [List.getElem_toArray, List.getElem_cons_succ, List.getElem_cons_zero, Act.put, List.setIfInBounds_toArray, List.set_cons_zero, List.set_cons_succ]
              refine wpAnyH_take (i := 22) (v := ?v14_22) rfl (by kernel_rfl) (by kernel_rfl) (by kernel_rfl) (fun _ _ _ h => h) (Or.inl ⟨by rfl, ?y14_22⟩) (by assumption) ?z14_22
              case y14_22 => (intro w hSw; go_simp; first | done | with_reducible rfl)
              try simp only [List.getElem_toArray, List.getElem_cons_succ, List.getElem_cons_zero, Act.put, List.setIfInBounds_toArray, List.set_cons_zero, List.set_cons_succ]
              refine wpAnyH_take (i := 23) (v := ?v14_23) rfl (by kernel_rfl) (by kernel_rfl) (by kernel_rfl) (fun _ _ _ h => h) (Or.inl ⟨by rfl, ?y14_23⟩) (by assumption) ?z14_23
              case y14_23 => (intro w hSw; go_simp; first | done | with_reducible rfl)
              try simp only [List.getElem_toArray, List.getElem_cons_succ, List.getElem_cons_zero, Act.put, List.setIfInBounds_toArray, List.set_cons_zero, List.set_cons_succ]
              refine wpAnyH_take (i := 24) (v := ?v14_24) rfl (by kernel_rfl) (by kernel_rfl) (by kernel_rfl) (fun _ _ _ h => h) (Or.inl ⟨by rfl, ?y14_24⟩) (by assumption) ?z14_24
              case y14_24 => (intro w hSw; go_simp; first | done | with_reducible rfl)
              try simp only [List.getElem_toArray, List.getElem_cons_succ, List.getElem_cons_zero, Act.put, List.setIfInBounds_toArray, List.set_cons_zero, List.set_cons_succ]
              refine wpAnyH_take (i := 25) (v := ?v14_25) rfl (by kernel_rfl) (by kernel_rfl) (by kernel_rfl) (fun _ _ _ h => h) (Or.inl ⟨by rfl, ?y14_25⟩) (by assumption) ?z14_25
              case y14_25 => (intro w hSw; go_simp; first | done | with_reducible rfl)
              try simp only [List.getElem_toArray, List.getElem_cons_succ, List.getElem_cons_zero, Act.put, List.setIfInBounds_toArray, List.set_cons_zero, List.set_cons_succ]
              refine wpAnyH_take (i := 26) (v := ?v14_26) rfl (by kernel_rfl) (by kernel_rfl) (by kernel_rfl) (fun _ _ _ h => h) (Or.inl ⟨by rfl, ?y14_26⟩) (by assumption) ?z14_26
              case y14_26 => (intro w hSw; go_simp; first | done | with_reducible rfl)
              try simp only [List.getElem_toArray, List.getElem_cons_succ, List.getElem_cons_zero, Act.put, List.setIfInBounds_toArray, List.set_cons_zero, List.set_cons_succ]
              refine wpAnyH_take (i := 27) (v := ?v14_27) rfl (by kernel_rfl) (by kernel_rfl) (by kernel_rfl) (fun _ _ _ h => h) (Or.inl ⟨by rfl, ?y14_27⟩) (by assumption) ?z14_27
              case y14_27 => (intro w hSw; go_simp; first | done | with_reducible rfl)
              try simp only [List.getElem_toArray, List.getElem_cons_succ, List.getElem_cons_zero, Act.put, List.setIfInBounds_toArray, List.set_cons_zero, List.set_cons_succ]
              refine wpAnyH_take (i := 28) (v := ?v14_28) rfl (by kernel_rfl) (by kernel_rfl) (by kernel_rfl) (fun _ _ _ h => h) (Or.inl ⟨by rfl, ?y14_28⟩) (by assumption) ?z14_28
              case y14_28 => (intro w hSw; go_simp; first | done | with_reducible rfl)
              try simp only [List.getElem_toArray, List.getElem_cons_succ, List.getElem_cons_zero, Act.put, List.setIfInBounds_toArray, List.set_cons_zero, List.set_cons_succ]
              refine wpAnyH_take (i := 29) (v := ?v14_29) rfl (by kernel_rfl) (by kernel_rfl) (by kernel_rfl) (fun _ _ _ h => h) (Or.inl ⟨by rfl, ?y14_29⟩) (by assumption) ?z14_29
              case y14_29 => (intro w hSw; go_simp; first | done | with_reducible rfl)
              try simp only [List.getElem_toArray, List.getElem_cons_succ, List.getElem_cons_zero, Act.put, List.setIfInBounds_toArray, List.set_cons_zero, List.set_cons_succ]
              refine wpAnyH_take (i := 30) (v := ?v14_30) rfl (by kernel_rfl) (by kernel_rfl) (by kernel_rfl) (fun _ _ _ h => h) (Or.inl ⟨by rfl, ?y14_30⟩) (by assumption) ?z14_30
              case y14_30 => (intro w hSw; go_simp; first | done | with_reducible rfl)
              try simp only [List.getElem_toArray, List.getElem_cons_succ, List.getElem_cons_zero, Act.put, List.setIfInBounds_toArray, List.set_cons_zero, List.set_cons_succ]
              refine wpAnyH_take (i := 31) (v := ?v14_31) rfl (by kernel_rfl) (by kernel_rfl) (by kernel_rfl) (fun _ _ _ h => h) (Or.inl ⟨by rfl, ?y14_31⟩) (by assumption) ?z14_31
              case y14_31 => (intro w hSw; go_simp; first | done | with_reducible rfl)
              try simp only [List.getElem_toArray, List.getElem_cons_succ, List.getElem_cons_zero, Act.put, List.setIfInBounds_toArray, List.set_cons_zero, List.set_cons_succ]
              refine wpAnyH_take (i := 32) (v := ?v14_32) rfl (by kernel_rfl) (by kernel_rfl) (by kernel_rfl) (fun _ _ _ h => h) (Or.inl ⟨by rfl, ?y14_32⟩) (by assumption) ?z14_32
              case y14_32 => (intro w hSw; go_simp; first | done | with_reducible rfl)
              try simp only [List.getElem_toArray, List.getElem_cons_succ, List.getElem_cons_zero, Act.put, List.setIfInBounds_toArray, List.set_cons_zero, List.set_cons_succ]
              refine wpAnyH_take (i := 33) (v := ?v14_33) rfl (by kernel_rfl) (by kernel_rfl) (by kernel_rfl) (fun _ _ _ h => h) (Or.inl ⟨by rfl, ?y14_33⟩) (by assumption) ?z14_33
              case y14_33 => (intro w hSw; go_simp; first | done | with_reducible rfl)
              try simp only [List.getElem_toArray, List.getElem_cons_succ, List.getElem_cons_zero, Act.put, List.setIfInBounds_toArray, List.set_cons_zero, List.set_cons_succ]
              refine wpAnyH_take (i := 34) (v := ?v14_34) rfl (by kernel_rfl) (by kernel_rfl) (by kernel_rfl) (fun _ _ _ h => h) (Or.inl ⟨by rfl, ?y14_34⟩) (by assumption) ?z14_34
              case y14_34 => (intro w hSw; go_simp; first | done | with_reducible rfl)
              try simp only [List.getElem_toArray, List.getElem_cons_succ, List.getElem_cons_zero, Act.put, List.setIfInBounds_toArray, List.set_cons_zero, List.set_cons_succ]
              refine wpAnyH_take (i := 35) (v := ?v14_35) rfl (by kernel_rfl) (by kernel_rfl) (by kernel_rfl) (fun _ _ _ h => h) (Or.inl ⟨by rfl, ?y14_35⟩) (by assumption) ?z14_35
              case y14_35 => (intro w hSw; go_simp; first | done | with_reducible rfl)
              try simp only [List.getElem_toArray, List.getElem_cons_succ, List.getElem_cons_zero, Act.put, List.setIfInBounds_toArray, List.set_cons_zero, List.set_cons_succ]
              refine wpAnyH_done (by kernel_rfl) ?_ _
              go_wp2_with fail
              go_roundw
              case rel => exact ⟨j + 1, by omega, by go_num, by rw [HN.out], belT HU.out (by assumption)⟩
              case measure => simp [intOf]; omega
          · obtain rfl : j = l.length := by omega
            rw [apN_all]
            have HVW := Lib.hid (belT HV.out HU.out)
            have hB5 := HB.out.still HVW.out
            have s0 := stays hB5.lt hB5.c0
            have s1 := stays hB5.lt hB5.c1
            have s2 := stays hB5.lt hB5.c2
            have s3 := stays (W := wr) (by have := HU.out.size; omega) ((HU.out.cell (p := ⟨bc, oc + k, none⟩) (by show bc < _; omega)).trans HCX.out)
            have HSTEP := Lib.hid (fL_step (c := c) (many := many) (cs := cs) (l := l) (k := k) (by omega) HLM.out)
            rw [HX.out] at HSTEP
            rcases hap : apB c l x with _ | _
            · have HN : Hid (fL c many (cs.drop fr) l = fL c many (cs.drop (k + 1)) l) := by
                show _ = _; rw [HK.out, HSTEP.out, hap]; simp
              clear hap
              go_wp2_with fail
              go_roundw
              case rel => exact ⟨k + 1, by omega, by omega, by go_num, HN, HVW.out⟩
              case measure => simp [intOf]; omega
            · obtain ⟨i0, hi0, hz0, hz1, hz2⟩ := info_parts infoI
              have HI0 := Lib.hid hi0
              have HZ0 := Lib.hid hz0
              have HZ1 := Lib.hid hz1
              have HZ2 := Lib.hid hz2
              obtain ⟨F, hF⟩ : ∃ F, fL c many (cs.drop (k + 1)) (l ++ [x]) = F := ⟨_, rfl⟩
              have hll : (l ++ [x]).length = l.length + 1 := by simp
              have HREC : Hid (∀ (g cap : Nat) (w' : World), Below wr.heap.size wr w' → Ints w' (· < w'.heap.size) (some ⟨g, 0, none⟩) (castL (l ++ [x])) →
                  Calls Try.prog 71 #[.agg #[.int .i64 (r : Int), .int .i64 (c : Int), .int .i64 (s : Int)], .slice (some ⟨bc, oc, none⟩) N cc, .int .i64 ((k : Int) + 1), .slice (some ⟨g, 0, none⟩) (l.length + 1) cap, .int .i64 (many : Int)] w' (ReadL w' g (castL F))) := fun g cap w' hb' hI => by
                have := HIH.out (N - (k + 1)) (by omega) (k + 1) (by omega) (l ++ [x]) (by rw [hll]; omega) (fun i => by
                  by_cases e : i < l.length
                  · rw [show (l ++ [x]).getD i 0 = l.getD i 0 from by simp [List.getElem?_append_left e]]; exact HL16.out i
                  · by_cases e2 : i = l.length
                    · rw [e2]; simp; exact hx16
                    · rw [show (l ++ [x]).getD i 0 = 0 from by rw [List.getD_eq_getElem?_getD, List.getElem?_eq_none (by rw [hll]; omega)]; rfl]; omega) bc oc cc ⟨g, 0, none⟩ cap w' ((keepInts (belT (belT HBW.out HVW.out) hb') HC0.out).lt (by have := (belT (belT HBW.out HVW.out) hb').size; omega)) hI
                rw [hll, hF] at this; exact this
              have HNL : Hid (∀ w1, Below wr.heap.size wr w1 → ∀ j u, (vals (castL l))[j]? = some u → w1.cell? (aL.add j) = some u) := fun w1 hb1 => by
                rcases Nat.eq_zero_or_pos l.length with e | e
                · intro j u hj
                  have : l = [] := List.eq_nil_of_length_eq_zero e
                  subst this; simp [castL, vals] at hj
                · obtain ⟨bl, ol, hal, hbl, hcl⟩ := HL0.out (by rw [castL_length]; exact e)
                  injection hal with hal
                  subst hal
                  exact news_of fun i hi => ((belT (belT HBW.out HVW.out) hb1).cell (p := ⟨bl, ol + i, none⟩) hbl).trans (hcl i hi)
              have k1 : IntKind.i64.wrap ((k : Int) + 1) = (k : Int) + 1 := IntWalk.i64_in _ ⟨by omega, by omega⟩
              have HAP := Lib.hid hap
              have HFF := Lib.hid hF
              have hl16' : l.length ≤ 16 := by omega
              have HVL : Hid ((vals (castL l)).length = l.length) := by show _ = _; rw [vals_length, castL_length]
              clear hi0 hz0 hz1 hz2 hap hF hll HIH
              have G1 : Hid (Grows (wr.alloc (.cells #[] 3)) wr.heap.size (.slice (some ⟨wr.heap.size, 0, none⟩) 0 0) []) := Grows.lit wr (Nat.le_refl _)
              have G2 : Hid (Grows ((wr.alloc (.cells #[] 3)).alloc (.cells #[.int .i64 (x : Int)] 3)) wr.heap.size (.slice (some ⟨wr.heap.size, 0, none⟩) 0 0) []) := G1.out.alloc _
              have G3 : Hid (Grows ((wr.alloc (.cells #[.int .i64 (x : Int)] 3)).alloc (.cells #[] 3)) wr.heap.size (.slice (some ⟨wr.heap.size + 1, 0, none⟩) 0 0) []) := by
                have := Grows.lit (wr.alloc (.cells #[.int .i64 (x : Int)] 3)) (base := wr.heap.size) (by simp)
                rwa [show (wr.alloc (.cells #[.int .i64 (x : Int)] 3)).heap.size = wr.heap.size + 1 from by simp] at this
              have CX2 : Hid (((wr.alloc (.cells #[] 3)).alloc (.cells #[.int .i64 (x : Int)] 3)).cell? ⟨wr.heap.size + 1, 0, none⟩ = some (.int .i64 (x : Int)) ∧ wr.heap.size + 1 < ((wr.alloc (.cells #[] 3)).alloc (.cells #[.int .i64 (x : Int)] 3)).heap.size) := by
                show _ ∧ _; exact ⟨by simp [go_sem], by simp⟩
              have CX3 : Hid (((wr.alloc (.cells #[.int .i64 (x : Int)] 3)).alloc (.cells #[] 3)).cell? ⟨wr.heap.size, 0, none⟩ = some (.int .i64 (x : Int)) ∧ wr.heap.size < ((wr.alloc (.cells #[.int .i64 (x : Int)] 3)).alloc (.cells #[] 3)).heap.size) := by
                show _ ∧ _; exact ⟨by simp [go_sem], by simp; omega⟩
              have HXV : Hid (∀ u ∈ [Value.int .i64 (x : Int)], u.oneCell' = true) := by show ∀ u ∈ _, _; intro u hu; simp at hu; subst hu; rfl
              go_wp2_with fail
              go_region_held_law (fun w' => Below wr.heap.size wr w')
                (first | exact Below.refl _ _ | exact Below.drew (Below.refl _ _) | (refine Below.drew ?_; assumption) | exact belT (by assumption) (by assumption) | assumption | exact Below.alloc (by assumption) (Below.size (by assumption)) _)
                (first
                  | (go_simp; go_at_call 71; refine (HREC.out _ _ _ (by assumption) (by assumption)).mono ?_; rintro e w5 ⟨ax, cx, rfl, hb5, hi5⟩; dsimp only)
                  | (refine step_append_any rfl (.tmp 74) (.tmp 75) _ rfl wr.heap.size 3 i0 (.int .i64 0) 1 8 Try.underlying32 HI0.out HZ0.out HZ1.out HZ2.out rfl (by decide) _ 0 [] rfl (by first | exact G1.out | exact G2.out | exact G3.out) aL l.length cl (vals (castL l)) rfl (by rw [HVL.out, Nat.mul_one]) (HNL.out _ (by first | assumption | exact Below.alloc (by assumption) (Below.size (by assumption)) _)) vals_one (by unfold maxLen; omega) (by omega) (by first | (simp; done) | (simp; omega)) ?_
                     intro v1 w3 hown1 hgrow1
                     have hk3 : Below wr.heap.size wr w3 := Below.grown (by first | assumption | exact Below.alloc (by assumption) (Below.size (by assumption)) _) hgrow1 (by first | (simp; done) | (simp; omega)) (fun q hq => by have hq2 := Option.some.inj hq; first | exact Nat.le_of_eq hq2 | exact Nat.le_trans (Nat.le_succ _) (Nat.le_of_eq hq2))
                     have hown1' : w3.ownsRow wr.heap.size 3 1 v1 l.length (vals (castL l)) := by simpa using hown1)
                  | (refine step_append_lies _ rfl (.tmp 76) (.tmp 81) _ rfl wr.heap.size 3 i0 (.int .i64 0) 1 8 Try.underlying32 HI0.out HZ0.out HZ1.out HZ2.out rfl (by decide) _ l.length (vals (castL l)) rfl (by first | exact hown1' | exact World.ownsRow.alloc hown1' _) _ 1 1 [.int .i64 (x : Int)] rfl rfl (by first | exact cell_one_new _ _ _ | exact one_far hgrow1 CX2.out.1 CX2.out.2 (Nat.succ_ne_self _) | exact one_far hgrow1 CX3.out.1 CX3.out.2 (Nat.succ_ne_self _).symm) HXV.out (by decide) (by unfold maxLen; omega) (by omega) (by have := hk3.size; first | omega | (simp; omega)) _ rfl ?_
                     intro g cap w4 hown2 hgrow2 hat2 hlt2
                     have hk4 : Below wr.heap.size wr w4 := Below.grown (by first | assumption | exact Below.alloc (by assumption) (Below.size (by assumption)) _) hgrow2 (by have := hk3.size; first | omega | (simp; omega)) (fun q hq => by have := (World.ownsRow.lt hown1') q hq; omega)
                     have hI4 := ints_of_own rfl hown2
                     have hge := (World.ownsRow.lt hown2) g rfl))
              all_goals
                have HK5 : Hid (Below wr.heap.size wr w5) := belT hk4 hb5
                have HI5 : Hid (Ints w5 (fun b => b = aL.block ∨ (w.heap.size ≤ b ∧ b < w5.heap.size)) (some ax) (castL F)) := hi5.mono fun b hb => by
                  have z1 := hk4.size
                  have z2 := hb5.size
                  have z3 := (belT HBW.out HVW.out).size
                  rcases hb with hb | hb
                  · exact .inr ⟨by omega, by omega⟩
                  · exact .inr ⟨by omega, by omega⟩
                clear hk3 hk4 hb5 hi5 hown1 hown1' hgrow1 hown2 hgrow2 hat2 hlt2 hI4 hge s0 s1 s2 s3
                by_cases hF2 : F.length = many
                · have e9 : (((castL F).length : Int) == (many : Int)) = true := by rw [castL_length, hF2]; simp
                  have hEQ : Hid (fL c many (cs.drop fr) l = F) := by
                    show _ = _; rw [HK.out, HSTEP.out, HAP.out, HFF.out, hF2]; simp
                  clear hF2
                  go_wp2_with fail
                  go_ret
                  rw [hEQ.out]
                  exact ⟨ax, cx, rfl, belT HBW.out (belT HVW.out HK5.out), HI5.out⟩
                · have e9 : (((castL F).length : Int) == (many : Int)) = false := by rw [castL_length, beq_eq_false_iff_ne]; omega
                  have hEQ : Hid (fL c many (cs.drop fr) l = fL c many (cs.drop (k + 1)) l) := by
                    show _ = _; rw [HK.out, HSTEP.out, HAP.out, HFF.out, show (F.length == many) = false from by rw [beq_eq_false_iff_ne]; exact hF2]; simp
                  clear hF2
                  go_wp2_with fail
                  go_roundw
                  case rel => exact ⟨k + 1, by omega, by omega, by go_num, hEQ, belT HVW.out HK5.out⟩
                  case measure => simp [intOf]; omega
      · obtain rfl : k = N := by omega
        have hE : Hid (fL c many (cs.drop fr) l = []) := by show _ = _; rw [HK.out, List.drop_eq_nil_of_le (by omega)]; exact fL_end HLM.out
        go_wp2_with fail
        go_ret
        rw [hE.out]
        exact ⟨⟨wr.heap.size, 0, none⟩, 0, rfl, (belT HBW.out HV.out).alloc (belT HBW.out HV.out).size _, fun h0 => absurd h0 (by simp [castL])⟩

end Go.Proofs.Ytcfmfpkmcngacaa

namespace Go.Proofs.Ytcfmfpkmcngacaa
set_option linter.unusedSimpArgs false
set_option linter.unusedVariables false
open Go.RowKit

theorem cellI_cast (r c s : Nat) : cellI r c s = castL (cellsL r c s) := by unfold cellI castL cellsL; rw [selRow_map]

def hidTo (r c s : Nat) : Nat → List Int
  | 0 => []
  | k + 1 => hidTo r c s k ++ [if hidB r c s k = true then 1 else 0]

theorem hidTo_len (r c s k : Nat) : (hidTo r c s k).length = k := by
  induction k with
  | zero => rfl
  | succ k ih => simp [hidTo, ih]

theorem hidTo_all (r c s : Nat) : hidTo r c s (cellsL r c s).length = hidT r c s := by
  have key : ∀ k, hidTo r c s k = (List.range k).map fun a => if hidB r c s a = true then 1 else 0 := fun k => by
    induction k with
    | zero => rfl
    | succ k ih => rw [List.range_succ, List.map_append]; simp only [hidTo, ih]; rfl
  exact key _

theorem drew_size_ (W : World) : W.drew.heap.size = W.heap.size := rfl

def b2i (b : Bool) : Int := if b = true then 1 else 0

/-- is a cell among the first ones of the list -/
def hsB (r c s k : Nat) : Nat → Bool
  | 0 => false
  | m + 1 => hsB r c s k m || ((bestC r c s).getD m 0 == cellA r c s k)

theorem hsB_iff (r c s k n : Nat) : hsB r c s k n = true ↔ ∃ m, m < n ∧ (bestC r c s).getD m 0 = cellA r c s k := by
  induction n with
  | zero => simp [hsB]
  | succ n ih =>
    simp only [hsB, Bool.or_eq_true, ih, beq_iff_eq]
    constructor
    · rintro (⟨m, h1, h2⟩ | h)
      · exact ⟨m, by omega, h2⟩
      · exact ⟨n, by omega, h⟩
    · rintro ⟨m, h1, h2⟩
      by_cases e : m = n
      · subst e; exact .inr h2
      · exact .inl ⟨m, by omega, h2⟩

theorem hsB_all (r c s k : Nat) : hsB r c s k (bestC r c s).length = hidB r c s k := by
  rw [Bool.eq_iff_iff, hsB_iff]
  unfold hidB
  rw [decide_eq_true_eq]
  constructor
  · rintro ⟨m, h1, h2⟩
    rw [List.getD_eq_getElem?_getD, List.getElem?_eq_getElem h1] at h2
    rw [← h2]; exact List.getElem_mem _
  · intro h
    obtain ⟨m, h1, h2⟩ := List.mem_iff_getElem.1 h
    exact ⟨m, h1, by rw [List.getD_eq_getElem?_getD, List.getElem?_eq_getElem h1]; exact h2⟩

set_option maxHeartbeats 4000000 in
set_option maxRecDepth 100000 in
theorem hideCells_spec (R C S : Int) (w : World) :
    Calls Try.prog 32 #[fldV R C S] w (NewList w (hidL R C S)) := by
  unfold fldV
  obtain ⟨W, hW, hB, hbW, hz⟩ := fld_world w R C S
  have HW := Lib.hid hW
  have HBW := Lib.hid hbW
  have HB := Lib.hid hB
  have hb0 : Below W.heap.size W (W.alloc (.cells #[] 3)) := (Below.refl _ _).alloc (Nat.le_refl _) _
  have G0 : Hid (Grows (W.alloc (.cells #[] 3)) W.heap.size (.slice (some ⟨w.heap.size + 1, 0, none⟩) 0 0) []) := by
    have := Grows.lit W (base := W.heap.size) (Nat.le_refl _); rw [hz] at this ⊢; exact this
  obtain ⟨X, hX⟩ : ∃ X, X = W.alloc (.cells #[] 3) := ⟨_, rfl⟩
  have hs0 : X.heap.size = W.heap.size + 1 := by rw [hX]; simp
  rw [← hX] at hb0 G0
  have HB0 := Lib.hid hb0
  have HX := Lib.hid hX
  have hBX := HB.out.still hb0
  have c0 := hBX.c0
  have c1 := hBX.c1
  have c2 := hBX.c2
  have HOK : Hid (∀ w', Calls Try.prog 17 #[.agg #[.int .i64 R, .int .i64 C, .int .i64 S]] w' (Adds (.bool (fldB R C S)) w')) := fun w' => fldOk_spec R C S w'
  have HMA : Hid (∀ w', Calls Try.prog 27 #[.agg #[.int .i64 R, .int .i64 C, .int .i64 S]] w' (Adds (.int .i64 (mosV R C S)) w')) := fun w' => mostApart_spec R C S w'
  have HS0 := Lib.hid hs0
  have HZ := Lib.hid hz
  clear hW hX hB hbW hb0 hBX hz hs0
  rcases hb : fldB R C S with _ | _
  · have HN := Lib.hid (fld_no hb).2.2.1
    rw [hb] at HOK
    clear hb
    go_enter Try.func32, Try.ntmps32
    go_wp2_with fail
    rw [← HW.out, ← HX.out]
    go_wp2_with fail
    refine (HOK.out _).mono ?_
    rintro e w1 ⟨rfl, hb1⟩
    have HB1 := Lib.hid hb1
    clear hb1
    go_wp2_with fail
    go_ret
    rw [HN.out]
    exact ⟨_, 0, rfl, belT HBW.out (belT HB0.out HB1.out), fun h0 => absurd h0 (by simp)⟩
  obtain ⟨r, c, s, rfl, rfl, rfl, hf⟩ := fld_nat hb
  rw [hb] at HOK
  have HF := Lib.hid hf
  obtain ⟨N, hN⟩ : ∃ N, (cellsL r c s).length = N := ⟨_, rfl⟩
  have hmany := hf.many
  rw [hN] at hmany
  obtain ⟨M, hM⟩ : ∃ M, mst r c s r 0 = M := ⟨_, rfl⟩
  have hM1 : 1 ≤ M ∧ M ≤ 4 := by rw [← hM]; have := mst_pos hf; have := mst_le r c s r 0; have := hf.rhi; omega
  have hmv : mosV r c s = (M : Int) := by rw [(fld_yes hf).1, hM]
  rw [hmv] at HMA
  have HE : Hid (hidL r c s = hidTo r c s N) := by show hidL r c s = _; rw [(fld_yes hf).2.2.1, ← hN, hidTo_all]
  obtain ⟨_, hbl, _⟩ := bestC_is hf
  rw [hM] at hbl
  have HBL := Lib.hid hbl
  have HFIRST : Hid (∀ (bc oc cc : Nat) (aL : Addr) (cl : Nat) (w' : World), Ints w' (· < w'.heap.size) (some ⟨bc, oc, none⟩) (cellI r c s) →
      Calls Try.prog 71 #[.agg #[.int .i64 (r : Int), .int .i64 (c : Int), .int .i64 (s : Int)], .slice (some ⟨bc, oc, none⟩) N cc, .int .i64 0, .slice (some aL) 0 cl, .int .i64 (M : Int)] w' (ReadL w' aL.block (castL (bestC r c s)))) := fun bc oc cc aL cl w' hI => by
    have := first_spec hf hM1 (cellsL r c s) hN hmany.2 (fun i => by
      by_cases e : i < (cellsL r c s).length
      · have := (cellA_at e).1; have := hf.rc; unfold cellA at *; omega
      · rw [List.getD_eq_getElem?_getD, List.getElem?_eq_none (by omega)]; decide) N 0 (by omega) [] (by simp) (fun i => by simp) bc oc cc aL cl w' (by rw [← cellI_cast]; exact hI) (fun h0 => absurd h0 (by simp [castL]))
    rw [List.drop_zero, ← hM] at this
    rw [← hM]
    exact this
  have HNN : Hid ((cellI r c s).length = N) := by show _ = N; rw [cellI_length]; exact hN
  clear hb hf hN hM hmv hbl
  go_enter Try.func32, Try.ntmps32
  go_wp2_with fail
  rw [← HW.out, ← HX.out]
  go_wp2_with fail
  refine (HOK.out _).mono ?_
  rintro e w1 ⟨rfl, hb1⟩
  have HB1 := Lib.hid (belT HB0.out hb1)
  have G1 := Lib.hid (G0.out.keep hb1)
  have hB1 := HB.out.still HB1.out
  have c0 := hB1.c0
  have c1 := hB1.c1
  have c2 := hB1.c2
  have hsz1 : W.heap.size + 1 ≤ w1.heap.size := by have := hb1.size; have := HS0.out; omega
  clear hb1 hB1
  go_wp2_with fail
  refine (cells_spec HF.out _).mono ?_
  rintro e w2 ⟨AC, cc, rfl, hb2, ho2⟩
  obtain ⟨bc, off, hAC, hbc, hcells⟩ := ho2.ints (by rw [HNN.out]; omega)
  subst hAC
  have HCI : Hid (Ints w2 (· = bc) (some ⟨bc, off, none⟩) (cellI r c s)) := fun _ => ⟨bc, off, rfl, rfl, hcells⟩
  have hbc1 : w1.heap.size ≤ bc := hbc.1
  have hbc2 : bc < w2.heap.size := hbc.2
  have HB2 := Lib.hid (belT HB1.out hb2)
  have G2 := Lib.hid (G1.out.keep hb2)
  have hB2 := HB.out.still HB2.out
  have s0 := stays hB2.lt hB2.c0
  have s1 := stays hB2.lt hB2.c1
  have s2 := stays hB2.lt hB2.c2
  clear hb2 ho2 hbc hcells c0 c1 c2 hB2
  rw [HNN.out]
  have HI2 : Hid (∀ w', Below w2.heap.size w2 w' → Ints w' (· < w'.heap.size) (some ⟨bc, off, none⟩) (cellI r c s)) := fun w' hb => (HCI.out.keep fun b e => by
    have e' : b = bc := e
    subst e'; exact hb.block b hbc2).mono fun b e => by have e' : b = bc := e; have := hb.size; omega
  obtain ⟨i0, hi0, hz0, hz1, hz2⟩ := info_parts infoI
  have HI0 := Lib.hid hi0
  have HZ0 := Lib.hid hz0
  have HZ1 := Lib.hid hz1
  have HZ2 := Lib.hid hz2
  clear hi0 hz0 hz1 hz2 G0 G1
  go_wp2_with fail
  go_region_held3 (fun w' => Below w2.heap.size w2 w')
    (first | exact Below.refl _ _ | exact Below.drew (Below.refl _ _) | (refine Below.drew ?_; assumption) | exact belT (by assumption) (by assumption) | assumption | exact Below.alloc (by assumption) (Below.size (by assumption)) _)
    (first | (go_at_call 27; refine (HMA.out _).mono ?_; rintro e w4 ⟨rfl, hb4⟩) | (go_at_call 71; refine (HFIRST.out _ _ _ _ _ _ (HI2.out _ (by first | assumption | exact belT (by assumption) (by assumption) | exact Below.alloc (by assumption) (Below.size (by assumption)) _ | exact Below.alloc (belT (by assumption) (by assumption)) (Below.size (belT (by assumption) (by assumption))) _))).mono ?_; rintro e w5 ⟨ax, cx, rfl, hb5, hi5⟩))
  all_goals
    have hb25 : Below w2.heap.size w2 w5 := by first | exact belT hb4 hb5 | exact belT ((Below.refl _ _).drew) (belT hb4 hb5) | assumption
    have hbst : (castL (bestC r c s)).length = M := by rw [castL_length, HBL.out]
    obtain ⟨bx, ox, hax, hbx, hxc⟩ := hi5 (by omega)
    have hs4 := hb4.size
    have hs5 := hb5.size
    try simp only [drew_size_, World.size_alloc] at hs4
    try simp only [drew_size_, World.size_alloc] at hs5
    have hbx1 : w2.heap.size ≤ bx := by
      rcases hbx with e | e
      · try simp only [drew_size_, World.size_alloc] at e
        omega
      · have := e.1
        try simp only [drew_size_, World.size_alloc] at this
        omega
    have hbx2 : bx < w5.heap.size := by
      rcases hbx with e | e
      · try simp only [drew_size_, World.size_alloc] at e
        omega
      · exact e.2
    injection hax with hax
    subst hax
    have HXI : Hid (Ints w5 (· = bx) (some ⟨bx, ox, none⟩) (castL (bestC r c s))) := fun _ => ⟨bx, ox, rfl, rfl, hxc⟩
    have HCI5 : Hid (Ints w5 (· = bc) (some ⟨bc, off, none⟩) (cellI r c s)) := HCI.out.keep fun b e => by
      have e' : b = bc := e
      subst e'; exact hb25.block b hbc2
    have HB5 : Hid (Below W.heap.size W w5) := belT HB2.out hb25
    have G5 := Lib.hid (G2.out.keep hb25)
    have hbc5 : bc < w5.heap.size := by have := hb25.size; omega
    have hzz := HZ.out
    have HNEs : Hid (w.heap.size + 1 ≠ bc ∧ w.heap.size + 1 ≠ bx) := ⟨by omega, by have := HB2.out.size; omega⟩
    have HCELL : Hid (∀ a, a < N → nth (cellI r c s) a = (cellA r c s a : Int)) := fun a ha => nth_cellI (by rw [← cellI_length, HNN.out]; exact ha)
    have HBS := Lib.hid (hsB_all r c s)
    rw [hbst]
    clear hzz hb25 hs4 hs5 hbx hbx1 hxc hb4 hb5 hi5 HCI G2 HI2 HMA HFIRST HOK s0 s1 s2
    go_wp2_with fail
    go_loopw [3, 6] (fun v i wr => ∃ k : Nat, k ≤ N ∧ i = .int .i64 (k : Int) ∧ Hid (Grows wr W.heap.size v (hidTo r c s k)) ∧ Hid (Below W.heap.size W wr) ∧ Hid (Ints wr (· = bc) (some ⟨bc, off, none⟩) (cellI r c s)) ∧ Hid (Ints wr (· = bx) (some ⟨bx, ox, none⟩) (castL (bestC r c s))) ∧ Hid (v.ownBlock ≠ some bc ∧ v.ownBlock ≠ some bx) ∧ bc < wr.heap.size ∧ bx < wr.heap.size) (fun _ i _ => N - (intOf i).toNat)
    case atStart => exact ⟨0, Nat.zero_le _, rfl, G5, HB5, HCI5, HXI, ⟨(by show some _ ≠ some _; intro e; injection e with e; exact HNEs.out.1 e), (by show some _ ≠ some _; intro e; injection e with e; exact HNEs.out.2 e)⟩, hbc5, hbx2⟩
    case round =>
      clear G5 HB5 HCI5 HXI hbc5 hbx2
      obtain ⟨k, hk, rfl, HO, HV, HCI, HXI, HNE, hbw, hbv⟩ := hrel
      by_cases hlt : k < N
      · obtain ⟨wo, rfl⟩ : ∃ wo : World, wo = wr := ⟨_, rfl⟩
        have hlen1 := HNN.out
        have hcv := HCELL.out k hlt
        have hcell : wo.cell? ⟨bc, off + k, none⟩ = some (.int .i64 (cellA r c s k : Int)) := by
          obtain ⟨b', o', e1, e2, h3⟩ := HCI.out (by omega)
          injection e1 with e1; injection e1 with e1 e3
          subst e1; subst e3
          have := h3 k (by omega)
          rw [hcv] at this; exact this
        have HQ := Lib.hid hcell
        have hvs := HV.out.size
        have HL := Lib.hid (hidTo_len r c s k)
        obtain ⟨q1, hq1⟩ : ∃ q1, cellA r c s k = q1 := ⟨_, rfl⟩
        have HQ1 := Lib.hid hq1
        rw [hq1] at hcell
        clear hlen1 hcv hq1
        go_wp2_with fail
        go_loopw [7, 8] (fun x j wq => ∃ m : Nat, m ≤ M ∧ j = .int .i64 (m : Int) ∧ x = .int .i64 (b2i (hsB r c s k m)) ∧ ∃ n, wq = wo.drewN n) (fun _ j _ => M - (intOf j).toNat)
        case atStart => exact ⟨0, Nat.zero_le _, rfl, rfl, 0, rfl⟩
        case round =>
          obtain ⟨m, hm, rfl, rfl, n, rfl⟩ := hrel
          by_cases hlm : m < M
          · have hxl : (castL (bestC r c s)).length = M := by rw [castL_length, HBL.out]
            have hxm := nth_castL (bestC r c s) m
            have hcx : wo.cell? ⟨bx, ox + m, none⟩ = some (.int .i64 (((bestC r c s).getD m 0 : Nat) : Int)) := by
              obtain ⟨b', o', e1, e2, h3⟩ := HXI.out (by omega)
              injection e1 with e1; injection e1 with e1 e3
              subst e1; subst e3
              have := h3 m (by omega)
              rw [hxm] at this; exact this
            obtain ⟨q2, hq2⟩ : ∃ q2, (bestC r c s).getD m 0 = q2 := ⟨_, rfl⟩
            have HQ2 := Lib.hid hq2
            rw [hq2] at hcx
            clear hxl hxm hq2
            have hm2 : (m : Int) < (M : Int) := by omega
            have hk2 : (k : Int) < (N : Int) := by omega
            have hm0 : (0 : Int) ≤ (m : Int) := by omega
            have hk0 : (0 : Int) ≤ (k : Int) := by omega
            by_cases he : q2 = q1
            · have hT : Hid (hsB r c s k (m + 1) = true) := by show _ = _; simp only [hsB]; rw [HQ1.out, HQ2.out, he]; simp
              have hd : ((q2 : Int) == (q1 : Int)) = true := by rw [beq_iff_eq]; omega
              clear he
              go_wp2_with fail
              go_quiet (fail)
              go_wp2_with fail
              go_roundw
              case rel => exact ⟨m + 1, by omega, by go_num, by rw [hT.out]; rfl, (by first | exact ⟨n, rfl⟩ | exact ⟨_, rfl⟩ | exact ⟨_, World.drewN_drewN _ _ _⟩)⟩
              case measure => simp [intOf]; omega
            · have hT : Hid (hsB r c s k (m + 1) = hsB r c s k m) := by
                show _ = _
                simp only [hsB]; rw [HQ1.out, HQ2.out, beq_eq_false_iff_ne.2 he, Bool.or_false]
              have hd : ((q2 : Int) == (q1 : Int)) = false := by rw [beq_eq_false_iff_ne]; omega
              clear he
              go_wp2_with fail
              go_quiet (fail)
              go_wp2_with fail
              go_roundw
              case rel => exact ⟨m + 1, by omega, by go_num, by rw [hT.out], (by first | exact ⟨n, rfl⟩ | exact ⟨_, rfl⟩ | exact ⟨_, World.drewN_drewN _ _ _⟩)⟩
              case measure => simp [intOf]; omega
          · obtain rfl : m = M := by omega
            have HX : Hid (b2i (hsB r c s k m) = if hidB r c s k = true then 1 else 0) := by show _ = _; rw [← HBS.out k, HBL.out]; rfl
            obtain ⟨xx, hxx⟩ : ∃ xx, b2i (hsB r c s k m) = xx := ⟨_, rfl⟩
            rw [hxx] at HX
            rw [hxx]
            obtain ⟨wq, hwq⟩ : ∃ wq, wq = wo.drewN n := ⟨_, rfl⟩
            have hbq : Below wo.heap.size wo wq := by rw [hwq]; exact below_drewN (Below.refl _ _) n
            have HGD : Hid (Grows wq W.heap.size u3 (hidTo r c s k)) := HO.out.keep hbq
            have HVQ : Hid (Below W.heap.size W wq) := belT HV.out hbq
            have HCQ : Hid (Ints wq (· = bc) (some ⟨bc, off, none⟩) (cellI r c s)) := HCI.out.keep fun b e => by
              have e' : b = bc := e
              subst e'; exact hbq.block b hbw
            have HXQ : Hid (Ints wq (· = bx) (some ⟨bx, ox, none⟩) (castL (bestC r c s))) := HXI.out.keep fun b e => by
              have e' : b = bx := e
              subst e'; exact hbq.block b hbv
            have hbwq : bc < wq.heap.size := Nat.lt_of_lt_of_le hbw hbq.size
            have hbvq : bx < wq.heap.size := Nat.lt_of_lt_of_le hbv hbq.size
            have hvq := HVQ.out.size
            rw [← hwq]
            clear hxx hwq hbq HO HV HCI HXI hbw hbv HQ hcell
            go_wp2_with (at_builtin; refine wpList_append_own_at _ rfl (.tmp 43) (.tmp 45) _ rfl W.heap.size 3 i0 (.int .i64 0) 1 8 Try.underlying32 HI0.out HZ0.out HZ1.out HZ2.out rfl (by decide) _ _ _ rfl (HGD.out.alloc _) ⟨wq.heap.size, 0, none⟩ 1 1 [.int .i64 xx] rfl rfl (cell_one_new _ _ _) ?c2 ?c3 ?c4 ?c5 ?_)
            case c2 => first | rfl | (intro u hu; simp at hu; subst hu; rfl)
            case c3 => rw [HL.out]; unfold maxLen; omega
            case c4 => rw [HL.out]; omega
            case c5 => first | omega | (simp; omega)
            intro v' w6 hown hgrow _ hat
            have HN : Hid (Grows w6 W.heap.size v' (hidTo r c s (k + 1))) := by
              have e : hidTo r c s (k + 1) = hidTo r c s k ++ [xx] := by simp only [hidTo]; rw [HX.out]
              rw [e]; exact Grows.snoc hown
            have HV2 : Hid (Below W.heap.size W w6) := HGD.out.below hgrow HVQ.out (Nat.le_refl _) hvq
            have HC2 : Hid (Ints w6 (· = bc) (some ⟨bc, off, none⟩) (cellI r c s)) := ints_grown HCQ.out hbwq hgrow HNE.out.1
            have HX2 : Hid (Ints w6 (· = bx) (some ⟨bx, ox, none⟩) (castL (bestC r c s))) := ints_grown HXQ.out hbvq hgrow HNE.out.2
            have hsz6 := hgrow.size
            simp only [World.size_alloc] at hsz6
            have HNE2 : Hid (v'.ownBlock ≠ some bc ∧ v'.ownBlock ≠ some bx) := by
              show _ ∧ _
              rcases hat with e | e
              · rw [e]; exact HNE.out
              · rw [e]; try simp only [World.size_alloc]
                exact ⟨fun e2 => by injection e2 with e2; omega, fun e2 => by injection e2 with e2; omega⟩
            clear hown hgrow hat
            go_wp2_with fail
            go_roundw
            case rel => exact ⟨k + 1, by omega, by go_num, HN, HV2, HC2, HX2, HNE2, by omega, by omega⟩
            case measure => simp [intOf]; omega
      · obtain rfl : k = N := by omega
        go_wp2_with fail
        go_ret
        rw [HE.out]
        exact (NewList.of (w := W) rfl HO.out HV.out).up HBW.out

end Go.Proofs.Ytcfmfpkmcngacaa
