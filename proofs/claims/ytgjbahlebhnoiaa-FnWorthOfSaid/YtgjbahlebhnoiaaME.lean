/- Texts in one: Without, DetS, Low, LowS, Ker, KerS, KerG. -/
import Derived.Test.YtgjbahlebhnoiaaMA
import Derived.Test.YtgjbahlebhnoiaaMC
import Derived.Test.YtgjbahlebhnoiaaMD
import Derived.Deep.RegionHeld3
namespace Go.Proofs.Ytgjbahlebhnoiaa
set_option linter.unusedSimpArgs false
set_option linter.unusedVariables false
open Go.RowKit

set_option maxHeartbeats 2000000 in
set_option maxRecDepth 100000 in
theorem without (T : Option Addr) (c : Nat) (g : List (List Int)) (a b : Nat) (hl : g.length ≤ 4) (hsq : ∀ i, i < g.length → g.length ≤ (rowAt g i).length) (w : World) (h : Rows2 w (· < w.heap.size) T g) :
    Calls Try.prog 67 #[.slice T g.length c, .int .i64 (a : Nat), .int .i64 (b : Nat)] w (NewTable w (woL g a b)) := by
  have hb0 : Below w.heap.size w (w.alloc (.cells #[] 26)) := (Below.refl _ _).alloc (Nat.le_refl _) _
  have G0 := Lib.hid (GrowsR.lit w (base := w.heap.size) (Nat.le_refl _) (fun _ => none) (fun _ => 0))
  have HR := Lib.hid h
  have HSQ := Lib.hid hsq
  have H1 : Hid (woL g a b = selTab (fun i => i != a) (fun i => selRow (fun j => j != b) (nth (rowAt g i)) g.length) g.length) := rfl
  obtain ⟨i0, hi0, hz0, hz1, hz2⟩ := info_parts infoI
  obtain ⟨i1, hi1, hy0, hy1, hy2⟩ := info_parts infoR
  have HI0 := Lib.hid hi0
  have HZ0 := Lib.hid hz0
  have HZ1 := Lib.hid hz1
  have HZ2 := Lib.hid hz2
  have HI1 := Lib.hid hi1
  have HY0 := Lib.hid hy0
  have HY1 := Lib.hid hy1
  have HY2 := Lib.hid hy2
  have HB0 := Lib.hid hb0
  clear h hsq hi0 hz0 hz1 hz2 hi1 hy0 hy1 hy2 hb0
  go_enter Try.func67, Try.ntmps67
  go_wp2_with fail
  go_loopw [7, 8] (fun v i wr => ∃ k : Nat, k ≤ g.length ∧ i = .int .i64 k ∧ Hid (∃ (A : Nat → Option Addr) (C : Nat → Nat), GrowsR wr w.heap.size wr.heap.size v A C (selTab (fun i => i != a) (fun i => selRow (fun j => j != b) (nth (rowAt g i)) g.length) k)) ∧ Hid (Below w.heap.size w wr)) (fun _ i _ => g.length - (intOf i).toNat)
  case atStart => exact ⟨0, Nat.zero_le _, rfl, ⟨_, _, G0.out.up (by simp) (Nat.le_refl _)⟩, HB0.out⟩
  case round =>
    obtain ⟨k, hk, rfl, HT, HW⟩ := hrel
    by_cases hlt : k < g.length
    · by_cases hka : k = a
      · have e1 : ((k : Int) == (a : Int)) = true := by simp [hka]
        have hno : Hid (selTab (fun i => i != a) (fun i => selRow (fun j => j != b) (nth (rowAt g i)) g.length) (k + 1) = selTab (fun i => i != a) (fun i => selRow (fun j => j != b) (nth (rowAt g i)) g.length) k) := selTab_no (by simp [hka])
        clear hka
        go_wp2_with fail
        go_roundw
        case rel => exact ⟨k + 1, by omega, by go_num, by rw [hno.out]; exact HT.out, HW.out⟩
        case measure => simp [intOf]; omega
      have e1 : ((k : Int) == (a : Int)) = false := by simp; omega
      have hyes : Hid (selTab (fun i => i != a) (fun i => selRow (fun j => j != b) (nth (rowAt g i)) g.length) (k + 1) = selTab (fun i => i != a) (fun i => selRow (fun j => j != b) (nth (rowAt g i)) g.length) k ++ [selRow (fun j => j != b) (nth (rowAt g k)) g.length]) := selTab_yes (by simp [hka])
      have hlenT := cnt_le (fun i => i != a) k
      rw [← selTab_length (fun i => i != a) (fun i => selRow (fun j => j != b) (nth (rowAt g i)) g.length)] at hlenT
      obtain ⟨AA, CC, hgr⟩ := HT.out
      have HGR := Lib.hid hgr
      clear hgr HT hka
      have hws := HW.out.size
      go_wp2_with fail
      clear e1
      obtain ⟨wo, rfl⟩ : ∃ wo : World, wo = wr := ⟨_, rfl⟩
      go_loopw [9, 10] (fun v i wr => ∃ m : Nat, m ≤ g.length ∧ i = .int .i64 m ∧ Hid (Grows wr wo.heap.size v (selRow (fun j => j != b) (nth (rowAt g k)) m)) ∧ Hid (Below wo.heap.size wo wr)) (fun _ i _ => g.length - (intOf i).toNat)
      case atStart => exact ⟨0, Nat.zero_le _, rfl, Grows.lit wo (Nat.le_refl _), (Below.refl _ _).alloc (Nat.le_refl _) _⟩
      case round =>
        obtain ⟨m, hm, rfl, HO, HV⟩ := hrel
        have hvs := HV.out.size
        have hlenR := cnt_le (fun j => j != b) m
        rw [← selRow_length (fun j => j != b) (nth (rowAt g k))] at hlenR
        by_cases hlm : m < g.length
        · by_cases hmb : m = b
          · have e2 : ((m : Int) != (b : Int)) = false := by simp [hmb]
            have hno : Hid (selRow (fun j => j != b) (nth (rowAt g k)) (m + 1) = selRow (fun j => j != b) (nth (rowAt g k)) m) := selRow_no (by simp [hmb])
            clear hmb
            go_wp2_with fail
            go_roundw
            case rel => exact ⟨m + 1, by omega, by go_num, by rw [hno.out]; exact HO.out, HV.out⟩
            case measure => simp [intOf]; omega
          have e2 : ((m : Int) != (b : Int)) = true := by simp; omega
          have hy : Hid (selRow (fun j => j != b) (nth (rowAt g k)) (m + 1) = selRow (fun j => j != b) (nth (rowAt g k)) m ++ [nth (rowAt g k) m]) := selRow_yes (by simp [hmb])
          have R2 := Lib.hid (keepRows (belT HW.out HV.out) HR.out)
          obtain ⟨bt, ot, rfl⟩ := R2.out.some (by omega)
          have hlm' : m < (rowAt g k).length := by have := HSQ.out k hlt; omega
          obtain ⟨bm, om, cm, hc1, hc2, hc3, hc4, hc5⟩ := R2.out.cell hlt hlm'
          unfold maxLen at hc3
          clear hmb
          go_wp2_with (at_builtin; refine wpList_append_own_at _ rfl (.tmp 31) (.tmp 39) _ rfl wo.heap.size 3 i0 (.int .i64 0) 1 8 Try.underlying26 HI0.out HZ0.out HZ1.out HZ2.out rfl (by decide) _ _ _ rfl (HO.out.alloc _) ⟨wr.heap.size, 0, none⟩ 1 1 [.int .i64 (nth (rowAt g k) m)] rfl rfl (cell_one_new _ _ _) ?c2 ?c3 ?c4 ?c5 ?_)
          case c2 => intro u hu; simp at hu; subst hu; rfl
          case c3 => unfold maxLen; omega
          case c4 => omega
          case c5 => simp; omega
          intro v' w4 hown hgrow _ _
          have HN : Hid (Grows w4 wo.heap.size v' (selRow (fun j => j != b) (nth (rowAt g k)) (m + 1))) := by rw [hy.out]; exact Grows.snoc hown
          have HV2 : Hid (Below wo.heap.size wo w4) := HO.out.below hgrow HV.out (Nat.le_refl _) hvs
          clear hown hgrow
          go_wp2_with fail
          go_roundw
          case rel => exact ⟨m + 1, by omega, by go_num, HN, HV2⟩
          case measure => simp [intOf]; omega
        · obtain rfl : m = g.length := by omega
          obtain ⟨An, cn, hv, hcn1, hcn2, hon⟩ := HO.out.own'
          have HGV := Lib.hid (HGR.out.keep HV.out)
          have HON := Lib.hid hon
          subst hv
          clear hon
          go_wp2_with (at_builtin; refine wpList_append_own_at _ rfl (.tmp 41) (.tmp 43) _ rfl w.heap.size 26 i1 (.slice none 0 0) 1 24 Try.underlying23 HI1.out HY0.out HY1.out HY2.out rfl (by decide) _ _ _ rfl (HGV.out.alloc _) ⟨wr.heap.size, 0, none⟩ 1 1 [.slice An (selRow (fun j => j != b) (nth (rowAt g k)) g.length).length cn] rfl rfl (cell_one_new _ _ _) ?c2 ?c3 ?c4 ?c5 ?_)
          case c2 => intro u hu; simp at hu; subst hu; rfl
          case c3 => unfold maxLen; omega
          case c4 => omega
          case c5 => simp; omega
          intro v' w4 hown hgrow _ hat
          have HN : Hid (∃ (A : Nat → Option Addr) (C : Nat → Nat), GrowsR w4 w.heap.size w4.heap.size v' A C (selTab (fun i => i != a) (fun i => selRow (fun j => j != b) (nth (rowAt g i)) g.length) (k + 1))) := by
            rw [hyes.out]
            exact HGV.out.snoc HON.out hcn1 hcn2 hws hown hgrow (by rcases hat with e | e; exact .inl e; exact .inr (by rw [e]; try simp))
          have HW2 : Hid (Below w.heap.size w w4) := HGV.out.below hgrow (belT HW.out HV.out) (Nat.le_refl _) (by omega)
          clear hown hgrow hat
          go_wp2_with fail
          go_roundw
          case rel => exact ⟨k + 1, by omega, by go_num, HN, HW2⟩
          case measure => simp [intOf]; omega
    · obtain rfl : k = g.length := by omega
      obtain ⟨AA, CC, hgr⟩ := HT.out
      rw [← H1.out] at hgr
      have HGR := Lib.hid hgr
      clear hgr
      go_wp2_with fail
      go_ret
      exact NewTable.of rfl HGR.out HW.out

end Go.Proofs.Ytgjbahlebhnoiaa

namespace Go.Proofs.Ytgjbahlebhnoiaa
set_option linter.unusedSimpArgs false
set_option linter.unusedVariables false
open Go.RowKit

def detF (m : List (List Int)) (j : Nat) : Int := sgI j * nth (rowAt m 0) j * detL (woL m 0 j)

theorem detL_zero {m : List (List Int)} (h : Square m 0) : detL m = 1 := by unfold detL; rw [h.len]; rfl

theorem detL_wo {m : List (List Int)} {k a b : Nat} (h : Square m (k + 1)) (ha : a < k + 1) (hb : b < k + 1) : detL (woL m a b) = detI k (woI (fun i j => nth (rowAt m i) j) a b) := by
  have e := h.len
  unfold detL
  rw [(h.wo ha hb).len]
  exact detI_congr (fun i j hi hj => nth_woL (by omega) (by omega) (by omega) (by omega))

theorem detL_succ {m : List (List Int)} {k : Nat} (h : Square m (k + 1)) : detL m = sumI m.length (detF m) := by
  have e := h.len
  unfold detL
  rw [e]
  unfold detI
  refine sumI_congr (fun j hj => ?_)
  unfold detF
  rw [detL_wo h (by omega) hj]

theorem detL_bd {m : List (List Int)} {k : Nat} (h : Square m k) : -(detB k) ≤ detL m ∧ detL m ≤ detB k := by
  unfold detL; rw [h.len]
  exact detI_bd k _ (fun i j hi hj => ⟨h.lo i j hi hj, h.hi i j hi hj⟩)

theorem detB_le {k : Nat} (h : k ≤ 3) : detB k ≤ 4374 := by
  have : k = 0 ∨ k = 1 ∨ k = 2 ∨ k = 3 := by omega
  rcases this with rfl | rfl | rfl | rfl <;> decide

theorem detB_le4 {k : Nat} (h : k ≤ 4) : detB k ≤ 157464 := by
  have : k = 0 ∨ k = 1 ∨ k = 2 ∨ k = 3 ∨ k = 4 := by omega
  rcases this with rfl | rfl | rfl | rfl | rfl <;> decide

theorem sgI_cases (j : Nat) : sgI j = 1 ∨ sgI j = -1 := by unfold sgI; split <;> simp

theorem sg_mod (j : Nat) : sgI j = 1 - ((j : Int).tmod 2) * 2 := by
  unfold sgI
  rw [Int.tmod_eq_emod_of_nonneg (by omega)]
  split <;> omega

theorem prod3_bd {s x d : Int} (hs : s = 1 ∨ s = -1) (h1 : -9 ≤ x) (h2 : x ≤ 9) (h3 : -4374 ≤ d) (h4 : d ≤ 4374) : (-9 ≤ s * x ∧ s * x ≤ 9) ∧ -39366 ≤ s * x * d ∧ s * x * d ≤ 39366 := by
  have h : -9 ≤ s * x ∧ s * x ≤ 9 := by rcases hs with rfl | rfl <;> omega
  refine ⟨h, ?_⟩
  generalize s * x = y at *
  by_cases hy : 0 ≤ y
  · have := prod_bd hy h.2 h3 h4 (by omega); omega
  · have := prod_bd (a := -y) (A := 9) (by omega) (by omega) h3 h4 (by omega)
    rw [Int.neg_mul] at this; omega

set_option maxHeartbeats 2000000 in
set_option maxRecDepth 100000 in
theorem det_spec : ∀ (k : Nat), k ≤ 4 → ∀ (T : Option Addr) (c : Nat) (m : List (List Int)), Square m k → ∀ (w : World), Rows2 w (· < w.heap.size) T m →
    Calls Try.prog 66 #[.slice T m.length c] w (Adds (.int .i64 (detL m)) w) := by
  intro k
  induction k with
  | zero =>
    intro _ T c m hsq w h
    have H1 := Lib.hid (detL_zero hsq)
    have e1 : ((m.length : Int) == 0) = true := beq_iff_eq.2 (by have := hsq.len; omega)
    clear hsq
    go_enter Try.func66, Try.ntmps66
    go_wp2_with fail
    go_ret
    exact Adds.of (by rw [H1.out]; rfl) (Below.refl _ _)
  | succ k ih =>
    intro hk4 T c m hsq w h
    have H1 := Lib.hid (detL_succ hsq)
    have hlen := hsq.len
    have e1 : ((m.length : Int) == 0) = false := beq_eq_false_iff_ne.2 (by omega)
    have hp1 : 0 < m.length := by omega
    have hp2 : (0 : Int) < (m.length : Int) := by omega
    have hl1 : 1 ≤ m.length := by omega
    have hl4 : m.length ≤ 4 := by omega
    have HSQ : Hid (∀ i, i < m.length → m.length ≤ (rowAt m i).length) := fun i hi => by rw [hsq.row i (by omega)]; omega
    have HIH := Lib.hid (ih (by omega))
    have HD : Hid (∀ j, j < m.length → Square (woL m 0 j) k) := fun j hj => hsq.wo (by omega) (by omega)
    have HF : Hid (∀ j, j < m.length → (-9 ≤ nth (rowAt m 0) j ∧ nth (rowAt m 0) j ≤ 9) ∧ -4374 ≤ detL (woL m 0 j) ∧ detL (woL m 0 j) ≤ 4374) := fun j hj => by
      have h1 := detL_bd (hsq.wo (a := 0) (b := j) (by omega) (by omega))
      have h2 := detB_le (k := k) (by omega)
      exact ⟨⟨hsq.lo 0 j (by omega) (by omega), hsq.hi 0 j (by omega) (by omega)⟩, by omega, by omega⟩
    have HS : Hid (∀ j, j ≤ m.length → -157464 ≤ sumI j (detF m) ∧ sumI j (detF m) ≤ 157464) := fun j hj => by
      have := sumI_bd j (detF m) 39366 (fun a ha => by
        have := HF.out a (by omega)
        have := prod3_bd (sgI_cases a) this.1.1 this.1.2 this.2.1 this.2.2
        exact this.2)
      omega
    have HR := Lib.hid h
    obtain ⟨bt, ot, rfl⟩ := h.some (by omega)
    clear h ih hsq hlen
    go_enter Try.func66, Try.ntmps66
    go_wp2_with fail
    go_loopw [3, 4] (fun v i wr => ∃ j : Nat, j ≤ m.length ∧ i = .int .i64 j ∧ v = .int .i64 (sumI j (detF m)) ∧ Hid (Below w.heap.size w wr)) (fun _ i _ => m.length - (intOf i).toNat)
    case atStart => exact ⟨0, Nat.zero_le _, rfl, rfl, Below.refl _ _⟩
    case round =>
      obtain ⟨j, hj, rfl, rfl, HB⟩ := hrel
      by_cases hlt : j < m.length
      · have R := keepRows HB.out HR.out
        have hlj : j < (rowAt m 0).length := by have := HSQ.out 0 (by omega); omega
        obtain ⟨b', o', c', hc1, hc2, hc3, hc4, hc5⟩ := R.cell (i := 0) (j := j) (by omega) hlj
        obtain ⟨hS, _⟩ := R.row (i := 0) (by omega)
        rw [Nat.add_zero] at hc1
        unfold maxLen at hc3
        have hws := HB.out.size
        have t0 := stays (W := wr) (p := bt) (o := ot) (by omega) hc1
        have t1 := stays (W := wr) (p := b') (o := o' + j) (by omega) hc5
        obtain ⟨⟨hx1, hx2⟩, hd1, hd2⟩ := HF.out j hlt
        have hsg := sgI_cases j
        have hsm := sg_mod j
        have hb := prod3_bd hsg hx1 hx2 hd1 hd2
        have hsum := HS.out j hj
        have hsum2 := HS.out (j + 1) (by omega)
        have hstep : sumI (j + 1) (detF m) = sumI j (detF m) + sgI j * nth (rowAt m 0) j * detL (woL m 0 j) := rfl
        obtain ⟨r, hr⟩ : ∃ r, (j : Int).tmod 2 = r := ⟨_, rfl⟩
        rw [hr] at hsm
        rw [hsm] at hb hstep
        rw [hstep] at hsum2
        have hr01 : r = 0 ∨ r = 1 := by rcases hsg with h | h <;> omega
        have w1 : IntKind.i64.wrap (r * 2) = r * 2 := IntWalk.i64_in _ (by omega)
        have w2 : IntKind.i64.wrap (1 - r * 2) = 1 - r * 2 := IntWalk.i64_in _ (by omega)
        have w3 : IntKind.i64.wrap ((1 - r * 2) * nth (rowAt m 0) j) = (1 - r * 2) * nth (rowAt m 0) j := IntWalk.i64_in _ (by omega)
        have w4 : IntKind.i64.wrap ((1 - r * 2) * nth (rowAt m 0) j * detL (woL m 0 j)) = (1 - r * 2) * nth (rowAt m 0) j * detL (woL m 0 j) := IntWalk.i64_in _ (by omega)
        have w5 : IntKind.i64.wrap (sumI j (detF m) + (1 - r * 2) * nth (rowAt m 0) j * detL (woL m 0 j)) = sumI j (detF m) + (1 - r * 2) * nth (rowAt m 0) j * detL (woL m 0 j) := IntWalk.i64_in _ (by omega)
        have w6 : IntKind.i64.wrap r = r := IntWalk.i64_in _ (by omega)
        have HST := Lib.hid hstep
        have HDJ := Lib.hid (HD.out j hlt)
        clear hsg hsm hb hsum hsum2 hstep hr01 R hc1 hc5 hx1 hx2 hd1 hd2
        go_wp2_with fail
        go_region_held3 (fun w' => Below wr.heap.size wr w')
          (first | exact Below.refl _ _ | exact Below.drew (Below.refl _ _) | (refine Below.drew ?_; assumption) | exact belT (by assumption) (by assumption) | assumption)
          (first | (go_at_call 67; refine (without _ _ m 0 j hl4 HSQ.out _ ((keepRows (belT HB.out (by assumption)) HR.out).lt (Below.size (belT HB.out (by assumption))))).mono ?_; rintro e w1 ⟨T1, c1, rfl, hb1, ho1⟩) | (go_at_call 66; refine (HIH.out _ _ (woL m 0 j) HDJ.out _ (ho1.rows2.mono fun b hb => hb.2)).mono ?_; rintro e w1 ⟨rfl, hb1⟩))
        go_wp2_with fail
        have HB2 : Hid (Below w.heap.size w w1) := belT HB.out (by assumption)
        go_roundw
        case rel => exact ⟨j + 1, by omega, by go_num, by rw [HST.out], HB2⟩
        case measure => simp [intOf]; omega
      · obtain rfl : j = m.length := by omega
        rw [← H1.out]
        go_wp2_with fail
        go_ret
        exact Adds.of rfl HB.out

end Go.Proofs.Ytgjbahlebhnoiaa

namespace Go.Proofs.Ytgjbahlebhnoiaa
set_option linter.unusedSimpArgs false
set_option linter.unusedVariables false
open Go.RowKit

/-- how many things a set has -/
def popN (s : Nat) : Nat := if h : s = 0 then 0 else s % 2 + popN (s / 2)
termination_by s
decreasing_by omega

theorem popN_zero : popN 0 = 0 := by unfold popN; simp

theorem popN_step {s : Nat} (h : 0 < s) : popN s = s % 2 + popN (s / 2) := by
  rw [popN]; simp [show s ≠ 0 by omega]

theorem popN_le (s : Nat) : popN s ≤ s := by
  induction s using Nat.strongRecOn with
  | _ s ih =>
    by_cases h : s = 0
    · subst h; rw [popN_zero]; exact Nat.le_refl _
    · rw [popN_step (by omega)]
      have := ih (s / 2) (by omega)
      omega

set_option maxHeartbeats 1000000 in
theorem size_of_set (s : Nat) (hs : s ≤ 1000) (w : World) :
    Calls Try.prog 65 #[.int .i64 (s : Nat)] w (Same (.int .i64 (popN s : Nat)) w) := by
  go_enter Try.func65, Try.ntmps65
  go_wp2_with fail
  go_loop [0, 3] (fun a v => ∃ t n : Nat, a = .int .i64 t ∧ v = .int .i64 n ∧ t ≤ s ∧ Hid (n + popN t = popN s)) (fun a _ => (intOf a).toNat)
  case atStart => exact ⟨s, 0, rfl, rfl, Nat.le_refl _, by show 0 + popN s = popN s; omega⟩
  case round =>
    obtain ⟨t, n, rfl, rfl, hts, HN⟩ := hrel
    by_cases h0 : 0 < t
    · have h1 : (t : Int).tmod 2 = ((t % 2 : Nat) : Int) := by rw [Int.tmod_eq_emod_of_nonneg (by omega)]; omega
      have h2 : (t : Int).tdiv 2 = ((t / 2 : Nat) : Int) := by rw [Int.tdiv_eq_ediv_of_nonneg (by omega)]; omega
      have hp : n ≤ 1000 := by have := HN.out; have := popN_le s; omega
      have HN2 : Hid (n + t % 2 + popN (t / 2) = popN s) := by have := HN.out; rw [popN_step h0] at this; show _ = _; omega
      obtain ⟨a, ha⟩ : ∃ a, t % 2 = a := ⟨_, rfl⟩
      obtain ⟨b, hb⟩ : ∃ b, t / 2 = b := ⟨_, rfl⟩
      have ha2 : a ≤ 1 := by omega
      have hb2 : b < t := by omega
      rw [ha] at h1 HN2
      rw [hb] at h2 HN2
      have w1 : IntKind.i64.wrap ((a : Nat) : Int) = ((a : Nat) : Int) := IntWalk.i64_in _ (by omega)
      have w2 : IntKind.i64.wrap ((b : Nat) : Int) = ((b : Nat) : Int) := IntWalk.i64_in _ (by omega)
      have w3 : IntKind.i64.wrap ((n : Int) + (a : Int)) = ((n + a : Nat) : Int) := by rw [IntWalk.i64_in _ (by omega)]; omega
      clear ha hb
      go_wp2_with fail
      go_round
      case rel => exact ⟨b, n + a, rfl, by first | rfl | go_num, by omega, HN2⟩
      case measure => simp [intOf]; omega
    · obtain rfl : t = 0 := by omega
      have HN2 : Hid (n = popN s) := by have := HN.out; rw [popN_zero] at this; show n = _; omega
      go_wp2_with fail
      go_ret
      exact Same.of (by rw [HN2.out]; rfl)

/-- the greatest common divisor of the first k -/
def gcdN (x : List Int) : Nat → Int
  | 0 => 0
  | k + 1 => gcdI (gcdN x k) (nth x k)

/-- weights in lowest terms -/
def lowTo (x : List Int) : Nat → List Int
  | 0 => []
  | k + 1 => lowTo x k ++ [(nth x k).tdiv (max (gcdN x x.length) 1)]

def lowL (x : List Int) : List Int := lowTo x x.length

theorem lowTo_length (x : List Int) (k : Nat) : (lowTo x k).length = k := by
  induction k with
  | zero => rfl
  | succ k ih => simp [lowTo, ih]

theorem lowL_length (x : List Int) : (lowL x).length = x.length := lowTo_length x _

theorem nth_lowTo (x : List Int) {k i : Nat} (h : i < k) : nth (lowTo x k) i = (nth x i).tdiv (max (gcdN x x.length) 1) := by
  induction k with
  | zero => omega
  | succ k ih =>
    simp only [lowTo]
    by_cases e : i = k
    · subst e
      have := nth_snoc_eq (lowTo x i) ((nth x i).tdiv (max (gcdN x x.length) 1))
      rw [lowTo_length] at this; exact this
    · rw [nth_snoc_lt _ _ _ (by rw [lowTo_length]; omega)]; exact ih (by omega)

theorem nth_lowL (x : List Int) {i : Nat} (h : i < x.length) : nth (lowL x) i = (nth x i).tdiv (max (gcdN x x.length) 1) := nth_lowTo x h

end Go.Proofs.Ytgjbahlebhnoiaa

namespace Go.Proofs.Ytgjbahlebhnoiaa
set_option linter.unusedSimpArgs false
set_option linter.unusedVariables false
open Go.RowKit

theorem gcdN_bd (x : List Int) (k : Nat) (h : ∀ i, i < k → 0 ≤ nth x i ∧ nth x i ≤ 1000000) : 0 ≤ gcdN x k ∧ gcdN x k ≤ 1000000 := by
  induction k with
  | zero => simp [gcdN]
  | succ k ih =>
    have h1 := ih (fun i hi => h i (by omega))
    have h2 := h k (by omega)
    simp only [gcdN]
    refine ⟨by unfold gcdI; omega, ?_⟩
    by_cases h0 : nth x k = 0
    · rw [h0, gcdI_zero]; omega
    · have := gcdI_le_right (gcdN x k) (nth x k) h0; omega

set_option maxHeartbeats 1000000 in
set_option maxRecDepth 100000 in
theorem lowest (A : Option Addr) (c : Nat) (x : List Int) (hl : x.length ≤ 16) (hx : ∀ i, i < x.length → 0 ≤ nth x i ∧ nth x i ≤ 1000000) (w : World) (h : Ints w (· < w.heap.size) A x) :
    Calls Try.prog 68 #[.slice A x.length c] w (NewList w (lowL x)) := by
  have HX := Lib.hid h
  have HB := Lib.hid hx
  have H1 : Hid (lowL x = lowTo x x.length) := rfl
  obtain ⟨i0, hi0, hz0, hz1, hz2⟩ := info_parts infoI
  have HI0 := Lib.hid hi0
  have HZ0 := Lib.hid hz0
  have HZ1 := Lib.hid hz1
  have HZ2 := Lib.hid hz2
  clear h hx hi0 hz0 hz1 hz2
  go_enter Try.func68, Try.ntmps68
  go_wp2_with fail
  go_loopw [3, 4] (fun v i wr => ∃ k : Nat, k ≤ x.length ∧ i = .int .i64 k ∧ v = .int .i64 (gcdN x k) ∧ Hid (Below w.heap.size w wr)) (fun _ i _ => x.length - (intOf i).toNat)
  case atStart => exact ⟨0, Nat.zero_le _, rfl, rfl, Below.refl _ _⟩
  case round =>
    obtain ⟨k, hk, rfl, rfl, HW⟩ := hrel
    obtain ⟨g1, g2⟩ := gcdN_bd x k (fun i hi => HB.out i (by omega))
    by_cases hlt : k < x.length
    · obtain ⟨b, off, rfl, hS, hc⟩ := (keepInts HW.out HX.out).at_ hlt
      have hck := hc k hlt
      obtain ⟨n1, n2⟩ := HB.out k hlt
      clear hc
      go_wp2_with fail
      refine (common_spec _ _ (by omega) (by omega) (by omega) (by omega) _).mono ?_
      rintro e w1 ⟨rfl, hb1⟩
      have HW2 : Hid (Below w.heap.size w w1) := belT HW.out hb1
      clear hb1
      go_wp2_with fail
      go_roundw
      case rel => exact ⟨k + 1, by omega, by go_num, rfl, HW2⟩
      case measure => simp [intOf]; omega
    · obtain rfl : k = x.length := by omega
      have hws := HW.out.size
      have h3 : 1 < gcdN x x.length ∨ gcdN x x.length < 1 ∨ (1 ≤ gcdN x x.length ∧ gcdN x x.length ≤ 1) := by omega
      rcases h3 with hg | hg | ⟨hg, hg'⟩
      · have HD : Hid (max (gcdN x x.length) 1 = gcdN x x.length) := by show _ = _; omega
        have hDz : (gcdN x x.length == 0) = false := beq_eq_false_iff_ne.2 (by omega)
        go_wp2_with fail
        go_loopw [5, 6] (fun v i wr => ∃ k : Nat, k ≤ x.length ∧ i = .int .i64 k ∧ Hid (Grows wr w.heap.size v (lowTo x k)) ∧ Hid (Below w.heap.size w wr)) (fun _ i _ => x.length - (intOf i).toNat)
        case atStart => exact ⟨0, Nat.zero_le _, rfl, Grows.lit wr hws, HW.out.alloc hws _⟩
        case round =>
          clear hws HW
          obtain ⟨k, hk, rfl, HO, HW⟩ := hrel
          have hws := HW.out.size
          have hlen := lowTo_length x k
          have HL := Lib.hid hlen
          clear hlen
          by_cases hlt : k < x.length
          · obtain ⟨b, off, rfl, hS, hc⟩ := (keepInts HW.out HX.out).at_ hlt
            have hck := hc k hlt
            obtain ⟨n1, n2⟩ := HB.out k hlt
            clear hc
            have q1 := tdiv_in (nth x k) (gcdN x x.length) (show -4611686018427387904 ≤ nth x k by omega) (show nth x k ≤ 4611686018427387904 by omega)
            have hy : Hid (lowTo x (k + 1) = lowTo x k ++ [(nth x k).tdiv (gcdN x x.length)]) := by show lowTo x k ++ [(nth x k).tdiv (max (gcdN x x.length) 1)] = _; rw [HD.out]
            go_wp2_with (at_builtin; refine wpList_append_own_at _ rfl (.tmp 26) (.tmp 34) _ rfl w.heap.size 3 i0 (.int .i64 0) 1 8 Try.underlying26 HI0.out HZ0.out HZ1.out HZ2.out rfl (by decide) _ _ _ rfl (HO.out.alloc _) ⟨wr.heap.size, 0, none⟩ 1 1 [.int .i64 ((nth x k).tdiv (gcdN x x.length))] rfl rfl (cell_one_new _ _ _) ?c2 ?c3 ?c4 ?c5 ?_)
            case c2 => intro u hu; simp at hu; subst hu; rfl
            case c3 => rw [HL.out]; unfold maxLen; omega
            case c4 => rw [HL.out]; omega
            case c5 => simp; omega
            intro v' w4 hown hgrow _ _
            have HN : Hid (Grows w4 w.heap.size v' (lowTo x (k + 1))) := by rw [hy.out]; exact Grows.snoc hown
            have HV2 : Hid (Below w.heap.size w w4) := HO.out.below hgrow HW.out (Nat.le_refl _) hws
            clear hown hgrow
            go_wp2_with fail
            go_roundw
            case rel => exact ⟨k + 1, by omega, by go_num, HN, HV2⟩
            case measure => simp [intOf]; omega
          · obtain rfl : k = x.length := by omega
            go_wp2_with fail
            go_ret
            rw [H1.out]
            exact NewList.of rfl HO.out HW.out
      · have HD : Hid (max (gcdN x x.length) 1 = 1) := by show _ = _; omega
        go_wp2_with fail
        go_loopw [5, 6] (fun v i wr => ∃ k : Nat, k ≤ x.length ∧ i = .int .i64 k ∧ Hid (Grows wr w.heap.size v (lowTo x k)) ∧ Hid (Below w.heap.size w wr)) (fun _ i _ => x.length - (intOf i).toNat)
        case atStart => exact ⟨0, Nat.zero_le _, rfl, Grows.lit wr hws, HW.out.alloc hws _⟩
        case round =>
          clear hws HW
          obtain ⟨k, hk, rfl, HO, HW⟩ := hrel
          have hws := HW.out.size
          have hlen := lowTo_length x k
          have HL := Lib.hid hlen
          clear hlen
          by_cases hlt : k < x.length
          · obtain ⟨b, off, rfl, hS, hc⟩ := (keepInts HW.out HX.out).at_ hlt
            have hck := hc k hlt
            obtain ⟨n1, n2⟩ := HB.out k hlt
            clear hc
            have hy : Hid (lowTo x (k + 1) = lowTo x k ++ [nth x k]) := by show lowTo x k ++ [(nth x k).tdiv (max (gcdN x x.length) 1)] = _; rw [HD.out]; simp
            go_wp2_with (at_builtin; refine wpList_append_own_at _ rfl (.tmp 26) (.tmp 34) _ rfl w.heap.size 3 i0 (.int .i64 0) 1 8 Try.underlying26 HI0.out HZ0.out HZ1.out HZ2.out rfl (by decide) _ _ _ rfl (HO.out.alloc _) ⟨wr.heap.size, 0, none⟩ 1 1 [.int .i64 (nth x k)] rfl rfl (cell_one_new _ _ _) ?c2 ?c3 ?c4 ?c5 ?_)
            case c2 => intro u hu; simp at hu; subst hu; rfl
            case c3 => rw [HL.out]; unfold maxLen; omega
            case c4 => rw [HL.out]; omega
            case c5 => simp; omega
            intro v' w4 hown hgrow _ _
            have HN : Hid (Grows w4 w.heap.size v' (lowTo x (k + 1))) := by rw [hy.out]; exact Grows.snoc hown
            have HV2 : Hid (Below w.heap.size w w4) := HO.out.below hgrow HW.out (Nat.le_refl _) hws
            clear hown hgrow
            go_wp2_with fail
            go_roundw
            case rel => exact ⟨k + 1, by omega, by go_num, HN, HV2⟩
            case measure => simp [intOf]; omega
          · obtain rfl : k = x.length := by omega
            go_wp2_with fail
            go_ret
            rw [H1.out]
            exact NewList.of rfl HO.out HW.out

      · have HD : Hid (max (gcdN x x.length) 1 = gcdN x x.length) := by show _ = _; omega
        have hDz : (gcdN x x.length == 0) = false := beq_eq_false_iff_ne.2 (by omega)
        go_wp2_with fail
        go_loopw [5, 6] (fun v i wr => ∃ k : Nat, k ≤ x.length ∧ i = .int .i64 k ∧ Hid (Grows wr w.heap.size v (lowTo x k)) ∧ Hid (Below w.heap.size w wr)) (fun _ i _ => x.length - (intOf i).toNat)
        case atStart => exact ⟨0, Nat.zero_le _, rfl, Grows.lit wr hws, HW.out.alloc hws _⟩
        case round =>
          clear hws HW
          obtain ⟨k, hk, rfl, HO, HW⟩ := hrel
          have hws := HW.out.size
          have hlen := lowTo_length x k
          have HL := Lib.hid hlen
          clear hlen
          by_cases hlt : k < x.length
          · obtain ⟨b, off, rfl, hS, hc⟩ := (keepInts HW.out HX.out).at_ hlt
            have hck := hc k hlt
            obtain ⟨n1, n2⟩ := HB.out k hlt
            clear hc
            have q1 := tdiv_in (nth x k) (gcdN x x.length) (show -4611686018427387904 ≤ nth x k by omega) (show nth x k ≤ 4611686018427387904 by omega)
            have hy : Hid (lowTo x (k + 1) = lowTo x k ++ [(nth x k).tdiv (gcdN x x.length)]) := by show lowTo x k ++ [(nth x k).tdiv (max (gcdN x x.length) 1)] = _; rw [HD.out]
            go_wp2_with (at_builtin; refine wpList_append_own_at _ rfl (.tmp 26) (.tmp 34) _ rfl w.heap.size 3 i0 (.int .i64 0) 1 8 Try.underlying26 HI0.out HZ0.out HZ1.out HZ2.out rfl (by decide) _ _ _ rfl (HO.out.alloc _) ⟨wr.heap.size, 0, none⟩ 1 1 [.int .i64 ((nth x k).tdiv (gcdN x x.length))] rfl rfl (cell_one_new _ _ _) ?c2 ?c3 ?c4 ?c5 ?_)
            case c2 => intro u hu; simp at hu; subst hu; rfl
            case c3 => rw [HL.out]; unfold maxLen; omega
            case c4 => rw [HL.out]; omega
            case c5 => simp; omega
            intro v' w4 hown hgrow _ _
            have HN : Hid (Grows w4 w.heap.size v' (lowTo x (k + 1))) := by rw [hy.out]; exact Grows.snoc hown
            have HV2 : Hid (Below w.heap.size w w4) := HO.out.below hgrow HW.out (Nat.le_refl _) hws
            clear hown hgrow
            go_wp2_with fail
            go_roundw
            case rel => exact ⟨k + 1, by omega, by go_num, HN, HV2⟩
            case measure => simp [intOf]; omega
          · obtain rfl : k = x.length := by omega
            go_wp2_with fail
            go_ret
            rw [H1.out]
            exact NewList.of rfl HO.out HW.out

end Go.Proofs.Ytgjbahlebhnoiaa

namespace Go.Proofs.Ytgjbahlebhnoiaa
set_option linter.unusedSimpArgs false
set_option linter.unusedVariables false
open Go.RowKit

def pw (k : Nat) : Int := 2 ^ k - 1

theorem pw_wrap {k : Nat} (h : k ≤ 4) : wrap64 (wrap64 (2 ^ k) - 1) = pw k := by
  have : k = 0 ∨ k = 1 ∨ k = 2 ∨ k = 3 ∨ k = 4 := by omega
  rcases this with rfl | rfl | rfl | rfl | rfl <;> (first | rfl | (simp [pw, wrap64]; done))

theorem pw_le {k : Nat} (h : k ≤ 4) : pw k ≤ 15 := by
  have : k = 0 ∨ k = 1 ∨ k = 2 ∨ k = 3 ∨ k = 4 := by omega
  rcases this with rfl | rfl | rfl | rfl | rfl <;> decide

/-- is a place chosen by a number that tells places -/
def bP (r k : Nat) : Bool := (r / 2 ^ k) % 2 == 1

theorem bit_cast (r k : Nat) : ((r : Int) / 2 ^ k).tmod 2 = ((r / 2 ^ k % 2 : Nat) : Int) := by
  have e : (r : Int) / 2 ^ k = ((r / 2 ^ k : Nat) : Int) := by simp
  rw [e]
  generalize r / 2 ^ k = t
  rw [Int.tmod_eq_emod_of_nonneg (by omega)]; omega

theorem bit_yes {r k : Nat} (h : bP r k = true) : ((r : Int) / 2 ^ k).tmod 2 = 1 := by
  rw [bit_cast]; have : r / 2 ^ k % 2 = 1 := by simpa [bP] using h
  rw [this]; rfl

theorem bit_no {r k : Nat} (h : bP r k = false) : ((r : Int) / 2 ^ k).tmod 2 = 0 := by
  rw [bit_cast]; have h1 : ¬ r / 2 ^ k % 2 = 1 := by simpa [bP] using h
  have : r / 2 ^ k % 2 = 0 := by omega
  rw [this]; rfl

theorem cnt_front (P : Nat → Bool) (k : Nat) : cnt P (k + 1) = (if P 0 = true then 1 else 0) + cnt (fun i => P (i + 1)) k := by
  induction k with
  | zero => simp [cnt]
  | succ k ih =>
    have e : cnt P (k + 1 + 1) = if P (k + 1) = true then cnt P (k + 1) + 1 else cnt P (k + 1) := rfl
    have e2 : cnt (fun i => P (i + 1)) (k + 1) = if P (k + 1) = true then cnt (fun i => P (i + 1)) k + 1 else cnt (fun i => P (i + 1)) k := rfl
    rw [e, e2, ih]; split <;> omega

theorem bP_succ (r k : Nat) : bP r (k + 1) = bP (r / 2) k := by
  unfold bP; rw [Nat.pow_succ, Nat.mul_comm, Nat.div_div_eq_div_mul]

theorem cnt_pop : ∀ (m r : Nat), r < 2 ^ m → cnt (bP r) m = popN r
  | 0, r, h => by
    have : r = 0 := by simpa using h
    subst this; rw [popN_zero]; rfl
  | m + 1, r, h => by
    rw [cnt_front]
    have e : (fun i => bP r (i + 1)) = bP (r / 2) := funext fun i => bP_succ r i
    rw [e, cnt_pop m (r / 2) (by rw [Nat.pow_succ] at h; omega)]
    by_cases h0 : 0 < r
    · rw [popN_step h0]
      unfold bP
      have : r / 2 ^ 0 = r := by simp
      rw [this]
      by_cases h1 : r % 2 = 1
      · simp [h1]
      · have h2 : r % 2 = 0 := by omega
        simp [h2]
    · have : r = 0 := by omega
      subst this; simp [popN_zero, bP]

theorem pw_lt {r m : Nat} (h : inR (r : Int) 1 (pw m) = true) : 1 ≤ r ∧ r < 2 ^ m := by
  unfold inR pw at h
  rw [decide_eq_true_eq] at h
  obtain ⟨h1, h2⟩ := h
  have e : ((2 ^ m : Nat) : Int) = (2 : Int) ^ m := by simp
  rw [← e] at h2
  generalize 2 ^ m = t at h2 ⊢
  omega

/-- the part -/
def pt (g : List (List Int)) (r q : Nat) : List (List Int) := selTab (bP r) (fun i => selRow (bP q) (nth (rowAt g i)) (rowAt g 0).length) g.length

/-- the cofactors of the part at their places in the game -/
def cfn (g : List (List Int)) (r q i j : Nat) : Int := if (bP r i && bP q j) = true then sgI (cnt (bP r) i + cnt (bP q) j) * detL (woL (pt g r q) (cnt (bP r) i) (cnt (bP q) j)) else 0

def kX (g : List (List Int)) (r q i : Nat) : Int := sumI (rowAt g 0).length (cfn g r q i)

def kY (g : List (List Int)) (r q j : Nat) : Int := sumI g.length (fun i => cfn g r q i j)

def kA (g : List (List Int)) (r q : Nat) : Int := sumI g.length (kX g r q)

def kE (g : List (List Int)) (r q : Nat) : Int := if kA g r q < 0 then -1 else 1

def kXL (g : List (List Int)) (r q : Nat) : List Int := (List.range g.length).map fun i => kE g r q * kX g r q i

def kYL (g : List (List Int)) (r q : Nat) : List Int := (List.range (rowAt g 0).length).map fun j => kE g r q * kY g r q j

def posB (l : List Int) : Nat → Bool
  | 0 => true
  | k + 1 => posB l k && decide (0 ≤ nth l k)

theorem posB_iff {l : List Int} {k : Nat} : posB l k = true ↔ ∀ i, i < k → 0 ≤ nth l i := by
  induction k with
  | zero => simp [posB]
  | succ k ih =>
    simp only [posB, Bool.and_eq_true, ih, decide_eq_true_eq]
    refine ⟨fun ⟨h1, h2⟩ i hi => ?_, fun h => ⟨fun i hi => h i (by omega), h k (by omega)⟩⟩
    rcases Nat.lt_or_eq_of_le (Nat.le_of_lt_succ hi) with h | rfl
    · exact h1 i h
    · exact h2

def kOk (g : List (List Int)) (r q : Nat) : Bool := !(kA g r q == 0) && posB (kXL g r q) g.length && posB (kYL g r q) (rowAt g 0).length

def kerB (g : List (List Int)) (rows cols : Int) : Bool :=
  gameB g && decide (g.length ≤ 4) && decide ((rowAt g 0).length ≤ 4) && inR rows 1 (pw g.length) && inR cols 1 (pw (rowAt g 0).length) && (popN rows.toNat == popN cols.toNat) && kOk g rows.toNat cols.toNat

def kerX (g : List (List Int)) (rows cols : Int) : List Int := if kerB g rows cols = true then lowL (kXL g rows.toNat cols.toNat) else []

def kerY (g : List (List Int)) (rows cols : Int) : List Int := if kerB g rows cols = true then lowL (kYL g rows.toNat cols.toNat) else []

def okX (g : List (List Int)) (r q : Nat) : List Int := if kOk g r q = true then lowL (kXL g r q) else []

def okY (g : List (List Int)) (r q : Nat) : List Int := if kOk g r q = true then lowL (kYL g r q) else []

theorem kXL_length (g : List (List Int)) (r q : Nat) : (kXL g r q).length = g.length := by simp [kXL]

theorem kYL_length (g : List (List Int)) (r q : Nat) : (kYL g r q).length = (rowAt g 0).length := by simp [kYL]

theorem nth_kXL (g : List (List Int)) (r q i : Nat) (h : i < g.length) : nth (kXL g r q) i = kE g r q * kX g r q i := by
  unfold kXL; rw [nth_map _ _ _ (by simpa using h)]; simp

theorem nth_kYL (g : List (List Int)) (r q j : Nat) (h : j < (rowAt g 0).length) : nth (kYL g r q) j = kE g r q * kY g r q j := by
  unfold kYL; rw [nth_map _ _ _ (by simpa using h)]; simp

/-- a part of as many rows as columns, 1 or more -/
structure Part (g : List (List Int)) (r q k : Nat) : Prop where
  game : Game g (rowAt g 0).length
  m4 : g.length ≤ 4
  n4 : (rowAt g 0).length ≤ 4
  rows : cnt (bP r) g.length = k
  cols : cnt (bP q) (rowAt g 0).length = k

theorem Part.square {g : List (List Int)} {r q k : Nat} (h : Part g r q k) : Square (pt g r q) k := by
  have hg := h.game
  have hrow : ∀ i, i < k → ((sel (bP r) g.length).getD i 0 < g.length) ∧ rowAt (pt g r q) i = selRow (bP q) (nth (rowAt g ((sel (bP r) g.length).getD i 0))) (rowAt g 0).length := fun i hi => by
    have h1 := sel_at (P := bP r) (k := g.length) (a := i) (by rw [h.rows]; exact hi)
    refine ⟨h1.1, ?_⟩
    unfold pt; rw [selTab_map, rowAt_map _ _ _ (by rw [sel_length, h.rows]; exact hi)]
  have hnth : ∀ i j, i < k → j < k → ∃ a b, a < g.length ∧ b < (rowAt g 0).length ∧ nth (rowAt (pt g r q) i) j = nth (rowAt g a) b := fun i j hi hj => by
    obtain ⟨h1, h2⟩ := hrow i hi
    have h3 := sel_at (P := bP q) (k := (rowAt g 0).length) (a := j) (by rw [h.cols]; exact hj)
    exact ⟨_, _, h1, h3.1, by rw [h2, selRow_map, nth_mapN _ _ _ (by rw [sel_length, h.cols]; exact hj)]⟩
  refine ⟨by unfold pt; rw [selTab_length, h.rows], fun i hi => by rw [(hrow i hi).2, selRow_length, h.cols], fun i j hi hj => ?_, fun i j hi hj => ?_⟩ <;> obtain ⟨a, b, h1, h2, h3⟩ := hnth i j hi hj <;> rw [h3]
  · exact hg.nlo a h1 b h2
  · exact hg.nhi a h1 b h2

theorem Part.k4 {g : List (List Int)} {r q k : Nat} (h : Part g r q k) : k ≤ 4 := by
  have := cnt_le (bP r) g.length; have := h.rows; have := h.m4; omega

theorem Part.at_ {g : List (List Int)} {r q k i j : Nat} (h : Part g r q k) (hi : i < g.length) (hj : j < (rowAt g 0).length) (h1 : bP r i = true) (h2 : bP q j = true) : cnt (bP r) i < k ∧ cnt (bP q) j < k := by
  have a := cnt_mono (bP r) (i := i + 1) (k := g.length) (by omega)
  have b := cnt_mono (bP q) (i := j + 1) (k := (rowAt g 0).length) (by omega)
  rw [cnt_yes h1, h.rows] at a
  rw [cnt_yes h2, h.cols] at b
  omega

theorem Part.wo {g : List (List Int)} {r q k i j : Nat} (h : Part g r q k) (hi : i < g.length) (hj : j < (rowAt g 0).length) (h1 : bP r i = true) (h2 : bP q j = true) : Square (woL (pt g r q) (cnt (bP r) i) (cnt (bP q) j)) (k - 1) ∧ k - 1 ≤ 3 := by
  obtain ⟨a, b⟩ := h.at_ hi hj h1 h2
  have hk := h.k4
  have hs := h.square
  obtain ⟨k', rfl⟩ : ∃ k', k = k' + 1 := ⟨k - 1, by omega⟩
  exact ⟨hs.wo a b, by omega⟩

theorem Part.cfn_bd {g : List (List Int)} {r q k : Nat} (h : Part g r q k) (i j : Nat) (hi : i < g.length) (hj : j < (rowAt g 0).length) : -4374 ≤ cfn g r q i j ∧ cfn g r q i j ≤ 4374 := by
  unfold cfn
  split
  · rename_i hb
    simp only [Bool.and_eq_true] at hb
    obtain ⟨hs, hk⟩ := h.wo hi hj hb.1 hb.2
    have h1 := detL_bd hs
    have h2 := detB_le hk
    rcases sgI_cases (cnt (bP r) i + cnt (bP q) j) with e | e <;> rw [e] <;> omega
  · omega

theorem Part.row_bd {g : List (List Int)} {r q k : Nat} (h : Part g r q k) (i n : Nat) (hi : i < g.length) (hn : n ≤ (rowAt g 0).length) : -17496 ≤ sumI n (cfn g r q i) ∧ sumI n (cfn g r q i) ≤ 17496 := by
  have := sumI_bd n (cfn g r q i) 4374 (fun j hj => h.cfn_bd i j hi (by omega))
  have := h.n4
  omega

theorem Part.col_bd {g : List (List Int)} {r q k : Nat} (h : Part g r q k) (j n : Nat) (hj : j < (rowAt g 0).length) (hn : n ≤ g.length) : -17496 ≤ sumI n (fun i => cfn g r q i j) ∧ sumI n (fun i => cfn g r q i j) ≤ 17496 := by
  have := sumI_bd n (fun i => cfn g r q i j) 4374 (fun i hi => h.cfn_bd i j (by omega) hj)
  have := h.m4
  omega

theorem Part.all_bd {g : List (List Int)} {r q k : Nat} (h : Part g r q k) (n : Nat) (hn : n ≤ g.length) : -69984 ≤ sumI n (kX g r q) ∧ sumI n (kX g r q) ≤ 69984 := by
  have := sumI_bd n (kX g r q) 17496 (fun i hi => h.row_bd i _ (by omega) (Nat.le_refl _))
  have := h.m4
  omega

theorem cfn_row_no {g : List (List Int)} {r q i : Nat} (h : bP r i = false) (j : Nat) : cfn g r q i j = 0 := by simp [cfn, h]

theorem cfn_col_no {g : List (List Int)} {r q j : Nat} (h : bP q j = false) (i : Nat) : cfn g r q i j = 0 := by simp [cfn, h]

theorem kX_no {g : List (List Int)} {r q i : Nat} (h : bP r i = false) : kX g r q i = 0 := by
  unfold kX
  have : ∀ n, sumI n (cfn g r q i) = 0 := fun n => by
    induction n with
    | zero => rfl
    | succ n ih => simp only [sumI, ih, cfn_row_no h]; rfl
  exact this _

end Go.Proofs.Ytgjbahlebhnoiaa

namespace Go.Proofs.Ytgjbahlebhnoiaa
set_option linter.unusedSimpArgs false
set_option linter.unusedVariables false
open Go.RowKit

/-- while the sums of cofactors are made: rows 0 .. k - 1 are done, of row k the columns 0 .. n - 1 -/
structure KSt (W0 wr : World) (g : List (List Int)) (r q k n : Nat) : Prop where
  bel : Below W0.heap.size W0 wr
  xs : wr.rowIs W0.heap.size 3 g.length (fun i => .int .i64 (if i < k then kX g r q i else if i = k then sumI n (cfn g r q k) else 0))
  ys : wr.rowIs (W0.heap.size + 1) 3 (rowAt g 0).length (fun j => .int .i64 (sumI k (fun i => cfn g r q i j) + (if j < n then cfn g r q k j else 0)))

theorem KSt.start (W0 : World) (g : List (List Int)) (r q : Nat) :
    KSt W0 ((W0.alloc (.cells (madeCells #[.int .i64 0] g.length) 3)).alloc (.cells (madeCells #[.int .i64 0] (rowAt g 0).length) 3)) g r q 0 0 := by
  have hs : (W0.alloc (.cells (madeCells #[.int .i64 0] g.length) 3)).heap.size = W0.heap.size + 1 := by simp
  refine ⟨((Below.refl _ _).alloc (Nat.le_refl _) _).alloc (by omega) _, ((World.rowIs_made W0 _ g.length _).alloc _).congr (fun i _ => by simp [sumI]), ?_⟩
  have := World.rowIs_made (W0.alloc (.cells (madeCells #[.int .i64 0] g.length) 3)) (.int .i64 0) (rowAt g 0).length 3
  rw [hs] at this
  exact this.congr (fun j _ => by simp [sumI])

theorem KSt.call {W0 wr w1 : World} {g : List (List Int)} {r q k n : Nat} (h : KSt W0 wr g r q k n) (hb : Below wr.heap.size wr w1) : KSt W0 w1 g r q k n :=
  ⟨belT h.bel hb, h.xs.of_block (hb.block _ h.xs.lt), h.ys.of_block (hb.block _ h.ys.lt)⟩

theorem KSt.skip {W0 wr : World} {g : List (List Int)} {r q k : Nat} (h : KSt W0 wr g r q k 0) (hb : bP r k = false) : KSt W0 wr g r q (k + 1) 0 := by
  refine ⟨h.bel, h.xs.congr (fun i _ => ?_), h.ys.congr (fun j _ => ?_)⟩
  · by_cases e : i = k
    · subst e; simp [sumI, kX_no hb]
    · by_cases hlt : i < k
      · simp [hlt, show i < k + 1 by omega]
      · have h1 : ¬ i < k + 1 := by omega
        by_cases e2 : i = k + 1
        · subst e2; simp [sumI, hlt, e]
        · simp [hlt, h1, e, e2]
  · simp [sumI, cfn_row_no hb]

theorem KSt.next {W0 wr : World} {g : List (List Int)} {r q k : Nat} (h : KSt W0 wr g r q k (rowAt g 0).length) : KSt W0 wr g r q (k + 1) 0 := by
  refine ⟨h.bel, h.xs.congr (fun i _ => ?_), h.ys.congr (fun j hj => ?_)⟩
  · by_cases e : i = k
    · subst e; simp [kX]
    · by_cases hlt : i < k
      · simp [hlt, show i < k + 1 by omega]
      · have h1 : ¬ i < k + 1 := by omega
        by_cases e2 : i = k + 1
        · subst e2; simp [sumI, hlt, e]
        · simp [hlt, h1, e, e2]
  · simp [sumI, hj]

theorem KSt.skip_col {W0 wr : World} {g : List (List Int)} {r q k n : Nat} (h : KSt W0 wr g r q k n) (hb : bP q n = false) : KSt W0 wr g r q k (n + 1) := by
  refine ⟨h.bel, h.xs.congr (fun i _ => ?_), h.ys.congr (fun j hj => ?_)⟩
  · simp only [sumI, cfn_col_no hb, Int.add_zero]
  · by_cases e : j = n
    · subst e; simp [cfn_col_no hb]
    · by_cases hlt : j < n
      · simp [hlt, show j < n + 1 by omega]
      · simp [hlt, show ¬ j < n + 1 by omega]

theorem KSt.xcell {W0 wr : World} {g : List (List Int)} {r q k n : Nat} (h : KSt W0 wr g r q k n) (hk : k < g.length) : wr.cell? ⟨W0.heap.size, k, none⟩ = some (.int .i64 (sumI n (cfn g r q k))) := by
  have := h.xs.cell hk; simpa using this

theorem KSt.ycell {W0 wr : World} {g : List (List Int)} {r q k n : Nat} (h : KSt W0 wr g r q k n) (hn : n < (rowAt g 0).length) : wr.cell? ⟨W0.heap.size + 1, n, none⟩ = some (.int .i64 (sumI k (fun i => cfn g r q i n))) := by
  have := h.ys.cell hn; simpa using this

theorem KSt.step {W0 wr : World} {g : List (List Int)} {r q k n : Nat} (h : KSt W0 wr g r q k n) :
    KSt W0 ((wr.setCell ⟨W0.heap.size, k, none⟩ (.int .i64 (sumI n (cfn g r q k) + cfn g r q k n))).setCell ⟨W0.heap.size + 1, n, none⟩ (.int .i64 (sumI k (fun i => cfn g r q i n) + cfn g r q k n))) g r q k (n + 1) := by
  refine ⟨(h.bel.setCell (Nat.le_refl _) _).setCell (by show W0.heap.size ≤ W0.heap.size + 1; omega) _,
    ((h.xs.set k _).setOther (by show W0.heap.size ≠ W0.heap.size + 1; omega) _).congr (fun i _ => ?_),
    ((h.ys.setOther (by show W0.heap.size + 1 ≠ W0.heap.size; omega) _).set n _).congr (fun j _ => ?_)⟩
  · by_cases e : i = k
    · subst e; simp [sumI]
    · by_cases hlt : i < k
      · simp [e, hlt]
      · simp [e, hlt]
  · by_cases e : j = n
    · subst e; simp
    · by_cases hlt : j < n
      · simp [e, hlt, show j < n + 1 by omega]
      · simp [e, hlt, show ¬ j < n + 1 by omega]

theorem kA_step (g : List (List Int)) (r q k : Nat) : sumI (k + 1) (kX g r q) = sumI k (kX g r q) + sumI (rowAt g 0).length (cfn g r q k) := rfl

/-- the sums of a list, so many of them with their sign turned -/
structure NSt (W0 wr : World) (b : Nat) (l : List Int) (e : Int) (k : Nat) (f : Nat → Int) : Prop where
  bel : Below W0.heap.size W0 wr
  row : wr.rowIs b 3 l.length (fun i => .int .i64 (if i < k then nth l i else f i))

theorem NSt.cell {W0 wr : World} {b k : Nat} {l : List Int} {e : Int} {f : Nat → Int} (h : NSt W0 wr b l e k f) (hk : k < l.length) : wr.cell? ⟨b, k, none⟩ = some (.int .i64 (f k)) := by
  have := h.row.cell hk; simpa using this

theorem NSt.set {W0 wr : World} {b k : Nat} {l : List Int} {e : Int} {f : Nat → Int} (h : NSt W0 wr b l e k f) (hb : W0.heap.size ≤ b) {x : Int} (hx : nth l k = x) : NSt W0 (wr.setCell ⟨b, k, none⟩ (.int .i64 x)) b l e (k + 1) f := by
  refine ⟨h.bel.setCell hb _, (h.row.set k _).congr (fun i _ => ?_)⟩
  by_cases e1 : i = k
  · subst e1; simp [hx]
  · by_cases hlt : i < k
    · simp [e1, hlt, show i < k + 1 by omega]
    · simp [e1, hlt, show ¬ i < k + 1 by omega]

theorem NSt.same {W0 wr : World} {b k : Nat} {l : List Int} {e : Int} {f : Nat → Int} (h : NSt W0 wr b l e k f) (hx : nth l k = f k) : NSt W0 wr b l e (k + 1) f := by
  refine ⟨h.bel, h.row.congr (fun i _ => ?_)⟩
  by_cases e1 : i = k
  · subst e1; simp [hx]
  · by_cases hlt : i < k
    · simp [hlt, show i < k + 1 by omega]
    · simp [hlt, show ¬ i < k + 1 by omega]

theorem NSt.ints {W0 wr : World} {b : Nat} {l : List Int} {e : Int} {f : Nat → Int} {S : Nat → Prop} (h : NSt W0 wr b l e l.length f) (hb : S b) : Ints wr S (some ⟨b, 0, none⟩) l :=
  IntRow.ints (h.row.congr (fun i hi => by simp [hi])) hb

/-- what a call leaves that hands back two lists of its own and a truth -/
def TwoLists (w : World) (l m : List Int) (b : Bool) (e : Ending) (w' : World) : Prop :=
  ∃ (A : Option Addr) (c : Nat) (B : Option Addr) (d : Nat), e = .returned (.tuple #[.slice A l.length c, .slice B m.length d, .bool b]) ∧ Below w.heap.size w w' ∧ OwnI w' w.heap.size w'.heap.size A l ∧ OwnI w' w.heap.size w'.heap.size B m

theorem TwoLists.none {w w' : World} {x : Value} {A B : Option Addr} (hx : x = .tuple #[.slice A 0 0, .slice B 0 0, .bool false]) (hb : Below w.heap.size w w') : TwoLists w [] [] false (.returned x) w' :=
  ⟨A, 0, B, 0, by rw [hx]; rfl, hb, fun h => absurd h (by simp), fun h => absurd h (by simp)⟩

set_option maxHeartbeats 1000000 in
set_option maxRecDepth 100000 in
theorem ker_no1 (T : Option Addr) (c : Nat) (g : List (List Int)) (rows cols : Int) (hl : g.length ≤ maxLen) (w : World) (h : Rows2 w (· < w.heap.size) T g) (hb : gameB g = false) :
    Calls Try.prog 13 #[.slice T g.length c, .int .i64 rows, .int .i64 cols] w (TwoLists w [] [] false) := by
  have HG := Lib.hid hb
  clear hb
  have HR := Lib.hid h
  clear h
  go_enter Try.func13, Try.ntmps13
  go_wp2_with fail
  refine (game_spec _ _ _ _ hl _ HR.out).mono ?_
  rintro e w1 ⟨rfl, n, rfl⟩
  rw [HG.out]
  go_wp2_with fail
  go_ret3
  exact TwoLists.none (by rfl) ((below_drewN (Below.refl _ _) n).alloc (by simp) _ |>.alloc (by simp) _)

set_option maxHeartbeats 1000000 in
set_option maxRecDepth 100000 in
theorem ker_no2 (T : Option Addr) (c : Nat) (g : List (List Int)) (rows cols : Int) (hl : g.length ≤ maxLen) (w : World) (h : Rows2 w (· < w.heap.size) T g) (hb : gameB g = true) (h4 : ¬ g.length ≤ 4) :
    Calls Try.prog 13 #[.slice T g.length c, .int .i64 rows, .int .i64 cols] w (TwoLists w [] [] false) := by
  have HG := Lib.hid hb
  have hg2 := (Game.of hb).hi
  have d1 : decide ((4 : Int) < (g.length : Int)) = true := by simp; omega
  clear hb
  have HR := Lib.hid h
  clear h
  go_enter Try.func13, Try.ntmps13
  go_wp2_with fail
  refine (game_spec _ _ _ _ hl _ HR.out).mono ?_
  rintro e w1 ⟨rfl, n, rfl⟩
  rw [HG.out]
  go_wp2_with fail
  go_ret3
  exact TwoLists.none (by rfl) ((below_drewN (Below.refl _ _) n).alloc (by simp) _ |>.alloc (by simp) _)

set_option maxHeartbeats 1000000 in
set_option maxRecDepth 100000 in
theorem ker_no3 (T : Option Addr) (c : Nat) (g : List (List Int)) (rows cols : Int) (hl : g.length ≤ maxLen) (w : World) (h : Rows2 w (· < w.heap.size) T g) (hb : gameB g = true) (h4 : g.length ≤ 4) (hn4 : ¬ (rowAt g 0).length ≤ 4) :
    Calls Try.prog 13 #[.slice T g.length c, .int .i64 rows, .int .i64 cols] w (TwoLists w [] [] false) := by
  have HG := Lib.hid hb
  have hg1 := (Game.of hb).lo
  have hg2 := (Game.of hb).mhi
  obtain ⟨bt, ot, rfl⟩ := h.some (by omega)
  obtain ⟨hS, A0, c0, hc0, hl0, hm0, _⟩ := h.row (i := 0) (by omega)
  rw [Nat.add_zero] at hc0
  unfold maxLen at hm0
  have hp1 : 0 < g.length := by omega
  have hp2 : (0 : Int) < (g.length : Int) := by omega
  have d1 : decide ((4 : Int) < (g.length : Int)) = false := by simp; omega
  have d2 : decide ((4 : Int) < ((rowAt g 0).length : Int)) = true := by simp; omega
  clear hb
  have HR := Lib.hid h
  clear h
  go_enter Try.func13, Try.ntmps13
  go_wp2_with fail
  refine (game_spec _ _ _ _ hl _ HR.out).mono ?_
  rintro e w1 ⟨rfl, n, rfl⟩
  rw [HG.out]
  have hc1 : (w.drewN n).cell? ⟨bt, ot, none⟩ = some (.slice A0 (rowAt g 0).length c0) := hc0
  go_wp2_with fail
  go_ret3
  exact TwoLists.none (by rfl) ((below_drewN (Below.refl _ _) n).alloc (by simp) _ |>.alloc (by simp) _)

set_option maxHeartbeats 1000000 in
set_option maxRecDepth 100000 in
theorem ker_no4 (T : Option Addr) (c : Nat) (g : List (List Int)) (rows cols : Int) (hl : g.length ≤ maxLen) (w : World) (h : Rows2 w (· < w.heap.size) T g) (hb : gameB g = true) (h4 : g.length ≤ 4) (hn4 : (rowAt g 0).length ≤ 4) (hr : inR rows 1 (pw g.length) = false) :
    Calls Try.prog 13 #[.slice T g.length c, .int .i64 rows, .int .i64 cols] w (TwoLists w [] [] false) := by
  have HG := Lib.hid hb
  have hg1 := (Game.of hb).lo
  have hg2 := (Game.of hb).mhi
  obtain ⟨bt, ot, rfl⟩ := h.some (by omega)
  obtain ⟨hS, A0, c0, hc0, hl0, hm0, _⟩ := h.row (i := 0) (by omega)
  rw [Nat.add_zero] at hc0
  unfold maxLen at hm0
  have hp1 : 0 < g.length := by omega
  have hp2 : (0 : Int) < (g.length : Int) := by omega
  have d1 : decide ((4 : Int) < (g.length : Int)) = false := by simp; omega
  have d2 : decide ((4 : Int) < ((rowAt g 0).length : Int)) = false := by simp; omega
  have hpw1 := pw_wrap h4
  have hpw2 := pw_wrap hn4
  have HRR := Lib.hid hr
  clear hb hr
  have HR := Lib.hid h
  clear h
  go_enter Try.func13, Try.ntmps13
  go_wp2_with fail
  refine (game_spec _ _ _ _ hl _ HR.out).mono ?_
  rintro e w1 ⟨rfl, n, rfl⟩
  rw [HG.out]
  have hc1 : (w.drewN n).cell? ⟨bt, ot, none⟩ = some (.slice A0 (rowAt g 0).length c0) := hc0
  go_wp2_with fail
  refine (in_spec _ _ _ _).mono ?_
  rintro e w1 ⟨rfl, rfl⟩
  rw [HRR.out]
  go_wp2_with fail
  go_ret3
  exact TwoLists.none (by rfl) ((below_drewN (Below.refl _ _) n).alloc (by simp) _ |>.alloc (by simp) _)

set_option maxHeartbeats 1000000 in
set_option maxRecDepth 100000 in
theorem ker_no5 (T : Option Addr) (c : Nat) (g : List (List Int)) (rows cols : Int) (hl : g.length ≤ maxLen) (w : World) (h : Rows2 w (· < w.heap.size) T g) (hb : gameB g = true) (h4 : g.length ≤ 4) (hn4 : (rowAt g 0).length ≤ 4) (hr : inR rows 1 (pw g.length) = true) (hq : inR cols 1 (pw (rowAt g 0).length) = false) :
    Calls Try.prog 13 #[.slice T g.length c, .int .i64 rows, .int .i64 cols] w (TwoLists w [] [] false) := by
  have HG := Lib.hid hb
  have hg1 := (Game.of hb).lo
  have hg2 := (Game.of hb).mhi
  obtain ⟨bt, ot, rfl⟩ := h.some (by omega)
  obtain ⟨hS, A0, c0, hc0, hl0, hm0, _⟩ := h.row (i := 0) (by omega)
  rw [Nat.add_zero] at hc0
  unfold maxLen at hm0
  have hp1 : 0 < g.length := by omega
  have hp2 : (0 : Int) < (g.length : Int) := by omega
  have d1 : decide ((4 : Int) < (g.length : Int)) = false := by simp; omega
  have d2 : decide ((4 : Int) < ((rowAt g 0).length : Int)) = false := by simp; omega
  have hpw1 := pw_wrap h4
  have hpw2 := pw_wrap hn4
  have HRR := Lib.hid hr
  have HQQ := Lib.hid hq
  clear hb hr hq
  have HR := Lib.hid h
  clear h
  go_enter Try.func13, Try.ntmps13
  go_wp2_with fail
  refine (game_spec _ _ _ _ hl _ HR.out).mono ?_
  rintro e w1 ⟨rfl, n, rfl⟩
  rw [HG.out]
  have hc1 : (w.drewN n).cell? ⟨bt, ot, none⟩ = some (.slice A0 (rowAt g 0).length c0) := hc0
  go_wp2_with fail
  refine (in_spec _ _ _ _).mono ?_
  rintro e w1 ⟨rfl, rfl⟩
  rw [HRR.out]
  go_wp2_with fail
  refine (in_spec _ _ _ _).mono ?_
  rintro e w1 ⟨rfl, rfl⟩
  rw [HQQ.out]
  go_wp2_with fail
  go_ret3
  exact TwoLists.none (by rfl) ((below_drewN (Below.refl _ _) n).alloc (by simp) _ |>.alloc (by simp) _)

set_option maxHeartbeats 1000000 in
set_option maxRecDepth 100000 in
theorem ker_no6 (T : Option Addr) (c : Nat) (g : List (List Int)) (r q : Nat) (hl : g.length ≤ maxLen) (w : World) (h : Rows2 w (· < w.heap.size) T g) (hb : gameB g = true) (h4 : g.length ≤ 4) (hn4 : (rowAt g 0).length ≤ 4) (hr2 : r ≤ 15) (hq2 : q ≤ 15) (hr : inR (r : Int) 1 (pw g.length) = true) (hq : inR (q : Int) 1 (pw (rowAt g 0).length) = true) (hpp : popN r ≠ popN q) :
    Calls Try.prog 13 #[.slice T g.length c, .int .i64 (r : Nat), .int .i64 (q : Nat)] w (TwoLists w [] [] false) := by
  have HG := Lib.hid hb
  have hg1 := (Game.of hb).lo
  have hg2 := (Game.of hb).mhi
  obtain ⟨bt, ot, rfl⟩ := h.some (by omega)
  obtain ⟨hS, A0, c0, hc0, hl0, hm0, _⟩ := h.row (i := 0) (by omega)
  rw [Nat.add_zero] at hc0
  unfold maxLen at hm0
  have hp1 : 0 < g.length := by omega
  have hp2 : (0 : Int) < (g.length : Int) := by omega
  have d1 : decide ((4 : Int) < (g.length : Int)) = false := by simp; omega
  have d2 : decide ((4 : Int) < ((rowAt g 0).length : Int)) = false := by simp; omega
  have hpw1 := pw_wrap h4
  have hpw2 := pw_wrap hn4
  have HRR := Lib.hid hr
  have HQQ := Lib.hid hq
  have d3 : ((popN r : Int) != (popN q : Int)) = true := by simp; omega
  clear hb hr hq hpp
  have HR := Lib.hid h
  clear h
  go_enter Try.func13, Try.ntmps13
  go_wp2_with fail
  refine (game_spec _ _ _ _ hl _ HR.out).mono ?_
  rintro e w1 ⟨rfl, n, rfl⟩
  rw [HG.out]
  have hc1 : (w.drewN n).cell? ⟨bt, ot, none⟩ = some (.slice A0 (rowAt g 0).length c0) := hc0
  go_wp2_with fail
  refine (in_spec _ _ _ _).mono ?_
  rintro e w1 ⟨rfl, rfl⟩
  rw [HRR.out]
  go_wp2_with fail
  refine (in_spec _ _ _ _).mono ?_
  rintro e w1 ⟨rfl, rfl⟩
  rw [HQQ.out]
  go_wp2_with fail
  refine (size_of_set r (by omega) _).mono ?_
  rintro e w1 ⟨rfl, rfl⟩
  go_wp2_with fail
  refine (size_of_set q (by omega) _).mono ?_
  rintro e w1 ⟨rfl, rfl⟩
  go_wp2_with fail
  go_ret3
  exact TwoLists.none (by rfl) ((below_drewN (Below.refl _ _) n).alloc (by simp) _ |>.alloc (by simp) _)

end Go.Proofs.Ytgjbahlebhnoiaa

namespace Go.Proofs.Ytgjbahlebhnoiaa
set_option linter.unusedSimpArgs false
set_option linter.unusedVariables false
open Go.RowKit

set_option maxHeartbeats 4000000 in
set_option maxRecDepth 100000 in
theorem ker_good (T : Option Addr) (c : Nat) (g : List (List Int)) (r q : Nat) (hl : g.length ≤ maxLen) (w : World) (h : Rows2 w (· < w.heap.size) T g) (hb : gameB g = true) (h4 : g.length ≤ 4) (hn4 : (rowAt g 0).length ≤ 4) (hr2 : r ≤ 15) (hq2 : q ≤ 15) (hr : inR (r : Int) 1 (pw g.length) = true) (hq : inR (q : Int) 1 (pw (rowAt g 0).length) = true) (hpp : popN r = popN q) :
    Calls Try.prog 13 #[.slice T g.length c, .int .i64 (r : Nat), .int .i64 (q : Nat)] w (TwoLists w (okX g r q) (okY g r q) (kOk g r q)) := by
  have hpart : Part g r q (popN r) := ⟨Game.of hb, h4, hn4, cnt_pop _ _ (pw_lt hr).2, by rw [hpp]; exact cnt_pop _ _ (pw_lt hq).2⟩
  have HP := Lib.hid hpart
  have hnn1 := (Game.of hb).mlo
  have HG := Lib.hid hb
  have hg1 := (Game.of hb).lo
  have hg2 := (Game.of hb).mhi
  obtain ⟨bt, ot, rfl⟩ := h.some (by omega)
  obtain ⟨hS, A0, c0, hc0, hl0, hm0, _⟩ := h.row (i := 0) (by omega)
  rw [Nat.add_zero] at hc0
  unfold maxLen at hm0
  have hp1 : 0 < g.length := by omega
  have hp2 : (0 : Int) < (g.length : Int) := by omega
  have d1 : decide ((4 : Int) < (g.length : Int)) = false := by simp; omega
  have d2 : decide ((4 : Int) < ((rowAt g 0).length : Int)) = false := by simp; omega
  have hpw1 := pw_wrap h4
  have hpw2 := pw_wrap hn4
  obtain ⟨i0, hi0, hz0, hz1, hz2⟩ := info_parts infoI
  obtain ⟨i1, hi1, hy0, hy1, hy2⟩ := info_parts infoR
  have HI0 := Lib.hid hi0
  have HZ0 := Lib.hid hz0
  have HZ1 := Lib.hid hz1
  have HZ2 := Lib.hid hz2
  have HI1 := Lib.hid hi1
  have HY0 := Lib.hid hy0
  have HY1 := Lib.hid hy1
  have HY2 := Lib.hid hy2
  have HRR := Lib.hid hr
  have HQQ := Lib.hid hq
  have HPP := Lib.hid hpp
  have HLEN : Hid (∀ i, i < g.length → (rowAt g i).length = (rowAt g 0).length) := (Game.of hb).len
  have H1 : Hid (pt g r q = selTab (bP r) (fun i => selRow (bP q) (nth (rowAt g i)) (rowAt g 0).length) g.length) := rfl
  have HC0 := Lib.hid hc0
  clear hb hr hq hpp hpart hi0 hz0 hz1 hz2 hi1 hy0 hy1 hy2 hc0
  have HR := Lib.hid h
  clear h
  go_enter Try.func13, Try.ntmps13
  go_wp2_with fail
  refine (game_spec _ _ _ _ hl _ HR.out).mono ?_
  rintro e w1 ⟨rfl, n, rfl⟩
  rw [HG.out]
  have hc1 : (w.drewN n).cell? ⟨bt, ot, none⟩ = some (.slice A0 (rowAt g 0).length c0) := HC0.out
  go_wp2_with fail
  refine (in_spec _ _ _ _).mono ?_
  rintro e w1 ⟨rfl, rfl⟩
  rw [HRR.out]
  go_wp2_with fail
  refine (in_spec _ _ _ _).mono ?_
  rintro e w1 ⟨rfl, rfl⟩
  rw [HQQ.out]
  go_wp2_with fail
  refine (size_of_set r (by omega) _).mono ?_
  rintro e w1 ⟨rfl, rfl⟩
  go_wp2_with fail
  refine (size_of_set q (by omega) _).mono ?_
  rintro e w1 ⟨rfl, rfl⟩
  rw [← HPP.out]
  clear hc1
  have G0 := Lib.hid (GrowsR.lit (w.drewN n) (base := w.heap.size) (Nat.le_refl _) (fun _ => none) (fun _ => 0))
  have HB0 : Hid (Below w.heap.size w ((w.drewN n).alloc (.cells #[] 26))) := (below_drewN (Below.refl _ _) n).alloc (Nat.le_refl _) _
  go_wp2_with fail
  go_loopw [9, 10] (fun v i wr => ∃ k : Nat, k ≤ g.length ∧ i = .int .i64 k ∧ Hid (∃ (A : Nat → Option Addr) (C : Nat → Nat), GrowsR wr w.heap.size wr.heap.size v A C (selTab (bP r) (fun i => selRow (bP q) (nth (rowAt g i)) (rowAt g 0).length) k)) ∧ Hid (Below w.heap.size w wr)) (fun _ i _ => g.length - (intOf i).toNat)
  case atStart => exact ⟨0, Nat.zero_le _, rfl, ⟨_, _, G0.out.up (by simp) (Nat.le_refl _)⟩, HB0.out⟩
  case round =>
    clear G0 HB0
    obtain ⟨k, hk, rfl, HT, HW⟩ := hrel
    by_cases hlt : k < g.length
    · rcases hbit : bP r k with _ | _
      · have e1 := bit_no hbit
        have hno : Hid (selTab (bP r) (fun i => selRow (bP q) (nth (rowAt g i)) (rowAt g 0).length) (k + 1) = (selTab (bP r) (fun i => selRow (bP q) (nth (rowAt g i)) (rowAt g 0).length) k)) := selTab_no hbit
        clear hbit
        go_wp2_with fail
        go_roundw
        case rel => exact ⟨k + 1, by omega, by go_num, by rw [hno.out]; exact HT.out, HW.out⟩
        case measure => simp [intOf]; omega
      have e1 := bit_yes hbit
      have hyes : Hid (selTab (bP r) (fun i => selRow (bP q) (nth (rowAt g i)) (rowAt g 0).length) (k + 1) = (selTab (bP r) (fun i => selRow (bP q) (nth (rowAt g i)) (rowAt g 0).length) k) ++ [selRow (bP q) (nth (rowAt g k)) (rowAt g 0).length]) := selTab_yes hbit
      have hlenT := cnt_le (bP r) k
      rw [← selTab_length (bP r) (fun i => selRow (bP q) (nth (rowAt g i)) (rowAt g 0).length)] at hlenT
      obtain ⟨AA, CC, hgr⟩ := HT.out
      have HGR := Lib.hid hgr
      clear hgr HT hbit
      have hws := HW.out.size
      go_wp2_with fail
      clear e1
      obtain ⟨wo, rfl⟩ : ∃ wo : World, wo = wr := ⟨_, rfl⟩
      go_loopw [11, 12] (fun v i wr => ∃ m : Nat, m ≤ (rowAt g 0).length ∧ i = .int .i64 m ∧ Hid (Grows wr wo.heap.size v (selRow (bP q) (nth (rowAt g k)) m)) ∧ Hid (Below wo.heap.size wo wr)) (fun _ i _ => (rowAt g 0).length - (intOf i).toNat)
      case atStart => exact ⟨0, Nat.zero_le _, rfl, Grows.lit wo (Nat.le_refl _), (Below.refl _ _).alloc (Nat.le_refl _) _⟩
      case round =>
        obtain ⟨m, hm, rfl, HO, HV⟩ := hrel
        have hvs := HV.out.size
        have hlenR := cnt_le (bP q) m
        rw [← selRow_length (bP q) (nth (rowAt g k))] at hlenR
        have HWV := Lib.hid (belT HW.out HV.out)
        have hcw : wr.cell? ⟨bt, ot, none⟩ = some (.slice A0 (rowAt g 0).length c0) := (HWV.out.cell (p := ⟨bt, ot, none⟩) hS).trans HC0.out
        by_cases hlm : m < (rowAt g 0).length
        · rcases hbit : bP q m with _ | _
          · have e2 := bit_no hbit
            have hno : Hid (selRow (bP q) (nth (rowAt g k)) (m + 1) = selRow (bP q) (nth (rowAt g k)) m) := selRow_no hbit
            clear hbit
            go_wp2_with fail
            go_roundw
            case rel => exact ⟨m + 1, by omega, by go_num, by rw [hno.out]; exact HO.out, HV.out⟩
            case measure => simp [intOf]; omega
          have e2 := bit_yes hbit
          have hy : Hid (selRow (bP q) (nth (rowAt g k)) (m + 1) = selRow (bP q) (nth (rowAt g k)) m ++ [nth (rowAt g k) m]) := selRow_yes hbit
          have R2 := Lib.hid (keepRows HWV.out HR.out)
          have hlm' : m < (rowAt g k).length := by rw [HLEN.out k hlt]; exact hlm
          obtain ⟨bm, om, cm, hd1, hd2, hd3, hd4, hd5⟩ := R2.out.cell hlt hlm'
          unfold maxLen at hd3
          clear hbit
          go_wp2_with (at_builtin; refine wpList_append_own_at _ rfl (.tmp 93) (.tmp 101) _ rfl wo.heap.size 3 i0 (.int .i64 0) 1 8 Try.underlying26 HI0.out HZ0.out HZ1.out HZ2.out rfl (by decide) _ _ _ rfl (HO.out.alloc _) ⟨wr.heap.size, 0, none⟩ 1 1 [.int .i64 (nth (rowAt g k) m)] rfl rfl (cell_one_new _ _ _) ?c2 ?c3 ?c4 ?c5 ?_)
          case c2 => intro u hu; simp at hu; subst hu; rfl
          case c3 => unfold maxLen; omega
          case c4 => omega
          case c5 => simp; omega
          intro v' w4 hown hgrow _ _
          have HN : Hid (Grows w4 wo.heap.size v' (selRow (bP q) (nth (rowAt g k)) (m + 1))) := by rw [hy.out]; exact Grows.snoc hown
          have HV2 : Hid (Below wo.heap.size wo w4) := HO.out.below hgrow HV.out (Nat.le_refl _) hvs
          clear hown hgrow
          go_wp2_with fail
          go_roundw
          case rel => exact ⟨m + 1, by omega, by go_num, HN, HV2⟩
          case measure => simp [intOf]; omega
        · obtain rfl : m = (rowAt g 0).length := by omega
          obtain ⟨An, cn, hv, hcn1, hcn2, hon⟩ := HO.out.own'
          have HGV := Lib.hid (HGR.out.keep HV.out)
          have HON := Lib.hid hon
          subst hv
          clear hon
          go_wp2_with (at_builtin; refine wpList_append_own_at _ rfl (.tmp 103) (.tmp 105) _ rfl w.heap.size 26 i1 (.slice none 0 0) 1 24 Try.underlying23 HI1.out HY0.out HY1.out HY2.out rfl (by decide) _ _ _ rfl (HGV.out.alloc _) ⟨wr.heap.size, 0, none⟩ 1 1 [.slice An (selRow (bP q) (nth (rowAt g k)) (rowAt g 0).length).length cn] rfl rfl (cell_one_new _ _ _) ?c2 ?c3 ?c4 ?c5 ?_)
          case c2 => intro u hu; simp at hu; subst hu; rfl
          case c3 => unfold maxLen; omega
          case c4 => omega
          case c5 => simp; omega
          intro v' w4 hown hgrow _ hat
          have HN : Hid (∃ (A : Nat → Option Addr) (C : Nat → Nat), GrowsR w4 w.heap.size w4.heap.size v' A C (selTab (bP r) (fun i => selRow (bP q) (nth (rowAt g i)) (rowAt g 0).length) (k + 1))) := by
            rw [hyes.out]
            exact HGV.out.snoc HON.out hcn1 hcn2 hws hown hgrow (by rcases hat with e | e; exact .inl e; exact .inr (by rw [e]; try simp))
          have HW2 : Hid (Below w.heap.size w w4) := HGV.out.below hgrow (belT HW.out HV.out) (Nat.le_refl _) (by omega)
          clear hown hgrow hat
          go_wp2_with fail
          go_roundw
          case rel => exact ⟨k + 1, by omega, by go_num, HN, HW2⟩
          case measure => simp [intOf]; omega
    · obtain rfl : k = g.length := by omega
      obtain ⟨AA, CC, hgr⟩ := HT.out
      rw [← H1.out] at hgr
      obtain ⟨T1, c1, hv1, hcl1, hcl2, hot⟩ := hgr.table
      subst hv1
      have HOT := Lib.hid hot
      obtain ⟨W0, rfl⟩ : ∃ W0 : World, W0 = wr := ⟨_, rfl⟩
      have hmk1 := run_make_row' (P := Try.prog) 26 3 _ 8 Try.underlying26 infoI rfl .i64 .i64 g.length (by omega) (by omega)
      have hmk2 := run_make_row' (P := Try.prog) 26 3 _ 8 Try.underlying26 infoI rfl .i64 .i64 (rowAt g 0).length (by omega) (by omega)
      have hcw : W0.cell? ⟨bt, ot, none⟩ = some (.slice A0 (rowAt g 0).length c0) := (HW.out.cell (p := ⟨bt, ot, none⟩) hS).trans HC0.out
      have hcw2 : (W0.alloc (.cells (madeCells #[.int .i64 0] g.length) 3)).cell? ⟨bt, ot, none⟩ = some (.slice A0 (rowAt g 0).length c0) := (World.cell?_alloc_past _ _ _ (Nat.lt_of_lt_of_le hS HW.out.size)).trans hcw
      have K0 := Lib.hid (KSt.start W0 g r q)
      have hsW := HW.out.size
      clear hgr hot HT
      go_wp2_with fail
      clear hmk1 hmk2 hcw hcw2
      obtain ⟨hsq, hl3⟩ : (∀ i, i < (pt g r q).length → (pt g r q).length ≤ (rowAt (pt g r q) i).length) ∧ (pt g r q).length ≤ 4 := by
        have h1 := HP.out.square
        have h2 := HP.out.k4
        exact ⟨fun i hi => by rw [h1.row i (by rw [← h1.len]; exact hi), h1.len]; omega, by rw [h1.len]; exact h2⟩
      have HSQ := Lib.hid hsq
      have HL3 := Lib.hid hl3
      clear hsq hl3
      go_loopw [15, 16, 17] (fun v a i wr => ∃ k : Nat, k ≤ g.length ∧ i = .int .i64 k ∧ a = .int .i64 (cnt (bP r) k : Nat) ∧ v = .int .i64 (sumI k (kX g r q)) ∧ Hid (KSt W0 wr g r q k 0)) (fun _ _ i _ => g.length - (intOf i).toNat)
      case atStart => exact ⟨0, Nat.zero_le _, rfl, rfl, rfl, K0.out⟩
      case round =>
        clear K0
        obtain ⟨k, hk, rfl, rfl, rfl, HK⟩ := hrel
        have hcw : wr.cell? ⟨bt, ot, none⟩ = some (.slice A0 (rowAt g 0).length c0) := ((belT HW.out HK.out.bel).cell (p := ⟨bt, ot, none⟩) hS).trans HC0.out
        by_cases hlt : k < g.length
        · rcases hbit : bP r k with _ | _
          · have e1 := bit_no hbit
            have HA : Hid (sumI (k + 1) (kX g r q) = sumI k (kX g r q)) := by show _ = _; simp [sumI, kX_no hbit]
            have HCN := Lib.hid (cnt_no hbit)
            have HK2 := Lib.hid (HK.out.skip hbit)
            clear hbit
            go_wp2_with fail
            go_roundw
            case rel => exact ⟨k + 1, by omega, by go_num, by rw [HCN.out], by rw [HA.out], HK2.out⟩
            case measure => simp [intOf]; omega
          have e1 := bit_yes hbit
          have HCN := Lib.hid (cnt_yes hbit)
          have HBR := Lib.hid hbit
          have HA := Lib.hid (kA_step g r q k)
          clear hbit
          go_wp2_with fail
          clear e1 hcw
          go_loopw [15, 18, 19] (fun v b j wr => ∃ n : Nat, n ≤ (rowAt g 0).length ∧ j = .int .i64 n ∧ b = .int .i64 (cnt (bP q) n : Nat) ∧ v = .int .i64 (sumI k (kX g r q) + sumI n (cfn g r q k)) ∧ Hid (KSt W0 wr g r q k n)) (fun _ _ j _ => (rowAt g 0).length - (intOf j).toNat)
          case atStart => exact ⟨0, Nat.zero_le _, rfl, rfl, by simp [sumI], HK.out⟩
          case round =>
            clear HK
            obtain ⟨n, hn, rfl, rfl, rfl, HK⟩ := hrel
            have hcw : wr.cell? ⟨bt, ot, none⟩ = some (.slice A0 (rowAt g 0).length c0) := ((belT HW.out HK.out.bel).cell (p := ⟨bt, ot, none⟩) hS).trans HC0.out
            by_cases hln : n < (rowAt g 0).length
            · rcases hbit : bP q n with _ | _
              · have e2 := bit_no hbit
                have HC2 := Lib.hid (cnt_no hbit)
                have HK2 := Lib.hid (HK.out.skip_col hbit)
                have HS2 : Hid (sumI (n + 1) (cfn g r q k) = sumI n (cfn g r q k)) := by show _ = _; simp [sumI, cfn_col_no hbit]
                clear hbit
                go_wp2_with fail
                go_roundw
                case rel => exact ⟨n + 1, by omega, by go_num, by rw [HC2.out], by rw [HS2.out], HK2.out⟩
                case measure => simp [intOf]; omega
              have e2 := bit_yes hbit
              have HC2 := Lib.hid (cnt_yes hbit)
              obtain ⟨hsw, hkw⟩ := HP.out.wo hlt hln HBR.out hbit
              have hcb := HP.out.cfn_bd k n hlt hln
              have hrb := HP.out.row_bd k n hlt (by omega)
              have hrb2 := HP.out.row_bd k (n + 1) hlt (by omega)
              have hyb := HP.out.col_bd n k hln (by omega)
              have hyb2 := HP.out.col_bd n (k + 1) hln (by omega)
              have hab := HP.out.all_bd k (by omega)
              have hx2 : sumI (n + 1) (cfn g r q k) = sumI n (cfn g r q k) + cfn g r q k n := rfl
              have hy2 : sumI (k + 1) (fun i => cfn g r q i n) = sumI k (fun i => cfn g r q i n) + cfn g r q k n := rfl
              have hcf : cfn g r q k n = sgI (cnt (bP r) k + cnt (bP q) n) * detL (woL (pt g r q) (cnt (bP r) k) (cnt (bP q) n)) := by unfold cfn; rw [HBR.out, hbit]; simp
              have hsg := sgI_cases (cnt (bP r) k + cnt (bP q) n)
              have hsm := sg_mod (cnt (bP r) k + cnt (bP q) n)
              have hca : ((cnt (bP r) k + cnt (bP q) n : Nat) : Int) = (cnt (bP r) k : Int) + (cnt (bP q) n : Int) := by omega
              rw [hca] at hsm
              obtain ⟨s, hs⟩ : ∃ s, ((cnt (bP r) k : Int) + (cnt (bP q) n : Int)).tmod 2 = s := ⟨_, rfl⟩
              rw [hs] at hsm
              rw [hsm] at hsg hcf
              have hc1 := cnt_le (bP r) k
              have hc2 := cnt_le (bP q) n
              have hs01 : s = 0 ∨ s = 1 := by rcases hsg with h | h <;> omega
              rw [hx2] at hrb2
              rw [hy2] at hyb2
              rw [hcf] at hcb hrb2 hyb2
              have w0 : IntKind.i64.wrap ((cnt (bP r) k : Int) + (cnt (bP q) n : Int)) = (cnt (bP r) k : Int) + (cnt (bP q) n : Int) := IntWalk.i64_in _ (by omega)
              have w1 : IntKind.i64.wrap (s * 2) = s * 2 := IntWalk.i64_in _ (by omega)
              have w2 : IntKind.i64.wrap (1 - s * 2) = 1 - s * 2 := IntWalk.i64_in _ (by omega)
              have w3 : IntKind.i64.wrap ((1 - s * 2) * detL (woL (pt g r q) (cnt (bP r) k) (cnt (bP q) n))) = (1 - s * 2) * detL (woL (pt g r q) (cnt (bP r) k) (cnt (bP q) n)) := IntWalk.i64_in _ (by omega)
              have w4 : IntKind.i64.wrap (sumI n (cfn g r q k) + (1 - s * 2) * detL (woL (pt g r q) (cnt (bP r) k) (cnt (bP q) n))) = sumI n (cfn g r q k) + (1 - s * 2) * detL (woL (pt g r q) (cnt (bP r) k) (cnt (bP q) n)) := IntWalk.i64_in _ (by omega)
              have w5 : IntKind.i64.wrap (sumI k (fun i => cfn g r q i n) + (1 - s * 2) * detL (woL (pt g r q) (cnt (bP r) k) (cnt (bP q) n))) = sumI k (fun i => cfn g r q i n) + (1 - s * 2) * detL (woL (pt g r q) (cnt (bP r) k) (cnt (bP q) n)) := IntWalk.i64_in _ (by omega)
              have w6 : IntKind.i64.wrap (sumI k (kX g r q) + sumI n (cfn g r q k) + (1 - s * 2) * detL (woL (pt g r q) (cnt (bP r) k) (cnt (bP q) n))) = sumI k (kX g r q) + sumI n (cfn g r q k) + (1 - s * 2) * detL (woL (pt g r q) (cnt (bP r) k) (cnt (bP q) n)) := IntWalk.i64_in _ (by omega)
              have w7 : IntKind.i64.wrap s = s := IntWalk.i64_in _ (by omega)
              have HCF := Lib.hid hcf
              have HSW := Lib.hid hsw
              have w8 : IntKind.i64.wrap ((cnt (bP q) n : Int) + 1) = (cnt (bP q) n : Int) + 1 := IntWalk.i64_in _ (by omega)
              clear hsm hsg hcf hx2 hy2 hrb hrb2 hyb hyb2 hab hcb hs01 hca hbit hc1 hc2 hsw
              go_wp2_with fail
              have hR1 := (HOT.out.rows2.keep (w' := wr) (fun b hb => HK.out.bel.block b hb.2)).mono (T := (· < wr.heap.size)) (fun b hb => Nat.lt_of_lt_of_le hb.2 HK.out.bel.size)
              refine (without _ _ (pt g r q) _ _ HL3.out HSQ.out _ hR1).mono ?_
              rintro e w1 ⟨T2, c2, rfl, hb1, ho1⟩
              have HK1 := Lib.hid (HK.out.call hb1)
              clear hR1 hb1
              go_wp2_with fail
              refine (det_spec _ (by omega) _ _ (woL (pt g r q) (cnt (bP r) k) (cnt (bP q) n)) HSW.out _ (ho1.rows2.mono fun b hb => hb.2)).mono ?_
              rintro e w2 ⟨rfl, hb2⟩
              have HK2 := Lib.hid (HK1.out.call hb2)
              have cx := HK2.out.xcell hlt
              have cy := HK2.out.ycell hln
              have fx := HK2.out.xs.frozen k
              have fy := HK2.out.ys.frozen n
              have hst := HK2.out.step
              rw [HCF.out] at hst
              have HST := Lib.hid hst
              have HN1 : Hid (sumI (n + 1) (cfn g r q k) = sumI n (cfn g r q k) + (1 - s * 2) * detL (woL (pt g r q) (cnt (bP r) k) (cnt (bP q) n))) := by show _ = _; rw [← HCF.out]; rfl
              clear hst hb2 ho1 hcw
              go_wp2_with fail
              go_roundw
              case rel => exact ⟨n + 1, by omega, by go_num, by rw [HC2.out]; go_num, by rw [HN1.out, Int.add_assoc], HST.out⟩
              case measure => simp [intOf]; omega
            · obtain rfl : n = (rowAt g 0).length := by omega
              have HK2 := Lib.hid HK.out.next
              have hc1 := cnt_le (bP r) k
              have w8 : IntKind.i64.wrap ((cnt (bP r) k : Int) + 1) = (cnt (bP r) k : Int) + 1 := IntWalk.i64_in _ (by omega)
              clear hc1
              go_wp2_with fail
              go_roundw
              case rel => exact ⟨k + 1, by omega, by go_num, by rw [HCN.out]; go_num, by rw [HA.out], HK2.out⟩
              case measure => simp [intOf]; omega
        · obtain rfl : k = g.length := by omega
          have HAA : Hid (sumI g.length (kX g r q) = kA g r q) := rfl
          have hab := HP.out.all_bd g.length (Nat.le_refl _)
          rw [HAA.out] at hab ⊢
          clear hcw
          have HXB : Hid (∀ i, i < g.length → -17496 ≤ kX g r q i ∧ kX g r q i ≤ 17496) := fun i hi => HP.out.row_bd i _ hi (Nat.le_refl _)
          have HYB : Hid (∀ j, j < (rowAt g 0).length → -17496 ≤ kY g r q j ∧ kY g r q j ≤ 17496) := fun j hj => HP.out.col_bd j _ hj (Nat.le_refl _)
          have HWW : Hid (Below w.heap.size w wr) := belT HW.out HK.out.bel
          have HLX := Lib.hid (kXL_length g r q)
          have HLY := Lib.hid (kYL_length g r q)
          have NX : Hid (NSt W0 wr W0.heap.size (kXL g r q) (kE g r q) 0 (kX g r q)) := ⟨HK.out.bel, by rw [kXL_length]; exact HK.out.xs.congr (fun i hi => by simp [hi])⟩
          have NY : Hid (wr.rowIs (W0.heap.size + 1) 3 (rowAt g 0).length (fun j => .int .i64 (kY g r q j))) := HK.out.ys.congr (fun j _ => by simp [kY])
          have hww := HWW.out.size
          have hbl := HK.out.bel.size
          clear HK
          have h3 : kA g r q = 0 ∨ kA g r q < 0 ∨ 0 < kA g r q := by omega
          rcases h3 with hA | hA | hA
          · have HO : Hid (kOk g r q = false) := by simp [Hid, kOk, hA]
            have HX0 : Hid (okX g r q = []) := by simp [Hid, okX, HO.out]
            have HY0' : Hid (okY g r q = []) := by simp [Hid, okY, HO.out]
            have ea : (kA g r q == 0) = true := by simp [hA]
            clear hA
            go_wp2_with fail
            go_ret3
            rw [HO.out, HX0.out, HY0'.out]
            exact TwoLists.none (by rfl) ((HWW.out.alloc (by omega) _).alloc (by simp; omega) _)
          · have HE : Hid (kE g r q = -1) := by show kE g r q = _; unfold kE; rw [if_pos hA]
            have ea : (kA g r q == 0) = false := beq_eq_false_iff_ne.2 (by omega)
            have eb : decide (kA g r q < 0) = true := by simp; omega
            have HOK : Hid (posB (kXL g r q) g.length = true → posB (kYL g r q) (rowAt g 0).length = true → kOk g r q = true) := fun h1 h2 => by simp only [kOk, ea, h1, h2]; rfl
            have HNO1 : Hid (∀ i, i < g.length → nth (kXL g r q) i < 0 → kOk g r q = false) := fun i hi h => by
              have : posB (kXL g r q) g.length = false := by rw [← Bool.not_eq_true, posB_iff]; intro hh; have := hh i hi; omega
              simp [kOk, this]
            have HNO2 : Hid (∀ i, i < (rowAt g 0).length → nth (kYL g r q) i < 0 → kOk g r q = false) := fun i hi h => by
              have : posB (kYL g r q) (rowAt g 0).length = false := by rw [← Bool.not_eq_true, posB_iff]; intro hh; have := hh i hi; omega
              simp [kOk, this]
            obtain ⟨al, hal⟩ : ∃ al, kA g r q = al := ⟨_, rfl⟩
            rw [hal] at hA ea eb hab ⊢
            clear hal
            go_wp2_with fail
            go_loopw [21] (fun i wr => ∃ k : Nat, k ≤ g.length ∧ i = .int .i64 k ∧ Hid (NSt W0 wr W0.heap.size (kXL g r q) (kE g r q) k (kX g r q)) ∧ Hid (wr.rowIs (W0.heap.size + 1) 3 (rowAt g 0).length (fun j => .int .i64 (kY g r q j))) ∧ Hid (∀ i, i < k → 0 ≤ nth (kXL g r q) i)) (fun i _ => g.length - (intOf i).toNat)
            case atStart => exact ⟨0, Nat.zero_le _, rfl, NX.out, NY.out, fun i hi => absurd hi (Nat.not_lt_zero _)⟩
            case round =>
              clear NX NY
              obtain ⟨k, hk, rfl, NX, NY, HPO⟩ := hrel
              by_cases hlt : k < g.length
              · have cx := NX.out.cell (by rw [HLX.out]; exact hlt)
                have fx := NX.out.row.frozen k
                obtain ⟨x1, x2⟩ := HXB.out k hlt
                have HXK : Hid (nth (kXL g r q) k = -kX g r q k) := by show _ = _; rw [nth_kXL g r q k hlt, HE.out]; omega
                have NX2 := Lib.hid (NX.out.set (Nat.le_refl _) HXK.out)
                have NY2 : Hid ((wr.setCell ⟨W0.heap.size, k, none⟩ (.int .i64 (-kX g r q k))).rowIs (W0.heap.size + 1) 3 (rowAt g 0).length (fun j => .int .i64 (kY g r q j))) := NY.out.setOther (by show W0.heap.size + 1 ≠ W0.heap.size; omega) _
                by_cases hneg : 0 < kX g r q k
                · have HO := Lib.hid (HNO1.out k hlt (by rw [HXK.out]; omega))
                  have HX0 : Hid (okX g r q = []) := by simp [Hid, okX, HO.out]
                  have HY0' : Hid (okY g r q = []) := by simp [Hid, okY, HO.out]
                  have ed : decide (0 < kX g r q k) = true := by simp; omega
                  have HBB : Hid (Below w.heap.size w (wr.setCell ⟨W0.heap.size, k, none⟩ (.int .i64 (-kX g r q k)))) := belT HW.out NX2.out.bel
                  have hbs := HBB.out.size
                  clear hneg
                  go_wp2_with fail
                  go_ret3
                  rw [HO.out, HX0.out, HY0'.out]
                  exact TwoLists.none (by rfl) ((HBB.out.alloc (by first | exact hbs | (simp at hbs ⊢; omega)) _).alloc (by simp at hbs ⊢; omega) _)
                · have ed : decide (0 < kX g r q k) = false := by simp; omega
                  have HPO2 : Hid (∀ i, i < k + 1 → 0 ≤ nth (kXL g r q) i) := fun i hi => by
                    rcases Nat.lt_or_eq_of_le (Nat.le_of_lt_succ hi) with h | rfl
                    · exact HPO.out i h
                    · rw [HXK.out]; omega
                  clear hneg
                  go_wp2_with fail
                  go_roundw
                  case rel => exact ⟨k + 1, by omega, by go_num, NX2.out, NY2.out, HPO2.out⟩
                  case measure => simp [intOf]; omega
              · obtain rfl : k = g.length := by omega
                have HXI : Hid (Ints wr (· < wr.heap.size) (some ⟨W0.heap.size, 0, none⟩) (kXL g r q)) := by
                  have h := NX.out
                  rw [← HLX.out] at h
                  exact h.ints (h.row.lt)
                have HXP := Lib.hid HPO.out
                have NY3 : Hid (NSt W0 wr (W0.heap.size + 1) (kYL g r q) (kE g r q) 0 (kY g r q)) := ⟨NX.out.bel, by rw [kYL_length]; exact NY.out.congr (fun i hi => by simp)⟩
                have HXR : Hid (wr.rowIs W0.heap.size 3 (kXL g r q).length (fun i => .int .i64 (nth (kXL g r q) i))) := NX.out.row.congr (fun i hi => by rw [kXL_length] at hi; simp [hi])
                have HXW : Hid (Below w.heap.size w wr) := belT HW.out NX.out.bel
                have hyl := NY.out.lt
                clear NY HPO
                go_wp2_with fail
                go_loopw [22] (fun i wr => ∃ k : Nat, k ≤ (rowAt g 0).length ∧ i = .int .i64 k ∧ Hid (NSt W0 wr (W0.heap.size + 1) (kYL g r q) (kE g r q) k (kY g r q)) ∧ Hid (wr.rowIs W0.heap.size 3 (kXL g r q).length (fun i => .int .i64 (nth (kXL g r q) i))) ∧ Hid (∀ i, i < k → 0 ≤ nth (kYL g r q) i)) (fun i _ => (rowAt g 0).length - (intOf i).toNat)
                case atStart => exact ⟨0, Nat.zero_le _, rfl, NY3.out, HXR.out, fun i hi => absurd hi (Nat.not_lt_zero _)⟩
                case round =>
                  clear NY3 HXR
                  obtain ⟨k, hk, rfl, NYK, HXR, HPO⟩ := hrel
                  by_cases hlt : k < (rowAt g 0).length
                  · have cx := NYK.out.cell (by rw [HLY.out]; exact hlt)
                    have fx := NYK.out.row.frozen k
                    obtain ⟨x1, x2⟩ := HYB.out k hlt
                    have HXK : Hid (nth (kYL g r q) k = -kY g r q k) := by show _ = _; rw [nth_kYL g r q k hlt, HE.out]; omega
                    have NY2 := Lib.hid (NYK.out.set (by omega) HXK.out)
                    have HXR2 : Hid ((wr.setCell ⟨W0.heap.size + 1, k, none⟩ (.int .i64 (-kY g r q k))).rowIs W0.heap.size 3 (kXL g r q).length (fun i => .int .i64 (nth (kXL g r q) i))) := HXR.out.setOther (by show W0.heap.size ≠ W0.heap.size + 1; omega) _
                    by_cases hneg : 0 < kY g r q k
                    · have HO := Lib.hid (HNO2.out k hlt (by rw [HXK.out]; omega))
                      have HX0 : Hid (okX g r q = []) := by simp [Hid, okX, HO.out]
                      have HY0' : Hid (okY g r q = []) := by simp [Hid, okY, HO.out]
                      have ed : decide (0 < kY g r q k) = true := by simp; omega
                      have HBB : Hid (Below w.heap.size w ((wr.setCell ⟨W0.heap.size + 1, k, none⟩ (.int .i64 (-kY g r q k))))) := belT HW.out NY2.out.bel
                      have hbs := HBB.out.size
                      clear hneg
                      go_wp2_with fail
                      go_ret3
                      rw [HO.out, HX0.out, HY0'.out]
                      exact TwoLists.none (by rfl) ((HBB.out.alloc (by first | exact hbs | (simp at hbs ⊢; omega)) _).alloc (by simp at hbs ⊢; omega) _)
                    · have ed : decide (0 < kY g r q k) = false := by simp; omega
                      have HPO2 : Hid (∀ i, i < k + 1 → 0 ≤ nth (kYL g r q) i) := fun i hi => by
                        rcases Nat.lt_or_eq_of_le (Nat.le_of_lt_succ hi) with h | rfl
                        · exact HPO.out i h
                        · rw [HXK.out]; omega
                      clear hneg
                      go_wp2_with fail
                      go_roundw
                      case rel => exact ⟨k + 1, by omega, by go_num, NY2.out, HXR2.out, HPO2.out⟩
                      case measure => simp [intOf]; omega
                  · obtain rfl : k = (rowAt g 0).length := by omega
                    have HO : Hid (kOk g r q = true) := HOK.out (posB_iff.2 HXP.out) (posB_iff.2 HPO.out)
                    have HX1 : Hid (okX g r q = lowL (kXL g r q)) := by simp [Hid, okX, HO.out]
                    have HY1' : Hid (okY g r q = lowL (kYL g r q)) := by simp [Hid, okY, HO.out]
                    have HBB : Hid (Below w.heap.size w wr) := belT HW.out NYK.out.bel
                    have hXI : Ints wr (· < wr.heap.size) (some ⟨W0.heap.size, 0, none⟩) (kXL g r q) := IntRow.ints HXR.out HXR.out.lt
                    have hXbd : ∀ i, i < (kXL g r q).length → 0 ≤ nth (kXL g r q) i ∧ nth (kXL g r q) i ≤ 1000000 := fun i hi => by
                      rw [kXL_length] at hi
                      have h1 := HXP.out i hi
                      refine ⟨h1, ?_⟩
                      rw [nth_kXL g r q i hi, HE.out]; have := HXB.out i hi; omega
                    have hYbd : ∀ i, i < (kYL g r q).length → 0 ≤ nth (kYL g r q) i ∧ nth (kYL g r q) i ≤ 1000000 := fun i hi => by
                      rw [kYL_length] at hi
                      have h1 := HPO.out i hi
                      refine ⟨h1, ?_⟩
                      rw [nth_kYL g r q i hi, HE.out]; have := HYB.out i hi; omega
                    have hF1 := lowest (some ⟨W0.heap.size, 0, none⟩) g.length (kXL g r q) (by rw [kXL_length]; omega) hXbd wr hXI
                    rw [HLX.out] at hF1
                    have HF1 := Lib.hid hF1
                    have HYR : Hid (IntRow wr (W0.heap.size + 1) (kYL g r q)) := by
                      have := NYK.out.row
                      show wr.rowIs _ _ _ _
                      exact this.congr (fun i hi => by rw [kYL_length] at hi; simp [hi])
                    have HYBD := Lib.hid hYbd
                    clear hF1 hXI hXbd hYbd
                    go_wp2_with fail
                    refine HF1.out.mono ?_
                    rintro e w2 ⟨A1, c1', rfl, hb1, ho1⟩
                    have hYI : Ints w2 (· < w2.heap.size) (some ⟨W0.heap.size + 1, 0, none⟩) (kYL g r q) := by
                      have h1 := HYR.out.lt
                      exact IntRow.ints (World.rowIs.of_block HYR.out (hb1.block _ h1)) (Nat.lt_of_lt_of_le h1 hb1.size)
                    have hF2 := lowest (some ⟨W0.heap.size + 1, 0, none⟩) (rowAt g 0).length (kYL g r q) (by rw [kYL_length]; omega) HYBD.out w2 hYI
                    rw [HLY.out] at hF2
                    have HF2 := Lib.hid hF2
                    have HO1 := Lib.hid ho1
                    have HB1 := Lib.hid hb1
                    clear hF2 hYI ho1 hb1
                    go_wp2_with fail
                    refine HF2.out.mono ?_
                    rintro e w3 ⟨A2, c2', rfl, hb2, ho2⟩
                    go_wp2_with fail
                    go_ret3
                    rw [HO.out, HX1.out, HY1'.out]
                    have hs1 := HBB.out.size
                    have hs2 := HB1.out.size
                    exact ⟨A1, c1', A2, c2', rfl, belT (belT HBB.out HB1.out) hb2, (HO1.out.keep fun b _ hb => hb2.block b hb).more hs1 hb2.size, ho2.more (by omega) (Nat.le_refl _)⟩
          · have HE : Hid (kE g r q = 1) := by show kE g r q = _; unfold kE; rw [if_neg (by omega)]
            have ea : (kA g r q == 0) = false := beq_eq_false_iff_ne.2 (by omega)
            have eb : decide (kA g r q < 0) = false := by simp; omega
            have HOK : Hid (posB (kXL g r q) g.length = true → posB (kYL g r q) (rowAt g 0).length = true → kOk g r q = true) := fun h1 h2 => by simp only [kOk, ea, h1, h2]; rfl
            have HNO1 : Hid (∀ i, i < g.length → nth (kXL g r q) i < 0 → kOk g r q = false) := fun i hi h => by
              have : posB (kXL g r q) g.length = false := by rw [← Bool.not_eq_true, posB_iff]; intro hh; have := hh i hi; omega
              simp [kOk, this]
            have HNO2 : Hid (∀ i, i < (rowAt g 0).length → nth (kYL g r q) i < 0 → kOk g r q = false) := fun i hi h => by
              have : posB (kYL g r q) (rowAt g 0).length = false := by rw [← Bool.not_eq_true, posB_iff]; intro hh; have := hh i hi; omega
              simp [kOk, this]
            obtain ⟨al, hal⟩ : ∃ al, kA g r q = al := ⟨_, rfl⟩
            rw [hal] at hA ea eb hab ⊢
            clear hal
            go_wp2_with fail
            go_loopw [21] (fun i wr => ∃ k : Nat, k ≤ g.length ∧ i = .int .i64 k ∧ Hid (NSt W0 wr W0.heap.size (kXL g r q) (kE g r q) k (kX g r q)) ∧ Hid (wr.rowIs (W0.heap.size + 1) 3 (rowAt g 0).length (fun j => .int .i64 (kY g r q j))) ∧ Hid (∀ i, i < k → 0 ≤ nth (kXL g r q) i)) (fun i _ => g.length - (intOf i).toNat)
            case atStart => exact ⟨0, Nat.zero_le _, rfl, NX.out, NY.out, fun i hi => absurd hi (Nat.not_lt_zero _)⟩
            case round =>
              clear NX NY
              obtain ⟨k, hk, rfl, NX, NY, HPO⟩ := hrel
              by_cases hlt : k < g.length
              · have cx := NX.out.cell (by rw [HLX.out]; exact hlt)
                have fx := NX.out.row.frozen k
                obtain ⟨x1, x2⟩ := HXB.out k hlt
                have HXK : Hid (nth (kXL g r q) k = kX g r q k) := by show _ = _; rw [nth_kXL g r q k hlt, HE.out]; omega
                have NX2 := Lib.hid (NX.out.same HXK.out)
                have NY2 := Lib.hid NY.out
                by_cases hneg : kX g r q k < 0
                · have HO := Lib.hid (HNO1.out k hlt (by rw [HXK.out]; omega))
                  have HX0 : Hid (okX g r q = []) := by simp [Hid, okX, HO.out]
                  have HY0' : Hid (okY g r q = []) := by simp [Hid, okY, HO.out]
                  have ed : decide (kX g r q k < 0) = true := by simp; omega
                  have HBB : Hid (Below w.heap.size w wr) := belT HW.out NX2.out.bel
                  have hbs := HBB.out.size
                  clear hneg
                  go_wp2_with fail
                  go_ret3
                  rw [HO.out, HX0.out, HY0'.out]
                  exact TwoLists.none (by rfl) ((HBB.out.alloc (by first | exact hbs | (simp at hbs ⊢; omega)) _).alloc (by simp at hbs ⊢; omega) _)
                · have ed : decide (kX g r q k < 0) = false := by simp; omega
                  have HPO2 : Hid (∀ i, i < k + 1 → 0 ≤ nth (kXL g r q) i) := fun i hi => by
                    rcases Nat.lt_or_eq_of_le (Nat.le_of_lt_succ hi) with h | rfl
                    · exact HPO.out i h
                    · rw [HXK.out]; omega
                  clear hneg
                  go_wp2_with fail
                  go_roundw
                  case rel => exact ⟨k + 1, by omega, by go_num, NX2.out, NY2.out, HPO2.out⟩
                  case measure => simp [intOf]; omega
              · obtain rfl : k = g.length := by omega
                have HXI : Hid (Ints wr (· < wr.heap.size) (some ⟨W0.heap.size, 0, none⟩) (kXL g r q)) := by
                  have h := NX.out
                  rw [← HLX.out] at h
                  exact h.ints (h.row.lt)
                have HXP := Lib.hid HPO.out
                have NY3 : Hid (NSt W0 wr (W0.heap.size + 1) (kYL g r q) (kE g r q) 0 (kY g r q)) := ⟨NX.out.bel, by rw [kYL_length]; exact NY.out.congr (fun i hi => by simp)⟩
                have HXR : Hid (wr.rowIs W0.heap.size 3 (kXL g r q).length (fun i => .int .i64 (nth (kXL g r q) i))) := NX.out.row.congr (fun i hi => by rw [kXL_length] at hi; simp [hi])
                have HXW : Hid (Below w.heap.size w wr) := belT HW.out NX.out.bel
                have hyl := NY.out.lt
                clear NY HPO
                go_wp2_with fail
                go_loopw [22] (fun i wr => ∃ k : Nat, k ≤ (rowAt g 0).length ∧ i = .int .i64 k ∧ Hid (NSt W0 wr (W0.heap.size + 1) (kYL g r q) (kE g r q) k (kY g r q)) ∧ Hid (wr.rowIs W0.heap.size 3 (kXL g r q).length (fun i => .int .i64 (nth (kXL g r q) i))) ∧ Hid (∀ i, i < k → 0 ≤ nth (kYL g r q) i)) (fun i _ => (rowAt g 0).length - (intOf i).toNat)
                case atStart => exact ⟨0, Nat.zero_le _, rfl, NY3.out, HXR.out, fun i hi => absurd hi (Nat.not_lt_zero _)⟩
                case round =>
                  clear NY3 HXR
                  obtain ⟨k, hk, rfl, NYK, HXR, HPO⟩ := hrel
                  by_cases hlt : k < (rowAt g 0).length
                  · have cx := NYK.out.cell (by rw [HLY.out]; exact hlt)
                    have fx := NYK.out.row.frozen k
                    obtain ⟨x1, x2⟩ := HYB.out k hlt
                    have HXK : Hid (nth (kYL g r q) k = kY g r q k) := by show _ = _; rw [nth_kYL g r q k hlt, HE.out]; omega
                    have NY2 := Lib.hid (NYK.out.same HXK.out)
                    have HXR2 := Lib.hid HXR.out
                    by_cases hneg : kY g r q k < 0
                    · have HO := Lib.hid (HNO2.out k hlt (by rw [HXK.out]; omega))
                      have HX0 : Hid (okX g r q = []) := by simp [Hid, okX, HO.out]
                      have HY0' : Hid (okY g r q = []) := by simp [Hid, okY, HO.out]
                      have ed : decide (kY g r q k < 0) = true := by simp; omega
                      have HBB : Hid (Below w.heap.size w (wr)) := belT HW.out NY2.out.bel
                      have hbs := HBB.out.size
                      clear hneg
                      go_wp2_with fail
                      go_ret3
                      rw [HO.out, HX0.out, HY0'.out]
                      exact TwoLists.none (by rfl) ((HBB.out.alloc (by first | exact hbs | (simp at hbs ⊢; omega)) _).alloc (by simp at hbs ⊢; omega) _)
                    · have ed : decide (kY g r q k < 0) = false := by simp; omega
                      have HPO2 : Hid (∀ i, i < k + 1 → 0 ≤ nth (kYL g r q) i) := fun i hi => by
                        rcases Nat.lt_or_eq_of_le (Nat.le_of_lt_succ hi) with h | rfl
                        · exact HPO.out i h
                        · rw [HXK.out]; omega
                      clear hneg
                      go_wp2_with fail
                      go_roundw
                      case rel => exact ⟨k + 1, by omega, by go_num, NY2.out, HXR2.out, HPO2.out⟩
                      case measure => simp [intOf]; omega
                  · obtain rfl : k = (rowAt g 0).length := by omega
                    have HO : Hid (kOk g r q = true) := HOK.out (posB_iff.2 HXP.out) (posB_iff.2 HPO.out)
                    have HX1 : Hid (okX g r q = lowL (kXL g r q)) := by simp [Hid, okX, HO.out]
                    have HY1' : Hid (okY g r q = lowL (kYL g r q)) := by simp [Hid, okY, HO.out]
                    have HBB : Hid (Below w.heap.size w wr) := belT HW.out NYK.out.bel
                    have hXI : Ints wr (· < wr.heap.size) (some ⟨W0.heap.size, 0, none⟩) (kXL g r q) := IntRow.ints HXR.out HXR.out.lt
                    have hXbd : ∀ i, i < (kXL g r q).length → 0 ≤ nth (kXL g r q) i ∧ nth (kXL g r q) i ≤ 1000000 := fun i hi => by
                      rw [kXL_length] at hi
                      have h1 := HXP.out i hi
                      refine ⟨h1, ?_⟩
                      rw [nth_kXL g r q i hi, HE.out]; have := HXB.out i hi; omega
                    have hYbd : ∀ i, i < (kYL g r q).length → 0 ≤ nth (kYL g r q) i ∧ nth (kYL g r q) i ≤ 1000000 := fun i hi => by
                      rw [kYL_length] at hi
                      have h1 := HPO.out i hi
                      refine ⟨h1, ?_⟩
                      rw [nth_kYL g r q i hi, HE.out]; have := HYB.out i hi; omega
                    have hF1 := lowest (some ⟨W0.heap.size, 0, none⟩) g.length (kXL g r q) (by rw [kXL_length]; omega) hXbd wr hXI
                    rw [HLX.out] at hF1
                    have HF1 := Lib.hid hF1
                    have HYR : Hid (IntRow wr (W0.heap.size + 1) (kYL g r q)) := by
                      have := NYK.out.row
                      show wr.rowIs _ _ _ _
                      exact this.congr (fun i hi => by rw [kYL_length] at hi; simp [hi])
                    have HYBD := Lib.hid hYbd
                    clear hF1 hXI hXbd hYbd
                    go_wp2_with fail
                    refine HF1.out.mono ?_
                    rintro e w2 ⟨A1, c1', rfl, hb1, ho1⟩
                    have hYI : Ints w2 (· < w2.heap.size) (some ⟨W0.heap.size + 1, 0, none⟩) (kYL g r q) := by
                      have h1 := HYR.out.lt
                      exact IntRow.ints (World.rowIs.of_block HYR.out (hb1.block _ h1)) (Nat.lt_of_lt_of_le h1 hb1.size)
                    have hF2 := lowest (some ⟨W0.heap.size + 1, 0, none⟩) (rowAt g 0).length (kYL g r q) (by rw [kYL_length]; omega) HYBD.out w2 hYI
                    rw [HLY.out] at hF2
                    have HF2 := Lib.hid hF2
                    have HO1 := Lib.hid ho1
                    have HB1 := Lib.hid hb1
                    clear hF2 hYI ho1 hb1
                    go_wp2_with fail
                    refine HF2.out.mono ?_
                    rintro e w3 ⟨A2, c2', rfl, hb2, ho2⟩
                    go_wp2_with fail
                    go_ret3
                    rw [HO.out, HX1.out, HY1'.out]
                    have hs1 := HBB.out.size
                    have hs2 := HB1.out.size
                    exact ⟨A1, c1', A2, c2', rfl, belT (belT HBB.out HB1.out) hb2, (HO1.out.keep fun b _ hb => hb2.block b hb).more hs1 hb2.size, ho2.more (by omega) (Nat.le_refl _)⟩

theorem ker_none {g : List (List Int)} {rows cols : Int} (h : kerB g rows cols = false) : kerX g rows cols = [] ∧ kerY g rows cols = [] := by simp [kerX, kerY, h]

theorem ker_spec (T : Option Addr) (c : Nat) (g : List (List Int)) (rows cols : Int) (hl : g.length ≤ maxLen) (w : World) (h : Rows2 w (· < w.heap.size) T g) :
    Calls Try.prog 13 #[.slice T g.length c, .int .i64 rows, .int .i64 cols] w (TwoLists w (kerX g rows cols) (kerY g rows cols) (kerB g rows cols)) := by
  have no : kerB g rows cols = false → Calls Try.prog 13 #[.slice T g.length c, .int .i64 rows, .int .i64 cols] w (TwoLists w [] [] false) → Calls Try.prog 13 #[.slice T g.length c, .int .i64 rows, .int .i64 cols] w (TwoLists w (kerX g rows cols) (kerY g rows cols) (kerB g rows cols)) := fun hb hc => by
    rw [hb, (ker_none hb).1, (ker_none hb).2]; exact hc
  rcases h1 : gameB g with _ | _
  · exact no (by simp [kerB, h1]) (ker_no1 T c g rows cols hl w h h1)
  by_cases h4 : g.length ≤ 4
  case neg => exact no (by simp [kerB, h4]) (ker_no2 T c g rows cols hl w h h1 h4)
  by_cases hn4 : (rowAt g 0).length ≤ 4
  case neg => exact no (by simp [kerB, hn4]) (ker_no3 T c g rows cols hl w h h1 h4 hn4)
  rcases hr : inR rows 1 (pw g.length) with _ | _
  · exact no (by simp [kerB, hr]) (ker_no4 T c g rows cols hl w h h1 h4 hn4 hr)
  rcases hq : inR cols 1 (pw (rowAt g 0).length) with _ | _
  · exact no (by simp [kerB, hq]) (ker_no5 T c g rows cols hl w h h1 h4 hn4 hr hq)
  have hr' := hr
  have hq' := hq
  unfold inR at hr' hq'
  rw [decide_eq_true_eq] at hr' hq'
  have e1 := pw_le h4
  have e2 := pw_le hn4
  obtain ⟨r, rfl⟩ := Int.eq_ofNat_of_zero_le (a := rows) (by omega)
  obtain ⟨q, rfl⟩ := Int.eq_ofNat_of_zero_le (a := cols) (by omega)
  by_cases hpp : popN r = popN q
  · have hk : kerB g (r : Int) (q : Int) = kOk g r q := by simp [kerB, h1, h4, hn4, hr, hq, hpp]
    have hx : kerX g (r : Int) (q : Int) = okX g r q := by simp [kerX, okX, hk]
    have hy : kerY g (r : Int) (q : Int) = okY g r q := by simp [kerY, okY, hk]
    rw [hk, hx, hy]
    exact ker_good T c g r q hl w h h1 h4 hn4 (by omega) (by omega) hr hq hpp
  · exact no (by simp [kerB, hpp]) (ker_no6 T c g r q hl w h h1 h4 hn4 (by omega) (by omega) hr hq hpp)

end Go.Proofs.Ytgjbahlebhnoiaa
