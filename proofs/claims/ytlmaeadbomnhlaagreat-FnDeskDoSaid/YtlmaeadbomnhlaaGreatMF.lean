/- Texts in one: Sol, SolS, Shift, Ex, Kimp, Val, Kval. -/
import Derived.Test.YtlmaeadbomnhlaaGreatME
import Derived.Test.YtlmaeadbomnhlaaGreatMA
import Derived.Test.YtlmaeadbomnhlaaGreatMD
import Derived.Test.YtlmaeadbomnhlaaGreatMC
import Derived.Test.YtlmaeadbomnhlaaGreatMB
namespace Go.Proofs.YtlmaeadbomnhlaaGreat
set_option linter.unusedSimpArgs false
set_option linter.unusedVariables false
open Go.RowKit
def hit (g : List (List Int)) (s r q : Nat) : Bool := (popN r == s) && kerB g (r : Int) (q : Int) && setB g (kerX g (r : Int) (q : Int)) (kerY g (r : Int) (q : Int))
def hitN (g : List (List Int)) (n : Nat) : Bool := hit g (n / 256) (n / 16 % 16) (n % 16)
theorem kerB_parts {g : List (List Int)} {r q : Nat} (h : kerB g (r : Int) (q : Int) = true) : gameB g = true ∧ g.length ≤ 4 ∧ (rowAt g 0).length ≤ 4 ∧ inR (r : Int) 1 (pw g.length) = true ∧ inR (q : Int) 1 (pw (rowAt g 0).length) = true ∧ popN r = popN q ∧ kOk g r q = true := by
  simp only [kerB, Bool.and_eq_true, decide_eq_true_eq, Int.toNat_natCast, beq_iff_eq] at h
  obtain ⟨⟨⟨⟨⟨⟨h1, h2⟩, h3⟩, h4⟩, h5⟩, h6⟩, h7⟩ := h
  exact ⟨h1, h2, h3, h4, h5, h6, h7⟩
theorem pow_le16 {k : Nat} (h : k ≤ 4) : 2 ^ k ≤ 16 := by
  have : k = 0 ∨ k = 1 ∨ k = 2 ∨ k = 3 ∨ k = 4 := by omega
  rcases this with rfl | rfl | rfl | rfl | rfl <;> decide
theorem popN_bd {r m : Nat} (h : r < 2 ^ m) : popN r ≤ m := by rw [← cnt_pop m r h]; exact cnt_le _ _
theorem popN_pos {r : Nat} (h : 0 < r) : 0 < popN r := by
  induction r using Nat.strongRecOn with
  | _ r ih =>
    rw [popN_step h]
    by_cases h2 : r % 2 = 1
    · omega
    · have := ih (r / 2) (by omega) (by omega); omega
theorem hit_parts {g : List (List Int)} {s r q : Nat} (h : hit g s r q = true) : popN r = s ∧ 1 ≤ s ∧ s ≤ 4 ∧ 1 ≤ r ∧ r < 2 ^ g.length ∧ 1 ≤ q ∧ q < 2 ^ (rowAt g 0).length ∧ kerB g (r : Int) (q : Int) = true ∧ setB g (kerX g (r : Int) (q : Int)) (kerY g (r : Int) (q : Int)) = true := by
  simp only [hit, Bool.and_eq_true, beq_iff_eq] at h
  obtain ⟨⟨h1, h2⟩, h3⟩ := h
  obtain ⟨k1, k2, k3, k4, k5, _, _⟩ := kerB_parts h2
  have a := pw_lt k4
  have b := pw_lt k5
  have c := popN_bd a.2
  have d := popN_pos a.1
  exact ⟨h1, by omega, by omega, a.1, a.2, b.1, b.2, h2, h3⟩
theorem hitN_at {g : List (List Int)} {s r q : Nat} (hr : r < 16) (hq : q < 16) : hitN g (256 * s + 16 * r + q) = hit g s r q := by
  unfold hitN
  have e1 : (256 * s + 16 * r + q) / 256 = s := by omega
  have e2 : (256 * s + 16 * r + q) / 16 % 16 = r := by omega
  have e3 : (256 * s + 16 * r + q) % 16 = q := by omega
  rw [e1, e2, e3]
def noHit (g : List (List Int)) (n : Nat) : Prop := ∀ k, k < n → hitN g k = false
theorem noHit.zero (g : List (List Int)) : noHit g (256 * 1) := fun k hk => by
  rw [← Bool.not_eq_true]; intro h
  have := hit_parts (show hit g (k / 256) _ _ = true from h); omega
theorem noHit.cols {g : List (List Int)} {s r q : Nat} (hr : r < 16) (hm : (rowAt g 0).length ≤ 4) (h : noHit g (256 * s + 16 * r + q)) (hq : 2 ^ (rowAt g 0).length ≤ q ∨ popN r ≠ s) : noHit g (256 * s + 16 * (r + 1)) := fun k hk => by
  by_cases hk2 : k < 256 * s + 16 * r + q
  · exact h k hk2
  · rw [← Bool.not_eq_true]; intro hh
    have := hit_parts (show hit g (k / 256) (k / 16 % 16) (k % 16) = true from hh)
    have e1 : k / 256 = s := by omega
    have e2 : k / 16 % 16 = r := by omega
    rw [e1, e2] at this
    rcases hq with hq | hq
    · have : k % 16 ≥ q := by omega
      omega
    · exact hq this.1
theorem noHit.rows {g : List (List Int)} {s r : Nat} (hm : g.length ≤ 4) (h : noHit g (256 * s + 16 * r)) (hr : 2 ^ g.length ≤ r) (hr16 : r ≤ 16) : noHit g (256 * (s + 1)) := fun k hk => by
  by_cases hk2 : k < 256 * s + 16 * r
  · exact h k hk2
  · rw [← Bool.not_eq_true]; intro hh
    have := hit_parts (show hit g (k / 256) (k / 16 % 16) (k % 16) = true from hh)
    have e1 : k / 256 = s := by omega
    omega
theorem noHit.next {g : List (List Int)} {n : Nat} (h : noHit g n) (hn : hitN g n = false) : noHit g (n + 1) := fun k hk => by
  rcases Nat.lt_or_eq_of_le (Nat.le_of_lt_succ hk) with h1 | rfl
  · exact h k h1
  · exact hn
theorem noHit.all {g : List (List Int)} (h : noHit g (256 * 5)) (n : Nat) : hitN g n = false := by
  by_cases hn : n < 256 * 5
  · exact h n hn
  · rw [← Bool.not_eq_true]; intro hh
    have := hit_parts (show hit g (n / 256) (n / 16 % 16) (n % 16) = true from hh)
    omega
def SolIs (g : List (List Int)) (b : Bool) (u d : Int) (x y : List Int) : Prop :=
  (b = true ∧ ∃ s r q, r < 16 ∧ q < 16 ∧ hit g s r q = true ∧ noHit g (256 * s + 16 * r + q) ∧ x = kerX g (r : Int) (q : Int) ∧ y = kerY g (r : Int) (q : Int) ∧ u = safU g x ∧ d = safD g x) ∨
  (b = false ∧ (∀ n, hitN g n = false) ∧ u = 0 ∧ d = 0 ∧ x = [] ∧ y = [])
theorem SolIs.one {g : List (List Int)} {b b' : Bool} {u u' d d' : Int} {x x' y y' : List Int} (h : SolIs g b u d x y) (h' : SolIs g b' u' d' x' y') : b = b' ∧ u = u' ∧ d = d' ∧ x = x' ∧ y = y' := by
  rcases h with ⟨rfl, s, r, q, hr, hq, h1, h2, rfl, rfl, rfl, rfl⟩ | ⟨rfl, h1, rfl, rfl, rfl, rfl⟩ <;>
    rcases h' with ⟨rfl, s', r', q', hr', hq', h1', h2', rfl, rfl, rfl, rfl⟩ | ⟨rfl, h1', rfl, rfl, rfl, rfl⟩
  · have e1 := hitN_at (g := g) (s := s) hr hq
    have e2 := hitN_at (g := g) (s := s') hr' hq'
    have n1 : ¬ 256 * s + 16 * r + q < 256 * s' + 16 * r' + q' := fun hlt => by have := h2' _ hlt; rw [e1, h1] at this; cases this
    have n2 : ¬ 256 * s' + 16 * r' + q' < 256 * s + 16 * r + q := fun hlt => by have := h2 _ hlt; rw [e2, h1'] at this; cases this
    have er : r = r' := by omega
    have eq : q = q' := by omega
    subst er eq
    exact ⟨rfl, rfl, rfl, rfl, rfl⟩
  · have := h1' (256 * s + 16 * r + q); rw [hitN_at hr hq, h1] at this; cases this
  · have := h1 (256 * s' + 16 * r' + q'); rw [hitN_at hr' hq', h1'] at this; cases this
  · exact ⟨rfl, rfl, rfl, rfl, rfl⟩
theorem least {P : Nat → Prop} (h : ∃ n, P n) : ∃ n, P n ∧ ∀ k, k < n → ¬ P k := by
  obtain ⟨n, hn⟩ := h
  induction n using Nat.strongRecOn with
  | _ n ih =>
    by_cases hk : ∃ k, k < n ∧ P k
    · obtain ⟨k, h1, h2⟩ := hk; exact ih k h1 h2
    · exact ⟨n, hn, fun k hk' hp => hk ⟨k, hk', hp⟩⟩
theorem sol_ex (g : List (List Int)) : ∃ t : Bool × Int × Int × List Int × List Int, SolIs g t.1 t.2.1 t.2.2.1 t.2.2.2.1 t.2.2.2.2 := by
  by_cases h : ∃ n, hitN g n = true
  · obtain ⟨n, h1, h2⟩ := least h
    have hp := hit_parts (show hit g (n / 256) (n / 16 % 16) (n % 16) = true from h1)
    refine ⟨(true, safU g (kerX g ((n / 16 % 16 : Nat) : Int) ((n % 16 : Nat) : Int)), safD g (kerX g ((n / 16 % 16 : Nat) : Int) ((n % 16 : Nat) : Int)), kerX g ((n / 16 % 16 : Nat) : Int) ((n % 16 : Nat) : Int), kerY g ((n / 16 % 16 : Nat) : Int) ((n % 16 : Nat) : Int)), Or.inl ⟨rfl, n / 256, n / 16 % 16, n % 16, by omega, by omega, h1, fun k hk => ?_, rfl, rfl, rfl, rfl⟩⟩
    have := h2 k (by omega)
    simpa using this
  · exact ⟨(false, 0, 0, [], []), Or.inr ⟨rfl, fun n => by rw [← Bool.not_eq_true]; intro hh; exact h ⟨n, hh⟩, rfl, rfl, rfl, rfl⟩⟩
noncomputable def solT (g : List (List Int)) : Bool × Int × Int × List Int × List Int := Classical.choose (sol_ex g)
noncomputable def solB (g : List (List Int)) : Bool := (solT g).1
noncomputable def solU (g : List (List Int)) : Int := (solT g).2.1
noncomputable def solD (g : List (List Int)) : Int := (solT g).2.2.1
noncomputable def solX (g : List (List Int)) : List Int := (solT g).2.2.2.1
noncomputable def solY (g : List (List Int)) : List Int := (solT g).2.2.2.2
theorem sol_is (g : List (List Int)) : SolIs g (solB g) (solU g) (solD g) (solX g) (solY g) := Classical.choose_spec (sol_ex g)
theorem sol_eq {g : List (List Int)} {b : Bool} {u d : Int} {x y : List Int} (h : SolIs g b u d x y) : solB g = b ∧ solU g = u ∧ solD g = d ∧ solX g = x ∧ solY g = y := (sol_is g).one h
end Go.Proofs.YtlmaeadbomnhlaaGreat

namespace Go.Proofs.YtlmaeadbomnhlaaGreat
set_option linter.unusedSimpArgs false
set_option linter.unusedVariables false
open Go.RowKit
theorem kerX_len (g : List (List Int)) (rows cols : Int) : (kerX g rows cols).length ≤ 16 := by
  unfold kerX; split
  · rename_i h
    rw [lowL_length, kXL_length]
    simp only [kerB, Bool.and_eq_true, decide_eq_true_eq] at h
    omega
  · simp
theorem kerY_len (g : List (List Int)) (rows cols : Int) : (kerY g rows cols).length ≤ 16 := by
  unfold kerY; split
  · rename_i h
    rw [lowL_length, kYL_length]
    simp only [kerB, Bool.and_eq_true, decide_eq_true_eq] at h
    omega
  · simp
end Go.Proofs.YtlmaeadbomnhlaaGreat

namespace Go.Proofs.YtlmaeadbomnhlaaGreat
set_option linter.unusedSimpArgs false
set_option linter.unusedVariables false
open Go.RowKit
def shiL (g : List (List Int)) (by_ : Int) : List (List Int) := selTab (fun _ => true) (fun i => selRow (fun _ => true) (fun j => nth (rowAt g i) j + by_) (rowAt g 0).length) g.length
def shiB (g : List (List Int)) (by_ : Int) : Bool := gameB g && inR by_ (-9) 9 && gameB (shiL g by_)
def shi (g : List (List Int)) (by_ : Int) : List (List Int) := if shiB g by_ = true then shiL g by_ else []
theorem cnt_all (k : Nat) : cnt (fun _ => true) k = k := by
  induction k with
  | zero => rfl
  | succ k ih => simp [cnt, ih]
theorem sel_all (k : Nat) : sel (fun _ => true) k = List.range k := by simp [sel]
theorem shiL_length (g : List (List Int)) (b : Int) : (shiL g b).length = g.length := by unfold shiL; rw [selTab_length, cnt_all]
theorem shiL_row (g : List (List Int)) (b : Int) (i : Nat) (h : i < g.length) : rowAt (shiL g b) i = selRow (fun _ => true) (fun j => nth (rowAt g i) j + b) (rowAt g 0).length := by
  unfold shiL; rw [selTab_map, rowAt_map _ _ _ (by rw [sel_length, cnt_all]; exact h), sel_all]; simp [List.getD, h]
theorem shiL_row_length (g : List (List Int)) (b : Int) (i : Nat) (h : i < g.length) : (rowAt (shiL g b) i).length = (rowAt g 0).length := by rw [shiL_row g b i h, selRow_length, cnt_all]
theorem nth_shiL (g : List (List Int)) (b : Int) (i j : Nat) (h : i < g.length) (hj : j < (rowAt g 0).length) : nth (rowAt (shiL g b) i) j = nth (rowAt g i) j + b := by
  rw [shiL_row g b i h, selRow_map, nth_mapN _ _ _ (by rw [sel_length, cnt_all]; exact hj), sel_all]; simp [List.getD, hj]
def TabRes (w : World) (g : List (List Int)) (b : Bool) (e : Ending) (w' : World) : Prop :=
  ∃ (T : Option Addr) (c : Nat), e = .returned (.tuple #[.slice T g.length c, .bool b]) ∧ Below w.heap.size w w' ∧ OwnR w' w.heap.size w'.heap.size T g
theorem TabRes.none {w w' : World} {x : Value} {A : Option Addr} (hx : x = .tuple #[.slice A 0 0, .bool false]) (hb : Below w.heap.size w w') : TabRes w [] false (.returned x) w' :=
  ⟨A, 0, by rw [hx]; rfl, hb, fun h => absurd h (by simp)⟩
def funT (g : List (List Int)) (F : Nat → Nat → Int) : List (List Int) := selTab (fun _ => true) (fun i => selRow (fun _ => true) (F i) (rowAt g 0).length) g.length
set_option maxHeartbeats 2000000 in
set_option maxRecDepth 100000 in
theorem shift_walk (T : Option Addr) (c : Nat) (g : List (List Int)) (b : Int) (F : Nat → Nat → Int) (hb : gameB g = true) (hF : ∀ i j, wrap64 (nth (rowAt g i) j + b) = F i j) (p : Bool) (hp : (inR b (-9) 9 && gameB (funT g F)) = p) (hl : g.length ≤ maxLen) (w : World) (h : Rows2 w (· < w.heap.size) T g) :
    Calls Tryz.prog 39 #[.slice T g.length c, .int .i64 b] w (TabRes w (bif p then funT g F else []) p) := by
  have hg := Game.of hb
  have hg1 := hg.lo
  have hg2 := hg.hi
  have hn1 := hg.mlo
  have hn2 := hg.mhi
  have H1 : Hid (funT g F = selTab (fun _ => true) (fun i => selRow (fun _ => true) (F i) (rowAt g 0).length) g.length) := rfl
  have HFL : Hid ((funT g F).length = g.length) := by show (funT g F).length = g.length; unfold funT; rw [selTab_length, cnt_all]
  have HLEN : Hid (∀ i, i < g.length → (rowAt g i).length = (rowAt g 0).length) := hg.len
  have hb0 : Below w.heap.size w (w.alloc (.cells #[] 52)) := (Below.refl _ _).alloc (Nat.le_refl _) _
  have G0 := Lib.hid (GrowsR.lit w (base := w.heap.size) (Nat.le_refl _) (fun _ => none) (fun _ => 0))
  obtain ⟨bt, ot, rfl⟩ := h.some (by omega)
  obtain ⟨hS, A0, c0, hc0, hl0, hm0, _⟩ := h.row (i := 0) (by omega)
  rw [Nat.add_zero] at hc0
  unfold maxLen at hm0
  have hp1 : 0 < g.length := by omega
  have hp2 : (0 : Int) < (g.length : Int) := by omega
  have HG := Lib.hid hb
  have HR := Lib.hid h
  have HC0 := Lib.hid hc0
  have HP := Lib.hid hp
  obtain ⟨i0, hi0, hz0, hz1, hz2⟩ := info_parts infoI
  obtain ⟨i1, hi1, hy0, hy1, hy2⟩ := info_parts infoR
  have HI0 := Lib.hid hi0
  have HZ0 := Lib.hid hz0
  have HZ1 := Lib.hid hz1
  have HZ2 := Lib.hid hz2
  have HI1 := Lib.hid hi1
  have HY0 := Lib.hid hy0
  have HY1 := Lib.hid hy1
  have HY2 := Lib.hid hy2
  have HB0 := Lib.hid hb0
  clear h hb hg hp hc0 hi0 hz0 hz1 hz2 hi1 hy0 hy1 hy2 hb0
  go_enter Tryz.func39, Tryz.ntmps39
  go_wp2_with fail
  go_loopw [6, 7] (fun v i wr => ∃ k : Nat, k ≤ g.length ∧ i = .int .i64 k ∧ Hid (∃ (A : Nat → Option Addr) (C : Nat → Nat), GrowsR wr w.heap.size wr.heap.size v A C (selTab (fun _ => true) (fun i => selRow (fun _ => true) (F i) (rowAt g 0).length) k)) ∧ Hid (Below w.heap.size w wr)) (fun _ i _ => g.length - (intOf i).toNat)
  case atStart => exact ⟨0, Nat.zero_le _, rfl, ⟨_, _, G0.out.up (by simp) (Nat.le_refl _)⟩, HB0.out⟩
  case round =>
    obtain ⟨k, hk, rfl, HT, HW⟩ := hrel
    by_cases hlt : k < g.length
    · have hyes : Hid (selTab (fun _ => true) (fun i => selRow (fun _ => true) (F i) (rowAt g 0).length) (k + 1) = selTab (fun _ => true) (fun i => selRow (fun _ => true) (F i) (rowAt g 0).length) k ++ [selRow (fun _ => true) (F k) (rowAt g 0).length]) := selTab_yes rfl
      have hlenT := cnt_le (fun _ => true) k
      rw [← selTab_length (fun _ => true) (fun i => selRow (fun _ => true) (F i) (rowAt g 0).length)] at hlenT
      go_wp2_with fail
      refine (game_spec _ _ _ _ hl _ (keepRows HW.out HR.out)).mono ?_
      rintro e w1 ⟨rfl, n, rfl⟩
      rw [HG.out]
      have hnw : (wr.drewN n).heap.size = wr.heap.size := rfl
      obtain ⟨AA, CC, hgr⟩ := HT.out
      have HGR : Hid (GrowsR (wr.drewN n) w.heap.size (wr.drewN n).heap.size _ AA CC _) := hgr.drewN n
      have HW1 : Hid (Below w.heap.size w (wr.drewN n)) := below_drewN HW.out n
      have hws := HW.out.size
      clear hgr HT HW
      obtain ⟨wo, hwo⟩ : ∃ wo : World, wo = wr.drewN n := ⟨_, rfl⟩
      rw [← hwo] at HGR HW1 hnw ⊢
      have hws1 : w.heap.size ≤ wo.heap.size := by omega
      clear hwo hws hnw
      have hcw : wo.cell? ⟨bt, ot, none⟩ = some (.slice A0 (rowAt g 0).length c0) := (HW1.out.cell (p := ⟨bt, ot, none⟩) hS).trans HC0.out
      go_wp2_with fail
      clear hcw
      go_loopw [8, 9] (fun v i wr => ∃ m : Nat, m ≤ (rowAt g 0).length ∧ i = .int .i64 m ∧ Hid (Grows wr wo.heap.size v (selRow (fun _ => true) (F k) m)) ∧ Hid (Below wo.heap.size wo wr)) (fun _ i _ => (rowAt g 0).length - (intOf i).toNat)
      case atStart => exact ⟨0, Nat.zero_le _, rfl, Grows.lit wo (Nat.le_refl _), (Below.refl _ _).alloc (Nat.le_refl _) _⟩
      case round =>
        obtain ⟨m, hm, rfl, HO, HV⟩ := hrel
        have hvs := HV.out.size
        have hlenR := cnt_le (fun _ => true) m
        rw [← selRow_length (fun _ => true) (F k)] at hlenR
        have HWV := Lib.hid (belT HW1.out HV.out)
        have hcw : wr.cell? ⟨bt, ot, none⟩ = some (.slice A0 (rowAt g 0).length c0) := (HWV.out.cell (p := ⟨bt, ot, none⟩) hS).trans HC0.out
        by_cases hlm : m < (rowAt g 0).length
        · have hy : Hid (selRow (fun _ => true) (F k) (m + 1) = selRow (fun _ => true) (F k) m ++ [F k m]) := selRow_yes rfl
          have R2 := Lib.hid (keepRows HWV.out HR.out)
          have hlm' : m < (rowAt g k).length := by rw [HLEN.out k hlt]; exact hlm
          obtain ⟨bm, om, cm, hd1, hd2, hd3, hd4, hd5⟩ := R2.out.cell hlt hlm'
          unfold maxLen at hd3
          go_wp2_with (at_builtin; refine wpList_append_own_at _ rfl (.tmp 30) (.tmp 40) _ rfl wo.heap.size 3 i0 (.int .i64 0) 1 8 Tryz.underlying52 HI0.out HZ0.out HZ1.out HZ2.out rfl (by decide) _ _ _ rfl (HO.out.alloc _) ⟨wr.heap.size, 0, none⟩ 1 1 [.int .i64 (F k m)] rfl rfl (cell_one_new _ _ _) ?c2 ?c3 ?c4 ?c5 ?_)
          case c2 => first | rfl | (intro u hu; simp at hu; subst hu; rfl)
          case c3 => unfold maxLen; omega
          case c4 => omega
          case c5 => first | omega | (simp; omega)
          intro v' w4 hown hgrow _ _
          have HN : Hid (Grows w4 wo.heap.size v' (selRow (fun _ => true) (F k) (m + 1))) := by rw [hy.out]; exact Grows.snoc hown
          have HV2 : Hid (Below wo.heap.size wo w4) := HO.out.below hgrow HV.out (Nat.le_refl _) hvs
          clear hown hgrow
          go_wp2_with fail
          go_roundw
          case rel => exact ⟨m + 1, by omega, by go_num, HN, HV2⟩
          case measure => simp [intOf]; omega
        · obtain rfl : m = (rowAt g 0).length := by omega
          obtain ⟨An, cn, hv, hcn1, hcn2, hon⟩ := HO.out.own'
          have HGV := Lib.hid (HGR.out.keep HV.out)
          have HON := Lib.hid hon
          subst hv
          clear hon
          go_wp2_with (at_builtin; refine wpList_append_own_at _ rfl (.tmp 42) (.tmp 44) _ rfl w.heap.size 52 i1 (.slice none 0 0) 1 24 Tryz.underlying23 HI1.out HY0.out HY1.out HY2.out rfl (by decide) _ _ _ rfl (HGV.out.alloc _) ⟨wr.heap.size, 0, none⟩ 1 1 [.slice An (selRow (fun _ => true) (F k) (rowAt g 0).length).length cn] rfl rfl (cell_one_new _ _ _) ?c2 ?c3 ?c4 ?c5 ?_)
          case c2 => first | rfl | (intro u hu; simp at hu; subst hu; rfl)
          case c3 => unfold maxLen; omega
          case c4 => omega
          case c5 => first | omega | (simp; omega)
          intro v' w4 hown hgrow _ hat
          have HN : Hid (∃ (A : Nat → Option Addr) (C : Nat → Nat), GrowsR w4 w.heap.size w4.heap.size v' A C (selTab (fun _ => true) (fun i => selRow (fun _ => true) (F i) (rowAt g 0).length) (k + 1))) := by
            rw [hyes.out]
            exact HGV.out.snoc HON.out hcn1 hcn2 hws1 hown hgrow (by rcases hat with e | e; exact .inl e; exact .inr (by rw [e]; try simp))
          have HW2 : Hid (Below w.heap.size w w4) := HGV.out.below hgrow (belT HW1.out HV.out) (Nat.le_refl _) (by omega)
          clear hown hgrow hat
          go_wp2_with fail
          go_roundw
          case rel => exact ⟨k + 1, by omega, by go_num, HN, HW2⟩
          case measure => simp [intOf]; omega
    · obtain rfl : k = g.length := by omega
      obtain ⟨AA, CC, hgr⟩ := HT.out
      rw [← H1.out] at hgr
      obtain ⟨T1, c1, hv1, hcl1, hcl2, hot⟩ := hgr.table
      subst hv1
      have HOT := Lib.hid hot
      have hws := HW.out.size
      have hfl : (funT g F).length ≤ maxLen := by rw [HFL.out]; exact hl
      have HTR : Hid (Rows2 wr (· < wr.heap.size) T1 (funT g F)) := hot.rows2.mono fun b hb => hb.2
      clear hgr hot HT
      go_wp2_with fail
      refine (in_spec _ _ _ _).mono ?_
      rintro e w1 ⟨rfl, rfl⟩
      rcases hbi : inR b (-9) 9 with _ | _
      · have hpf : p = false := by have := HP.out; rw [hbi] at this; simpa using this.symm
        subst hpf
        clear hbi
        go_wp2_with fail
        go_ret2
        exact TabRes.none rfl (HW.out.alloc hws _)
      · have hpe : gameB (funT g F) = p := by have := HP.out; rw [hbi] at this; simpa using this
        have HPE := Lib.hid hpe
        clear hbi hpe
        go_wp2_with fail
        refine (game_spec _ _ (funT g F) _ hfl _ HTR.out).mono ?_
        rintro e w1 ⟨rfl, n, rfl⟩
        rw [HPE.out]
        cases p with
        | false =>
          go_wp2_with fail
          go_ret2
          exact TabRes.none rfl ((below_drewN HW.out n).alloc hws _)
        | true =>
          go_wp2_with fail
          go_ret2
          show TabRes w (funT g F) true _ _
          exact ⟨T1, c1, rfl, below_drewN HW.out n, ((HOT.out.keep (w' := wr.drewN n) fun _ _ _ => rfl)).more (Nat.le_refl _) (Nat.le_refl _)⟩
set_option maxHeartbeats 1000000 in
theorem shift_no (T : Option Addr) (c : Nat) (g : List (List Int)) (b : Int) (hb : gameB g = false) (hl : g.length ≤ maxLen) (w : World) (h : Rows2 w (· < w.heap.size) T g) :
    Calls Tryz.prog 39 #[.slice T g.length c, .int .i64 b] w (TabRes w [] false) := by
  have HG := Lib.hid hb
  have HR := Lib.hid h
  have hb0 : Below w.heap.size w (w.alloc (.cells #[] 52)) := (Below.refl _ _).alloc (Nat.le_refl _) _
  have HB0 := Lib.hid hb0
  have H0 : Hid (gameB [] = false) := rfl
  have hl' := hl
  unfold maxLen at hl'
  clear hb h hb0
  go_enter Tryz.func39, Tryz.ntmps39
  go_wp2_with fail
  go_loopw [6, 7] (fun v i wr => i = .int .i64 (0 : Nat) ∧ v = .slice (some ⟨w.heap.size, 0, none⟩) 0 0 ∧ Hid (∃ n, wr = (w.alloc (.cells #[] 52)).drewN n)) (fun _ _ _ => 0)
  case atStart => exact ⟨rfl, rfl, 0, rfl⟩
  case round =>
    obtain ⟨rfl, rfl, HW⟩ := hrel
    obtain ⟨n, rfl⟩ := HW.out
    have HBW : Hid (Below w.heap.size w ((w.alloc (.cells #[] 52)).drewN n)) := below_drewN HB0.out n
    by_cases h0 : 0 < g.length
    · go_wp2_with fail
      refine (game_spec _ _ _ _ hl _ (keepRows HBW.out HR.out)).mono ?_
      rintro e w1 ⟨rfl, n2, rfl⟩
      rw [HG.out]
      have HBW2 := Lib.hid (below_drewN HB0.out (n + n2))
      go_wp2_with fail
      refine (in_spec _ _ _ _).mono ?_
      rintro e w1 ⟨rfl, rfl⟩
      rcases hbi : inR b (-9) 9 with _ | _
      · clear hbi
        go_wp2_with fail
        go_ret2
        exact TabRes.none rfl (HBW2.out.alloc HBW2.out.size _)
      · clear hbi
        go_wp2_with fail
        refine (game_spec _ _ [] (fun _ => True) (Nat.zero_le _) _ (fun h => absurd h (by simp))).mono ?_
        rintro e w1 ⟨rfl, n3, rfl⟩
        rw [H0.out]
        have HBW3 := Lib.hid (below_drewN HB0.out (n + n2 + n3))
        go_wp2_with fail
        go_ret2
        exact TabRes.none rfl (HBW3.out.alloc HBW3.out.size _)
    · go_wp2_with fail
      refine (in_spec _ _ _ _).mono ?_
      rintro e w1 ⟨rfl, rfl⟩
      rcases hbi : inR b (-9) 9 with _ | _
      · clear hbi
        go_wp2_with fail
        go_ret2
        exact TabRes.none rfl (HBW.out.alloc HBW.out.size _)
      · clear hbi
        go_wp2_with fail
        refine (game_spec _ _ [] (fun _ => True) (Nat.zero_le _) _ (fun h => absurd h (by simp))).mono ?_
        rintro e w1 ⟨rfl, n3, rfl⟩
        rw [H0.out]
        have HBW3 := Lib.hid (below_drewN HB0.out (n + n3))
        go_wp2_with fail
        go_ret2
        exact TabRes.none rfl (HBW3.out.alloc HBW3.out.size _)
theorem selTab_congr {P : Nat → Bool} {F G : Nat → List Int} {k : Nat} (h : ∀ i, i < k → F i = G i) : selTab P F k = selTab P G k := by
  rw [selTab_map, selTab_map]; exact List.map_congr_left (fun i hi => h i (sel_mem.1 hi).1)
theorem selRow_congr {Q : Nat → Bool} {F G : Nat → Int} {k : Nat} (h : ∀ j, j < k → F j = G j) : selRow Q F k = selRow Q G k := by
  rw [selRow_map, selRow_map]; exact List.map_congr_left (fun j hj => h j (sel_mem.1 hj).1)
theorem shi_spec (T : Option Addr) (c : Nat) (g : List (List Int)) (b : Int) (hl : g.length ≤ maxLen) (w : World) (h : Rows2 w (· < w.heap.size) T g) :
    Calls Tryz.prog 39 #[.slice T g.length c, .int .i64 b] w (TabRes w (shi g b) (shiB g b)) := by
  rcases hb : gameB g with _ | _
  · have e : shiB g b = false := by simp [shiB, hb]
    have e2 : shi g b = [] := by simp [shi, e]
    rw [e, e2]; exact shift_no T c g b hb hl w h
  · have key := shift_walk T c g b (fun i j => wrap64 (nth (rowAt g i) j + b)) hb (fun _ _ => rfl) _ rfl hl w h
    rcases hi : inR b (-9) 9 with _ | _
    · have e : shiB g b = false := by simp [shiB, hi]
      have e2 : shi g b = [] := by simp [shi, e]
      rw [hi] at key
      rw [e, e2]; exact key
    · have hg := Game.of hb
      have hi' := hi
      unfold inR at hi'
      rw [decide_eq_true_eq] at hi'
      have e : funT g (fun i j => wrap64 (nth (rowAt g i) j + b)) = shiL g b := by
        unfold funT shiL
        refine selTab_congr (fun i hi2 => selRow_congr (fun j hj => ?_))
        have h1 := hg.nlo i hi2 j hj
        have h2 := hg.nhi i hi2 j hj
        exact IntWalk.wrap64_in _ ⟨by omega, by omega⟩
      rw [hi, e] at key
      have e3 : shiB g b = gameB (shiL g b) := by simp [shiB, hb, hi]
      rw [e3]
      have e4 : shi g b = bif gameB (shiL g b) then shiL g b else [] := by
        unfold shi; rw [e3]; cases gameB (shiL g b) <;> rfl
      rw [e4]; simpa using key
end Go.Proofs.YtlmaeadbomnhlaaGreat

namespace Go.Proofs.YtlmaeadbomnhlaaGreat
set_option linter.unusedSimpArgs false
set_option linter.unusedVariables false
open Go.RowKit
def numS (P : Nat → Bool) : Nat → Nat
  | 0 => 0
  | m + 1 => (if P 0 = true then 1 else 0) + 2 * numS (fun i => P (i + 1)) m
theorem numS_lt : ∀ (m : Nat) (P : Nat → Bool), numS P m < 2 ^ m
  | 0, _ => by simp [numS]
  | m + 1, P => by
    have h := numS_lt m (fun i => P (i + 1))
    simp only [numS]; rw [Nat.pow_succ]; split <;> omega
theorem bP_numS : ∀ (m : Nat) (P : Nat → Bool) (i : Nat), i < m → bP (numS P m) i = P i
  | 0, _, i, h => by omega
  | m + 1, P, i, h => by
    cases i with
    | zero =>
      unfold bP
      simp only [numS, Nat.pow_zero, Nat.div_one]
      cases P 0 <;> simp <;> omega
    | succ i =>
      rw [bP_succ]
      have e : numS P (m + 1) / 2 = numS (fun i => P (i + 1)) m := by simp only [numS]; split <;> omega
      rw [e, bP_numS m (fun i => P (i + 1)) i (by omega)]
theorem sel_congr {P Q : Nat → Bool} {k : Nat} (h : ∀ i, i < k → P i = Q i) : sel P k = sel Q k := by
  unfold sel
  exact List.filter_congr (fun i hi => h i (by simpa using hi))
theorem cnt_congr {P Q : Nat → Bool} {k : Nat} (h : ∀ i, i < k → P i = Q i) : cnt P k = cnt Q k := by rw [← sel_length, ← sel_length, sel_congr h]
theorem sum_sel (P : Nat → Bool) (F : Nat → Int) (n : Nat) : sumI n (fun j => if P j = true then F (cnt P j) else 0) = sumI (cnt P n) F := by
  induction n with
  | zero => rfl
  | succ n ih =>
    have e : sumI (n + 1) (fun j => if P j = true then F (cnt P j) else 0) = sumI n (fun j => if P j = true then F (cnt P j) else 0) + (if P n = true then F (cnt P n) else 0) := rfl
    rw [e, ih]
    by_cases h : P n = true
    · rw [if_pos h, cnt_yes h]; rfl
    · rw [if_neg h, cnt_no (by simpa using h)]; simp
theorem sumI_mul (k : Nat) (c : Int) (f : Nat → Int) : sumI k (fun a => c * f a) = c * sumI k f := by
  induction k with
  | zero => simp [sumI]
  | succ k ih => simp only [sumI, ih]; rw [Int.mul_add]
def AG (g : List (List Int)) (i j : Nat) : Int := nth (rowAt g i) j
theorem Part.partM {g : List (List Int)} {r q k : Nat} (h : Part g r q k) {a b : Nat} (ha : a < k) (hb : b < k) : nth (rowAt (pt g r q) a) b = partM (AG g) (sel (bP r) g.length) (sel (bP q) (rowAt g 0).length) a b := by
  unfold pt Go.Proofs.YtlmaeadbomnhlaaGreat.partM AG
  rw [selTab_map, rowAt_map _ _ _ (by rw [sel_length, h.rows]; exact ha), selRow_map, nth_mapN _ _ _ (by rw [sel_length, h.cols]; exact hb)]
theorem Part.cfn_cof {g : List (List Int)} {r q k i j : Nat} (h : Part g r q k) (hi : i < g.length) (hj : j < (rowAt g 0).length) (h1 : bP r i = true) (h2 : bP q j = true) :
    cfn g r q i j = cofI k (Go.Proofs.YtlmaeadbomnhlaaGreat.partM (AG g) (sel (bP r) g.length) (sel (bP q) (rowAt g 0).length)) (cnt (bP r) i) (cnt (bP q) j) := by
  obtain ⟨a, b⟩ := h.at_ hi hj h1 h2
  have hs := h.square
  obtain ⟨k', rfl⟩ : ∃ k', k = k' + 1 := ⟨k - 1, by omega⟩
  unfold cfn cofI
  rw [h1, h2, detL_wo hs a b]
  simp only [Bool.and_self, if_true, Nat.add_sub_cancel]
  congr 1
  exact detI_congr (fun x y hx hy => by unfold woI; exact h.partM (by split <;> omega) (by split <;> omega))
theorem Part.kX_xc {g : List (List Int)} {r q k i : Nat} (h : Part g r q k) (hi : i < g.length) :
    kX g r q i = if bP r i = true then xcI k (Go.Proofs.YtlmaeadbomnhlaaGreat.partM (AG g) (sel (bP r) g.length) (sel (bP q) (rowAt g 0).length)) (cnt (bP r) i) else 0 := by
  by_cases h1 : bP r i = true
  · rw [if_pos h1]
    unfold kX xcI
    have e : sumI (rowAt g 0).length (cfn g r q i) = sumI (rowAt g 0).length (fun j => if bP q j = true then cofI k (Go.Proofs.YtlmaeadbomnhlaaGreat.partM (AG g) (sel (bP r) g.length) (sel (bP q) (rowAt g 0).length)) (cnt (bP r) i) (cnt (bP q) j) else 0) :=
      sumI_congr (fun j hj => by
        by_cases h2 : bP q j = true
        · rw [if_pos h2, h.cfn_cof hi hj h1 h2]
        · rw [if_neg h2, cfn_col_no (by simpa using h2)])
    rw [e, sum_sel (bP q) (fun b => cofI k _ (cnt (bP r) i) b), h.cols]
  · rw [if_neg h1, kX_no (by simpa using h1)]
theorem Part.kY_yc {g : List (List Int)} {r q k j : Nat} (h : Part g r q k) (hj : j < (rowAt g 0).length) :
    kY g r q j = if bP q j = true then ycI k (Go.Proofs.YtlmaeadbomnhlaaGreat.partM (AG g) (sel (bP r) g.length) (sel (bP q) (rowAt g 0).length)) (cnt (bP q) j) else 0 := by
  by_cases h2 : bP q j = true
  · rw [if_pos h2]
    unfold kY ycI
    have e : sumI g.length (fun i => cfn g r q i j) = sumI g.length (fun i => if bP r i = true then cofI k (Go.Proofs.YtlmaeadbomnhlaaGreat.partM (AG g) (sel (bP r) g.length) (sel (bP q) (rowAt g 0).length)) (cnt (bP r) i) (cnt (bP q) j) else 0) :=
      sumI_congr (fun i hi => by
        by_cases h1 : bP r i = true
        · rw [if_pos h1, h.cfn_cof hi hj h1 h2]
        · rw [if_neg h1, cfn_row_no (by simpa using h1)])
    rw [e, sum_sel (bP r) (fun a => cofI k _ a (cnt (bP q) j)), h.rows]
  · rw [if_neg h2]
    unfold kY
    have e : sumI g.length (fun i => cfn g r q i j) = sumI g.length (fun _ => 0 * 0) := sumI_congr (fun i _ => by rw [cfn_col_no (by simpa using h2)]; rfl)
    rw [e, sumI_mul]; simp
theorem Part.kA_xc {g : List (List Int)} {r q k : Nat} (h : Part g r q k) : kA g r q = sumI k (xcI k (Go.Proofs.YtlmaeadbomnhlaaGreat.partM (AG g) (sel (bP r) g.length) (sel (bP q) (rowAt g 0).length))) := by
  unfold kA
  have e : sumI g.length (kX g r q) = sumI g.length (fun i => if bP r i = true then xcI k (Go.Proofs.YtlmaeadbomnhlaaGreat.partM (AG g) (sel (bP r) g.length) (sel (bP q) (rowAt g 0).length)) (cnt (bP r) i) else 0) := sumI_congr (fun i hi => h.kX_xc hi)
  rw [e, sum_sel (bP r) (fun a => xcI k _ a), h.rows]
theorem gcdN_dvd (x : List Int) : ∀ (k i : Nat), i < k → gcdN x k ∣ nth x i
  | 0, i, h => by omega
  | k + 1, i, h => by
    simp only [gcdN]
    by_cases e : i = k
    · subst e; unfold gcdI; exact Int.gcd_dvd_right ..
    · have h1 := gcdN_dvd x k i (by omega)
      have h2 : gcdI (gcdN x k) (nth x k) ∣ gcdN x k := by unfold gcdI; exact Int.gcd_dvd_left ..
      exact Int.dvd_trans h2 h1
def lowG (x : List Int) : Int := max (gcdN x x.length) 1
theorem lowG_pos (x : List Int) : 0 < lowG x := by unfold lowG; omega
theorem low_scale {x : List Int} {i : Nat} (h : i < x.length) : lowG x * nth (lowL x) i = nth x i := by
  rw [nth_lowL x h]
  have hd := gcdN_dvd x x.length i h
  have hn : 0 ≤ gcdN x x.length := by cases x.length <;> simp [gcdN, gcdI] <;> omega
  unfold lowG
  by_cases h1 : 1 ≤ gcdN x x.length
  · have e : max (gcdN x x.length) 1 = gcdN x x.length := by omega
    rw [e]; exact Int.mul_tdiv_cancel' hd
  · have e : max (gcdN x x.length) 1 = 1 := by omega
    rw [e]; simp
theorem low_dot (x l : List Int) (k : Nat) (h : k ≤ x.length) : lowG x * dotW (lowL x) l k = dotW x l k := by
  induction k with
  | zero => simp [dotW]
  | succ k ih =>
    simp only [dotW]; rw [Int.mul_add, ih (by omega), ← Int.mul_assoc, low_scale (by omega)]
theorem low_sum (x : List Int) (k : Nat) (h : k ≤ x.length) : lowG x * sumW (lowL x) k = sumW x k := by
  induction k with
  | zero => simp [sumW]
  | succ k ih => simp only [sumW]; rw [Int.mul_add, ih (by omega), low_scale (by omega)]
theorem sumW_I (x : List Int) (k : Nat) : sumW x k = sumI k (nth x) := by
  induction k with
  | zero => rfl
  | succ k ih => simp only [sumW, sumI, ih]
theorem dotW_I (x l : List Int) (k : Nat) : dotW x l k = sumI k (fun i => nth x i * nth l i) := by
  induction k with
  | zero => rfl
  | succ k ih => simp only [dotW, sumI, ih]
theorem Part.kXL_at {g : List (List Int)} {r q k i : Nat} (h : Part g r q k) (hi : i < g.length) :
    nth (kXL g r q) i = if bP r i = true then kE g r q * xcI k (Go.Proofs.YtlmaeadbomnhlaaGreat.partM (AG g) (sel (bP r) g.length) (sel (bP q) (rowAt g 0).length)) (cnt (bP r) i) else 0 := by
  rw [nth_kXL g r q i hi, h.kX_xc hi]
  split <;> simp
theorem Part.kYL_at {g : List (List Int)} {r q k j : Nat} (h : Part g r q k) (hj : j < (rowAt g 0).length) :
    nth (kYL g r q) j = if bP q j = true then kE g r q * ycI k (Go.Proofs.YtlmaeadbomnhlaaGreat.partM (AG g) (sel (bP r) g.length) (sel (bP q) (rowAt g 0).length)) (cnt (bP q) j) else 0 := by
  rw [nth_kYL g r q j hj, h.kY_yc hj]
  split <;> simp
theorem Part.sumX {g : List (List Int)} {r q k : Nat} (_ : Part g r q k) : sumW (kXL g r q) g.length = kE g r q * kA g r q := by
  rw [sumW_I, sumI_congr (fun i hi => nth_kXL g r q i hi), sumI_mul]; rfl
theorem Part.sumY {g : List (List Int)} {r q k : Nat} (_ : Part g r q k) : sumW (kYL g r q) (rowAt g 0).length = kE g r q * kA g r q := by
  rw [sumW_I, sumI_congr (fun i hi => nth_kYL g r q i hi), sumI_mul]
  congr 1
  unfold kA kX kY
  exact sumI_swap _ _ _
theorem Part.dotX {g : List (List Int)} {r q k j : Nat} (h : Part g r q k) (_ : j < (rowAt g 0).length) :
    dotW (kXL g r q) (col g j) g.length = sumI k (fun a => AG g ((sel (bP r) g.length).getD a 0) j * (kE g r q * xcI k (Go.Proofs.YtlmaeadbomnhlaaGreat.partM (AG g) (sel (bP r) g.length) (sel (bP q) (rowAt g 0).length)) a)) := by
  have e : sumI g.length (fun i => nth (kXL g r q) i * nth (col g j) i) = sumI g.length (fun i => if bP r i = true then (fun a => AG g ((sel (bP r) g.length).getD a 0) j * (kE g r q * xcI k (Go.Proofs.YtlmaeadbomnhlaaGreat.partM (AG g) (sel (bP r) g.length) (sel (bP q) (rowAt g 0).length)) a)) (cnt (bP r) i) else 0) :=
    sumI_congr (fun i hi => by
      rw [h.kXL_at hi, nth_col g j i hi]
      by_cases h1 : bP r i = true
      · rw [if_pos h1, if_pos h1]
        show _ = AG g ((sel (bP r) g.length).getD (cnt (bP r) i) 0) j * _
        rw [sel_cnt hi h1, Int.mul_comm]; rfl
      · rw [if_neg h1, if_neg h1]; simp)
  rw [dotW_I, e, sum_sel (bP r) (fun a => AG g ((sel (bP r) g.length).getD a 0) j * (kE g r q * xcI k (Go.Proofs.YtlmaeadbomnhlaaGreat.partM (AG g) (sel (bP r) g.length) (sel (bP q) (rowAt g 0).length)) a)), h.rows]
theorem Part.dotY {g : List (List Int)} {r q k i : Nat} (h : Part g r q k) (_ : i < g.length) :
    dotW (kYL g r q) (rowAt g i) (rowAt g 0).length = sumI k (fun b => AG g i ((sel (bP q) (rowAt g 0).length).getD b 0) * (kE g r q * ycI k (Go.Proofs.YtlmaeadbomnhlaaGreat.partM (AG g) (sel (bP r) g.length) (sel (bP q) (rowAt g 0).length)) b)) := by
  have e : sumI (rowAt g 0).length (fun j => nth (kYL g r q) j * nth (rowAt g i) j) = sumI (rowAt g 0).length (fun j => if bP q j = true then (fun b => AG g i ((sel (bP q) (rowAt g 0).length).getD b 0) * (kE g r q * ycI k (Go.Proofs.YtlmaeadbomnhlaaGreat.partM (AG g) (sel (bP r) g.length) (sel (bP q) (rowAt g 0).length)) b)) (cnt (bP q) j) else 0) :=
    sumI_congr (fun j hj => by
      rw [h.kYL_at hj]
      by_cases h1 : bP q j = true
      · rw [if_pos h1, if_pos h1]
        show _ = AG g i ((sel (bP q) (rowAt g 0).length).getD (cnt (bP q) j) 0) * _
        rw [sel_cnt hj h1, Int.mul_comm]; rfl
      · rw [if_neg h1, if_neg h1]; simp)
  rw [dotW_I, e, sum_sel (bP q) (fun b => AG g i ((sel (bP q) (rowAt g 0).length).getD b 0) * (kE g r q * ycI k (Go.Proofs.YtlmaeadbomnhlaaGreat.partM (AG g) (sel (bP r) g.length) (sel (bP q) (rowAt g 0).length)) b)), h.cols]
theorem low_mix {x : List Int} {m : Nat} (hl : x.length = m) (h1 : 1 ≤ m) (h2 : m ≤ 16) (h0 : ∀ i, i < m → 0 ≤ nth x i) (h9 : ∀ i, i < m → nth x i ≤ 100000) (hp : 0 < sumW x m) : Mix (lowL x) m := by
  have hg := lowG_pos x
  have hs : ∀ i, i < m → lowG x * nth (lowL x) i = nth x i := fun i hi => low_scale (by omega)
  have hn : ∀ i, i < m → 0 ≤ nth (lowL x) i := fun i hi => by
    by_cases hc : 0 ≤ nth (lowL x) i
    · exact hc
    · have := Int.mul_lt_mul_of_pos_left (show nth (lowL x) i < 0 by omega) hg
      have a := hs i hi; have b := h0 i hi
      simp at this; omega
  refine ⟨by rw [lowL_length, hl], h1, h2, hn, fun i hi => ?_, ?_⟩
  · have a := hs i hi
    have b := Int.mul_le_mul_of_nonneg_right (show (1 : Int) ≤ lowG x by omega) (hn i hi)
    have := h9 i hi
    omega
  · have a := low_sum x m (by omega)
    by_cases hc : 0 < sumW (lowL x) m
    · exact hc
    · have := Int.mul_le_mul_of_nonneg_left (show sumW (lowL x) m ≤ 0 by omega) (Int.le_of_lt hg)
      simp at this; omega
theorem game_hit {g : List (List Int)} (hb : gameB g = true) (h4 : g.length ≤ 4) (hn4 : (rowAt g 0).length ≤ 4) : ∃ s r q : Nat, r < 16 ∧ q < 16 ∧ hit g s r q = true := by
  have hg := Game.of hb
  have hm0 : 0 < g.length := hg.lo
  have hn0 : 0 < (rowAt g 0).length := hg.mlo
  obtain ⟨P, Q, k, hR, hC, hk0, hk4, e, D, he, hs, hx, hy, hj1, hj2, hi1, hi2⟩ := ex_part (AG g) g.length (rowAt g 0).length hm0 h4 hn0 (fun i j hi hj => hg.nlo i hi j hj)
  have er : sel (bP (numS P g.length)) g.length = (List.range g.length).filter P := sel_congr (bP_numS _ P)
  have eq : sel (bP (numS Q (rowAt g 0).length)) (rowAt g 0).length = (List.range (rowAt g 0).length).filter Q := sel_congr (bP_numS _ Q)
  have hrl := numS_lt g.length P
  have hql := numS_lt (rowAt g 0).length Q
  generalize numS P g.length = r at *
  generalize numS Q (rowAt g 0).length = q at *
  rw [← er] at hR
  rw [← eq] at hC
  rw [← er, ← eq] at hs hx hy hj1 hj2 hi1 hi2
  have hp : Part g r q k := ⟨hg, h4, hn4, by rw [← sel_length]; exact hR, by rw [← sel_length]; exact hC⟩
  have hr16 := pow_le16 h4
  have hq16 := pow_le16 hn4
  have pr : popN r = k := by rw [← cnt_pop _ _ hrl]; exact hp.rows
  have pq : popN q = k := by rw [← cnt_pop _ _ hql]; exact hp.cols
  have r1 : 1 ≤ r := by
    rcases Nat.eq_zero_or_pos r with h | h
    · rw [h, popN_zero] at pr; omega
    · exact h
  have q1 : 1 ≤ q := by
    rcases Nat.eq_zero_or_pos q with h | h
    · rw [h, popN_zero] at pq; omega
    · exact h
  have hE : kE g r q = e := by
    unfold kE; rw [hp.kA_xc]
    rcases he with rfl | rfl
    · rw [if_neg (by omega)]
    · rw [if_pos (by omega)]
  rw [← hp.kA_xc] at hs
  rw [← hE] at hs hx hy hj1 hj2 hi1 hi2
  have x0 : ∀ i, i < g.length → 0 ≤ nth (kXL g r q) i := fun i hi => by
    rw [hp.kXL_at hi]
    by_cases h1 : bP r i = true
    · rw [if_pos h1]
      have a := cnt_mono (bP r) (i := i + 1) (k := g.length) (by omega)
      rw [cnt_yes h1, hp.rows] at a
      exact hx _ (by omega)
    · rw [if_neg h1]; omega
  have y0 : ∀ j, j < (rowAt g 0).length → 0 ≤ nth (kYL g r q) j := fun j hj => by
    rw [hp.kYL_at hj]
    by_cases h1 : bP q j = true
    · rw [if_pos h1]
      have a := cnt_mono (bP q) (i := j + 1) (k := (rowAt g 0).length) (by omega)
      rw [cnt_yes h1, hp.cols] at a
      exact hy _ (by omega)
    · rw [if_neg h1]; omega
  have hok : kOk g r q = true := by
    simp only [kOk, Bool.and_eq_true, posB_iff, Bool.not_eq_true', beq_eq_false_iff_ne]
    refine ⟨⟨fun h => ?_, x0⟩, y0⟩
    rw [h] at hs; simp at hs
  have pwr : ∀ {t m : Nat}, 1 ≤ t → t < 2 ^ m → inR (t : Int) 1 (pw m) = true := fun {t m} h1 h2 => by
    simp only [inR, Bool.and_eq_true, decide_eq_true_eq]
    unfold pw
    have : ((2 : Int) ^ m) = ((2 ^ m : Nat) : Int) := by simp
    omega
  have hk : kerB g (r : Int) (q : Int) = true := by
    simp only [kerB, Bool.and_eq_true, decide_eq_true_eq, Int.toNat_natCast, beq_iff_eq]
    exact ⟨⟨⟨⟨⟨⟨hb, h4⟩, hn4⟩, pwr r1 hrl⟩, pwr q1 hql⟩, by rw [pr, pq]⟩, hok⟩
  have eX : kerX g (r : Int) (q : Int) = lowL (kXL g r q) := by unfold kerX; rw [if_pos hk]; simp
  have eY : kerY g (r : Int) (q : Int) = lowL (kYL g r q) := by unfold kerY; rw [if_pos hk]; simp
  have bE : ∀ v : Int, -17496 ≤ v ∧ v ≤ 17496 → kE g r q * v ≤ 100000 := fun v hv => by
    rw [hE]; rcases he with rfl | rfl <;> omega
  have mX : Mix (lowL (kXL g r q)) g.length := low_mix (kXL_length g r q) hm0 (by omega) x0 (fun i hi => by rw [nth_kXL g r q i hi]; exact bE _ (hp.row_bd i _ hi (Nat.le_refl _))) (by rw [hp.sumX]; exact hs)
  have mY : Mix (lowL (kYL g r q)) (rowAt g 0).length := low_mix (kYL_length g r q) hn0 (by omega) y0 (fun j hj => by rw [nth_kYL g r q j hj]; exact bE _ (hp.col_bd j _ hj (Nat.le_refl _))) (by rw [hp.sumY]; exact hs)
  have gx := lowG_pos (kXL g r q)
  have gy := lowG_pos (kYL g r q)
  have sX := low_sum (kXL g r q) g.length (by rw [kXL_length]; omega)
  have sY := low_sum (kYL g r q) (rowAt g 0).length (by rw [kYL_length]; omega)
  rw [hp.sumX] at sX
  rw [hp.sumY] at sY
  have cX : ∀ j, j < (rowAt g 0).length → lowG (kXL g r q) * colD g (lowL (kXL g r q)) j = sumI k (fun a => AG g ((sel (bP r) g.length).getD a 0) j * (kE g r q * xcI k (Go.Proofs.YtlmaeadbomnhlaaGreat.partM (AG g) (sel (bP r) g.length) (sel (bP q) (rowAt g 0).length)) a)) := fun j hj => by
    unfold colD; rw [low_dot _ _ _ (by rw [kXL_length]; omega)]; exact hp.dotX hj
  have cY : ∀ i, i < g.length → lowG (kYL g r q) * rowD g (lowL (kYL g r q)) i = sumI k (fun b => AG g i ((sel (bP q) (rowAt g 0).length).getD b 0) * (kE g r q * ycI k (Go.Proofs.YtlmaeadbomnhlaaGreat.partM (AG g) (sel (bP r) g.length) (sel (bP q) (rowAt g 0).length)) b)) := fun i hi => by
    unfold rowD; rw [lowL_length, kYL_length, low_dot _ _ _ (by rw [kYL_length]; omega)]; exact hp.dotY hi
  have sat := sel_at (P := bP r) (k := g.length) (a := 0) (by rw [hp.rows]; exact hk0)
  have qat := sel_at (P := bP q) (k := (rowAt g 0).length) (a := 0) (by rw [hp.cols]; exact hk0)
  have dX : lowG (kXL g r q) * safeN g (lowL (kXL g r q)) = D := by
    obtain ⟨j, hj, ej⟩ := lowN_at (colsD g (lowL (kXL g r q))) hg.mlo
    have l1 := lowN_le (colsD g (lowL (kXL g r q))) qat.1
    rw [nth_colsD _ _ _ qat.1] at l1
    rw [nth_colsD _ _ _ hj] at ej
    have a1 := cX _ qat.1
    rw [hj2 0 hk0] at a1
    have a2 := cX j hj
    have a3 := hj1 j hj
    have a4 := Int.mul_le_mul_of_nonneg_left l1 (Int.le_of_lt gx)
    rw [← ej] at a2
    unfold safeN
    omega
  have dY : lowG (kYL g r q) * riskN g (lowL (kYL g r q)) = D := by
    obtain ⟨i, hi, ei⟩ := highN_at (rowsD g (lowL (kYL g r q))) hg.lo
    have l1 := le_highN (rowsD g (lowL (kYL g r q))) sat.1
    rw [nth_rowsD _ _ _ sat.1] at l1
    rw [nth_rowsD _ _ _ hi] at ei
    have a1 := cY _ sat.1
    rw [hi2 0 hk0] at a1
    have a2 := cY i hi
    have a3 := hi1 i hi
    have a4 := Int.mul_le_mul_of_nonneg_left l1 (Int.le_of_lt gy)
    rw [← ei] at a2
    unfold riskN
    omega
  have fit : safeN g (lowL (kXL g r q)) * sumW (lowL (kYL g r q)) (rowAt g 0).length = riskN g (lowL (kYL g r q)) * sumW (lowL (kXL g r q)) g.length := by
    generalize safeN g (lowL (kXL g r q)) = a at *
    generalize riskN g (lowL (kYL g r q)) = b at *
    generalize sumW (lowL (kYL g r q)) (rowAt g 0).length = t at *
    generalize sumW (lowL (kXL g r q)) g.length = u at *
    generalize lowG (kXL g r q) = c at *
    generalize lowG (kYL g r q) = d at *
    have hcd : c * d ≠ 0 := by
      have := Int.mul_pos gx gy; omega
    refine Int.eq_of_mul_eq_mul_left hcd ?_
    have e1 : c * d * (a * t) = (c * a) * (d * t) := by ac_rfl
    have e2 : c * d * (b * u) = (d * b) * (c * u) := by ac_rfl
    rw [e1, e2, dX, dY, sX, sY]
  have hsaf : safB g (lowL (kXL g r q)) = true := by simp only [safB, hb, Bool.true_and]; exact mX.to
  have hris : risB g (lowL (kYL g r q)) = true := by simp only [risB, hb, Bool.true_and]; exact mY.to
  have hl := low_eq mX.pos mY.pos fit
  refine ⟨k, r, q, by omega, by omega, ?_⟩
  simp only [hit, Bool.and_eq_true, beq_iff_eq]
  refine ⟨⟨pr, hk⟩, ?_⟩
  rw [eX, eY]
  simp only [setB, hsaf, hris, Bool.true_and, Bool.and_self, Bool.and_eq_true, beq_iff_eq, safU, risU, safD, risD, if_true, mX.len, mY.len]
  exact hl
theorem sol_game {g : List (List Int)} (hb : gameB g = true) (h4 : g.length ≤ 4) (hn4 : (rowAt g 0).length ≤ 4) : solB g = true := by
  rcases sol_is g with ⟨h, _⟩ | ⟨_, h, _⟩
  · exact h
  · obtain ⟨s, r, q, hr, hq, hh⟩ := game_hit hb h4 hn4
    have := h (256 * s + 16 * r + q)
    rw [hitN_at hr hq, hh] at this; cases this
end Go.Proofs.YtlmaeadbomnhlaaGreat

namespace Go.Proofs.YtlmaeadbomnhlaaGreat
set_option linter.unusedSimpArgs false
set_option linter.unusedVariables false
open Go.RowKit
def wS (l : List Int) : Int := sumI l.length (nth l)
def wE (l : List Int) : Int := if wS l < 0 then -1 else 1
def wL (l : List Int) : List Int := (List.range l.length).map fun i => wE l * nth l i
def wOk (l : List Int) : Bool := !(wS l == 0) && posB (wL l) l.length
def wV (l : List Int) : List Int := if wOk l = true then lowL (wL l) else []
theorem wL_length (l : List Int) : (wL l).length = l.length := by simp [wL]
theorem nth_wL (l : List Int) {i : Nat} (h : i < l.length) : nth (wL l) i = wE l * nth l i := by
  unfold wL; rw [nth_mapN _ _ _ (by simpa using h)]; simp [List.getD, h]
theorem wE_cases (l : List Int) : wE l = 1 ∨ wE l = -1 := by unfold wE; split <;> simp
theorem gcdI_sign (a b e : Int) (h : e = 1 ∨ e = -1) : gcdI a (e * b) = gcdI a b := by
  rcases h with rfl | rfl
  · rw [Int.one_mul]
  · unfold gcdI; rw [Int.neg_mul, Int.one_mul, Int.gcd_neg]
theorem gcdN_wL (l : List Int) (k : Nat) (h : k ≤ l.length) : gcdN (wL l) k = gcdN l k := by
  induction k with
  | zero => rfl
  | succ k ih => simp only [gcdN]; rw [ih (by omega), nth_wL l (by omega), gcdI_sign _ _ _ (wE_cases l)]
theorem gcdN_nonneg (l : List Int) (k : Nat) : 0 ≤ gcdN l k := by
  cases k with
  | zero => exact Int.le_refl _
  | succ k => exact gcdI_nonneg _ _
theorem gcdN_zero {l : List Int} {k : Nat} (h : gcdN l k = 0) : ∀ i, i < k → nth l i = 0 := fun i hi => by
  have := gcdN_dvd l k i hi
  rw [h] at this
  exact Int.zero_dvd.1 this
theorem sumI_zero {k : Nat} {f : Nat → Int} (h : ∀ i, i < k → f i = 0) : sumI k f = 0 := by
  induction k with
  | zero => rfl
  | succ k ih => simp only [sumI]; rw [ih (fun i hi => h i (by omega)), h k (by omega)]; rfl
theorem gcdN_pos {l : List Int} (h : wS l ≠ 0) : 1 ≤ gcdN l l.length := by
  have h0 := gcdN_nonneg l l.length
  by_cases e : gcdN l l.length = 0
  · exact absurd (sumI_zero (gcdN_zero e)) h
  · omega
theorem weight_eq {l : List Int} (h : wS l ≠ 0) {i : Nat} (hi : i < l.length) : (nth l i).tdiv (wE l * gcdN l l.length) = nth (lowL (wL l)) i := by
  have hp := gcdN_pos h
  rw [nth_lowL _ (by rw [wL_length]; exact hi), nth_wL l hi, wL_length, gcdN_wL l _ (Nat.le_refl _), Int.max_eq_left hp]
  rcases wE_cases l with e | e <;> rw [e]
  · rw [Int.one_mul, Int.one_mul]
  · rw [Int.neg_mul, Int.one_mul, Int.neg_mul, Int.one_mul, Int.tdiv_neg, Int.neg_tdiv]
theorem weight_neg {l : List Int} (h : wS l ≠ 0) {i : Nat} (hi : i < l.length) : nth (lowL (wL l)) i < 0 ↔ nth (wL l) i < 0 := by
  have hp := gcdN_pos h
  have hd := gcdN_dvd (wL l) l.length i hi
  rw [nth_lowL _ (by rw [wL_length]; exact hi), wL_length]
  rw [gcdN_wL l _ (Nat.le_refl _)] at hd ⊢
  rw [Int.max_eq_left hp]
  obtain ⟨q, hq⟩ := hd
  rw [hq, Int.mul_tdiv_cancel_left _ (by omega)]
  constructor
  · intro h1; exact Int.mul_neg_of_pos_of_neg (by omega) h1
  · intro h1
    rcases Int.lt_or_le q 0 with h2 | h2
    · exact h2
    · have := Int.mul_nonneg (show 0 ≤ gcdN l l.length by omega) h2; omega
theorem posB_low {l : List Int} (h : wS l ≠ 0) {k : Nat} (hk : k ≤ l.length) : posB (wL l) k = true ↔ ∀ i, i < k → 0 ≤ nth (lowL (wL l)) i := by
  rw [posB_iff]
  refine ⟨fun h1 i hi => ?_, fun h1 i hi => ?_⟩
  · have := (weight_neg h (i := i) (by omega)); have := h1 i hi; omega
  · have := (weight_neg h (i := i) (by omega)); have := h1 i hi; omega
theorem wOk_zero {l : List Int} (h : wS l = 0) : wOk l = false := by simp [wOk, h]
theorem wOk_neg {l : List Int} (h : wS l ≠ 0) {i : Nat} (hi : i < l.length) (h1 : nth (lowL (wL l)) i < 0) : wOk l = false := by
  have : posB (wL l) l.length = false := by
    rw [← Bool.not_eq_true, posB_low h (Nat.le_refl _)]
    intro h2; have := h2 i hi; omega
  simp [wOk, this]
theorem wOk_yes {l : List Int} (h : wS l ≠ 0) (h1 : ∀ i, i < l.length → 0 ≤ nth (lowL (wL l)) i) : wOk l = true := by
  simp [wOk, h, (posB_low h (Nat.le_refl _)).2 h1]
def spr (P : Nat → Bool) (x : List Int) (n : Nat) : List Int := (List.range n).map fun i => if P i = true then nth x (cnt P i) else 0
theorem spr_length (P : Nat → Bool) (x : List Int) (n : Nat) : (spr P x n).length = n := by simp [spr]
theorem nth_spr (P : Nat → Bool) (x : List Int) {n i : Nat} (h : i < n) : nth (spr P x n) i = if P i = true then nth x (cnt P i) else 0 := by
  unfold spr; rw [nth_mapN _ _ _ (by simpa using h)]; simp [List.getD, h]
theorem cnt_lt {P : Nat → Bool} {i n : Nat} (hi : i < n) (h : P i = true) : cnt P i < cnt P n := by
  have := cnt_mono P (i := i + 1) (k := n) (by omega); rw [cnt_yes h] at this; omega
theorem gcdN_spr (P : Nat → Bool) (x : List Int) (n : Nat) : ∀ k, k ≤ n → gcdN (spr P x n) k = gcdN x (cnt P k) := by
  intro k
  induction k with
  | zero => intro _; rfl
  | succ k ih =>
    intro hk
    simp only [gcdN]
    rw [ih (by omega), nth_spr P x (by omega)]
    by_cases h : P k = true
    · rw [if_pos h, cnt_yes h]; rfl
    · rw [if_neg h, cnt_no (by simpa using h), gcdI_zero]
      have := gcdN_nonneg x (cnt P k); omega
theorem lowL_spr (P : Nat → Bool) {x : List Int} {n : Nat} (hx : x.length = cnt P n) : lowL (spr P x n) = spr P (lowL x) n := by
  refine ext_nth (by rw [lowL_length, spr_length, spr_length]) (fun i hi => ?_)
  rw [lowL_length, spr_length] at hi
  rw [nth_lowL _ (by rw [spr_length]; exact hi), spr_length, gcdN_spr P x n n (Nat.le_refl _), nth_spr P x hi, nth_spr P (lowL x) hi]
  by_cases h : P i = true
  · have := cnt_lt hi h
    rw [if_pos h, if_pos h, nth_lowL x (by omega), hx]
  · rw [if_neg h, if_neg h, Int.zero_tdiv]
theorem posB_spr (P : Nat → Bool) {x : List Int} {n : Nat} (hx : x.length = cnt P n) : posB (spr P x n) n = posB x x.length := by
  rw [Bool.eq_iff_iff, posB_iff, posB_iff]
  refine ⟨fun h a ha => ?_, fun h i hi => ?_⟩
  · obtain ⟨h1, h2, h3⟩ := sel_at (P := P) (k := n) (a := a) (by omega)
    have := h _ h1
    rw [nth_spr P x h1, if_pos h2, h3] at this
    exact this
  · rw [nth_spr P x hi]
    split
    · rename_i h1; have := cnt_lt hi h1; exact h _ (by omega)
    · omega
theorem sum_spr (P : Nat → Bool) {x : List Int} {n : Nat} (hx : x.length = cnt P n) : sumI n (nth (spr P x n)) = wS x := by
  rw [sumI_congr (g := fun j => if P j = true then nth x (cnt P j) else 0) (fun a ha => nth_spr P x ha), sum_sel P (nth x) n]
  unfold wS; rw [hx]
def sX (p : List (List Int)) (n : Nat) : List Int := (List.range n).map fun a => sumI n (fun b => sgI (a + b) * detL (woL p a b))
def sY (p : List (List Int)) (n : Nat) : List Int := (List.range n).map fun b => sumI n (fun a => sgI (a + b) * detL (woL p a b))
theorem sX_length (p : List (List Int)) (n : Nat) : (sX p n).length = n := by simp [sX]
theorem sY_length (p : List (List Int)) (n : Nat) : (sY p n).length = n := by simp [sY]
theorem nth_sX (p : List (List Int)) {n a : Nat} (h : a < n) : nth (sX p n) a = sumI n (fun b => sgI (a + b) * detL (woL p a b)) := by
  unfold sX; rw [nth_mapN _ _ _ (by simpa using h)]; simp [List.getD, h]
theorem nth_sY (p : List (List Int)) {n a : Nat} (h : a < n) : nth (sY p n) a = sumI n (fun c => sgI (c + a) * detL (woL p c a)) := by
  unfold sY; rw [nth_mapN _ _ _ (by simpa using h)]; simp [List.getD, h]
theorem kX_spr {g : List (List Int)} {r q k : Nat} (h : Part g r q k) {i : Nat} (hi : i < g.length) : kX g r q i = nth (spr (bP r) (sX (pt g r q) k) g.length) i := by
  rw [nth_spr _ _ hi]
  by_cases h1 : bP r i = true
  · have hc := cnt_lt hi h1
    rw [h.rows] at hc
    rw [if_pos h1, nth_sX _ hc]
    unfold kX
    have e : ∀ j, j < (rowAt g 0).length → cfn g r q i j = (if bP q j = true then (fun b => sgI (cnt (bP r) i + b) * detL (woL (pt g r q) (cnt (bP r) i) b)) (cnt (bP q) j) else 0) := fun j hj => by
      unfold cfn; rw [h1, Bool.true_and]
    rw [sumI_congr e, sum_sel (bP q) (fun b => sgI (cnt (bP r) i + b) * detL (woL (pt g r q) (cnt (bP r) i) b)), h.cols]
  · rw [if_neg h1, kX_no (by simpa using h1)]
theorem kY_spr {g : List (List Int)} {r q k : Nat} (h : Part g r q k) {j : Nat} (hj : j < (rowAt g 0).length) : kY g r q j = nth (spr (bP q) (sY (pt g r q) k) (rowAt g 0).length) j := by
  rw [nth_spr _ _ hj]
  by_cases h1 : bP q j = true
  · have hc := cnt_lt hj h1
    rw [h.cols] at hc
    rw [if_pos h1, nth_sY _ hc]
    unfold kY
    have e : ∀ i, i < g.length → cfn g r q i j = (if bP r i = true then (fun a => sgI (a + cnt (bP q) j) * detL (woL (pt g r q) a (cnt (bP q) j))) (cnt (bP r) i) else 0) := fun i hi => by
      unfold cfn; rw [h1, Bool.and_true]
    rw [sumI_congr e, sum_sel (bP r) (fun a => sgI (a + cnt (bP q) j) * detL (woL (pt g r q) a (cnt (bP q) j))), h.rows]
  · rw [if_neg h1]
    unfold kY
    exact sumI_zero (fun i _ => cfn_col_no (by simpa using h1) i)
theorem kA_X {g : List (List Int)} {r q k : Nat} (h : Part g r q k) : kA g r q = wS (sX (pt g r q) k) := by
  unfold kA
  rw [sumI_congr (fun i hi => kX_spr h hi), sum_spr _ (by rw [sX_length, h.rows])]
theorem kA_Y {g : List (List Int)} {r q k : Nat} (h : Part g r q k) : kA g r q = wS (sY (pt g r q) k) := by
  unfold kA
  have e : sumI g.length (kX g r q) = sumI (rowAt g 0).length (kY g r q) := sumI_swap _ _ _
  rw [e, sumI_congr (fun i hi => kY_spr h hi), sum_spr _ (by rw [sY_length, h.cols])]
theorem kXL_spr {g : List (List Int)} {r q k : Nat} (h : Part g r q k) : kXL g r q = spr (bP r) (wL (sX (pt g r q) k)) g.length := by
  refine ext_nth (by rw [kXL_length, spr_length]) (fun i hi => ?_)
  rw [kXL_length] at hi
  have he : kE g r q = wE (sX (pt g r q) k) := by unfold kE wE; rw [kA_X h]
  rw [nth_kXL _ _ _ _ hi, kX_spr h hi, nth_spr _ _ hi, nth_spr _ _ hi, he]
  by_cases h1 : bP r i = true
  · have hc := cnt_lt hi h1
    rw [if_pos h1, if_pos h1, nth_wL _ (by rw [sX_length, ← h.rows]; exact hc)]
  · rw [if_neg h1, if_neg h1, Int.mul_zero]
theorem kYL_spr {g : List (List Int)} {r q k : Nat} (h : Part g r q k) : kYL g r q = spr (bP q) (wL (sY (pt g r q) k)) (rowAt g 0).length := by
  refine ext_nth (by rw [kYL_length, spr_length]) (fun i hi => ?_)
  rw [kYL_length] at hi
  have he : kE g r q = wE (sY (pt g r q) k) := by unfold kE wE; rw [kA_Y h]
  rw [nth_kYL _ _ _ _ hi, kY_spr h hi, nth_spr _ _ hi, nth_spr _ _ hi, he]
  by_cases h1 : bP q i = true
  · have hc := cnt_lt hi h1
    rw [if_pos h1, if_pos h1, nth_wL _ (by rw [sY_length, ← h.cols]; exact hc)]
  · rw [if_neg h1, if_neg h1, Int.mul_zero]
theorem kOk_w {g : List (List Int)} {r q k : Nat} (h : Part g r q k) : kOk g r q = (wOk (sX (pt g r q) k) && wOk (sY (pt g r q) k)) := by
  unfold kOk wOk
  rw [kXL_spr h, kYL_spr h, posB_spr _ (by rw [wL_length, sX_length, h.rows]), posB_spr _ (by rw [wL_length, sY_length, h.cols]), wL_length, wL_length, ← kA_X h, ← kA_Y h]
  cases kA g r q == 0 <;> cases posB (wL (sX (pt g r q) k)) (sX (pt g r q) k).length <;> cases posB (wL (sY (pt g r q) k)) (sY (pt g r q) k).length <;> rfl
theorem low_kX {g : List (List Int)} {r q k : Nat} (h : Part g r q k) : lowL (kXL g r q) = spr (bP r) (lowL (wL (sX (pt g r q) k))) g.length := by
  rw [kXL_spr h, lowL_spr _ (by rw [wL_length, sX_length, h.rows])]
theorem low_kY {g : List (List Int)} {r q k : Nat} (h : Part g r q k) : lowL (kYL g r q) = spr (bP q) (lowL (wL (sY (pt g r q) k))) (rowAt g 0).length := by
  rw [kYL_spr h, lowL_spr _ (by rw [wL_length, sY_length, h.cols])]
end Go.Proofs.YtlmaeadbomnhlaaGreat

namespace Go.Proofs.YtlmaeadbomnhlaaGreat
set_option linter.unusedSimpArgs false
set_option linter.unusedVariables false
open Go.RowKit
theorem sol_parts {g : List (List Int)} (h : solB g = true) : gameB g = true ∧ g.length ≤ 4 ∧ (rowAt g 0).length ≤ 4 ∧ setB g (solX g) (solY g) = true ∧ solU g = safU g (solX g) ∧ solD g = safD g (solX g) := by
  rcases sol_is g with ⟨_, s, r, q, hr, hq, h1, h2, ex, ey, eu, ed⟩ | ⟨h', _⟩
  · have hp := hit_parts h1
    obtain ⟨k1, k2, k3, _⟩ := kerB_parts hp.2.2.2.2.2.2.2.1
    refine ⟨k1, k2, k3, ?_, eu, ed⟩
    rw [ex, ey]; exact hp.2.2.2.2.2.2.2.2
  · rw [h] at h'; cases h'
theorem sol_iff {g : List (List Int)} : solB g = true ↔ gameB g = true ∧ g.length ≤ 4 ∧ (rowAt g 0).length ≤ 4 :=
  ⟨fun h => let p := sol_parts h; ⟨p.1, p.2.1, p.2.2.1⟩, fun ⟨a, b, c⟩ => sol_game a b c⟩
theorem set_one {g : List (List Int)} {x y p q : List Int} (h : setB g x y = true) (h' : setB g p q = true) : safU g x = safU g p ∧ safD g x = safD g p := by
  have a := set_rows h (set_of h').1
  have b := set_rows h' (set_of h).1
  have o1 := okB_iff.1 (saf_okB (set_of h).1)
  have o2 := okB_iff.1 (saf_okB (set_of h').1)
  exact cross_eq o1.2.2.1 o2.2.2.1 o1.2.2.2.2 o2.2.2.2.2 (Int.le_antisymm b a)
theorem sol_val {g : List (List Int)} {x y : List Int} (h : setB g x y = true) (h4 : g.length ≤ 4) (hn4 : (rowAt g 0).length ≤ 4) : solB g = true ∧ solU g = safU g x ∧ solD g = safD g x := by
  have hb := (safB_iff.1 (set_of h).1).1
  have hs := sol_game hb h4 hn4
  obtain ⟨_, _, _, k, e1, e2⟩ := sol_parts hs
  have := set_one k h
  exact ⟨hs, by rw [e1, this.1], by rw [e2, this.2]⟩
theorem sol_okB {g : List (List Int)} (h : solB g = true) : okB (solU g) (solD g) = true := by
  obtain ⟨_, _, _, k, e1, e2⟩ := sol_parts h
  rw [e1, e2]; exact saf_okB (set_of k).1
theorem saf_turned {g : List (List Int)} {x : List Int} (h : safB g x = true) : risB (turned g) x = true ∧ risU (turned g) x = -safU g x ∧ risD (turned g) x = safD g x := by
  obtain ⟨h1, h2⟩ := safB_iff.1 h
  have hg := Game.of h1
  have e : turned g = turnedL g := by simp [turned, h1]
  have ht := turned_game hg
  have hr : risB (turned g) x = true := risB_iff.2 ⟨by rw [e]; exact ht.to.1, by rw [e, ← ht.to.2]; exact h2⟩
  have k := ris_turned hr
  rw [turned_turned h1] at k
  exact ⟨hr, by omega, by omega⟩
theorem sol_turned {g : List (List Int)} (h : solB g = true) : solB (turned g) = true ∧ solU (turned g) = -solU g ∧ solD (turned g) = solD g := by
  obtain ⟨h1, h4, hn4, k, e1, e2⟩ := sol_parts h
  obtain ⟨sx, sy, u1, u2⟩ := set_of k
  have a := ris_turned sy
  have b := saf_turned sx
  have hg := Game.of h1
  have e : turned g = turnedL g := by simp [turned, h1]
  have hset : setB (turned g) (solY g) (solX g) = true := by
    simp only [setB, a.1, b.1, Bool.true_and, Bool.and_eq_true, beq_iff_eq]
    rw [a.2.1, a.2.2, b.2.1, b.2.2, u1, u2]; exact ⟨rfl, rfl⟩
  have v := sol_val hset (by rw [e, turnedL_length]; exact hn4) (by rw [e, ← (turned_game hg).to.2]; exact h4)
  refine ⟨v.1, ?_, ?_⟩
  · rw [v.2.1, a.2.1, e1, u1]
  · rw [v.2.2, a.2.2, e2, u2]
end Go.Proofs.YtlmaeadbomnhlaaGreat

namespace Go.Proofs.YtlmaeadbomnhlaaGreat
set_option linter.unusedSimpArgs false
set_option linter.unusedVariables false
open Go.RowKit
theorem sumI_delta (k c : Nat) (v : Int) : sumI k (fun a => if c = a then v else 0) = if c < k then v else 0 := by
  induction k with
  | zero => simp [sumI]
  | succ k ih =>
    have e : sumI (k + 1) (fun a => if c = a then v else 0) = sumI k (fun a => if c = a then v else 0) + if c = k then v else 0 := rfl
    rw [e, ih]
    by_cases h : c = k
    · subst h; simp
    · rw [if_neg h]
      by_cases h2 : c < k
      · rw [if_pos h2, if_pos (by omega)]; omega
      · rw [if_neg h2, if_neg (by omega)]; omega
theorem rowY (k : Nat) (M : Nat → Nat → Int) (i : Nat) (hk : k ≤ 4) (hi : i < k) : sumI k (fun b => M i b * ycI k M b) = detI k M := by
  have e : sumI k (fun b => M i b * ycI k M b) = sumI k (fun b => sumI k (fun a => M i b * cofI k M a b)) := sumI_congr (fun b hb => by unfold ycI; rw [sumI_mul])
  rw [e, sumI_swap]
  have e2 : sumI k (fun a => sumI k (fun b => M i b * cofI k M a b)) = sumI k (fun a => if i = a then detI k M else 0) := sumI_congr (fun a ha => rowI k M i a hk hi ha)
  rw [e2, sumI_delta, if_pos hi]
theorem colX (k : Nat) (M : Nat → Nat → Int) (j : Nat) (hk : k ≤ 4) (hj : j < k) : sumI k (fun a => M a j * xcI k M a) = detI k M := by
  have e : sumI k (fun a => M a j * xcI k M a) = sumI k (fun a => sumI k (fun b => M a j * cofI k M a b)) := sumI_congr (fun a ha => by unfold xcI; rw [sumI_mul])
  rw [e, sumI_swap]
  have e2 : sumI k (fun b => sumI k (fun a => M a j * cofI k M a b)) = sumI k (fun b => if j = b then detI k M else 0) := sumI_congr (fun b hb => colI k M j b hk hj hb)
  rw [e2, sumI_delta, if_pos hj]
structure Kern (g : List (List Int)) (r q k : Nat) : Prop where
  game : gameB g = true
  part : Part g r q k
  x0 : ∀ i, i < g.length → 0 ≤ nth (kXL g r q) i
  y0 : ∀ j, j < (rowAt g 0).length → 0 ≤ nth (kYL g r q) j
  pos : 0 < kE g r q * kA g r q
  ex : kerX g (r : Int) (q : Int) = lowL (kXL g r q)
  ey : kerY g (r : Int) (q : Int) = lowL (kYL g r q)
theorem Kern.of {g : List (List Int)} {r q : Nat} (h : kerB g (r : Int) (q : Int) = true) : Kern g r q (popN r) := by
  obtain ⟨h1, h2, h3, h4, h5, h6, h7⟩ := kerB_parts h
  have hr := pw_lt h4
  have hq := pw_lt h5
  simp only [kOk, Bool.and_eq_true, posB_iff, Bool.not_eq_true', beq_eq_false_iff_ne] at h7
  obtain ⟨⟨k1, k2⟩, k3⟩ := h7
  refine ⟨h1, ⟨Game.of h1, h2, h3, cnt_pop _ _ hr.2, by rw [h6]; exact cnt_pop _ _ hq.2⟩, k2, k3, ?_, ?_, ?_⟩
  · unfold kE; split <;> omega
  · unfold kerX; rw [if_pos h]; simp
  · unfold kerY; rw [if_pos h]; simp
theorem Kern.row {g : List (List Int)} {r q k : Nat} (h : Kern g r q k) {i : Nat} (hi : i < g.length) (hb : bP r i = true) :
    lowG (kYL g r q) * rowD g (kerY g (r : Int) (q : Int)) i = kE g r q * detI k (Go.Proofs.YtlmaeadbomnhlaaGreat.partM (AG g) (sel (bP r) g.length) (sel (bP q) (rowAt g 0).length)) := by
  have a := cnt_mono (bP r) (i := i + 1) (k := g.length) (by omega)
  rw [cnt_yes hb, h.part.rows] at a
  rw [h.ey]
  unfold rowD
  rw [lowL_length, kYL_length, low_dot _ _ _ (by rw [kYL_length]; omega), h.part.dotY hi, ← rowY k _ (cnt (bP r) i) h.part.k4 (by omega), ← sumI_mul]
  refine sumI_congr (fun b hb' => ?_)
  show AG g i _ * _ = kE g r q * (AG g ((sel (bP r) g.length).getD (cnt (bP r) i) 0) _ * _)
  rw [sel_cnt hi hb]
  ac_rfl
theorem Kern.col {g : List (List Int)} {r q k : Nat} (h : Kern g r q k) {j : Nat} (hj : j < (rowAt g 0).length) (hb : bP q j = true) :
    lowG (kXL g r q) * colD g (kerX g (r : Int) (q : Int)) j = kE g r q * detI k (Go.Proofs.YtlmaeadbomnhlaaGreat.partM (AG g) (sel (bP r) g.length) (sel (bP q) (rowAt g 0).length)) := by
  have a := cnt_mono (bP q) (i := j + 1) (k := (rowAt g 0).length) (by omega)
  rw [cnt_yes hb, h.part.cols] at a
  rw [h.ex]
  unfold colD
  rw [low_dot _ _ _ (by rw [kXL_length]; omega), h.part.dotX hj, ← colX k _ (cnt (bP q) j) h.part.k4 (by omega), ← sumI_mul]
  refine sumI_congr (fun b hb' => ?_)
  show AG g _ j * _ = kE g r q * (AG g _ ((sel (bP q) (rowAt g 0).length).getD (cnt (bP q) j) 0) * _)
  rw [sel_cnt hj hb]
  ac_rfl
end Go.Proofs.YtlmaeadbomnhlaaGreat
