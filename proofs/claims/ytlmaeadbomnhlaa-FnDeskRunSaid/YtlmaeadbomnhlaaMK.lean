/- Texts in one: ImplH, ImplI, ImplJ, ImplK, ImplL. -/
import Derived.Test.YtlmaeadbomnhlaaMJ
import Derived.Test.YtlmaeadbomnhlaaMF
import Derived.Test.YtlmaeadbomnhlaaMG
import Derived.Deep.RegionWith
namespace Go.Proofs.Ytlmaeadbomnhlaa
set_option linter.unusedSimpArgs false
set_option linter.unusedVariables false
open Go.RowKit

/-- what a call leaves that hands back weights to be read, and a truth -/
def WRes (w : World) (l : List Int) (e : Ending) (w' : World) : Prop :=
  ∃ (A : Option Addr) (c : Nat), e = .returned (.tuple #[.slice A (wV l).length c, .bool (wOk l)]) ∧ Below w.heap.size w w' ∧ Ints w' (· < w'.heap.size) A (wV l)

theorem WRes.no {w w' : World} {l : List Int} {x : Value} (h : wOk l = false) (hx : x = .tuple #[.slice none 0 0, .bool false]) (hb : Below w.heap.size w w') : WRes w l (.returned x) w' := by
  have e : wV l = [] := by simp [wV, h]
  exact ⟨none, 0, by rw [hx, e, h]; rfl, hb, by rw [e]; exact Ints.nil _ _ _⟩

end Go.Proofs.Ytlmaeadbomnhlaa

namespace Go.Proofs.Ytlmaeadbomnhlaa
set_option linter.unusedSimpArgs false
set_option linter.unusedVariables false
open Go.RowKit

/-- while the weights of a set are put at their places: the first k are there -/
structure Sprd (w wr : World) (P : Nat → Bool) (x : List Int) (n k : Nat) : Prop where
  bel : Below w.heap.size w wr
  row : wr.rowIs w.heap.size 3 n (fun j => .int .i64 (if (P j && decide (cnt P j < k)) = true then nth x (cnt P j) else 0))

theorem Sprd.start (w : World) (P : Nat → Bool) (x : List Int) (n : Nat) : Sprd w (w.alloc (.cells (madeCells #[.int .i64 0] n) 3)) P x n 0 :=
  ⟨(Below.refl _ _).alloc (Nat.le_refl _) _, (World.rowIs_made w _ n _).congr (fun i _ => by simp)⟩

theorem Sprd.still {w wr w2 : World} {P : Nat → Bool} {x : List Int} {n k : Nat} (h : Sprd w wr P x n k) (hb : Below wr.heap.size wr w2) : Sprd w w2 P x n k :=
  ⟨belT h.bel hb, h.row.of_block (hb.block _ h.row.lt)⟩

theorem Sprd.step {w wr : World} {P : Nat → Bool} {x : List Int} {n k a : Nat} (h : Sprd w wr P x n k) (ha : a < n) (hp : P a = true) (hc : cnt P a = k) : Sprd w (wr.setCell ⟨w.heap.size, a, none⟩ (.int .i64 (nth x k))) P x n (k + 1) := by
  refine ⟨h.bel.setCell (Nat.le_refl _) _, (h.row.set a _).congr (fun j hj => ?_)⟩
  by_cases e : j = a
  · subst e; simp [hp, hc]
  · rw [if_neg e]
    by_cases hpj : P j = true
    · have hne : cnt P j ≠ k := by
        intro he
        have h1 := sel_cnt (P := P) (i := j) (k := n) hj hpj
        have h2 := sel_cnt (P := P) (i := a) (k := n) ha hp
        rw [he] at h1; rw [hc] at h2; omega
      by_cases hlt : cnt P j < k
      · simp [hpj, hlt, show cnt P j < k + 1 by omega]
      · simp [hpj, hlt, show ¬ cnt P j < k + 1 by omega]
    · simp [hpj]

theorem Sprd.done {w wr : World} {P : Nat → Bool} {x : List Int} {n k : Nat} (h : Sprd w wr P x n k) (hk : cnt P n ≤ k) : IntRow wr w.heap.size (spr P x n) := by
  have := h.row
  rw [← spr_length P x n] at this
  refine this.congr (fun i hi => ?_)
  rw [spr_length] at hi
  rw [nth_spr P x hi]
  by_cases hp : P i = true
  · have := cnt_lt hi hp
    simp [hp, show cnt P i < k by omega]
  · simp [hp]

def solB' (g : List (List Int)) : Bool := gameB g && decide (g.length ≤ 4) && decide ((rowAt g 0).length ≤ 4)

set_option maxHeartbeats 1000000 in
theorem solvedOkI (T : Option Addr) (c : Nat) (g : List (List Int)) (S : Nat → Prop) (hl : g.length ≤ maxLen) (w : World) (h : Rows2 w S T g) :
    Calls Try.prog 30 #[.slice T g.length c] w (Same (.bool (solB' g)) w) := by
  have HG : Hid (∀ w', Rows2 w' S T g → Calls Try.prog 50 #[.slice T g.length c] w' (Same (.bool (gameB g)) w')) := fun w' h' => game_impl T c g S hl w' h'
  have HR := Lib.hid h
  unfold maxLen at hl
  rcases hb : gameB g with _ | _
  · have hf : solB' g = false := by simp [solB', hb]
    rw [hb] at HG
    rw [hf]
    clear hb h hf
    go_enter Try.func30, Try.ntmps30
    go_wp2_with (go_at_call 50; refine (HG.out _ HR.out).mono ?_; rintro e w1 ⟨rfl, rfl⟩)
    go_ret
    exact Same.of rfl
  · have hg := Game.of hb
    have hp := hg.lo
    obtain ⟨b, off, rfl⟩ := h.some (by omega)
    obtain ⟨hS, A0, c0, hc0, hl0, hm0, _⟩ := h.row (i := 0) (by omega)
    rw [Nat.add_zero] at hc0
    unfold maxLen at hm0
    have hp2 : (0 : Int) < (g.length : Int) := by omega
    rw [hb] at HG
    by_cases h4 : g.length ≤ 4
    · have hf : solB' g = decide ((rowAt g 0).length ≤ 4) := by simp [solB', hb, h4]
      rw [hf]
      clear hb h hf hg
      go_enter Try.func30, Try.ntmps30
      go_wp2_with (go_at_call 50; refine (HG.out _ HR.out).mono ?_; rintro e w1 ⟨rfl, rfl⟩)
      go_ret
      exact Same.of (by simp; try omega)
    · have hf : solB' g = false := by simp [solB', h4]
      have hd : decide ((g.length : Int) ≤ 4) = false := by simp; omega
      rw [hf]
      clear hb h hf hg
      go_enter Try.func30, Try.ntmps30
      go_wp2_with (go_at_call 50; refine (HG.out _ HR.out).mono ?_; rintro e w1 ⟨rfl, rfl⟩)
      go_ret
      exact Same.of rfl

end Go.Proofs.Ytlmaeadbomnhlaa

namespace Go.Proofs.Ytlmaeadbomnhlaa
set_option linter.unusedSimpArgs false
set_option linter.unusedVariables false
open Go.RowKit



end Go.Proofs.Ytlmaeadbomnhlaa

namespace Go.Proofs.Ytlmaeadbomnhlaa
set_option linter.unusedSimpArgs false
set_option linter.unusedVariables false
open Go.RowKit

theorem TwoOwn.no {w w' : World} {x : Value} (hx : x = .tuple #[.slice none 0 0, .slice none 0 0, .bool false]) (hb : Below w.heap.size w w') : TwoOwn w [] [] false (.returned x) w' :=
  ⟨none, 0, none, 0, by rw [hx]; rfl, hb, fun h => absurd h (by simp), fun h => absurd h (by simp), fun h => absurd h (by simp)⟩

end Go.Proofs.Ytlmaeadbomnhlaa

namespace Go.Proofs.Ytlmaeadbomnhlaa
set_option linter.unusedSimpArgs false
set_option linter.unusedVariables false
open Go.RowKit

theorem inR_inB (b : Int) : inR b (-9) 9 = inB b := by
  unfold inR inB; rw [Bool.eq_iff_iff, Bool.and_eq_true]; simp only [decide_eq_true_eq]

set_option maxHeartbeats 1000000 in
theorem shift_un (T : Option Addr) (c : Nat) (g : List (List Int)) (b : Int) (hl : g.length ≤ maxLen) (w : World) (h : Rows2 w (· < w.heap.size) T g) (hs : gameB g = false) :
    Calls Try.prog 98 #[.slice T g.length c, .int .i64 b] w (TabRes w [] false) := by
  have HS := Lib.hid (game_impl T c g _ hl w h)
  rw [hs] at HS
  clear h hl hs
  go_enter Try.func98, Try.ntmps98
  go_wp2_with (go_at_call 50; refine HS.out.mono ?_; rintro e w1 ⟨rfl, rfl⟩)
  go_ret2
  exact TabRes.none (A := none) rfl (Below.refl _ _)

set_option maxHeartbeats 1000000 in
theorem shift_by (T : Option Addr) (c : Nat) (g : List (List Int)) (b : Int) (hl : g.length ≤ maxLen) (w : World) (h : Rows2 w (· < w.heap.size) T g) (hs : gameB g = true) (hb : inB b = false) :
    Calls Try.prog 98 #[.slice T g.length c, .int .i64 b] w (TabRes w [] false) := by
  have HS := Lib.hid (game_impl T c g _ hl w h)
  have HB := Lib.hid (numberOk b w)
  rw [hs] at HS
  rw [hb] at HB
  clear h hl hs hb
  go_enter Try.func98, Try.ntmps98
  go_wp2_with (first | (go_at_call 50; refine HS.out.mono ?_; rintro e w1 ⟨rfl, rfl⟩) | (go_at_call 104; refine HB.out.mono ?_; rintro e w1 ⟨rfl, rfl⟩))
  go_ret2
  exact TabRes.none (A := none) rfl (Below.refl _ _)

set_option maxHeartbeats 2000000 in
set_option maxRecDepth 100000 in
theorem shift_made (T : Option Addr) (c : Nat) (g t : List (List Int)) (b : Int) (p : Bool) (hl : g.length ≤ maxLen) (w : World) (h : Rows2 w (· < w.heap.size) T g) (hs : gameB g = true) (hb : inB b = true)
    (ht1 : t.length = g.length) (ht2 : ∀ i, i < g.length → (rowAt t i).length = (rowAt g 0).length) (ht3 : ∀ i j, i < g.length → j < (rowAt g 0).length → nth (rowAt t i) j = nth (rowAt g i) j + b) (hp : gameB t = p) :
    Calls Try.prog 98 #[.slice T g.length c, .int .i64 b] w (TabRes w (bif p then t else []) p) := by
  have hg := Game.of hs
  have h0 := hg.lo
  have h16 := hg.hi
  have n0 := hg.mlo
  have n16 := hg.mhi
  obtain ⟨hb1, hb2⟩ := inB_iff.1 hb
  have HS := Lib.hid (game_impl T c g _ hl w h)
  have HB : Hid (∀ w', Calls Try.prog 104 #[.int .i64 b] w' (Same (.bool true) w')) := fun w' => by have := numberOk b w'; rw [hb] at this; exact this
  rw [hs] at HS
  have HGM : Hid (∀ (A : Option Addr) (c' : Nat) (w' : World), Rows2 w' (· < w'.heap.size) A t → Calls Try.prog 50 #[.slice A g.length c'] w' (Same (.bool p) w')) := fun A c' w' h' => by
    have := game_impl A c' t _ (by rw [ht1]; exact hl) w' h'; rw [hp, ht1] at this; exact this
  have HG := Lib.hid hg
  have HR := Lib.hid h
  have HL := Lib.hid ht1
  have HRL := Lib.hid ht2
  have HN3 := Lib.hid ht3
  have hmk1 := run_make_row' (P := Try.prog) 23 28 _ 24 Try.underlying23 infoR rfl .i64 .i64 g.length (by omega) (by omega)
  have hmk2 := run_make_row' (P := Try.prog) 28 3 _ 8 Try.underlying28 infoI rfl .i64 .i64 (rowAt g 0).length (by omega) (by omega)
  have F0 : Hid (Laying w (w.alloc (.cells (madeCells #[.slice none 0 0] g.length) 28)) t 0) := by
    have := Laying.start w t; rw [ht1] at this; exact this
  clear h hl hs hb hg ht1 ht2 ht3 hp
  go_enter Try.func98, Try.ntmps98
  go_wp2_with (first | (go_at_call 50; refine HS.out.mono ?_; rintro e w1 ⟨rfl, rfl⟩) | (go_at_call 104; refine (HB.out _).mono ?_; rintro e w1 ⟨rfl, rfl⟩))
  clear hmk1
  go_loopw [24] (fun i wr => ∃ k : Nat, k ≤ g.length ∧ i = .int .i64 k ∧ Hid (Laying w wr t k)) (fun i _ => g.length - (intOf i).toNat)
  case atStart => exact ⟨0, Nat.zero_le _, rfl, F0⟩
  case round =>
    obtain ⟨k, hk, rfl, HF⟩ := hrel
    by_cases hlt : k < g.length
    · have HC := Lib.hid (HRL.out k hlt)
      have hlt' : k < t.length := by rw [HL.out]; exact hlt
      have hgl := HG.out.len k hlt
      obtain ⟨bt, ot, rfl⟩ := HR.out.some (by omega)
      obtain ⟨hS, Ak, ck, hck, hlk, hmk, hik⟩ := (keepRows HF.out.bel HR.out).row hlt
      rw [hgl] at hck hlk
      unfold maxLen at hmk
      have hst1 : ∀ o, (wr.alloc o).cell? ⟨w.heap.size, k, none⟩ = some (.slice none 0 0) := fun o => by
        have := ((HF.out.top).alloc o).cell (i := k) hlt'; rwa [if_neg (by omega)] at this
      have hst2 : ∀ o, (wr.alloc o).frozen? ⟨w.heap.size, k, none⟩ = false := fun o => (HF.out.top.alloc o).frozen k
      have HI : Hid (LayIn w ((wr.alloc (.cells (madeCells #[.int .i64 0] (rowAt g 0).length) 3)).setCell ⟨w.heap.size, k, none⟩ (.slice (some ⟨wr.heap.size, 0, none⟩) (rowAt g 0).length (rowAt g 0).length)) t k 0) := by
        have := HF.out.open_; rw [HC.out] at this; exact this
      have HIK := Lib.hid hik
      have HGL := Lib.hid hgl
      clear hik hgl
      go_wp2_with fail
      clear hst1 hst2
      go_loopw [37] (fun i wi => ∃ r : Nat, r ≤ (rowAt g 0).length ∧ i = .int .i64 r ∧ Hid (LayIn w wi t k r)) (fun i _ => (rowAt g 0).length - (intOf i).toNat)
      case atStart => exact ⟨0, Nat.zero_le _, rfl, HI⟩
      case round =>
        obtain ⟨r, hr, rfl, HI⟩ := hrel
        by_cases hlr : r < (rowAt g 0).length
        · have R := keepRows HI.out.bel HR.out
          obtain ⟨b2, off2, c2, hd1, hd2, hd3, hS2, hd0⟩ := R.cell (i := k) (j := r) hlt (by rw [HGL.out]; exact hlr)
          have e1 := (R.row hlt).2
          have hd0' : Ak = some ⟨b2, off2, none⟩ := by
            have e := (HI.out.bel.cell (p := ⟨bt, ot + k, none⟩) hS)
            have e2 := (HF.out.bel.cell (p := ⟨bt, ot + k, none⟩) hS)
            rw [e] at hd1
            rw [e2] at hck
            rw [hck, HGL.out] at hd1
            cases hd1; rfl
          subst hd0'
          have g1 : wr.cell? ⟨w.heap.size, k, none⟩ = some (.slice (some ⟨w.heap.size + 1 + k, 0, none⟩) (rowAt g 0).length (rowAt g 0).length) := by have := HI.out.cell hlt'; rwa [HC.out] at this
          obtain ⟨z, g2⟩ : ∃ z, wr.cell? ⟨w.heap.size + 1 + k, r, none⟩ = some z := ⟨_, HI.out.cur.cell (i := r) (by rw [HC.out]; exact hlr)⟩
          have g3 : wr.frozen? ⟨w.heap.size + 1 + k, r, none⟩ = false := HI.out.cur.frozen r
          have HN : Hid (LayIn w (wr.setCell ⟨w.heap.size + 1 + k, r, none⟩ (.int .i64 (nth (rowAt g k) r + b))) t k (r + 1)) := by
            have := HI.out.step; rw [HN3.out k r hlt hlr] at this; exact this
          have hx1 := HG.out.nlo k hlt r hlr
          have hx2 := HG.out.nhi k hlt r hlr
          have hw1 : IntKind.i64.wrap (nth (rowAt g k) r + b) = nth (rowAt g k) r + b := IntWalk.i64_in _ (by omega)
          have q1 : (0 : Int) ≤ (k : Int) := by omega
          have q2 : (k : Int) < (g.length : Int) := by omega
          have q3 : (0 : Int) ≤ (r : Int) := by omega
          have q4 : (r : Int) < ((rowAt g 0).length : Int) := by omega
          clear HI R e1 hd1 hd2 hd3
          go_wp2_with fail
          go_roundw
          case rel => exact ⟨r + 1, by omega, by go_num, HN⟩
          case measure => simp [intOf]; omega
        · have hre : r = (rowAt g 0).length := by omega
          subst hre
          have HN : Hid (Laying w wr t (k + 1)) := by
            have := HI.out; rw [← HC.out] at this; exact this.close
          go_wp2_with fail
          go_roundw
          case rel => exact ⟨k + 1, by omega, by go_num, HN⟩
          case measure => simp [intOf]; omega
    · obtain rfl : k = g.length := by omega
      have HD : Hid (Laid w wr t) := by have := HF.out; rw [← HL.out] at this; exact this
      have hm : ∀ i, i < t.length → (rowAt t i).length ≤ 4294967296 := fun i hi => by rw [HRL.out i (by rw [← HL.out]; exact hi)]; omega
      have HRD := Lib.hid (NewRows.reads HD.out hm)
      have HOWN := Lib.hid (Laid.own HD.out (fun i hi => by have := hm i hi; unfold maxLen; omega))
      have HBL := Lib.hid HD.out.bel
      clear HF hm
      go_wp2_with fail
      refine (HGM.out _ _ _ HRD.out).mono ?_
      rintro e w1 ⟨rfl, rfl⟩
      cases p with
      | false =>
        go_wp2_with fail
        go_ret2
        exact TabRes.none (A := none) rfl HBL.out
      | true =>
        go_wp2_with fail
        go_ret2
        exact ⟨_, g.length, by show _ = Ending.returned (.tuple #[.slice _ t.length _, _]); rw [HL.out]; rfl, HBL.out, HOWN.out⟩

theorem shift_impl (T : Option Addr) (c : Nat) (g : List (List Int)) (b : Int) (hl : g.length ≤ maxLen) (w : World) (h : Rows2 w (· < w.heap.size) T g) :
    Calls Try.prog 98 #[.slice T g.length c, .int .i64 b] w (TabRes w (shi g b) (shiB g b)) := by
  rcases hs : gameB g with _ | _
  · have e : shiB g b = false := by simp [shiB, hs]
    rw [show shi g b = [] by simp [shi, e], e]
    exact shift_un T c g b hl w h hs
  rcases hb : inB b with _ | _
  · have e : shiB g b = false := by simp [shiB, inR_inB, hb]
    rw [show shi g b = [] by simp [shi, e], e]
    exact shift_by T c g b hl w h hs hb
  · have e : shiB g b = gameB (shiL g b) := by simp [shiB, inR_inB, hb, hs]
    have := shift_made T c g (shiL g b) b _ hl w h hs hb (shiL_length g b) (fun i hi => shiL_row_length g b i hi) (fun i j hi hj => nth_shiL g b i j hi hj) rfl
    rw [← e] at this
    rw [show shi g b = bif shiB g b then shiL g b else [] by unfold shi; cases shiB g b <;> rfl]
    exact this

end Go.Proofs.Ytlmaeadbomnhlaa
