/- Texts in one: RingM, RingA, RingB, RingC, RingD. -/
import Derived.Test.YtanfefgigepdcaaMC
import Derived.Test.YtanfefgigepdcaaOA
import Derived.Outline
import Derived.Test.YtanfefgigepdcaaOB
namespace Go.Proofs.Ytanfefgigepdcaa
set_option linter.unusedSimpArgs false
set_option linter.unusedVariables false
open Go.RowKit

/-- a table of n rows and columns that is itself from the other side -/
structure AntiT (n : Nat) (T : List (List Int)) : Prop where
  len : T.length = n
  row : ∀ i, i < n → (rowAt T i).length = n
  anti : ∀ i j, i < n → j < n → nth (rowAt T i) j = -nth (rowAt T j) i

theorem AntiT.self {n : Nat} {T : List (List Int)} (h : AntiT n T) {i : Nat} (hi : i < n) : nth (rowAt T i) i = 0 := by
  have := h.anti i i hi hi; omega

/-- what stands there while row k is filled, of which r numbers are -/
def fillV (T : List (List Int)) (k r j x : Nat) : Int := if (j < k ∧ x < k) ∨ (j = k ∧ x < r) ∨ (x = k ∧ j < r) then nth (rowAt T j) x else 0

/-- the first m rows are made; of row and column k the first r numbers are there, and all of those before -/
structure Fairing (w wr : World) (n : Nat) (T : List (List Int)) (A : Nat → Nat) (m k r : Nat) : Prop where
  bel : Below w.heap.size w wr
  size : w.heap.size < wr.heap.size
  top : wr.rowIs w.heap.size 31 n (fun j => if j < m then .slice (some ⟨A j, 0, none⟩) n n else .slice none 0 0)
  rows : ∀ j, j < m → wr.rowIs (A j) 3 n (fun x => .int .i64 (fillV T k r j x))
  lo : ∀ j, j < m → w.heap.size < A j
  apart : ∀ i j, i < m → j < m → i ≠ j → A i ≠ A j

theorem Fairing.start (w : World) (n : Nat) (T : List (List Int)) (A : Nat → Nat) : Fairing w (w.alloc (.cells (madeCells #[.slice none 0 0] n) 31)) n T A 0 0 0 :=
  ⟨(Below.refl _ _).alloc (Nat.le_refl _) _, by simp, (World.rowIs_made w _ _ _).congr (fun j _ => by simp), fun j hj => absurd hj (Nat.not_lt_zero _), fun j hj => absurd hj (Nat.not_lt_zero _), fun i j hi => absurd hi (Nat.not_lt_zero _)⟩

theorem Fairing.keep {w wr w' : World} {n : Nat} {T : List (List Int)} {A : Nat → Nat} {m k r : Nat} (h : Fairing w wr n T A m k r) (hb : Below wr.heap.size wr w') : Fairing w w' n T A m k r :=
  ⟨h.bel.trans (hb.mono (Nat.le_of_lt h.size)), Nat.lt_of_lt_of_le h.size hb.size, h.top.of_block (hb.block _ h.size), fun j hj => (h.rows j hj).of_block (hb.block _ (h.rows j hj).lt), h.lo, h.apart⟩

/-- a further row is made -/
theorem Fairing.open_ {w wr : World} {n : Nat} {T : List (List Int)} {A : Nat → Nat} {k : Nat} (h : Fairing w wr n T A k k 0) :
    Fairing w ((wr.alloc (.cells (madeCells #[.int .i64 0] n) 3)).setCell ⟨w.heap.size, k, none⟩ (.slice (some ⟨wr.heap.size, 0, none⟩) n n)) n T (fun j => if j < k then A j else wr.heap.size) (k + 1) k 0 := by
  have hz := h.size
  have hnew := World.rowIs_made wr (.int .i64 0) n 3
  refine ⟨(h.bel.alloc (by omega) _).setCell (Nat.le_refl _) _, by simp [World.setCell]; omega, ((h.top.alloc _).set k _).congr (fun j _ => ?_), fun j hj => ?_, fun j hj => ?_, fun i j hi hj hne => ?_⟩
  · by_cases e : j = k
    · subst e; simp
    · rw [if_neg e]
      by_cases hlt : j < k
      · rw [if_pos hlt, if_pos (by omega), if_pos hlt]
      · rw [if_neg hlt, if_neg (by omega)]
  · by_cases hlt : j < k
    · rw [if_pos hlt]
      have := h.lo j hlt
      exact ((h.rows j hlt).alloc _).setOther (by show A j ≠ w.heap.size; omega) _
    · obtain rfl : j = k := by omega
      rw [if_neg hlt]
      refine (hnew.setOther (by show wr.heap.size ≠ w.heap.size; omega) _).congr (fun x _ => ?_)
      unfold fillV
      rw [if_neg (by omega)]
  · by_cases hlt : j < k
    · rw [if_pos hlt]; exact h.lo j hlt
    · rw [if_neg hlt]; exact hz
  · by_cases hi' : i < k
    · by_cases hj' : j < k
      · rw [if_pos hi', if_pos hj']; exact h.apart i j hi' hj' hne
      · rw [if_pos hi', if_neg hj']; have := (h.rows i hi').lt; omega
    · by_cases hj' : j < k
      · rw [if_neg hi', if_pos hj']; have := (h.rows j hj').lt; omega
      · omega

/-- a number and the same with the other sign are stored -/
theorem Fairing.step {w wr : World} {n : Nat} {T : List (List Int)} {A : Nat → Nat} {k r : Nat} (hT : AntiT n T) (hk : k < n) (hr : r < k) (h : Fairing w wr n T A (k + 1) k r) :
    Fairing w ((wr.setCell ⟨A r, k, none⟩ (.int .i64 (nth (rowAt T r) k))).setCell ⟨A k, r, none⟩ (.int .i64 (-nth (rowAt T r) k))) n T A (k + 1) k (r + 1) := by
  have hlr := h.lo r (by omega)
  have hlk := h.lo k (by omega)
  have hne := h.apart r k (by omega) (by omega) (by omega)
  refine ⟨(h.bel.setCell (by show w.heap.size ≤ A r; omega) _).setCell (by show w.heap.size ≤ A k; omega) _, by simp [World.setCell]; exact h.size, (h.top.setOther (by show w.heap.size ≠ A r; omega) _).setOther (by show w.heap.size ≠ A k; omega) _, fun j hj => ?_, h.lo, h.apart⟩
  have hlj := h.lo j hj
  have fv : ∀ x, ¬ (j = r ∧ x = k) → ¬ (j = k ∧ x = r) → fillV T k r j x = fillV T k (r + 1) j x := fun x h1 h2 => by
    unfold fillV
    by_cases hc : (j < k ∧ x < k) ∨ (j = k ∧ x < r) ∨ (x = k ∧ j < r)
    · rw [if_pos hc, if_pos (by omega)]
    · rw [if_neg hc, if_neg (by omega)]
  by_cases e1 : j = r
  · subst e1
    refine (((h.rows j hj).set k _).setOther (by show A j ≠ A k; exact hne) _).congr (fun x _ => ?_)
    by_cases ex : x = k
    · subst ex; rw [if_pos rfl]; unfold fillV; rw [if_pos (by omega)]
    · rw [if_neg ex, fv x (by omega) (by omega)]
  · by_cases e2 : j = k
    · subst e2
      refine (((h.rows j hj).setOther (by show A j ≠ A r; exact fun e => hne e.symm) _).set r _).congr (fun x _ => ?_)
      by_cases ex : x = r
      · subst ex; rw [if_pos rfl]; unfold fillV; rw [if_pos (by omega), hT.anti j x hk (by omega)]
      · rw [if_neg ex, fv x (by omega) (by omega)]
    · exact (((h.rows j hj).setOther (by show A j ≠ A r; exact h.apart j r hj (by omega) e1) _).setOther (by show A j ≠ A k; exact h.apart j k hj (by omega) e2) _).congr (fun x _ => by rw [fv x (by omega) (by omega)])

theorem Fairing.next {w wr : World} {n : Nat} {T : List (List Int)} {A : Nat → Nat} {k : Nat} (hT : AntiT n T) (hk : k < n) (h : Fairing w wr n T A (k + 1) k k) : Fairing w wr n T A (k + 1) (k + 1) 0 :=
  ⟨h.bel, h.size, h.top, fun j hj => (h.rows j hj).congr (fun x _ => by
    unfold fillV
    by_cases hc : (j < k ∧ x < k) ∨ (j = k ∧ x < k) ∨ (x = k ∧ j < k)
    · rw [if_pos hc, if_pos (by omega)]
    · rw [if_neg hc]
      by_cases he : j = k ∧ x = k
      · rw [if_pos (by omega), he.1, he.2, hT.self hk]
      · rw [if_neg (by omega)]), h.lo, h.apart⟩

theorem Fairing.done {w wr : World} {n : Nat} {T : List (List Int)} {A : Nat → Nat} (hT : AntiT n T) (hn : n ≤ maxLen) (h : Fairing w wr n T A n n 0) : OwnR wr w.heap.size wr.heap.size (some ⟨w.heap.size, 0, none⟩) T := by
  intro h0
  have hl := hT.len
  refine ⟨w.heap.size, n, _, fun j => some ⟨A j, 0, none⟩, fun _ => n, rfl, Nat.le_refl _, h.size, by omega, h.top, fun i hi => by rw [if_pos (by omega), hT.row i (by omega)], ⟨fun i hi => ⟨by rw [hT.row i (by omega)]; exact Nat.le_refl _, hn⟩, fun i hi _ => ?_, fun i j hi hj hne _ _ e => ?_⟩⟩
  · have := h.lo i (by omega)
    refine ⟨A i, n, _, rfl, by omega, (h.rows i (by omega)).lt, h.rows i (by omega), by rw [hT.row i (by omega)]; exact Nat.le_refl _, fun x hx => ?_⟩
    rw [hT.row i (by omega)] at hx
    unfold fillV
    rw [if_pos (by omega)]
  · injection e with e; injection e with e
    exact h.apart i j (by omega) (by omega) hne e

end Go.Proofs.Ytanfefgigepdcaa

namespace Go.Proofs.Ytanfefgigepdcaa
set_option linter.unusedSimpArgs false
set_option linter.unusedVariables false
open Go.RowKit

/-- one number beside another one -/
def cmpV (a b : Int) : Int := if a < b then -1 else if b < a then 1 else 0

theorem cmpI (a b : Int) (w : World) : Calls Try.prog 97 #[.int .i64 a, .int .i64 b] w (Same (.int .i64 (cmpV a b)) w) := by
  have HN : Hid (∀ x : Int, ∀ w', Calls Try.prog 111 #[.int .i64 x] w' (Same (.bool false) w')) := fun x w' => by
    have z : (x != x) = false := by simp
    go_enter Try.func111, Try.ntmps111
    go_wp2_with fail
    go_ret
    exact Same.of rfl
  unfold cmpV
  by_cases h1 : a < b
  · rw [if_pos h1]
    go_enter Try.func97, Try.ntmps97
    go_wp2_with (go_at_call 111; refine (HN.out _ _).mono ?_; rintro e w1 ⟨rfl, rfl⟩)
    go_ret
    exact Same.of rfl
  · rw [if_neg h1]
    by_cases h2 : b < a
    · rw [if_pos h2]
      go_enter Try.func97, Try.ntmps97
      go_wp2_with (go_at_call 111; refine (HN.out _ _).mono ?_; rintro e w1 ⟨rfl, rfl⟩)
      go_ret
      exact Same.of rfl
    · rw [if_neg h2]
      go_enter Try.func97, Try.ntmps97
      go_wp2_with (go_at_call 111; refine (HN.out _ _).mono ?_; rintro e w1 ⟨rfl, rfl⟩)
      go_ret
      exact Same.of rfl

theorem list_ne {l m : List Int} {k : Nat} (h : nth l k ≠ nth m k) : decide (l = m) = false := decide_eq_false fun e => h (by rw [e])

theorem list_eq {l m : List Int} (hl : l.length = m.length) (h : ∀ i, i < l.length → nth l i = nth m i) : l = m := by
  refine List.ext_getElem hl fun i h1 h2 => ?_
  have := h i h1
  unfold nth at this
  simpa [h1, h2] using this

set_option maxHeartbeats 1000000 in
theorem equalI (A B : Option Addr) (c d : Nat) (l m : List Int) (S T : Nat → Prop) (hl : l.length ≤ maxLen) (hm : m.length ≤ maxLen) (w : World) (h : Ints w S A l) (h' : Ints w T B m) :
    Calls Try.prog 50 #[.slice A l.length c, .slice B m.length d] w (Quiet (.bool (decide (l = m))) w) := by
  unfold maxLen at hl hm
  have HH := Lib.hid h
  have HK := Lib.hid h'
  clear h h'
  by_cases hlm : l.length = m.length
  · have z1 : ((l.length : Int) != (m.length : Int)) = false := by rw [hlm]; simp
    have HL := Lib.hid hlm
    clear hlm
    go_enter Try.func50, Try.ntmps50
    go_wp2_with fail
    go_loopw [13] (fun i wr => ∃ k : Nat, k ≤ l.length ∧ i = .int .i64 k ∧ Hid (∀ i, i < k → nth l i = nth m i) ∧ ∃ n, wr = w.drewN n) (fun i _ => l.length - (intOf i).toNat)
    case atStart => exact ⟨0, Nat.zero_le _, rfl, fun i hi => absurd hi (Nat.not_lt_zero _), (by first | exact ⟨0, rfl⟩ | exact ⟨_, rfl⟩ | exact ⟨_, World.drewN_drewN _ _ _⟩ | (simp only [World.drewN_drewN]; exact ⟨_, rfl⟩))⟩
    case round =>
      obtain ⟨k, hk, rfl, HA, n, rfl⟩ := hrel
      by_cases hlt : k < l.length
      · obtain ⟨b, off, rfl, hS, hc⟩ := HH.out.at_ hlt
        obtain ⟨b', off', rfl, hS', hc'⟩ := HK.out.at_ (i := k) (by rw [← HL.out]; exact hlt)
        have hck := hc k hlt
        have hck' := hc' k (by rw [← HL.out]; exact hlt)
        have hkm : k < m.length := by rw [← HL.out]; exact hlt
        clear hc hc'
        by_cases he : nth l k = nth m k
        · have z2 : (nth l k != nth m k) = false := by simp [he]
          have HA2 : Hid (∀ i, i < k + 1 → nth l i = nth m i) := fun i hi => by
            by_cases e : i = k
            · subst e; exact he
            · exact HA.out i (by omega)
          clear he HA
          go_wp2_with fail
          go_quiet (fail)
          go_wp2_with fail
          go_roundw
          case rel => exact ⟨k + 1, by omega, by go_num, HA2, (by first | exact ⟨0, rfl⟩ | exact ⟨_, rfl⟩ | exact ⟨_, World.drewN_drewN _ _ _⟩ | (simp only [World.drewN_drewN]; exact ⟨_, rfl⟩))⟩
          case measure => simp [intOf]; omega
        · have z2 : (nth l k != nth m k) = true := by simp [he]
          have HN := Lib.hid (list_ne he)
          clear he HA
          go_wp2_with fail
          go_quiet (fail)
          go_wp2_with fail
          go_ret
          exact Quiet.ofD (by rw [HN.out]; rfl) (by first | exact ⟨0, rfl⟩ | exact ⟨_, rfl⟩ | exact ⟨_, World.drewN_drewN _ _ _⟩ | (simp only [World.drewN_drewN]; exact ⟨_, rfl⟩))
      · obtain rfl : k = l.length := by omega
        have HN : Hid (decide (l = m) = true) := decide_eq_true (list_eq HL.out HA.out)
        go_wp2_with fail
        go_ret
        exact Quiet.ofD (by rw [HN.out]; rfl) (by first | exact ⟨0, rfl⟩ | exact ⟨_, rfl⟩ | exact ⟨_, World.drewN_drewN _ _ _⟩ | (simp only [World.drewN_drewN]; exact ⟨_, rfl⟩))
  · have z1 : ((l.length : Int) != (m.length : Int)) = true := by simp; omega
    have HN : Hid (decide (l = m) = false) := decide_eq_false fun e => hlm (by rw [e])
    have hlm2 : ¬ (l.length : Int) = (m.length : Int) := by omega
    go_enter Try.func50, Try.ntmps50
    go_wp2_with fail
    go_ret
    exact Quiet.of (by rw [HN.out]; rfl)

theorem rows_ne {g T : List (List Int)} {k : Nat} (h : rowAt g k ≠ rowAt T k) : decide (g = T) = false := decide_eq_false fun e => h (by rw [e])

theorem rows_eq {g T : List (List Int)} (hl : g.length = T.length) (h : ∀ i, i < g.length → rowAt g i = rowAt T i) : g = T := by
  refine List.ext_getElem hl fun i h1 h2 => ?_
  have := h i h1
  unfold rowAt at this
  simpa [h1, h2] using this

set_option maxHeartbeats 1000000 in
theorem equalRows (A B : Option Addr) (c d : Nat) (g T : List (List Int)) (S S' : Nat → Prop) (hl : g.length ≤ maxLen) (hm : T.length ≤ maxLen) (w : World) (h : Rows2 w S A g) (h' : Rows2 w S' B T) :
    Calls Try.prog 48 #[.slice A g.length c, .slice B T.length d, .func (.func 50) #[] #[]] w (Quiet (.bool (decide (g = T))) w) := by
  unfold maxLen at hl hm
  have HH := Lib.hid h
  have HK := Lib.hid h'
  have hE := enters_of Try.func50 (by kernel_rfl) rfl
  clear h h'
  by_cases hlm : g.length = T.length
  · have z1 : ((g.length : Int) != (T.length : Int)) = false := by rw [hlm]; simp
    have HL := Lib.hid hlm
    clear hlm
    go_enter Try.func48, Try.ntmps48
    go_wp2_with fail
    go_loopw [17] (fun i wr => ∃ k : Nat, k ≤ g.length ∧ i = .int .i64 k ∧ Hid (∀ i, i < k → rowAt g i = rowAt T i) ∧ ∃ n, wr = w.drewN n) (fun i _ => g.length - (intOf i).toNat)
    case atStart => exact ⟨0, Nat.zero_le _, rfl, fun i hi => absurd hi (Nat.not_lt_zero _), (by first | exact ⟨0, rfl⟩ | exact ⟨_, rfl⟩ | exact ⟨_, World.drewN_drewN _ _ _⟩ | (simp only [World.drewN_drewN]; exact ⟨_, rfl⟩))⟩
    case round =>
      obtain ⟨k, hk, rfl, HA, n, rfl⟩ := hrel
      by_cases hlt : k < g.length
      · obtain ⟨b, off, rfl⟩ := HH.out.some (by omega)
        obtain ⟨b', off', rfl⟩ := HK.out.some (by rw [← HL.out]; omega)
        obtain ⟨hS, Ak, ck, hck, hlk, hmk, hik⟩ := HH.out.row hlt
        obtain ⟨hS', Bk, dk, hdk, hlk', hmk', hik'⟩ := HK.out.row (i := k) (by rw [← HL.out]; exact hlt)
        have HQ := Lib.hid (fun n' => equalI Ak Bk ck dk (rowAt g k) (rowAt T k) S S' (Nat.le_trans hlk hmk) (Nat.le_trans hlk' hmk') (w.drewN n') (hik.drewN _) (hik'.drewN _))
        have hkm : k < T.length := by rw [← HL.out]; exact hlt
        clear hik hik' hmk hmk' hlk hlk'
        go_wp2_with fail
        refine (HQ.out _).mono ?_
        rintro e w1 ⟨rfl, n2, rfl⟩
        rcases he : decide (rowAt g k = rowAt T k) with _ | _
        · have HN := Lib.hid (rows_ne (of_decide_eq_false he))
          clear HA HQ he
          go_wp2_with fail
          go_ret
          exact Quiet.ofD (by rw [HN.out]; rfl) (by first | exact ⟨0, rfl⟩ | exact ⟨_, rfl⟩ | exact ⟨_, World.drewN_drewN _ _ _⟩ | (simp only [World.drewN_drewN]; exact ⟨_, rfl⟩))
        · have HA2 : Hid (∀ i, i < k + 1 → rowAt g i = rowAt T i) := fun i hi => by
            by_cases e : i = k
            · subst e; exact of_decide_eq_true he
            · exact HA.out i (by omega)
          clear HA HQ he
          go_wp2_with fail
          go_roundw
          case rel => exact ⟨k + 1, by omega, by go_num, HA2, (by first | exact ⟨0, rfl⟩ | exact ⟨_, rfl⟩ | exact ⟨_, World.drewN_drewN _ _ _⟩ | (simp only [World.drewN_drewN]; exact ⟨_, rfl⟩))⟩
          case measure => simp [intOf]; omega
      · obtain rfl : k = g.length := by omega
        have HN : Hid (decide (g = T) = true) := decide_eq_true (rows_eq HL.out HA.out)
        go_wp2_with fail
        go_ret
        exact Quiet.ofD (by rw [HN.out]; rfl) (by first | exact ⟨0, rfl⟩ | exact ⟨_, rfl⟩ | exact ⟨_, World.drewN_drewN _ _ _⟩ | (simp only [World.drewN_drewN]; exact ⟨_, rfl⟩))
  · have HN : Hid (decide (g = T) = false) := decide_eq_false fun e => hlm (by rw [e])
    have hlm2 : ¬ (g.length : Int) = (T.length : Int) := by omega
    go_enter Try.func48, Try.ntmps48
    go_wp2_with fail
    go_ret
    exact Quiet.of (by rw [HN.out]; rfl)

theorem fair_turned {g : List (List Int)} (h : gameB g = true) : fairB g = decide (g = turned g) := by
  rcases hb : fairB g with _ | _
  · refine (decide_eq_false fun e => ?_).symm
    have hg := Game.of h
    have et : turned g = turnedL g := by simp [turned, h]
    rw [et] at e
    have hsq : g.length = (rowAt g 0).length := by
      have := congrArg List.length e; rwa [turnedL_length] at this
    have : fairB g = true := fairB_iff.2 ⟨h, hsq, fun i j hi hj => by
      have e1 : nth (rowAt g i) j = nth (rowAt (turnedL g) i) j := by rw [← e]
      rw [e1, nth_turnedL g i j (by rw [← hsq]; exact hi) hj]⟩
    rw [this] at hb; cases hb
  · exact (decide_eq_true (fairB_iff.1 hb).turned.symm).symm

set_option maxHeartbeats 1000000 in
theorem fair_impl (A : Option Addr) (c : Nat) (g : List (List Int)) (hl : g.length ≤ maxLen) (w : World) (h : Rows2 w (· < w.heap.size) A g) :
    Calls Try.prog 14 #[.slice A g.length c] w (Adds (.bool (fairB g)) w) := by
  have HR := Lib.hid h
  rcases hb : gameB g with _ | _
  · have H1 : Hid (fairB g = false) := by show _ = _; unfold fairB; rw [hb]; rfl
    have HB := Lib.hid hb
    clear hb h
    rw [H1.out]
    go_enter Try.func14, Try.ntmps14
    go_wp2_with (go_at_call 47; refine (game_impl _ _ _ _ hl _ HR.out).mono ?_; rintro e w1 ⟨rfl, rfl⟩; rw [HB.out])
    go_ret
    exact Adds.of rfl (Below.refl _ _)
  · have H1 := Lib.hid (fair_turned hb)
    have HB := Lib.hid hb
    have HT := Lib.hid (turned_impl A c g hl w h)
    have HTL : Hid ((turned g).length ≤ maxLen) := by show _ ≤ _; have := (turned_len g).1; unfold maxLen; omega
    have HE := Lib.hid (fun (B : Option Addr) (d : Nat) (w' : World) (hb : Below w.heap.size w w') (ho : OwnR w' w.heap.size w'.heap.size B (turned g)) => equalRows A B c d g (turned g) _ _ hl HTL.out w' (keepRows hb h) ho.rows2)
    clear hb h
    rw [H1.out]
    go_enter Try.func14, Try.ntmps14
    go_wp2_with (first | (go_at_call 47; refine (game_impl _ _ _ _ hl _ HR.out).mono ?_; rintro e w1 ⟨rfl, rfl⟩; rw [HB.out]) | (go_at_call 49; refine HT.out.mono ?_; rintro e w2 ⟨B, d, rfl, hb2, ho2⟩) | (go_at_call 48; refine (HE.out B d _ hb2 ho2).mono ?_; rintro e w3 ⟨rfl, n3, rfl⟩))
    go_ret
    exact Adds.of rfl (below_drewN hb2 n3)

end Go.Proofs.Ytanfefgigepdcaa

namespace Go.Proofs.Ytanfefgigepdcaa
set_option linter.unusedSimpArgs false
set_option linter.unusedVariables false
open Go.RowKit

/-- a function value that tells what each choice gets against each later one -/
structure Gets (w : World) (f : FuncId) (caps : Array Value) (n : Nat) (T : List (List Int)) : Prop where
  enters : ∀ (args : Array Value) (w : World), (callFunc f args).run Try.prog w = .ok (.enter f args) w
  calls : ∀ a b : Nat, a < b → b < n → ∀ w1 : World, Below w.heap.size w w1 → Calls Try.prog f (#[.int .i64 (a : Nat), .int .i64 (b : Nat)] ++ caps) w1 (Adds (.int .i64 (nth (rowAt T a) b)) w1)

set_option maxHeartbeats 1000000 in
theorem fairGameI (n : Nat) (T : List (List Int)) (hT : AntiT n T) (hn : n ≤ 16) (h9 : ∀ a b, a < n → b < n → -9 ≤ nth (rowAt T a) b ∧ nth (rowAt T a) b ≤ 9) (f : FuncId) (caps : Array Value) (w : World) (hf : Gets w f caps n T) :
    Calls Try.prog 66 #[.int .i64 (n : Nat), .func (.func f) #[] caps] w (NewTable w T) := by
  have hmk := run_make_row' (P := Try.prog) 23 31 _ 24 Try.underlying23 infoR rfl .i64 .i64 n (by omega) (by omega)
  have HF := Lib.hid hf.calls
  have hE := hf.enters
  have HT := Lib.hid hT
  have H9 := Lib.hid h9
  have F0 : Hid (∃ A, Fairing w (w.alloc (.cells (madeCells #[.slice none 0 0] n) 31)) n T A 0 0 0) := ⟨fun _ => 0, Fairing.start w n T _⟩
  clear hf hT h9
  go_enter Try.func66, Try.ntmps66
  go_wp2_with fail
  clear hmk
  go_loopw [13] (fun i wr => ∃ k : Nat, k ≤ n ∧ i = .int .i64 k ∧ Hid (∃ A, Fairing w wr n T A k k 0)) (fun i _ => n - (intOf i).toNat)
  case atStart => exact ⟨0, Nat.zero_le _, rfl, F0⟩
  case round =>
    obtain ⟨k, hk, rfl, HA⟩ := hrel
    obtain ⟨A, hA⟩ := HA.out
    have HF0 := Lib.hid hA
    clear HA hA
    by_cases hlt : k < n
    · have hmk2 := run_make_row' (P := Try.prog) 31 3 _ 8 Try.underlying31 infoI rfl .i64 .i64 n (by omega) (by omega)
      have hst1 : ∀ o, (wr.alloc o).cell? ⟨w.heap.size, k, none⟩ = some (.slice none 0 0) := fun o => by
        have := (HF0.out.top.alloc o).cell (i := k) hlt
        rwa [if_neg (by omega)] at this
      have hst2 : ∀ o, (wr.alloc o).frozen? ⟨w.heap.size, k, none⟩ = false := fun o => (HF0.out.top.alloc o).frozen k
      have HO := Lib.hid HF0.out.open_
      clear HF0
      go_wp2_with fail
      clear hmk2 hst1 hst2
      go_loopw [22] (fun i wr => ∃ r : Nat, r ≤ k ∧ i = .int .i64 r ∧ Hid (∃ A, Fairing w wr n T A (k + 1) k r)) (fun i _ => k - (intOf i).toNat)
      case atStart => exact ⟨0, Nat.zero_le _, rfl, ⟨_, HO.out⟩⟩
      case round =>
        clear HO A
        obtain ⟨r, hr, rfl, HA⟩ := hrel
        obtain ⟨A, hA⟩ := HA.out
        have HF0 := Lib.hid hA
        clear HA hA
        by_cases hlr : r < k
        · have HC := Lib.hid (HF.out r k hlr hlt _ HF0.out.bel)
          have h9 := H9.out r k (by omega) hlt
          go_wp2_with fail
          refine HC.out.mono ?_
          rintro e w1 ⟨rfl, hb1⟩
          have HF1 := Lib.hid (HF0.out.keep hb1)
          have hct1 := HF1.out.top.cell (i := r) (by omega)
          have hct2 := HF1.out.top.cell (i := k) hlt
          rw [if_pos (by omega)] at hct1 hct2
          have hw1 : IntKind.i64.wrap (-nth (rowAt T r) k) = -nth (rowAt T r) k := IntWalk.i64_in _ ⟨by omega, by omega⟩
          have HN := Lib.hid (HF1.out.step HT.out hlt hlr)
          have hrn : r < n := by omega
          have hc1 := (HF1.out.rows r (by omega)).cell (i := k) hlt
          have hf1 := (HF1.out.rows r (by omega)).frozen k
          have hap := HF1.out.apart r k (by omega) (by omega) (by omega)
          have hc2 : ∀ v, (w1.setCell ⟨A r, k, none⟩ v).cell? ⟨A k, r, none⟩ = some _ := fun v => ((HF1.out.rows k (by omega)).setOther (by show A k ≠ A r; exact fun e => hap e.symm) v).cell (i := r) hrn
          have hf2 : ∀ v, (w1.setCell ⟨A r, k, none⟩ v).frozen? ⟨A k, r, none⟩ = false := fun v => ((HF1.out.rows k (by omega)).setOther (by show A k ≠ A r; exact fun e => hap e.symm) v).frozen r
          clear hap
          clear hb1 HC HF0
          go_wp2_with fail
          go_region
          go_wp2_with fail
          go_roundw
          case rel => exact ⟨r + 1, by omega, by go_num, ⟨_, HN.out.keep (Below.refl _ _).drew⟩⟩
          case measure => simp [intOf]; omega
        · obtain rfl : r = k := by omega
          have HN := Lib.hid (HF0.out.next HT.out hlt)
          go_wp2_with fail
          go_roundw
          case rel => exact ⟨r + 1, by omega, by go_num, ⟨_, HN.out⟩⟩
          case measure => simp [intOf]; omega
    · obtain rfl : k = n := by omega
      have HD := Lib.hid (HF0.out.done HT.out (by unfold maxLen; omega))
      have HB := Lib.hid HF0.out.bel
      go_wp2_with fail
      go_ret
      exact ⟨_, _, by rw [HT.out.len]; rfl, HB.out, HD.out⟩

theorem placingOkI (c d : Int) (w : World) : Calls Try.prog 60 #[.int .i64 c, .int .i64 d] w (Same (.bool (plaB c d)) w) := by
  rcases hb : plaB c d with _ | _
  · unfold plaB inR at hb
    by_cases h1 : 1 ≤ c
    · by_cases h2 : c ≤ 4
      · by_cases h3 : 1 ≤ d
        · have h4 : ¬ d ≤ 3 := fun h4 => by simp [h1, h2, h3, h4] at hb
          clear hb
          go_enter Try.func60, Try.ntmps60
          go_wp2_with fail
          go_ret
          exact Same.of (by first | rfl | (simp; omega))
        · clear hb
          have h3' : decide (1 ≤ d) = false := decide_eq_false h3
          go_enter Try.func60, Try.ntmps60
          go_wp2_with fail
          go_ret
          exact Same.of (by first | rfl | (simp; omega))
      · clear hb
        have h2' : decide (c ≤ 4) = false := decide_eq_false h2
        go_enter Try.func60, Try.ntmps60
        go_wp2_with fail
        go_ret
        exact Same.of (by first | rfl | (simp; omega))
    · clear hb
      have h1' : decide (1 ≤ c) = false := decide_eq_false h1
      go_enter Try.func60, Try.ntmps60
      go_wp2_with fail
      go_ret
      exact Same.of (by first | rfl | (simp; omega))
  · unfold plaB inR at hb
    rw [Bool.and_eq_true, decide_eq_true_eq, decide_eq_true_eq] at hb
    obtain ⟨⟨h1, h2⟩, h3, h4⟩ := hb
    go_enter Try.func60, Try.ntmps60
    go_wp2_with fail
    go_ret
    exact Same.of (by first | rfl | (simp; omega))

theorem more_step (x y : List Int) (k : Nat) : moreT x y (k + 1) = moreT x y k + cmpV (nth x k) (nth y k) := by
  show (if nth y k < nth x k then _ else _) = _
  unfold cmpV
  by_cases h1 : nth y k < nth x k
  · rw [if_pos h1, if_neg (by omega), if_pos h1]
  · rw [if_neg h1]
    by_cases h2 : nth x k < nth y k
    · rw [if_pos h2, if_pos h2]; omega
    · rw [if_neg h2, if_neg h2, if_neg h1]; omega

set_option maxHeartbeats 1000000 in
theorem fieldsWonI (A B : Option Addr) (c d : Nat) (x y : List Int) (S S' : Nat → Prop) (hl : x.length = y.length) (h16 : x.length ≤ 16) (w : World) (h : Ints w S A x) (h' : Ints w S' B y) :
    Calls Try.prog 68 #[.slice A x.length c, .slice B y.length d] w (Same (.int .i64 (moreT x y x.length)) w) := by
  have HX := Lib.hid h
  have HY := Lib.hid h'
  have HL := Lib.hid hl
  clear h h' hl
  go_enter Try.func68, Try.ntmps68
  go_wp2_with fail
  go_loopw [5, 10] (fun v i wr => ∃ k : Nat, k ≤ x.length ∧ i = .int .i64 k ∧ v = .int .i64 (moreT x y k) ∧ wr = w) (fun _ i _ => x.length - (intOf i).toNat)
  case atStart => exact ⟨0, Nat.zero_le _, rfl, rfl, by first | rfl | trivial⟩
  case round =>
    obtain ⟨k, hk, rfl, rfl, rfl⟩ := hrel
    by_cases hlt : k < x.length
    · obtain ⟨b, off, rfl, hS, hc⟩ := HX.out.at_ hlt
      obtain ⟨b', off', rfl, hS', hc'⟩ := HY.out.at_ (i := k) (by rw [← HL.out]; exact hlt)
      have hck := hc k hlt
      have hck' := hc' k (by rw [← HL.out]; exact hlt)
      have hky : k < y.length := by rw [← HL.out]; exact hlt
      have hab := more_abs x y (k + 1)
      have e1 : IntKind.i64.wrap (moreT x y k + cmpV (nth x k) (nth y k)) = moreT x y k + cmpV (nth x k) (nth y k) := IntWalk.i64_in _ (by rw [← more_step]; omega)
      have HM := Lib.hid (more_step x y k)
      clear hc hc' hab
      go_wp2_with (go_at_call 97; refine (cmpI _ _ _).mono ?_; rintro e w1 ⟨rfl, rfl⟩)
      go_roundw
      case rel => exact ⟨k + 1, by omega, by go_num, by rw [HM.out], by first | rfl | trivial⟩
      case measure => simp [intOf]; omega
    · obtain rfl : k = x.length := by omega
      go_wp2_with fail
      go_ret
      exact Same.of rfl

end Go.Proofs.Ytanfefgigepdcaa

namespace Go.Proofs.Ytanfefgigepdcaa
set_option linter.unusedSimpArgs false
set_option linter.unusedVariables false
open Go.RowKit

theorem anti_fair {n : Nat} {T : List (List Int)} (hl : T.length = n) (h : fairB T = true) : AntiT n T ∧ ∀ a b, a < n → b < n → -9 ≤ nth (rowAt T a) b ∧ nth (rowAt T a) b ≤ 9 := by
  have hf := fairB_iff.1 h
  have hg := Game.of hf.game
  have hsq := hf.sq
  subst hl
  refine ⟨⟨rfl, fun i hi => by rw [hg.len i hi]; exact hsq.symm, hf.anti⟩, fun a b ha hb => ⟨hg.nlo a ha b (by rw [← hsq]; exact hb), hg.nhi a ha b (by rw [← hsq]; exact hb)⟩⟩

theorem sdr_fair {s f : Nat} (h1 : 1 ≤ s) (h2 : s ≤ 4) (h3 : 1 ≤ f) (h4 : f ≤ 3) : fairB (sdrT s f) = true := by
  have hr := List.all_eq_true.1 (List.all_eq_true.1 sold_Q (s - 1) (by simp; omega)) (f - 1) (by simp; omega)
  rw [show s - 1 + 1 = s by omega, show f - 1 + 1 = f by omega] at hr
  unfold lookQ at hr
  rw [Bool.and_eq_true] at hr
  exact hr.1

theorem beat_fair {n : Nat} (h1 : n ≤ 15) (h2 : n % 2 = 1) : fairB (beatT n) = true := by
  have hr := List.all_eq_true.1 ring_R (n / 2) (by simp; omega)
  rw [show 2 * (n / 2) + 1 = n by omega] at hr
  unfold lookR at hr
  rw [Bool.and_eq_true] at hr
  exact hr.1

theorem ring_new (W : World) (t : TypeId) (v : Value) : (W.alloc (.cells #[v] t)).cell? ⟨W.heap.size, 0, none⟩ = some v := by
  exact (World.rowIs_alloc W #[v] t (fun _ => v) (fun i hi => by simp at hi; subst hi; rfl)).cell (i := 0) (by simp)

/-! soldiers -/

theorem nth_sdr {s f a b : Nat} (ha : a < (plaT s f).length) (hb : b < (plaT s f).length) : nth (rowAt (sdrT s f) a) b = moreT (rowAt (plaT s f) a) (rowAt (plaT s f) b) f := by
  have e1 : rowAt (sdrT s f) a = sdrR s f a := by unfold sdrT rowAt; simp [ha]
  have e2 : rowAt (plaT s f) b = (plaT s f)[b] := by unfold rowAt; simp [hb]
  rw [e1, e2]; unfold sdrR nth; simp [hb]

set_option maxHeartbeats 1000000 in
theorem gets_sold {s f : Nat} (h1 : 1 ≤ s) (h2 : s ≤ 4) (h3 : 1 ≤ f) (h4 : f ≤ 3) (w : World) (p : Nat) (T : Option Addr) (c : Nat) (hp : p < w.heap.size) (hc : w.cell? ⟨p, 0, none⟩ = some (.slice T (plaT s f).length c)) (hr : Rows2 w (· < w.heap.size) T (plaT s f)) :
    Gets w 67 #[.pointer (some ⟨p, 0, none⟩)] (plaT s f).length (sdrT s f) := by
  refine ⟨enters_of Try.func67 (by kernel_rfl) rfl, fun a b hab hb w1 hbw => ?_⟩
  show Calls Try.prog 67 #[.int .i64 (a : Nat), .int .i64 (b : Nat), .pointer (some ⟨p, 0, none⟩)] w1 _
  have ha : a < (plaT s f).length := by omega
  have hcp : w1.cell? ⟨p, 0, none⟩ = some (.slice T (plaT s f).length c) := (hbw.cell (p := ⟨p, 0, none⟩) hp).trans hc
  have hf := pla_facts h1 h2 h3 h4
  obtain ⟨bt, ot, rfl⟩ := hr.some (by omega)
  have R := keepRows hbw hr
  obtain ⟨-, A1, c1, hd1, hl1, hm1, hi1⟩ := R.row ha
  obtain ⟨-, A2, c2, hd2, hl2, hm2, hi2⟩ := R.row hb
  have hlen : (plaT s f).length ≤ 15 := hf.1
  have e1 := hf.2 a ha
  have e2 := hf.2 b hb
  have HW := Lib.hid (fun n => fieldsWonI A1 A2 c1 c2 (rowAt (plaT s f) a) (rowAt (plaT s f) b) _ _ (by rw [e1, e2]) (by omega) (w1.drewN n) (hi1.drewN n) (hi2.drewN n))
  rw [nth_sdr ha hb]
  rw [e1] at HW
  obtain ⟨v, hv⟩ : ∃ v, moreT (rowAt (plaT s f) a) (rowAt (plaT s f) b) f = v := ⟨_, rfl⟩
  rw [hv] at HW ⊢
  rw [e2] at HW
  rw [e1] at hd1
  rw [e2] at hd2
  clear hf R hi1 hi2 hl1 hl2 hm1 hm2 hc hr hv
  go_enter Try.func67, Try.ntmps67
  go_wp2_with fail
  go_quiet ((go_at_call 68; exact quietOne ((HW.out _).mono fun _ _ h => Same.quiet h)))
  go_wp2_with fail
  go_ret
  exact Adds.of rfl (below_drewN (Below.refl _ _) _)

set_option maxHeartbeats 1000000 in
theorem sold_impl (c d : Int) (hp : ∀ w', Calls Try.prog 22 #[.int .i64 c, .int .i64 d] w' (NewTable w' (plaG c d))) (w : World) :
    Calls Try.prog 26 #[.int .i64 c, .int .i64 d] w (NewTable w (sdrG c d)) := by
  have HP := Lib.hid hp
  clear hp
  rcases hb : plaB c d with _ | _
  · have H1 := Lib.hid (pla_no hb).2
    have HB := Lib.hid hb
    clear hb
    rw [H1.out]
    go_enter Try.func26, Try.ntmps26
    go_wp2_with (go_at_call 60; refine (placingOkI _ _ _).mono ?_; rintro e w1 ⟨rfl, rfl⟩; rw [HB.out])
    go_ret
    exact ⟨none, 0, rfl, Below.refl _ _, fun h0 => absurd h0 (by simp)⟩
  · obtain ⟨s, f, rfl, rfl, h1, h2, h3, h4⟩ := pla_nat hb
    have hsv : sdrG (s : Int) (f : Int) = sdrT s f := by unfold sdrG; rw [if_pos hb]; rfl
    have hpv : plaG (s : Int) (f : Int) = plaT s f := by unfold plaG; rw [if_pos hb]; rfl
    have hfa := pla_facts h1 h2 h3 h4
    have hlen : (sdrT s f).length = (plaT s f).length := by simp [sdrT]
    have hn := hfa.1
    obtain ⟨hT, h9⟩ := anti_fair hlen (sdr_fair h1 h2 h3 h4)
    rw [hsv]
    rw [hpv] at HP
    have HB := Lib.hid hb
    have HG := Lib.hid (fun (w' : World) (p : Nat) hf => fairGameI (plaT s f).length (sdrT s f) hT (by omega) h9 67 #[.pointer (some ⟨p, 0, none⟩)] w' hf)
    have HS := Lib.hid (fun w' p T c => gets_sold h1 h2 h3 h4 w' p T c)
    have HL := Lib.hid hlen
    clear hb hsv hpv hfa hlen hT h9
    go_enter Try.func26, Try.ntmps26
    go_wp2_with (first | (go_at_call 60; refine (placingOkI _ _ _).mono ?_; rintro e w1 ⟨rfl, rfl⟩; rw [HB.out]) | (go_at_call 22; refine (HP.out _).mono ?_; rintro e w2 ⟨T, ct, rfl, hb2, ho2⟩; have HB2 := Lib.hid hb2; have HO2 := Lib.hid (ho2.rows2.mono (T := fun b => b < w2.heap.size) fun b hb => hb.2); clear hb2 ho2) | (go_at_call 66; (refine (HG.out _ w2.heap.size (HS.out _ _ T ct (by simp) (ring_new _ _ _) ((keepRows ((Below.refl _ _).alloc (Nat.le_refl _) _) HO2.out).lt (by simp)))).mono ?_; rintro e w3 ⟨T3, c3, rfl, hb3, ho3⟩)))
    go_ret
    have hs := HB2.out.size
    exact ⟨T3, c3, rfl, belT (HB2.out.alloc hs _) hb3, ho3.more (by simp; omega) (Nat.le_refl _)⟩

/-! beating games -/

theorem nth_beat {n a b : Nat} (hab : a < b) (hb : b < n) : nth (rowAt (beatT n) a) b = if b - a ≤ n / 2 then 1 else -1 := by
  have e1 : rowAt (beatT n) a = beatR n a := by unfold beatT rowAt; simp [show a < n by omega]
  have e2 : nth (beatR n a) b = beatI n a b := by unfold beatR nth; simp [hb]
  have e3 : (b + n - a) % n = b - a := by
    rw [show b + n - a = (b - a) + n by omega, Nat.add_mod_right, Nat.mod_eq_of_lt (by omega)]
  rw [e1, e2]; unfold beatI
  rw [e3, if_neg (by omega)]

set_option maxHeartbeats 1000000 in
theorem gets_beat {n : Nat} (h15 : n ≤ 15) (w : World) (p : Nat) (hp : p < w.heap.size) (hc : w.cell? ⟨p, 0, none⟩ = some (.int .i64 (n : Nat))) :
    Gets w 73 #[.pointer (some ⟨p, 0, none⟩)] n (beatT n) := by
  refine ⟨enters_of Try.func73 (by kernel_rfl) rfl, fun a b hab hb w1 hbw => ?_⟩
  show Calls Try.prog 73 #[.int .i64 (a : Nat), .int .i64 (b : Nat), .pointer (some ⟨p, 0, none⟩)] w1 _
  have hcp : w1.cell? ⟨p, 0, none⟩ = some (.int .i64 (n : Nat)) := (hbw.cell (p := ⟨p, 0, none⟩) hp).trans hc
  rw [nth_beat hab hb]
  have hq : (n : Int).tdiv 2 = ((n / 2 : Nat) : Int) := by rw [Int.tdiv_eq_ediv_of_nonneg (by omega)]; rfl
  have hw1 : IntKind.i64.wrap ((b : Int) - (a : Int)) = (b : Int) - (a : Int) := IntWalk.i64_in _ ⟨by omega, by omega⟩
  have hw2 : IntKind.i64.wrap ((n / 2 : Nat) : Int) = ((n / 2 : Nat) : Int) := IntWalk.i64_in _ ⟨by omega, by omega⟩
  by_cases hle : b - a ≤ n / 2
  · rw [if_pos hle]
    have hle2 : (b : Int) - (a : Int) ≤ ((n / 2 : Nat) : Int) := by omega
    obtain ⟨q, hqq⟩ : ∃ q, n / 2 = q := ⟨_, rfl⟩
    rw [hqq] at hq hw2 hle2
    clear hqq hle
    go_enter Try.func73, Try.ntmps73
    go_wp2_with fail
    go_ret
    exact Adds.of rfl (Below.refl _ _)
  · rw [if_neg hle]
    have hle2 : ¬ (b : Int) - (a : Int) ≤ ((n / 2 : Nat) : Int) := by omega
    obtain ⟨q, hqq⟩ : ∃ q, n / 2 = q := ⟨_, rfl⟩
    rw [hqq] at hq hw2 hle2
    clear hqq hle
    go_enter Try.func73, Try.ntmps73
    go_wp2_with fail
    go_ret
    exact Adds.of rfl (Below.refl _ _)

set_option maxHeartbeats 1000000 in
theorem beat_impl (c : Int) (hwf : (Lit.int .i64 c).wf = true) (w : World) : Calls Try.prog 31 #[.int .i64 c] w (NewTable w (beatG c)) := by
  have hbx : Below w.heap.size w (w.alloc (.cells #[.int .i64 c] 3)) := (Below.refl _ w).alloc (Nat.le_refl _) _
  by_cases h1 : c < 1
  · have H1 : Hid (beatG c = []) := by show _ = _; refine beat_no ?_; unfold beatB inR; rw [decide_eq_false (by omega)]; rfl
    rw [H1.out]
    have HX := Lib.hid hbx
    clear hbx
    go_enter Try.func31, Try.ntmps31
    go_wp2_with fail
    go_ret
    exact ⟨none, 0, rfl, HX.out, fun h0 => absurd h0 (by simp)⟩
  by_cases h2 : 15 < c
  · have H1 : Hid (beatG c = []) := by show _ = _; refine beat_no ?_; unfold beatB inR; rw [decide_eq_false (by omega)]; rfl
    rw [H1.out]
    have HX := Lib.hid hbx
    have h1' : decide (c < 1) = false := decide_eq_false h1
    clear hbx
    go_enter Try.func31, Try.ntmps31
    go_wp2_with fail
    go_ret
    exact ⟨none, 0, rfl, HX.out, fun h0 => absurd h0 (by simp)⟩
  obtain ⟨n, rfl⟩ : ∃ n : Nat, c = (n : Int) := ⟨c.toNat, by omega⟩
  have hm : (n : Int).tmod 2 = ((n % 2 : Nat) : Int) := by rw [Int.tmod_eq_emod_of_nonneg (by omega)]; rfl
  have hw2 : IntKind.i64.wrap ((n % 2 : Nat) : Int) = ((n % 2 : Nat) : Int) := IntWalk.i64_in _ ⟨by omega, by omega⟩
  have hbb : beatB (n : Int) = decide (n % 2 = 1) := by
    unfold beatB inR
    rw [decide_eq_true (by omega), hm, Bool.true_and]
    rcases Nat.mod_two_eq_zero_or_one n with e | e <;> rw [e] <;> rfl
  rcases Nat.mod_two_eq_zero_or_one n with e | e
  · have H1 : Hid (beatG (n : Int) = []) := by show _ = _; refine beat_no ?_; rw [hbb, e]; rfl
    rw [H1.out]
    rw [e] at hm hw2
    have HX := Lib.hid hbx
    clear hbx hbb e
    go_enter Try.func31, Try.ntmps31
    go_wp2_with fail
    go_ret
    exact ⟨none, 0, rfl, HX.out, fun h0 => absurd h0 (by simp)⟩
  · have H1 : beatG (n : Int) = beatT n := by unfold beatG; rw [if_pos (by rw [hbb, e]; rfl)]; rfl
    have hlen : (beatT n).length = n := by simp [beatT]
    obtain ⟨hT, h9⟩ := anti_fair hlen (beat_fair (by omega) e)
    have HG := Lib.hid (fun (w' : World) (p : Nat) hf => fairGameI n (beatT n) hT (by omega) h9 73 #[.pointer (some ⟨p, 0, none⟩)] w' hf)
    have HS := Lib.hid (fun w' p hp hc => gets_beat (n := n) (by omega) w' p hp hc)
    rw [H1]
    rw [e] at hm hw2
    have HX := Lib.hid hbx
    have HL := Lib.hid hlen
    clear hbx hbb e H1 hT h9 hlen
    go_enter Try.func31, Try.ntmps31
    go_wp2_with (go_at_call 66; (refine (HG.out _ w.heap.size (HS.out _ _ (by simp) (ring_new _ _ _))).mono ?_; rintro e w3 ⟨T3, c3, rfl, hb3, ho3⟩))
    go_ret
    exact ⟨T3, c3, rfl, belT HX.out hb3, ho3.more (by simp) (Nat.le_refl _)⟩

end Go.Proofs.Ytanfefgigepdcaa

namespace Go.Proofs.Ytanfefgigepdcaa
set_option linter.unusedSimpArgs false
set_option linter.unusedVariables false
open Go.RowKit

theorem from_at (g : List (List Int)) (m n : Nat) {a b : Nat} (ha : a < m + n + 1) (hb : b < m + n + 1) : nth (rowAt (fromT g m n) a) b = fromI g m n a b := by
  rw [rowAt_fromT g m n ha, nth_fromR g m n a hb]

set_option maxHeartbeats 1000000 in
theorem gets_from {g : List (List Int)} {n : Nat} (hG : Game g n) (h8 : g.length + n ≤ 8) (w : World) (p1 p2 p3 : Nat) (T : Option Addr) (c : Nat) (hp1 : p1 < w.heap.size) (hp2 : p2 < w.heap.size) (hp3 : p3 < w.heap.size)
    (hc1 : w.cell? ⟨p1, 0, none⟩ = some (.int .i64 ((g.length + n : Nat) : Int))) (hc2 : w.cell? ⟨p2, 0, none⟩ = some (.int .i64 (g.length : Nat))) (hc3 : w.cell? ⟨p3, 0, none⟩ = some (.slice T g.length c)) (hr : Rows2 w (· < w.heap.size) T g) :
    Gets w 74 #[.pointer (some ⟨p1, 0, none⟩), .pointer (some ⟨p2, 0, none⟩), .pointer (some ⟨p3, 0, none⟩)] (g.length + n + 1) (fromT g g.length n) := by
  refine ⟨enters_of Try.func74 (by kernel_rfl) rfl, fun a b hab hb w1 hbw => ?_⟩
  show Calls Try.prog 74 #[.int .i64 (a : Nat), .int .i64 (b : Nat), .pointer (some ⟨p1, 0, none⟩), .pointer (some ⟨p2, 0, none⟩), .pointer (some ⟨p3, 0, none⟩)] w1 _
  have hd1 := (hbw.cell (p := ⟨p1, 0, none⟩) hp1).trans hc1
  have hd2 := (hbw.cell (p := ⟨p2, 0, none⟩) hp2).trans hc2
  have hd3 := (hbw.cell (p := ⟨p3, 0, none⟩) hp3).trans hc3
  have R := Lib.hid (keepRows hbw hr)
  have hlo := hG.lo
  have hmlo := hG.mlo
  have HLEN := Lib.hid hG.len
  obtain ⟨bt, ot, rfl⟩ := hr.some (by omega)
  rw [from_at g g.length n (by omega) hb]
  clear hc1 hc2 hc3 hr hG hp1 hp2 hp3 hbw
  obtain ⟨m, hm⟩ : ∃ m, g.length = m := ⟨_, rfl⟩
  obtain ⟨q, hq⟩ : ∃ q, m + n = q := ⟨_, rfl⟩
  rw [hm] at hd1 hd2 hd3 h8 hlo ⊢
  rw [hm] at hb
  rw [hq] at hd1 hb h8
  by_cases h1 : b = q
  · have z1 : ((b : Int) == (q : Int)) = true := by rw [beq_iff_eq]; omega
    by_cases h2 : a < m
    · have hv : Hid (fromI g m n a b = -1) := by
        show _ = _
        unfold fromI
        rw [if_neg (by omega), if_neg (by omega), if_pos (by omega)]
      rw [hv.out]
      have h2' : (a : Int) < (m : Int) := by omega
      clear h1 hq hm hd3
      go_enter Try.func74, Try.ntmps74
      go_wp2_with fail
      go_ret
      exact Adds.of rfl (Below.refl _ _)
    · have hv : Hid (fromI g m n a b = 1) := by
        show _ = _
        unfold fromI
        rw [if_neg (by omega), if_neg (by omega), if_neg (by omega), if_neg (by omega), if_pos (by omega)]
      rw [hv.out]
      have h2' : ¬ (a : Int) < (m : Int) := by omega
      clear h1 hq hm hd3
      go_enter Try.func74, Try.ntmps74
      go_wp2_with fail
      go_ret
      exact Adds.of rfl (Below.refl _ _)
  · have z1 : ((b : Int) == (q : Int)) = false := by rw [beq_eq_false_iff_ne]; omega
    by_cases h2 : a < m
    · have h2' : (a : Int) < (m : Int) := by omega
      by_cases h3 : m ≤ b
      · have hv : Hid (fromI g m n a b = nth (rowAt g a) (b - m)) := by
          show _ = _
          unfold fromI
          rw [if_pos (by omega)]
        rw [hv.out]
        have h3' : (m : Int) ≤ (b : Int) := by omega
        obtain ⟨-, A1, c1, he1, hl1, hm1, hi1⟩ := R.out.row (i := a) (by omega)
        have hln := HLEN.out a (by omega)
        obtain ⟨b1, o1, rfl, hS1, hcc⟩ := hi1.at_ (i := b - m) (by omega)
        have hck := hcc (b - m) (by omega)
        rw [hln] at he1
        obtain ⟨d, hd⟩ : ∃ d, b - m = d := ⟨_, rfl⟩
        have hsub : (b : Int) - (m : Int) = (d : Int) := by omega
        have hw1 : IntKind.i64.wrap (d : Int) = (d : Int) := IntWalk.i64_in _ ⟨by omega, by omega⟩
        have hdn : d < n := by omega
        rw [hd] at hck ⊢
        have hv9 : ∃ v, nth (rowAt g a) d = v := ⟨_, rfl⟩
        obtain ⟨v, hv9⟩ := hv9
        rw [hv9] at hck ⊢
        unfold maxLen at hm1
        clear h1 hq hm hcc hi1 hln hd hv9 hl1
        go_enter Try.func74, Try.ntmps74
        go_wp2_with fail
        go_quiet (fail)
        go_wp2_with fail
        go_ret
        exact Adds.of rfl (below_drewN (Below.refl _ _) _)
      · have hv : Hid (fromI g m n a b = 0) := by
          show _ = _
          unfold fromI
          rw [if_neg (by omega), if_neg (by omega), if_neg (by omega), if_neg (by omega), if_neg (by omega), if_neg (by omega)]
        rw [hv.out]
        have h3' : ¬ (m : Int) ≤ (b : Int) := by omega
        clear h1 hq hm hd3
        go_enter Try.func74, Try.ntmps74
        go_wp2_with fail
        go_ret
        exact Adds.of rfl (Below.refl _ _)
    · have hv : Hid (fromI g m n a b = 0) := by
        show _ = _
        unfold fromI
        rw [if_neg (by omega), if_neg (by omega), if_neg (by omega), if_neg (by omega), if_neg (by omega), if_neg (by omega)]
      rw [hv.out]
      have h2' : ¬ (a : Int) < (m : Int) := by omega
      clear h1 hq hm hd3
      go_enter Try.func74, Try.ntmps74
      go_wp2_with fail
      go_ret
      exact Adds.of rfl (Below.refl _ _)

set_option maxHeartbeats 2000000 in
set_option maxRecDepth 100000 in
theorem frm_impl (A : Option Addr) (c : Nat) (g : List (List Int)) (hl : g.length ≤ maxLen) (w : World) (h : Rows2 w (· < w.heap.size) A g) :
    Calls Try.prog 36 #[.slice A g.length c] w (NewTable w (frmG g)) := by
  obtain ⟨W, hW⟩ : ∃ W : World, w.alloc (.cells #[.slice A g.length c] 23) = W := ⟨_, rfl⟩
  have hbx : Below w.heap.size w W := by rw [← hW]; exact (Below.refl _ w).alloc (Nat.le_refl _) _
  have hsz : W.heap.size = w.heap.size + 1 := by rw [← hW]; simp
  have HX := Lib.hid hbx
  have HRW : Hid (Rows2 W (· < W.heap.size) A g) := (keepRows hbx h).lt (by omega)
  have HR := Lib.hid (fun w' (hb : Below W.heap.size W w') => (keepRows hb HRW.out))
  have HG := Lib.hid (fun S w' h' => game_impl A c g S hl w' h')
  have hc1 : W.cell? ⟨w.heap.size, 0, none⟩ = some (.slice A g.length c) := by rw [← hW]; exact ring_new _ _ _
  have cg := stays (W := W) (p := w.heap.size) (o := 0) (by omega) hc1
  have HSZ := Lib.hid hsz
  have HW := Lib.hid hW
  have HC := Lib.hid hc1
  clear hbx hsz hW hc1
  rcases hg : gameB g with _ | _
  · have H1 : frmG g = [] := frm_no (by unfold frmB; rw [hg]; rfl)
    have HB := Lib.hid hg
    rw [H1]
    clear hg h H1
    go_enter Try.func36, Try.ntmps36
    go_wp2_with fail
    rw [HW.out]
    refine wp_region_held_drew (S := fun w' => Below W.heap.size W w') (by kernel_rfl) (Below.drew (Below.refl _ _)) (fun hHeld => ?_)
    refine wpAnyH_take (i := 0) (v := ?v0) rfl (by kernel_rfl) (by kernel_rfl) (by kernel_rfl) (fun _ _ _ h => h) (Or.inl ⟨by rfl, ?y0⟩) (by assumption) ?z0
    case y0 => (intro w hSw; go_simp; first | done | with_reducible rfl)
    try simp only [List.getElem_toArray, List.getElem_cons_succ, List.getElem_cons_zero, Act.put, List.setIfInBounds_toArray, List.set_cons_zero, List.set_cons_succ]
    refine wpAnyH_ready (rs := [1]) (by kernel_rfl) (by simp) ?_
    refine AllReadyH.cons rfl (fun K hK => ?_) AllReadyH.nil
    go_simp
    (go_at_call 47; refine (HG.out _ _ (HR.out _ (by first | exact Below.refl _ _ | exact Below.drew (Below.refl _ _) | assumption))).mono ?_; rintro e w8 ⟨rfl, rfl⟩; rw [HB.out])
    refine hK.out _ _ (by first | exact Below.refl _ _ | exact Below.drew (Below.refl _ _) | (refine Below.drew ?_; assumption) | exact belT (by assumption) (by assumption) | assumption) (fun hHeld => ?_)
    clear hK K
    try simp only [List.getElem_toArray, List.getElem_cons_succ, List.getElem_cons_zero, Act.put, List.setIfInBounds_toArray, List.set_cons_zero, List.set_cons_succ]
    refine wpAnyH_take (i := 2) (v := ?v2) rfl (by kernel_rfl) (by kernel_rfl) (by kernel_rfl) (fun _ _ _ h => h) (Or.inl ⟨by rfl, ?y2⟩) (by assumption) ?z2
    case y2 => (intro w hSw; go_simp; first | done | with_reducible rfl)
    try simp only [List.getElem_toArray, List.getElem_cons_succ, List.getElem_cons_zero, Act.put, List.setIfInBounds_toArray, List.set_cons_zero, List.set_cons_succ]
    refine wpAnyH_take (i := 3) (v := ?v3) rfl (by kernel_rfl) (by kernel_rfl) (by kernel_rfl) (fun _ _ _ h => h) (Or.inl ⟨by rfl, ?y3⟩) (by assumption) ?z3
    case y3 => (intro w hSw; go_simp; first | done | with_reducible rfl)
    try simp only [List.getElem_toArray, List.getElem_cons_succ, List.getElem_cons_zero, Act.put, List.setIfInBounds_toArray, List.set_cons_zero, List.set_cons_succ]
    refine wpAnyH_take (i := 4) rfl (by kernel_rfl) (by kernel_rfl) (by kernel_rfl) (fun _ _ _ h => h) (Or.inr ⟨by rfl, rfl⟩) (by assumption) ?_
    try simp only [List.getElem_toArray, List.getElem_cons_succ, List.getElem_cons_zero, Act.put, List.setIfInBounds_toArray, List.set_cons_zero, List.set_cons_succ]
    refine wpAnyH_take (i := 5) rfl (by kernel_rfl) (by kernel_rfl) (by kernel_rfl) (fun _ _ _ h => h) (Or.inr ⟨by rfl, rfl⟩) (by assumption) ?_
    try simp only [List.getElem_toArray, List.getElem_cons_succ, List.getElem_cons_zero, Act.put, List.setIfInBounds_toArray, List.set_cons_zero, List.set_cons_succ]
    refine wpAnyH_take (i := 6) rfl (by kernel_rfl) (by kernel_rfl) (by kernel_rfl) (fun _ _ _ h => h) (Or.inr ⟨by rfl, rfl⟩) (by assumption) ?_
    try simp only [List.getElem_toArray, List.getElem_cons_succ, List.getElem_cons_zero, Act.put, List.setIfInBounds_toArray, List.set_cons_zero, List.set_cons_succ]
    refine wpAnyH_take (i := 7) rfl (by kernel_rfl) (by kernel_rfl) (by kernel_rfl) (fun _ _ _ h => h) (Or.inr ⟨by rfl, rfl⟩) (by assumption) ?_
    try simp only [List.getElem_toArray, List.getElem_cons_succ, List.getElem_cons_zero, Act.put, List.setIfInBounds_toArray, List.set_cons_zero, List.set_cons_succ]
    refine wpAnyH_take (i := 8) rfl (by kernel_rfl) (by kernel_rfl) (by kernel_rfl) (fun _ _ _ h => h) (Or.inr ⟨by rfl, rfl⟩) (by assumption) ?_
    try simp only [List.getElem_toArray, List.getElem_cons_succ, List.getElem_cons_zero, Act.put, List.setIfInBounds_toArray, List.set_cons_zero, List.set_cons_succ]
    refine wpAnyH_take (i := 9) rfl (by kernel_rfl) (by kernel_rfl) (by kernel_rfl) (fun _ _ _ h => h) (Or.inr ⟨by rfl, rfl⟩) (by assumption) ?_
    try simp only [List.getElem_toArray, List.getElem_cons_succ, List.getElem_cons_zero, Act.put, List.setIfInBounds_toArray, List.set_cons_zero, List.set_cons_succ]
    refine wpAnyH_take (i := 10) rfl (by kernel_rfl) (by kernel_rfl) (by kernel_rfl) (fun _ _ _ h => h) (Or.inr ⟨by rfl, rfl⟩) (by assumption) ?_
    try simp only [List.getElem_toArray, List.getElem_cons_succ, List.getElem_cons_zero, Act.put, List.setIfInBounds_toArray, List.set_cons_zero, List.set_cons_succ]
    refine wpAnyH_take (i := 11) rfl (by kernel_rfl) (by kernel_rfl) (by kernel_rfl) (fun _ _ _ h => h) (Or.inr ⟨by rfl, rfl⟩) (by assumption) ?_
    try simp only [List.getElem_toArray, List.getElem_cons_succ, List.getElem_cons_zero, Act.put, List.setIfInBounds_toArray, List.set_cons_zero, List.set_cons_succ]
    refine wpAnyH_take (i := 12) (v := ?v12) rfl (by kernel_rfl) (by kernel_rfl) (by kernel_rfl) (fun _ _ _ h => h) (Or.inl ⟨by rfl, ?y12⟩) (by assumption) ?z12
    case y12 => (intro w hSw; go_simp; first | done | with_reducible rfl)
    try simp only [List.getElem_toArray, List.getElem_cons_succ, List.getElem_cons_zero, Act.put, List.setIfInBounds_toArray, List.set_cons_zero, List.set_cons_succ]
    refine wpAnyH_done (by kernel_rfl) ?_ _
    go_wp2_with fail
    go_ret
    exact ⟨none, 0, rfl, belT HX.out (by assumption), fun h0 => absurd h0 (by simp)⟩
  have HB := Lib.hid hg
  have hgm := Game.of hg
  have hhi := hgm.hi
  have hmhi := hgm.mhi
  have hlo := hgm.lo
  have hg0 : 0 < g.length := hlo
  have hmlo := hgm.mlo
  have HGM := Lib.hid hgm
  obtain ⟨bt, ot, rfl⟩ := h.some (by omega)
  obtain ⟨hbt, A0, c0, hc0, hl0, hm0, -⟩ := HRW.out.row (i := 0) (by omega)
  rw [Nat.add_zero] at hc0
  obtain ⟨n, hn⟩ : ∃ n, (rowAt g 0).length = n := ⟨_, rfl⟩
  rw [hn] at hc0 hmhi hmlo hl0 HGM
  have cr := stays (W := W) (p := bt) (o := ot) hbt hc0
  unfold maxLen at hm0
  have hw1 : IntKind.i64.wrap ((g.length : Int) + (n : Int)) = (g.length : Int) + (n : Int) := IntWalk.i64_in _ ⟨by omega, by omega⟩
  by_cases h8 : g.length + n ≤ 8
  · have hF : frmG g = fromT g g.length n := by rw [frm_yes (frmB_iff.2 ⟨hg, by rw [hn]; exact h8⟩), hn]
    have h8' : ¬ (8 : Int) < (g.length : Int) + (n : Int) := by omega
    rw [hF]
    clear hF hg h hgm hn hl0 hbt hc0
    go_enter Try.func36, Try.ntmps36
    go_wp2_with fail
    rw [HW.out]
    go_region_held3 (fun w' => Below W.heap.size W w')
      (first | exact Below.refl _ _ | exact Below.drew (Below.refl _ _) | (refine Below.drew ?_; assumption) | exact belT (by assumption) (by assumption) | assumption)
      ((go_at_call 47; refine (HG.out _ _ (HR.out _ (by first | exact Below.refl _ _ | exact Below.drew (Below.refl _ _) | assumption))).mono ?_; rintro e w8 ⟨rfl, rfl⟩; rw [HB.out]))
    go_wp2_with fail
    go_upto_region 3 with fail
    go_cut [3, 4] (fun sa sb wx => ∃ p q : Nat, sa = .pointer (some ⟨p, 0, none⟩) ∧ sb = .pointer (some ⟨q, 0, none⟩) ∧ p < wx.heap.size ∧ q < wx.heap.size ∧ wx.cell? ⟨p, 0, none⟩ = some (.int .i64 (g.length : Nat)) ∧ wx.cell? ⟨q, 0, none⟩ = some (.int .i64 ((g.length : Int) + (n : Int))) ∧ Below W.heap.size W wx)
    case first =>
      go_region_held3 (fun w' => Below W.heap.size W w')
        (first | exact Below.refl _ _ | exact Below.drew (Below.refl _ _) | (refine Below.drew ?_; assumption) | exact belT (by assumption) (by assumption) | assumption | exact (by repeat (first | exact Below.refl _ _ | assumption | exact bel1 (by assumption) | exact bel2 (by assumption) | exact bel3 (by assumption) | exact bel4 (by assumption) | refine Below.drew ?_ | refine below_drewN ?_ _ | refine Below.setCell ?_ (by first | (simp; done) | (simp; omega)) _ | refine Below.alloc ?_ (by first | (simp; done) | (simp; omega)) _)))
        (fail)
      all_goals
        go_wp2_with fail
        go_meet
        exact ⟨_, _, rfl, rfl, by first | (simp; done) | (simp; omega), by first | (simp; done) | (simp; omega), by go_simp, by go_simp, (by repeat (first | exact Below.refl _ _ | assumption | exact bel1 (by assumption) | exact bel2 (by assumption) | exact bel3 (by assumption) | exact bel4 (by assumption) | refine Below.drew ?_ | refine below_drewN ?_ _ | refine Below.setCell ?_ (by first | (simp; done) | (simp; omega)) _ | refine Below.alloc ?_ (by first | (simp; done) | (simp; omega)) _))⟩
    case rest =>
      obtain ⟨p, q, rfl, rfl, hp, hq, hcp, hcq, hbw⟩ := hcut
      have hsw := hbw.size
      have HS := Lib.hid (gets_from HGM.out h8 wc q p w.heap.size (some ⟨bt, ot, none⟩) c hq hp (by have := HSZ.out; omega) (by rw [hcq]; simp) hcp (cg wc hbw) ((HR.out wc hbw).lt hsw))
      have HBW := Lib.hid hbw
      have hgl : (fromT g g.length n).length = g.length + n + 1 := fromT_length _ _ _
      have HGL := Lib.hid hgl
      obtain ⟨hT, h9⟩ : AntiT (g.length + n + 1) (fromT g g.length n) ∧ ∀ a b, a < g.length + n + 1 → b < g.length + n + 1 → -9 ≤ nth (rowAt (fromT g g.length n) a) b ∧ nth (rowAt (fromT g g.length n) a) b ≤ 9 := by
        refine ⟨⟨hgl, fun i hi => by rw [rowAt_fromT g _ _ hi, fromR_length], fun i j hi hj => ?_⟩, fun a b ha hb => ?_⟩
        · rw [from_at g _ _ hi hj, from_at g _ _ hj hi]; exact from_anti g _ _ i j
        · rw [from_at g _ _ ha hb]; exact from_bd HGM.out
      have HFG := Lib.hid (fairGameI (g.length + n + 1) (fromT g g.length n) hT (by omega) h9 _ _ wc HS.out)
      have hw2 : IntKind.i64.wrap ((g.length : Int) + (n : Int) + 1) = (g.length : Int) + (n : Int) + 1 := IntWalk.i64_in _ ⟨by omega, by omega⟩
      clear hgl hT h9 cr hbw hsw
      have hci : ((g.length + n + 1 : Nat) : Int) = (g.length : Int) + (n : Int) + 1 := by omega
      rw [hci] at HFG
      clear hci
      go_wp2_with (go_at_call 66; refine HFG.out.mono ?_; rintro e w3 ⟨T3, c3, rfl, hb3, ho3⟩)
      go_ret
      have hbb := belT HX.out HBW.out
      exact ⟨T3, c3, rfl, belT hbb hb3, ho3.more hbb.size (Nat.le_refl _)⟩
  · have hF : frmG g = [] := frm_no (by
      rcases hb : frmB g with _ | _
      · rfl
      · have := (frmB_iff.1 hb).2; rw [hn] at this; exact absurd this h8)
    have h8' : (8 : Int) < (g.length : Int) + (n : Int) := by omega
    rw [hF]
    clear hF hg h hgm hn hl0 hbt hc0
    go_enter Try.func36, Try.ntmps36
    go_wp2_with fail
    rw [HW.out]
    go_region_held3 (fun w' => Below W.heap.size W w')
      (first | exact Below.refl _ _ | exact Below.drew (Below.refl _ _) | (refine Below.drew ?_; assumption) | exact belT (by assumption) (by assumption) | assumption)
      ((go_at_call 47; refine (HG.out _ _ (HR.out _ (by first | exact Below.refl _ _ | exact Below.drew (Below.refl _ _) | assumption))).mono ?_; rintro e w8 ⟨rfl, rfl⟩; rw [HB.out]))
    go_wp2_with fail
    go_ret
    exact ⟨none, 0, rfl, belT HX.out (by assumption), fun h0 => absurd h0 (by simp)⟩

end Go.Proofs.Ytanfefgigepdcaa
