/- Texts in one: RingM, RingA, RingB, RingC, RingD. -/
import Derived.Test.YtlmaeadbomnhlaaGreatMC
import Derived.Test.YtlmaeadbomnhlaaGreatOA
import Derived.Outline
import Derived.Test.YtlmaeadbomnhlaaGreatOB
namespace Go.Proofs.YtlmaeadbomnhlaaGreat
set_option linter.unusedSimpArgs false
set_option linter.unusedVariables false
open Go.RowKit
structure AntiT (n : Nat) (T : List (List Int)) : Prop where
  len : T.length = n
  row : ∀ i, i < n → (rowAt T i).length = n
  anti : ∀ i j, i < n → j < n → nth (rowAt T i) j = -nth (rowAt T j) i
theorem AntiT.self {n : Nat} {T : List (List Int)} (h : AntiT n T) {i : Nat} (hi : i < n) : nth (rowAt T i) i = 0 := by
  have := h.anti i i hi hi; omega
def fillV (T : List (List Int)) (k r j x : Nat) : Int := if (j < k ∧ x < k) ∨ (j = k ∧ x < r) ∨ (x = k ∧ j < r) then nth (rowAt T j) x else 0
structure Fairing (w wr : World) (n : Nat) (T : List (List Int)) (A : Nat → Nat) (m k r : Nat) : Prop where
  bel : Below w.heap.size w wr
  size : w.heap.size < wr.heap.size
  top : wr.rowIs w.heap.size 52 n (fun j => if j < m then .slice (some ⟨A j, 0, none⟩) n n else .slice none 0 0)
  rows : ∀ j, j < m → wr.rowIs (A j) 3 n (fun x => .int .i64 (fillV T k r j x))
  lo : ∀ j, j < m → w.heap.size < A j
  apart : ∀ i j, i < m → j < m → i ≠ j → A i ≠ A j
theorem Fairing.start (w : World) (n : Nat) (T : List (List Int)) (A : Nat → Nat) : Fairing w (w.alloc (.cells (madeCells #[.slice none 0 0] n) 52)) n T A 0 0 0 :=
  ⟨(Below.refl _ _).alloc (Nat.le_refl _) _, by simp, (World.rowIs_made w _ _ _).congr (fun j _ => by simp), fun j hj => absurd hj (Nat.not_lt_zero _), fun j hj => absurd hj (Nat.not_lt_zero _), fun i j hi => absurd hi (Nat.not_lt_zero _)⟩
theorem Fairing.keep {w wr w' : World} {n : Nat} {T : List (List Int)} {A : Nat → Nat} {m k r : Nat} (h : Fairing w wr n T A m k r) (hb : Below wr.heap.size wr w') : Fairing w w' n T A m k r :=
  ⟨h.bel.trans (hb.mono (Nat.le_of_lt h.size)), Nat.lt_of_lt_of_le h.size hb.size, h.top.of_block (hb.block _ h.size), fun j hj => (h.rows j hj).of_block (hb.block _ (h.rows j hj).lt), h.lo, h.apart⟩
theorem Fairing.open_ {w wr : World} {n : Nat} {T : List (List Int)} {A : Nat → Nat} {k : Nat} (h : Fairing w wr n T A k k 0) :
    Fairing w ((wr.alloc (.cells (madeCells #[.int .i64 0] n) 3)).setCell ⟨w.heap.size, k, none⟩ (.slice (some ⟨wr.heap.size, 0, none⟩) n n)) n T (fun j => if j < k then A j else wr.heap.size) (k + 1) k 0 := by
  have hz := h.size
  have hnew := World.rowIs_made wr (.int .i64 0) n 3
  refine ⟨(h.bel.alloc (by omega) _).setCell (Nat.le_refl _) _, by simp [World.setCell]; omega, ((h.top.alloc _).set k _).congr (fun j _ => ?_), fun j hj => ?_, fun j hj => ?_, fun i j hi hj hne => ?_⟩
  · by_cases e : j = k
    · subst e; simp
    · rw [if_neg e]
      by_cases hlt : j < k
      · rw [if_pos hlt, if_pos (by omega), if_pos hlt]
      · rw [if_neg hlt, if_neg (by omega)]
  · by_cases hlt : j < k
    · rw [if_pos hlt]
      have := h.lo j hlt
      exact ((h.rows j hlt).alloc _).setOther (by show A j ≠ w.heap.size; omega) _
    · obtain rfl : j = k := by omega
      rw [if_neg hlt]
      refine (hnew.setOther (by show wr.heap.size ≠ w.heap.size; omega) _).congr (fun x _ => ?_)
      unfold fillV
      rw [if_neg (by omega)]
  · by_cases hlt : j < k
    · rw [if_pos hlt]; exact h.lo j hlt
    · rw [if_neg hlt]; exact hz
  · by_cases hi' : i < k
    · by_cases hj' : j < k
      · rw [if_pos hi', if_pos hj']; exact h.apart i j hi' hj' hne
      · rw [if_pos hi', if_neg hj']; have := (h.rows i hi').lt; omega
    · by_cases hj' : j < k
      · rw [if_neg hi', if_pos hj']; have := (h.rows j hj').lt; omega
      · omega
theorem Fairing.step {w wr : World} {n : Nat} {T : List (List Int)} {A : Nat → Nat} {k r : Nat} (hT : AntiT n T) (hk : k < n) (hr : r < k) (h : Fairing w wr n T A (k + 1) k r) :
    Fairing w ((wr.setCell ⟨A r, k, none⟩ (.int .i64 (nth (rowAt T r) k))).setCell ⟨A k, r, none⟩ (.int .i64 (-nth (rowAt T r) k))) n T A (k + 1) k (r + 1) := by
  have hlr := h.lo r (by omega)
  have hlk := h.lo k (by omega)
  have hne := h.apart r k (by omega) (by omega) (by omega)
  refine ⟨(h.bel.setCell (by show w.heap.size ≤ A r; omega) _).setCell (by show w.heap.size ≤ A k; omega) _, by simp [World.setCell]; exact h.size, (h.top.setOther (by show w.heap.size ≠ A r; omega) _).setOther (by show w.heap.size ≠ A k; omega) _, fun j hj => ?_, h.lo, h.apart⟩
  have hlj := h.lo j hj
  have fv : ∀ x, ¬ (j = r ∧ x = k) → ¬ (j = k ∧ x = r) → fillV T k r j x = fillV T k (r + 1) j x := fun x h1 h2 => by
    unfold fillV
    by_cases hc : (j < k ∧ x < k) ∨ (j = k ∧ x < r) ∨ (x = k ∧ j < r)
    · rw [if_pos hc, if_pos (by omega)]
    · rw [if_neg hc, if_neg (by omega)]
  by_cases e1 : j = r
  · subst e1
    refine (((h.rows j hj).set k _).setOther (by show A j ≠ A k; exact hne) _).congr (fun x _ => ?_)
    by_cases ex : x = k
    · subst ex; rw [if_pos rfl]; unfold fillV; rw [if_pos (by omega)]
    · rw [if_neg ex, fv x (by omega) (by omega)]
  · by_cases e2 : j = k
    · subst e2
      refine (((h.rows j hj).setOther (by show A j ≠ A r; exact fun e => hne e.symm) _).set r _).congr (fun x _ => ?_)
      by_cases ex : x = r
      · subst ex; rw [if_pos rfl]; unfold fillV; rw [if_pos (by omega), hT.anti j x hk (by omega)]
      · rw [if_neg ex, fv x (by omega) (by omega)]
    · exact (((h.rows j hj).setOther (by show A j ≠ A r; exact h.apart j r hj (by omega) e1) _).setOther (by show A j ≠ A k; exact h.apart j k hj (by omega) e2) _).congr (fun x _ => by rw [fv x (by omega) (by omega)])
theorem Fairing.next {w wr : World} {n : Nat} {T : List (List Int)} {A : Nat → Nat} {k : Nat} (hT : AntiT n T) (hk : k < n) (h : Fairing w wr n T A (k + 1) k k) : Fairing w wr n T A (k + 1) (k + 1) 0 :=
  ⟨h.bel, h.size, h.top, fun j hj => (h.rows j hj).congr (fun x _ => by
    unfold fillV
    by_cases hc : (j < k ∧ x < k) ∨ (j = k ∧ x < k) ∨ (x = k ∧ j < k)
    · rw [if_pos hc, if_pos (by omega)]
    · rw [if_neg hc]
      by_cases he : j = k ∧ x = k
      · rw [if_pos (by omega), he.1, he.2, hT.self hk]
      · rw [if_neg (by omega)]), h.lo, h.apart⟩
theorem Fairing.done {w wr : World} {n : Nat} {T : List (List Int)} {A : Nat → Nat} (hT : AntiT n T) (hn : n ≤ maxLen) (h : Fairing w wr n T A n n 0) : OwnR wr w.heap.size wr.heap.size (some ⟨w.heap.size, 0, none⟩) T := by
  intro h0
  have hl := hT.len
  refine ⟨w.heap.size, n, _, fun j => some ⟨A j, 0, none⟩, fun _ => n, rfl, Nat.le_refl _, h.size, by omega, h.top, fun i hi => by rw [if_pos (by omega), hT.row i (by omega)], ⟨fun i hi => ⟨by rw [hT.row i (by omega)]; exact Nat.le_refl _, hn⟩, fun i hi _ => ?_, fun i j hi hj hne _ _ e => ?_⟩⟩
  · have := h.lo i (by omega)
    refine ⟨A i, n, _, rfl, by omega, (h.rows i (by omega)).lt, h.rows i (by omega), by rw [hT.row i (by omega)]; exact Nat.le_refl _, fun x hx => ?_⟩
    rw [hT.row i (by omega)] at hx
    unfold fillV
    rw [if_pos (by omega)]
  · injection e with e; injection e with e
    exact h.apart i j (by omega) (by omega) hne e
end Go.Proofs.YtlmaeadbomnhlaaGreat

namespace Go.Proofs.YtlmaeadbomnhlaaGreat
set_option linter.unusedSimpArgs false
set_option linter.unusedVariables false
open Go.RowKit
theorem list_ne {l m : List Int} {k : Nat} (h : nth l k ≠ nth m k) : decide (l = m) = false := decide_eq_false fun e => h (by rw [e])
theorem list_eq {l m : List Int} (hl : l.length = m.length) (h : ∀ i, i < l.length → nth l i = nth m i) : l = m := by
  refine List.ext_getElem hl fun i h1 h2 => ?_
  have := h i h1
  unfold nth at this
  simpa [h1, h2] using this
set_option maxHeartbeats 1000000 in
theorem equalI (A B : Option Addr) (c d : Nat) (l m : List Int) (S T : Nat → Prop) (hl : l.length ≤ maxLen) (hm : m.length ≤ maxLen) (w : World) (h : Ints w S A l) (h' : Ints w T B m) :
    Calls Tryz.prog 33 #[.slice A l.length c, .slice B m.length d] w (Quiet (.bool (decide (l = m))) w) := by
  unfold maxLen at hl hm
  have HH := Lib.hid h
  have HK := Lib.hid h'
  clear h h'
  by_cases hlm : l.length = m.length
  · have z1 : ((l.length : Int) != (m.length : Int)) = false := by rw [hlm]; simp
    have HL := Lib.hid hlm
    clear hlm
    go_enter Tryz.func33, Tryz.ntmps33
    go_wp2_with fail
    go_loopw [13] (fun i wr => ∃ k : Nat, k ≤ l.length ∧ i = .int .i64 k ∧ Hid (∀ i, i < k → nth l i = nth m i) ∧ ∃ n, wr = w.drewN n) (fun i _ => l.length - (intOf i).toNat)
    case atStart => exact ⟨0, Nat.zero_le _, rfl, fun i hi => absurd hi (Nat.not_lt_zero _), (by first | exact ⟨0, rfl⟩ | exact ⟨_, rfl⟩ | exact ⟨_, World.drewN_drewN _ _ _⟩ | (simp only [World.drewN_drewN]; exact ⟨_, rfl⟩))⟩
    case round =>
      obtain ⟨k, hk, rfl, HA, n, rfl⟩ := hrel
      by_cases hlt : k < l.length
      · obtain ⟨b, off, rfl, hS, hc⟩ := HH.out.at_ hlt
        obtain ⟨b', off', rfl, hS', hc'⟩ := HK.out.at_ (i := k) (by rw [← HL.out]; exact hlt)
        have hck := hc k hlt
        have hck' := hc' k (by rw [← HL.out]; exact hlt)
        have hkm : k < m.length := by rw [← HL.out]; exact hlt
        clear hc hc'
        by_cases he : nth l k = nth m k
        · have z2 : (nth l k != nth m k) = false := by simp [he]
          have HA2 : Hid (∀ i, i < k + 1 → nth l i = nth m i) := fun i hi => by
            by_cases e : i = k
            · subst e; exact he
            · exact HA.out i (by omega)
          clear he HA
          go_wp2_with fail
          go_quiet (fail)
          go_wp2_with fail
          go_roundw
          case rel => exact ⟨k + 1, by omega, by go_num, HA2, (by first | exact ⟨0, rfl⟩ | exact ⟨_, rfl⟩ | exact ⟨_, World.drewN_drewN _ _ _⟩ | (simp only [World.drewN_drewN]; exact ⟨_, rfl⟩))⟩
          case measure => simp [intOf]; omega
        · have z2 : (nth l k != nth m k) = true := by simp [he]
          have HN := Lib.hid (list_ne he)
          clear he HA
          go_wp2_with fail
          go_quiet (fail)
          go_wp2_with fail
          go_ret
          exact Quiet.ofD (by rw [HN.out]; rfl) (by first | exact ⟨0, rfl⟩ | exact ⟨_, rfl⟩ | exact ⟨_, World.drewN_drewN _ _ _⟩ | (simp only [World.drewN_drewN]; exact ⟨_, rfl⟩))
      · obtain rfl : k = l.length := by omega
        have HN : Hid (decide (l = m) = true) := decide_eq_true (list_eq HL.out HA.out)
        go_wp2_with fail
        go_ret
        exact Quiet.ofD (by rw [HN.out]; rfl) (by first | exact ⟨0, rfl⟩ | exact ⟨_, rfl⟩ | exact ⟨_, World.drewN_drewN _ _ _⟩ | (simp only [World.drewN_drewN]; exact ⟨_, rfl⟩))
  · have z1 : ((l.length : Int) != (m.length : Int)) = true := by simp; omega
    have HN : Hid (decide (l = m) = false) := decide_eq_false fun e => hlm (by rw [e])
    have hlm2 : ¬ (l.length : Int) = (m.length : Int) := by omega
    go_enter Tryz.func33, Tryz.ntmps33
    go_wp2_with fail
    go_ret
    exact Quiet.of (by rw [HN.out]; rfl)
theorem rows_ne {g T : List (List Int)} {k : Nat} (h : rowAt g k ≠ rowAt T k) : decide (g = T) = false := decide_eq_false fun e => h (by rw [e])
theorem rows_eq {g T : List (List Int)} (hl : g.length = T.length) (h : ∀ i, i < g.length → rowAt g i = rowAt T i) : g = T := by
  refine List.ext_getElem hl fun i h1 h2 => ?_
  have := h i h1
  unfold rowAt at this
  simpa [h1, h2] using this
set_option maxHeartbeats 1000000 in
theorem equalRows (A B : Option Addr) (c d : Nat) (g T : List (List Int)) (S S' : Nat → Prop) (hl : g.length ≤ maxLen) (hm : T.length ≤ maxLen) (w : World) (h : Rows2 w S A g) (h' : Rows2 w S' B T) :
    Calls Tryz.prog 32 #[.slice A g.length c, .slice B T.length d, .func (.func 33) #[] #[]] w (Quiet (.bool (decide (g = T))) w) := by
  unfold maxLen at hl hm
  have HH := Lib.hid h
  have HK := Lib.hid h'
  have hE := enters_of Tryz.func33 (by kernel_rfl) rfl
  clear h h'
  by_cases hlm : g.length = T.length
  · have z1 : ((g.length : Int) != (T.length : Int)) = false := by rw [hlm]; simp
    have HL := Lib.hid hlm
    clear hlm
    go_enter Tryz.func32, Tryz.ntmps32
    go_wp2_with fail
    go_loopw [17] (fun i wr => ∃ k : Nat, k ≤ g.length ∧ i = .int .i64 k ∧ Hid (∀ i, i < k → rowAt g i = rowAt T i) ∧ ∃ n, wr = w.drewN n) (fun i _ => g.length - (intOf i).toNat)
    case atStart => exact ⟨0, Nat.zero_le _, rfl, fun i hi => absurd hi (Nat.not_lt_zero _), (by first | exact ⟨0, rfl⟩ | exact ⟨_, rfl⟩ | exact ⟨_, World.drewN_drewN _ _ _⟩ | (simp only [World.drewN_drewN]; exact ⟨_, rfl⟩))⟩
    case round =>
      obtain ⟨k, hk, rfl, HA, n, rfl⟩ := hrel
      by_cases hlt : k < g.length
      · obtain ⟨b, off, rfl⟩ := HH.out.some (by omega)
        obtain ⟨b', off', rfl⟩ := HK.out.some (by rw [← HL.out]; omega)
        obtain ⟨hS, Ak, ck, hck, hlk, hmk, hik⟩ := HH.out.row hlt
        obtain ⟨hS', Bk, dk, hdk, hlk', hmk', hik'⟩ := HK.out.row (i := k) (by rw [← HL.out]; exact hlt)
        have HQ := Lib.hid (fun n' => equalI Ak Bk ck dk (rowAt g k) (rowAt T k) S S' (Nat.le_trans hlk hmk) (Nat.le_trans hlk' hmk') (w.drewN n') (hik.drewN _) (hik'.drewN _))
        have hkm : k < T.length := by rw [← HL.out]; exact hlt
        clear hik hik' hmk hmk' hlk hlk'
        go_wp2_with fail
        refine (HQ.out _).mono ?_
        rintro e w1 ⟨rfl, n2, rfl⟩
        rcases he : decide (rowAt g k = rowAt T k) with _ | _
        · have HN := Lib.hid (rows_ne (of_decide_eq_false he))
          clear HA HQ he
          go_wp2_with fail
          go_ret
          exact Quiet.ofD (by rw [HN.out]; rfl) (by first | exact ⟨0, rfl⟩ | exact ⟨_, rfl⟩ | exact ⟨_, World.drewN_drewN _ _ _⟩ | (simp only [World.drewN_drewN]; exact ⟨_, rfl⟩))
        · have HA2 : Hid (∀ i, i < k + 1 → rowAt g i = rowAt T i) := fun i hi => by
            by_cases e : i = k
            · subst e; exact of_decide_eq_true he
            · exact HA.out i (by omega)
          clear HA HQ he
          go_wp2_with fail
          go_roundw
          case rel => exact ⟨k + 1, by omega, by go_num, HA2, (by first | exact ⟨0, rfl⟩ | exact ⟨_, rfl⟩ | exact ⟨_, World.drewN_drewN _ _ _⟩ | (simp only [World.drewN_drewN]; exact ⟨_, rfl⟩))⟩
          case measure => simp [intOf]; omega
      · obtain rfl : k = g.length := by omega
        have HN : Hid (decide (g = T) = true) := decide_eq_true (rows_eq HL.out HA.out)
        go_wp2_with fail
        go_ret
        exact Quiet.ofD (by rw [HN.out]; rfl) (by first | exact ⟨0, rfl⟩ | exact ⟨_, rfl⟩ | exact ⟨_, World.drewN_drewN _ _ _⟩ | (simp only [World.drewN_drewN]; exact ⟨_, rfl⟩))
  · have HN : Hid (decide (g = T) = false) := decide_eq_false fun e => hlm (by rw [e])
    have hlm2 : ¬ (g.length : Int) = (T.length : Int) := by omega
    go_enter Tryz.func32, Tryz.ntmps32
    go_wp2_with fail
    go_ret
    exact Quiet.of (by rw [HN.out]; rfl)
end Go.Proofs.YtlmaeadbomnhlaaGreat

namespace Go.Proofs.YtlmaeadbomnhlaaGreat
set_option linter.unusedSimpArgs false
set_option linter.unusedVariables false
open Go.RowKit
end Go.Proofs.YtlmaeadbomnhlaaGreat

namespace Go.Proofs.YtlmaeadbomnhlaaGreat
set_option linter.unusedSimpArgs false
set_option linter.unusedVariables false
open Go.RowKit
end Go.Proofs.YtlmaeadbomnhlaaGreat

namespace Go.Proofs.YtlmaeadbomnhlaaGreat
set_option linter.unusedSimpArgs false
set_option linter.unusedVariables false
open Go.RowKit
end Go.Proofs.YtlmaeadbomnhlaaGreat
