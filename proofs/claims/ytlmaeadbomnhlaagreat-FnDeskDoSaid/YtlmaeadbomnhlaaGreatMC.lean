/- Texts in one: Mem, Game, GameS, Best, Laid, Floor, Copy, Own, Mark, Turn, Own2, FloorS, TurnS, Saddle, SaddleS, Mark2. -/
import Derived.Test.YtlmaeadbomnhlaaGreatProg
import Derived.Test.YtlmaeadbomnhlaaGreatMA
import Derived.Test.YtlmaeadbomnhlaaGreatMB
import Derived.Deep.Draws
import Derived.Deep.OwnRows
import Derived.Shelf.Abstract
import Derived.OwnWalk
import Derived.Maps.AppendAt
namespace Go.Proofs.YtlmaeadbomnhlaaGreat
set_option linter.unusedSimpArgs false
set_option linter.unusedVariables false
open Go.RowKit
def Quiet (v : Value) (w : World) (e : Ending) (w' : World) : Prop := e = .returned v ∧ ∃ n, w' = w.drewN n
theorem Quiet.mk {v : Value} {w : World} (n : Nat) : Quiet v w (.returned v) (w.drewN n) := ⟨rfl, n, rfl⟩
theorem Quiet.of {v x : Value} {w : World} (h : x = v) : Quiet v w (.returned x) w := ⟨by rw [h], 0, rfl⟩
theorem Quiet.ofN {v x : Value} {w : World} {n : Nat} (h : x = v) : Quiet v w (.returned x) (w.drewN n) := ⟨by rw [h], n, rfl⟩
theorem Quiet.ofD {v x : Value} {w w' : World} (h : x = v) (hd : ∃ n, w' = w.drewN n) : Quiet v w (.returned x) w' := ⟨by rw [h], hd⟩
theorem quietAdd {P : Program} {f : FuncId} {args : Array Value} {w : World} {a n : Nat} {v : Value} (h : Calls P f args (w.drewN (a + n)) (Quiet v (w.drewN (a + n)))) :
    Calls P f args (w.drewN (a + n)) fun e w'' => e = .returned v ∧ ∃ m, w'' = w.drewN (a + m) :=
  h.mono fun _ _ ⟨he, m, hm⟩ => ⟨he, n + m, by rw [hm, World.drewN_drewN, Nat.add_assoc]⟩
def Same (v : Value) (w : World) (e : Ending) (w' : World) : Prop := e = .returned v ∧ w = w'
theorem Same.of {v x : Value} {w : World} (h : x = v) : Same v w (.returned x) w := ⟨by rw [h], rfl⟩
def Ints (w : World) (S : Nat → Prop) (A : Option Addr) (l : List Int) : Prop :=
  0 < l.length → ∃ b off : Nat, A = some ⟨b, off, none⟩ ∧ S b ∧ ∀ i, i < l.length → w.cell? ⟨b, off + i, none⟩ = some (.int .i64 (nth l i))
def Rows2 (w : World) (S : Nat → Prop) (A : Option Addr) (g : List (List Int)) : Prop :=
  0 < g.length → ∃ b off : Nat, A = some ⟨b, off, none⟩ ∧ S b ∧ ∀ i, i < g.length → ∃ (A' : Option Addr) (c : Nat),
    w.cell? ⟨b, off + i, none⟩ = some (.slice A' (rowAt g i).length c) ∧ (rowAt g i).length ≤ c ∧ c ≤ maxLen ∧ Ints w S A' (rowAt g i)
theorem Ints.nil (w : World) (S : Nat → Prop) (A : Option Addr) : Ints w S A [] := fun h => absurd h (by simp)
theorem Ints.keep {w w' : World} {S : Nat → Prop} {A : Option Addr} {l : List Int} (h : Ints w S A l) (hk : ∀ b, S b → w'.heap[b]? = w.heap[b]?) : Ints w' S A l := by
  intro h0
  obtain ⟨b, off, e, hb, hc⟩ := h h0
  exact ⟨b, off, e, hb, fun i hi => (World.cell?_of_block (w := w) (hk b hb)).trans (hc i hi)⟩
theorem Ints.mono {w : World} {S T : Nat → Prop} {A : Option Addr} {l : List Int} (h : Ints w S A l) (hk : ∀ b, S b → T b) : Ints w T A l := by
  intro h0
  obtain ⟨b, off, e, hb, hc⟩ := h h0
  exact ⟨b, off, e, hk b hb, hc⟩
theorem Rows2.keep {w w' : World} {S : Nat → Prop} {A : Option Addr} {g : List (List Int)} (h : Rows2 w S A g) (hk : ∀ b, S b → w'.heap[b]? = w.heap[b]?) : Rows2 w' S A g := by
  intro h0
  obtain ⟨b, off, e, hb, hc⟩ := h h0
  refine ⟨b, off, e, hb, fun i hi => ?_⟩
  obtain ⟨A', c, h1, h2, h3, h4⟩ := hc i hi
  exact ⟨A', c, (World.cell?_of_block (w := w) (hk b hb)).trans h1, h2, h3, h4.keep hk⟩
theorem Rows2.mono {w : World} {S T : Nat → Prop} {A : Option Addr} {g : List (List Int)} (h : Rows2 w S A g) (hk : ∀ b, S b → T b) : Rows2 w T A g := by
  intro h0
  obtain ⟨b, off, e, hb, hc⟩ := h h0
  refine ⟨b, off, e, hk b hb, fun i hi => ?_⟩
  obtain ⟨A', c, h1, h2, h3, h4⟩ := hc i hi
  exact ⟨A', c, h1, h2, h3, h4.mono hk⟩
theorem Ints.drewN {w : World} {S : Nat → Prop} {A : Option Addr} {l : List Int} (h : Ints w S A l) (n : Nat) : Ints (w.drewN n) S A l := h.keep fun _ _ => rfl
theorem Rows2.drewN {w : World} {S : Nat → Prop} {A : Option Addr} {g : List (List Int)} (h : Rows2 w S A g) (n : Nat) : Rows2 (w.drewN n) S A g := h.keep fun _ _ => rfl
theorem Ints.at_ {w : World} {S : Nat → Prop} {A : Option Addr} {l : List Int} (h : Ints w S A l) {i : Nat} (hi : i < l.length) :
    ∃ b off : Nat, A = some ⟨b, off, none⟩ ∧ S b ∧ ∀ i, i < l.length → w.cell? ⟨b, off + i, none⟩ = some (.int .i64 (nth l i)) := h (by omega)
theorem Rows2.at_ {w : World} {S : Nat → Prop} {A : Option Addr} {g : List (List Int)} (h : Rows2 w S A g) {i : Nat} (hi : i < g.length) :
    ∃ b off : Nat, A = some ⟨b, off, none⟩ ∧ S b ∧ ∀ i, i < g.length → ∃ (A' : Option Addr) (c : Nat),
    w.cell? ⟨b, off + i, none⟩ = some (.slice A' (rowAt g i).length c) ∧ (rowAt g i).length ≤ c ∧ c ≤ maxLen ∧ Ints w S A' (rowAt g i) := h (by omega)
theorem Rows2.cell {w : World} {S : Nat → Prop} {b off : Nat} {g : List (List Int)} (h : Rows2 w S (some ⟨b, off, none⟩) g) {i j : Nat} (hi : i < g.length) (hj : j < (rowAt g i).length) :
    ∃ b' off' c : Nat, w.cell? ⟨b, off + i, none⟩ = some (.slice (some ⟨b', off', none⟩) (rowAt g i).length c) ∧ (rowAt g i).length ≤ c ∧ c ≤ maxLen ∧ S b' ∧ w.cell? ⟨b', off' + j, none⟩ = some (.int .i64 (nth (rowAt g i) j)) := by
  obtain ⟨b0, off0, e, hS, hc⟩ := h.at_ hi
  injection e with e
  injection e with e1 e2
  subst e1 e2
  obtain ⟨A', c, h1, h2, h3, h4⟩ := hc i hi
  obtain ⟨b', off', rfl, hS', hcell⟩ := h4.at_ hj
  exact ⟨b', off', c, h1, h2, h3, hS', hcell j hj⟩
theorem Rows2.row {w : World} {S : Nat → Prop} {b off : Nat} {g : List (List Int)} (h : Rows2 w S (some ⟨b, off, none⟩) g) {i : Nat} (hi : i < g.length) :
    S b ∧ ∃ (A' : Option Addr) (c : Nat), w.cell? ⟨b, off + i, none⟩ = some (.slice A' (rowAt g i).length c) ∧ (rowAt g i).length ≤ c ∧ c ≤ maxLen ∧ Ints w S A' (rowAt g i) := by
  obtain ⟨b0, off0, e, hS, hc⟩ := h.at_ hi
  injection e with e
  injection e with e1 e2
  subst e1 e2
  exact ⟨hS, hc i hi⟩
theorem Rows2.some {w : World} {S : Nat → Prop} {A : Option Addr} {g : List (List Int)} (h : Rows2 w S A g) (h0 : 0 < g.length) : ∃ b off : Nat, A = some ⟨b, off, none⟩ := by
  obtain ⟨b, off, e, _⟩ := h h0; exact ⟨b, off, e⟩
theorem Ints.lt {w : World} {B B' : Nat} {A : Option Addr} {l : List Int} (h : Ints w (· < B) A l) (hB : B ≤ B') : Ints w (· < B') A l := h.mono fun b (hb : b < B) => Nat.lt_of_lt_of_le hb hB
theorem Rows2.lt {w : World} {B B' : Nat} {A : Option Addr} {g : List (List Int)} (h : Rows2 w (· < B) A g) (hB : B ≤ B') : Rows2 w (· < B') A g := h.mono fun b (hb : b < B) => Nat.lt_of_lt_of_le hb hB
end Go.Proofs.YtlmaeadbomnhlaaGreat

namespace Go.Proofs.YtlmaeadbomnhlaaGreat
set_option linter.unusedSimpArgs false
set_option linter.unusedVariables false
open Go.RowKit
set_option maxHeartbeats 400000 in
theorem sideOk (n : Nat) (hn : n ≤ 9223372036854775807) (w : World) :
    Calls Tryz.prog 80 #[.int .i64 (n : Int)] w (Same (.bool (sideB n)) w) := by
  by_cases h1 : 1 ≤ n
  · by_cases h2 : n ≤ 16
    · have hf : sideB n = true := by simp [sideB, h1, h2]
      rw [hf]
      go_enter Tryz.func80, Tryz.ntmps80
      go_wp2
      go_ret
      exact Same.of (by simp; try omega)
    · have hf : sideB n = false := by simp [sideB, h2]
      rw [hf]
      go_enter Tryz.func80, Tryz.ntmps80
      go_wp2
      go_ret
      exact Same.of (by simp; try omega)
  · have hf : sideB n = false := by simp [sideB, h1]
    rw [hf]
    have hd : decide ((1 : Int) ≤ (n : Int)) = false := by simp; omega
    go_enter Tryz.func80, Tryz.ntmps80
    go_wp2
    go_ret
    exact Same.of (by simp; try omega)
set_option maxHeartbeats 400000 in
theorem numberOk (n : Int) (w : World) :
    Calls Tryz.prog 74 #[.int .i64 n] w (Same (.bool (inB n)) w) := by
  by_cases h1 : -9 ≤ n
  · by_cases h2 : n ≤ 9
    · have hf : inB n = true := inB_iff.2 ⟨h1, h2⟩
      rw [hf]
      go_enter Tryz.func74, Tryz.ntmps74
      go_wp2
      go_ret
      exact Same.of (by simp; try omega)
    · have hf : inB n = false := inB_false.2 (.inr (by omega))
      rw [hf]
      have hd : decide (n ≤ (9 : Int)) = false := by simp; omega
      go_enter Tryz.func74, Tryz.ntmps74
      go_wp2
      go_ret
      exact Same.of (by simp; try omega)
  · have hf : inB n = false := inB_false.2 (.inl (by omega))
    rw [hf]
    have hd : decide ((-9 : Int) ≤ n) = false := by simp; omega
    go_enter Tryz.func74, Tryz.ntmps74
    go_wp2
    go_ret
    exact Same.of (by simp; try omega)
set_option maxHeartbeats 400000 in
theorem numbersOk (A : Option Addr) (c : Nat) (l : List Int) (S : Nat → Prop) (hl : l.length ≤ maxLen) (w : World) (h : Ints w S A l) :
    Calls Tryz.prog 81 #[.slice A l.length c] w (Same (.bool (numsB l l.length)) w) := by
  unfold maxLen at hl
  go_enter Tryz.func81, Tryz.ntmps81
  go_wp2
  go_loop [7] (fun i => ∃ k : Nat, k ≤ l.length ∧ i = .int .i64 k ∧ Hid (numsB l k = true)) (fun i => l.length - (intOf i).toNat)
  case atStart => exact ⟨0, Nat.zero_le _, rfl, rfl⟩
  case round =>
    obtain ⟨k, hk, rfl, H⟩ := hrel
    by_cases hlt : k < l.length
    · obtain ⟨b, off, rfl, hS, hc⟩ := h.at_ hlt
      have hck := hc k hlt
      clear hc
      rcases hb : inB (nth l k) with _ | _
      · have hno : Hid (numsB l l.length = false) := numsB_no hb hlt
        have HB := Lib.hid hb
        clear hb
        go_wp2_with (go_at_call 74; refine (numberOk _ _).mono ?_; rintro e w1 ⟨rfl, rfl⟩; rw [HB.out])
        go_ret
        exact Same.of (by rw [hno.out]; rfl)
      · have hy : Hid (numsB l (k + 1) = true) := by show (numsB l k && _) = true; rw [H.out, hb]; rfl
        have HB := Lib.hid hb
        clear hb
        go_wp2_with (go_at_call 74; refine (numberOk _ _).mono ?_; rintro e w1 ⟨rfl, rfl⟩; rw [HB.out])
        go_round
        case rel => exact ⟨k + 1, by omega, by go_num, hy⟩
        case measure => simp [intOf]; omega
    · obtain rfl : k = l.length := by omega
      go_wp2
      go_ret
      exact Same.of (by rw [H.out]; rfl)
set_option maxHeartbeats 1000000 in
theorem game_impl (A : Option Addr) (c : Nat) (g : List (List Int)) (S : Nat → Prop) (hl : g.length ≤ maxLen) (w : World) (h : Rows2 w S A g) :
    Calls Tryz.prog 58 #[.slice A g.length c] w (Same (.bool (gameB g)) w) := by
  unfold maxLen at hl
  rcases hs : sideB g.length with _ | _
  · have hno : Hid (gameB g = false) := by simp [Hid, gameB, hs]
    have HS := Lib.hid hs
    clear hs
    go_enter Tryz.func58, Tryz.ntmps58
    go_wp2_with fail
    refine (sideOk _ hl _).mono ?_
    rintro e w1 ⟨rfl, rfl⟩
    rw [HS.out]
    go_wp2_with fail
    go_ret
    exact Same.of (by rw [hno.out]; rfl)
  have hg1 := sideB_iff.1 hs
  obtain ⟨b, off, rfl, hS, hc⟩ := h.at_ (i := 0) (by omega)
  obtain ⟨A0, c0, hc0, hl0, hm0, hi0⟩ := hc 0 (by omega)
  rw [Nat.add_zero] at hc0
  unfold maxLen at hm0
  rcases hs0 : sideB (rowAt g 0).length with _ | _
  · have hno : Hid (gameB g = false) := by simp [Hid, gameB, hs, hs0]
    have HS := Lib.hid hs
    have HS0 := Lib.hid hs0
    clear hs hs0 hc
    go_enter Tryz.func58, Tryz.ntmps58
    go_wp2_with fail
    refine (sideOk _ hl _).mono ?_
    rintro e w1 ⟨rfl, rfl⟩
    rw [HS.out]
    go_wp2_with fail
    refine (sideOk _ (by omega) _).mono ?_
    rintro e w1 ⟨rfl, rfl⟩
    rw [HS0.out]
    go_wp2_with fail
    go_ret
    exact Same.of (by rw [hno.out]; rfl)
  have hg2 := sideB_iff.1 hs0
  have hg : ∀ n, rowsB g g.length = n → Hid (gameB g = n) := by intro n hn; simp [Hid, gameB, hs, hs0, hn]
  have HG := Lib.hid hg
  have HS := Lib.hid hs
  have HS0 := Lib.hid hs0
  have HC := Lib.hid hc
  clear hs hs0 hc hg
  go_enter Tryz.func58, Tryz.ntmps58
  go_wp2_with fail
  refine (sideOk _ hl _).mono ?_
  rintro e w1 ⟨rfl, rfl⟩
  rw [HS.out]
  go_wp2_with fail
  refine (sideOk _ (by omega) _).mono ?_
  rintro e w1 ⟨rfl, rfl⟩
  rw [HS0.out]
  go_wp2_with fail
  go_loop [19] (fun i => ∃ k : Nat, k ≤ g.length ∧ i = .int .i64 k ∧ Hid (rowsB g k = true)) (fun i => g.length - (intOf i).toNat)
  case atStart => exact ⟨0, Nat.zero_le _, rfl, rfl⟩
  case round =>
    obtain ⟨k, hk, rfl, H⟩ := hrel
    by_cases hlt : k < g.length
    · obtain ⟨Ak, ck, hck, hlk, hmk, hik⟩ := HC.out k hlt
      unfold maxLen at hmk
      by_cases h1 : (rowAt g k).length = (rowAt g 0).length
      · have h1' : (((rowAt g k).length : Int) != ((rowAt g 0).length : Int)) = false := by simp [h1]
        have H1 := Lib.hid h1
        clear h1
        go_wp2_with fail
        refine (numbersOk _ _ (rowAt g k) S (by unfold maxLen; omega) _ hik).mono ?_
        rintro e w1 ⟨rfl, rfl⟩
        rcases h2 : numsB (rowAt g k) (rowAt g k).length with _ | _
        · have hno := HG.out _ (rowsB_no (k := k) (by simp [rowB, H1.out]; rw [← H1.out]; exact h2) hlt)
          go_wp2_with fail
          go_ret
          exact Same.of (by rw [hno.out]; rfl)
        · have hy : Hid (rowsB g (k + 1) = true) := by show (rowsB g k && rowB _ _) = true; rw [H.out]; simp [rowB, H1.out]; rw [← H1.out]; exact h2
          clear h2
          go_wp2_with fail
          go_round
          case rel => exact ⟨k + 1, by omega, by go_num, hy⟩
          case measure => simp [intOf]; omega
      · have h1' : (((rowAt g k).length : Int) != ((rowAt g 0).length : Int)) = true := by simp; omega
        have hno := HG.out _ (rowsB_no (k := k) (by simp [rowB, h1]) hlt)
        go_wp2_with fail
        go_ret
        exact Same.of (by rw [hno.out]; rfl)
    · obtain rfl : k = g.length := by omega
      have hy := HG.out _ H.out
      go_wp2_with fail
      go_ret
      exact Same.of (by rw [hy.out]; rfl)
end Go.Proofs.YtlmaeadbomnhlaaGreat

namespace Go.Proofs.YtlmaeadbomnhlaaGreat
set_option linter.unusedSimpArgs false
set_option linter.unusedVariables false
open Go.RowKit
theorem inR_in (n : Int) : inR n (-9) 9 = inB n := by simp [inR, inB]
theorem inR_side (n : Nat) : inR (n : Int) 1 16 = sideB n := by
  rw [Bool.eq_iff_iff]; simp [inR, sideB]; omega
set_option maxHeartbeats 1000000 in
theorem game_spec (A : Option Addr) (c : Nat) (g : List (List Int)) (S : Nat → Prop) (hl : g.length ≤ maxLen) (w : World) (h : Rows2 w S A g) :
    Calls Tryz.prog 41 #[.slice A g.length c] w (Quiet (.bool (gameB g)) w) := by
  unfold maxLen at hl
  have HH := Lib.hid h
  clear h
  go_enter Tryz.func41, Tryz.ntmps41
  go_wp2_with fail
  go_loopw [3] (fun i wr => ∃ k : Nat, k ≤ g.length ∧ i = .int .i64 k ∧ Hid (rowsB g k = true) ∧ ∃ n, wr = w.drewN n) (fun i _ => g.length - (intOf i).toNat)
  case atStart => exact ⟨0, Nat.zero_le _, rfl, rfl, 0, rfl⟩
  case round =>
    obtain ⟨k, hk, rfl, H, n0, rfl⟩ := hrel
    by_cases hlt : k < g.length
    · obtain ⟨b, off, rfl, hS, hc⟩ := HH.out.at_ hlt
      obtain ⟨A0, c0, hc0, hl0, hm0, hi0⟩ := hc 0 (by omega)
      rw [Nat.add_zero] at hc0
      obtain ⟨Ak, ck, hck, hlk, hmk, hik⟩ := hc k hlt
      have p0 : 0 < g.length := by omega
      clear hc
      unfold maxLen at hmk hm0
      have HI := Lib.hid hik
      clear hik hi0
      by_cases h1 : (rowAt g k).length = (rowAt g 0).length
      · have h1' : (((rowAt g k).length : Int) != ((rowAt g 0).length : Int)) = false := by simp [h1]
        have H1 := Lib.hid h1
        clear h1
        go_wp2_with fail
        go_quiet (fail)
        go_wp2_with fail
        go_loopw [4] (fun j wr => ∃ m : Nat, m ≤ (rowAt g k).length ∧ j = .int .i64 m ∧ Hid (numsB (rowAt g k) m = true) ∧ ∃ n, wr = w.drewN n) (fun j _ => (rowAt g k).length - (intOf j).toNat)
        case atStart => exact ⟨0, Nat.zero_le _, rfl, rfl, (by first | exact ⟨0, rfl⟩ | exact ⟨_, rfl⟩ | exact ⟨_, World.drewN_drewN _ _ _⟩ | (simp only [World.drewN_drewN]; exact ⟨_, rfl⟩))⟩
        case round =>
          obtain ⟨m, hm, rfl, H2, n1, rfl⟩ := hrel
          by_cases hlt2 : m < (rowAt g k).length
          · obtain ⟨b', off', rfl, hS', hcm⟩ := HI.out.at_ hlt2
            have hcm := hcm m hlt2
            rcases h3 : inB (nth (rowAt g k) m) with _ | _
            · have hno : Hid (gameB g = false) := by
                have := rowsB_no (g := g) (k := k) (n := g.length) (by simp [rowB, H1.out]; rw [← H1.out]; exact numsB_no h3 hlt2) hlt
                simp [Hid, gameB, this]
              have H3 := Lib.hid h3
              clear h3
              go_wp2_with (go_at_call 37; refine (in_spec _ _ _ _).mono ?_; rintro e w1 ⟨rfl, rfl⟩; rw [inR_in, H3.out])
              go_ret
              exact Quiet.ofD (by rw [hno.out]; rfl) (by first | exact ⟨0, rfl⟩ | exact ⟨_, rfl⟩ | exact ⟨_, World.drewN_drewN _ _ _⟩ | (simp only [World.drewN_drewN]; exact ⟨_, rfl⟩))
            · have hy : Hid (numsB (rowAt g k) (m + 1) = true) := by show (numsB _ m && _) = true; rw [H2.out, h3]; rfl
              have H3 := Lib.hid h3
              clear h3
              go_wp2_with (go_at_call 37; refine (in_spec _ _ _ _).mono ?_; rintro e w1 ⟨rfl, rfl⟩; rw [inR_in, H3.out])
              go_roundw
              case rel => exact ⟨m + 1, by omega, by go_num, hy, (by first | exact ⟨0, rfl⟩ | exact ⟨_, rfl⟩ | exact ⟨_, World.drewN_drewN _ _ _⟩ | (simp only [World.drewN_drewN]; exact ⟨_, rfl⟩))⟩
              case measure => simp [intOf]; omega
          · obtain rfl : m = (rowAt g k).length := by omega
            have hy : Hid (rowsB g (k + 1) = true) := by show (rowsB g k && rowB _ _) = true; rw [H.out]; simp [rowB, H1.out]; rw [← H1.out]; exact H2.out
            go_wp2_with fail
            go_roundw
            case rel => exact ⟨k + 1, by omega, by go_num, hy, (by first | exact ⟨0, rfl⟩ | exact ⟨_, rfl⟩ | exact ⟨_, World.drewN_drewN _ _ _⟩ | (simp only [World.drewN_drewN]; exact ⟨_, rfl⟩))⟩
            case measure => simp [intOf]; omega
      · have h1' : (((rowAt g k).length : Int) != ((rowAt g 0).length : Int)) = true := by simp; omega
        have hno : Hid (gameB g = false) := by
          have := rowsB_no (g := g) (k := k) (n := g.length) (by simp [rowB, h1]) hlt
          simp [Hid, gameB, this]
        go_wp2_with fail
        go_quiet (fail)
        go_wp2_with fail
        go_ret
        exact Quiet.ofD (by rw [hno.out]; rfl) (by first | exact ⟨0, rfl⟩ | exact ⟨_, rfl⟩ | exact ⟨_, World.drewN_drewN _ _ _⟩ | (simp only [World.drewN_drewN]; exact ⟨_, rfl⟩))
    · obtain rfl : k = g.length := by omega
      rcases hs : sideB g.length with _ | _
      · have hno : Hid (gameB g = false) := by simp [Hid, gameB, hs]
        have HS := Lib.hid hs
        clear hs
        go_wp2_with (go_at_call 37; refine (in_spec _ _ _ _).mono ?_; rintro e w1 ⟨rfl, rfl⟩; rw [inR_side, HS.out])
        go_ret
        exact Quiet.ofD (by rw [hno.out]; rfl) (by first | exact ⟨0, rfl⟩ | exact ⟨_, rfl⟩ | exact ⟨_, World.drewN_drewN _ _ _⟩ | (simp only [World.drewN_drewN]; exact ⟨_, rfl⟩))
      · have hg1 := sideB_iff.1 hs
        have hy : Hid (gameB g = sideB (rowAt g 0).length) := by have := H.out; simp [Hid, gameB, hs, this]
        have HS := Lib.hid hs
        obtain ⟨b, off, rfl, hS, hc⟩ := HH.out.at_ (i := 0) (by omega)
        obtain ⟨A0, c0, hc0, hl0, hm0, hi0⟩ := hc 0 (by omega)
        rw [Nat.add_zero] at hc0
        clear hs hc hi0
        go_wp2_with fail
        refine (in_spec _ _ _ _).mono ?_
        rintro e w1 ⟨rfl, rfl⟩
        rw [inR_side, HS.out]
        go_wp2_with fail
        refine (in_spec _ _ _ _).mono ?_
        rintro e w1 ⟨rfl, rfl⟩
        rw [inR_side]
        go_wp2_with fail
        go_ret
        exact Quiet.ofD (by rw [hy.out]; rfl) (by first | exact ⟨0, rfl⟩ | exact ⟨_, rfl⟩ | exact ⟨_, World.drewN_drewN _ _ _⟩ | (simp only [World.drewN_drewN]; exact ⟨_, rfl⟩))
end Go.Proofs.YtlmaeadbomnhlaaGreat

namespace Go.Proofs.YtlmaeadbomnhlaaGreat
set_option linter.unusedSimpArgs false
set_option linter.unusedVariables false
open Go.RowKit
theorem infoI : (Tryz.prog.info? 3).map (fun i => (i.zero, i.size, i.bytes)) = some (some (.int .i64 0), 1, 8) := by kernel_rfl
theorem infoR : (Tryz.prog.info? 52).map (fun i => (i.zero, i.size, i.bytes)) = some (some (.slice none 0 0), 1, 24) := by kernel_rfl
structure Better (f : FuncId) (bet : Int → Int → Bool) : Prop where
  enters : ∀ (args : Array Value) (w : World), (callFunc f args).run Tryz.prog w = .ok (.enter f args) w
  calls : ∀ (a b : Int) (w : World), Calls Tryz.prog f #[.int .i64 a, .int .i64 b] w (Same (.bool (bet a b)) w)
set_option maxHeartbeats 400000 in
theorem lower : Better 99 ltB := by
  refine ⟨enters_of Tryz.func99 (by kernel_rfl) rfl, ?_⟩
  intro a b w
  by_cases h : a < b
  · have hf : ltB a b = true := by simp [ltB, h]
    rw [hf]
    go_enter Tryz.func99, Tryz.ntmps99
    go_wp2
    go_ret
    exact Same.of (by simp; try omega)
  · have hf : ltB a b = false := by simp [ltB, h]
    rw [hf]
    go_enter Tryz.func99, Tryz.ntmps99
    go_wp2
    go_ret
    exact Same.of (by simp; try omega)
set_option maxHeartbeats 400000 in
theorem higher : Better 97 gtB := by
  refine ⟨enters_of Tryz.func97 (by kernel_rfl) rfl, ?_⟩
  intro a b w
  by_cases h : b < a
  · have hf : gtB a b = true := by simp [gtB, h]
    rw [hf]
    go_enter Tryz.func97, Tryz.ntmps97
    go_wp2
    go_ret
    exact Same.of (by simp; try omega)
  · have hf : gtB a b = false := by simp [gtB, h]
    rw [hf]
    go_enter Tryz.func97, Tryz.ntmps97
    go_wp2
    go_ret
    exact Same.of (by simp; try omega)
def IntRow (w : World) (b : Nat) (l : List Int) : Prop := w.rowIs b 3 l.length (fun i => .int .i64 (nth l i))
theorem IntRow.ints {w : World} {b : Nat} {l : List Int} {S : Nat → Prop} (h : IntRow w b l) (hb : S b) : Ints w S (some ⟨b, 0, none⟩) l :=
  fun _ => ⟨b, 0, rfl, hb, fun i hi => by rw [Nat.zero_add]; exact h.cell hi⟩
theorem keepRows {w w' : World} {B : Nat} {A : Option Addr} {g : List (List Int)} (hb : Below B w w') (h : Rows2 w (· < B) A g) : Rows2 w' (· < B) A g := h.keep hb.block
theorem keepInts {w w' : World} {B : Nat} {A : Option Addr} {l : List Int} (hb : Below B w w') (h : Ints w (· < B) A l) : Ints w' (· < B) A l := h.keep hb.block
structure Filled (w wr : World) (l : List Int) (k : Nat) : Prop where
  bel : Below w.heap.size w wr
  size : wr.heap.size = w.heap.size + 1
  row : wr.rowIs w.heap.size 3 l.length (fun i => .int .i64 (if i < k then nth l i else 0))
theorem Filled.start (w : World) (l : List Int) : Filled w (w.alloc (.cells (madeCells #[.int .i64 0] l.length) 3)) l 0 :=
  ⟨(Below.refl _ _).alloc (Nat.le_refl _) _, by simp, (World.rowIs_made w _ l.length _).congr (fun i _ => by simp)⟩
theorem Filled.step {w wr : World} {l : List Int} {k : Nat} (h : Filled w wr l k) : Filled w (wr.setCell ⟨w.heap.size, k, none⟩ (.int .i64 (nth l k))) l (k + 1) := by
  refine ⟨h.bel.setCell (Nat.le_refl _) _, by simp [World.setCell, h.size], (h.row.set k _).congr (fun i _ => ?_)⟩
  by_cases e : i = k
  · subst e; simp
  · rw [if_neg e]
    by_cases hlt : i < k
    · rw [if_pos hlt, if_pos (by omega)]
    · rw [if_neg hlt, if_neg (by omega)]
theorem Filled.drewN {w wr : World} {l : List Int} {k : Nat} (h : Filled w wr l k) (n : Nat) : Filled w (wr.drewN n) l k := ⟨below_drewN h.bel n, h.size, h.row.of_block rfl⟩
theorem Filled.done {w wr : World} {l : List Int} (h : Filled w wr l l.length) : IntRow wr w.heap.size l := h.row.congr (fun i hi => by rw [if_pos hi])
def NewInts (w : World) (l : List Int) (e : Ending) (w' : World) : Prop :=
  e = .returned (.slice (some ⟨w.heap.size, 0, none⟩) l.length l.length) ∧ Below w.heap.size w w' ∧ w.heap.size < w'.heap.size ∧ IntRow w' w.heap.size l
end Go.Proofs.YtlmaeadbomnhlaaGreat

namespace Go.Proofs.YtlmaeadbomnhlaaGreat
set_option linter.unusedSimpArgs false
set_option linter.unusedVariables false
open Go.RowKit
structure Laying (w wr : World) (g : List (List Int)) (k : Nat) : Prop where
  bel : Below w.heap.size w wr
  size : wr.heap.size = w.heap.size + 1 + k
  top : wr.rowIs w.heap.size 52 g.length (fun j => if j < k then .slice (some ⟨w.heap.size + 1 + j, 0, none⟩) (rowAt g j).length (rowAt g j).length else .slice none 0 0)
  rows : ∀ j, j < k → IntRow wr (w.heap.size + 1 + j) (rowAt g j)
def Laid (w w' : World) (g : List (List Int)) : Prop := Laying w w' g g.length
theorem Laying.start (w : World) (g : List (List Int)) : Laying w (w.alloc (.cells (madeCells #[.slice none 0 0] g.length) 52)) g 0 :=
  ⟨(Below.refl _ _).alloc (Nat.le_refl _) _, by simp, (World.rowIs_made w _ _ _).congr (fun j _ => by simp), fun j hj => absurd hj (Nat.not_lt_zero _)⟩
theorem Laying.drewN {w wr : World} {g : List (List Int)} {k : Nat} (h : Laying w wr g k) (n : Nat) : Laying w (wr.drewN n) g k := ⟨below_drewN h.bel n, h.size, h.top, h.rows⟩
theorem Laying.drew {w wr : World} {g : List (List Int)} {k : Nat} (h : Laying w wr g k) : Laying w wr.drew g k := ⟨h.bel.drew, h.size, h.top, h.rows⟩
theorem Laying.next {w wr w2 : World} {g : List (List Int)} {k : Nat} (h : Laying w wr g k) (hb : Below wr.heap.size wr w2) (hs : w2.heap.size = wr.heap.size + 1) (hr : IntRow w2 wr.heap.size (rowAt g k)) :
    Laying w (w2.setCell ⟨w.heap.size, k, none⟩ (.slice (some ⟨wr.heap.size, 0, none⟩) (rowAt g k).length (rowAt g k).length)) g (k + 1) := by
  have hz := h.size
  rw [hz] at hr ⊢
  refine ⟨(h.bel.trans (hb.mono (by omega))).setCell (Nat.le_refl _) _, by simp only [World.setCell, Array.size_modify]; omega, ((h.top.of_block (hb.block _ (by omega))).set k _).congr (fun j _ => ?_), fun j hj => ?_⟩
  · by_cases e : j = k
    · subst e; simp
    · rw [if_neg e]
      by_cases hlt : j < k
      · rw [if_pos hlt, if_pos (by omega)]
      · rw [if_neg hlt, if_neg (by omega)]
  · by_cases e : j = k
    · subst e; exact hr.setOther (by show w.heap.size + 1 + j ≠ w.heap.size; omega) _
    · exact ((h.rows j (by omega)).of_block (hb.block _ (by omega))).setOther (by show w.heap.size + 1 + j ≠ w.heap.size; omega) _
theorem Laying.cell {w wr : World} {g : List (List Int)} {k : Nat} (h : Laying w wr g k) {j : Nat} (hj : j < k) (hk : k ≤ g.length) : wr.cell? ⟨w.heap.size, j, none⟩ = some (.slice (some ⟨w.heap.size + 1 + j, 0, none⟩) (rowAt g j).length (rowAt g j).length) := by
  have := h.top.cell (i := j) (by omega); rwa [if_pos hj] at this
structure LayIn (w wr : World) (g : List (List Int)) (k r : Nat) : Prop where
  bel : Below w.heap.size w wr
  size : wr.heap.size = w.heap.size + 1 + k + 1
  top : wr.rowIs w.heap.size 52 g.length (fun j => if j < k + 1 then .slice (some ⟨w.heap.size + 1 + j, 0, none⟩) (rowAt g j).length (rowAt g j).length else .slice none 0 0)
  rows : ∀ j, j < k → IntRow wr (w.heap.size + 1 + j) (rowAt g j)
  cur : wr.rowIs (w.heap.size + 1 + k) 3 (rowAt g k).length (fun i => .int .i64 (if i < r then nth (rowAt g k) i else 0))
theorem Laying.open_ {w wr : World} {g : List (List Int)} {k : Nat} (h : Laying w wr g k) :
    LayIn w ((wr.alloc (.cells (madeCells #[.int .i64 0] (rowAt g k).length) 3)).setCell ⟨w.heap.size, k, none⟩ (.slice (some ⟨wr.heap.size, 0, none⟩) (rowAt g k).length (rowAt g k).length)) g k 0 := by
  have hz := h.size
  have hnew := World.rowIs_made wr (.int .i64 0) (rowAt g k).length 3
  rw [hz] at hnew ⊢
  refine ⟨(h.bel.alloc (by omega) _).setCell (Nat.le_refl _) _, by simp [World.setCell, hz], ((h.top.alloc _).set k _).congr (fun j _ => ?_), fun j hj => ((h.rows j hj).alloc _).setOther (by show w.heap.size + 1 + j ≠ w.heap.size; omega) _,
    (hnew.setOther (by show w.heap.size + 1 + k ≠ w.heap.size; omega) _).congr (fun i _ => by simp)⟩
  by_cases e : j = k
  · subst e; simp
  · rw [if_neg e]
    by_cases hlt : j < k
    · rw [if_pos hlt, if_pos (by omega)]
    · rw [if_neg hlt, if_neg (by omega)]
theorem LayIn.drewN {w wr : World} {g : List (List Int)} {k r : Nat} (h : LayIn w wr g k r) (n : Nat) : LayIn w (wr.drewN n) g k r := ⟨below_drewN h.bel n, h.size, h.top, h.rows, h.cur⟩
theorem LayIn.drew {w wr : World} {g : List (List Int)} {k r : Nat} (h : LayIn w wr g k r) : LayIn w wr.drew g k r := ⟨h.bel.drew, h.size, h.top, h.rows, h.cur⟩
theorem LayIn.step {w wr : World} {g : List (List Int)} {k r : Nat} (h : LayIn w wr g k r) : LayIn w (wr.setCell ⟨w.heap.size + 1 + k, r, none⟩ (.int .i64 (nth (rowAt g k) r))) g k (r + 1) := by
  refine ⟨h.bel.setCell (by show w.heap.size ≤ w.heap.size + 1 + k; omega) _, by simp [World.setCell, h.size], h.top.setOther (by show w.heap.size ≠ w.heap.size + 1 + k; omega) _,
    fun j hj => (h.rows j hj).setOther (by show w.heap.size + 1 + j ≠ w.heap.size + 1 + k; omega) _, (h.cur.set r _).congr (fun i _ => ?_)⟩
  by_cases e : i = r
  · subst e; simp
  · rw [if_neg e]
    by_cases hlt : i < r
    · rw [if_pos hlt, if_pos (by omega)]
    · rw [if_neg hlt, if_neg (by omega)]
theorem LayIn.close {w wr : World} {g : List (List Int)} {k : Nat} (h : LayIn w wr g k (rowAt g k).length) : Laying w wr g (k + 1) :=
  ⟨h.bel, by rw [h.size]; omega, h.top, fun j hj => by
    by_cases e : j = k
    · subst e; exact h.cur.congr (fun i hi => by rw [if_pos hi])
    · exact h.rows j (by omega)⟩
theorem LayIn.cell {w wr : World} {g : List (List Int)} {k r : Nat} (h : LayIn w wr g k r) (hk : k < g.length) : wr.cell? ⟨w.heap.size, k, none⟩ = some (.slice (some ⟨w.heap.size + 1 + k, 0, none⟩) (rowAt g k).length (rowAt g k).length) := by
  have := h.top.cell (i := k) hk; rwa [if_pos (by omega)] at this
theorem Laid.rows2 {w w' : World} {g : List (List Int)} (h : Laid w w' g) {S : Nat → Prop} (hS : ∀ b, w.heap.size ≤ b → b < w'.heap.size → S b) (hm : ∀ i, i < g.length → (rowAt g i).length ≤ maxLen) : Rows2 w' S (some ⟨w.heap.size, 0, none⟩) g := by
  have hz := Laying.size h
  intro h0
  refine ⟨_, 0, rfl, hS _ (Nat.le_refl _) (by omega), fun i hi => ⟨_, _, by rw [Nat.zero_add]; exact Laying.cell h hi (Nat.le_refl _), Nat.le_refl _, hm i hi, (Laying.rows h i hi).ints (hS _ (by omega) (by omega))⟩⟩
def NewRows (w : World) (g : List (List Int)) (e : Ending) (w' : World) : Prop :=
  e = .returned (.slice (some ⟨w.heap.size, 0, none⟩) g.length g.length) ∧ Laid w w' g
theorem rowAt_cols_length (g : List (List Int)) (j : Nat) (h : j < (rowAt g 0).length) : (rowAt (cols g) j).length = g.length := by rw [rowAt_cols g j h, col_length]
theorem nth_cols (g : List (List Int)) (j i : Nat) (h : j < (rowAt g 0).length) (hi : i < g.length) : nth (rowAt (cols g) j) i = nth (rowAt g i) j := by rw [rowAt_cols g j h, nth_col g j i hi]
set_option maxHeartbeats 1000000 in
theorem columnsOf (A : Option Addr) (c : Nat) (g : List (List Int)) (m : Nat) (hg : Game g m) (w : World) (h : Rows2 w (· < w.heap.size) A g) :
    Calls Tryz.prog 66 #[.slice A g.length c] w (NewRows w (cols g)) := by
  obtain ⟨hb, hm⟩ := hg.to
  subst hm
  have h1 := hg.lo
  have h2 := hg.hi
  have h3 := hg.mlo
  have h4 := hg.mhi
  have hmk1 := run_make_row' (P := Tryz.prog) 23 52 _ 24 Tryz.underlying23 infoR rfl .i64 .i64 (rowAt g 0).length (by omega) (by omega)
  obtain ⟨b, off, rfl⟩ := h.some (by omega)
  obtain ⟨hS, A0, c0, hc0, hl0, hm0, _⟩ := h.row (i := 0) (by omega)
  rw [Nat.add_zero] at hc0
  unfold maxLen at hm0
  have HG := Lib.hid hg
  have HH := Lib.hid h
  have HL := Lib.hid (cols_length g)
  have F0 : Hid (Laying w (w.alloc (.cells (madeCells #[.slice none 0 0] (rowAt g 0).length) 52)) (cols g) 0) := by
    have := Laying.start w (cols g); rw [HL.out] at this; exact this
  clear h hg hb
  go_enter Tryz.func66, Tryz.ntmps66
  go_wp2_with fail
  clear hmk1 hc0
  go_loopw [14] (fun i wr => ∃ k : Nat, k ≤ (rowAt g 0).length ∧ i = .int .i64 k ∧ Hid (Laying w wr (cols g) k)) (fun i _ => (rowAt g 0).length - (intOf i).toNat)
  case atStart => exact ⟨0, Nat.zero_le _, rfl, F0⟩
  case round =>
    obtain ⟨k, hk, rfl, HF⟩ := hrel
    by_cases hlt : k < (rowAt g 0).length
    · have HC := Lib.hid (rowAt_cols_length g k hlt)
      have hlt' : k < (cols g).length := by rw [HL.out]; exact hlt
      have hmk2 := run_make_row' (P := Tryz.prog) 52 3 _ 8 Tryz.underlying52 infoI rfl .i64 .i64 g.length (by omega) (by omega)
      have hst1 : ∀ o, (wr.alloc o).cell? ⟨w.heap.size, k, none⟩ = some (.slice none 0 0) := fun o => by
        have := ((HF.out.top).alloc o).cell (i := k) hlt'; rwa [if_neg (by omega)] at this
      have hst2 : ∀ o, (wr.alloc o).frozen? ⟨w.heap.size, k, none⟩ = false := fun o => (HF.out.top.alloc o).frozen k
      have HI : Hid (LayIn w ((wr.alloc (.cells (madeCells #[.int .i64 0] g.length) 3)).setCell ⟨w.heap.size, k, none⟩ (.slice (some ⟨wr.heap.size, 0, none⟩) g.length g.length)) (cols g) k 0) := by
        have := HF.out.open_; rw [HC.out] at this; exact this
      go_wp2_with fail
      clear hmk2 hst1 hst2
      go_loopw [25] (fun i wi => ∃ r : Nat, r ≤ g.length ∧ i = .int .i64 r ∧ Hid (LayIn w wi (cols g) k r)) (fun i _ => g.length - (intOf i).toNat)
      case atStart => exact ⟨0, Nat.zero_le _, rfl, HI⟩
      case round =>
        obtain ⟨r, hr, rfl, HI⟩ := hrel
        by_cases hlr : r < g.length
        · have R := keepRows HI.out.bel HH.out
          obtain ⟨b2, off2, c2, hd1, hd2, hd3, hS2, hd0⟩ := R.cell (i := r) (j := k) hlr (by rw [HG.out.len r hlr]; exact hlt)
          have hlk : k < (rowAt g r).length := by rw [HG.out.len r hlr]; exact hlt
          unfold maxLen at hd3
          have g1 : wr.cell? ⟨w.heap.size, k, none⟩ = some (.slice (some ⟨w.heap.size + 1 + k, 0, none⟩) g.length g.length) := by have := HI.out.cell hlt'; rwa [HC.out] at this
          have g2 : ∃ z, wr.cell? ⟨w.heap.size + 1 + k, r, none⟩ = some z := ⟨_, HI.out.cur.cell (i := r) (by rw [HC.out]; exact hlr)⟩
          obtain ⟨z, g2⟩ := g2
          have g3 : wr.frozen? ⟨w.heap.size + 1 + k, r, none⟩ = false := HI.out.cur.frozen r
          have HN : Hid (LayIn w (wr.setCell ⟨w.heap.size + 1 + k, r, none⟩ (.int .i64 (nth (rowAt g r) k))) (cols g) k (r + 1)) := by
            have := HI.out.step; rw [nth_cols g k r hlt hlr] at this; exact this
          have q1 : (0 : Int) ≤ (k : Int) := by omega
          have q2 : (k : Int) < ((rowAt g r).length : Int) := by omega
          have q3 : (0 : Int) ≤ (r : Int) := by omega
          have q4 : (r : Int) < (g.length : Int) := by omega
          have q5 : (k : Int) < ((rowAt g 0).length : Int) := by omega
          clear HI R
          go_wp2_with fail
          go_region
          all_goals go_wp2_with fail
          all_goals go_roundw
          all_goals first | (simp [intOf]; omega) | exact ⟨r + 1, by omega, by go_num, HN.out.drew⟩
        · obtain rfl : r = g.length := by omega
          have HN : Hid (Laying w wr (cols g) (k + 1)) := by
            have := HI.out; rw [← HC.out] at this; exact this.close
          go_wp2_with fail
          go_roundw
          case rel => exact ⟨k + 1, by omega, by go_num, HN⟩
          case measure => simp [intOf]; omega
    · obtain rfl : k = (rowAt g 0).length := by omega
      go_wp2_with fail
      go_ret
      have HD := HF.out
      rw [← HL.out] at HD
      exact ⟨by rw [HL.out]; rfl, HD⟩
end Go.Proofs.YtlmaeadbomnhlaaGreat

namespace Go.Proofs.YtlmaeadbomnhlaaGreat
set_option linter.unusedSimpArgs false
set_option linter.unusedVariables false
open Go.RowKit
def Adds (v : Value) (w : World) (e : Ending) (w' : World) : Prop := e = .returned v ∧ Below w.heap.size w w'
theorem Adds.of {v x : Value} {w w' : World} (h : x = v) (hb : Below w.heap.size w w') : Adds v w (.returned x) w' := ⟨by rw [h], hb⟩
end Go.Proofs.YtlmaeadbomnhlaaGreat

namespace Go.Proofs.YtlmaeadbomnhlaaGreat
set_option linter.unusedSimpArgs false
set_option linter.unusedVariables false
open Go.RowKit
end Go.Proofs.YtlmaeadbomnhlaaGreat

namespace Go.Proofs.YtlmaeadbomnhlaaGreat
set_option linter.unusedSimpArgs false
set_option linter.unusedVariables false
open Go.RowKit
def OwnI (w : World) (lo hi : Nat) (A : Option Addr) (l : List Int) : Prop :=
  0 < l.length → ∃ (b N : Nat) (f : Nat → Value), A = some ⟨b, 0, none⟩ ∧ lo ≤ b ∧ b < hi ∧ w.rowIs b 3 N f ∧ l.length ≤ N ∧ ∀ i, i < l.length → f i = .int .i64 (nth l i)
theorem OwnI.ints {w : World} {lo hi : Nat} {A : Option Addr} {l : List Int} (h : OwnI w lo hi A l) : Ints w (fun b => lo ≤ b ∧ b < hi) A l := by
  intro h0
  obtain ⟨b, N, f, e, h1, h2, h3, h4, h5⟩ := h h0
  exact ⟨b, 0, e, ⟨h1, h2⟩, fun i hi => by rw [Nat.zero_add, h3.cell (by omega), h5 i hi]⟩
theorem OwnI.keep {w w' : World} {lo hi : Nat} {A : Option Addr} {l : List Int} (h : OwnI w lo hi A l) (hk : ∀ b, lo ≤ b → b < hi → w'.heap[b]? = w.heap[b]?) : OwnI w' lo hi A l := by
  intro h0
  obtain ⟨b, N, f, e, h1, h2, h3, h4, h5⟩ := h h0
  exact ⟨b, N, f, e, h1, h2, h3.of_block (hk b h1 h2), h4, h5⟩
theorem OwnI.more {w : World} {lo hi lo' hi' : Nat} {A : Option Addr} {l : List Int} (h : OwnI w lo hi A l) (h1 : lo' ≤ lo) (h2 : hi ≤ hi') : OwnI w lo' hi' A l := by
  intro h0
  obtain ⟨b, N, f, e, k1, k2, h3, h4, h5⟩ := h h0
  exact ⟨b, N, f, e, by omega, by omega, h3, h4, h5⟩
def vals (l : List Int) : List Value := l.map (Value.int .i64)
theorem vals_length (l : List Int) : (vals l).length = l.length := by simp [vals]
theorem vals_snoc (l : List Int) (x : Int) : vals (l ++ [x]) = vals l ++ [.int .i64 x] := by simp [vals]
theorem vals_get (l : List Int) (i : Nat) (h : i < l.length) : (vals l)[i]? = some (.int .i64 (nth l i)) := by rw [nth_eq l i h]; simp [vals, h]
def Grows (w : World) (base : Nat) (v : Value) (l : List Int) : Prop := w.ownsRow base 3 1 v l.length (vals l)
theorem Grows.own {w : World} {base : Nat} {v : Value} {l : List Int} (h : Grows w base v l) : ∃ (A : Option Addr) (c : Nat), v = .slice A l.length c ∧ l.length ≤ c ∧ OwnI w base w.heap.size A l := by
  obtain ⟨h1, ⟨rfl, h2⟩ | ⟨b, cap, cur, rfl, h3, h4, h5, h6, h7, h8⟩⟩ := h
  · exact ⟨none, 0, by rw [h2], by omega, fun h0 => by omega⟩
  · refine ⟨_, cap, rfl, h5, fun _ => ⟨b, cur.size, fun i => cur.getD i undef, rfl, h3, ?_, ⟨cur, h4, rfl, fun i hi => by simp [hi]⟩, by omega, fun i hi => ?_⟩⟩
    · obtain ⟨hlt, _⟩ := Array.getElem?_eq_some_iff.1 h4; exact hlt
    · have e := vals_get l i hi
      rw [← h8, List.getElem?_take, if_pos (by omega)] at e
      have : cur[i]? = some (.int .i64 (nth l i)) := by simpa using e
      simp [Array.getD_eq_getD_getElem?, this]
theorem Grows.nil (w : World) (base : Nat) : Grows w base (.slice none 0 0) [] := World.ownsRow_nil w base _ _
theorem Grows.lit (w : World) {base : Nat} (hb : base ≤ w.heap.size) : Grows (w.alloc (.cells #[] 3)) base (.slice (some ⟨w.heap.size, 0, none⟩) 0 0) [] :=
  World.ownsRow_lit w #[] 0 hb (Nat.zero_le _) rfl
theorem Grows.alloc {w : World} {base : Nat} {v : Value} {l : List Int} (h : Grows w base v l) (o : Obj) : Grows (w.alloc o) base v l := World.ownsRow.alloc h o
theorem Grows.drewN {w : World} {base : Nat} {v : Value} {l : List Int} (h : Grows w base v l) (n : Nat) : Grows (w.drewN n) base v l := h
theorem Grows.keep {w w' : World} {base : Nat} {v : Value} {l : List Int} (h : Grows w base v l) (hb : Below w.heap.size w w') : Grows w' base v l :=
  World.ownsRow.kept (row := none) h ⟨hb.os, hb.tape, hb.output, hb.size, fun k hk _ => hb.block k hk⟩ (by
    cases v.ownBlock <;> simp)
theorem Grows.snoc {w1 : World} {base : Nat} {v' : Value} {l : List Int} {x : Int} (h : w1.ownsRow base 3 1 v' (l.length + 1) (vals l ++ [.int .i64 x])) : Grows w1 base v' (l ++ [x]) := by
  unfold Grows; rw [vals_snoc, List.length_append]; exact h
theorem Grows.below {w w1 W : World} {B base : Nat} {v : Value} {l : List Int} {o : Obj} (h : Grows w base v l) (hg : (w.alloc o).grownBy w1 v.ownBlock) (hb : Below B W w) (hB : B ≤ base) (hw : B ≤ w.heap.size) : Below B W w1 :=
  (hb.alloc hw o).grown hg (by simp; omega) (fun k hk => by have := (World.ownsRow.lt h) k hk; omega)
def NewList (w : World) (l : List Int) (e : Ending) (w' : World) : Prop :=
  ∃ (A : Option Addr) (c : Nat), e = .returned (.slice A l.length c) ∧ Below w.heap.size w w' ∧ OwnI w' w.heap.size w'.heap.size A l
theorem NewList.of {w w' : World} {v x : Value} {l : List Int} (hx : x = v) (h : Grows w' w.heap.size v l) (hb : Below w.heap.size w w') : NewList w l (.returned x) w' := by
  obtain ⟨A, c, rfl, _, ho⟩ := h.own
  exact ⟨A, c, by rw [hx], hb, ho⟩
end Go.Proofs.YtlmaeadbomnhlaaGreat

namespace Go.Proofs.YtlmaeadbomnhlaaGreat
set_option linter.unusedSimpArgs false
set_option linter.unusedVariables false
open Go.RowKit
structure RowsOwn (w : World) (lo hi : Nat) (A : Nat → Option Addr) (C : Nat → Nat) (g : List (List Int)) : Prop where
  cap : ∀ i, i < g.length → (rowAt g i).length ≤ C i ∧ C i ≤ maxLen
  own : ∀ i, i < g.length → OwnI w lo hi (A i) (rowAt g i)
  apart : ∀ i j, i < g.length → j < g.length → i ≠ j → 0 < (rowAt g i).length → 0 < (rowAt g j).length → A i ≠ A j
def OwnR (w : World) (lo hi : Nat) (T : Option Addr) (g : List (List Int)) : Prop :=
  0 < g.length → ∃ (b N : Nat) (f : Nat → Value) (A : Nat → Option Addr) (C : Nat → Nat), T = some ⟨b, 0, none⟩ ∧ lo ≤ b ∧ b < hi ∧ g.length ≤ N ∧ w.rowIs b 52 N f ∧
    (∀ i, i < g.length → f i = .slice (A i) (rowAt g i).length (C i)) ∧ RowsOwn w lo hi A C g
theorem RowsOwn.keep {w w' : World} {lo hi : Nat} {A : Nat → Option Addr} {C : Nat → Nat} {g : List (List Int)} (h : RowsOwn w lo hi A C g) (hk : ∀ b, lo ≤ b → b < hi → w'.heap[b]? = w.heap[b]?) : RowsOwn w' lo hi A C g :=
  ⟨h.cap, fun i hi => (h.own i hi).keep hk, h.apart⟩
theorem OwnR.keep {w w' : World} {lo hi : Nat} {T : Option Addr} {g : List (List Int)} (h : OwnR w lo hi T g) (hk : ∀ b, lo ≤ b → b < hi → w'.heap[b]? = w.heap[b]?) : OwnR w' lo hi T g := by
  intro h0
  obtain ⟨b, N, f, A, C, e, h1, h2, h3, h4, h5, h6⟩ := h h0
  exact ⟨b, N, f, A, C, e, h1, h2, h3, h4.of_block (hk b h1 h2), h5, h6.keep hk⟩
theorem OwnR.rows2 {w : World} {lo hi : Nat} {T : Option Addr} {g : List (List Int)} (h : OwnR w lo hi T g) : Rows2 w (fun b => lo ≤ b ∧ b < hi) T g := by
  intro h0
  obtain ⟨b, N, f, A, C, e, h1, h2, h3, h4, h5, h6⟩ := h h0
  refine ⟨b, 0, e, ⟨h1, h2⟩, fun i hi => ⟨A i, C i, ?_, (h6.cap i hi).1, (h6.cap i hi).2, (h6.own i hi).ints⟩⟩
  rw [Nat.zero_add, h4.cell (by omega), h5 i hi]
theorem OwnR.more {w : World} {lo hi lo' hi' : Nat} {T : Option Addr} {g : List (List Int)} (h : OwnR w lo hi T g) (h1 : lo' ≤ lo) (h2 : hi ≤ hi') : OwnR w lo' hi' T g := by
  intro h0
  obtain ⟨b, N, f, A, C, e, k1, k2, h3, h4, h5, h6⟩ := h h0
  exact ⟨b, N, f, A, C, e, by omega, by omega, h3, h4, h5, ⟨h6.cap, fun i hi => (h6.own i hi).more h1 h2, h6.apart⟩⟩
theorem Laid.own {w w' : World} {g : List (List Int)} (h : Laid w w' g) (hm : ∀ i, i < g.length → (rowAt g i).length ≤ maxLen) : OwnR w' w.heap.size w'.heap.size (some ⟨w.heap.size, 0, none⟩) g := by
  have hz := Laying.size h
  intro h0
  refine ⟨w.heap.size, g.length, _, fun i => some ⟨w.heap.size + 1 + i, 0, none⟩, fun i => (rowAt g i).length, rfl, Nat.le_refl _, by omega, Nat.le_refl _, Laying.top h, fun i hi => by rw [if_pos hi], ⟨fun i hi => ⟨Nat.le_refl _, hm i hi⟩, fun i hi _ => ?_, fun i j hi hj hne _ _ e => ?_⟩⟩
  · exact ⟨w.heap.size + 1 + i, _, _, rfl, by omega, by omega, Laying.rows h i hi, Nat.le_refl _, fun j _ => rfl⟩
  · injection e with e; injection e with e; omega
structure Touch (n : Nat) (A : Option Addr) (w w' : World) : Prop where
  os : w'.os = w.os
  tape : w'.tape = w.tape
  output : w'.output = w.output
  size : w'.heap.size = w.heap.size
  block : ∀ b, (0 < n → A ≠ some ⟨b, 0, none⟩) → w'.heap[b]? = w.heap[b]?
structure Off (lo hi : Nat) (w w' : World) : Prop where
  os : w'.os = w.os
  tape : w'.tape = w.tape
  output : w'.output = w.output
  size : w'.heap.size = w.heap.size
  block : ∀ b, ¬ (lo ≤ b ∧ b < hi) → w'.heap[b]? = w.heap[b]?
theorem Off.refl (lo hi : Nat) (w : World) : Off lo hi w w := ⟨rfl, rfl, rfl, rfl, fun _ _ => rfl⟩
theorem Off.trans {lo hi : Nat} {a b c : World} (h : Off lo hi a b) (k : Off lo hi b c) : Off lo hi a c :=
  ⟨k.os.trans h.os, k.tape.trans h.tape, k.output.trans h.output, k.size.trans h.size, fun i hi => (k.block i hi).trans (h.block i hi)⟩
theorem Off.below {lo hi B : Nat} {w w' : World} (h : Off lo hi w w') (hB : B ≤ lo) : Below B w w' := ⟨h.os, h.tape, h.output, Nat.le_of_eq h.size.symm, fun k hk => h.block k (by omega)⟩
theorem Touch.off {lo hi : Nat} {w w' : World} {A : Option Addr} {l : List Int} (h : Touch l.length A w w') (ho : OwnI w lo hi A l) : Off lo hi w w' :=
  ⟨h.os, h.tape, h.output, h.size, fun b hb => h.block b fun h0 e => by
    obtain ⟨b', N, f, e', h1, h2, _⟩ := ho h0
    rw [e'] at e; injection e with e; injection e with e; subst e; exact hb ⟨h1, h2⟩⟩
theorem rowIs_ne' {w : World} {b b' N N' : Nat} {f f' : Nat → Value} (h : w.rowIs b 3 N f) (h' : w.rowIs b' 52 N' f') : b ≠ b' := by
  rintro rfl
  obtain ⟨c, h1, _, _⟩ := h
  obtain ⟨c', h2, _, _⟩ := h'
  rw [h1] at h2
  injection h2 with h2
  injection h2 with _ e
  exact absurd e (by decide)
end Go.Proofs.YtlmaeadbomnhlaaGreat

namespace Go.Proofs.YtlmaeadbomnhlaaGreat
set_option linter.unusedSimpArgs false
set_option linter.unusedVariables false
open Go.RowKit
structure Turning (w wr : World) (g : List (List Int)) (j i : Nat) : Prop where
  bel : Below w.heap.size w wr
  size : wr.heap.size = w.heap.size + 1 + (rowAt g 0).length
  top : wr.rowIs w.heap.size 52 (rowAt g 0).length (fun r => .slice (some ⟨w.heap.size + 1 + r, 0, none⟩) g.length g.length)
  rows : ∀ r, r < (rowAt g 0).length → wr.rowIs (w.heap.size + 1 + r) 3 g.length (fun x => .int .i64 (if r < j ∨ (r = j ∧ x < i) then -nth (rowAt g x) r else nth (rowAt g x) r))
theorem Turning.start {w wr : World} {g : List (List Int)} (h : Laid w wr (cols g)) : Turning w wr g 0 0 := by
  have hl := cols_length g
  refine ⟨h.bel, by rw [Laying.size h, hl], ?_, fun r hr => ?_⟩
  · have := Laying.top h
    rw [hl] at this
    exact this.congr (fun r hr => by rw [if_pos hr, rowAt_cols_length g r hr])
  · have := Laying.rows h r (by rw [hl]; exact hr)
    unfold IntRow at this
    rw [rowAt_cols_length g r hr] at this
    exact this.congr (fun x hx => by rw [if_neg (by omega), nth_cols g r x hr hx])
theorem Turning.step {w wr : World} {g : List (List Int)} {j i : Nat} (h : Turning w wr g j i) (hj : j < (rowAt g 0).length) : Turning w (wr.setCell ⟨w.heap.size + 1 + j, i, none⟩ (.int .i64 (-nth (rowAt g i) j))) g j (i + 1) := by
  refine ⟨h.bel.setCell (by show w.heap.size ≤ w.heap.size + 1 + j; omega) _, by simp [World.setCell, h.size], h.top.setOther (by show w.heap.size ≠ w.heap.size + 1 + j; omega) _, fun r hr => ?_⟩
  by_cases e : r = j
  · subst e
    refine ((h.rows r hr).set i _).congr (fun x _ => ?_)
    by_cases e : x = i
    · subst e; rw [if_pos rfl, if_pos (.inr ⟨rfl, Nat.lt_succ_self _⟩)]
    · rw [if_neg e]
      by_cases hx : x < i
      · rw [if_pos (.inr ⟨rfl, hx⟩), if_pos (.inr ⟨rfl, by omega⟩)]
      · rw [if_neg (by omega), if_neg (by omega)]
  · refine ((h.rows r hr).setOther (by show w.heap.size + 1 + r ≠ w.heap.size + 1 + j; omega) _).congr (fun x _ => ?_)
    by_cases hx : r < j
    · rw [if_pos (.inl hx), if_pos (.inl hx)]
    · rw [if_neg (by omega), if_neg (by omega)]
theorem Turning.next {w wr : World} {g : List (List Int)} {j : Nat} (h : Turning w wr g j g.length) : Turning w wr g (j + 1) 0 :=
  ⟨h.bel, h.size, h.top, fun r hr => (h.rows r hr).congr (fun x hx => by
    by_cases e : r ≤ j
    · rw [if_pos (by omega), if_pos (by omega)]
    · rw [if_neg (by omega), if_neg (by omega)])⟩
theorem Turning.done {w wr : World} {g : List (List Int)} (h : Turning w wr g (rowAt g 0).length 0) : Laid w wr (turnedL g) := by
  have hl := turnedL_length g
  refine ⟨h.bel, by rw [h.size, hl], ?_, fun r hr => ?_⟩
  · rw [hl]
    exact h.top.congr (fun r hr => by rw [if_pos hr, turnedL_row_length g r hr])
  · rw [hl] at hr
    unfold IntRow
    rw [turnedL_row_length g r hr]
    exact (h.rows r hr).congr (fun x hx => by rw [if_pos (.inl hr), nth_turnedL g r x hr hx])
def NewTable (w : World) (g : List (List Int)) (e : Ending) (w' : World) : Prop :=
  ∃ (T : Option Addr) (c : Nat), e = .returned (.slice T g.length c) ∧ Below w.heap.size w w' ∧ OwnR w' w.heap.size w'.heap.size T g
set_option maxHeartbeats 1000000 in
theorem turned_impl (A : Option Addr) (c : Nat) (g : List (List Int)) (hl : g.length ≤ maxLen) (w : World) (h : Rows2 w (· < w.heap.size) A g) :
    Calls Tryz.prog 52 #[.slice A g.length c] w (NewTable w (turned g)) := by
  rcases hb : gameB g with _ | _
  · have H1 : Hid (turned g = []) := by simp [Hid, turned, hb]
    have HB := Lib.hid hb
    clear hb
    go_enter Tryz.func52, Tryz.ntmps52
    go_wp2_with fail
    refine (game_impl _ _ _ _ hl _ h).mono ?_
    rintro e w1 ⟨rfl, rfl⟩
    rw [HB.out]
    go_wp2_with fail
    go_ret
    rw [H1.out]
    exact ⟨none, 0, rfl, Below.refl _ _, fun h0 => absurd h0 (by simp)⟩
  have hg := Game.of hb
  have hg1 := hg.lo
  have hg2 := hg.hi
  have hg3 := hg.mlo
  have hg4 := hg.mhi
  have H1 : Hid (turned g = turnedL g) := by simp [Hid, turned, hb]
  have HB := Lib.hid hb
  have HR := Lib.hid h
  have HG := Lib.hid hg
  have HCL := Lib.hid (cols_length g)
  clear hb h hg
  go_enter Tryz.func52, Tryz.ntmps52
  go_wp2_with fail
  refine (game_impl _ _ _ _ hl _ HR.out).mono ?_
  rintro e w1 ⟨rfl, rfl⟩
  rw [HB.out]
  go_wp2_with fail
  refine (columnsOf _ _ g _ HG.out _ HR.out).mono ?_
  rintro e w1 ⟨rfl, hL⟩
  rw [HCL.out]
  have T0 := Lib.hid (Turning.start hL)
  clear hL
  go_wp2_with fail
  go_loopw [14] (fun j wr => ∃ k : Nat, k ≤ (rowAt g 0).length ∧ j = .int .i64 k ∧ Hid (Turning w wr g k 0)) (fun j _ => (rowAt g 0).length - (intOf j).toNat)
  case atStart => exact ⟨0, Nat.zero_le _, rfl, T0⟩
  case round =>
    obtain ⟨k, hk, rfl, HT⟩ := hrel
    by_cases hlt : k < (rowAt g 0).length
    · have hct := HT.out.top.cell (i := k) hlt
      go_wp2_with fail
      clear hct
      go_loopw [20] (fun i wr => ∃ m : Nat, m ≤ g.length ∧ i = .int .i64 m ∧ Hid (Turning w wr g k m)) (fun i _ => g.length - (intOf i).toNat)
      case atStart => exact ⟨0, Nat.zero_le _, rfl, HT⟩
      case round =>
        clear HT
        obtain ⟨m, hm, rfl, HT⟩ := hrel
        by_cases hlm : m < g.length
        · have hc := (HT.out.rows k hlt).cell (i := m) hlm
          rw [if_neg (by omega)] at hc
          have hf := (HT.out.rows k hlt).frozen m
          have hn1 := HG.out.nlo m hlm k hlt
          have hn2 := HG.out.nhi m hlm k hlt
          have HN := Lib.hid (HT.out.step hlt)
          go_wp2_with fail
          go_roundw
          case rel => exact ⟨m + 1, by omega, by go_num, HN⟩
          case measure => simp [intOf]; omega
        · obtain rfl : m = g.length := by omega
          have HN := Lib.hid HT.out.next
          go_wp2_with fail
          go_roundw
          case rel => exact ⟨k + 1, by omega, by go_num, HN⟩
          case measure => simp [intOf]; omega
    · obtain rfl : k = (rowAt g 0).length := by omega
      go_wp2_with fail
      go_ret
      have HD := HT.out.done
      rw [H1.out]
      refine ⟨some ⟨w.heap.size, 0, none⟩, (rowAt g 0).length, by rw [turnedL_length]; rfl, HD.bel, Laid.own HD fun i hi => ?_⟩
      rw [turnedL_length] at hi
      rw [turnedL_row_length g i hi]; exact hl
end Go.Proofs.YtlmaeadbomnhlaaGreat

namespace Go.Proofs.YtlmaeadbomnhlaaGreat
set_option linter.unusedSimpArgs false
set_option linter.unusedVariables false
open Go.RowKit
def rowVals (A : Nat → Option Addr) (C : Nat → Nat) (g : List (List Int)) : List Value := (List.range g.length).map fun i => .slice (A i) (rowAt g i).length (C i)
theorem rowVals_length (A : Nat → Option Addr) (C : Nat → Nat) (g : List (List Int)) : (rowVals A C g).length = g.length := by simp [rowVals]
theorem rowVals_get (A : Nat → Option Addr) (C : Nat → Nat) (g : List (List Int)) (i : Nat) (h : i < g.length) : (rowVals A C g)[i]? = some (.slice (A i) (rowAt g i).length (C i)) := by simp [rowVals, h]
structure GrowsR (w : World) (base hi : Nat) (v : Value) (A : Nat → Option Addr) (C : Nat → Nat) (g : List (List Int)) : Prop where
  top : w.ownsRow base 52 1 v g.length (rowVals A C g)
  rows : RowsOwn w base hi A C g
  hib : ∀ k, v.ownBlock = some k → k < hi
  hile : hi ≤ w.heap.size
theorem GrowsR.nil (w : World) {base hi : Nat} (h : hi ≤ w.heap.size) (A : Nat → Option Addr) (C : Nat → Nat) : GrowsR w base hi (.slice none 0 0) A C [] :=
  ⟨World.ownsRow_nil w base _ _, ⟨fun i hi => by simp at hi, fun i hi => by simp at hi, fun i j hi => by simp at hi⟩, (fun k hk => by cases hk), h⟩
theorem GrowsR.lit (w : World) {base : Nat} (hb : base ≤ w.heap.size) (A : Nat → Option Addr) (C : Nat → Nat) : GrowsR (w.alloc (.cells #[] 52)) base (w.heap.size + 1) (.slice (some ⟨w.heap.size, 0, none⟩) 0 0) A C [] :=
  ⟨World.ownsRow_lit w #[] 0 hb (Nat.zero_le _) rfl, ⟨fun i hi => by simp at hi, fun i hi => by simp at hi, fun i j hi => by simp at hi⟩, fun k hk => by simp [Value.ownBlock] at hk; omega, by simp⟩
theorem ownsRow_of_block {w w' : World} {base : Nat} {t : TypeId} {s n : Nat} {v : Value} {xs : List Value} (h : w.ownsRow base t s v n xs) (hk : ∀ k, v.ownBlock = some k → w'.heap[k]? = w.heap[k]?) : w'.ownsRow base t s v n xs := by
  obtain ⟨h1, ⟨rfl, h2⟩ | ⟨b, cap, cur, rfl, h3, h4, h5, h6, h7, h8⟩⟩ := h
  · exact ⟨h1, .inl ⟨rfl, h2⟩⟩
  · exact ⟨h1, .inr ⟨b, cap, cur, rfl, h3, (hk b rfl).trans h4, h5, h6, h7, h8⟩⟩
theorem GrowsR.keep {w w' : World} {base hi : Nat} {v : Value} {A : Nat → Option Addr} {C : Nat → Nat} {g : List (List Int)} (h : GrowsR w base hi v A C g) (hb : Below hi w w') : GrowsR w' base hi v A C g :=
  ⟨ownsRow_of_block h.top fun k hk => hb.block k (h.hib k hk), h.rows.keep fun b _ h2 => hb.block b h2, h.hib, Nat.le_trans h.hile hb.size⟩
theorem GrowsR.drewN {w : World} {base hi : Nat} {v : Value} {A : Nat → Option Addr} {C : Nat → Nat} {g : List (List Int)} (h : GrowsR w base hi v A C g) (n : Nat) : GrowsR (w.drewN n) base hi v A C g := h.keep (below_drewN (Below.refl _ _) n)
theorem GrowsR.up {w : World} {base hi hi' : Nat} {v : Value} {A : Nat → Option Addr} {C : Nat → Nat} {g : List (List Int)} (h : GrowsR w base hi v A C g) (h1 : hi ≤ hi') (h2 : hi' ≤ w.heap.size) : GrowsR w base hi' v A C g :=
  ⟨h.top, ⟨h.rows.cap, fun i hi => (h.rows.own i hi).more (Nat.le_refl _) h1, h.rows.apart⟩, fun k hk => Nat.lt_of_lt_of_le (h.hib k hk) h1, h2⟩
theorem GrowsR.top_row {w : World} {base hi : Nat} {v : Value} {A : Nat → Option Addr} {C : Nat → Nat} {g : List (List Int)} (h : GrowsR w base hi v A C g) :
    (v = .slice none 0 0 ∧ g = []) ∨ ∃ (b cap : Nat) (f : Nat → Value), v = .slice (some ⟨b, 0, none⟩) g.length cap ∧ base ≤ b ∧ g.length ≤ cap ∧ cap ≤ maxLen ∧ w.rowIs b 52 cap f ∧ ∀ i, i < g.length → f i = .slice (A i) (rowAt g i).length (C i) := by
  obtain ⟨h1, ⟨rfl, h2⟩ | ⟨b, cap, cur, rfl, h3, h4, h5, h6, h7, h8⟩⟩ := h.top
  · exact .inl ⟨rfl, List.eq_nil_of_length_eq_zero h2⟩
  · have hcs : cur.size = cap := by rw [h7, Nat.mul_one]
    refine .inr ⟨b, cap, fun i => cur.getD i undef, rfl, h3, h5, h6, ⟨cur, h4, hcs, fun i hi => by rw [← hcs] at hi; simp [hi]⟩, fun i hi => ?_⟩
    have e := rowVals_get A C g i hi
    rw [← h8, List.getElem?_take, if_pos (by omega)] at e
    have : cur[i]? = some (.slice (A i) (rowAt g i).length (C i)) := by simpa using e
    simp [Array.getD_eq_getD_getElem?, this]
theorem GrowsR.table {w : World} {base hi : Nat} {v : Value} {A : Nat → Option Addr} {C : Nat → Nat} {g : List (List Int)} (h : GrowsR w base hi v A C g) :
    ∃ (T : Option Addr) (c : Nat), v = .slice T g.length c ∧ g.length ≤ c ∧ c ≤ maxLen ∧ OwnR w base hi T g := by
  rcases h.top_row with ⟨rfl, rfl⟩ | ⟨b, cap, f, rfl, h1, h2, h3, h4, h5⟩
  · exact ⟨none, 0, rfl, Nat.le_refl _, Nat.zero_le _, fun h0 => absurd h0 (by simp)⟩
  · exact ⟨_, cap, rfl, h2, h3, fun _ => ⟨b, cap, f, A, C, rfl, h1, h.hib b rfl, h2, h4, h5, h.rows⟩⟩
theorem GrowsR.snoc {w w2 : World} {base S : Nat} {v v' : Value} {A : Nat → Option Addr} {C : Nat → Nat} {g : List (List Int)} {l : List Int} {An : Option Addr} {cn : Nat} {o : Obj}
    (h : GrowsR w base S v A C g) (hl : OwnI w S w.heap.size An l) (hc1 : l.length ≤ cn) (hc2 : cn ≤ maxLen) (hbS : base ≤ S)
    (hown : w2.ownsRow base 52 1 v' (g.length + 1) (rowVals A C g ++ [.slice An l.length cn])) (hg : (w.alloc o).grownBy w2 v.ownBlock) (hat : v'.ownBlock = v.ownBlock ∨ v'.ownBlock = some (w.heap.size + 1)) :
    ∃ (A' : Nat → Option Addr) (C' : Nat → Nat), GrowsR w2 base w2.heap.size v' A' C' (g ++ [l]) := by
  have hsz := hg.size
  simp at hsz
  have hS := h.hile
  have stays : ∀ (lo hi : Nat) (A0 : Option Addr) (l0 : List Int), hi ≤ w.heap.size → OwnI w lo hi A0 l0 → OwnI w2 lo hi A0 l0 := by
    intro lo hi A0 l0 hhi ho h0
    obtain ⟨b, N, f, e, k1, k2, k3, k4, k5⟩ := ho h0
    refine ⟨b, N, f, e, k1, k2, k3.of_block ?_, k4, k5⟩
    have hne : some b ≠ v.ownBlock := by
      intro e'
      rcases h.top_row with ⟨rfl, _⟩ | ⟨b', cap, f', rfl, _, _, _, h4, _⟩
      · cases e'
      · simp [Value.ownBlock] at e'
        exact rowIs_ne' k3 h4 e'
    rw [hg.block b (by simp; omega) hne, Below.heap_alloc _ _ _ (by omega)]
  have hget : ∀ i, i < g.length → rowAt (g ++ [l]) i = rowAt g i := fun i hi => rowAt_snoc_lt g l i hi
  have hget' : rowAt (g ++ [l]) g.length = l := rowAt_snoc_eq g l
  refine ⟨fun i => if i < g.length then A i else An, fun i => if i < g.length then C i else cn, ?_, ⟨fun i hi => ?_, fun i hi => ?_, fun i j hi hj hne p q => ?_⟩, fun k hk => ?_, Nat.le_refl _⟩
  · have e : rowVals (fun i => if i < g.length then A i else An) (fun i => if i < g.length then C i else cn) (g ++ [l]) = rowVals A C g ++ [.slice An l.length cn] := by
      unfold rowVals
      rw [List.length_append, List.length_singleton, List.range_succ, List.map_append]
      congr 1
      · refine List.map_congr_left fun i hi => ?_
        have hi := List.mem_range.1 hi
        simp only [if_pos hi, hget i hi]
      · simp [hget']
    rw [e, List.length_append]; exact hown
  · rw [List.length_append, List.length_singleton] at hi
    by_cases e : i < g.length
    · simp only [if_pos e]; rw [hget i e]; exact h.rows.cap i e
    · obtain rfl : i = g.length := by omega
      simp only [if_neg e]; rw [hget']; exact ⟨hc1, hc2⟩
  · rw [List.length_append, List.length_singleton] at hi
    by_cases e : i < g.length
    · simp only [if_pos e]; rw [hget i e]; exact (stays _ _ _ _ hS (h.rows.own i e)).more (Nat.le_refl _) (by omega)
    · obtain rfl : i = g.length := by omega
      simp only [if_neg e]; rw [hget']; exact (stays _ _ _ _ (Nat.le_refl _) hl).more hbS (by omega)
  · rw [List.length_append, List.length_singleton] at hi hj
    by_cases ei : i < g.length
    · by_cases ej : j < g.length
      · simp only [if_pos ei, if_pos ej]
        rw [hget i ei] at p
        rw [hget j ej] at q
        exact h.rows.apart i j ei ej hne p q
      · obtain rfl : j = g.length := by omega
        simp only [if_pos ei, if_neg ej]
        rw [hget i ei] at p
        rw [hget'] at q
        obtain ⟨b1, _, _, e1, _, k1, _⟩ := h.rows.own i ei p
        obtain ⟨b2, _, _, e2, k2, _, _⟩ := hl q
        rw [e1, e2]; intro e; injection e with e; injection e with e; omega
    · obtain rfl : i = g.length := by omega
      have ej : j < g.length := by omega
      simp only [if_neg ei, if_pos ej]
      rw [hget j ej] at q
      rw [hget'] at p
      obtain ⟨b1, _, _, e1, _, k1, _⟩ := h.rows.own j ej q
      obtain ⟨b2, _, _, e2, k2, _, _⟩ := hl p
      rw [e1, e2]; intro e; injection e with e; injection e with e; omega
  · rcases hat with e | e
    · rw [e] at hk; have := h.hib k hk; omega
    · rw [e] at hk; injection hk with hk
      have := (World.ownsRow.lt hown) k (by rw [e, hk])
      exact this.2
theorem Grows.own' {w : World} {base : Nat} {v : Value} {l : List Int} (h : Grows w base v l) : ∃ (A : Option Addr) (c : Nat), v = .slice A l.length c ∧ l.length ≤ c ∧ c ≤ maxLen ∧ OwnI w base w.heap.size A l := by
  obtain ⟨A, c, e, h1, h2⟩ := h.own
  refine ⟨A, c, e, h1, ?_, h2⟩
  obtain ⟨_, ⟨e', _⟩ | ⟨b, cap, cur, e', _, _, _, h6, _⟩⟩ := h
  · rw [e] at e'; injection e' with _ _ e'; omega
  · rw [e] at e'; injection e' with _ _ e'; omega
theorem GrowsR.below {w w1 W : World} {B base hi : Nat} {v : Value} {A : Nat → Option Addr} {C : Nat → Nat} {g : List (List Int)} {o : Obj} (h : GrowsR w base hi v A C g) (hg : (w.alloc o).grownBy w1 v.ownBlock) (hb : Below B W w) (hB : B ≤ base) (hw : B ≤ w.heap.size) : Below B W w1 :=
  (hb.alloc hw o).grown hg (by simp; omega) (fun k hk => by have := (World.ownsRow.lt h.top) k hk; omega)
theorem GrowsR.alloc {w : World} {base hi : Nat} {v : Value} {A : Nat → Option Addr} {C : Nat → Nat} {g : List (List Int)} (h : GrowsR w base hi v A C g) (o : Obj) : (w.alloc o).ownsRow base 52 1 v g.length (rowVals A C g) := World.ownsRow.alloc h.top o
def negCol (g : List (List Int)) (k : Nat) : Nat → List Int
  | 0 => []
  | m + 1 => negCol g k m ++ [-nth (rowAt g m) k]
def negTab (g : List (List Int)) : Nat → List (List Int)
  | 0 => []
  | k + 1 => negTab g k ++ [negCol g k g.length]
theorem negCol_length (g : List (List Int)) (k m : Nat) : (negCol g k m).length = m := by
  induction m with
  | zero => rfl
  | succ m ih => simp [negCol, ih]
theorem negTab_length (g : List (List Int)) (k : Nat) : (negTab g k).length = k := by
  induction k with
  | zero => rfl
  | succ k ih => simp [negTab, ih]
theorem nth_negCol (g : List (List Int)) (k m i : Nat) (h : i < m) : nth (negCol g k m) i = -nth (rowAt g i) k := by
  induction m with
  | zero => omega
  | succ m ih =>
    simp only [negCol]
    by_cases e : i < m
    · rw [nth_snoc_lt _ _ _ (by rw [negCol_length]; exact e), ih e]
    · obtain rfl : i = m := by omega
      have := nth_snoc_eq (negCol g k i) (-nth (rowAt g i) k)
      rwa [negCol_length] at this
theorem rowAt_negTab (g : List (List Int)) (k j : Nat) (h : j < k) : rowAt (negTab g k) j = negCol g j g.length := by
  induction k with
  | zero => omega
  | succ k ih =>
    simp only [negTab]
    by_cases e : j < k
    · rw [rowAt_snoc_lt _ _ _ (by rw [negTab_length]; exact e), ih e]
    · obtain rfl : j = k := by omega
      have := rowAt_snoc_eq (negTab g j) (negCol g j g.length)
      rwa [negTab_length] at this
theorem negTab_turnedL (g : List (List Int)) : negTab g (rowAt g 0).length = turnedL g := by
  refine ext_rowAt (by rw [negTab_length, turnedL_length]) (fun j hj => ?_)
  rw [negTab_length] at hj
  rw [rowAt_negTab _ _ _ hj]
  refine ext_nth (by rw [negCol_length, turnedL_row_length g j hj]) (fun i hi => ?_)
  rw [negCol_length] at hi
  rw [nth_negCol _ _ _ _ hi, nth_turnedL g j i hj hi]
end Go.Proofs.YtlmaeadbomnhlaaGreat

namespace Go.Proofs.YtlmaeadbomnhlaaGreat
set_option linter.unusedSimpArgs false
set_option linter.unusedVariables false
open Go.RowKit
end Go.Proofs.YtlmaeadbomnhlaaGreat

namespace Go.Proofs.YtlmaeadbomnhlaaGreat
set_option linter.unusedSimpArgs false
set_option linter.unusedVariables false
open Go.RowKit
theorem NewTable.of {w w' : World} {v x : Value} {A : Nat → Option Addr} {C : Nat → Nat} {g : List (List Int)} (hx : x = v) {hi : Nat} (h : GrowsR w' w.heap.size hi v A C g) (hb : Below w.heap.size w w') : NewTable w g (.returned x) w' := by
  obtain ⟨T, c, rfl, _, _, ho⟩ := h.table
  exact ⟨T, c, by rw [hx], hb, ho.more (Nat.le_refl _) h.hile⟩
set_option maxHeartbeats 2000000 in
set_option maxRecDepth 100000 in
theorem turned_spec (A : Option Addr) (c : Nat) (g : List (List Int)) (hl : g.length ≤ maxLen) (w : World) (h : Rows2 w (· < w.heap.size) A g) :
    Calls Tryz.prog 38 #[.slice A g.length c] w (NewTable w (turned g)) := by
  have hb0 : Below w.heap.size w (w.alloc (.cells #[] 52)) := (Below.refl _ _).alloc (Nat.le_refl _) _
  have G0 := Lib.hid (GrowsR.lit w (base := w.heap.size) (Nat.le_refl _) (fun _ => none) (fun _ => 0))
  rcases hb : gameB g with _ | _
  · have H1 : Hid (turned g = []) := by simp [Hid, turned, hb]
    have HB := Lib.hid hb
    have HR := Lib.hid h
    clear hb h
    go_enter Tryz.func38, Tryz.ntmps38
    go_wp2_with fail
    refine (game_spec _ _ _ _ hl _ (keepRows hb0 HR.out)).mono ?_
    rintro e w1 ⟨rfl, n, rfl⟩
    rw [HB.out]
    go_wp2_with fail
    go_ret
    rw [H1.out]
    exact NewTable.of rfl (G0.out.drewN n) (below_drewN hb0 n)
  have hg := Game.of hb
  have hg1 := hg.lo
  have hg2 := hg.hi
  have hg3 := hg.mlo
  have hg4 := hg.mhi
  have H1 : Hid (turned g = negTab g (rowAt g 0).length) := by show turned g = _; rw [negTab_turnedL]; simp [turned, hb]
  have HB := Lib.hid hb
  have HR := Lib.hid h
  have HG := Lib.hid hg
  obtain ⟨i0, hi0, hz0, hz1, hz2⟩ := info_parts infoI
  obtain ⟨i1, hi1, hy0, hy1, hy2⟩ := info_parts infoR
  have HI0 := Lib.hid hi0
  have HZ0 := Lib.hid hz0
  have HZ1 := Lib.hid hz1
  have HZ2 := Lib.hid hz2
  have HI1 := Lib.hid hi1
  have HY0 := Lib.hid hy0
  have HY1 := Lib.hid hy1
  have HY2 := Lib.hid hy2
  obtain ⟨b, off, rfl⟩ := h.some (by omega)
  have HB0 := Lib.hid hb0
  clear hb h hg hi0 hz0 hz1 hz2 hi1 hy0 hy1 hy2 hb0
  go_enter Tryz.func38, Tryz.ntmps38
  go_wp2_with fail
  refine (game_spec _ _ _ _ hl _ (keepRows HB0.out HR.out)).mono ?_
  rintro e w1 ⟨rfl, n, rfl⟩
  rw [HB.out]
  go_wp2_with fail
  go_loopw [3, 4] (fun v j wr => ∃ k : Nat, k ≤ (rowAt g 0).length ∧ j = .int .i64 k ∧ Hid (∃ (A : Nat → Option Addr) (C : Nat → Nat), GrowsR wr w.heap.size wr.heap.size v A C (negTab g k)) ∧ Hid (Below w.heap.size w wr)) (fun _ j _ => (rowAt g 0).length - (intOf j).toNat)
  case atStart => exact ⟨0, Nat.zero_le _, rfl, ⟨_, _, (G0.out.drewN n).up (by simp) (Nat.le_refl _)⟩, below_drewN HB0.out n⟩
  case round =>
    obtain ⟨k, hk, rfl, HT, HW⟩ := hrel
    obtain ⟨AA, CC, hgr⟩ := HT.out
    have R := Lib.hid (keepRows HW.out HR.out)
    obtain ⟨hS, A0, c0, hc0, hl0, hm0, _⟩ := R.out.row (i := 0) (by omega)
    rw [Nat.add_zero] at hc0
    unfold maxLen at hm0
    have HGR := Lib.hid hgr
    clear hgr HT
    by_cases hlt : k < (rowAt g 0).length
    · have hws := HW.out.size
      go_wp2_with fail
      clear hc0
      obtain ⟨wo, rfl⟩ : ∃ wo : World, wo = wr := ⟨_, rfl⟩
      go_loopw [5, 6] (fun v i wr => ∃ m : Nat, m ≤ g.length ∧ i = .int .i64 m ∧ Hid (Grows wr wo.heap.size v (negCol g k m)) ∧ Hid (Below wo.heap.size wo wr)) (fun _ i _ => g.length - (intOf i).toNat)
      case atStart => exact ⟨0, Nat.zero_le _, rfl, Grows.lit wo (Nat.le_refl _), (Below.refl _ _).alloc (Nat.le_refl _) _⟩
      case round =>
        obtain ⟨m, hm, rfl, HO, HV⟩ := hrel
        have hvs := HV.out.size
        by_cases hlm : m < g.length
        · have HWV := Lib.hid (belT HW.out HV.out)
          have R2 := Lib.hid (keepRows HWV.out HR.out)
          have hlm' : k < (rowAt g m).length := by rw [HG.out.len m hlm]; exact hlt
          obtain ⟨bm, om, cm, hc1, hc2, hc3, hc4, hc5⟩ := R2.out.cell hlm hlm'
          unfold maxLen at hc3
          have hn1 := HG.out.nlo m hlm k hlt
          have hn2 := HG.out.nhi m hlm k hlt
          have HL := Lib.hid (negCol_length g k m)
          go_wp2_with (at_builtin; refine wpList_append_own_at _ rfl (.tmp 27) (.tmp 36) _ rfl wo.heap.size 3 i0 (.int .i64 0) 1 8 Tryz.underlying52 HI0.out HZ0.out HZ1.out HZ2.out rfl (by decide) _ _ _ rfl (HO.out.alloc _) ⟨wr.heap.size, 0, none⟩ 1 1 [.int .i64 (-nth (rowAt g m) k)] rfl rfl (cell_one_new _ _ _) ?c2 ?c3 ?c4 ?c5 ?_)
          case c2 => intro u hu; simp at hu; subst hu; rfl
          case c3 => rw [HL.out]; unfold maxLen; omega
          case c4 => rw [HL.out]; omega
          case c5 => simp; omega
          intro v' w4 hown hgrow _ _
          have HN : Hid (Grows w4 wo.heap.size v' (negCol g k (m + 1))) := Grows.snoc hown
          have HV2 : Hid (Below wo.heap.size wo w4) := HO.out.below hgrow HV.out (Nat.le_refl _) hvs
          clear hown hgrow
          go_wp2_with fail
          go_roundw
          case rel => exact ⟨m + 1, by omega, by go_num, HN, HV2⟩
          case measure => simp [intOf]; omega
        · obtain rfl : m = g.length := by omega
          obtain ⟨An, cn, hv, hcn1, hcn2, hon⟩ := HO.out.own'
          have HGV := Lib.hid (HGR.out.keep HV.out)
          have HON := Lib.hid hon
          have HL := Lib.hid (negTab_length g k)
          subst hv
          clear hon
          go_wp2_with (at_builtin; refine wpList_append_own_at _ rfl (.tmp 38) (.tmp 40) _ rfl w.heap.size 52 i1 (.slice none 0 0) 1 24 Tryz.underlying23 HI1.out HY0.out HY1.out HY2.out rfl (by decide) _ _ _ rfl (HGV.out.alloc _) ⟨wr.heap.size, 0, none⟩ 1 1 [.slice An (negCol g k g.length).length cn] rfl rfl (cell_one_new _ _ _) ?c2 ?c3 ?c4 ?c5 ?_)
          case c2 => intro u hu; simp at hu; subst hu; rfl
          case c3 => rw [HL.out]; unfold maxLen; omega
          case c4 => rw [HL.out]; omega
          case c5 => simp; omega
          intro v' w4 hown hgrow _ hat
          have HN : Hid (∃ (A : Nat → Option Addr) (C : Nat → Nat), GrowsR w4 w.heap.size w4.heap.size v' A C (negTab g (k + 1))) :=
            HGV.out.snoc HON.out hcn1 hcn2 hws hown hgrow (by rcases hat with e | e; exact .inl e; exact .inr (by rw [e]; try simp))
          have HW2 : Hid (Below w.heap.size w w4) := HGV.out.below hgrow (belT HW.out HV.out) (Nat.le_refl _) (by omega)
          clear hown hgrow hat
          go_wp2_with fail
          go_roundw
          case rel => exact ⟨k + 1, by omega, by go_num, HN, HW2⟩
          case measure => simp [intOf]; omega
    · obtain rfl : k = (rowAt g 0).length := by omega
      go_wp2_with fail
      go_ret
      rw [H1.out]
      exact NewTable.of rfl HGR.out HW.out
end Go.Proofs.YtlmaeadbomnhlaaGreat

namespace Go.Proofs.YtlmaeadbomnhlaaGreat
set_option linter.unusedSimpArgs false
set_option linter.unusedVariables false
open Go.RowKit
end Go.Proofs.YtlmaeadbomnhlaaGreat

namespace Go.Proofs.YtlmaeadbomnhlaaGreat
set_option linter.unusedSimpArgs false
set_option linter.unusedVariables false
open Go.RowKit
end Go.Proofs.YtlmaeadbomnhlaaGreat

namespace Go.Proofs.YtlmaeadbomnhlaaGreat
set_option linter.unusedSimpArgs false
set_option linter.unusedVariables false
open Go.RowKit
structure Marking (w wr : World) (lo hi b N : Nat) (f : Nat → Value) (A : Nat → Option Addr) (g : List (List Int)) (k : Int) (m : Nat) : Prop where
  off : Off lo hi w wr
  top : wr.rowIs b 52 N f
  rows : ∀ r, r < g.length → OwnI wr lo hi (A r) (if r < m then seqN (k + (sumN g r : Int)) (rowAt g r).length else rowAt g r)
theorem rowIs_ne {w : World} {b b' N N' : Nat} {f f' : Nat → Value} {t t' : TypeId} (h : w.rowIs b t N f) (h' : w.rowIs b' t' N' f') (hne : t ≠ t') : b ≠ b' := by
  rintro rfl
  obtain ⟨c, h1, _, _⟩ := h
  obtain ⟨c', h2, _, _⟩ := h'
  rw [h1] at h2
  injection h2 with h2
  injection h2 with _ e
  exact hne e
theorem Marking.step {w wr w2 : World} {lo hi b N : Nat} {f : Nat → Value} {A : Nat → Option Addr} {C : Nat → Nat} {g : List (List Int)} {k : Int} {m : Nat} (h : Marking w wr lo hi b N f A g k m) (hm : m < g.length)
    (hR : RowsOwn w lo hi A C g) (ht : Touch (rowAt g m).length (A m) wr w2) (ho : OwnI w2 lo hi (A m) (seqN (k + (sumN g m : Int)) (rowAt g m).length)) : Marking w w2 lo hi b N f A g k (m + 1) := by
  have own_m := h.rows m hm
  rw [if_neg (Nat.lt_irrefl m)] at own_m
  refine ⟨h.off.trans (ht.off own_m), h.top.of_block (ht.block _ fun h0 e => ?_), fun r hr => ?_⟩
  · obtain ⟨b', N', f', e', _, _, hr', _⟩ := own_m h0
    rw [e'] at e; injection e with e; injection e with e
    exact rowIs_ne h.top hr' (by decide) e.symm
  · by_cases e : r = m
    · subst e; rw [if_pos (by omega)]; exact ho
    · have hk : OwnI w2 lo hi (A r) (if r < m then seqN (k + (sumN g r : Int)) (rowAt g r).length else rowAt g r) := by
        intro h0
        have hlen : (if r < m then seqN (k + (sumN g r : Int)) (rowAt g r).length else rowAt g r).length = (rowAt g r).length := by split <;> simp [seqN_length]
        obtain ⟨b', N', f', e', h1, h2, h3, h4, h5⟩ := h.rows r hr h0
        refine ⟨b', N', f', e', h1, h2, h3.of_block (ht.block _ fun h0' e'' => ?_), h4, h5⟩
        rw [hlen] at h0
        exact hR.apart r m hr hm e h0 h0' (by rw [e', e''])
      by_cases hlt : r < m
      · rw [if_pos hlt] at hk; rw [if_pos (by omega)]; exact hk
      · rw [if_neg hlt] at hk; rw [if_neg (by omega)]; exact hk
theorem Marking.done {w wr : World} {lo hi b N : Nat} {f : Nat → Value} {A : Nat → Option Addr} {C : Nat → Nat} {g : List (List Int)} {k : Int} (h : Marking w wr lo hi b N f A g k g.length) (h1 : lo ≤ b) (h2 : b < hi) (hN : g.length ≤ N)
    (hf : ∀ i, i < g.length → f i = .slice (A i) (rowAt g i).length (C i)) (hR : RowsOwn w lo hi A C g) : OwnR wr lo hi (some ⟨b, 0, none⟩) (marks g k) := by
  intro _
  have hlen : ∀ i, i < g.length → (rowAt (marks g k) i).length = (rowAt g i).length := fun i hi => by rw [rowAt_marks g k i hi, seqN_length]
  refine ⟨b, N, f, A, C, rfl, h1, h2, by rw [marks_length]; exact hN, h.top, fun i hi => ?_, ⟨fun i hi => ?_, fun i hi => ?_, fun i j hi hj hne p q => ?_⟩⟩
  · rw [marks_length] at hi; rw [hf i hi, hlen i hi]
  · rw [marks_length] at hi; rw [hlen i hi]; exact hR.cap i hi
  · rw [marks_length] at hi
    have := h.rows i hi
    rw [if_pos hi] at this
    rw [rowAt_marks g k i hi]; exact this
  · rw [marks_length] at hi hj
    rw [hlen i hi] at p
    rw [hlen j hj] at q
    exact hR.apart i j hi hj hne p q
end Go.Proofs.YtlmaeadbomnhlaaGreat
