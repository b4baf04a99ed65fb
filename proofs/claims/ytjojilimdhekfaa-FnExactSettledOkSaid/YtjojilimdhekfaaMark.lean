/- Words for memory: tables of the call's own; the walks that number them through and look them up again. -/
import Derived.Test.YtjojilimdhekfaaOwn
namespace Go.Proofs.Ytjojilimdhekfaa
set_option linter.unusedSimpArgs false
set_option linter.unusedVariables false
open Go.RowKit

/-- what rows hold their numbers where: each a list of the call's own, no two in one block -/
structure RowsOwn (w : World) (lo hi : Nat) (A : Nat → Option Addr) (C : Nat → Nat) (g : List (List Int)) : Prop where
  cap : ∀ i, i < g.length → (rowAt g i).length ≤ C i ∧ C i ≤ maxLen
  own : ∀ i, i < g.length → OwnI w lo hi (A i) (rowAt g i)
  apart : ∀ i j, i < g.length → j < g.length → i ≠ j → 0 < (rowAt g i).length → 0 < (rowAt g j).length → A i ≠ A j

/-- a table of the call's own -/
def OwnR (w : World) (lo hi : Nat) (T : Option Addr) (g : List (List Int)) : Prop :=
  0 < g.length → ∃ (b N : Nat) (f : Nat → Value) (A : Nat → Option Addr) (C : Nat → Nat), T = some ⟨b, 0, none⟩ ∧ lo ≤ b ∧ b < hi ∧ g.length ≤ N ∧ w.rowIs b 24 N f ∧
    (∀ i, i < g.length → f i = .slice (A i) (rowAt g i).length (C i)) ∧ RowsOwn w lo hi A C g

theorem RowsOwn.keep {w w' : World} {lo hi : Nat} {A : Nat → Option Addr} {C : Nat → Nat} {g : List (List Int)} (h : RowsOwn w lo hi A C g) (hk : ∀ b, lo ≤ b → b < hi → w'.heap[b]? = w.heap[b]?) : RowsOwn w' lo hi A C g :=
  ⟨h.cap, fun i hi => (h.own i hi).keep hk, h.apart⟩

theorem OwnR.keep {w w' : World} {lo hi : Nat} {T : Option Addr} {g : List (List Int)} (h : OwnR w lo hi T g) (hk : ∀ b, lo ≤ b → b < hi → w'.heap[b]? = w.heap[b]?) : OwnR w' lo hi T g := by
  intro h0
  obtain ⟨b, N, f, A, C, e, h1, h2, h3, h4, h5, h6⟩ := h h0
  exact ⟨b, N, f, A, C, e, h1, h2, h3, h4.of_block (hk b h1 h2), h5, h6.keep hk⟩

theorem OwnR.rows2 {w : World} {lo hi : Nat} {T : Option Addr} {g : List (List Int)} (h : OwnR w lo hi T g) : Rows2 w (fun b => lo ≤ b ∧ b < hi) T g := by
  intro h0
  obtain ⟨b, N, f, A, C, e, h1, h2, h3, h4, h5, h6⟩ := h h0
  refine ⟨b, 0, e, ⟨h1, h2⟩, fun i hi => ⟨A i, C i, ?_, (h6.cap i hi).1, (h6.cap i hi).2, (h6.own i hi).ints⟩⟩
  rw [Nat.zero_add, h4.cell (by omega), h5 i hi]

theorem OwnR.more {w : World} {lo hi lo' hi' : Nat} {T : Option Addr} {g : List (List Int)} (h : OwnR w lo hi T g) (h1 : lo' ≤ lo) (h2 : hi ≤ hi') : OwnR w lo' hi' T g := by
  intro h0
  obtain ⟨b, N, f, A, C, e, k1, k2, h3, h4, h5, h6⟩ := h h0
  exact ⟨b, N, f, A, C, e, by omega, by omega, h3, h4, h5, ⟨h6.cap, fun i hi => (h6.own i hi).more h1 h2, h6.apart⟩⟩

theorem Laid.own {w w' : World} {g : List (List Int)} (h : Laid w w' g) (hm : ∀ i, i < g.length → (rowAt g i).length ≤ maxLen) : OwnR w' w.heap.size w'.heap.size (some ⟨w.heap.size, 0, none⟩) g := by
  have hz := Laying.size h
  intro h0
  refine ⟨w.heap.size, g.length, _, fun i => some ⟨w.heap.size + 1 + i, 0, none⟩, fun i => (rowAt g i).length, rfl, Nat.le_refl _, by omega, Nat.le_refl _, Laying.top h, fun i hi => by rw [if_pos hi], ⟨fun i hi => ⟨Nat.le_refl _, hm i hi⟩, fun i hi _ => ?_, fun i j hi hj hne _ _ e => ?_⟩⟩
  · exact ⟨w.heap.size + 1 + i, _, _, rfl, by omega, by omega, Laying.rows h i hi, Nat.le_refl _, fun j _ => rfl⟩
  · injection e with e; injection e with e; omega

/-- nothing has turned but, perhaps, the block at A -/
structure Touch (n : Nat) (A : Option Addr) (w w' : World) : Prop where
  os : w'.os = w.os
  tape : w'.tape = w.tape
  output : w'.output = w.output
  size : w'.heap.size = w.heap.size
  block : ∀ b, (0 < n → A ≠ some ⟨b, 0, none⟩) → w'.heap[b]? = w.heap[b]?

/-- nothing has turned but, perhaps, the blocks of lo .. hi - 1 -/
structure Off (lo hi : Nat) (w w' : World) : Prop where
  os : w'.os = w.os
  tape : w'.tape = w.tape
  output : w'.output = w.output
  size : w'.heap.size = w.heap.size
  block : ∀ b, ¬ (lo ≤ b ∧ b < hi) → w'.heap[b]? = w.heap[b]?

theorem Off.refl (lo hi : Nat) (w : World) : Off lo hi w w := ⟨rfl, rfl, rfl, rfl, fun _ _ => rfl⟩

theorem Off.trans {lo hi : Nat} {a b c : World} (h : Off lo hi a b) (k : Off lo hi b c) : Off lo hi a c :=
  ⟨k.os.trans h.os, k.tape.trans h.tape, k.output.trans h.output, k.size.trans h.size, fun i hi => (k.block i hi).trans (h.block i hi)⟩

theorem Off.below {lo hi B : Nat} {w w' : World} (h : Off lo hi w w') (hB : B ≤ lo) : Below B w w' := ⟨h.os, h.tape, h.output, Nat.le_of_eq h.size.symm, fun k hk => h.block k (by omega)⟩

theorem Touch.off {lo hi : Nat} {w w' : World} {A : Option Addr} {l : List Int} (h : Touch l.length A w w') (ho : OwnI w lo hi A l) : Off lo hi w w' :=
  ⟨h.os, h.tape, h.output, h.size, fun b hb => h.block b fun h0 e => by
    obtain ⟨b', N, f, e', h1, h2, _⟩ := ho h0
    rw [e'] at e; injection e with e; injection e with e; subst e; exact hb ⟨h1, h2⟩⟩

theorem touch_set {w wr : World} {b N n i : Nat} {f : Nat → Value} (h : Touch n (some ⟨b, 0, none⟩) w wr) (hn : 0 < n) (v : Value) : Touch n (some ⟨b, 0, none⟩) w (wr.setCell ⟨b, i, none⟩ v) :=
  ⟨h.os, h.tape, h.output, by simpa [World.setCell] using h.size, fun b' hb' => by
    have hne : b' ≠ b := fun e => hb' hn (by rw [e])
    rw [Below.heap_setCell _ _ _ _ hne]; exact h.block b' hb'⟩

set_option maxHeartbeats 1000000 in
theorem markIntS (A : Option Addr) (c : Nat) (l : List Int) (lo hi : Nat) (k : Int) (hl : l.length ≤ 4294967296) (h0 : 0 ≤ k) (h1 : k ≤ 4294967296) (w : World) (h : OwnI w lo hi A l) :
    Calls Try.prog 42 #[.slice A l.length c, .int .i64 k] w fun e w' => e = .returned (.int .i64 (k + (l.length : Int))) ∧ Touch l.length A w w' ∧ OwnI w' lo hi A (seqN k l.length) := by
  by_cases hz : l.length = 0
  · have H := Lib.hid hz
    have hd : decide ((0 : Int) < (l.length : Int)) = false := decide_eq_false (by omega)
    have HK : Hid (k = k + (l.length : Int)) := by show k = _; omega
    have hz2 : ¬ (0 : Int) < (l.length : Int) := by omega
    clear hz
    go_enter Try.func42, Try.ntmps42
    go_wp2_with fail
    go_loop [1, 5] (fun v i => i = .int .i64 0 ∧ v = .int .i64 k) (fun _ _ => 0)
    case atStart => exact ⟨rfl, rfl⟩
    case round =>
      obtain ⟨rfl, rfl⟩ := hrel
      go_wp2_with fail
      go_ret
      rw [← HK.out]
      exact ⟨rfl, ⟨rfl, rfl, rfl, rfl, fun _ _ => rfl⟩, fun hh => by rw [seqN_length] at hh; have := H.out; omega⟩
  obtain ⟨b, N, f, rfl, hb1, hb2, hr, hN, hf⟩ := h (by omega)
  have hpos : 0 < l.length := by omega
  have T0 : Hid (Touch l.length (some ⟨b, 0, none⟩) w w) := ⟨rfl, rfl, rfl, rfl, fun _ _ => rfl⟩
  have R0 : Hid (w.rowIs b 3 N (fun x => if x < 0 then .int .i64 (k + x) else f x)) := hr.congr (fun i _ => by simp)
  clear h hr hz hf
  go_enter Try.func42, Try.ntmps42
  go_wp2_with fail
  go_loopw [1, 5] (fun v i wr => ∃ m : Nat, m ≤ l.length ∧ i = .int .i64 m ∧ v = .int .i64 (k + (m : Int)) ∧ Hid (Touch l.length (some ⟨b, 0, none⟩) w wr) ∧ Hid (wr.rowIs b 3 N (fun x => if x < m then .int .i64 (k + x) else f x))) (fun _ i _ => l.length - (intOf i).toNat)
  case atStart => exact ⟨0, Nat.zero_le _, rfl, by simp, T0, R0⟩
  case round =>
    obtain ⟨m, hm, rfl, rfl, HT, HR⟩ := hrel
    by_cases hlt : m < l.length
    · have hcell := HR.out.cell (i := m) (by omega)
      rw [if_neg (by omega)] at hcell
      have hfr := HR.out.frozen m
      have HT2 : Hid (Touch l.length (some ⟨b, 0, none⟩) w (wr.setCell ⟨b, m, none⟩ (.int .i64 (k + (m : Int))))) := touch_set (N := N) (f := f) HT.out hpos _
      have HR2 : Hid ((wr.setCell ⟨b, m, none⟩ (.int .i64 (k + (m : Int)))).rowIs b 3 N (fun x => if x < m + 1 then .int .i64 (k + x) else f x)) := by
        refine (HR.out.set m _).congr (fun i _ => ?_)
        by_cases e : i = m
        · subst e; simp
        · rw [if_neg e]
          by_cases hlt : i < m
          · rw [if_pos hlt, if_pos (by omega)]
          · rw [if_neg hlt, if_neg (by omega)]
      obtain ⟨fm, hfm⟩ : ∃ fm, f m = fm := ⟨_, rfl⟩
      rw [hfm] at hcell
      have HFM := Lib.hid hfm
      clear hfm
      go_wp2_with fail
      go_roundw
      case rel => exact ⟨m + 1, by omega, by go_num, by go_num, HT2, HR2⟩
      case measure => simp [intOf]; omega
    · obtain rfl : m = l.length := by omega
      go_wp2_with fail
      go_ret
      refine ⟨rfl, HT.out, fun _ => ⟨b, N, _, rfl, hb1, hb2, HR.out, by rw [seqN_length]; exact hN, fun i hi => ?_⟩⟩
      rw [seqN_length] at hi
      rw [if_pos hi, nth_seqN _ _ _ hi]

set_option maxHeartbeats 1000000 in
theorem heldIntS (A : Option Addr) (c n : Nat) (S : Nat → Prop) (k : Int) (hl : n ≤ 4294967296) (h0 : 0 ≤ k) (h1 : k ≤ 4294967296) (w : World) (h : Ints w S A (seqN k n)) :
    Calls Try.prog 43 #[.slice A n c, .int .i64 k] w (Same (.int .i64 (k + (n : Int))) w) := by
  have HH := Lib.hid h
  clear h
  go_enter Try.func43, Try.ntmps43
  go_wp2_with fail
  go_loop [1, 5] (fun v i => ∃ m : Nat, m ≤ n ∧ i = .int .i64 m ∧ v = .int .i64 (k + (m : Int))) (fun _ i => n - (intOf i).toNat)
  case atStart => exact ⟨0, Nat.zero_le _, rfl, by simp⟩
  case round =>
    obtain ⟨m, hm, rfl, rfl⟩ := hrel
    by_cases hlt : m < n
    · obtain ⟨b, off, rfl, hS, hc⟩ := HH.out.at_ (i := m) (by rw [seqN_length]; exact hlt)
      have hck := hc m (by rw [seqN_length]; exact hlt)
      rw [nth_seqN _ _ _ hlt] at hck
      have z : ((k + (m : Int)) != (k + (m : Int))) = false := by simp
      clear hc
      go_wp2_with fail
      go_round
      case rel => exact ⟨m + 1, by omega, by go_num, by go_num⟩
      case measure => simp [intOf]; omega
    · obtain rfl : m = n := by omega
      go_wp2_with fail
      go_ret
      exact Same.of rfl

theorem rowIs_ne' {w : World} {b b' N N' : Nat} {f f' : Nat → Value} (h : w.rowIs b 3 N f) (h' : w.rowIs b' 24 N' f') : b ≠ b' := by
  rintro rfl
  obtain ⟨c, h1, _, _⟩ := h
  obtain ⟨c', h2, _, _⟩ := h'
  rw [h1] at h2
  injection h2 with h2
  injection h2 with _ e
  exact absurd e (by decide)

end Go.Proofs.Ytjojilimdhekfaa
