/- Words for memory: a slice that reads as a list of numbers; a slice of rows. -/
import Derived.Test.YtjojilimdhekfaaProg
import Derived.Test.YtjojilimdhekfaaGmath
import Derived.Test.YtjojilimdhekfaaFracC
import Derived.Deep.Draws
namespace Go.Proofs.Ytjojilimdhekfaa
set_option linter.unusedSimpArgs false
set_option linter.unusedVariables false
open Go.RowKit

/-- w' is w behind some draws -/
def Quiet (v : Value) (w : World) (e : Ending) (w' : World) : Prop := e = .returned v ∧ ∃ n, w' = w.drewN n

theorem Quiet.mk {v : Value} {w : World} (n : Nat) : Quiet v w (.returned v) (w.drewN n) := ⟨rfl, n, rfl⟩

theorem Quiet.of {v x : Value} {w : World} (h : x = v) : Quiet v w (.returned x) w := ⟨by rw [h], 0, rfl⟩

theorem Quiet.ofN {v x : Value} {w : World} {n : Nat} (h : x = v) : Quiet v w (.returned x) (w.drewN n) := ⟨by rw [h], n, rfl⟩

theorem Quiet.ofD {v x : Value} {w w' : World} (h : x = v) (hd : ∃ n, w' = w.drewN n) : Quiet v w (.returned x) w' := ⟨by rw [h], hd⟩

/-- a quiet call inside a region that draws -/
theorem quietAdd {P : Program} {f : FuncId} {args : Array Value} {w : World} {a n : Nat} {v : Value} (h : Calls P f args (w.drewN (a + n)) (Quiet v (w.drewN (a + n)))) :
    Calls P f args (w.drewN (a + n)) fun e w'' => e = .returned v ∧ ∃ m, w'' = w.drewN (a + m) :=
  h.mono fun _ _ ⟨he, m, hm⟩ => ⟨he, n + m, by rw [hm, World.drewN_drewN, Nat.add_assoc]⟩

theorem quietOne {P : Program} {f : FuncId} {args : Array Value} {w : World} {n : Nat} {v : Value} (h : Calls P f args (w.drewN n) (Quiet v (w.drewN n))) :
    Calls P f args (w.drewN n) fun e w'' => e = .returned v ∧ ∃ m, w'' = w.drewN m :=
  h.mono fun _ _ ⟨he, m, hm⟩ => ⟨he, n + m, by rw [hm, World.drewN_drewN]⟩

/-- the world is left alone -/
def Same (v : Value) (w : World) (e : Ending) (w' : World) : Prop := e = .returned v ∧ w = w'

theorem Same.of {v x : Value} {w : World} (h : x = v) : Same v w (.returned x) w := ⟨by rw [h], rfl⟩

theorem Same.quiet {v : Value} {w : World} {e : Ending} {w' : World} (h : Same v w e w') : Quiet v w e w' := ⟨h.1, 0, h.2 ▸ rfl⟩

/-- the slice at A reads as the numbers l; its block is one of S -/
def Ints (w : World) (S : Nat → Prop) (A : Option Addr) (l : List Int) : Prop :=
  0 < l.length → ∃ b off : Nat, A = some ⟨b, off, none⟩ ∧ S b ∧ ∀ i, i < l.length → w.cell? ⟨b, off + i, none⟩ = some (.int .i64 (nth l i))

/-- the slice at A reads as the rows g -/
def Rows2 (w : World) (S : Nat → Prop) (A : Option Addr) (g : List (List Int)) : Prop :=
  0 < g.length → ∃ b off : Nat, A = some ⟨b, off, none⟩ ∧ S b ∧ ∀ i, i < g.length → ∃ (A' : Option Addr) (c : Nat),
    w.cell? ⟨b, off + i, none⟩ = some (.slice A' (rowAt g i).length c) ∧ (rowAt g i).length ≤ c ∧ c ≤ maxLen ∧ Ints w S A' (rowAt g i)

theorem Ints.nil (w : World) (S : Nat → Prop) (A : Option Addr) : Ints w S A [] := fun h => absurd h (by simp)

theorem Ints.keep {w w' : World} {S : Nat → Prop} {A : Option Addr} {l : List Int} (h : Ints w S A l) (hk : ∀ b, S b → w'.heap[b]? = w.heap[b]?) : Ints w' S A l := by
  intro h0
  obtain ⟨b, off, e, hb, hc⟩ := h h0
  exact ⟨b, off, e, hb, fun i hi => (World.cell?_of_block (w := w) (hk b hb)).trans (hc i hi)⟩

theorem Ints.mono {w : World} {S T : Nat → Prop} {A : Option Addr} {l : List Int} (h : Ints w S A l) (hk : ∀ b, S b → T b) : Ints w T A l := by
  intro h0
  obtain ⟨b, off, e, hb, hc⟩ := h h0
  exact ⟨b, off, e, hk b hb, hc⟩

theorem Rows2.keep {w w' : World} {S : Nat → Prop} {A : Option Addr} {g : List (List Int)} (h : Rows2 w S A g) (hk : ∀ b, S b → w'.heap[b]? = w.heap[b]?) : Rows2 w' S A g := by
  intro h0
  obtain ⟨b, off, e, hb, hc⟩ := h h0
  refine ⟨b, off, e, hb, fun i hi => ?_⟩
  obtain ⟨A', c, h1, h2, h3, h4⟩ := hc i hi
  exact ⟨A', c, (World.cell?_of_block (w := w) (hk b hb)).trans h1, h2, h3, h4.keep hk⟩

theorem Rows2.mono {w : World} {S T : Nat → Prop} {A : Option Addr} {g : List (List Int)} (h : Rows2 w S A g) (hk : ∀ b, S b → T b) : Rows2 w T A g := by
  intro h0
  obtain ⟨b, off, e, hb, hc⟩ := h h0
  refine ⟨b, off, e, hk b hb, fun i hi => ?_⟩
  obtain ⟨A', c, h1, h2, h3, h4⟩ := hc i hi
  exact ⟨A', c, h1, h2, h3, h4.mono hk⟩

theorem Ints.drewN {w : World} {S : Nat → Prop} {A : Option Addr} {l : List Int} (h : Ints w S A l) (n : Nat) : Ints (w.drewN n) S A l := h.keep fun _ _ => rfl

theorem Rows2.drewN {w : World} {S : Nat → Prop} {A : Option Addr} {g : List (List Int)} (h : Rows2 w S A g) (n : Nat) : Rows2 (w.drewN n) S A g := h.keep fun _ _ => rfl

/-- the cells of a slice of numbers, at an index -/
theorem Ints.at_ {w : World} {S : Nat → Prop} {A : Option Addr} {l : List Int} (h : Ints w S A l) {i : Nat} (hi : i < l.length) :
    ∃ b off : Nat, A = some ⟨b, off, none⟩ ∧ S b ∧ ∀ i, i < l.length → w.cell? ⟨b, off + i, none⟩ = some (.int .i64 (nth l i)) := h (by omega)

theorem Rows2.at_ {w : World} {S : Nat → Prop} {A : Option Addr} {g : List (List Int)} (h : Rows2 w S A g) {i : Nat} (hi : i < g.length) :
    ∃ b off : Nat, A = some ⟨b, off, none⟩ ∧ S b ∧ ∀ i, i < g.length → ∃ (A' : Option Addr) (c : Nat),
    w.cell? ⟨b, off + i, none⟩ = some (.slice A' (rowAt g i).length c) ∧ (rowAt g i).length ≤ c ∧ c ≤ maxLen ∧ Ints w S A' (rowAt g i) := h (by omega)

/-- a number of a table: the outer cell and the inner one -/
theorem Rows2.cell {w : World} {S : Nat → Prop} {b off : Nat} {g : List (List Int)} (h : Rows2 w S (some ⟨b, off, none⟩) g) {i j : Nat} (hi : i < g.length) (hj : j < (rowAt g i).length) :
    ∃ b' off' c : Nat, w.cell? ⟨b, off + i, none⟩ = some (.slice (some ⟨b', off', none⟩) (rowAt g i).length c) ∧ (rowAt g i).length ≤ c ∧ c ≤ maxLen ∧ S b' ∧ w.cell? ⟨b', off' + j, none⟩ = some (.int .i64 (nth (rowAt g i) j)) := by
  obtain ⟨b0, off0, e, hS, hc⟩ := h.at_ hi
  injection e with e
  injection e with e1 e2
  subst e1 e2
  obtain ⟨A', c, h1, h2, h3, h4⟩ := hc i hi
  obtain ⟨b', off', rfl, hS', hcell⟩ := h4.at_ hj
  exact ⟨b', off', c, h1, h2, h3, hS', hcell j hj⟩

/-- a row of a table -/
theorem Rows2.row {w : World} {S : Nat → Prop} {b off : Nat} {g : List (List Int)} (h : Rows2 w S (some ⟨b, off, none⟩) g) {i : Nat} (hi : i < g.length) :
    S b ∧ ∃ (A' : Option Addr) (c : Nat), w.cell? ⟨b, off + i, none⟩ = some (.slice A' (rowAt g i).length c) ∧ (rowAt g i).length ≤ c ∧ c ≤ maxLen ∧ Ints w S A' (rowAt g i) := by
  obtain ⟨b0, off0, e, hS, hc⟩ := h.at_ hi
  injection e with e
  injection e with e1 e2
  subst e1 e2
  exact ⟨hS, hc i hi⟩

theorem Rows2.some {w : World} {S : Nat → Prop} {A : Option Addr} {g : List (List Int)} (h : Rows2 w S A g) (h0 : 0 < g.length) : ∃ b off : Nat, A = some ⟨b, off, none⟩ := by
  obtain ⟨b, off, e, _⟩ := h h0; exact ⟨b, off, e⟩

theorem Ints.lt {w : World} {B B' : Nat} {A : Option Addr} {l : List Int} (h : Ints w (· < B) A l) (hB : B ≤ B') : Ints w (· < B') A l := h.mono fun b (hb : b < B) => Nat.lt_of_lt_of_le hb hB

theorem Rows2.lt {w : World} {B B' : Nat} {A : Option Addr} {g : List (List Int)} (h : Rows2 w (· < B) A g) (hB : B ≤ B') : Rows2 w (· < B') A g := h.mono fun b (hb : b < B) => Nat.lt_of_lt_of_le hb hB

end Go.Proofs.Ytjojilimdhekfaa
