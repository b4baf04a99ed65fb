/- Texts in one: ExactG, ExactS, ExactT, ExactM, ExactN, ExactP. -/
import Derived.Test.YtgjbahlebhnoiaaMC
import Derived.Test.YtgjbahlebhnoiaaMD
import Derived.Test.YtgjbahlebhnoiaaMF
namespace Go.Proofs.Ytgjbahlebhnoiaa
set_option linter.unusedSimpArgs false
set_option linter.unusedVariables false
open Go.RowKit

theorem NewRows.bel {w w' : World} {g : List (List Int)} (h : Laid w w' g) : Below w.heap.size w w' := Laying.bel h

theorem NewRows.reads {w w' : World} {g : List (List Int)} (h : Laid w w' g) (hm : ∀ i, i < g.length → (rowAt g i).length ≤ 4294967296) : Rows2 w' (· < w'.heap.size) (some ⟨w.heap.size, 0, none⟩) g :=
  h.rows2 (fun _ _ h => h) (fun i hi => by have := hm i hi; unfold maxLen; omega)

/-- a table that was read is read behind whatever only adds blocks -/
theorem stillRows {w w' : World} {A : Option Addr} {g : List (List Int)} (h : Rows2 w (· < w.heap.size) A g) (hb : Below w.heap.size w w') : Rows2 w' (· < w'.heap.size) A g :=
  (keepRows hb h).mono fun b hlt => by have := hb.size; omega

end Go.Proofs.Ytgjbahlebhnoiaa

namespace Go.Proofs.Ytgjbahlebhnoiaa
set_option linter.unusedSimpArgs false
set_option linter.unusedVariables false
open Go.RowKit

theorem OwnI.below {w w' : World} {lo hi : Nat} {A : Option Addr} {l : List Int} (h : OwnI w lo hi A l) (hb : Below hi w w') : OwnI w' lo hi A l := h.keep fun b _ h2 => hb.block b h2

theorem OwnR.below {w w' : World} {lo hi : Nat} {A : Option Addr} {g : List (List Int)} (h : OwnR w lo hi A g) (hb : Below hi w w') : OwnR w' lo hi A g := h.keep fun b _ h2 => hb.block b h2

theorem OwnI.off {w w' : World} {lo hi lo' hi' : Nat} {A : Option Addr} {l : List Int} (h : OwnI w lo hi A l) (ho : Off lo' hi' w w') (hd : hi ≤ lo' ∨ hi' ≤ lo) : OwnI w' lo hi A l := h.keep fun b h1 h2 => ho.block b (by omega)

theorem OwnR.off {w w' : World} {lo hi lo' hi' : Nat} {A : Option Addr} {g : List (List Int)} (h : OwnR w lo hi A g) (ho : Off lo' hi' w w') (hd : hi ≤ lo' ∨ hi' ≤ lo) : OwnR w' lo hi A g := h.keep fun b h1 h2 => ho.block b (by omega)

theorem OwnI.lt {w : World} {lo hi : Nat} {A : Option Addr} {l : List Int} (h : OwnI w lo hi A l) : Ints w (· < hi) A l := h.ints.mono fun _ h => h.2

theorem OwnR.lt {w : World} {lo hi : Nat} {A : Option Addr} {g : List (List Int)} (h : OwnR w lo hi A g) : Rows2 w (· < hi) A g := h.rows2.mono fun _ h => h.2

end Go.Proofs.Ytgjbahlebhnoiaa

namespace Go.Proofs.Ytgjbahlebhnoiaa
set_option linter.unusedSimpArgs false
set_option linter.unusedVariables false
open Go.RowKit



end Go.Proofs.Ytgjbahlebhnoiaa

namespace Go.Proofs.Ytgjbahlebhnoiaa
set_option linter.unusedSimpArgs false
set_option linter.unusedVariables false
open Go.RowKit

theorem stillInts {w w' : World} {A : Option Addr} {l : List Int} (h : Ints w (· < w.heap.size) A l) (hb : Below w.heap.size w w') : Ints w' (· < w'.heap.size) A l :=
  (keepInts hb h).mono fun b hlt => by have := hb.size; omega

/-- a fraction in a block of its own -/
structure Box2 (w : World) (b : Nat) (u d : Int) : Prop where
  lt : b < w.heap.size
  c0 : w.cell? ⟨b, 0, none⟩ = some (.int .i64 u)
  c1 : w.cell? ⟨b, 1, none⟩ = some (.int .i64 d)

theorem Box2.new (w : World) (u d : Int) : Box2 (w.alloc (.cells #[.int .i64 u, .int .i64 d] 32)) w.heap.size u d := ⟨by simp, by simp [go_sem], by simp [go_sem]⟩

theorem Box2.still {w w' : World} {b : Nat} {u d : Int} (h : Box2 w b u d) (hb : Below w.heap.size w w') : Box2 w' b u d :=
  ⟨Nat.lt_of_lt_of_le h.lt hb.size, (hb.cell (p := ⟨b, 0, none⟩) h.lt).trans h.c0, (hb.cell (p := ⟨b, 1, none⟩) h.lt).trans h.c1⟩

end Go.Proofs.Ytgjbahlebhnoiaa

namespace Go.Proofs.Ytgjbahlebhnoiaa
set_option linter.unusedSimpArgs false
set_option linter.unusedVariables false
open Go.RowKit

theorem own_row {w w' : World} {l : List Int} (hs : w.heap.size < w'.heap.size) (h : IntRow w' w.heap.size l) : OwnI w' w.heap.size w'.heap.size (some ⟨w.heap.size, 0, none⟩) l :=
  fun _ => ⟨w.heap.size, l.length, _, rfl, Nat.le_refl _, hs, h, Nat.le_refl _, fun _ _ => rfl⟩

end Go.Proofs.Ytgjbahlebhnoiaa

namespace Go.Proofs.Ytgjbahlebhnoiaa
set_option linter.unusedSimpArgs false
set_option linter.unusedVariables false
open Go.RowKit

/-- what a call leaves that hands back two lists of its own, apart from each other, and a truth -/
def TwoOwn (w : World) (l m : List Int) (b : Bool) (e : Ending) (w' : World) : Prop :=
  ∃ (A : Option Addr) (c : Nat) (B : Option Addr) (d : Nat), e = .returned (.tuple #[.slice A l.length c, .slice B m.length d, .bool b]) ∧ Below w.heap.size w w' ∧ OwnI w' w.heap.size w'.heap.size A l ∧ OwnI w' w.heap.size w'.heap.size B m ∧
    (0 < l.length → 0 < m.length → A.map (·.block) ≠ B.map (·.block))

def SolOwn (w : World) (b : Bool) (u d : Int) (x y : List Int) (e : Ending) (w' : World) : Prop :=
  ∃ (A : Option Addr) (c : Nat) (B : Option Addr) (k : Nat), e = .returned (.tuple #[.agg #[.int .i64 u, .int .i64 d, .slice A x.length c, .slice B y.length k], .bool b]) ∧
    Below w.heap.size w w' ∧ OwnI w' w.heap.size w'.heap.size A x ∧ OwnI w' w.heap.size w'.heap.size B y ∧ (0 < x.length → 0 < y.length → A.map (·.block) ≠ B.map (·.block))

/-- what the program's functions on solutions are asked -/
structure Impl4 : Prop where
  kernel : ∀ (T : Option Addr) (c : Nat) (g : List (List Int)) (rows cols : Int) (_ : g.length ≤ maxLen) (w : World) (_ : Rows2 w (· < w.heap.size) T g),
    Calls Try.prog 12 #[.slice T g.length c, .int .i64 rows, .int .i64 cols] w (TwoOwn w (kerX g rows cols) (kerY g rows cols) (kerB g rows cols))
  solve : ∀ (T : Option Addr) (c : Nat) (g : List (List Int)) (_ : g.length ≤ maxLen) (w : World) (_ : Rows2 w (· < w.heap.size) T g),
    Calls Try.prog 19 #[.slice T g.length c] w (SolOwn w (solB g) (solU g) (solD g) (solX g) (solY g))
  worth : ∀ (T : Option Addr) (c : Nat) (g : List (List Int)) (_ : g.length ≤ maxLen) (w : World) (_ : Rows2 w (· < w.heap.size) T g),
    Calls Try.prog 30 #[.slice T g.length c] w (Adds (FracRes (solU g) (solD g) (solB g)) w)
  shift : ∀ (T : Option Addr) (c : Nat) (g : List (List Int)) (b : Int) (_ : g.length ≤ maxLen) (w : World) (_ : Rows2 w (· < w.heap.size) T g),
    Calls Try.prog 36 #[.slice T g.length c, .int .i64 b] w (TabRes w (shi g b) (shiB g b))

theorem shi_len (g : List (List Int)) (b : Int) : (shi g b).length ≤ 16 ∧ ∀ i, i < (shi g b).length → (rowAt (shi g b) i).length ≤ 16 := by
  unfold shi
  split
  · rename_i h
    simp only [shiB, Bool.and_eq_true] at h
    have hg := Game.of h.2
    exact ⟨hg.hi, fun i hi => by rw [hg.len i hi]; exact hg.mhi⟩
  · simp

set_option maxHeartbeats 2000000 in
set_option maxRecDepth 100000 in
theorem wFnExactWorthOf (I : Impl4) (A0 : Option Addr) (c0 : Nat) (x0 : List (List Int)) (l0 : x0.length ≤ maxLen) (w : World) (r0 : Rows2 w (· < w.heap.size) A0 x0) :
    Calls Try.prog 9 #[.slice A0 x0.length c0] w (Adds (.bool true) w) := by
  have R0 := Lib.hid r0
  clear r0
  go_enter Try.func9, Try.ntmps9
  go_wp2_with fail
  refine (szIntSS A0 c0 x0 _ 1048576 l0 (by omega) (by omega) _ R0.out).mono ?_
  rintro e wz ⟨q0, rfl, rfl, hq0⟩
  by_cases hz0 : q0 < 0
  · clear hq0
    go_wp2_with fail
    go_ret
    exact Adds.of rfl (Below.refl _ _)
  have hsum0 : (x0.length : Int) + (sumN x0 x0.length : Nat) ≤ 1048576 := by omega
  have hm0 : ∀ i, i < x0.length → (rowAt x0 i).length ≤ 4294967296 := fun i hi => by have := row_le_sumN x0 hi; omega
  have HM0 := Lib.hid hm0
  have t0 : x0.length ≤ 4294967296 := by omega
  have st0 : sumN x0 x0.length ≤ 1048576 := by omega
  clear hq0 hsum0 hm0
  go_wp2_with fail
  refine (toIntSS A0 c0 x0 t0 HM0.out _ R0.out).mono ?_
  rintro e w1 ⟨rfl, hL1⟩
  have S0 := Lib.hid (NewRows.reads hL1 HM0.out)
  have hb1 := NewRows.bel hL1
  replace R0 := Lib.hid (stillRows R0.out hb1)
  have BEL0 := Lib.hid hb1
  clear hb1 hL1
  go_wp2_with fail
  refine (worth_spec _ _ x0 l0 _ S0.out).mono ?_
  rintro e w2 ⟨rfl, hb2⟩
  replace R0 := Lib.hid (stillRows R0.out hb2)
  replace S0 := Lib.hid (stillRows S0.out hb2)
  replace BEL0 := Lib.hid (belT BEL0.out hb2)
  clear hb2
  clear S0
  try unfold FracRes
  go_wp2_with fail
  obtain ⟨WFA, hWFA⟩ : ∃ WFA : World, WFA = w2.alloc (.cells #[.int .i64 (solU x0), .int .i64 (solD x0)] 32) := ⟨_, rfl⟩
  have hbWFA : Below w2.heap.size w2 WFA := by rw [hWFA]; exact (Below.refl _ _).alloc (Nat.le_refl _) _
  have FA : Hid (Box2 WFA w2.heap.size (solU x0) (solD x0)) := by show Box2 _ _ _ _; rw [hWFA]; exact Box2.new _ _ _
  rw [← hWFA]
  clear hWFA
  replace R0 := Lib.hid (stillRows R0.out hbWFA)
  replace BEL0 := Lib.hid (belT BEL0.out hbWFA)
  clear hbWFA
  go_wp2_with fail
  refine (toIntSS A0 c0 x0 t0 HM0.out _ R0.out).mono ?_
  rintro e w3 ⟨rfl, hL3⟩
  have X0 := Lib.hid (NewRows.reads hL3 HM0.out)
  have hb3 := NewRows.bel hL3
  replace R0 := Lib.hid (stillRows R0.out hb3)
  replace FA := Lib.hid (FA.out.still hb3)
  replace BEL0 := Lib.hid (belT BEL0.out hb3)
  clear hb3 hL3
  go_wp2_with fail
  refine (I.worth _ _ x0 l0 _ X0.out).mono ?_
  rintro e w4 ⟨rfl, hb4⟩
  replace R0 := Lib.hid (stillRows R0.out hb4)
  replace FA := Lib.hid (FA.out.still hb4)
  replace X0 := Lib.hid (stillRows X0.out hb4)
  replace BEL0 := Lib.hid (belT BEL0.out hb4)
  clear hb4
  try unfold FracRes
  have zB : (solB x0 != solB x0) = false := by simp
  have cFA0 := FA.out.c0
  have cFA1 := FA.out.c1
  have ltFA := FA.out.lt
  go_wp2_with fail
  refine (eqFrac_same _ _ _).mono ?_
  rintro e w5 ⟨rfl, hb5'⟩
  have hb5 := bel1 hb5'
  clear hb5'
  clear cFA0 cFA1
  clear ltFA
  clear FA
  replace R0 := Lib.hid (stillRows R0.out hb5)
  replace X0 := Lib.hid (stillRows X0.out hb5)
  replace BEL0 := Lib.hid (belT BEL0.out hb5)
  clear hb5
  go_wp2_with fail
  refine (toIntSS A0 c0 x0 t0 HM0.out _ R0.out).mono ?_
  rintro e w6 ⟨rfl, hL6⟩
  have E0 := Lib.hid (NewRows.reads hL6 HM0.out)
  have hb6 := NewRows.bel hL6
  replace R0 := Lib.hid (stillRows R0.out hb6)
  replace X0 := Lib.hid (stillRows X0.out hb6)
  replace BEL0 := Lib.hid (belT BEL0.out hb6)
  clear hb6 hL6
  go_wp2_with fail
  refine (eqIntSS _ _ _ _ x0 _ _ l0 _ X0.out E0.out).mono ?_
  rintro e w7 ⟨rfl, hq7⟩
  have hb7 : Below w6.heap.size w6 w7 := by obtain ⟨n, rfl⟩ := hq7; exact below_drewN (Below.refl _ _) n
  replace R0 := Lib.hid (stillRows R0.out hb7)
  replace X0 := Lib.hid (stillRows X0.out hb7)
  replace E0 := Lib.hid (stillRows E0.out hb7)
  replace BEL0 := Lib.hid (belT BEL0.out hb7)
  clear hq7 hb7
  clear E0
  clear X0
  go_wp2_with fail
  go_ret
  exact Adds.of rfl BEL0.out

end Go.Proofs.Ytgjbahlebhnoiaa
