/- Texts in one: Sol, SolS, Shift, Ex, Kimp, Val, Kval. -/
import Derived.Test.YtlmaeadbomnhlabDoorME
import Derived.Test.YtlmaeadbomnhlabDoorMA
import Derived.Test.YtlmaeadbomnhlabDoorMD
import Derived.Test.YtlmaeadbomnhlabDoorMC
import Derived.Test.YtlmaeadbomnhlabDoorMB
namespace Go.Proofs.YtlmaeadbomnhlabDoor
set_option linter.unusedSimpArgs false
set_option linter.unusedVariables false
open Go.RowKit

/-- is a part of so many rows the one that is looked for -/
def hit (g : List (List Int)) (s r q : Nat) : Bool := (popN r == s) && kerB g (r : Int) (q : Int) && setB g (kerX g (r : Int) (q : Int)) (kerY g (r : Int) (q : Int))

def hitN (g : List (List Int)) (n : Nat) : Bool := hit g (n / 256) (n / 16 % 16) (n % 16)

theorem kerB_parts {g : List (List Int)} {r q : Nat} (h : kerB g (r : Int) (q : Int) = true) : gameB g = true ∧ g.length ≤ 4 ∧ (rowAt g 0).length ≤ 4 ∧ inR (r : Int) 1 (pw g.length) = true ∧ inR (q : Int) 1 (pw (rowAt g 0).length) = true ∧ popN r = popN q ∧ kOk g r q = true := by
  simp only [kerB, Bool.and_eq_true, decide_eq_true_eq, Int.toNat_natCast, beq_iff_eq] at h
  obtain ⟨⟨⟨⟨⟨⟨h1, h2⟩, h3⟩, h4⟩, h5⟩, h6⟩, h7⟩ := h
  exact ⟨h1, h2, h3, h4, h5, h6, h7⟩

theorem popN_bd {r m : Nat} (h : r < 2 ^ m) : popN r ≤ m := by rw [← cnt_pop m r h]; exact cnt_le _ _

theorem popN_pos {r : Nat} (h : 0 < r) : 0 < popN r := by
  induction r using Nat.strongRecOn with
  | _ r ih =>
    rw [popN_step h]
    by_cases h2 : r % 2 = 1
    · omega
    · have := ih (r / 2) (by omega) (by omega); omega

theorem hit_parts {g : List (List Int)} {s r q : Nat} (h : hit g s r q = true) : popN r = s ∧ 1 ≤ s ∧ s ≤ 4 ∧ 1 ≤ r ∧ r < 2 ^ g.length ∧ 1 ≤ q ∧ q < 2 ^ (rowAt g 0).length ∧ kerB g (r : Int) (q : Int) = true ∧ setB g (kerX g (r : Int) (q : Int)) (kerY g (r : Int) (q : Int)) = true := by
  simp only [hit, Bool.and_eq_true, beq_iff_eq] at h
  obtain ⟨⟨h1, h2⟩, h3⟩ := h
  obtain ⟨k1, k2, k3, k4, k5, _, _⟩ := kerB_parts h2
  have a := pw_lt k4
  have b := pw_lt k5
  have c := popN_bd a.2
  have d := popN_pos a.1
  exact ⟨h1, by omega, by omega, a.1, a.2, b.1, b.2, h2, h3⟩

/-- a part at its number -/
theorem hitN_at {g : List (List Int)} {s r q : Nat} (hr : r < 16) (hq : q < 16) : hitN g (256 * s + 16 * r + q) = hit g s r q := by
  unfold hitN
  have e1 : (256 * s + 16 * r + q) / 256 = s := by omega
  have e2 : (256 * s + 16 * r + q) / 16 % 16 = r := by omega
  have e3 : (256 * s + 16 * r + q) % 16 = q := by omega
  rw [e1, e2, e3]

/-- none of the first n parts -/
def noHit (g : List (List Int)) (n : Nat) : Prop := ∀ k, k < n → hitN g k = false

theorem noHit.zero (g : List (List Int)) : noHit g (256 * 1) := fun k hk => by
  rw [← Bool.not_eq_true]; intro h
  have := hit_parts (show hit g (k / 256) _ _ = true from h); omega

/-- the rest of a row of parts -/
theorem noHit.cols {g : List (List Int)} {s r q : Nat} (hr : r < 16) (hm : (rowAt g 0).length ≤ 4) (h : noHit g (256 * s + 16 * r + q)) (hq : 2 ^ (rowAt g 0).length ≤ q ∨ popN r ≠ s) : noHit g (256 * s + 16 * (r + 1)) := fun k hk => by
  by_cases hk2 : k < 256 * s + 16 * r + q
  · exact h k hk2
  · rw [← Bool.not_eq_true]; intro hh
    have := hit_parts (show hit g (k / 256) (k / 16 % 16) (k % 16) = true from hh)
    have e1 : k / 256 = s := by omega
    have e2 : k / 16 % 16 = r := by omega
    rw [e1, e2] at this
    rcases hq with hq | hq
    · have : k % 16 ≥ q := by omega
      omega
    · exact hq this.1

theorem noHit.rows {g : List (List Int)} {s r : Nat} (hm : g.length ≤ 4) (h : noHit g (256 * s + 16 * r)) (hr : 2 ^ g.length ≤ r) (hr16 : r ≤ 16) : noHit g (256 * (s + 1)) := fun k hk => by
  by_cases hk2 : k < 256 * s + 16 * r
  · exact h k hk2
  · rw [← Bool.not_eq_true]; intro hh
    have := hit_parts (show hit g (k / 256) (k / 16 % 16) (k % 16) = true from hh)
    have e1 : k / 256 = s := by omega
    omega

theorem noHit.all {g : List (List Int)} (h : noHit g (256 * 5)) (n : Nat) : hitN g n = false := by
  by_cases hn : n < 256 * 5
  · exact h n hn
  · rw [← Bool.not_eq_true]; intro hh
    have := hit_parts (show hit g (n / 256) (n / 16 % 16) (n % 16) = true from hh)
    omega

/-- what a solution is -/
def SolIs (g : List (List Int)) (b : Bool) (u d : Int) (x y : List Int) : Prop :=
  (b = true ∧ ∃ s r q, r < 16 ∧ q < 16 ∧ hit g s r q = true ∧ noHit g (256 * s + 16 * r + q) ∧ x = kerX g (r : Int) (q : Int) ∧ y = kerY g (r : Int) (q : Int) ∧ u = safU g x ∧ d = safD g x) ∨
  (b = false ∧ (∀ n, hitN g n = false) ∧ u = 0 ∧ d = 0 ∧ x = [] ∧ y = [])

theorem SolIs.one {g : List (List Int)} {b b' : Bool} {u u' d d' : Int} {x x' y y' : List Int} (h : SolIs g b u d x y) (h' : SolIs g b' u' d' x' y') : b = b' ∧ u = u' ∧ d = d' ∧ x = x' ∧ y = y' := by
  rcases h with ⟨rfl, s, r, q, hr, hq, h1, h2, rfl, rfl, rfl, rfl⟩ | ⟨rfl, h1, rfl, rfl, rfl, rfl⟩ <;>
    rcases h' with ⟨rfl, s', r', q', hr', hq', h1', h2', rfl, rfl, rfl, rfl⟩ | ⟨rfl, h1', rfl, rfl, rfl, rfl⟩
  · have e1 := hitN_at (g := g) (s := s) hr hq
    have e2 := hitN_at (g := g) (s := s') hr' hq'
    have n1 : ¬ 256 * s + 16 * r + q < 256 * s' + 16 * r' + q' := fun hlt => by have := h2' _ hlt; rw [e1, h1] at this; cases this
    have n2 : ¬ 256 * s' + 16 * r' + q' < 256 * s + 16 * r + q := fun hlt => by have := h2 _ hlt; rw [e2, h1'] at this; cases this
    have er : r = r' := by omega
    have eq : q = q' := by omega
    subst er eq
    exact ⟨rfl, rfl, rfl, rfl, rfl⟩
  · have := h1' (256 * s + 16 * r + q); rw [hitN_at hr hq, h1] at this; cases this
  · have := h1 (256 * s' + 16 * r' + q'); rw [hitN_at hr' hq', h1'] at this; cases this
  · exact ⟨rfl, rfl, rfl, rfl, rfl⟩

end Go.Proofs.YtlmaeadbomnhlabDoor

namespace Go.Proofs.YtlmaeadbomnhlabDoor
set_option linter.unusedSimpArgs false
set_option linter.unusedVariables false
open Go.RowKit



end Go.Proofs.YtlmaeadbomnhlabDoor

namespace Go.Proofs.YtlmaeadbomnhlabDoor
set_option linter.unusedSimpArgs false
set_option linter.unusedVariables false
open Go.RowKit

/-- a game with a number added at each place -/
def shiL (g : List (List Int)) (by_ : Int) : List (List Int) := selTab (fun _ => true) (fun i => selRow (fun _ => true) (fun j => nth (rowAt g i) j + by_) (rowAt g 0).length) g.length

def shiB (g : List (List Int)) (by_ : Int) : Bool := gameB g && inR by_ (-9) 9 && gameB (shiL g by_)

def shi (g : List (List Int)) (by_ : Int) : List (List Int) := if shiB g by_ = true then shiL g by_ else []

/-- what a call leaves that hands back a table of its own and a truth -/
def TabRes (w : World) (g : List (List Int)) (b : Bool) (e : Ending) (w' : World) : Prop :=
  ∃ (T : Option Addr) (c : Nat), e = .returned (.tuple #[.slice T g.length c, .bool b]) ∧ Below w.heap.size w w' ∧ OwnR w' w.heap.size w'.heap.size T g

theorem TabRes.none {w w' : World} {x : Value} {A : Option Addr} (hx : x = .tuple #[.slice A 0 0, .bool false]) (hb : Below w.heap.size w w') : TabRes w [] false (.returned x) w' :=
  ⟨A, 0, by rw [hx]; rfl, hb, fun h => absurd h (by simp)⟩

end Go.Proofs.YtlmaeadbomnhlabDoor

namespace Go.Proofs.YtlmaeadbomnhlabDoor
set_option linter.unusedSimpArgs false
set_option linter.unusedVariables false
open Go.RowKit

theorem sel_congr {P Q : Nat → Bool} {k : Nat} (h : ∀ i, i < k → P i = Q i) : sel P k = sel Q k := by
  unfold sel
  exact List.filter_congr (fun i hi => h i (by simpa using hi))

theorem cnt_congr {P Q : Nat → Bool} {k : Nat} (h : ∀ i, i < k → P i = Q i) : cnt P k = cnt Q k := by rw [← sel_length, ← sel_length, sel_congr h]

theorem sum_sel (P : Nat → Bool) (F : Nat → Int) (n : Nat) : sumI n (fun j => if P j = true then F (cnt P j) else 0) = sumI (cnt P n) F := by
  induction n with
  | zero => rfl
  | succ n ih =>
    have e : sumI (n + 1) (fun j => if P j = true then F (cnt P j) else 0) = sumI n (fun j => if P j = true then F (cnt P j) else 0) + (if P n = true then F (cnt P n) else 0) := rfl
    rw [e, ih]
    by_cases h : P n = true
    · rw [if_pos h, cnt_yes h]; rfl
    · rw [if_neg h, cnt_no (by simpa using h)]; simp

theorem sumI_mul (k : Nat) (c : Int) (f : Nat → Int) : sumI k (fun a => c * f a) = c * sumI k f := by
  induction k with
  | zero => simp [sumI]
  | succ k ih => simp only [sumI, ih]; rw [Int.mul_add]

/-- the part of a game as the theorem has it -/
def AG (g : List (List Int)) (i j : Nat) : Int := nth (rowAt g i) j

theorem Part.partM {g : List (List Int)} {r q k : Nat} (h : Part g r q k) {a b : Nat} (ha : a < k) (hb : b < k) : nth (rowAt (pt g r q) a) b = partM (AG g) (sel (bP r) g.length) (sel (bP q) (rowAt g 0).length) a b := by
  unfold pt Go.Proofs.YtlmaeadbomnhlabDoor.partM AG
  rw [selTab_map, rowAt_map _ _ _ (by rw [sel_length, h.rows]; exact ha), selRow_map, nth_mapN _ _ _ (by rw [sel_length, h.cols]; exact hb)]

theorem Part.cfn_cof {g : List (List Int)} {r q k i j : Nat} (h : Part g r q k) (hi : i < g.length) (hj : j < (rowAt g 0).length) (h1 : bP r i = true) (h2 : bP q j = true) :
    cfn g r q i j = cofI k (Go.Proofs.YtlmaeadbomnhlabDoor.partM (AG g) (sel (bP r) g.length) (sel (bP q) (rowAt g 0).length)) (cnt (bP r) i) (cnt (bP q) j) := by
  obtain ⟨a, b⟩ := h.at_ hi hj h1 h2
  have hs := h.square
  obtain ⟨k', rfl⟩ : ∃ k', k = k' + 1 := ⟨k - 1, by omega⟩
  unfold cfn cofI
  rw [h1, h2, detL_wo hs a b]
  simp only [Bool.and_self, if_true, Nat.add_sub_cancel]
  congr 1
  exact detI_congr (fun x y hx hy => by unfold woI; exact h.partM (by split <;> omega) (by split <;> omega))

theorem Part.kX_xc {g : List (List Int)} {r q k i : Nat} (h : Part g r q k) (hi : i < g.length) :
    kX g r q i = if bP r i = true then xcI k (Go.Proofs.YtlmaeadbomnhlabDoor.partM (AG g) (sel (bP r) g.length) (sel (bP q) (rowAt g 0).length)) (cnt (bP r) i) else 0 := by
  by_cases h1 : bP r i = true
  · rw [if_pos h1]
    unfold kX xcI
    have e : sumI (rowAt g 0).length (cfn g r q i) = sumI (rowAt g 0).length (fun j => if bP q j = true then cofI k (Go.Proofs.YtlmaeadbomnhlabDoor.partM (AG g) (sel (bP r) g.length) (sel (bP q) (rowAt g 0).length)) (cnt (bP r) i) (cnt (bP q) j) else 0) :=
      sumI_congr (fun j hj => by
        by_cases h2 : bP q j = true
        · rw [if_pos h2, h.cfn_cof hi hj h1 h2]
        · rw [if_neg h2, cfn_col_no (by simpa using h2)])
    rw [e, sum_sel (bP q) (fun b => cofI k _ (cnt (bP r) i) b), h.cols]
  · rw [if_neg h1, kX_no (by simpa using h1)]

theorem Part.kY_yc {g : List (List Int)} {r q k j : Nat} (h : Part g r q k) (hj : j < (rowAt g 0).length) :
    kY g r q j = if bP q j = true then ycI k (Go.Proofs.YtlmaeadbomnhlabDoor.partM (AG g) (sel (bP r) g.length) (sel (bP q) (rowAt g 0).length)) (cnt (bP q) j) else 0 := by
  by_cases h2 : bP q j = true
  · rw [if_pos h2]
    unfold kY ycI
    have e : sumI g.length (fun i => cfn g r q i j) = sumI g.length (fun i => if bP r i = true then cofI k (Go.Proofs.YtlmaeadbomnhlabDoor.partM (AG g) (sel (bP r) g.length) (sel (bP q) (rowAt g 0).length)) (cnt (bP r) i) (cnt (bP q) j) else 0) :=
      sumI_congr (fun i hi => by
        by_cases h1 : bP r i = true
        · rw [if_pos h1, h.cfn_cof hi hj h1 h2]
        · rw [if_neg h1, cfn_row_no (by simpa using h1)])
    rw [e, sum_sel (bP r) (fun a => cofI k _ a (cnt (bP q) j)), h.rows]
  · rw [if_neg h2]
    unfold kY
    have e : sumI g.length (fun i => cfn g r q i j) = sumI g.length (fun _ => 0 * 0) := sumI_congr (fun i _ => by rw [cfn_col_no (by simpa using h2)]; rfl)
    rw [e, sumI_mul]; simp

/-- weights in lowest terms, times their divisor -/
theorem gcdN_dvd (x : List Int) : ∀ (k i : Nat), i < k → gcdN x k ∣ nth x i
  | 0, i, h => by omega
  | k + 1, i, h => by
    simp only [gcdN]
    by_cases e : i = k
    · subst e; unfold gcdI; exact Int.gcd_dvd_right ..
    · have h1 := gcdN_dvd x k i (by omega)
      have h2 : gcdI (gcdN x k) (nth x k) ∣ gcdN x k := by unfold gcdI; exact Int.gcd_dvd_left ..
      exact Int.dvd_trans h2 h1

def lowG (x : List Int) : Int := max (gcdN x x.length) 1

theorem low_scale {x : List Int} {i : Nat} (h : i < x.length) : lowG x * nth (lowL x) i = nth x i := by
  rw [nth_lowL x h]
  have hd := gcdN_dvd x x.length i h
  have hn : 0 ≤ gcdN x x.length := by cases x.length <;> simp [gcdN, gcdI] <;> omega
  unfold lowG
  by_cases h1 : 1 ≤ gcdN x x.length
  · have e : max (gcdN x x.length) 1 = gcdN x x.length := by omega
    rw [e]; exact Int.mul_tdiv_cancel' hd
  · have e : max (gcdN x x.length) 1 = 1 := by omega
    rw [e]; simp

theorem low_dot (x l : List Int) (k : Nat) (h : k ≤ x.length) : lowG x * dotW (lowL x) l k = dotW x l k := by
  induction k with
  | zero => simp [dotW]
  | succ k ih =>
    simp only [dotW]; rw [Int.mul_add, ih (by omega), ← Int.mul_assoc, low_scale (by omega)]

theorem dotW_I (x l : List Int) (k : Nat) : dotW x l k = sumI k (fun i => nth x i * nth l i) := by
  induction k with
  | zero => rfl
  | succ k ih => simp only [dotW, sumI, ih]

/-- the weights of a settled part, row by row and column by column -/
theorem Part.kXL_at {g : List (List Int)} {r q k i : Nat} (h : Part g r q k) (hi : i < g.length) :
    nth (kXL g r q) i = if bP r i = true then kE g r q * xcI k (Go.Proofs.YtlmaeadbomnhlabDoor.partM (AG g) (sel (bP r) g.length) (sel (bP q) (rowAt g 0).length)) (cnt (bP r) i) else 0 := by
  rw [nth_kXL g r q i hi, h.kX_xc hi]
  split <;> simp

theorem Part.kYL_at {g : List (List Int)} {r q k j : Nat} (h : Part g r q k) (hj : j < (rowAt g 0).length) :
    nth (kYL g r q) j = if bP q j = true then kE g r q * ycI k (Go.Proofs.YtlmaeadbomnhlabDoor.partM (AG g) (sel (bP r) g.length) (sel (bP q) (rowAt g 0).length)) (cnt (bP q) j) else 0 := by
  rw [nth_kYL g r q j hj, h.kY_yc hj]
  split <;> simp

theorem Part.dotX {g : List (List Int)} {r q k j : Nat} (h : Part g r q k) (_ : j < (rowAt g 0).length) :
    dotW (kXL g r q) (col g j) g.length = sumI k (fun a => AG g ((sel (bP r) g.length).getD a 0) j * (kE g r q * xcI k (Go.Proofs.YtlmaeadbomnhlabDoor.partM (AG g) (sel (bP r) g.length) (sel (bP q) (rowAt g 0).length)) a)) := by
  have e : sumI g.length (fun i => nth (kXL g r q) i * nth (col g j) i) = sumI g.length (fun i => if bP r i = true then (fun a => AG g ((sel (bP r) g.length).getD a 0) j * (kE g r q * xcI k (Go.Proofs.YtlmaeadbomnhlabDoor.partM (AG g) (sel (bP r) g.length) (sel (bP q) (rowAt g 0).length)) a)) (cnt (bP r) i) else 0) :=
    sumI_congr (fun i hi => by
      rw [h.kXL_at hi, nth_col g j i hi]
      by_cases h1 : bP r i = true
      · rw [if_pos h1, if_pos h1]
        show _ = AG g ((sel (bP r) g.length).getD (cnt (bP r) i) 0) j * _
        rw [sel_cnt hi h1, Int.mul_comm]; rfl
      · rw [if_neg h1, if_neg h1]; simp)
  rw [dotW_I, e, sum_sel (bP r) (fun a => AG g ((sel (bP r) g.length).getD a 0) j * (kE g r q * xcI k (Go.Proofs.YtlmaeadbomnhlabDoor.partM (AG g) (sel (bP r) g.length) (sel (bP q) (rowAt g 0).length)) a)), h.rows]

theorem Part.dotY {g : List (List Int)} {r q k i : Nat} (h : Part g r q k) (_ : i < g.length) :
    dotW (kYL g r q) (rowAt g i) (rowAt g 0).length = sumI k (fun b => AG g i ((sel (bP q) (rowAt g 0).length).getD b 0) * (kE g r q * ycI k (Go.Proofs.YtlmaeadbomnhlabDoor.partM (AG g) (sel (bP r) g.length) (sel (bP q) (rowAt g 0).length)) b)) := by
  have e : sumI (rowAt g 0).length (fun j => nth (kYL g r q) j * nth (rowAt g i) j) = sumI (rowAt g 0).length (fun j => if bP q j = true then (fun b => AG g i ((sel (bP q) (rowAt g 0).length).getD b 0) * (kE g r q * ycI k (Go.Proofs.YtlmaeadbomnhlabDoor.partM (AG g) (sel (bP r) g.length) (sel (bP q) (rowAt g 0).length)) b)) (cnt (bP q) j) else 0) :=
    sumI_congr (fun j hj => by
      rw [h.kYL_at hj]
      by_cases h1 : bP q j = true
      · rw [if_pos h1, if_pos h1]
        show _ = AG g i ((sel (bP q) (rowAt g 0).length).getD (cnt (bP q) j) 0) * _
        rw [sel_cnt hj h1, Int.mul_comm]; rfl
      · rw [if_neg h1, if_neg h1]; simp)
  rw [dotW_I, e, sum_sel (bP q) (fun b => AG g i ((sel (bP q) (rowAt g 0).length).getD b 0) * (kE g r q * ycI k (Go.Proofs.YtlmaeadbomnhlabDoor.partM (AG g) (sel (bP r) g.length) (sel (bP q) (rowAt g 0).length)) b)), h.cols]

end Go.Proofs.YtlmaeadbomnhlabDoor

namespace Go.Proofs.YtlmaeadbomnhlabDoor
set_option linter.unusedSimpArgs false
set_option linter.unusedVariables false
open Go.RowKit

def wS (l : List Int) : Int := sumI l.length (nth l)

def wE (l : List Int) : Int := if wS l < 0 then -1 else 1

def wL (l : List Int) : List Int := (List.range l.length).map fun i => wE l * nth l i

def wOk (l : List Int) : Bool := !(wS l == 0) && posB (wL l) l.length

def wV (l : List Int) : List Int := if wOk l = true then lowL (wL l) else []

/-- the weights of all places: those of a set, and 0 around them -/
def spr (P : Nat → Bool) (x : List Int) (n : Nat) : List Int := (List.range n).map fun i => if P i = true then nth x (cnt P i) else 0

theorem spr_length (P : Nat → Bool) (x : List Int) (n : Nat) : (spr P x n).length = n := by simp [spr]

theorem nth_spr (P : Nat → Bool) (x : List Int) {n i : Nat} (h : i < n) : nth (spr P x n) i = if P i = true then nth x (cnt P i) else 0 := by
  unfold spr; rw [nth_mapN _ _ _ (by simpa using h)]; simp [List.getD, h]

theorem cnt_lt {P : Nat → Bool} {i n : Nat} (hi : i < n) (h : P i = true) : cnt P i < cnt P n := by
  have := cnt_mono P (i := i + 1) (k := n) (by omega); rw [cnt_yes h] at this; omega

end Go.Proofs.YtlmaeadbomnhlabDoor

namespace Go.Proofs.YtlmaeadbomnhlabDoor
set_option linter.unusedSimpArgs false
set_option linter.unusedVariables false
open Go.RowKit



end Go.Proofs.YtlmaeadbomnhlabDoor

namespace Go.Proofs.YtlmaeadbomnhlabDoor
set_option linter.unusedSimpArgs false
set_option linter.unusedVariables false
open Go.RowKit

theorem sumI_delta (k c : Nat) (v : Int) : sumI k (fun a => if c = a then v else 0) = if c < k then v else 0 := by
  induction k with
  | zero => simp [sumI]
  | succ k ih =>
    have e : sumI (k + 1) (fun a => if c = a then v else 0) = sumI k (fun a => if c = a then v else 0) + if c = k then v else 0 := rfl
    rw [e, ih]
    by_cases h : c = k
    · subst h; simp
    · rw [if_neg h]
      by_cases h2 : c < k
      · rw [if_pos h2, if_pos (by omega)]; omega
      · rw [if_neg h2, if_neg (by omega)]; omega

theorem rowY (k : Nat) (M : Nat → Nat → Int) (i : Nat) (hk : k ≤ 4) (hi : i < k) : sumI k (fun b => M i b * ycI k M b) = detI k M := by
  have e : sumI k (fun b => M i b * ycI k M b) = sumI k (fun b => sumI k (fun a => M i b * cofI k M a b)) := sumI_congr (fun b hb => by unfold ycI; rw [sumI_mul])
  rw [e, sumI_swap]
  have e2 : sumI k (fun a => sumI k (fun b => M i b * cofI k M a b)) = sumI k (fun a => if i = a then detI k M else 0) := sumI_congr (fun a ha => rowI k M i a hk hi ha)
  rw [e2, sumI_delta, if_pos hi]

theorem colX (k : Nat) (M : Nat → Nat → Int) (j : Nat) (hk : k ≤ 4) (hj : j < k) : sumI k (fun a => M a j * xcI k M a) = detI k M := by
  have e : sumI k (fun a => M a j * xcI k M a) = sumI k (fun a => sumI k (fun b => M a j * cofI k M a b)) := sumI_congr (fun a ha => by unfold xcI; rw [sumI_mul])
  rw [e, sumI_swap]
  have e2 : sumI k (fun b => sumI k (fun a => M a j * cofI k M a b)) = sumI k (fun b => if j = b then detI k M else 0) := sumI_congr (fun b hb => colI k M j b hk hj hb)
  rw [e2, sumI_delta, if_pos hj]

/-- what a kernel is -/
structure Kern (g : List (List Int)) (r q k : Nat) : Prop where
  game : gameB g = true
  part : Part g r q k
  x0 : ∀ i, i < g.length → 0 ≤ nth (kXL g r q) i
  y0 : ∀ j, j < (rowAt g 0).length → 0 ≤ nth (kYL g r q) j
  pos : 0 < kE g r q * kA g r q
  ex : kerX g (r : Int) (q : Int) = lowL (kXL g r q)
  ey : kerY g (r : Int) (q : Int) = lowL (kYL g r q)

theorem Kern.of {g : List (List Int)} {r q : Nat} (h : kerB g (r : Int) (q : Int) = true) : Kern g r q (popN r) := by
  obtain ⟨h1, h2, h3, h4, h5, h6, h7⟩ := kerB_parts h
  have hr := pw_lt h4
  have hq := pw_lt h5
  simp only [kOk, Bool.and_eq_true, posB_iff, Bool.not_eq_true', beq_eq_false_iff_ne] at h7
  obtain ⟨⟨k1, k2⟩, k3⟩ := h7
  refine ⟨h1, ⟨Game.of h1, h2, h3, cnt_pop _ _ hr.2, by rw [h6]; exact cnt_pop _ _ hq.2⟩, k2, k3, ?_, ?_, ?_⟩
  · unfold kE; split <;> omega
  · unfold kerX; rw [if_pos h]; simp
  · unfold kerY; rw [if_pos h]; simp

/-- what each row of the part gets, times the divisor -/
theorem Kern.row {g : List (List Int)} {r q k : Nat} (h : Kern g r q k) {i : Nat} (hi : i < g.length) (hb : bP r i = true) :
    lowG (kYL g r q) * rowD g (kerY g (r : Int) (q : Int)) i = kE g r q * detI k (Go.Proofs.YtlmaeadbomnhlabDoor.partM (AG g) (sel (bP r) g.length) (sel (bP q) (rowAt g 0).length)) := by
  have a := cnt_mono (bP r) (i := i + 1) (k := g.length) (by omega)
  rw [cnt_yes hb, h.part.rows] at a
  rw [h.ey]
  unfold rowD
  rw [lowL_length, kYL_length, low_dot _ _ _ (by rw [kYL_length]; omega), h.part.dotY hi, ← rowY k _ (cnt (bP r) i) h.part.k4 (by omega), ← sumI_mul]
  refine sumI_congr (fun b hb' => ?_)
  show AG g i _ * _ = kE g r q * (AG g ((sel (bP r) g.length).getD (cnt (bP r) i) 0) _ * _)
  rw [sel_cnt hi hb]
  ac_rfl

theorem Kern.col {g : List (List Int)} {r q k : Nat} (h : Kern g r q k) {j : Nat} (hj : j < (rowAt g 0).length) (hb : bP q j = true) :
    lowG (kXL g r q) * colD g (kerX g (r : Int) (q : Int)) j = kE g r q * detI k (Go.Proofs.YtlmaeadbomnhlabDoor.partM (AG g) (sel (bP r) g.length) (sel (bP q) (rowAt g 0).length)) := by
  have a := cnt_mono (bP q) (i := j + 1) (k := (rowAt g 0).length) (by omega)
  rw [cnt_yes hb, h.part.cols] at a
  rw [h.ex]
  unfold colD
  rw [low_dot _ _ _ (by rw [kXL_length]; omega), h.part.dotX hj, ← colX k _ (cnt (bP q) j) h.part.k4 (by omega), ← sumI_mul]
  refine sumI_congr (fun b hb' => ?_)
  show AG g _ j * _ = kE g r q * (AG g _ ((sel (bP q) (rowAt g 0).length).getD (cnt (bP q) j) 0) * _)
  rw [sel_cnt hj hb]
  ac_rfl

end Go.Proofs.YtlmaeadbomnhlabDoor
