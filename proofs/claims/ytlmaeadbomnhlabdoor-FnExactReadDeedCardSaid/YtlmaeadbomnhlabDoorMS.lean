/- Texts in one: Boxm, BoxS, BoxT. -/
import Derived.Test.YtlmaeadbomnhlabDoorMF
import Derived.Test.YtlmaeadbomnhlabDoorMD
import Derived.Test.YtlmaeadbomnhlabDoorNI
import Derived.Deep.AppendLies
import Derived.Deep.RegionLaw
namespace Go.Proofs.YtlmaeadbomnhlabDoor
set_option linter.unusedSimpArgs false
set_option linter.unusedVariables false
open Go.RowKit

structure Boxes (w : List Int) : Prop where
  lo : 1 ≤ w.length
  hi : w.length ≤ 6
  vlo : ∀ i, i < w.length → 1 ≤ nth w i
  vhi : ∀ i, i < w.length → nth w i ≤ 9

def ovN (w : List Int) : Nat → Int
  | 0 => 1
  | k + 1 => ovN w k / gcdI (ovN w k) (nth w k) * nth w k

/-- n by the common divisor, times v: it is a multiple of both, and divides each common multiple -/
theorem lcm_step {n v M : Int} (hn : 0 < n) (hv : 0 < v) (hnM : n ∣ M) (hvM : v ∣ M) : 0 < n / gcdI n v * v ∧ n ∣ n / gcdI n v * v ∧ v ∣ n / gcdI n v * v ∧ n / gcdI n v * v ∣ M := by
  have hg : 1 ≤ gcdI n v := gcdI_pos n v (by omega)
  obtain ⟨a, ha⟩ := gcdI_dvd_left n v
  obtain ⟨b, hb⟩ := gcdI_dvd_right n v
  obtain ⟨d, hd⟩ : ∃ d, gcdI n v = d := ⟨_, rfl⟩
  have hcop : Int.gcd a b = 1 := by
    have h1 : Int.gcd n v = Int.gcd (d * a) (d * b) := by rw [← hd, ← ha, ← hb]
    rw [Int.gcd_mul_left] at h1
    have h2 : (Int.gcd n v : Int) = d := hd
    have h3 : d.natAbs = Int.gcd n v := by omega
    rw [h3] at h1
    have h4 : 0 < Int.gcd n v := by omega
    have h5 : Int.gcd n v * Int.gcd a b = Int.gcd n v * 1 := by omega
    exact Nat.eq_of_mul_eq_mul_left h4 h5
  rw [hd] at ha hb hg ⊢
  have e1 : n / d = a := by rw [ha]; exact Int.mul_ediv_cancel_left a (by omega)
  rw [e1]
  have ha0 : 0 < a := by
    rcases Int.lt_or_le 0 a with h | h
    · exact h
    · have : d * a ≤ 0 := Int.mul_nonpos_of_nonneg_of_nonpos (by omega) h
      omega
  refine ⟨Int.mul_pos ha0 hv, ⟨b, by rw [ha, hb]; grind⟩, ⟨a, Int.mul_comm _ _⟩, ?_⟩
  -- a * v divides M: v = d b, n = d a, both divide M, a and b have no common divisor
  obtain ⟨x, hx⟩ := hnM
  obtain ⟨y, hy⟩ := hvM
  have h1 : d * (a * x) = d * (b * y) := by rw [← Int.mul_assoc, ← Int.mul_assoc, ← ha, ← hb, ← hx, ← hy]
  have h2 : a * x = b * y := Int.eq_of_mul_eq_mul_left (by omega) h1
  have h3 : a ∣ b * y := ⟨x, h2.symm⟩
  have h4 : a ∣ y := by
    have k1 : a.natAbs ∣ b.natAbs * y.natAbs := by rw [← Int.natAbs_mul]; exact Int.natAbs_dvd_natAbs.2 h3
    exact Int.natAbs_dvd_natAbs.1 (Nat.Coprime.dvd_of_dvd_mul_left (show Nat.Coprime a.natAbs b.natAbs from hcop) k1)
  obtain ⟨z, hz⟩ := h4
  exact ⟨z, by rw [hy, hz]; grind⟩

theorem dvd_2520 {v : Int} (h1 : 1 ≤ v) (h2 : v ≤ 9) : v ∣ 2520 := by
  have : v = 1 ∨ v = 2 ∨ v = 3 ∨ v = 4 ∨ v = 5 ∨ v = 6 ∨ v = 7 ∨ v = 8 ∨ v = 9 := by omega
  rcases this with rfl | rfl | rfl | rfl | rfl | rfl | rfl | rfl | rfl <;> decide

theorem ov_facts {w : List Int} (k : Nat) (h : ∀ i, i < k → 1 ≤ nth w i ∧ nth w i ≤ 9) : 0 < ovN w k ∧ ovN w k ∣ 2520 ∧ ∀ i, i < k → nth w i ∣ ovN w k := by
  induction k with
  | zero => exact ⟨by show (0 : Int) < 1; decide, ⟨2520, rfl⟩, fun i hi => absurd hi (Nat.not_lt_zero _)⟩
  | succ k ih =>
    obtain ⟨h1, h2, h3⟩ := ih fun i hi => h i (by omega)
    obtain ⟨v1, v2⟩ := h k (by omega)
    obtain ⟨k1, k2, k3, k4⟩ := lcm_step h1 (by omega) h2 (dvd_2520 v1 v2)
    refine ⟨k1, k4, fun i hi => ?_⟩
    by_cases e : i = k
    · subst e; exact k3
    · exact Int.dvd_trans (h3 i (by omega)) k2

theorem ov_le {w : List Int} {k : Nat} (h : ∀ i, i < k → 1 ≤ nth w i ∧ nth w i ≤ 9) : 1 ≤ ovN w k ∧ ovN w k ≤ 2520 := by
  obtain ⟨h1, h2, _⟩ := ov_facts k h
  exact ⟨by omega, Int.le_of_dvd (by decide) h2⟩

/-- the multiple of all -/
def ovW (w : List Int) : Int := ovN w w.length

theorem Boxes.rng {w : List Int} (h : Boxes w) : ∀ i, i < w.length → 1 ≤ nth w i ∧ nth w i ≤ 9 := fun i hi => ⟨h.vlo i hi, h.vhi i hi⟩

theorem Boxes.ov {w : List Int} (h : Boxes w) : 1 ≤ ovW w ∧ ovW w ≤ 2520 := ov_le h.rng

end Go.Proofs.YtlmaeadbomnhlabDoor

namespace Go.Proofs.YtlmaeadbomnhlabDoor
set_option linter.unusedSimpArgs false
set_option linter.unusedVariables false
open Go.RowKit

/-- what a call leaves that hands back a list of its own, and a truth -/
def ListRes (w : World) (l : List Int) (b : Bool) (e : Ending) (w' : World) : Prop :=
  ∃ (A : Option Addr) (c : Nat), e = .returned (.tuple #[.slice A l.length c, .bool b]) ∧ Below w.heap.size w w' ∧ OwnI w' w.heap.size w'.heap.size A l

theorem ListRes.of {w w' : World} {v x : Value} {l : List Int} {b : Bool} (hx : x = .tuple #[v, .bool b]) (h : Grows w' w.heap.size v l) (hb : Below w.heap.size w w') : ListRes w l b (.returned x) w' := by
  obtain ⟨A, c, rfl, _, ho⟩ := h.own
  exact ⟨A, c, by rw [hx], hb, ho⟩

end Go.Proofs.YtlmaeadbomnhlabDoor

namespace Go.Proofs.YtlmaeadbomnhlabDoor
set_option linter.unusedSimpArgs false
set_option linter.unusedVariables false
open Go.RowKit



end Go.Proofs.YtlmaeadbomnhlabDoor
