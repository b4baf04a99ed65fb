/- Texts in one: FairS, SoldS, SoldT, PlaS. -/
import Derived.Test.YtlkjpmdnhccdpabOA
import Derived.Test.YtlkjpmdnhccdpabMC
import Derived.Test.YtlkjpmdnhccdpabAppL
namespace Go.Proofs.Ytlkjpmdnhccdpab
set_option linter.unusedSimpArgs false
set_option linter.unusedVariables false
open Go.RowKit

theorem fair_steps {g : List (List Int)} {k m : Nat} (h : ∀ i j, (i < k ∨ i = k ∧ j < m) → j < g.length → nth (rowAt g i) j = -nth (rowAt g j) i) (e : nth (rowAt g k) m = -nth (rowAt g m) k) :
    ∀ i j, (i < k ∨ i = k ∧ j < m + 1) → j < g.length → nth (rowAt g i) j = -nth (rowAt g j) i := by
  intro i j hij hj
  by_cases hc : i = k ∧ j = m
  · rw [hc.1, hc.2]; exact e
  · exact h i j (by omega) hj

end Go.Proofs.Ytlkjpmdnhccdpab

namespace Go.Proofs.Ytlkjpmdnhccdpab
set_option linter.unusedSimpArgs false
set_option linter.unusedVariables false
open Go.RowKit

def beatU (n i m : Nat) : List Int := (List.range m).map (beatI n i)

def beatV (n k : Nat) : List (List Int) := (List.range k).map (beatR n)

theorem beatU_length (n i m : Nat) : (beatU n i m).length = m := by simp [beatU]

theorem beatV_length (n k : Nat) : (beatV n k).length = k := by simp [beatV]

theorem beatU_succ (n i m : Nat) : beatU n i (m + 1) = beatU n i m ++ [beatI n i m] := by simp [beatU, List.range_succ]

theorem beatV_succ (n k : Nat) : beatV n (k + 1) = beatV n k ++ [beatU n k n] := by simp [beatV, List.range_succ]; rfl

theorem beat_no {n : Int} (h : beatB n = false) : beatG n = [] := by unfold beatG; rw [h]; rfl

theorem beat_yes {n : Nat} (h : beatB (n : Int) = true) : beatG n = beatV n n := by unfold beatG; rw [if_pos h]; rfl

end Go.Proofs.Ytlkjpmdnhccdpab

namespace Go.Proofs.Ytlkjpmdnhccdpab
set_option linter.unusedSimpArgs false
set_option linter.unusedVariables false
open Go.RowKit

theorem pla_at {s f : Nat} (hs : 1 ≤ s) (hs2 : s ≤ 4) (hf : 1 ≤ f) (hf2 : f ≤ 3) : lookP s f = true := by
  have := List.all_eq_true.1 (List.all_eq_true.1 sold_P (s - 1) (by simp; omega)) (f - 1) (by simp; omega)
  rwa [show s - 1 + 1 = s by omega, show f - 1 + 1 = f by omega] at this

theorem pla_facts {s f : Nat} (hs : 1 ≤ s) (hs2 : s ≤ 4) (hf : 1 ≤ f) (hf2 : f ≤ 3) : (plaT s f).length ≤ 15 ∧ ∀ k, k < (plaT s f).length → (rowAt (plaT s f) k).length = f := by
  have h := pla_at hs hs2 hf hf2
  unfold lookP at h
  simp only [Bool.and_eq_true, decide_eq_true_eq, List.all_eq_true, List.mem_range] at h
  exact ⟨h.2.1, fun k hk => (h.2.2.2 k hk).1⟩

theorem more_abs (x y : List Int) (k : Nat) : -(k : Int) ≤ moreT x y k ∧ moreT x y k ≤ k := by
  induction k with
  | zero => simp [moreT]
  | succ k ih => unfold moreT; split; omega; split <;> omega

def sdrU (s f i m : Nat) : List Int := (List.range m).map fun j => moreT (rowAt (plaT s f) i) (rowAt (plaT s f) j) f

def sdrV (s f k : Nat) : List (List Int) := (List.range k).map (sdrR s f)

theorem sdrU_length (s f i m : Nat) : (sdrU s f i m).length = m := by simp [sdrU]

theorem sdrV_length (s f k : Nat) : (sdrV s f k).length = k := by simp [sdrV]

theorem sdrU_succ (s f i m : Nat) : sdrU s f i (m + 1) = sdrU s f i m ++ [moreT (rowAt (plaT s f) i) (rowAt (plaT s f) m) f] := by simp [sdrU, List.range_succ]

theorem sdrU_all (s f i : Nat) : sdrU s f i (plaT s f).length = sdrR s f i := by
  unfold sdrU sdrR
  refine List.ext_getElem (by simp) fun j h1 h2 => ?_
  simp only [List.getElem_map, List.getElem_range]
  congr 1
  simp at h1
  unfold rowAt; simp [h1]

theorem sdrV_succ (s f k : Nat) : sdrV s f (k + 1) = sdrV s f k ++ [sdrU s f k (plaT s f).length] := by rw [sdrU_all]; simp [sdrV, List.range_succ]

theorem pla_no {s f : Int} (h : plaB s f = false) : plaG s f = [] ∧ sdrG s f = [] := by unfold plaG sdrG; rw [h]; exact ⟨rfl, rfl⟩

theorem pla_yes {s f : Nat} (h : plaB (s : Int) (f : Int) = true) : plaG s f = plaT s f ∧ sdrG s f = sdrV s f (plaT s f).length := by unfold plaG sdrG; rw [if_pos h, if_pos h]; exact ⟨rfl, rfl⟩

theorem pla_nat {s f : Int} (h : plaB s f = true) : ∃ a b : Nat, s = (a : Int) ∧ f = (b : Int) ∧ 1 ≤ a ∧ a ≤ 4 ∧ 1 ≤ b ∧ b ≤ 3 := by
  unfold plaB inR at h
  rw [Bool.and_eq_true, decide_eq_true_eq, decide_eq_true_eq] at h
  exact ⟨s.toNat, f.toNat, by omega, by omega, by omega, by omega, by omega, by omega⟩

end Go.Proofs.Ytlkjpmdnhccdpab

namespace Go.Proofs.Ytlkjpmdnhccdpab
set_option linter.unusedSimpArgs false
set_option linter.unusedVariables false
open Go.RowKit

/-- the rows so far: those that begin with less than k -/
def plaV (f s k : Nat) : List (List Int) := ((List.range k).flatMap fun j => (plaR f (s - j)).map fun r => j :: r).map castT

/-- the rows that begin with k, of the first m of the rest -/
def plaM (f s k m : Nat) : List (List Int) := plaV f s k ++ (((plaR f (s - k)).map castT).take m).map fun r => (k : Int) :: r

theorem plaM_zero (f s k : Nat) : plaM f s k 0 = plaV f s k := by simp [plaM]

theorem plaM_all (f s k : Nat) : plaM f s k ((plaR f (s - k)).map castT).length = plaV f s (k + 1) := by
  unfold plaM plaV
  rw [List.take_length, List.range_succ, List.flatMap_append, List.map_append, List.map_map]
  congr 1
  simp only [List.flatMap_cons, List.flatMap_nil, List.append_nil, List.map_map]
  rfl

theorem plaM_succ {f s k m : Nat} (h : m < ((plaR f (s - k)).map castT).length) : plaM f s k (m + 1) = plaM f s k m ++ [(k : Int) :: rowAt ((plaR f (s - k)).map castT) m] := by
  unfold plaM
  rw [List.take_add_one, List.getElem?_eq_getElem h, List.map_append, List.append_assoc]
  have h' : m < (plaR f (s - k)).length := by rw [List.length_map] at h; exact h
  simp [rowAt, List.getElem?_eq_getElem h']

theorem plaV_zero (f s : Nat) : plaV f s 0 = [] := rfl

theorem plaV_all (f s : Nat) : plaV f s (s + 1) = (plaR (f + 1) s).map castT := rfl

def plaOk (f s : Nat) : Bool := decide ((plaR f s).length ≤ 15) && (plaR f s).all fun r => decide (r.length = f + 1)

theorem pla_all : ((List.range 3).all fun f => (List.range 5).all fun s => plaOk f s && (List.range (s + 2)).all fun k => decide ((plaV f s k).length ≤ 35)) = true := by decide +kernel

theorem plaOk_at {f s : Nat} (hf : f ≤ 2) (hs : s ≤ 4) : (plaR f s).length ≤ 15 ∧ (∀ i, i < ((plaR f s).map castT).length → (rowAt ((plaR f s).map castT) i).length = f + 1) ∧ ∀ k, k ≤ s + 1 → (plaV f s k).length ≤ 35 := by
  have h := pla_all
  rw [List.all_eq_true] at h
  have h1 := h f (List.mem_range.2 (by omega))
  rw [List.all_eq_true] at h1
  have h2 := h1 s (List.mem_range.2 (by omega))
  unfold plaOk at h2
  simp only [Bool.and_eq_true, List.all_eq_true, decide_eq_true_eq] at h2
  obtain ⟨⟨a, b⟩, c⟩ := h2
  refine ⟨a, fun i hi => ?_, fun k hk => c k (List.mem_range.2 (by omega))⟩
  rw [List.length_map] at hi
  have := b _ (List.getElem_mem hi)
  unfold rowAt
  simp [hi, this, castT_length]

end Go.Proofs.Ytlkjpmdnhccdpab
