/- Plain mathematics: towns, their ways and cuts. All towns there are: the kernel looks at each of them. It imports nothing of the program but names. -/
import Derived.Test.YtcminkifdbdaaaaMW
namespace Go.Proofs.Ytcminkifdbdaaaa
set_option linter.unusedSimpArgs false
set_option linter.unusedVariables false
open Go.RowKit

/-- the numbers of the streets that may be -/
def pairsT (p : Nat) : List Nat := (List.range p).flatMap fun a => ((List.range p).filter fun b => decide (a < b)).map fun b => 10 * a + b

structure Twn (p : Nat) (st : List Nat) : Prop where
  plo : 2 ≤ p
  phi : p ≤ 5
  len : st.length ≤ 8
  up : st.Pairwise (· < ·)
  mem : ∀ x, x ∈ st → x ∈ pairsT p

def subsT : List Nat → List (List Nat)
  | [] => [[]]
  | x :: xs => subsT xs ++ (subsT xs).map (x :: ·)

theorem subs_nil : ∀ l, [] ∈ subsT l
  | [] => by simp [subsT]
  | x :: xs => List.mem_append.2 (.inl (subs_nil xs))

theorem mem_subs : ∀ {l st : List Nat}, l.Pairwise (· < ·) → st.Pairwise (· < ·) → (∀ x, x ∈ st → x ∈ l) → st ∈ subsT l
  | [], [], _, _, _ => by simp [subsT]
  | [], x :: xs, _, _, h => by have := h x List.mem_cons_self; cases this
  | y :: ys, [], _, _, _ => subs_nil _
  | y :: ys, x :: xs, hl, hs, h => by
    have hl' := List.pairwise_cons.1 hl
    have hs' := List.pairwise_cons.1 hs
    rcases List.mem_cons.1 (h x List.mem_cons_self) with e | hx
    · subst e
      refine List.mem_append.2 (.inr (List.mem_map.2 ⟨xs, mem_subs hl'.2 hs'.2 fun z hz => ?_, rfl⟩))
      rcases List.mem_cons.1 (h z (List.mem_cons_of_mem _ hz)) with e | e
      · have := hs'.1 z hz; omega
      · exact e
    · refine List.mem_append.2 (.inl (mem_subs hl'.2 hs fun z hz => ?_))
      rcases List.mem_cons.1 (h z hz) with e | e
      · subst e
        have h1 := hl'.1 x hx
        rcases List.mem_cons.1 hz with e | e
        · omega
        · have := hs'.1 z e; omega
      · exact e

/-- the other end of a street, 99 if it does not begin at a place -/
def toT (x a : Nat) : Nat := if x % 10 == a then x / 10 else if x / 10 == a then x % 10 else 99

/-- all ways on from a place -/
def wayF (p : Nat) (st : List Nat) : Nat → Nat → Nat → Nat → List Nat
  | 0, a, _, used => if a + 1 == p then [used] else []
  | f + 1, a, seen, used => if a + 1 == p then [used] else (List.range st.length).flatMap fun k => if toT (st.getD k 0) a == 99 || bP seen (toT (st.getD k 0) a) then [] else wayF p st f (toT (st.getD k 0) a) (seen + 2 ^ toT (st.getD k 0) a) (used ||| 2 ^ k)

/-- a number sinks to its place -/
def sinkT (l : List Nat) : Nat → List Nat
  | 0 => l
  | j + 1 => if l.getD (j + 1) 0 < l.getD j 0 then sinkT ((l.set (j + 1) (l.getD j 0)).set j (l.getD (j + 1) 0)) j else l

def sortT (l : List Nat) : Nat → List Nat
  | 0 => l
  | k + 1 => sinkT (sortT l k) (k + 1)

def waysT (p : Nat) (st : List Nat) : List Nat := sortT (wayF p st p 0 1 0) ((wayF p st p 0 1 0).length - 1)

/-- is a set of streets a cut -/
def cutB (ws : List Nat) (s : Nat) : Bool := ws.all fun x => x &&& s != 0

/-- the first least cut up to n -/
def bcT (ws : List Nat) (m : Nat) : Nat → Nat
  | 0 => 0
  | n + 1 => if cutB ws (n + 1) && (bcT ws m n == 0 || decide (cnt (bP (n + 1)) m < cnt (bP (bcT ws m n)) m)) then n + 1 else bcT ws m n

/-- the first list of so many ways that are apart, of those from k on (d ways are left) -/
def aprJ (ws : List Nat) (rec : Nat → Nat → Option (List Nat)) (used : Nat) : Nat → Nat → Option (List Nat)
  | 0, _ => none
  | d + 1, k => if ws.getD k 0 &&& used != 0 then aprJ ws rec used d (k + 1) else
    match rec (k + 1) (used ||| ws.getD k 0) with
    | some x => some (k :: x)
    | none => aprJ ws rec used d (k + 1)

def aprT (ws : List Nat) : Nat → Nat → Nat → Option (List Nat)
  | 0, _, _ => some []
  | m + 1, k, used => aprJ ws (aprT ws m) used (ws.length - k) k

/-- the most ways that are apart, of at most n -/
def mwT (ws : List Nat) : Nat → Nat → Nat
  | 0, k => k
  | d + 1, k => if (aprT ws (k + 1) 0 0).isSome then mwT ws d (k + 1) else k

def mostT (p : Nat) (st : List Nat) : Nat := mwT (waysT p st) (waysT p st).length 0

def cutT (p : Nat) (st : List Nat) : Nat := bcT (waysT p st) st.length (2 ^ st.length - 1)

def goL (p : Nat) (st : List Nat) : List Nat := ((aprT (waysT p st) (mostT p st) 0 0).getD [])

/-- what the kernel looks at -/
def lookA (p : Nat) (st : List Nat) : Bool :=
  let ws := waysT p st
  decide (ws.length ≤ 16) && (ws.all fun x => decide (1 ≤ x) && decide (x < 2 ^ st.length)) && (List.range (ws.length - 1)).all fun j => decide (ws.getD j 0 < ws.getD (j + 1) 0)

def lookB (p : Nat) (st : List Nat) : Bool :=
  let ws := waysT p st
  if ws.length == 0 then mostT p st == 0 else
    let b := cutT p st
    let l := goL p st
    let n := mostT p st
    decide (1 ≤ n) && (cutB ws b && (cnt (bP b) st.length == n && (l.length == n && (l.all (fun k => decide (k < ws.length)) && ((List.range st.length).all (fun i => decide (cnt (fun j => l.contains j && bP (ws.getD j 0) i) ws.length ≤ 1)) && (cnt (fun j => l.contains j) ws.length == n && decide (b < 2 ^ st.length)))))))

def lookC (p : Nat) (st : List Nat) : Bool :=
  decide (mostT p st ≤ (st.filter fun x => x / 10 == 0).length) && decide (mostT p st ≤ (st.filter fun x => x % 10 + 1 == p).length)

def lookD (p : Nat) (st : List Nat) : Bool :=
  let ws := waysT p st
  ((List.range ws.length).all fun k => (List.range ws.length).all fun j => j == k || (ws.getD k 0 ||| ws.getD j 0) != ws.getD k 0) &&
    (st.length == 0 || waysT p st.dropLast == ws.filter fun x => !bP x (st.length - 1))

def allT (f : Nat → List Nat → Bool) (p : Nat) : Bool := (subsT (pairsT p)).all fun st => !decide (st.length ≤ 8) || f p st

def allTs (f : Nat → List Nat → Bool) : Bool := allT f 2 && (allT f 3 && (allT f 4 && allT f 5))

theorem pairs_up : ∀ p, p ≤ 5 → (pairsT p).Pairwise (· < ·) := by
  intro p hp
  have : p = 0 ∨ p = 1 ∨ p = 2 ∨ p = 3 ∨ p = 4 ∨ p = 5 := by omega
  rcases this with rfl | rfl | rfl | rfl | rfl | rfl <;> decide +kernel

theorem allTs_at {f : Nat → List Nat → Bool} (h : allTs f = true) {p : Nat} {st : List Nat} (ht : Twn p st) : f p st = true := by
  have key : ∀ q, q = p → allT f q = true → f p st = true := by
    rintro q rfl hq
    unfold allT at hq
    rw [List.all_eq_true] at hq
    have := hq st (mem_subs (pairs_up q ht.phi) ht.up ht.mem)
    rwa [decide_eq_true ht.len, Bool.not_true, Bool.false_or] at this
  unfold allTs at h
  rw [Bool.and_eq_true, Bool.and_eq_true, Bool.and_eq_true] at h
  obtain ⟨h2, h3, h4, h5⟩ := h
  have hlo := ht.plo
  have hhi := ht.phi
  have : p = 2 ∨ p = 3 ∨ p = 4 ∨ p = 5 := by omega
  rcases this with e | e | e | e
  · exact key 2 e.symm h2
  · exact key 3 e.symm h3
  · exact key 4 e.symm h4
  · exact key 5 e.symm h5

end Go.Proofs.Ytcminkifdbdaaaa
