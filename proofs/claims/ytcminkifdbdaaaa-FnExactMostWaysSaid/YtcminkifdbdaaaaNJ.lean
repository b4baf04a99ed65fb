/- Texts in one: WayM, GuardA, GuardB, GuardC. -/
import Derived.Test.YtcminkifdbdaaaaNC
import Derived.Test.YtcminkifdbdaaaaND
import Derived.Test.YtcminkifdbdaaaaMC
import Derived.Test.YtcminkifdbdaaaaNF
import Derived.Test.YtcminkifdbdaaaaML
namespace Go.Proofs.Ytcminkifdbdaaaa
set_option linter.unusedSimpArgs false
set_option linter.unusedVariables false
open Go.RowKit

/-- all ways on from a place, each told by its streets from there on -/
def wayG (p : Nat) (st : List Nat) : Nat → Nat → Nat → List Nat
  | 0, a, _ => if a + 1 == p then [0] else []
  | f + 1, a, seen => if a + 1 == p then [0] else (List.range st.length).flatMap fun k => if toT (st.getD k 0) a == 99 || bP seen (toT (st.getD k 0) a) then [] else (wayG p st f (toT (st.getD k 0) a) (seen + 2 ^ toT (st.getD k 0) a)).map (2 ^ k ||| ·)

theorem wayF_G (p : Nat) (st : List Nat) : ∀ (f a seen used : Nat), wayF p st f a seen used = (wayG p st f a seen).map (used ||| ·)
  | 0, a, seen, used => by simp only [wayF, wayG]; split <;> simp
  | f + 1, a, seen, used => by
    simp only [wayF, wayG]
    split
    · simp
    · rw [List.map_flatMap]
      congr 1
      funext k
      split
      · rfl
      · rw [wayF_G p st f, List.map_map]
        refine List.map_congr_left fun x _ => ?_
        simp only [Function.comp, Nat.or_assoc]

theorem wayF_zero (p : Nat) (st : List Nat) (f a seen : Nat) : wayF p st f a seen 0 = wayG p st f a seen := by
  rw [wayF_G]
  exact (List.map_congr_left fun x _ => by simp).trans (List.map_id _)

theorem sinkT_perm : ∀ (j : Nat) (l : List Nat), j < l.length → (sinkT l j).Perm l
  | 0, l, _ => List.Perm.refl l
  | j + 1, l, h => by
    simp only [sinkT]
    split
    · refine (sinkT_perm j _ (by simp; omega)).trans ?_
      have e1 : l.getD j 0 = l[j]'(by omega) := by simp [show j < l.length by omega]
      have e2 : l.getD (j + 1) 0 = l[j + 1]'h := by simp [h]
      rw [e1, e2]
      exact List.set_set_perm h (by omega)
    · exact List.Perm.refl l

theorem sortT_perm (l : List Nat) : ∀ k, k < l.length ∨ k = 0 → (sortT l k).Perm l
  | 0, _ => List.Perm.refl l
  | k + 1, h => by
    simp only [sortT]
    have hk : k + 1 < l.length := by omega
    exact (sinkT_perm (k + 1) _ (by rw [sortT_length]; exact hk)).trans (sortT_perm l k (.inl (by omega)))

theorem ways_perm (p : Nat) (st : List Nat) : (waysT p st).Perm (wayG p st p 0 1) := by
  unfold waysT
  rw [wayF_zero]
  exact sortT_perm _ _ (by omega)

/-- the first k streets' ways -/
def wayTo (p : Nat) (st : List Nat) (f a seen : Nat) : Nat → List Nat
  | 0 => []
  | k + 1 => wayTo p st f a seen k ++ if toT (st.getD k 0) a == 99 || bP seen (toT (st.getD k 0) a) then [] else (wayG p st f (toT (st.getD k 0) a) (seen + 2 ^ toT (st.getD k 0) a)).map (2 ^ k ||| ·)

theorem wayTo_is (p : Nat) (st : List Nat) (f a seen : Nat) : ∀ n, wayTo p st f a seen n = (List.range n).flatMap fun k => if toT (st.getD k 0) a == 99 || bP seen (toT (st.getD k 0) a) then [] else (wayG p st f (toT (st.getD k 0) a) (seen + 2 ^ toT (st.getD k 0) a)).map (2 ^ k ||| ·)
  | 0 => rfl
  | n + 1 => by rw [List.range_succ, List.flatMap_append, ← wayTo_is p st f a seen n]; simp [wayTo]

theorem wayG_succ (p : Nat) (st : List Nat) (f a seen : Nat) (h : a + 1 ≠ p) : wayG p st (f + 1) a seen = wayTo p st f a seen st.length := by
  rw [wayTo_is]
  simp only [wayG]
  rw [if_neg (by rw [beq_iff_eq]; exact h)]

theorem wayG_end (p : Nat) (st : List Nat) (f a seen : Nat) (h : a + 1 = p) : wayG p st f a seen = [0] := by
  cases f <;> simp only [wayG] <;> rw [if_pos (by rw [beq_iff_eq]; exact h)]

theorem wayTo_prefix (p : Nat) (st : List Nat) (f a seen : Nat) {k n : Nat} (h : k ≤ n) : wayTo p st f a seen k <+: wayTo p st f a seen n := by
  induction n with
  | zero => have : k = 0 := (by omega); subst this; exact List.prefix_rfl
  | succ n ih =>
    by_cases e : k = n + 1
    · subst e; exact List.prefix_rfl
    · exact (ih (by omega)).trans (List.prefix_append _ _)

theorem wayG_lt {p : Nat} {st : List Nat} : ∀ (f a seen : Nat), ∀ z, z ∈ wayG p st f a seen → z < 2 ^ st.length
  | 0, a, seen, z, hz => by
    simp only [wayG] at hz
    split at hz
    · simp at hz; subst hz; exact Nat.two_pow_pos _
    · cases hz
  | f + 1, a, seen, z, hz => by
    simp only [wayG] at hz
    split at hz
    · simp at hz; subst hz; exact Nat.two_pow_pos _
    · rw [List.mem_flatMap] at hz
      obtain ⟨k, hk, hz⟩ := hz
      split at hz
      · cases hz
      · obtain ⟨y, hy, rfl⟩ := List.mem_map.1 hz
        exact Nat.or_lt_two_pow (Nat.pow_lt_pow_right (by decide) (List.mem_range.1 hk)) (wayG_lt f _ _ y hy)

/-- a way with one street more -/
def orK (k : Nat) (x : Int) : Int := ((2 ^ k ||| x.toNat : Nat) : Int)

theorem castT_orK (k : Nat) (l : List Nat) : castT (l.map (2 ^ k ||| ·)) = (castT l).map (orK k) := by
  unfold castT orK; rw [List.map_map, List.map_map]; rfl

theorem castT_append (a b : List Nat) : castT (a ++ b) = castT a ++ castT b := by unfold castT; rw [List.map_append]

theorem wayTo_no {p : Nat} {st : List Nat} {f a seen k : Nat} (h : (toT (st.getD k 0) a == 99 || bP seen (toT (st.getD k 0) a)) = true) : wayTo p st f a seen (k + 1) = wayTo p st f a seen k := by
  simp only [wayTo]; rw [if_pos h, List.append_nil]

theorem wayTo_yes {p : Nat} {st : List Nat} {f a seen k : Nat} (h : (toT (st.getD k 0) a == 99 || bP seen (toT (st.getD k 0) a)) = false) :
    castT (wayTo p st f a seen (k + 1)) = castT (wayTo p st f a seen k) ++ (castT (wayG p st f (toT (st.getD k 0) a) (seen + 2 ^ toT (st.getD k 0) a))).map (orK k) := by
  simp only [wayTo]; rw [if_neg (by rw [h]; decide), castT_append, castT_orK]

/-- where a way of a further round stands -/
theorem way_split {p : Nat} {st : List Nat} {f a seen k n : Nat} (hk : k < n) {F pre post : List Int} {x : Int} (hF : castT (wayTo p st f a seen (k + 1)) = castT (wayTo p st f a seen k) ++ F.map (orK k)) (hx : F = pre ++ x :: post) :
    ∃ rest, castT (wayTo p st f a seen n) = (castT (wayTo p st f a seen k) ++ pre.map (orK k)) ++ orK k x :: rest := by
  obtain ⟨r, hr⟩ := wayTo_prefix p st f a seen (show k + 1 ≤ n from hk)
  refine ⟨post.map (orK k) ++ castT r, ?_⟩
  rw [← hr, castT_append, hF, hx]
  simp [List.map_append]

theorem toT_ends {x a d m : Nat} (hd : x / 10 = d) (hm : x % 10 = m) : toT x a = if m = a then d else if d = a then m else 99 := by
  unfold toT; rw [hd, hm]
  by_cases h1 : m = a
  · rw [if_pos h1, if_pos (by rw [beq_iff_eq]; exact h1)]
  · rw [if_neg h1, if_neg (by rw [beq_iff_eq]; exact h1)]
    by_cases h2 : d = a
    · rw [if_pos h2, if_pos (by rw [beq_iff_eq]; exact h2)]
    · rw [if_neg h2, if_neg (by rw [beq_iff_eq]; exact h2)]

end Go.Proofs.Ytcminkifdbdaaaa

namespace Go.Proofs.Ytcminkifdbdaaaa
set_option linter.unusedSimpArgs false
set_option linter.unusedVariables false
open Go.RowKit

theorem tdiv10_in {x : Int} (h1 : -9223372036854775808 ≤ x) (h2 : x ≤ 9223372036854775807) : -9223372036854775808 ≤ x.tdiv 10 ∧ x.tdiv 10 ≤ 9223372036854775807 := by
  by_cases h : 0 ≤ x
  · rw [Int.tdiv_eq_ediv_of_nonneg h]; omega
  · obtain ⟨y, rfl⟩ : ∃ y, x = -y := ⟨-x, by omega⟩
    rw [Int.neg_tdiv, Int.tdiv_eq_ediv_of_nonneg (by omega)]; omega

theorem endsOfI (x : Int) (h1 : -9223372036854775808 ≤ x) (h2 : x ≤ 9223372036854775807) (w : World) :
    Calls Try.prog 81 #[.int .i64 x] w (Same (.tuple #[.int .i64 (x.tdiv 10), .int .i64 (x.tmod 10)]) w) := by
  have hw : wrap64 (x.tdiv 10) = x.tdiv 10 := IntWalk.wrap64_in _ (tdiv10_in h1 h2)
  obtain ⟨d, hd⟩ : ∃ d, x.tdiv 10 = d := ⟨_, rfl⟩
  rw [hd] at hw ⊢
  go_enter Try.func81, Try.ntmps81
  go_wp2_with fail
  refine bodyPost_ret (v := .tuple #[.int .i64 d, .int .i64 (x.tmod 10)]) (by simp [results, Try.results81, go_sem, hw]) rfl ⟨rfl, rfl⟩

/-- does a number tell a street of a town of so many places -/
def strB (x p : Int) : Bool := decide (0 ≤ x.tdiv 10) && (decide (x.tdiv 10 < x.tmod 10) && decide (x.tmod 10 < p))

theorem streetOkI (x p : Int) (h1 : -9223372036854775808 ≤ x) (h2 : x ≤ 9223372036854775807) (w : World) :
    Calls Try.prog 54 #[.int .i64 x, .int .i64 p] w (Same (.bool (strB x p)) w) := by
  have HE := Lib.hid (endsOfI x h1 h2 w)
  unfold strB
  obtain ⟨d, hd⟩ : ∃ d, x.tdiv 10 = d := ⟨_, rfl⟩
  obtain ⟨m, hm⟩ : ∃ m, x.tmod 10 = m := ⟨_, rfl⟩
  rw [hd, hm] at HE
  rw [hd, hm]
  clear hd hm h1 h2
  by_cases a1 : 0 ≤ d
  · by_cases a2 : d < m
    · have e1 : decide (0 ≤ d) = true := by simp; omega
      have e2 : decide (d < m) = true := by simp; omega
      rw [e1, e2]
      go_enter Try.func54, Try.ntmps54
      go_wp2_with (go_at_call 81; refine HE.out.mono ?_; rintro e w1 ⟨rfl, rfl⟩)
      go_ret
      exact Same.of (by simp)
    · have e1 : decide (0 ≤ d) = true := by simp; omega
      have e2 : decide (d < m) = false := by simp; omega
      rw [e1, e2]
      go_enter Try.func54, Try.ntmps54
      go_wp2_with (go_at_call 81; refine HE.out.mono ?_; rintro e w1 ⟨rfl, rfl⟩)
      go_ret
      exact Same.of (by simp)
  · have e1 : decide (0 ≤ d) = false := by simp; omega
    rw [e1]
    go_enter Try.func54, Try.ntmps54
    go_wp2_with (go_at_call 81; refine HE.out.mono ?_; rintro e w1 ⟨rfl, rfl⟩)
    go_ret
    exact Same.of (by simp)

/-- the place to which a street leads from another one -/
def acrI (a x : Int) : Int := if a = x.tdiv 10 then x.tmod 10 else if a = x.tmod 10 then x.tdiv 10 else 0

def acrB (a x : Int) : Bool := decide (a = x.tdiv 10) || decide (a = x.tmod 10)

theorem acrossI (a x : Int) (h1 : -9223372036854775808 ≤ x) (h2 : x ≤ 9223372036854775807) (w : World) :
    Calls Try.prog 87 #[.int .i64 a, .int .i64 x] w (Same (.tuple #[.int .i64 (acrI a x), .bool (acrB a x)]) w) := by
  have HE := Lib.hid (endsOfI x h1 h2 w)
  unfold acrI acrB
  obtain ⟨d, hd⟩ : ∃ d, x.tdiv 10 = d := ⟨_, rfl⟩
  obtain ⟨m, hm⟩ : ∃ m, x.tmod 10 = m := ⟨_, rfl⟩
  rw [hd, hm] at HE
  rw [hd, hm]
  clear hd hm h1 h2
  by_cases a1 : a = d
  · have e1 : (a == d) = true := by simp [a1]
    rw [if_pos a1, decide_eq_true a1]
    clear a1
    go_enter Try.func87, Try.ntmps87
    go_wp2_with (go_at_call 81; refine HE.out.mono ?_; rintro e w1 ⟨rfl, rfl⟩)
    refine bodyPost_ret (v := .tuple #[.int .i64 m, .bool true]) (by simp [results, Try.results87, go_sem]) rfl ⟨by simp, rfl⟩
  · have e1 : (a == d) = false := by simp [a1]
    rw [if_neg a1, decide_eq_false a1]
    clear a1
    by_cases a2 : a = m
    · have e2 : (a == m) = true := by simp [a2]
      rw [if_pos a2, decide_eq_true a2]
      clear a2
      go_enter Try.func87, Try.ntmps87
      go_wp2_with (go_at_call 81; refine HE.out.mono ?_; rintro e w1 ⟨rfl, rfl⟩)
      refine bodyPost_ret (v := .tuple #[.int .i64 d, .bool true]) (by simp [results, Try.results87, go_sem]) rfl ⟨by simp, rfl⟩
    · have e2 : (a == m) = false := by simp [a2]
      rw [if_neg a2, decide_eq_false a2]
      clear a2
      go_enter Try.func87, Try.ntmps87
      go_wp2_with (go_at_call 81; refine HE.out.mono ?_; rintro e w1 ⟨rfl, rfl⟩)
      refine bodyPost_ret (v := .tuple #[.int .i64 0, .bool false]) (by simp [results, Try.results87, go_sem]) rfl ⟨by simp, rfl⟩

end Go.Proofs.Ytcminkifdbdaaaa

namespace Go.Proofs.Ytcminkifdbdaaaa
set_option linter.unusedSimpArgs false
set_option linter.unusedVariables false
open Go.RowKit

theorem townB_range {P : Int} {l : List Int} (h : ¬ (2 ≤ P ∧ P ≤ 5)) : townB P l = false := by
  unfold townB inR; rw [Bool.and_eq_false_iff]; right; rw [Bool.and_eq_false_iff]; left; simp; omega

theorem townB_long {P : Int} {l : List Int} (h : 8 < l.length) : townB P l = false := by
  unfold townB; rw [Bool.and_eq_false_iff]; right; rw [Bool.and_eq_false_iff]; right; simp; omega

theorem townB_all {P : Int} {l : List Int} (h1 : 2 ≤ P) (h2 : P ≤ 5) (h3 : l.length ≤ 8) (h : stTo P l l.length = true) : townB P l = true := by
  unfold townB inR; rw [h, decide_eq_true (show 2 ≤ P ∧ P ≤ 5 from ⟨h1, h2⟩), decide_eq_true h3]; rfl

/-- the specification's test of a street is the program's -/
theorem stB_is {P : Int} (h1 : 2 ≤ P) (h2 : P ≤ 5) (l : List Int) (k : Nat) : stB P l k = (strB (nth l k) P && (k == 0 || decide (nth l (k - 1) < nth l k))) := by
  have hw : wrap64 (P - 1) = P - 1 := IntWalk.wrap64_in _ ⟨by omega, by omega⟩
  unfold stB strB
  rw [hw]
  generalize (k == 0 || decide (nth l (k - 1) < nth l k)) = b
  cases b
  · simp
  · simp only [Bool.and_true]
    unfold inR
    rw [← Bool.decide_and, ← Bool.decide_and, ← Bool.decide_and, ← Bool.decide_and, decide_eq_decide]
    generalize nth l k = x
    by_cases h0 : 0 ≤ x
    · rw [Int.tdiv_eq_ediv_of_nonneg h0, Int.tmod_eq_emod_of_nonneg h0]; omega
    · obtain ⟨y, rfl⟩ : ∃ y, x = -y := ⟨-x, by omega⟩
      rw [Int.neg_tdiv, Int.neg_tmod, Int.tdiv_eq_ediv_of_nonneg (by omega), Int.tmod_eq_emod_of_nonneg (by omega)]; omega

set_option maxHeartbeats 2000000 in
theorem townOk_impl (P : Int) (A : Option Addr) (c : Nat) (l : List Int) (hl : l.length ≤ 4294967296) (hwl : WfL l) (w : World) (h : Ints w (fun b => b < w.heap.size) A l) :
    Calls Try.prog 16 #[twnV P A l.length c] w (Adds (.bool (townB P l)) w) := by
  unfold twnV
  obtain ⟨W, hW, hB, hbW, hsz⟩ := twn_world w P A l.length c
  have HB := Lib.hid hB
  have HBW := Lib.hid hbW
  have HW := Lib.hid hW
  have HH := Lib.hid h
  have HWL := Lib.hid hwl
  have c0 := hB.c0
  have c1 := hB.c1
  clear hW hB hbW h hsz hwl
  by_cases hP : 2 ≤ P
  · by_cases hP5 : P ≤ 5
    · by_cases h8 : l.length ≤ 8
      · clear hl
        go_enter Try.func16, Try.ntmps16
        go_wp2_with fail
        rw [← HW.out]
        rename_i hcase _ _
        clear hcase
        have HALL := Lib.hid (townB_all hP hP5 h8 : stTo P l l.length = true → townB P l = true)
        have HST := Lib.hid (stB_is hP hP5 l)
        clear hP hP5
        go_loopw [22] (fun i wr => ∃ k : Nat, k ≤ l.length ∧ i = .int .i64 (k : Int) ∧ Hid (stTo P l k = true) ∧ Hid (Below W.heap.size W wr)) (fun i _ => l.length - (intOf i).toNat)
        case atStart => exact ⟨0, Nat.zero_le _, rfl, rfl, Below.refl _ _⟩
        case round =>
          obtain ⟨k, hk, rfl, HK, HV⟩ := hrel
          have hB3 := HB.out.still HV.out
          have c0 := hB3.c0
          have c1 := hB3.c1
          clear hB3
          by_cases hlt : k < l.length
          · obtain ⟨b, off, rfl, hbw, hc⟩ := HH.out (by omega)
            have HC := Lib.hid hc
            have HVW := Lib.hid (belT HBW.out HV.out)
            obtain ⟨x, hx⟩ : ∃ x, nth l k = x := ⟨_, rfl⟩
            have hcx : wr.cell? ⟨b, off + k, none⟩ = some (.int .i64 x) := (HVW.out.cell (p := ⟨b, off + k, none⟩) hbw).trans (by rw [HC.out k hlt, hx])
            have hxw := HWL.out.at k
            rw [hx] at hxw
            have HSO := Lib.hid (streetOkI x P hxw.1 hxw.2 wr)
            have hst := HST.out k
            rw [hx] at hst
            have hnext : Hid (stTo P l (k + 1) = stB P l k) := by show (stTo P l k && _) = _; rw [HK.out, Bool.true_and]
            clear hc hx hxw
            rcases h1 : strB x P with _ | _
            · have HN : Hid (townB P l = false) := town_no hlt (by rw [hst, h1]; rfl)
              rw [h1] at HSO
              clear h1 hst hnext
              go_wp2_with (go_at_call 54; refine HSO.out.mono ?_; rintro e w1 ⟨rfl, rfl⟩)
              go_ret
              rw [HN.out]
              exact Adds.of rfl HVW.out
            · rw [h1] at HSO hst
              rw [Bool.true_and] at hst
              by_cases hk0 : k = 0
              · have hy : Hid (stTo P l (k + 1) = true) := by show _ = true; rw [hnext.out, hst, hk0]; rfl
                have w1 : decide ((0 : Int) < (k : Int)) = false := decide_eq_false (by omega)
                have w2 : decide (0 < k) = false := decide_eq_false (by omega)
                clear h1 hst hnext hk0
                go_wp2_with (go_at_call 54; refine HSO.out.mono ?_; rintro e w1 ⟨rfl, rfl⟩)
                go_roundw
                case rel => exact ⟨k + 1, by omega, by go_num, hy, HV.out⟩
                case measure => simp [intOf]; omega
              · obtain ⟨j, hj⟩ : ∃ j, k = j + 1 := ⟨k - 1, by omega⟩
                have hjl : j < l.length := by omega
                obtain ⟨y, hy⟩ : ∃ y, nth l j = y := ⟨_, rfl⟩
                have hcy : wr.cell? ⟨b, off + j, none⟩ = some (.int .i64 y) := (HVW.out.cell (p := ⟨b, off + j, none⟩) hbw).trans (by rw [HC.out j hjl, hy])
                have hst2 : stB P l k = decide (y < x) := by
                  rw [hst, hj, show j + 1 - 1 = j by omega, hy]; simp
                have w1 : decide ((0 : Int) < (k : Int)) = true := decide_eq_true (by omega)
                have w2 : decide (0 < k) = true := decide_eq_true (by omega)
                have hj2 : (k : Int) - 1 = (j : Int) := by omega
                have hjw : IntKind.i64.wrap (j : Int) = (j : Int) := IntWalk.i64_in _ ⟨by omega, by omega⟩
                by_cases hyx : y < x
                · have hn : Hid (stTo P l (k + 1) = true) := by show _ = true; rw [hnext.out, hst2]; simp [hyx]
                  have d1 : decide (x ≤ y) = false := decide_eq_false (by omega)
                  clear h1 hst hst2 hnext hk0 hy hj
                  go_wp2_with (go_at_call 54; refine HSO.out.mono ?_; rintro e w1 ⟨rfl, rfl⟩)
                  go_roundw
                  case rel => exact ⟨k + 1, by omega, by go_num, hn, HV.out⟩
                  case measure => simp [intOf]; omega
                · have HN : Hid (townB P l = false) := town_no hlt (by rw [hst2]; simp [hyx])
                  have d1 : decide (x ≤ y) = true := decide_eq_true (by omega)
                  clear h1 hst hst2 hnext hk0 hy hj
                  go_wp2_with (go_at_call 54; refine HSO.out.mono ?_; rintro e w1 ⟨rfl, rfl⟩)
                  go_ret
                  rw [HN.out]
                  exact Adds.of rfl HVW.out
          · have hkl : k = l.length := by omega
            have HY : Hid (townB P l = true) := HALL.out (by rw [← hkl]; exact HK.out)
            go_wp2_with fail
            go_ret
            rw [HY.out]
            exact Adds.of rfl (belT HBW.out HV.out)
      · have HF := Lib.hid (townB_long (P := P) (l := l) (by omega))
        have hg : decide (8 < l.length) = true := by simp; omega
        go_enter Try.func16, Try.ntmps16
        go_wp2_with fail
        rw [← HW.out]
        go_wp2_with fail
        go_ret
        rw [HF.out]
        exact Adds.of rfl HBW.out
    · have HF := Lib.hid (townB_range (P := P) (l := l) (by omega))
      go_enter Try.func16, Try.ntmps16
      go_wp2_with fail
      rw [← HW.out]
      go_wp2_with fail
      go_ret
      rw [HF.out]
      exact Adds.of rfl HBW.out
  · have HF := Lib.hid (townB_range (P := P) (l := l) (by omega))
    go_enter Try.func16, Try.ntmps16
    go_wp2_with fail
    rw [← HW.out]
    go_wp2_with fail
    go_ret
    rw [HF.out]
    exact Adds.of rfl HBW.out

end Go.Proofs.Ytcminkifdbdaaaa

namespace Go.Proofs.Ytcminkifdbdaaaa
set_option linter.unusedSimpArgs false
set_option linter.unusedVariables false
open Go.RowKit Go.Shelf

attribute [local go_sem] Oper.semAt_some

theorem BoxT.lies {K : Nat → Prop} {w w' : World} {b : Nat} {P : Int} {A : Option Addr} {n c : Nat} (h : BoxT w b P A n c) (hl : Lies K w w') (hb : K b) : BoxT w' b P A n c := by
  have e := hl.block b h.lt hb
  refine ⟨Nat.lt_of_lt_of_le h.lt hl.size, ?_, ?_⟩
  · have := h.c0; unfold World.cell? at this ⊢; rw [e]; exact this
  · have := h.c1; unfold World.cell? at this ⊢; rw [e]; exact this

theorem Lies.cellAt {K : Nat → Prop} {w w' : World} {b : Nat} {t : TypeId} {v : Value} (h : Lies K w w') (hb : K b) (hc : Cell1 w b t v) : Cell1 w' b t v := hc.keep (h.block b hc.lt hb)

theorem Lies.ints {K : Nat → Prop} {w w' : World} {A : Option Addr} {l : List Int} (h : Lies K w w') (hA : ∀ b, (∃ x, 0 < l.length ∧ A = some x ∧ x.block = b) → K b) (hi : Ints w (fun b => b < w.heap.size) A l) : Ints w' (fun b => b < w'.heap.size) A l := by
  intro h0
  obtain ⟨b, off, rfl, hb, hc⟩ := hi h0
  have e := h.block b hb (hA b ⟨_, h0, rfl, rfl⟩)
  refine ⟨b, off, rfl, Nat.lt_of_lt_of_le hb h.size, fun i hi => ?_⟩
  have := hc i hi
  unfold World.cell? at this ⊢
  rw [e]; exact this

/-- a round that is handed a number: what lies behind it -/
theorem Going.roundN {α : Type} {P : Program} {R : α → Array Value → (Nat → Prop) → World → Prop} {xs : List α} {K S0 S : Nat → Prop} {w W wr W1 : World} {l : Nat} {J : List α → (Nat → Prop) → World → Prop} {Jx : List α → World → Prop} {pre post : List α} {x : α} {v : Array Value}
    (hY : ∀ pre x post, xs = pre ++ x :: post → ∀ S G v W1, Begins W.heap.size S G W1 → (∀ k, S k → S0 k ∨ W.heap.size ≤ k) → J pre S W1 → R x v G W1 → l < W.heap.size → ∀ m, YieldAt Fence.wide m P l v W1 fun e W' =>
      (e = .returned (.bool true) ∧ ∃ S', Owns S G W1.heap.size S' W' ∧ J (pre ++ [x]) S' W' ∧ Lies (fun k => ¬ S k ∧ ¬ G k) W1 W') ∨ (e = .returned (.bool false) ∧ Jx (pre ++ [x]) W' ∧ Lies (fun k => (W.heap.size ≤ k ∨ K k) ∧ ¬ S k ∧ ¬ G k) W1 W'))
    (hJ : Own1 W.heap.size J) (hK : ∀ k, K k → k < w.heap.size) (hwW : w.heap.size ≤ W.heap.size) (hS0 : ∀ k, S0 k → k < W.heap.size ∧ ¬ K k) (hl : l < W.heap.size)
    (g : Going K S0 S w W wr J pre) (hb : Below wr.heap.size wr W1) (hx : xs = pre ++ x :: post) (hR : R x v (fun _ => False) W1) :
    ∀ m, YieldAt Fence.wide m P l v W1 fun e W' => ∃ b, e = .returned (.bool b) ∧ (b = true → ∃ S', Going K S0 S' w W W' J (pre ++ [x]) ∧ (∀ k, S' k → S k ∨ W1.heap.size ≤ k) ∧ Lies (fun k => ¬ S k) W1 W') ∧ (b = false → Jx (pre ++ [x]) W' ∧ Lies (fun k => (W.heap.size ≤ k ∨ K k) ∧ ¬ S k) W1 W') := fun m => by
  have g1 := g.low hJ hK hb
  refine (hY pre x post hx S _ v W1 ⟨g1.size, g1.lt, fun k hk => hk.elim⟩ g1.of g1.inv hR hl m).mono ?_
  rintro e W' (⟨rfl, S', ho, hj, hli⟩ | ⟨rfl, hj, hli⟩)
  · have hli' : Lies (fun k => ¬ S k) W1 W' := hli.mono fun k _ h => ⟨h, fun h => h⟩
    refine ⟨true, rfl, fun _ => ⟨S', ⟨Nat.le_trans g1.size hli.size, ho.lt, fun k hk => ?_, g1.lies.trans (hli'.mono fun k hk hKk hs => ?_), hj⟩, fun k hk => ?_, hli'⟩, fun h => (by cases h)⟩
    · rcases ho.of k hk with h | h | h
      · exact g.of k h
      · exact h.elim
      · right; exact Nat.le_trans g1.size h
    · rcases g.of k hs with h | h
      · exact (hS0 k h).2 hKk
      · have := hK k hKk; omega
    · rcases ho.of k hk with h | h | h
      · exact .inl h
      · exact h.elim
      · exact .inr h
  · exact ⟨false, rfl, fun h => (by cases h), fun _ => ⟨hj, hli.mono fun k _ h => ⟨h.1, h.2, fun h => h⟩⟩⟩

/-- the marks of loops that are over are cleared: nothing else turns -/
theorem marks_leaveS {P : Program} {fn : Func} {n B : Nat} {tmps : Array Value} {R : Ending → World → Prop} : ∀ {ds : List Deferred} {w : World}, Marks B ds w →
    (∀ w', StepX B w w' → Lies (fun k => ∀ d ∈ ds, d ≠ { target := .collected k, args := #[] }) w w' → LeavesInM Fence.wide n P fn tmps R [] .returning w') → LeavesInM Fence.wide n P fn tmps R ds .returning w
  | [], w, _, h => h w (StepX.refl _ _) (Lies.refl _ _)
  | d :: ds, w, ⟨D, h1, h2, h3, h4, h5⟩, h => by
    subst h1
    refine ⟨by simp, .inl ⟨D, _, rfl, run_takeDeferred h3, ?_⟩⟩
    have hb : StepX B w (w.putObj D (.deferred none)) := StepX.putObj _ h3 rfl h2
    refine marks_leaveS (h5.keep fun k _ _ ⟨d', h6, h7⟩ => World.putObj_heap_other fun e => ?_) (fun w' hb' hl' => h w' (hb.trans hb') ?_)
    · subst e; exact h4 d' h6 h7
    · refine (Lies.putObj (K := fun k => ∀ d ∈ ({ target := .collected D, args := #[] } : Deferred) :: ds, d ≠ { target := .collected k, args := #[] }) w D _ (fun hk => hk _ List.mem_cons_self rfl)).trans (hl'.mono fun k _ hk d' hd' => hk d' (List.mem_cons_of_mem _ hd'))

theorem waysFromI (P : Int) (A : Option Addr) (n c : Nat) (a s : Int) (w : World) :
    Calls Try.prog 58 #[twnV P A n c, .int .i64 a, .int .i64 s] w fun e w' => ∃ b1 b2 b3, e = .returned (.func (.func 86) #[] #[.pointer (some ⟨b1, 0, none⟩), .pointer (some ⟨b2, 0, none⟩), .pointer (some ⟨b3, 0, none⟩)]) ∧ Below w.heap.size w w' ∧
      Cell1 w' b1 3 (.int .i64 a) ∧ BoxT w' b2 P A n c ∧ Cell1 w' b3 3 (.int .i64 s) ∧ w.heap.size ≤ b1 ∧ w.heap.size ≤ b2 ∧ w.heap.size ≤ b3 := by
  unfold twnV
  obtain ⟨W, hW, hB, hbW, hsz⟩ := twn_world w P A n c
  have HB := Lib.hid hB
  have HBW := Lib.hid hbW
  have HW := Lib.hid hW
  have HSZ := Lib.hid hsz
  clear hW hB hbW hsz
  go_enter Try.func58, Try.ntmps58
  go_wp2_with fail
  rw [← HW.out]
  go_ret
  have hs := HSZ.out
  refine ⟨W.heap.size, w.heap.size, W.heap.size + 1, by rw [hs]; simp, ((HBW.out.alloc (by omega) _).alloc (by simp; omega) _), (Cell1.new _ _ _).alloc _, (HB.out.still ((Below.refl _ W).alloc (Nat.le_refl _) _)).still ((Below.refl _ _).alloc (by simp) _), ?_, by omega, by omega, by omega⟩
  have := Cell1.new (W.alloc (.cells #[.int .i64 a] 3)) 3 (.int .i64 s)
  simp only [World.size_alloc] at this; exact this

/-- a street from a place: the program's answer is the specification's -/
theorem acr_toT {p a x : Nat} (hp : p ≤ 5) (hx : x / 10 < x % 10 ∧ x % 10 < p ∧ x < 100) :
    (acrB (a : Int) (x : Int) = false ∧ (toT x a == 99) = true) ∨ (∃ y : Nat, y < p ∧ acrB (a : Int) (x : Int) = true ∧ acrI (a : Int) (x : Int) = (y : Int) ∧ toT x a = y ∧ (y == 99) = false) := by
  obtain ⟨d, hd⟩ : ∃ d, x / 10 = d := ⟨_, rfl⟩
  obtain ⟨m, hm⟩ : ∃ m, x % 10 = m := ⟨_, rfl⟩
  have q1 : (x : Int).tdiv 10 = (d : Int) := by rw [Int.tdiv_eq_ediv_of_nonneg (by omega), ← hd]; rfl
  have q2 : (x : Int).tmod 10 = (m : Int) := by rw [Int.tmod_eq_emod_of_nonneg (by omega), ← hm]; rfl
  rw [toT_ends hd hm]
  rw [hd, hm] at hx
  unfold acrB acrI
  rw [q1, q2]
  by_cases h1 : a = d
  · right
    refine ⟨m, by omega, ?_, ?_, ?_, by rw [beq_eq_false_iff_ne]; omega⟩
    · rw [decide_eq_true (show (a : Int) = d by omega)]; rfl
    · rw [if_pos (by omega)]
    · rw [if_neg (by omega), if_pos (by omega)]
  · by_cases h2 : a = m
    · right
      refine ⟨d, by omega, ?_, ?_, ?_, by rw [beq_eq_false_iff_ne]; omega⟩
      · rw [decide_eq_true (show (a : Int) = m by omega), Bool.or_true]
      · rw [if_neg (by omega), if_pos (by omega)]
      · rw [if_pos (by omega)]
    · left
      refine ⟨?_, ?_⟩
      · rw [decide_eq_false (by omega), decide_eq_false (by omega)]; rfl
      · rw [if_neg (by omega), if_neg (by omega)]; rfl

theorem Going.keepS {α : Type} {K S0 S L : Nat → Prop} {w W wr W1 : World} {J : List α → (Nat → Prop) → World → Prop} {pre : List α} (g : Going K S0 S w W wr J pre) (hJ : Own1 W.heap.size J) (hl : Lies L wr W1) (h1 : ∀ k, k < W.heap.size → L k) (h2 : ∀ k, S k → L k) (hK : ∀ k, K k → L k) : Going K S0 S w W W1 J pre :=
  ⟨Nat.le_trans g.size hl.size, fun k h => Nat.lt_of_lt_of_le (g.lt k h) hl.size, g.of, g.lies.trans (hl.mono fun k _ h => hK k h), hJ _ _ _ _ g.inv (hl.mono fun k _ h => h.elim (h1 k) (h2 k))⟩

theorem Going.apart {α : Type} {K S0 S : Nat → Prop} {w W wr : World} {J : List α → (Nat → Prop) → World → Prop} {pre : List α} (g : Going K S0 S w W wr J pre) (hK : ∀ k, K k → k < w.heap.size) (hwW : w.heap.size ≤ W.heap.size) (hS0 : ∀ k, S0 k → k < W.heap.size ∧ ¬ K k) {k : Nat} (hk : K k) : ¬ S k := fun hs => by
  rcases g.of k hs with h | h
  · exact (hS0 k h).2 hk
  · have := hK k hk; omega

theorem shr_bit : ∀ s : Fin 32, ∀ j : Fin 5, bits BinOp.and IntKind.i64 ((s.val : Int) / 2 ^ j.val) 1 = if bP s.val j.val = true then 1 else 0 := by decide +kernel

theorem next8 {k n : Nat} (h1 : k < n) (h2 : n ≤ 8) : wrap64 ((k : Int) + 1) = (k : Int) + 1 ∧ IntKind.i64.wrap ((k : Int) + 1) = (k : Int) + 1 :=
  ⟨IntWalk.wrap64_in _ ⟨by omega, by omega⟩, IntWalk.i64_in _ ⟨by omega, by omega⟩⟩

theorem Lies.undrew {K : Nat → Prop} {w w' : World} (h : Lies K w.drew w') : Lies K w w' := ⟨h.os, h.tape, h.output, h.size, h.block⟩

theorem orK_bits {k z : Nat} (hk : k < 8) (hz : z < 256) : bits BinOp.or IntKind.i64 (wrap64 (2 ^ k)) (z : Int) = orK k (z : Int) ∧ bits BinOp.or IntKind.i64 (IntKind.i64.wrap (2 ^ k)) (z : Int) = orK k (z : Int) := by
  have h8 : 2 ^ k < 2 ^ 8 := Nat.pow_lt_pow_right (by decide) hk
  obtain ⟨q, hq⟩ : ∃ q, 2 ^ k = q := ⟨_, rfl⟩
  rw [hq] at h8
  have e : (2 : Int) ^ k = (q : Int) := by rw [← hq]; simp
  have hw : wrap64 (2 ^ k) = (q : Int) := by rw [e]; exact IntWalk.wrap64_in _ ⟨by omega, by omega⟩
  have hw2 : IntKind.i64.wrap (2 ^ k) = (q : Int) := by rw [e]; exact IntWalk.i64_in _ ⟨by omega, by omega⟩
  rw [hw, hw2, bits_or_i64 _ _ (by omega) (by omega)]
  unfold orK
  rw [hq]; exact ⟨rfl, rfl⟩

/-- what the iterator has of its own: the box of its yield, in block B, and the marks of its loops -/
structure Mine (B : Nat) (y : Value) (ds : List Deferred) (S : Nat → Prop) (wr : World) : Prop where
  marks : Marks B ds wr
  apart : ∀ k, (k = B ∨ ({ target := .collected k, args := #[] } : Deferred) ∈ ds) → ¬ S k
  box : Cell1 wr B 68 y

theorem Mine.lies {B : Nat} {y : Value} {ds : List Deferred} {S S' L : Nat → Prop} {wr w' : World} (h : Mine B y ds S wr) (hl : Lies L wr w') (hL : ∀ k, (k = B ∨ ({ target := .collected k, args := #[] } : Deferred) ∈ ds) → L k) (hS : ∀ k, S' k → S k ∨ wr.heap.size ≤ k) : Mine B y ds S' w' := by
  refine ⟨h.marks.keep fun k hk hk2 ⟨d, hd, e⟩ => hl.block k hk2 (hL k (.inr (e ▸ hd))), fun k hk hs => ?_, h.box.keep (hl.block _ h.box.lt (hL _ (.inl rfl)))⟩
  rcases hS k hs with h1 | h1
  · exact h.apart k hk h1
  · rcases hk with e | e
    · have := h.box.lt; omega
    · obtain ⟨D, h2, h3⟩ := h.marks.lt _ e; cases h2; omega

theorem Mine.below {B : Nat} {y : Value} {ds : List Deferred} {S : Nat → Prop} {wr w' : World} (h : Mine B y ds S wr) (hb : Below wr.heap.size wr w') : Mine B y ds S w' :=
  h.lies (Lies.of_below (K := fun _ => True) hb (fun _ h _ => h)) (fun _ _ => trivial) (fun _ hk => .inl hk)

theorem Mine.lt {B : Nat} {y : Value} {ds : List Deferred} {S : Nat → Prop} {wr : World} (h : Mine B y ds S wr) {k : Nat} (hk : k = B ∨ ({ target := .collected k, args := #[] } : Deferred) ∈ ds) : B ≤ k ∧ k < wr.heap.size := by
  rcases hk with e | e
  · subst e; exact ⟨Nat.le_refl _, h.box.lt⟩
  · have hm := h.marks
    obtain ⟨D, h2, h3⟩ := hm.lt _ e; cases h2
    refine ⟨?_, h3⟩
    clear h h3
    induction ds with
    | nil => cases e
    | cons d ds ih =>
      obtain ⟨D', k1, k2, _, _, k5⟩ := hm
      rcases List.mem_cons.1 e with e | e
      · rw [← e] at k1; cases k1; exact k2
      · exact ih e k5

theorem Mine.more {B D : Nat} {y : Value} {ds : List Deferred} {S : Nat → Prop} {wr : World} (h : Mine B y ds S wr) (hB : B ≤ D) (hnew : ∀ k, ({ target := .collected k, args := #[] } : Deferred) ∈ ds → k ≠ D) (hS : ¬ S D) (hD : wr.heap[D]? = some (.deferred (some []))) : Mine B y ({ target := .collected D, args := #[] } :: ds) S wr := by
  refine ⟨⟨D, rfl, hB, hD, fun d' hd' e => hnew D (e ▸ hd') rfl, h.marks⟩, fun k hk => ?_, h.box⟩
  rcases hk with e | e
  · exact h.apart k (.inl e)
  · rcases List.mem_cons.1 e with e | e
    · cases e; exact hS
    · exact h.apart k (.inr e)

end Go.Proofs.Ytcminkifdbdaaaa
