/- The walks of the program's functions on towns: what the laws ask of them. -/
import Derived.Test.YtcminkifdbdaaaaGuardD
import Derived.Test.YtcminkifdbdaaaaNL
import Derived.Test.YtcminkifdbdaaaaMZ
import Derived.Test.YtcminkifdbdaaaaNE
import Derived.Test.YtcminkifdbdaaaaNF
namespace Go.Proofs.Ytcminkifdbdaaaa
set_option linter.unusedSimpArgs false
set_option linter.unusedVariables false
open Go.RowKit Go.Shelf

theorem ways_sorted {p : Nat} {st : List Nat} (h : Twn p st) : srtL (castT (wayG p st p 0 1)) = castT (waysT p st) := by
  have hf := ways_facts h
  have hp : (srtL (castT (wayG p st p 0 1))).Perm (castT (waysT p st)) :=
    (List.mergeSort_perm _ _).trans ((ways_perm p st).map (fun n : Nat => (n : Int))).symm
  refine List.Perm.eq_of_pairwise (le := fun a b : Int => a ≤ b) (fun a b _ _ h1 h2 => by omega) ?_ ?_ hp
  · have := List.pairwise_mergeSort (le := fun x y : Int => decide (x ≤ y)) (fun a b c h1 h2 => by simp at h1 h2 ⊢; omega) (fun a b => by simp; omega) (castT (wayG p st p 0 1))
    exact this.imp fun h => by simpa using h
  · unfold castT
    rw [List.pairwise_map]
    exact (up_far hf.up).imp fun h => by omega

set_option maxHeartbeats 2000000 in
theorem waysOf_impl (P : Int) (A : Option Addr) (c : Nat) (l : List Int) (hl : l.length ≤ 4294967296) (hwl : WfL l) (w : World) (h : Ints w (fun b => b < w.heap.size) A l) :
    Calls Try.prog 20 #[twnV P A l.length c] w (NewList w (waysI P l)) := by
  obtain ⟨W, hW, hB, hbW, hsz⟩ := twn_world w P A l.length c
  have c0 := hB.c0
  have c1 := hB.c1
  have HB := Lib.hid hB
  have HBW := Lib.hid hbW
  have HW := Lib.hid hW
  have HOK := Lib.hid (fun w' (hb : Below w.heap.size w w') => townOk_impl P A c l hl hwl w' ((keepInts hb h).lt hb.size))
  have HK := Lib.hid (fun w' (hb : Below w.heap.size w w') => (keepInts hb h).lt hb.size)
  clear hW hB hbW hsz hl hwl h
  unfold twnV at HOK ⊢
  rcases hb : townB P l with _ | _
  · rw [waysI_no hb]
    rw [hb] at HOK
    clear hb
    go_enter Try.func20, Try.ntmps20
    go_wp2_with fail
    rw [← HW.out]
    go_wp2_with (go_at_call 16; refine (HOK.out _ HBW.out).mono ?_; rintro e w1 ⟨rfl, hb1⟩)
    go_ret
    exact ⟨none, 0, rfl, belT HBW.out hb1, fun h0 => absurd h0 (by simp)⟩
  · rw [hb] at HOK
    obtain ⟨p, st, rfl, rfl, ht⟩ := town_nat hb
    rw [waysI_yes ht, ← ways_sorted ht]
    have hp2 := ht.plo
    have hp5 := ht.phi
    have hlen : (castT (wayG p st p 0 1)).length ≤ 65536 := by
      rw [castT_length, ← (ways_perm p st).length_eq]; have := (ways_facts ht).many; omega
    have HWF := Lib.hid (fun w' => waysFromI (p : Int) A st.length c 0 0 w')
    have HSO : Hid (∀ (w' w3 : World) (q1 q2 q3 : Nat), Below w.heap.size w w' → Below w'.heap.size w' w3 → Cell1 w3 q1 3 (.int .i64 0) → BoxT w3 q2 (p : Int) A st.length c → Cell1 w3 q3 3 (.int .i64 0) →
        Calls Try.prog 57 #[.func (.func 86) #[] #[.pointer (some ⟨q1, 0, none⟩), .pointer (some ⟨q2, 0, none⟩), .pointer (some ⟨q3, 0, none⟩)]] w3 (NewList w3 (srtL (castT (wayG p st p 0 1))))) := fun w' w3 q1 q2 q3 hb' hb3 z1 z2 z3 => by
      have hbb := belT hb' hb3
      have hI := HK.out w3 hbb
      refine sortedN _ _ _ _ w3 w3 (waysIter ht A c p 0 0 1 hp5 (by omega) (by omega) (by omega) (by decide +kernel) (unseen_lt hp2 hp5) w3 q1 q2 q3 z1 z2 z3 hI) (enters_of Try.func86 (by kernel_rfl) rfl) (Lies.refl _ _) (fun k hk => ?_) hlen
      rcases hk with e | e | e | ⟨x, h0, e1, e2⟩
      · rw [e]; exact z1.lt
      · rw [e]; exact z2.lt
      · rw [e]; exact z3.lt
      · obtain ⟨b, off, e, hlt, _⟩ := hI (by rw [castT_length]; exact h0)
        rw [e] at e1; injection e1 with e1; rw [← e2, ← e1]; exact hlt
    rw [castT_length] at HOK c1 HB HW
    rw [castT_length]
    unfold twnV at HWF
    clear hb ht hlen hp2 hp5
    go_enter Try.func20, Try.ntmps20
    go_wp2_with fail
    rw [← HW.out]
    go_wp2_with (first | (go_at_call 16; refine (HOK.out _ HBW.out).mono ?_; rintro e w1 ⟨rfl, hb1⟩; have HB1 := Lib.hid hb1; have cc := HB.out.still hb1; have d0 := cc.c0; have d1 := cc.c1; clear hb1 cc c0 c1) | (go_at_call 58; refine (HWF.out _).mono ?_; rintro e w2 ⟨q1, q2, q3, rfl, hb2, z1, z2, z3, -, -, -⟩; have HB2 := Lib.hid hb2; have HZ := Lib.hid (And.intro z1 (And.intro z2 z3)); clear hb2 z1 z2 z3) | (go_at_call 57; refine (HSO.out _ _ q1 q2 q3 (belT HBW.out HB1.out) HB2.out HZ.out.1 HZ.out.2.1 HZ.out.2.2).mono ?_; rintro e w3 ⟨T, ct, rfl, hb3, ho3⟩))
    go_ret
    have hbb := belT (belT HBW.out HB1.out) HB2.out
    exact ⟨T, ct, rfl, belT hbb hb3, ho3.more hbb.size (Nat.le_refl _)⟩

set_option maxHeartbeats 2000000 in
theorem mostWays_impl (P : Int) (A : Option Addr) (c : Nat) (l : List Int) (hl : l.length ≤ 4294967296) (hwl : WfL l) (w : World) (h : Ints w (fun b => b < w.heap.size) A l) :
    Calls Try.prog 30 #[twnV P A l.length c] w (Adds (.int .i64 (mostI P l)) w) := by
  obtain ⟨W, hW, hB, hbW, hsz⟩ := twn_world w P A l.length c
  have c0 := hB.c0
  have c1 := hB.c1
  have HB := Lib.hid hB
  have HBW := Lib.hid hbW
  have HW := Lib.hid hW
  have HOK := Lib.hid (fun w' (hb : Below w.heap.size w w') => townOk_impl P A c l hl hwl w' ((keepInts hb h).lt hb.size))
  have HWS := Lib.hid (fun w' (hb : Below w.heap.size w w') => waysOf_impl P A c l hl hwl w' ((keepInts hb h).lt hb.size))
  clear hW hB hbW hsz hl hwl h
  unfold twnV at HOK HWS ⊢
  rcases hb : townB P l with _ | _
  · rw [mostI_no hb]
    rw [hb] at HOK
    clear hb
    go_enter Try.func30, Try.ntmps30
    go_wp2_with fail
    rw [← HW.out]
    go_wp2_with (go_at_call 16; refine (HOK.out _ HBW.out).mono ?_; rintro e w1 ⟨rfl, hb1⟩)
    go_ret
    exact Adds.of rfl (belT HBW.out hb1)
  · rw [hb] at HOK
    obtain ⟨p, st, rfl, rfl, ht⟩ := town_nat hb
    rw [mostI_yes ht, ← most_fa ht]
    rw [castT_length] at HOK c1 HB HW HWS
    rw [waysI_yes ht] at HWS
    rw [castT_length]
    have hmany := (ways_facts ht).many
    have hlow := ways_low ht
    have HFA : Hid (∀ (A : Option Addr) (cc : Nat) (w' : World), Ints w' (· < w'.heap.size) A (castT (waysT p st)) → Calls Try.prog 65 #[.slice A (castT (waysT p st)).length cc, .int .i64 0, .int .i64 0] w' (Adds (.int .i64 (faN (waysT p st) 0 0 : Nat)) w')) := fun A cc w' h' => by
      rw [castT_length]
      exact firstApartI A cc (waysT p st) hlow (by omega) (waysT p st).length 0 0 (by omega) (by omega) w' h'
    have hfa : faN (waysT p st) 0 0 < 65536 := faN_lt (waysT p st) 0 0 (by omega) (Nat.zero_le _)
    have HSZ : Hid (∀ w', Calls Try.prog 64 #[.int .i64 (faN (waysT p st) 0 0 : Nat)] w' (Same (.int .i64 (popN (faN (waysT p st) 0 0) : Nat)) w')) := fun w' => sizeOfW _ hfa w'
    clear hfa hmany hlow hb ht
    go_enter Try.func30, Try.ntmps30
    go_wp2_with fail
    rw [← HW.out]
    go_wp2_with (first | (go_at_call 16; refine (HOK.out _ HBW.out).mono ?_; rintro e w1 ⟨rfl, hb1⟩; have HB1 := Lib.hid hb1; have cc := HB.out.still hb1; have d0 := cc.c0; have d1 := cc.c1; clear hb1 cc c0 c1) | (go_at_call 20; refine (HWS.out _ (belT HBW.out HB1.out)).mono ?_; rintro e w2 ⟨T, ct, rfl, hb2, ho2⟩; have HO2 := Lib.hid (own_lt ho2); have HB2 := Lib.hid hb2; clear hb2 ho2) | (go_at_call 65; refine (HFA.out T ct _ HO2.out).mono ?_; rintro e w3 ⟨rfl, hb3⟩) | (go_at_call 64; refine (HSZ.out _).mono ?_; rintro e w4 ⟨rfl, rfl⟩))
    go_ret
    exact Adds.of rfl (belT (belT (belT HBW.out HB1.out) HB2.out) hb3)

set_option maxHeartbeats 2000000 in
set_option maxRecDepth 100000 in
theorem goPlan_impl (P : Int) (A : Option Addr) (c : Nat) (l : List Int) (hl : l.length ≤ 4294967296) (hwl : WfL l) (w : World) (h : Ints w (fun b => b < w.heap.size) A l) :
    Calls Try.prog 34 #[twnV P A l.length c] w (NewList w (goI P l)) := by
  obtain ⟨W, hW, hB, hbW, hsz⟩ := twn_world w P A l.length c
  have c0 := hB.c0
  have c1 := hB.c1
  have HB := Lib.hid hB
  have HBW := Lib.hid hbW
  have HW := Lib.hid hW
  have HWS := Lib.hid (fun w' (hb : Below w.heap.size w w') => waysOf_impl P A c l hl hwl w' ((keepInts hb h).lt hb.size))
  clear hW hB hbW hsz hl hwl h
  unfold twnV at HWS ⊢
  rcases Nat.eq_zero_or_pos (waysI P l).length with h0 | h0
  · have he := List.eq_nil_of_length_eq_zero h0
    rw [show goI P l = [] from (twn_nil h0).2.1]
    rw [he] at HWS
    clear h0 he
    go_enter Try.func34, Try.ntmps34
    go_wp2_with fail
    rw [← HW.out]
    go_wp2_with (go_at_call 20; refine (HWS.out _ HBW.out).mono ?_; rintro e w2 ⟨T, ct, rfl, hb2, ho2⟩; have HB2 := Lib.hid hb2; clear hb2 ho2)
    go_ret
    exact ⟨none, 0, rfl, belT HBW.out HB2.out, fun h0 => absurd h0 (by simp)⟩
  · have hb := town_way h0
    obtain ⟨p, st, rfl, rfl, ht⟩ := town_nat hb
    rw [waysI_yes ht, castT_length] at h0
    rw [goI_yes ht, ← go_fa ht]
    rw [castT_length] at c1 HB HW HWS
    rw [waysI_yes ht] at HWS
    rw [castT_length]
    have hmany := (ways_facts ht).many
    have hlow := ways_low ht
    have hst := ht.len
    have hst1 := way_street ht h0
    have hz : ((((castT (waysT p st)).length : Nat) : Int) == 0) = false := by rw [castT_length, beq_eq_false_iff_ne]; omega
    have HFA : Hid (∀ (A : Option Addr) (cc : Nat) (w' : World), Ints w' (· < w'.heap.size) A (castT (waysT p st)) → Calls Try.prog 65 #[.slice A (castT (waysT p st)).length cc, .int .i64 0, .int .i64 0] w' (Adds (.int .i64 (faN (waysT p st) 0 0 : Nat)) w')) := fun A cc w' h' => by
      rw [castT_length]
      exact firstApartI A cc (waysT p st) hlow (by omega) (waysT p st).length 0 0 (by omega) (by omega) w' h'
    have hfa : faN (waysT p st) 0 0 < 65536 := faN_lt (waysT p st) 0 0 (by omega) (Nat.zero_le _)
    have HMK : Hid (∀ w', Calls Try.prog 67 #[.int .i64 (faN (waysT p st) 0 0 : Nat), .int .i64 ((castT (waysT p st)).length : Nat)] w' (NewList w' (mrkL (faN (waysT p st) 0 0) (waysT p st).length))) := fun w' => by
      rw [castT_length]; exact marksOfI _ _ hfa hmany w'
    clear hfa hmany hlow hb ht h0 hst hst1
    go_enter Try.func34, Try.ntmps34
    go_wp2_with fail
    rw [← HW.out]
    go_wp2_with (first | (go_at_call 20; refine (HWS.out _ HBW.out).mono ?_; rintro e w2 ⟨T, ct, rfl, hb2, ho2⟩; have HO2 := Lib.hid (own_lt ho2); have HB2 := Lib.hid hb2; have cc := HB.out.still hb2; have d0 := cc.c0; have d1 := cc.c1; clear hb2 ho2 cc c0 c1) | (go_at_call 65; refine (HFA.out T ct _ HO2.out).mono ?_; rintro e w3 ⟨rfl, hb3⟩; have HB3 := Lib.hid hb3; clear hb3) | (go_at_call 67; refine (HMK.out _).mono ?_; rintro e w4 ⟨T4, c4, rfl, hb4, ho4⟩))
    go_ret
    have hbb := belT (belT HBW.out HB2.out) HB3.out
    exact ⟨T4, c4, rfl, belT hbb hb4, ho4.more hbb.size (Nat.le_refl _)⟩

set_option maxHeartbeats 2000000 in
set_option maxRecDepth 100000 in
theorem guardGame_impl (P : Int) (A : Option Addr) (c : Nat) (l : List Int) (hl : l.length ≤ 4294967296) (hwl : WfL l) (w : World) (h : Ints w (fun b => b < w.heap.size) A l) :
    Calls Try.prog 25 #[twnV P A l.length c] w (NewTable w (grdI P l)) := by
  obtain ⟨W, hW, hB, hbW, hsz⟩ := twn_world w P A l.length c
  have c0 := hB.c0
  have c1 := hB.c1
  have HB := Lib.hid hB
  have HBW := Lib.hid hbW
  have HW := Lib.hid hW
  have HWS := Lib.hid (fun w' (hb : Below w.heap.size w w') => waysOf_impl P A c l hl hwl w' ((keepInts hb h).lt hb.size))
  clear hW hB hbW hsz hl hwl h
  unfold twnV at HWS ⊢
  rcases Nat.eq_zero_or_pos (waysI P l).length with h0 | h0
  · have he := List.eq_nil_of_length_eq_zero h0
    rw [show grdI P l = [] from (twn_nil h0).1]
    rw [he] at HWS
    clear h0 he
    go_enter Try.func25, Try.ntmps25
    go_wp2_with fail
    rw [← HW.out]
    go_wp2_with (go_at_call 20; refine (HWS.out _ HBW.out).mono ?_; rintro e w2 ⟨T, ct, rfl, hb2, ho2⟩; have HB2 := Lib.hid hb2; clear hb2 ho2)
    go_ret
    exact ⟨none, 0, rfl, belT HBW.out HB2.out, fun h0 => absurd h0 (by simp)⟩
  · have hb := town_way h0
    obtain ⟨p, st, rfl, rfl, ht⟩ := town_nat hb
    rw [waysI_yes ht, castT_length] at h0
    rw [grdI_yes ht h0, ← grd_sets]
    rw [castT_length] at c1 HB HW HWS
    rw [waysI_yes ht] at HWS
    rw [castT_length]
    have hmany := (ways_facts ht).many
    have hlow := ways_low ht
    have hst := ht.len
    have hst1 := way_street ht h0
    have hz : ((((castT (waysT p st)).length : Nat) : Int) == 0) = false := by rw [castT_length, beq_eq_false_iff_ne]; omega
    have HG : Hid (∀ (A : Option Addr) (cc : Nat) (w' : World), Ints w' (· < w'.heap.size) A (castT (waysT p st)) → Calls Try.prog 60 #[.slice A (castT (waysT p st)).length cc, .int .i64 (st.length : Nat)] w' (NewTable w' (setsG (waysT p st) st.length))) := fun A cc w' h' => by
      rw [castT_length]
      exact gameOfSetsI A cc (waysT p st) st.length hlow (by omega) hmany hst1 (by omega) w' h'
    clear hmany hlow hb ht h0 hst hst1
    go_enter Try.func25, Try.ntmps25
    go_wp2_with fail
    rw [← HW.out]
    go_wp2_with (first | (go_at_call 20; refine (HWS.out _ HBW.out).mono ?_; rintro e w2 ⟨T, ct, rfl, hb2, ho2⟩; have HO2 := Lib.hid (own_lt ho2); have HB2 := Lib.hid hb2; have cc := HB.out.still hb2; have d0 := cc.c0; have d1 := cc.c1; clear hb2 ho2 cc c0 c1) | (go_at_call 60; refine (HG.out T ct _ HO2.out).mono ?_; rintro e w4 ⟨T4, c4, rfl, hb4, ho4⟩))
    go_ret
    have hbb := belT HBW.out HB2.out
    exact ⟨T4, c4, rfl, belT hbb hb4, ho4.more hbb.size (Nat.le_refl _)⟩

set_option maxHeartbeats 2000000 in
set_option maxRecDepth 100000 in
theorem guardPlan_impl (P : Int) (A : Option Addr) (c : Nat) (l : List Int) (hl : l.length ≤ 4294967296) (hwl : WfL l) (w : World) (h : Ints w (fun b => b < w.heap.size) A l) :
    Calls Try.prog 33 #[twnV P A l.length c] w (NewList w (guaI P l)) := by
  obtain ⟨W, hW, hB, hbW, hsz⟩ := twn_world w P A l.length c
  have c0 := hB.c0
  have c1 := hB.c1
  have HB := Lib.hid hB
  have HBW := Lib.hid hbW
  have HW := Lib.hid hW
  have HWS := Lib.hid (fun w' (hb : Below w.heap.size w w') => waysOf_impl P A c l hl hwl w' ((keepInts hb h).lt hb.size))
  clear hW hB hbW hsz hl hwl h
  unfold twnV at HWS ⊢
  rcases Nat.eq_zero_or_pos (waysI P l).length with h0 | h0
  · have he := List.eq_nil_of_length_eq_zero h0
    rw [show guaI P l = [] from (twn_nil h0).2.2]
    rw [he] at HWS
    clear h0 he
    go_enter Try.func33, Try.ntmps33
    go_wp2_with fail
    rw [← HW.out]
    go_wp2_with (go_at_call 20; refine (HWS.out _ HBW.out).mono ?_; rintro e w2 ⟨T, ct, rfl, hb2, ho2⟩; have HB2 := Lib.hid hb2; clear hb2 ho2)
    go_ret
    exact ⟨none, 0, rfl, belT HBW.out HB2.out, fun h0 => absurd h0 (by simp)⟩
  · have hb := town_way h0
    obtain ⟨p, st, rfl, rfl, ht⟩ := town_nat hb
    rw [waysI_yes ht, castT_length] at h0
    rw [guaI_yes ht h0, ← cut_mrk]
    rw [castT_length] at c1 HB HW HWS
    rw [waysI_yes ht] at HWS
    rw [castT_length]
    have hmany := (ways_facts ht).many
    have hlow := ways_low ht
    have hst := ht.len
    have hst1 := way_street ht h0
    have hz : ((((castT (waysT p st)).length : Nat) : Int) == 0) = false := by rw [castT_length, beq_eq_false_iff_ne]; omega
    have hcut := cut_few ht h0
    have HFM : Hid (∀ (A : Option Addr) (cc : Nat) (w' : World), Ints w' (· < w'.heap.size) A (castT (waysT p st)) → Calls Try.prog 68 #[.slice A (castT (waysT p st)).length cc, .int .i64 (st.length : Nat)] w' (Adds (.int .i64 (cutT p st : Nat)) w')) := fun A cc w' h' => by
      rw [castT_length]
      exact fewestMeetingI A cc (waysT p st) st.length (cutT p st) hlow (by omega) hst hcut w' h'
    have hc5 : cutT p st < 65536 := by
      have h1 := (cut_facts ht h0).lt
      have h2 : 2 ^ st.length ≤ 256 := two_le8 hst
      omega
    have HMK : Hid (∀ w', Calls Try.prog 67 #[.int .i64 (cutT p st : Nat), .int .i64 (st.length : Nat)] w' (NewList w' (mrkL (cutT p st) st.length))) := fun w' => marksOfI _ _ hc5 (by omega) w'
    clear hmany hlow hb ht h0 hst hst1 hcut hc5
    go_enter Try.func33, Try.ntmps33
    go_wp2_with fail
    rw [← HW.out]
    go_wp2_with (first | (go_at_call 20; refine (HWS.out _ HBW.out).mono ?_; rintro e w2 ⟨T, ct, rfl, hb2, ho2⟩; have HO2 := Lib.hid (own_lt ho2); have HB2 := Lib.hid hb2; have cc := HB.out.still hb2; have d0 := cc.c0; have d1 := cc.c1; have s1 := stays cc.lt cc.c1; clear hb2 ho2 cc c0 c1))
    clear d0 d1
    have HI2 : Hid (∀ w', Below w2.heap.size w2 w' → Ints w' (· < w'.heap.size) T (castT (waysT p st))) := fun w' hb => (keepInts hb HO2.out).lt hb.size
    go_region_held3 (fun w' => Below w2.heap.size w2 w')
      (first | exact Below.refl _ _ | exact Below.drew (Below.refl _ _) | (refine Below.drew ?_; assumption) | exact belT (by assumption) (by assumption) | assumption)
      (first | (go_at_call 68; refine (HFM.out T ct _ (HI2.out _ (by first | exact Below.refl _ _ | exact Below.drew (Below.refl _ _) | (refine Below.drew ?_; assumption) | assumption))).mono ?_; rintro e w4 ⟨rfl, hb4⟩) | (go_at_call 67; refine (HMK.out _).mono ?_; rintro e w6 ⟨T6, c6, rfl, hb6, ho6⟩))
    have h6 : Below w2.heap.size w2 w6 := by assumption
    have e4 := hb4.size
    have e4' : w2.heap.size ≤ w4.heap.size := e4
    go_wp2_with fail
    go_ret
    have hbb := belT HBW.out HB2.out
    exact ⟨T6, c6, rfl, belT hbb h6, ho6.more (by have := hbb.size; omega) (Nat.le_refl _)⟩

theorem impl9 : Impl9 where
  ok P _ A c l hl hw w h := townOk_impl P A c l hl hw w h
  ways P _ A c l hl hw w h := waysOf_impl P A c l hl hw w h
  game P _ A c l hl hw w h := guardGame_impl P A c l hl hw w h
  most P _ A c l hl hw w h := mostWays_impl P A c l hl hw w h
  go P _ A c l hl hw w h := goPlan_impl P A c l hl hw w h
  guard P _ A c l hl hw w h := guardPlan_impl P A c l hl hw w h

end Go.Proofs.Ytcminkifdbdaaaa
