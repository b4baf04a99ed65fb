/- Plain mathematics of games, second part: weak duality, saddles, floors of the other side. It imports nothing of the program. -/
import Derived.Test.YtjojilimdhekfaaGmath
namespace Go.Proofs.Ytjojilimdhekfaa
set_option linter.unusedSimpArgs false
set_option linter.unusedVariables false

theorem bestN_neg (l m : List Int) (k : Nat) (h : ∀ i, i < k → nth m i = -nth l i) : bestN gtB m k = bestN ltB l k := by
  induction k with
  | zero => rfl
  | succ k ih =>
    have e := ih (fun i hi => h i (by omega))
    simp only [bestN]
    rw [e]
    have hb : k = 0 ∨ bestN ltB l k < k := by
      by_cases h0 : k = 0
      · exact .inl h0
      · exact .inr (bestN_lt _ _ (by omega) (Nat.le_refl _))
    have hk := h k (by omega)
    have hb2 : nth m (bestN ltB l k) = -nth l (bestN ltB l k) := by
      rcases hb with h0 | hb
      · subst h0; exact h 0 (by omega)
      · exact h _ (by omega)
    have : gtB (nth m k) (nth m (bestN ltB l k)) = ltB (nth l k) (nth l (bestN ltB l k)) := by
      show decide _ = decide _
      rw [hk, hb2, Bool.eq_iff_iff]; simp
    rw [this]

/-- the least of the numbers with the other sign is the greatest, with the other sign -/
theorem lowN_negs (l : List Int) (k : Nat) (hk : k ≤ l.length) (h0 : 0 < l.length) : lowN (negs l) k = -highN l k := by
  induction k with
  | zero => exact nth_negs l 0 h0
  | succ k ih =>
    simp only [lowN, highN]
    rw [ih (by omega), nth_negs l k (by omega)]; omega

theorem nth_lows_turned {g : List (List Int)} {m : Nat} (h : Game g m) (j : Nat) (hj : j < m) : nth (lows (turnedL g)) j = -nth (highs g) j := by
  have hm := h.to.2
  subst hm
  rw [nth_lows _ _ (by rw [turnedL_length]; exact hj), turnedL_row_length g j hj, rowAt_turnedL g j hj, nth_highs g j hj]
  exact lowN_negs _ _ (by rw [col_length]; exact Nat.le_refl _) (by rw [col_length]; exact h.lo)

theorem floor_turned {g : List (List Int)} (h : gameB g = true) : gameB (turned g) = true ∧ floV (turned g) = -rooV g ∧ floA (turned g) = rooA g := by
  have hg := Game.of h
  have e1 : turned g = turnedL g := by simp [turned, h]
  have ht := (turned_game hg).to.1
  have ha : floorAt (turnedL g) = roofAt g := by
    unfold floorAt roofAt
    rw [turnedL_length]
    exact bestN_neg _ _ _ (fun j hj => nth_lows_turned hg j hj)
  refine ⟨by rw [e1]; exact ht, ?_, ?_⟩
  · rw [e1]; simp only [floV, rooV, ht, h, if_true]
    unfold floorV roofV
    rw [ha]; exact nth_lows_turned hg _ (bestN_lt _ _ hg.mlo (Nat.le_refl _))
  · rw [e1]; simp only [floA, rooA, ht, h, if_true]; rw [ha]

/-- the floor is the greatest of the lows; the roof the least of the highs -/
theorem low_le_floor {g : List (List Int)} (h : gameB g = true) (i : Nat) (hi : i < g.length) : nth (lows g) i ≤ floV g := by
  simp only [floV, h, if_true]; unfold floorV floorAt; rw [bestN_high]; exact le_highN _ hi

theorem floor_at {g : List (List Int)} (h : gameB g = true) : ∃ i, i < g.length ∧ floA g = (i : Int) ∧ floV g = nth (lows g) i := by
  have hg := Game.of h
  refine ⟨floorAt g, bestN_lt _ _ hg.lo (Nat.le_refl _), by simp [floA, h], by simp only [floV, h, if_true]; rfl⟩

theorem roof_le_high {g : List (List Int)} (h : gameB g = true) (j : Nat) (hj : j < (rowAt g 0).length) : rooV g ≤ nth (highs g) j := by
  simp only [rooV, h, if_true]; unfold roofV roofAt; rw [bestN_low]; exact lowN_le _ hj

theorem roof_at {g : List (List Int)} (h : gameB g = true) : ∃ j, j < (rowAt g 0).length ∧ rooV g = nth (highs g) j := by
  have hg := Game.of h
  refine ⟨roofAt g, bestN_lt _ _ hg.mlo (Nat.le_refl _), by simp only [rooV, h, if_true]; rfl⟩

theorem low_le_cell {g : List (List Int)} {m : Nat} (h : Game g m) (i j : Nat) (hi : i < g.length) (hj : j < m) : nth (lows g) i ≤ nth (rowAt g i) j := by
  rw [nth_lows g i hi]; exact lowN_le _ (by rw [h.len i hi]; exact hj)

theorem cell_le_high {g : List (List Int)} {m : Nat} (h : Game g m) (i j : Nat) (hi : i < g.length) (hj : j < m) : nth (rowAt g i) j ≤ nth (highs g) j := by
  have hm := h.to.2
  subst hm
  rw [nth_highs g j hj, ← nth_col g j i hi]; exact le_highN _ hi

theorem floor_le_roof {g : List (List Int)} (h : gameB g = true) : floV g ≤ rooV g := by
  have hg := Game.of h
  obtain ⟨i, hi, _, e1⟩ := floor_at h
  obtain ⟨j, hj, e2⟩ := roof_at h
  have := low_le_cell hg i j hi hj
  have := cell_le_high hg i j hi hj
  omega

/-- a saddle is the floor and the roof -/
theorem saddle_is {g : List (List Int)} (h : gameB g = true) {i j : Nat} (hi : i < g.length) (hj : j < (rowAt g 0).length) (hs : sadB g i j = true) : nth (rowAt g i) j = floV g ∧ floV g = rooV g := by
  simp only [sadB, Bool.and_eq_true, beq_iff_eq] at hs
  have a := low_le_floor h i hi
  have b := roof_le_high h j hj
  have c := floor_le_roof h
  omega

theorem saddle_of {g : List (List Int)} (h : gameB g = true) (e : floV g = rooV g) : ∃ i j, i < g.length ∧ j < (rowAt g 0).length ∧ sadB g i j = true := by
  have hg := Game.of h
  obtain ⟨i, hi, _, e1⟩ := floor_at h
  obtain ⟨j, hj, e2⟩ := roof_at h
  have a := low_le_cell hg i j hi hj
  have b := cell_le_high hg i j hi hj
  refine ⟨i, j, hi, hj, ?_⟩
  simp only [sadB, Bool.and_eq_true, beq_iff_eq]
  omega

theorem mem_sadRow {g : List (List Int)} {i j : Nat} {x : Int} : x ∈ sadRow g i j ↔ ∃ j', j' < j ∧ sadB g i j' = true ∧ x = (i : Int) * ((rowAt g 0).length : Int) + (j' : Int) := by
  induction j with
  | zero => simp [sadRow]
  | succ j ih =>
    simp only [sadRow]
    by_cases hs : sadB g i j = true
    · rw [if_pos hs, List.mem_append, ih, List.mem_singleton]
      constructor
      · rintro (⟨j', h1, h2, h3⟩ | h)
        · exact ⟨j', by omega, h2, h3⟩
        · exact ⟨j, by omega, hs, h⟩
      · rintro ⟨j', h1, h2, h3⟩
        by_cases e : j' = j
        · subst e; exact .inr h3
        · exact .inl ⟨j', by omega, h2, h3⟩
    · rw [if_neg hs, ih]
      constructor
      · rintro ⟨j', h1, h2, h3⟩; exact ⟨j', by omega, h2, h3⟩
      · rintro ⟨j', h1, h2, h3⟩
        have : j' ≠ j := fun e => hs (e ▸ h2)
        exact ⟨j', by omega, h2, h3⟩

theorem mem_sadAll {g : List (List Int)} {i : Nat} {x : Int} : x ∈ sadAll g i ↔ ∃ i' j', i' < i ∧ j' < (rowAt g 0).length ∧ sadB g i' j' = true ∧ x = (i' : Int) * ((rowAt g 0).length : Int) + (j' : Int) := by
  induction i with
  | zero => simp [sadAll]
  | succ i ih =>
    simp only [sadAll]
    rw [List.mem_append, ih, mem_sadRow]
    constructor
    · rintro (⟨i', j', h1, h2, h3, h4⟩ | ⟨j', h1, h2, h3⟩)
      · exact ⟨i', j', by omega, h2, h3, h4⟩
      · exact ⟨i, j', by omega, h1, h2, h3⟩
    · rintro ⟨i', j', h1, h2, h3, h4⟩
      by_cases e : i' = i
      · subst e; exact .inr ⟨j', h2, h3, h4⟩
      · exact .inl ⟨i', j', by omega, h2, h3, h4⟩

theorem mem_saddles {g : List (List Int)} (h : gameB g = true) {x : Int} : x ∈ saddles g ↔ ∃ i j, i < g.length ∧ j < (rowAt g 0).length ∧ sadB g i j = true ∧ x = (i : Int) * ((rowAt g 0).length : Int) + (j : Int) := by
  simp only [saddles, h, if_true, sadUpTo, sadRow, List.append_nil]
  exact mem_sadAll

theorem sorted_sadRow (g : List (List Int)) (i j : Nat) : (sadRow g i j).Pairwise (· < ·) := by
  induction j with
  | zero => simp [sadRow]
  | succ j ih =>
    simp only [sadRow]
    split
    · rw [List.pairwise_append]
      refine ⟨ih, by simp, fun a ha b hb => ?_⟩
      obtain ⟨j', h1, _, rfl⟩ := mem_sadRow.1 ha
      rw [List.mem_singleton] at hb
      omega
    · exact ih

theorem sorted_sadAll (g : List (List Int)) (i : Nat) : (sadAll g i).Pairwise (· < ·) := by
  induction i with
  | zero => simp [sadAll]
  | succ i ih =>
    simp only [sadAll]
    rw [List.pairwise_append]
    refine ⟨ih, sorted_sadRow g i _, fun a ha b hb => ?_⟩
    obtain ⟨i', j', h1, h2, _, rfl⟩ := mem_sadAll.1 ha
    obtain ⟨j'', h3, _, rfl⟩ := mem_sadRow.1 hb
    have h4 : ((i' : Int) + 1) * ((rowAt g 0).length : Int) ≤ (i : Int) * ((rowAt g 0).length : Int) := Int.mul_le_mul_of_nonneg_right (by omega) (by omega)
    rw [Int.add_mul, Int.one_mul] at h4
    omega

theorem sorted_saddles (g : List (List Int)) : (saddles g).Pairwise (· < ·) := by
  unfold saddles
  split
  · unfold sadUpTo; simp only [sadRow, List.append_nil]; exact sorted_sadAll g _
  · simp

theorem saddles_iff {g : List (List Int)} (h : gameB g = true) : 0 < (saddles g).length ↔ floV g = rooV g := by
  rw [List.length_pos_iff_exists_mem]
  constructor
  · rintro ⟨x, hx⟩
    obtain ⟨i, j, hi, hj, hs, _⟩ := (mem_saddles h).1 hx
    exact (saddle_is h hi hj hs).2
  · intro e
    obtain ⟨i, j, hi, hj, hs⟩ := saddle_of h e
    exact ⟨_, (mem_saddles h).2 ⟨i, j, hi, hj, hs, rfl⟩⟩

theorem saddle_place {g : List (List Int)} (h : gameB g = true) {k : Nat} (hk : k < (saddles g).length) : ∃ i j : Nat, i < g.length ∧ j < (rowAt g 0).length ∧ nth (saddles g) k = (i : Int) * ((rowAt g 0).length : Int) + (j : Int) ∧ nth (rowAt g i) j = floV g := by
  obtain ⟨i, j, hi, hj, hs, e⟩ := (mem_saddles h).1 (nth_mem _ _ hk)
  exact ⟨i, j, hi, hj, e, (saddle_is h hi hj hs).1⟩

theorem sorted_nth {l : List Int} (h : l.Pairwise (· < ·)) {i j : Nat} (hij : i < j) (hj : j < l.length) : nth l i < nth l j := by
  rw [nth_eq l i (by omega), nth_eq l j hj]; exact List.pairwise_iff_getElem.1 h i j (by omega) hj hij

/-- what a place tells -/
theorem place_div {x : Int} {i j m : Nat} (hj : j < m) (e : x = (i : Int) * (m : Int) + (j : Int)) : x.tdiv (m : Int) = (i : Int) ∧ x.tmod (m : Int) = (j : Int) ∧ x / (m : Int) = (i : Int) ∧ x % (m : Int) = (j : Int) := by
  have h0 : 0 ≤ x := by rw [e]; exact Int.add_nonneg (Int.mul_nonneg (by omega) (by omega)) (by omega)
  have e1 : x / (m : Int) = (i : Int) := by
    rw [e, Int.add_comm, Int.add_mul_ediv_right _ _ (by omega), Int.ediv_eq_zero_of_lt (by omega) (by omega)]; omega
  have e2 : x % (m : Int) = (j : Int) := by
    rw [e, Int.add_comm, Int.add_mul_emod_self_right]; exact Int.emod_eq_of_lt (by omega) (by omega)
  exact ⟨by rw [Int.tdiv_eq_ediv_of_nonneg h0]; exact e1, by rw [Int.tmod_eq_emod_of_nonneg h0]; exact e2, e1, e2⟩

/-- a game without its last row -/
theorem game_take {g : List (List Int)} {m : Nat} (h : Game g m) (h1 : 1 < g.length) : gameB (g.take (g.length - 1)) = true := by
  have hr : ∀ i, i < g.length - 1 → rowAt (g.take (g.length - 1)) i = rowAt g i := fun i hi => by unfold rowAt; rw [List.getD_eq_getElem?_getD, List.getD_eq_getElem?_getD, List.getElem?_take, if_pos hi]
  have hl : (g.take (g.length - 1)).length = g.length - 1 := by rw [List.length_take]; omega
  have h2 := h.hi
  exact (Game.to (m := m) ⟨by omega, by omega, h.mlo, h.mhi, fun i hi => by rw [hr i (by omega)]; exact h.len i (by omega), fun i hi j hj => by rw [hr i (by omega)]; exact h.nlo i (by omega) j hj, fun i hi j hj => by rw [hr i (by omega)]; exact h.nhi i (by omega) j hj⟩).1

theorem game_one (x : Int) : gameB [[x]] = inB x := by simp [gameB, sideB, rowsB, rowB, numsB, rowAt, nth]

end Go.Proofs.Ytjojilimdhekfaa
