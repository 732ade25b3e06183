/-
  What this text proves: the plan keeps slots apart, and the crowd at a moment has at most as many slots as it has passes; the reference's order is the same. It speaks of plain functions.
-/
import Derived.Test.YtjcigpakljfkeaaUs
set_option linter.unusedVariables false
set_option linter.unusedSimpArgs false

namespace Go.Pv
/-- The slot that gets its number at turn j, and that number. -/
def ordN (sl : List (Int × Int)) (j : Nat) : Nat := (ordL sl).getD j 0
def numJ (rest : Int) (sl : List (Int × Int)) (j : Nat) : Int := smallN rest sl (planTo rest sl j) (sl.getD (ordN sl j) (0, 0))
theorem ordN_lt {sl : List (Int × Int)} {j : Nat} (h : j < sl.length) : ordN sl j < sl.length := ordL_lt (mem_getDz (by rw [ordL_len]; exact h))
theorem ordN_before {sl : List (Int × Int)} {i j : Nat} (h : i < j) (hj : j < sl.length) : beforeP sl (ordN sl i) (ordN sl j) := by
  have h1 := List.pairwise_iff_getElem.1 (ordL_sorted sl) i j (by rw [ordL_len]; omega) (by rw [ordL_len]; omega) h
  unfold ordN
  simpa [show i < (ordL sl).length by rw [ordL_len]; omega, show j < (ordL sl).length by rw [ordL_len]; omega] using h1
theorem ordN_inj {sl : List (Int × Int)} {i j : Nat} (hi : i < sl.length) (hj : j < sl.length) (h : ordN sl i = ordN sl j) : i = j := by
  rcases Nat.lt_trichotomy i j with h1 | h1 | h1
  · have := ordN_before h1 hj
    rw [h] at this; exact absurd this before_irr
  · exact h1
  · have := ordN_before h1 hi
    rw [h] at this; exact absurd this before_irr
theorem ordN_sur {sl : List (Int × Int)} {i : Nat} (h : i < sl.length) : ∃ j, j < sl.length ∧ ordN sl j = i := by
  have : i ∈ ordL sl := (ordL_perm sl).mem_iff.2 (by simpa using h)
  obtain ⟨j, h1, h2⟩ := getD_memz (d := 0) this
  exact ⟨j, by rwa [ordL_len] at h1, h2⟩
theorem getD_set {α : Type} {xs : List α} {i j : Nat} {x d : α} (hi : i < xs.length) : (xs.set i x).getD j d = if i = j then x else xs.getD j d := by
  simp only [List.getD_eq_getElem?_getD, List.getElem?_set]
  split
  · next e => subst e; simp [hi]
  · rfl
theorem planTo_get {rest : Int} {sl : List (Int × Int)} (hn : sl.length ≤ 40) : ∀ {k : Nat}, k ≤ sl.length → ∀ j, j < sl.length → (planTo rest sl k).getD (ordN sl j) (-1) = if j < k then numJ rest sl j else -1
  | 0, _, j, hj => by
    have := ordN_lt hj
    simp only [planTo]
    rw [if_neg (by omega), List.getD_eq_getElem?_getD, List.getElem?_replicate, if_pos (by omega)]; rfl
  | k + 1, hk, j, hj => by
    have h1 := planTo_get (rest := rest) hn (k := k) (by omega) j hj
    show ((planTo rest sl k).set (ordN sl k) (numJ rest sl k)).getD (ordN sl j) (-1) = _
    rw [getD_set (by rw [planTo_len]; have := ordN_lt (sl := sl) (j := k) (by omega); omega)]
    by_cases e : k = j
    · subst e; rw [if_pos rfl, if_pos (by omega)]
    · rw [if_neg (fun h => e (ordN_inj (by omega) hj h)), h1]
      by_cases e2 : j < k
      · rw [if_pos e2, if_pos (by omega)]
      · rw [if_neg e2, if_neg (by omega)]
theorem planL_len {rest : Int} {sl : List (Int × Int)} (hn : sl.length ≤ 40) : (planL rest sl).length = sl.length := by
  unfold planL; rw [List.length_take, planTo_len]; omega
theorem planL_get {rest : Int} {sl : List (Int × Int)} (hn : sl.length ≤ 40) {j : Nat} (hj : j < sl.length) : (planL rest sl).getD (ordN sl j) 0 = numJ rest sl j := by
  have h1 := planTo_get (rest := rest) hn (k := sl.length) (Nat.le_refl _) j hj
  have h2 := ordN_lt hj
  rw [if_pos hj] at h1
  rw [← h1]
  unfold planL
  have h3 := planTo_len rest sl sl.length
  simp only [List.getD_eq_getElem?_getD, List.getElem?_take]
  rw [if_pos h2, List.getElem?_eq_getElem (by omega)]
  rfl
theorem numJ_ex {rest : Int} {sl : List (Int × Int)} (j : Nat) : ∃ m : Nat, numJ rest sl j = m ∧ m ≤ sl.length ∧ freeN rest sl (planTo rest sl j) (sl.getD (ordN sl j) (0, 0)) m ∧ ∀ k : Nat, k < m → ¬ freeN rest sl (planTo rest sl j) (sl.getD (ordN sl j) (0, 0)) k := small_ex
/-- Whoever has a smaller number was before, and clashes. -/
theorem numJ_below {rest : Int} {sl : List (Int × Int)} (hn : sl.length ≤ 40) {j k : Nat} (hj : j < sl.length) (hk : (k : Int) < numJ rest sl j) : ∃ i, i < j ∧ numJ rest sl i = k ∧ clashP rest (sl.getD (ordN sl j) (0, 0)) (sl.getD (ordN sl i) (0, 0)) := by
  obtain ⟨m, h1, h2, h3, h4⟩ := numJ_ex (rest := rest) (sl := sl) j
  have h5 := h4 k (by omega)
  unfold freeN at h5
  refine Classical.byContradiction fun hc => h5 fun i hi e hcl => hc ?_
  obtain ⟨i', h6, rfl⟩ := ordN_sur hi
  rw [planTo_get hn (by omega) i' h6] at e
  split at e
  · next h7 => exact ⟨i', h7, e, hcl⟩
  · omega
theorem numJ_apart {rest : Int} {sl : List (Int × Int)} (hn : sl.length ≤ 40) {i j : Nat} (hi : i < j) (hj : j < sl.length) (h : numJ rest sl i = numJ rest sl j) : ¬ clashP rest (sl.getD (ordN sl j) (0, 0)) (sl.getD (ordN sl i) (0, 0)) := by
  obtain ⟨m, h1, h2, h3, h4⟩ := numJ_ex (rest := rest) (sl := sl) j
  refine h3 (ordN sl i) (ordN_lt (by omega)) ?_
  rw [planTo_get hn (by omega) i (by omega), if_pos hi]; omega
theorem planL_apart {rest : Int} {sl : List (Int × Int)} (hn : sl.length ≤ 40) : apart rest sl (planL rest sl) := by
  intro i hi k hk h
  obtain ⟨j, h1, rfl⟩ := ordN_sur hi
  obtain ⟨j', h2, rfl⟩ := ordN_sur (show k < sl.length by omega)
  rw [planL_get hn h1, planL_get hn h2] at h
  rcases Nat.lt_trichotomy j j' with h3 | h3 | h3
  · exact numJ_apart hn h3 h2 h.1 (clash_comm.1 h.2)
  · subst h3; omega
  · exact numJ_apart hn h3 h1 h.1.symm h.2
theorem passTo_max {plan : List Int} : ∀ {k : Nat}, (∀ j, j < k → 0 ≤ plan.getD j 0) → (∀ j, j < k → plan.getD j 0 + 1 ≤ passTo plan k) ∧ (0 < k → ∃ j, j < k ∧ plan.getD j 0 + 1 = passTo plan k)
  | 0, _ => ⟨fun j hj => by omega, fun h => by omega⟩
  | k + 1, h => by
    obtain ⟨h1, h2⟩ := passTo_max (k := k) fun j hj => h j (by omega)
    have h0 := h k (by omega)
    simp only [passTo, Int.max_def]
    refine ⟨fun j hj => ?_, fun _ => ?_⟩
    · by_cases e : j = k
      · subst e; split <;> omega
      · have := h1 j (by omega); split <;> omega
    · by_cases e : passTo plan k ≤ plan.getD k 0 + 1
      · exact ⟨k, by omega, by rw [if_pos e]⟩
      · by_cases e2 : 0 < k
        · obtain ⟨j, h3, h4⟩ := h2 e2
          exact ⟨j, by omega, by rw [if_neg e]; exact h4⟩
        · have : k = 0 := by omega
          subst this
          exact absurd (show (0 : Int) ≤ plan.getD 0 0 + 1 by omega) e
theorem nodup_le : ∀ (n : Nat) (L : List Int), L.Nodup → (∀ x ∈ L, 0 ≤ x ∧ x < n) → L.length ≤ n
  | 0, L, _, h => by
    cases L with
    | nil => simp
    | cons x r => have := h x (by simp); omega
  | n + 1, L, hd, h => by
    by_cases e : (n : Int) ∈ L
    · have h1 := List.length_erase_of_mem e
      have h2 := nodup_le n (L.erase (n : Int)) (hd.erase _) fun x hx => by
        have h3 := h x (List.mem_of_mem_erase hx)
        have : x ≠ n := fun e => by subst e; exact (List.Nodup.not_mem_erase hd) hx
        omega
      omega
    · have := nodup_le n L hd fun x hx => by
        have h3 := h x hx
        have : x ≠ n := fun e2 => e (by rw [← e2]; exact hx)
        omega
      omega
theorem crowd_mem {rest m : Int} {sl : List (Int × Int)} {x : Int} : ∀ {k : Nat}, x ∈ crowdTo rest sl m k ↔ ∃ i, i < k ∧ x = (i : Int) ∧ inC rest m (sl.getD i (0, 0))
  | 0 => by simp [crowdTo]
  | k + 1 => by
    simp only [crowdTo]
    split
    · next h =>
      rw [List.mem_append, crowd_mem]
      constructor
      · rintro (⟨i, h1, h2, h3⟩ | h1)
        · exact ⟨i, by omega, h2, h3⟩
        · simp at h1; exact ⟨k, by omega, h1, h⟩
      · rintro ⟨i, h1, h2, h3⟩
        by_cases e : i = k
        · subst e; exact .inr (by simp [h2])
        · exact .inl ⟨i, by omega, h2, h3⟩
    · next h =>
      rw [crowd_mem]
      constructor
      · rintro ⟨i, h1, h2, h3⟩; exact ⟨i, by omega, h2, h3⟩
      · rintro ⟨i, h1, h2, h3⟩
        have : i ≠ k := fun e => by subst e; exact h h3
        exact ⟨i, by omega, h2, h3⟩
theorem crowd_lt (rest m : Int) (sl : List (Int × Int)) : ∀ k, (crowdTo rest sl m k).Pairwise (· < ·)
  | 0 => by simp [crowdTo]
  | k + 1 => by
    simp only [crowdTo]
    split
    · refine List.pairwise_append.2 ⟨crowd_lt rest m sl k, by simp, fun a ha b hb => ?_⟩
      obtain ⟨i, h1, h2, h3⟩ := crowd_mem.1 ha
      simp at hb; omega
    · exact crowd_lt rest m sl k
theorem inC_clash {rest m : Int} {a b : Int × Int} (ha : inC rest m a) (hb : inC rest m b) : clashP rest a b := by unfold inC at *; unfold clashP; omega
/-- A plan that keeps slots apart has at least as many passes as a crowd has slots. -/
theorem crowd_le {rest m : Int} {sl : List (Int × Int)} {plan : List Int} {N : Nat} (ha : apart rest sl plan) (hb : ∀ i, i < sl.length → 0 ≤ plan.getD i 0 ∧ plan.getD i 0 < N) : (crowdL rest sl m).length ≤ N := by
  have h1 := nodup_le N ((crowdL rest sl m).map fun x => plan.getD x.toNat 0) ?_ ?_
  · simpa using h1
  · rw [List.Nodup, List.pairwise_map]
    refine List.Pairwise.imp_of_mem ?_ (crowd_lt rest m sl sl.length)
    intro x y hx hy hlt e
    obtain ⟨i, a1, rfl, a3⟩ := crowd_mem.1 hx
    obtain ⟨k, b1, rfl, b3⟩ := crowd_mem.1 hy
    exact ha k b1 i (by omega) ⟨by simpa using e.symm, inC_clash b3 a3⟩
  · intro x hx
    obtain ⟨y, hy, rfl⟩ := List.mem_map.1 hx
    obtain ⟨i, a1, rfl, a3⟩ := crowd_mem.1 hy
    simpa using hb i a1
/-- The passes of the plan. -/
theorem planL_num {rest : Int} {sl : List (Int × Int)} (hn : sl.length ≤ 40) : (∀ i, i < sl.length → 0 ≤ (planL rest sl).getD i 0 ∧ (planL rest sl).getD i 0 + 1 ≤ passL (planL rest sl)) ∧ (0 < sl.length → ∃ j, j < sl.length ∧ numJ rest sl j + 1 = passL (planL rest sl)) := by
  have h0 : ∀ i, i < sl.length → 0 ≤ (planL rest sl).getD i 0 := fun i hi => by
    obtain ⟨j, h1, rfl⟩ := ordN_sur hi
    rw [planL_get hn h1]
    obtain ⟨m, h2, _⟩ := numJ_ex (rest := rest) (sl := sl) j
    omega
  obtain ⟨h1, h2⟩ := passTo_max (plan := planL rest sl) (k := (planL rest sl).length) fun j hj => h0 j (by rwa [planL_len hn] at hj)
  rw [planL_len hn] at h1 h2
  unfold passL
  rw [planL_len hn]
  refine ⟨fun i hi => ⟨h0 i hi, h1 i hi⟩, fun hp => ?_⟩
  obtain ⟨i, h3, h4⟩ := h2 hp
  obtain ⟨j, h5, rfl⟩ := ordN_sur h3
  rw [planL_get hn h5] at h4
  exact ⟨j, h5, h4⟩
theorem ord_from {sl : List (Int × Int)} {i j : Nat} (h : i ≤ j) (hj : j < sl.length) : (sl.getD (ordN sl i) (0, 0)).1 ≤ (sl.getD (ordN sl j) (0, 0)).1 := by
  by_cases e : i = j
  · subst e; exact Int.le_refl _
  · have := ordN_before (show i < j by omega) hj
    unfold beforeP at this; omega
/-- Where the slot with the greatest number begins, the crowd has as many slots as the plan has passes. -/
theorem crowd_ge {rest : Int} {sl : List (Int × Int)} (hj : jobErr rest sl = 0) {j : Nat} (h : j < sl.length) (hp : numJ rest sl j + 1 = passL (planL rest sl)) : passL (planL rest sl) ≤ (crowdL rest sl (sl.getD (ordN sl j) (0, 0)).1).length := by
  obtain ⟨h1, hn, h3⟩ := job_inv hj
  obtain ⟨m, hm, _⟩ := numJ_ex (rest := rest) (sl := sl) j
  have h4 := pigeon (m + 1) ((crowdL rest sl (sl.getD (ordN sl j) (0, 0)).1).map fun x => (planL rest sl).getD x.toNat 0) fun k hk => ?_
  · rw [List.length_map] at h4; omega
  · by_cases e : k = m
    · subst e
      refine List.mem_map.2 ⟨(ordN sl j : Int), crowd_mem.2 ⟨ordN sl j, ordN_lt h, rfl, ?_⟩, ?_⟩
      · have := h3 _ (ordN_lt h); unfold inC; omega
      · rw [Int.toNat_natCast, planL_get hn h]; exact hm
    · obtain ⟨i, h5, h6, h7⟩ := numJ_below hn h (show (k : Int) < numJ rest sl j by omega)
      refine List.mem_map.2 ⟨(ordN sl i : Int), crowd_mem.2 ⟨ordN sl i, ordN_lt (by omega), rfl, ?_⟩, ?_⟩
      · have := ord_from (sl := sl) (Nat.le_of_lt h5) h
        unfold clashP at h7; unfold inC; omega
      · rw [Int.toNat_natCast, planL_get hn (by omega)]; exact h6
/-- No plan that keeps slots apart has fewer passes than a crowd has slots; so the plan has the fewest. -/
theorem crowd_all {rest m : Int} {sl : List (Int × Int)} (hj : jobErr rest sl = 0) : ((crowdL rest sl m).length : Int) ≤ passL (planL rest sl) := by
  obtain ⟨h1, hn, h3⟩ := job_inv hj
  obtain ⟨h4, h5⟩ := planL_num (rest := rest) hn
  have h0 : 0 ≤ passL (planL rest sl) := by
    by_cases e : 0 < sl.length
    · have := h4 0 e; omega
    · have e2 := planL_len (rest := rest) hn
      unfold passL
      rw [e2, show sl.length = 0 by omega]; simp [passTo]
  have := crowd_le (m := m) (N := (passL (planL rest sl)).toNat) (planL_apart (rest := rest) hn) fun i hi => by have := h4 i hi; omega
  omega
/-- How many slots the crowd has where the slot of turn j begins. -/
def cntJ (rest : Int) (sl : List (Int × Int)) (j : Nat) : Int := (crowdL rest sl (sl.getD (ordN sl j) (0, 0)).1).length
theorem mom_inv {rest : Int} {sl : List (Int × Int)} (h0 : ∀ j, j < sl.length → 1 ≤ cntJ rest sl j) : ∀ {k : Nat}, k ≤ sl.length → (∀ j, j < k → cntJ rest sl j ≤ (momTo rest sl k).2) ∧ (0 < k → ∃ j, j < k ∧ momTo rest sl k = ((sl.getD (ordN sl j) (0, 0)).1, cntJ rest sl j) ∧ ∀ i, i < j → cntJ rest sl i < cntJ rest sl j)
  | 0, _ => ⟨fun j hj => by omega, fun h => by omega⟩
  | k + 1, hk => by
    obtain ⟨h1, h2⟩ := mom_inv h0 (k := k) (by omega)
    have e : momTo rest sl (k + 1) = if (momTo rest sl k).2 < cntJ rest sl k then ((sl.getD (ordN sl k) (0, 0)).1, cntJ rest sl k) else momTo rest sl k := rfl
    rw [e]
    split
    · next hc =>
      refine ⟨fun j hj => ?_, fun _ => ⟨k, by omega, rfl, fun i hi => by have := h1 i hi; omega⟩⟩
      by_cases e2 : j = k
      · subst e2; exact Int.le_refl _
      · have := h1 j (by omega); show _ ≤ cntJ rest sl k; omega
    · next hc =>
      refine ⟨fun j hj => ?_, fun _ => ?_⟩
      · by_cases e2 : j = k
        · subst e2; omega
        · exact h1 j (by omega)
      · by_cases e2 : 0 < k
        · obtain ⟨j, h3, h4, h5⟩ := h2 e2
          exact ⟨j, by omega, h4, h5⟩
        · have : k = 0 := by omega
          subst this
          have := h0 0 (by omega)
          simp [momTo] at hc; omega
/-- The moment that is found is the first one at which a slot begins and whose crowd has as many slots as the plan has passes. -/
theorem mom_first {rest : Int} {sl : List (Int × Int)} (hj : jobErr rest sl = 0) (hne : 0 < sl.length) : (∃ i, i < sl.length ∧ momL rest sl = (sl.getD i (0, 0)).1) ∧ ((crowdL rest sl (momL rest sl)).length : Int) = passL (planL rest sl) ∧ ∀ i, i < sl.length → ((crowdL rest sl (sl.getD i (0, 0)).1).length : Int) = passL (planL rest sl) → momL rest sl ≤ (sl.getD i (0, 0)).1 := by
  obtain ⟨h1, hn, h3⟩ := job_inv hj
  have h0 : ∀ j, j < sl.length → 1 ≤ cntJ rest sl j := fun j hj' => by
    have : (ordN sl j : Int) ∈ crowdL rest sl (sl.getD (ordN sl j) (0, 0)).1 := crowd_mem.2 ⟨ordN sl j, ordN_lt hj', rfl, by have := h3 _ (ordN_lt hj'); unfold inC; omega⟩
    have := List.length_pos_of_mem this
    unfold cntJ; omega
  obtain ⟨h4, h5⟩ := mom_inv h0 (Nat.le_refl _)
  obtain ⟨j, h6, h7, h8⟩ := h5 hne
  obtain ⟨-, h9⟩ := planL_num (rest := rest) hn
  obtain ⟨j', a1, a2⟩ := h9 hne
  have a3 := crowd_ge hj a1 a2
  have a4 := h4 j' a1
  have a5 := crowd_all (m := (sl.getD (ordN sl j) (0, 0)).1) hj
  have e1 : momL rest sl = (sl.getD (ordN sl j) (0, 0)).1 := by unfold momL; rw [h7]
  have e2 : cntJ rest sl j = passL (planL rest sl) := by
    rw [h7] at a4
    unfold cntJ at *
    simp only at a4
    omega
  refine ⟨⟨ordN sl j, ordN_lt h6, e1⟩, by rw [e1]; exact e2, fun i hi hc => ?_⟩
  obtain ⟨q, b1, rfl⟩ := ordN_sur hi
  rw [e1]
  by_cases e3 : q < j
  · have := h8 q e3
    have e4 : cntJ rest sl q = passL (planL rest sl) := hc
    omega
  · exact ord_from (by omega) b1
end Go.Pv

namespace Go.Pv
/-- Of the first k slots without a number the one that begins first; -1. -/
def nextTo (sl : List (Int × Int)) (plan : List Int) : Nat → Int
  | 0 => -1
  | k + 1 => if plan.getD k 0 < 0 ∧ (nextTo sl plan k < 0 ∨ (sl.getD k (0, 0)).1 < (sl.getD (nextTo sl plan k).toNat (0, 0)).1) then (k : Int) else nextTo sl plan k
theorem nextTo_yes {sl : List (Int × Int)} {plan : List Int} {k : Nat} (h : plan.getD k 0 < 0 ∧ (nextTo sl plan k < 0 ∨ (sl.getD k (0, 0)).1 < (sl.getD (nextTo sl plan k).toNat (0, 0)).1)) : nextTo sl plan (k + 1) = k := by simp only [nextTo]; rw [if_pos h]
theorem nextTo_no {sl : List (Int × Int)} {plan : List Int} {k : Nat} (h : ¬ (plan.getD k 0 < 0 ∧ (nextTo sl plan k < 0 ∨ (sl.getD k (0, 0)).1 < (sl.getD (nextTo sl plan k).toNat (0, 0)).1))) : nextTo sl plan (k + 1) = nextTo sl plan k := by simp only [nextTo]; rw [if_neg h]
theorem nextTo_spec {sl : List (Int × Int)} {plan : List Int} : ∀ k : Nat, (nextTo sl plan k = -1 ∧ ∀ i, i < k → 0 ≤ plan.getD i 0) ∨ ∃ j : Nat, nextTo sl plan k = j ∧ j < k ∧ plan.getD j 0 < 0 ∧ ∀ i, i < k → plan.getD i 0 < 0 → i = j ∨ beforeP sl j i
  | 0 => .inl ⟨rfl, fun i hi => by omega⟩
  | k + 1 => by
    by_cases hc : plan.getD k 0 < 0 ∧ (nextTo sl plan k < 0 ∨ (sl.getD k (0, 0)).1 < (sl.getD (nextTo sl plan k).toNat (0, 0)).1)
    · rw [nextTo_yes hc]
      refine .inr ⟨k, rfl, by omega, hc.1, fun i hi hp => ?_⟩
      by_cases e : i = k
      · exact .inl e
      · rcases nextTo_spec (sl := sl) (plan := plan) k with ⟨h1, h2⟩ | ⟨j, h1, h2, h3, h4⟩
        · have := h2 i (by omega); omega
        · right
          have h5 := h4 i (by omega) hp
          rw [h1] at hc
          rw [Int.toNat_natCast] at hc
          unfold beforeP at *
          rcases h5 with rfl | h5 <;> omega
    · rw [nextTo_no hc]
      rcases nextTo_spec (sl := sl) (plan := plan) k with ⟨h1, h2⟩ | ⟨j, h1, h2, h3, h4⟩
      · refine .inl ⟨h1, fun i hi => ?_⟩
        by_cases e : i = k
        · subst e; rw [h1] at hc; omega
        · exact h2 i (by omega)
      · refine .inr ⟨j, h1, by omega, h3, fun i hi hp => ?_⟩
        by_cases e : i = k
        · subst e
          right
          rw [h1, Int.toNat_natCast] at hc
          unfold beforeP; omega
        · exact h4 i (by omega) hp
theorem take_getD {α : Type} {xs : List α} {n i : Nat} {d e : α} (hi : i < n) (hl : i < xs.length) : (xs.take n).getD i d = xs.getD i e := by
  simp only [List.getD_eq_getElem?_getD, List.getElem?_take]
  rw [if_pos hi, List.getElem?_eq_getElem hl]; rfl
/-- The slot that is taken at turn r. -/
theorem nextTo_ord {rest : Int} {sl : List (Int × Int)} (hn : sl.length ≤ 40) {r : Nat} (hr : r < sl.length) : nextTo sl ((planTo rest sl r).take sl.length) sl.length = ordN sl r := by
  have hg : ∀ q, q < sl.length → ((planTo rest sl r).take sl.length).getD (ordN sl q) 0 = if q < r then numJ rest sl q else -1 := fun q hq => by
    rw [take_getD (e := -1) (ordN_lt hq) (by rw [planTo_len]; have := ordN_lt hq; omega)]
    exact planTo_get hn (by omega) q hq
  rcases nextTo_spec (sl := sl) (plan := (planTo rest sl r).take sl.length) sl.length with ⟨h1, h2⟩ | ⟨j, h1, h2, h3, h4⟩
  · have := h2 _ (ordN_lt hr)
    rw [hg r hr, if_neg (by omega)] at this; omega
  · obtain ⟨q, hq, rfl⟩ := ordN_sur h2
    rw [h1]
    rw [hg q hq] at h3
    split at h3
    · obtain ⟨m, h5, _⟩ := numJ_ex (rest := rest) (sl := sl) q; omega
    · next hqr =>
      have h5 := h4 _ (ordN_lt hr) (by rw [hg r hr, if_neg (by omega)]; omega)
      rcases h5 with h5 | h5
      · rw [h5]
      · by_cases e : q = r
        · rw [e]
        · exact absurd (before_tr h5 (ordN_before (show r < q by omega) hq)) before_irr
theorem planTo_take {rest : Int} {sl : List (Int × Int)} (hn : sl.length ≤ 40) {r : Nat} (hr : r < sl.length) : (planTo rest sl (r + 1)).take sl.length = ((planTo rest sl r).take sl.length).set (ordN sl r) (numJ rest sl r) := by
  show ((planTo rest sl r).set (ordN sl r) (numJ rest sl r)).take sl.length = _
  rw [List.take_set]
/-- The number is the same, whether the numbers of other slots lie behind those of the job's. -/
theorem small_take {rest : Int} {sl : List (Int × Int)} {t u : List Int} {s : Int × Int} (h : ∀ i, i < sl.length → t.getD i (-1) = u.getD i (-1)) : smallN rest sl t s = smallN rest sl u s := by
  obtain ⟨m, h1, h2, h3, h4⟩ := small_ex (rest := rest) (sl := sl) (t := u) (s := s)
  rw [h1]
  refine small_of (fun i hi e => h3 i hi (by rw [← h i hi]; exact e)) fun k hk hf => h4 k hk fun i hi e => hf i hi (by rw [h i hi]; exact e)
end Go.Pv
