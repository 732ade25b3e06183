/-
  What this text proves: what covers and packings are, in plain functions: the best pick for each number of ticks.
-/
import Derived.Test.YtlphfobpheefkaaGn
set_option linter.unusedVariables false
set_option linter.unusedSimpArgs false
namespace Go.Pv
open Go.RowKit
/-- A bound is as stated. -/
def bdOk (x : Int × Int) : Prop := (1 ≤ x.1 ∧ x.1 ≤ 100) ∧ 0 ≤ x.2 ∧ x.2 ≤ 1000000
instance (x : Int × Int) : Decidable (bdOk x) := by unfold bdOk; exact inferInstance
/-- All of the first k bounds are as stated. -/
def bdTo (l : List (Int × Int)) (k : Nat) : Prop := ∀ i, i < k → bdOk (l.getD i (0, 0))
instance (l : List (Int × Int)) (k : Nat) : Decidable (bdTo l k) := by unfold bdTo; exact inferInstance
theorem bdTo_next {l : List (Int × Int)} {k : Nat} (h : bdTo l k) (h2 : bdOk (l.getD k (0, 0))) : bdTo l (k + 1) := fun i hi => by
  by_cases e : i = k
  · subst e; exact h2
  · exact h i (by omega)
/-- The error of a list of bounds. -/
def bErr (l : List (Int × Int)) : Int := if l.length = 0 then 4 else if 5 < l.length then 5 else if bdTo l l.length then 0 else 3
/-- The error of a list of bounds and a number of ticks. -/
def lErr (l : List (Int × Int)) (t : Int) : Int := if bErr l = 0 then (if 0 ≤ t ∧ t ≤ 200 then 0 else 3) else bErr l
theorem bErr_inv {l : List (Int × Int)} (h : bErr l = 0) : (1 ≤ l.length ∧ l.length ≤ 5) ∧ bdTo l l.length := by
  unfold bErr at h
  split at h
  · omega
  · split at h
    · omega
    · split at h
      · next a => exact ⟨by omega, a⟩
      · omega
/-- A pick: its amount, its last bound, and for how many ticks the rest was picked. -/
abbrev Pk := Int × Int × Int
abbrev p3 (x : Pk) : List Value := [.int .i64 x.1, .int .i64 x.2.1, .int .i64 x.2.2]
abbrev vk (x : Pk) : Value := .agg #[.int .i64 x.1, .int .i64 x.2.1, .int .i64 x.2.2]
def pk0 : Pk := (0, -1, 0)
/-- Less, equal, greater. -/
def sgn (a b : Int) : Int := if a < b then -1 else if b < a then 1 else 0
def lowC (x y : Pk) : Int := sgn x.1 y.1
def highC (x y : Pk) : Int := sgn y.1 x.1
theorem sgn_neg {a b : Int} : sgn a b < 0 ↔ a < b := by unfold sgn; split <;> (try split) <;> omega
/-- The first one of the first elements than which none is before. -/
def minTo (c : Pk → Pk → Int) (xs : List Pk) : Nat → Pk
  | 0 => xs.getD 0 pk0
  | k + 1 => if c (xs.getD (k + 1) pk0) (minTo c xs k) < 0 then xs.getD (k + 1) pk0 else minTo c xs k
def minOf (c : Pk → Pk → Int) (xs : List Pk) : Pk := minTo c xs (xs.length - 1)
theorem minTo_yes {c : Pk → Pk → Int} {xs : List Pk} {k : Nat} (h : c (xs.getD (k + 1) pk0) (minTo c xs k) < 0) : minTo c xs (k + 1) = xs.getD (k + 1) pk0 := by simp only [minTo]; exact if_pos h
theorem minTo_no {c : Pk → Pk → Int} {xs : List Pk} {k : Nat} (h : ¬ c (xs.getD (k + 1) pk0) (minTo c xs k) < 0) : minTo c xs (k + 1) = minTo c xs k := by simp only [minTo]; exact if_neg h
/-- How many ticks are left before a bound. -/
def befN (l : List (Int × Int)) (n i : Nat) : Nat := n - (l.getD i (0, 0)).1.toNat
/-- A bound and the pick for the ticks that it leaves. -/
def extP (l : List (Int × Int)) (fw : List Pk) (i : Nat) : Pk := ((fw.getD (befN l fw.length i) pk0).1 + (l.getD i (0, 0)).2, (i : Int), (befN l fw.length i : Int))
def covTo (l : List (Int × Int)) (fw : List Pk) : Nat → List Pk
  | 0 => []
  | i + 1 => covTo l fw i ++ [extP l fw i]
def packTo (l : List (Int × Int)) (fw : List Pk) : Nat → List Pk
  | 0 => [fw.getD (fw.length - 1) pk0]
  | i + 1 => if (l.getD i (0, 0)).1 ≤ fw.length then packTo l fw i ++ [extP l fw i] else packTo l fw i
def covF (l : List (Int × Int)) (fw : List Pk) : List Pk := covTo l fw l.length
def packF (l : List (Int × Int)) (fw : List Pk) : List Pk := packTo l fw l.length
theorem covTo_len (l : List (Int × Int)) (fw : List Pk) : ∀ i, (covTo l fw i).length = i
  | 0 => rfl
  | i + 1 => by simp [covTo, covTo_len l fw i]
theorem packTo_len (l : List (Int × Int)) (fw : List Pk) : ∀ i, 1 ≤ (packTo l fw i).length ∧ (packTo l fw i).length ≤ i + 1
  | 0 => by simp [packTo]
  | i + 1 => by
    have := packTo_len l fw i
    simp only [packTo]
    split
    · simp; omega
    · omega
theorem packF_len (l : List (Int × Int)) (fw : List Pk) : 1 ≤ (packF l fw).length := (packTo_len l fw l.length).1
theorem covF_len (l : List (Int × Int)) (fw : List Pk) : (covF l fw).length = l.length := covTo_len l fw l.length
theorem pack_yes {l : List (Int × Int)} {fw : List Pk} {i : Nat} (h : (l.getD i (0, 0)).1 ≤ fw.length) : packTo l fw (i + 1) = packTo l fw i ++ [extP l fw i] := by simp only [packTo]; exact if_pos h
theorem pack_no {l : List (Int × Int)} {fw : List Pk} {i : Nat} (h : ¬ (l.getD i (0, 0)).1 ≤ fw.length) : packTo l fw (i + 1) = packTo l fw i := by simp only [packTo]; exact if_neg h
/-- The best picks for 0 ticks, 1 tick, and so on. -/
def bestL (F : List Pk → List Pk) (c : Pk → Pk → Int) : Nat → List Pk
  | 0 => [pk0]
  | n + 1 => bestL F c n ++ [minOf c (F (bestL F c n))]
theorem bestL_len (F : List Pk → List Pk) (c : Pk → Pk → Int) : ∀ n, (bestL F c n).length = n + 1
  | 0 => rfl
  | n + 1 => by simp [bestL, bestL_len F c n]
/-- The pick for so many ticks. -/
def bk (F : List Pk → List Pk) (c : Pk → Pk → Int) (n : Nat) : Pk := (bestL F c n).getD n pk0
theorem bestL_get (F : List Pk → List Pk) (c : Pk → Pk → Int) : ∀ (n i : Nat), i ≤ n → (bestL F c n).getD i pk0 = bk F c i
  | 0, i, h => by
    have : i = 0 := by omega
    subst this; rfl
  | n + 1, i, h => by
    by_cases e : i = n + 1
    · subst e; rfl
    · have ih := bestL_get F c n i (by omega)
      rw [← ih]
      simp only [bestL, List.getD]
      rw [List.getElem?_append_left (by rw [bestL_len]; omega)]
theorem bk_zero (F : List Pk → List Pk) (c : Pk → Pk → Int) : bk F c 0 = pk0 := rfl
theorem bk_succ (F : List Pk → List Pk) (c : Pk → Pk → Int) (n : Nat) : bk F c (n + 1) = minOf c (F (bestL F c n)) := by
  unfold bk
  simp only [bestL, List.getD]
  rw [List.getElem?_append_right (by rw [bestL_len]; omega), bestL_len]
  simp
theorem min_mem {c : Pk → Pk → Int} {xs : List Pk} : ∀ {k : Nat}, k < xs.length → ∃ i, i ≤ k ∧ minTo c xs k = xs.getD i pk0
  | 0, h => ⟨0, Nat.le_refl _, rfl⟩
  | k + 1, h => by
    obtain ⟨i, hi, e⟩ := min_mem (c := c) (xs := xs) (k := k) (by omega)
    by_cases hc : c (xs.getD (k + 1) pk0) (minTo c xs k) < 0
    · exact ⟨k + 1, Nat.le_refl _, minTo_yes hc⟩
    · exact ⟨i, by omega, (minTo_no hc).trans e⟩
theorem low_le {xs : List Pk} : ∀ {k i : Nat}, i ≤ k → (minTo lowC xs k).1 ≤ (xs.getD i pk0).1
  | 0, i, h => by
    have : i = 0 := by omega
    subst this; exact Int.le_refl _
  | k + 1, i, h => by
    by_cases hc : lowC (xs.getD (k + 1) pk0) (minTo lowC xs k) < 0
    · rw [minTo_yes hc]
      have h2 := sgn_neg.1 hc
      by_cases e : i = k + 1
      · subst e; exact Int.le_refl _
      · have := low_le (xs := xs) (k := k) (i := i) (by omega); omega
    · rw [minTo_no hc]
      by_cases e : i = k + 1
      · subst e
        have h2 : ¬ (xs.getD (k + 1) pk0).1 < (minTo lowC xs k).1 := fun q => hc (sgn_neg.2 q)
        omega
      · exact low_le (by omega)
theorem high_ge {xs : List Pk} : ∀ {k i : Nat}, i ≤ k → (xs.getD i pk0).1 ≤ (minTo highC xs k).1
  | 0, i, h => by
    have : i = 0 := by omega
    subst this; exact Int.le_refl _
  | k + 1, i, h => by
    by_cases hc : highC (xs.getD (k + 1) pk0) (minTo highC xs k) < 0
    · rw [minTo_yes hc]
      have h2 := sgn_neg.1 hc
      by_cases e : i = k + 1
      · subst e; exact Int.le_refl _
      · have := high_ge (xs := xs) (k := k) (i := i) (by omega); omega
    · rw [minTo_no hc]
      by_cases e : i = k + 1
      · subst e
        have h2 : ¬ (minTo highC xs k).1 < (xs.getD (k + 1) pk0).1 := fun q => hc (sgn_neg.2 q)
        omega
      · exact high_ge (by omega)
theorem cov_get {l : List (Int × Int)} {fw : List Pk} : ∀ {k i : Nat}, i < k → (covTo l fw k).getD i pk0 = extP l fw i
  | k + 1, i, h => by
    simp only [covTo, List.getD]
    by_cases e : i = k
    · subst e
      rw [List.getElem?_append_right (by rw [covTo_len]; omega), covTo_len]; simp
    · rw [List.getElem?_append_left (by rw [covTo_len]; omega)]
      exact cov_get (by omega)
/-- An element of the packings is the last pick, or a bound with the pick before it. -/
theorem pack_get {l : List (Int × Int)} {fw : List Pk} : ∀ {k j : Nat}, j < (packTo l fw k).length → (packTo l fw k).getD j pk0 = fw.getD (fw.length - 1) pk0 ∨ ∃ i, i < k ∧ (l.getD i (0, 0)).1 ≤ fw.length ∧ (packTo l fw k).getD j pk0 = extP l fw i
  | 0, j, h => by
    have : j = 0 := by simp [packTo] at h; omega
    subst this; exact .inl rfl
  | k + 1, j, h => by
    by_cases hy : (l.getD k (0, 0)).1 ≤ fw.length
    · rw [pack_yes hy] at h ⊢
      by_cases e : j < (packTo l fw k).length
      · have e2 : (packTo l fw k ++ [extP l fw k]).getD j pk0 = (packTo l fw k).getD j pk0 := by simp only [List.getD]; rw [List.getElem?_append_left e]
        rw [e2]
        rcases pack_get (l := l) (fw := fw) e with h1 | ⟨i, h1, h2, h3⟩
        · exact .inl h1
        · exact .inr ⟨i, by omega, h2, h3⟩
      · have e2 : (packTo l fw k ++ [extP l fw k]).getD j pk0 = extP l fw k := by
          have : j = (packTo l fw k).length := by simp at h; omega
          subst this
          simp only [List.getD]; rw [List.getElem?_append_right (Nat.le_refl _)]; simp
        exact .inr ⟨k, by omega, hy, e2⟩
    · rw [pack_no hy] at h ⊢
      rcases pack_get (l := l) (fw := fw) h with h1 | ⟨i, h1, h2, h3⟩
      · exact .inl h1
      · exact .inr ⟨i, by omega, h2, h3⟩
theorem pack_has {l : List (Int × Int)} {fw : List Pk} : ∀ {k i : Nat}, i < k → (l.getD i (0, 0)).1 ≤ fw.length → ∃ j, j < (packTo l fw k).length ∧ (packTo l fw k).getD j pk0 = extP l fw i
  | k + 1, i, h, hi => by
    by_cases e : i = k
    · subst e
      rw [pack_yes hi]
      exact ⟨(packTo l fw i).length, by simp, by simp only [List.getD]; rw [List.getElem?_append_right (Nat.le_refl _)]; simp⟩
    · obtain ⟨j, h1, h2⟩ := pack_has (l := l) (fw := fw) (k := k) (i := i) (by omega) hi
      by_cases hy : (l.getD k (0, 0)).1 ≤ fw.length
      · rw [pack_yes hy]
        exact ⟨j, by simp; omega, by rw [← h2]; simp only [List.getD]; rw [List.getElem?_append_left h1]⟩
      · rw [pack_no hy]; exact ⟨j, h1, h2⟩
theorem pack_first {l : List (Int × Int)} {fw : List Pk} : ∀ {k : Nat}, (packTo l fw k).getD 0 pk0 = fw.getD (fw.length - 1) pk0
  | 0 => rfl
  | k + 1 => by
    have ih := pack_first (l := l) (fw := fw) (k := k)
    have hl := packTo_len l fw k
    by_cases hy : (l.getD k (0, 0)).1 ≤ fw.length
    · rw [pack_yes hy, ← ih]; simp only [List.getD]; rw [List.getElem?_append_left (by omega)]
    · rw [pack_no hy]; exact ih
/-- The most and the least for so many ticks. -/
def covK (l : List (Int × Int)) (n : Nat) : Pk := bk (covF l) lowC n
def packK (l : List (Int × Int)) (n : Nat) : Pk := bk (packF l) highC n
def moN (l : List (Int × Int)) (n : Nat) : Int := (covK l n).1
def leN (l : List (Int × Int)) (n : Nat) : Int := (packK l n).1
section
variable {l : List (Int × Int)}
theorem cov_bef {l : List (Int × Int)} (hb : bdTo l l.length) {n i : Nat} (hi : i < l.length) : befN l (n + 1) i ≤ n := by
  have := (hb i hi).1
  unfold befN; omega
theorem cov_step (h1 : 1 ≤ l.length) (hb : bdTo l l.length) (n : Nat) : ∃ i, i < l.length ∧ covK l (n + 1) = (moN l (befN l (n + 1) i) + (l.getD i (0, 0)).2, (i : Int), (befN l (n + 1) i : Int)) := by
  obtain ⟨i, hi, e⟩ := min_mem (c := lowC) (xs := covF l (bestL (covF l) lowC n)) (k := (covF l (bestL (covF l) lowC n)).length - 1) (by unfold covF; rw [covTo_len]; omega)
  unfold covF at hi
  rw [covTo_len] at hi
  refine ⟨i, by omega, ?_⟩
  unfold covK
  rw [bk_succ]
  unfold minOf
  rw [e]
  unfold covF
  rw [cov_get (by omega)]
  unfold extP
  rw [bestL_len, bestL_get _ _ _ _ (cov_bef hb (by omega))]
  rfl
theorem cov_least (hb : bdTo l l.length) (n : Nat) {i : Nat} (hi : i < l.length) : moN l (n + 1) ≤ moN l (befN l (n + 1) i) + (l.getD i (0, 0)).2 := by
  have := low_le (xs := covF l (bestL (covF l) lowC n)) (k := (covF l (bestL (covF l) lowC n)).length - 1) (i := i) (by unfold covF; rw [covTo_len]; omega)
  have e : (covF l (bestL (covF l) lowC n)).getD i pk0 = extP l (bestL (covF l) lowC n) i := cov_get hi
  rw [e] at this
  unfold extP at this
  rw [bestL_len, bestL_get _ _ _ _ (cov_bef hb hi)] at this
  unfold moN covK
  rw [bk_succ]
  exact this
theorem pack_step (hb : bdTo l l.length) (n : Nat) : packK l (n + 1) = packK l n ∨ ∃ i, i < l.length ∧ (l.getD i (0, 0)).1 ≤ ((n + 1 : Nat) : Int) ∧ packK l (n + 1) = (leN l (befN l (n + 1) i) + (l.getD i (0, 0)).2, (i : Int), (befN l (n + 1) i : Int)) := by
  have hl := packF_len l (bestL (packF l) highC n)
  obtain ⟨j, hj, e⟩ := min_mem (c := highC) (xs := packF l (bestL (packF l) highC n)) (k := (packF l (bestL (packF l) highC n)).length - 1) (by omega)
  have e0 : packK l (n + 1) = (packF l (bestL (packF l) highC n)).getD j pk0 := by
    unfold packK; rw [bk_succ]; exact e
  rcases pack_get (l := l) (fw := bestL (packF l) highC n) (k := l.length) (j := j) (by show j < (packF l (bestL (packF l) highC n)).length; omega) with h1 | ⟨i, h1, h2, h3⟩
  · refine .inl ?_
    rw [e0]
    unfold packF at h1 ⊢
    rw [h1, bestL_len, bestL_get _ _ _ _ (by omega)]
    rfl
  · refine .inr ⟨i, h1, by rw [bestL_len] at h2; exact h2, ?_⟩
    rw [e0]
    unfold packF at h3 ⊢
    rw [h3]
    unfold extP
    rw [bestL_len, bestL_get _ _ _ _ (cov_bef hb h1)]
    rfl
theorem pack_most (hb : bdTo l l.length) (n : Nat) : leN l n ≤ leN l (n + 1) ∧ ∀ i, i < l.length → (l.getD i (0, 0)).1 ≤ ((n + 1 : Nat) : Int) → leN l (befN l (n + 1) i) + (l.getD i (0, 0)).2 ≤ leN l (n + 1) := by
  have hl := packTo_len l (bestL (packF l) highC n) l.length
  have hge := fun j hj => high_ge (xs := packF l (bestL (packF l) highC n)) (k := (packF l (bestL (packF l) highC n)).length - 1) (i := j) hj
  have e0 : leN l (n + 1) = (minTo highC (packF l (bestL (packF l) highC n)) ((packF l (bestL (packF l) highC n)).length - 1)).1 := by
    unfold leN packK; rw [bk_succ]; rfl
  rw [e0]
  constructor
  · have := hge 0 (Nat.zero_le _)
    have e1 : (packF l (bestL (packF l) highC n)).getD 0 pk0 = packK l n := by
      unfold packF; rw [pack_first, bestL_len, bestL_get _ _ _ _ (by omega)]; rfl
    rw [e1] at this
    exact this
  · intro i hi ht
    obtain ⟨j, h1, h2⟩ := pack_has (l := l) (fw := bestL (packF l) highC n) (k := l.length) hi (by rw [bestL_len]; exact ht)
    have := hge j (by show j ≤ (packF l (bestL (packF l) highC n)).length - 1; have h3 : j < (packF l (bestL (packF l) highC n)).length := h1; omega)
    have e1 : (packF l (bestL (packF l) highC n)).getD j pk0 = extP l (bestL (packF l) highC n) i := h2
    rw [e1] at this
    unfold extP at this
    rw [bestL_len, bestL_get _ _ _ _ (cov_bef hb hi)] at this
    exact this
theorem mo_zero (l : List (Int × Int)) : moN l 0 = 0 := rfl
theorem le_zero (l : List (Int × Int)) : leN l 0 = 0 := rfl
theorem mo_bd (h1 : 1 ≤ l.length) (hb : bdTo l l.length) : ∀ n : Nat, 0 ≤ moN l n ∧ moN l n ≤ 1000000 * n := by
  intro n
  induction n using Nat.strongRecOn with
  | ind n ih =>
    cases n with
    | zero => simp [mo_zero]
    | succ n =>
      obtain ⟨i, hi, e⟩ := cov_step h1 hb n
      have h2 := ih _ (Nat.lt_succ_of_le (cov_bef (n := n) hb hi))
      have h3 := cov_bef (n := n) hb hi
      have h4 := hb i hi
      unfold bdOk at h4
      unfold moN
      rw [e]
      dsimp only
      constructor
      · omega
      · have : (1000000 : Int) * ((befN l (n + 1) i : Nat) : Int) ≤ 1000000 * (n : Int) := by omega
        push_cast
        omega
theorem le_bd (hb : bdTo l l.length) : ∀ n : Nat, 0 ≤ leN l n ∧ leN l n ≤ 1000000 * n := by
  intro n
  induction n using Nat.strongRecOn with
  | ind n ih =>
    cases n with
    | zero => simp [le_zero]
    | succ n =>
      rcases pack_step hb n with e | ⟨i, hi, ht, e⟩
      · have h2 := ih n (by omega)
        unfold leN at h2 ⊢
        rw [e]
        push_cast
        omega
      · have h2 := ih _ (Nat.lt_succ_of_le (cov_bef (n := n) hb hi))
        have h3 := cov_bef (n := n) hb hi
        have h4 := hb i hi
        unfold bdOk at h4
        unfold leN
        rw [e]
        dsimp only
        constructor
        · omega
        · push_cast
          omega
end
end Go.Pv
