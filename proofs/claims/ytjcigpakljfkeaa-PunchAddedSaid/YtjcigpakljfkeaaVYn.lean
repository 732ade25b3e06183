/-
  What this text proves: slots in the order of From get, one after the other, the plan that is returned; a plan with one more slot is a plan. It speaks of plain functions.
-/
import Derived.Test.YtjcigpakljfkeaaVYf
set_option linter.unusedVariables false
set_option linter.unusedSimpArgs false
namespace Go.Pv
open Go.RowKit
/-- Slots in the order of From. -/
def Sorted (sl : List (Int × Int)) : Prop := ∀ i k, i < k → k < sl.length → (sl.getD i (0, 0)).1 ≤ (sl.getD k (0, 0)).1
theorem ord_step {sl : List (Int × Int)} (h : Sorted sl) {i j : Nat} (hij : i < j) (hj : j < sl.length) : ordN sl i < ordN sl j := by
  have h1 := ordN_before hij hj
  have h2 := ordN_lt (sl := sl) (j := i) (by omega)
  have h3 := ordN_lt hj
  unfold beforeP at h1
  rcases h1 with h1 | h1
  · rcases Nat.lt_or_ge (ordN sl i) (ordN sl j) with h4 | h4
    · exact h4
    · rcases Nat.eq_or_lt_of_le h4 with h5 | h5
      · rw [h5] at h1; omega
      · have := h _ _ h5 h2; omega
  · exact h1.2
theorem ord_low {sl : List (Int × Int)} (h : Sorted sl) : ∀ j, j < sl.length → j ≤ ordN sl j
  | 0, _ => Nat.zero_le _
  | j + 1, hj => by
    have h1 := ord_low h j (by omega)
    have h2 := ord_step h (show j < j + 1 by omega) hj
    omega
theorem ord_high {sl : List (Int × Int)} (h : Sorted sl) : ∀ d j, j < sl.length → sl.length = j + 1 + d → ordN sl j ≤ j
  | 0, j, hj, e => by have := ordN_lt hj; omega
  | d + 1, j, hj, e => by
    have h1 := ord_high h d (j + 1) (by omega) (by omega)
    have h2 := ord_step h (show j < j + 1 by omega) (by omega)
    omega
theorem ord_sorted {sl : List (Int × Int)} (h : Sorted sl) {j : Nat} (hj : j < sl.length) : ordN sl j = j :=
  Nat.le_antisymm (ord_high h (sl.length - 1 - j) j hj (by omega)) (ord_low h j hj)
theorem planS_get {rest : Int} {sl : List (Int × Int)} (hn : sl.length ≤ 40) (h : Sorted sl) {j : Nat} (hj : j < sl.length) : (planL rest sl).getD j 0 = numJ rest sl j := by
  have := planL_get (rest := rest) hn hj
  rwa [ord_sorted h hj] at this
theorem add_prefix {rest : Int} {sl : List (Int × Int)} (hn : sl.length ≤ 40) (h : Sorted sl) {k : Nat} (hk : k < sl.length) : smallN rest (sl.take k) (fillP ((planL rest sl).take k)) (sl.getD k (0, 0)) = (planL rest sl).getD k 0 := by
  rw [planS_get hn h hk]
  obtain ⟨m, h1, h2, h3, h4⟩ := numJ_ex (rest := rest) (sl := sl) k
  rw [h1]
  rw [ord_sorted h hk] at h3 h4
  have hlen : (sl.take k).length = k := by simp; omega
  have hpl := planL_len (rest := rest) hn
  have ht : ∀ i, i < k → (fillP ((planL rest sl).take k)).getD i (-1) = numJ rest sl i := fun i hi => by
    rw [← planS_get hn h (show i < sl.length by omega)]
    unfold fillP
    simp [List.getD, List.getElem?_append_left (show i < ((planL rest sl).take k).length by simp; omega), hi]
    rw [List.getElem?_eq_getElem (by omega)]
    rfl
  have hp : ∀ i, i < sl.length → (planTo rest sl k).getD i (-1) = if i < k then numJ rest sl i else -1 := fun i hi => by
    have := planTo_get (rest := rest) hn (k := k) (by omega) i hi
    rwa [ord_sorted h hi] at this
  have hs : ∀ i, i < k → (sl.take k).getD i (0, 0) = sl.getD i (0, 0) := fun i hi => take_getD hi (by omega)
  have key : ∀ q : Nat, freeN rest (sl.take k) (fillP ((planL rest sl).take k)) (sl.getD k (0, 0)) q ↔ freeN rest sl (planTo rest sl k) (sl.getD k (0, 0)) q := fun q => by
    unfold freeN
    constructor
    · intro hf i hi e
      rw [hp i hi] at e
      by_cases hik : i < k
      · rw [if_pos hik] at e
        have := hf i (by omega) (by rw [ht i hik]; exact e)
        rwa [hs i hik] at this
      · rw [if_neg hik] at e; omega
    · intro hf i hi e
      rw [hlen] at hi
      rw [ht i hi] at e
      rw [hs i hi]
      exact hf i (by omega) (by rw [hp i (by omega), if_pos hi]; exact e)
  exact small_of ((key m).2 h3) fun q hq hf => h4 q hq ((key q).1 hf)
/-- One more slot. -/
theorem apart_app {rest n : Int} {sl : List (Int × Int)} {plan : List Int} {s : Int × Int} (hl : plan.length = sl.length) (ha : apart rest sl plan) (hf : ∀ i, i < sl.length → plan.getD i 0 = n → ¬ clashP rest s (sl.getD i (0, 0))) : apart rest (sl ++ [s]) (plan ++ [n]) := by
  intro i hi k hk ⟨e, hc⟩
  simp at hi
  have g1 : (sl ++ [s]).getD k (0, 0) = sl.getD k (0, 0) := by simp [List.getD, List.getElem?_append_left (show k < sl.length by omega)]
  have g2 : (plan ++ [n]).getD k 0 = plan.getD k 0 := app_lt (by omega)
  rw [g1] at hc
  rw [g2] at e
  by_cases h : i < sl.length
  · have g3 : (sl ++ [s]).getD i (0, 0) = sl.getD i (0, 0) := by simp [List.getD, List.getElem?_append_left h]
    rw [app_lt (by omega)] at e
    rw [g3] at hc
    exact ha i h k hk ⟨e, hc⟩
  · obtain rfl : i = sl.length := by omega
    have g3 : (sl ++ [s]).getD sl.length (0, 0) = s := by simp [List.getD]
    rw [← hl, app_at] at e
    rw [g3] at hc
    exact hf k hk e.symm hc
end Go.Pv
