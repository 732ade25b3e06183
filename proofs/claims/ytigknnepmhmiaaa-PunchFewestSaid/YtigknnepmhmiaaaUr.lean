/-
  What this text proves: taking always the first slot that has no number yet goes through the slots in their order. It speaks of no program.
-/
import Derived.Test.YtigknnepmhmiaaaUp
set_option linter.unusedVariables false
set_option linter.unusedSimpArgs false

namespace Go.Pv
/-- Of the first k slots without a number the one that begins first; -1. -/
def nextTo (sl : List (Int × Int)) (plan : List Int) : Nat → Int
  | 0 => -1
  | k + 1 => if plan.getD k 0 < 0 ∧ (nextTo sl plan k < 0 ∨ (sl.getD k (0, 0)).1 < (sl.getD (nextTo sl plan k).toNat (0, 0)).1) then (k : Int) else nextTo sl plan k
theorem nextTo_yes {sl : List (Int × Int)} {plan : List Int} {k : Nat} (h : plan.getD k 0 < 0 ∧ (nextTo sl plan k < 0 ∨ (sl.getD k (0, 0)).1 < (sl.getD (nextTo sl plan k).toNat (0, 0)).1)) : nextTo sl plan (k + 1) = k := by simp only [nextTo]; rw [if_pos h]
theorem nextTo_no {sl : List (Int × Int)} {plan : List Int} {k : Nat} (h : ¬ (plan.getD k 0 < 0 ∧ (nextTo sl plan k < 0 ∨ (sl.getD k (0, 0)).1 < (sl.getD (nextTo sl plan k).toNat (0, 0)).1))) : nextTo sl plan (k + 1) = nextTo sl plan k := by simp only [nextTo]; rw [if_neg h]
theorem nextTo_spec {sl : List (Int × Int)} {plan : List Int} : ∀ k : Nat, (nextTo sl plan k = -1 ∧ ∀ i, i < k → 0 ≤ plan.getD i 0) ∨ ∃ j : Nat, nextTo sl plan k = j ∧ j < k ∧ plan.getD j 0 < 0 ∧ ∀ i, i < k → plan.getD i 0 < 0 → i = j ∨ beforeP sl j i
  | 0 => .inl ⟨rfl, fun i hi => by omega⟩
  | k + 1 => by
    by_cases hc : plan.getD k 0 < 0 ∧ (nextTo sl plan k < 0 ∨ (sl.getD k (0, 0)).1 < (sl.getD (nextTo sl plan k).toNat (0, 0)).1)
    · rw [nextTo_yes hc]
      refine .inr ⟨k, rfl, by omega, hc.1, fun i hi hp => ?_⟩
      by_cases e : i = k
      · exact .inl e
      · rcases nextTo_spec (sl := sl) (plan := plan) k with ⟨h1, h2⟩ | ⟨j, h1, h2, h3, h4⟩
        · have := h2 i (by omega); omega
        · right
          have h5 := h4 i (by omega) hp
          rw [h1] at hc
          rw [Int.toNat_natCast] at hc
          unfold beforeP at *
          rcases h5 with rfl | h5 <;> omega
    · rw [nextTo_no hc]
      rcases nextTo_spec (sl := sl) (plan := plan) k with ⟨h1, h2⟩ | ⟨j, h1, h2, h3, h4⟩
      · refine .inl ⟨h1, fun i hi => ?_⟩
        by_cases e : i = k
        · subst e; rw [h1] at hc; omega
        · exact h2 i (by omega)
      · refine .inr ⟨j, h1, by omega, h3, fun i hi hp => ?_⟩
        by_cases e : i = k
        · subst e
          right
          rw [h1, Int.toNat_natCast] at hc
          unfold beforeP; omega
        · exact h4 i (by omega) hp
theorem take_getD {α : Type} {xs : List α} {n i : Nat} {d e : α} (hi : i < n) (hl : i < xs.length) : (xs.take n).getD i d = xs.getD i e := by
  simp only [List.getD_eq_getElem?_getD, List.getElem?_take]
  rw [if_pos hi, List.getElem?_eq_getElem hl]; rfl
/-- The slot that is taken at turn r. -/
theorem nextTo_ord {rest : Int} {sl : List (Int × Int)} (hn : sl.length ≤ 40) {r : Nat} (hr : r < sl.length) : nextTo sl ((planTo rest sl r).take sl.length) sl.length = ordN sl r := by
  have hg : ∀ q, q < sl.length → ((planTo rest sl r).take sl.length).getD (ordN sl q) 0 = if q < r then numJ rest sl q else -1 := fun q hq => by
    rw [take_getD (e := -1) (ordN_lt hq) (by rw [planTo_len]; have := ordN_lt hq; omega)]
    exact planTo_get hn (by omega) q hq
  rcases nextTo_spec (sl := sl) (plan := (planTo rest sl r).take sl.length) sl.length with ⟨h1, h2⟩ | ⟨j, h1, h2, h3, h4⟩
  · have := h2 _ (ordN_lt hr)
    rw [hg r hr, if_neg (by omega)] at this; omega
  · obtain ⟨q, hq, rfl⟩ := ordN_sur h2
    rw [h1]
    rw [hg q hq] at h3
    split at h3
    · obtain ⟨m, h5, _⟩ := numJ_ex (rest := rest) (sl := sl) q; omega
    · next hqr =>
      have h5 := h4 _ (ordN_lt hr) (by rw [hg r hr, if_neg (by omega)]; omega)
      rcases h5 with h5 | h5
      · rw [h5]
      · by_cases e : q = r
        · rw [e]
        · exact absurd (before_tr h5 (ordN_before (show r < q by omega) hq)) before_irr
theorem planTo_take {rest : Int} {sl : List (Int × Int)} (hn : sl.length ≤ 40) {r : Nat} (hr : r < sl.length) : (planTo rest sl (r + 1)).take sl.length = ((planTo rest sl r).take sl.length).set (ordN sl r) (numJ rest sl r) := by
  show ((planTo rest sl r).set (ordN sl r) (numJ rest sl r)).take sl.length = _
  rw [List.take_set]
/-- The number is the same, whether the numbers of other slots lie behind those of the job's. -/
theorem small_take {rest : Int} {sl : List (Int × Int)} {t u : List Int} {s : Int × Int} (h : ∀ i, i < sl.length → t.getD i (-1) = u.getD i (-1)) : smallN rest sl t s = smallN rest sl u s := by
  obtain ⟨m, h1, h2, h3, h4⟩ := small_ex (rest := rest) (sl := sl) (t := u) (s := s)
  rw [h1]
  refine small_of (fun i hi e => h3 i hi (by rw [← h i hi]; exact e)) fun k hk hf => h4 k hk fun i hi e => hf i hi (by rw [h i hi]; exact e)
end Go.Pv
