/-
  What this text proves: what the reference's Holds asks, as the plain functions say. It speaks of no program.
-/
import Derived.Test.YtjcigpakljfkeaaUm
set_option linter.unusedVariables false
set_option linter.unusedSimpArgs false

namespace Go.Pv
open Go.RowKit
theorem lens_at {hl : List (Int × Int)} {j : Nat} (hj : j < hl.length) : (lensL hl).getD j 0 = (hl.getD j (0, 0)).2 - (hl.getD j (0, 0)).1 := by
  unfold lensL; simp [hj]
theorem gaps_at : ∀ {hl : List (Int × Int)} {j : Nat}, j + 1 < hl.length → (gapsL hl).getD j 0 = (hl.getD (j + 1) (0, 0)).1 - (hl.getD j (0, 0)).2
  | [], j, h => by simp at h
  | [a], j, h => by simp at h
  | a :: b :: r, 0, h => rfl
  | a :: b :: r, j + 1, h => by
    have h1 := gaps_at (hl := b :: r) (j := j) (by simp at h ⊢; omega)
    simp only [gapsL, List.getD_cons_succ] at h1 ⊢
    exact h1
theorem gaps_lenE : ∀ (hl : List (Int × Int)), (gapsL hl).length = hl.length - 1
  | [] => rfl
  | [a] => rfl
  | a :: b :: r => by have := gaps_lenE (b :: r); simp only [gapsL, List.length_cons] at this ⊢; omega
theorem shape_gapJ {s : Int × Int} {hl : List (Int × Int)} {j : Nat} (h : ¬ 200 < hl.length) (h2 : ¬ hl.length = 0) (h3 : slotsOk hl) (hj : j + 1 < hl.length) (h4 : (hl.getD (j + 1) (0, 0)).1 ≤ (hl.getD j (0, 0)).2) : shapeErr s hl = 13 :=
  shape_gap h h2 h3 fun hc => by
    have h5 := all_getD.2 hc j (by rw [gaps_lenE]; omega)
    rw [gaps_at hj] at h5
    omega
theorem shape_goodJ {s : Int × Int} {hl : List (Int × Int)} (h : ¬ 200 < hl.length) (h2 : ¬ hl.length = 0) (h3 : slotsOk hl) (h4 : ¬ (hl.getD 0 (0, 0)).1 ≠ s.1) (h5 : ¬ (hl.getD (hl.length - 1) (0, 0)).2 ≠ s.2) (h6 : ∀ j, j + 1 < hl.length → (hl.getD j (0, 0)).2 < (hl.getD (j + 1) (0, 0)).1) : shapeErr s hl = 0 :=
  shape_good h h2 h3 h4 h5 (all_getD.1 fun j hj => by
    rw [gaps_lenE] at hj
    rw [gaps_at (by omega)]
    have := h6 j (by omega)
    omega)
/-- What the reference asks of the holes' lengths, in terms of the bounds. -/
theorem holds_ref {gl gh lo na sh x y z : Int} {s : Int × Int} {hl : List (Int × Int)} (hx : aHi gh lo = x) (hy : bLo gl na = y) (hz : bHi gh sh = z) (hp : paperOk gl gh lo na sh) (hs : slotOk s) (h0 : shapeErr s hl = 0) (h2 : ¬ hl.length = 0) (h3 : slotsOk hl) (h6 : ∀ j, j + 1 < hl.length → (hl.getD j (0, 0)).2 < (hl.getD (j + 1) (0, 0)).1) :
    holdsErr gl gh lo na sh s hl = if ∀ j, j < hl.length → (hl.getD j (0, 0)).2 - (hl.getD j (0, 0)).1 ≤ x ∧ (0 < j → y ≤ (hl.getD j (0, 0)).1 - (hl.getD (j - 1) (0, 0)).2 ∧ (hl.getD j (0, 0)).1 - (hl.getD (j - 1) (0, 0)).2 ≤ z) then 0 else 21 := by
  rw [holds_end (a1 := (barsA gl gh lo na sh).1) (a2 := (barsA gl gh lo na sh).2) (b1 := (barsB gl gh lo na sh).1) (b2 := (barsB gl gh lo na sh).2) rfl rfl hp hs (by omega)]
  have hb5 := bLo_bd hp
  have hE : barsErr gl gh lo na sh = if x < 1 then 20 else 0 := by unfold barsErr; rw [if_neg (Classical.not_not.2 hp), hx]
  have key : ((∀ j, j < (lensL hl).length → (barsA gl gh lo na sh).1 ≤ (lensL hl).getD j 0 ∧ (lensL hl).getD j 0 ≤ (barsA gl gh lo na sh).2) ∧ (∀ j, j < (gapsL hl).length → (barsB gl gh lo na sh).1 ≤ (gapsL hl).getD j 0 ∧ (gapsL hl).getD j 0 ≤ (barsB gl gh lo na sh).2)) ↔ ∀ j, j < hl.length → (hl.getD j (0, 0)).2 - (hl.getD j (0, 0)).1 ≤ x ∧ (0 < j → y ≤ (hl.getD j (0, 0)).1 - (hl.getD (j - 1) (0, 0)).2 ∧ (hl.getD j (0, 0)).1 - (hl.getD (j - 1) (0, 0)).2 ≤ z) := by
    rw [lens_len, gaps_lenE]
    by_cases hx1 : x < 1
    · rw [if_pos hx1] at hE
      have h7 := h3 0 (by omega)
      unfold slotOk at h7
      constructor
      · rintro ⟨ha, -⟩
        have := ha 0 (by omega)
        rw [lens_at (by omega)] at this
        unfold barsA at this
        rw [if_pos (by omega)] at this
        have := this.2
        simp only at this
        omega
      · intro ha
        have := (ha 0 (by omega)).1
        omega
    · rw [if_neg hx1] at hE
      have hA : barsA gl gh lo na sh = (1, x) := by unfold barsA; rw [if_neg (by omega), hx]
      have hB : barsB gl gh lo na sh = if z < y then (0, 0) else (y, z) := by unfold barsB; rw [if_neg (by omega), hy, hz]
      rw [hA, hB]
      constructor
      · rintro ⟨ha, hb⟩ j hj
        have h8 := ha j hj
        rw [lens_at hj] at h8
        refine ⟨h8.2, fun hj0 => ?_⟩
        have h9 := hb (j - 1) (by omega)
        have h10 := h6 (j - 1) (by omega)
        rw [gaps_at (by omega)] at h9
        rw [show j - 1 + 1 = j by omega] at h9 h10
        split at h9
        · have := h9.2; simp only at this; omega
        · exact h9
      · intro ha
        constructor
        · intro j hj
          have h7 := h3 j hj
          unfold slotOk at h7
          rw [lens_at hj]
          have := (ha j hj).1
          exact ⟨by show 1 ≤ _; omega, this⟩
        · intro j hj
          have h9 := (ha (j + 1) (by omega)).2 (by omega)
          rw [show j + 1 - 1 = j by omega] at h9
          rw [gaps_at (by omega), if_neg (by omega)]
          exact h9
  exact ite_cond_congr (propext key)
theorem rh_e {gl gh lo na sh e : Int} {s : Int × Int} {hl : List (Int × Int)} (hE : ¬ paperOk gl gh lo na sh ∧ e = 3) : holdsErr gl gh lo na sh s hl = e := by
  unfold holdsErr; rw [if_pos hE.1, hE.2]
theorem rh_shape {gl gh lo na sh c : Int} {s : Int × Int} {hl : List (Int × Int)} (hp : paperOk gl gh lo na sh) (hs : slotOk s) (h : shapeErr s hl = c) (hc : c ≠ 0) : holdsErr gl gh lo na sh s hl = c := by
  rw [holds_shape hp hs (by omega), h]
theorem rh_bad {gl gh lo na sh x y z : Int} {s : Int × Int} {hl : List (Int × Int)} (hx : aHi gh lo = x) (hy : bLo gl na = y) (hz : bHi gh sh = z) (hp : paperOk gl gh lo na sh) (hs : slotOk s) (h : ¬ 200 < hl.length) (h2 : ¬ hl.length = 0) (h3 : slotsOk hl) (h4 : ¬ (hl.getD 0 (0, 0)).1 ≠ s.1) (h5 : ¬ (hl.getD (hl.length - 1) (0, 0)).2 ≠ s.2) (h6 : ∀ j, j + 1 < hl.length → (hl.getD j (0, 0)).2 < (hl.getD (j + 1) (0, 0)).1)
    {k : Nat} (hk : k < hl.length) (hb : ¬ ((hl.getD k (0, 0)).2 - (hl.getD k (0, 0)).1 ≤ x ∧ (0 < k → y ≤ (hl.getD k (0, 0)).1 - (hl.getD (k - 1) (0, 0)).2 ∧ (hl.getD k (0, 0)).1 - (hl.getD (k - 1) (0, 0)).2 ≤ z))) : holdsErr gl gh lo na sh s hl = 21 := by
  rw [holds_ref hx hy hz hp hs (shape_goodJ h h2 h3 h4 h5 h6) h2 h3 h6]
  exact if_neg fun hc => hb (hc k hk)
theorem rh_good {gl gh lo na sh x y z : Int} {s : Int × Int} {hl : List (Int × Int)} (hx : aHi gh lo = x) (hy : bLo gl na = y) (hz : bHi gh sh = z) (hp : paperOk gl gh lo na sh) (hs : slotOk s) (h : ¬ 200 < hl.length) (h2 : ¬ hl.length = 0) (h3 : slotsOk hl) (h4 : ¬ (hl.getD 0 (0, 0)).1 ≠ s.1) (h5 : ¬ (hl.getD (hl.length - 1) (0, 0)).2 ≠ s.2) (h6 : ∀ j, j + 1 < hl.length → (hl.getD j (0, 0)).2 < (hl.getD (j + 1) (0, 0)).1)
    {k : Nat} (hk : ¬ k < hl.length) (hd : ∀ j, j < k → (hl.getD j (0, 0)).2 - (hl.getD j (0, 0)).1 ≤ x ∧ (0 < j → y ≤ (hl.getD j (0, 0)).1 - (hl.getD (j - 1) (0, 0)).2 ∧ (hl.getD j (0, 0)).1 - (hl.getD (j - 1) (0, 0)).2 ≤ z)) : holdsErr gl gh lo na sh s hl = 0 := by
  rw [holds_ref hx hy hz hp hs (shape_goodJ h h2 h3 h4 h5 h6) h2 h3 h6]
  exact if_pos fun j hj => hd j (by omega)
theorem shape_slot {s : Int × Int} {hl : List (Int × Int)} {k : Nat} (h : ¬ 200 < hl.length) (hk : k < hl.length) (hb : ¬ slotOk (hl.getD k (0, 0))) : shapeErr s hl = 6 := shape_bad h (.inr fun hc => hb (hc k hk))
end Go.Pv
