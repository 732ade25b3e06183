/-
  What this text proves: the most grows by no more than the most, the least by no less than the least; the growth of the most keeps the bounds, that of the least has them. Conditions: bounds as stated.
-/
import Derived.Test.YtlphfobpheefkaaVAq
set_option linter.unusedVariables false
set_option linter.unusedSimpArgs false
namespace Go.Pv
open Go.RowKit
section
variable {l : List (Int × Int)}
theorem mo_step (h1 : 1 ≤ l.length) (hb : bdTo l l.length) (n : Nat) : ∃ i, i < l.length ∧ moN l (n + 1) = moN l (befN l (n + 1) i) + (l.getD i (0, 0)).2 := by
  obtain ⟨i, hi, e⟩ := cov_step h1 hb n
  exact ⟨i, hi, congrArg Prod.fst e⟩
theorem mo_mono1 (h1 : 1 ≤ l.length) (hb : bdTo l l.length) : ∀ n : Nat, moN l n ≤ moN l (n + 1) := by
  intro n
  induction n using Nat.strongRecOn with
  | ind n ih =>
    cases n with
    | zero => rw [mo_zero]; exact (mo_bd h1 hb 1).1
    | succ m =>
      obtain ⟨i, hi, e⟩ := mo_step h1 hb (m + 1)
      have h2 := cov_least hb m hi
      have hbk := hb i hi
      unfold bdOk at hbk
      rw [e]
      by_cases c : befN l (m + 1 + 1) i = befN l (m + 1) i
      · rw [c]; exact h2
      · have c2 : befN l (m + 1 + 1) i = befN l (m + 1) i + 1 := by unfold befN at c ⊢; omega
        have h3 := ih (befN l (m + 1) i) (by unfold befN; omega)
        rw [c2]
        omega
theorem mo_mono (h1 : 1 ≤ l.length) (hb : bdTo l l.length) {a b : Nat} (h : a ≤ b) : moN l a ≤ moN l b := by
  induction h with
  | refl => exact Int.le_refl _
  | step _ ih => exact Int.le_trans ih (mo_mono1 h1 hb _)
theorem mo_add (h1 : 1 ≤ l.length) (hb : bdTo l l.length) (a : Nat) : ∀ b : Nat, moN l (a + b) ≤ moN l a + moN l b := by
  intro b
  induction b using Nat.strongRecOn with
  | ind b ih =>
    cases b with
    | zero => rw [mo_zero, Nat.add_zero]; omega
    | succ m =>
      obtain ⟨i, hi, e⟩ := mo_step h1 hb m
      have h2 := cov_least hb (a + m) hi
      have hbk := hb i hi
      unfold bdOk at hbk
      have h3 := mo_mono h1 hb (a := befN l (a + m + 1) i) (b := a + befN l (m + 1) i) (by unfold befN; omega)
      have h4 := ih (befN l (m + 1) i) (by unfold befN; omega)
      rw [e, show a + (m + 1) = a + m + 1 by omega]
      omega
theorem le_mono1 (hb : bdTo l l.length) (n : Nat) : leN l n ≤ leN l (n + 1) := (pack_most hb n).1
theorem le_mono (hb : bdTo l l.length) {a b : Nat} (h : a ≤ b) : leN l a ≤ leN l b := by
  induction h with
  | refl => exact Int.le_refl _
  | step _ ih => exact Int.le_trans ih (le_mono1 hb _)
theorem le_add (hb : bdTo l l.length) (a : Nat) : ∀ b : Nat, leN l a + leN l b ≤ leN l (a + b) := by
  intro b
  induction b using Nat.strongRecOn with
  | ind b ih =>
    cases b with
    | zero => rw [le_zero, Nat.add_zero]; omega
    | succ m =>
      have h0 := pack_most hb (a + m)
      rw [show a + (m + 1) = a + m + 1 by omega]
      rcases pack_step hb m with e | ⟨i, hi, ht, e⟩
      · have e2 : leN l (m + 1) = leN l m := congrArg Prod.fst e
        have h2 := ih m (by omega)
        omega
      · have e2 : leN l (m + 1) = leN l (befN l (m + 1) i) + (l.getD i (0, 0)).2 := congrArg Prod.fst e
        have hbk := hb i hi
        unfold bdOk at hbk
        have h2 := h0.2 i hi (by omega)
        have h3 : befN l (a + m + 1) i = a + befN l (m + 1) i := by unfold befN; omega
        have h4 := ih (befN l (m + 1) i) (by unfold befN; omega)
        rw [h3] at h2
        omega
end
theorem sumTo_ext {p q : List Int} : ∀ {k : Nat}, (∀ j, j < k → p.getD j 0 = q.getD j 0) → sumTo p k = sumTo q k
  | 0, _ => rfl
  | k + 1, h => by
    simp only [sumTo]
    rw [sumTo_ext (k := k) fun j hj => h j (by omega), h k (by omega)]
/-- The sum of a part is what the sums differ by. -/
theorem sumP_eq {d : List Int} {i j : Nat} (h1 : i ≤ j) (h2 : j ≤ d.length) : sumP d i j = sumTo d j - sumTo d i := by
  unfold sumP
  rw [partL_len h2]
  obtain ⟨k, rfl⟩ : ∃ k, j = i + k := ⟨j - i, by omega⟩
  rw [show i + k - i = k by omega]
  have hp : ∀ q, q ≤ k → sumTo (partL d i (i + k)) q = sumTo d (i + q) - sumTo d i := by
    intro q
    induction q with
    | zero => intro _; simp [sumTo]
    | succ q ih =>
      intro hq
      have h3 := ih (by omega)
      rw [show i + (q + 1) = i + q + 1 by omega]
      simp only [sumTo]
      rw [partL_get h2 (by omega), h3]
      omega
  exact hp k (Nat.le_refl _)
theorem sumTo_growL (M : Nat → Int) (n : Nat) : ∀ k, k ≤ n → sumTo (growL M n) k = M k - M 0
  | 0, _ => by simp [sumTo]
  | k + 1, h => by
    simp only [sumTo]
    rw [sumTo_growL M n k (by omega), growL_get (by omega)]
    omega
theorem sumP_growL (M : Nat → Int) {n i j : Nat} (h1 : i ≤ j) (h2 : j ≤ n) : sumP (growL M n) i j = M j - M i := by
  rw [sumP_eq h1 (by rw [growL_len]; exact h2), sumTo_growL M n j h2, sumTo_growL M n i (by omega)]
  omega
section
variable {l : List (Int × Int)}
/-- The growth of the most keeps the bounds. -/
theorem keeps_growth (hb : bdTo l l.length) (n : Nat) : KeepsP l (growL (moN l) n) := by
  intro j hj e he
  rw [growL_len] at he
  unfold kOk
  rw [sumP_growL _ (by omega) (by omega)]
  have := cov_least hb e hj
  unfold befN at this
  omega
/-- The growth of the least has the bounds. -/
theorem has_growth (hb : bdTo l l.length) (n : Nat) : HasP l (growL (leN l) n) := by
  intro j hj q hq
  rw [growL_len] at hq
  have hbk := hb j hj
  unfold bdOk at hbk
  unfold hOk
  rw [sumP_growL _ (by omega) (by omega)]
  obtain ⟨m, hm⟩ : ∃ m, q + (l.getD j (0, 0)).1.toNat = m + 1 := ⟨q + (l.getD j (0, 0)).1.toNat - 1, by omega⟩
  have h2 := (pack_most hb m).2 j hj (by omega)
  have h3 : befN l (m + 1) j = q := by unfold befN; omega
  rw [h3] at h2
  rw [hm]
  omega
/-- What keeps the bounds has no more than the most. -/
theorem keeps_le (h1 : 1 ≤ l.length) (hb : bdTo l l.length) {d : List Int} (h : KeepsP l d) : ∀ n, n ≤ d.length → sumTo d n ≤ moN l n := by
  intro n
  induction n using Nat.strongRecOn with
  | ind n ih =>
    intro hn
    cases n with
    | zero => rw [mo_zero]; exact Int.le_refl _
    | succ m =>
      obtain ⟨i, hi, e⟩ := mo_step h1 hb m
      have hbk := hb i hi
      unfold bdOk at hbk
      have h2 := h i hi m (by omega)
      unfold kOk at h2
      have h3 : m + 1 - (l.getD i (0, 0)).1.toNat = befN l (m + 1) i := rfl
      rw [h3] at h2
      have hle : befN l (m + 1) i ≤ m := by unfold befN; omega
      rw [sumP_eq (by omega) (by omega)] at h2
      have h4 := ih (befN l (m + 1) i) (by omega) (by omega)
      rw [e]
      omega
/-- What has the bounds has no less than the least. -/
theorem has_le (hb : bdTo l l.length) {d : List Int} (h0 : ∀ j, j < d.length → 0 ≤ d.getD j 0) (h : HasP l d) : ∀ n, n ≤ d.length → leN l n ≤ sumTo d n := by
  intro n
  induction n using Nat.strongRecOn with
  | ind n ih =>
    intro hn
    cases n with
    | zero => rw [le_zero]; exact Int.le_refl _
    | succ m =>
      rcases pack_step hb m with e | ⟨i, hi, ht, e⟩
      · have e2 : leN l (m + 1) = leN l m := congrArg Prod.fst e
        have h2 := ih m (by omega) (by omega)
        have h3 := h0 m (by omega)
        simp only [sumTo]
        omega
      · have e2 : leN l (m + 1) = leN l (befN l (m + 1) i) + (l.getD i (0, 0)).2 := congrArg Prod.fst e
        have hbk := hb i hi
        unfold bdOk at hbk
        have hbe : befN l (m + 1) i + (l.getD i (0, 0)).1.toNat = m + 1 := by unfold befN; omega
        have h2 := h i hi (befN l (m + 1) i) (by omega)
        unfold hOk at h2
        rw [hbe, sumP_eq (by omega) hn] at h2
        have h4 := ih (befN l (m + 1) i) (by omega) (by omega)
        omega
end
end Go.Pv
