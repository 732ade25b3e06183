/-
  What this text proves: plain facts on integers and lists. It speaks of no program. No condition but those that stand in each.
-/
import Derived.Test.YtlphfobpheefkaaPv
namespace Go.Pv
theorem bool_iff {p q : Prop} {_ : Decidable p} {_ : Decidable q} (h : p ↔ q) : Value.bool (decide p) = Value.bool (decide q) := by
  by_cases hp : p <;> by_cases hq : q <;> simp_all
theorem bool_tt {q : Prop} {_ : Decidable q} (h : q) : Value.bool true = Value.bool (decide q) := by simp [h]
theorem bool_ff {q : Prop} {_ : Decidable q} (h : ¬ q) : Value.bool false = Value.bool (decide q) := by simp [h]
theorem int_eq {a b : Int} (h : a = b) : Value.int .i64 a = Value.int .i64 b := by rw [h]
theorem below_succ {p : Nat → Prop} {k : Nat} (h : ∀ j, j < k → p j) (hk : p k) : ∀ j, j < k + 1 → p j := fun j hj => by
  rcases Nat.lt_or_ge j k with h1 | h1
  · exact h j h1
  · have : j = k := by omega
    subst this; exact hk
theorem tdiv_floor (n d : Int) (hd : 1 ≤ d) : (n.tmod d < 0 → n.tdiv d - 1 = n / d) ∧ (¬ n.tmod d < 0 → n.tdiv d = n / d) := by
  by_cases hn : 0 ≤ n
  · rw [Int.tmod_eq_emod_of_nonneg hn, Int.tdiv_eq_ediv_of_nonneg hn]
    have := Int.emod_nonneg n (show d ≠ 0 by omega)
    exact ⟨fun h => by omega, fun _ => rfl⟩
  · obtain ⟨m, rfl⟩ : ∃ m, n = -m := ⟨-n, by omega⟩
    rw [Int.neg_tmod, Int.neg_tdiv, Int.tmod_eq_emod_of_nonneg (by omega), Int.tdiv_eq_ediv_of_nonneg (by omega)]
    have h1 := Int.emod_nonneg m (show d ≠ 0 by omega)
    have h2 := Int.emod_lt_of_pos m (show 0 < d by omega)
    have h3 := Int.mul_ediv_add_emod m d
    have h4 := Int.emod_nonneg (-m) (show d ≠ 0 by omega)
    have h5 := Int.emod_lt_of_pos (-m) (show 0 < d by omega)
    have h6 := Int.mul_ediv_add_emod (-m) d
    have h7 : d * ((-m) / d + m / d) = -((-m) % d + m % d) := by rw [Int.mul_add]; omega
    have h8 : (-m) / d + m / d = 0 ∨ (-m) / d + m / d = -1 := by
      generalize (-m) / d + m / d = q at h7
      have a1 : d * q ≤ 0 := by omega
      have a2 : -(2 * d) < d * q := by omega
      by_cases q0 : q ≤ 0
      · by_cases q1 : -1 ≤ q
        · omega
        · have : d * q ≤ d * (-2) := Int.mul_le_mul_of_nonneg_left (by omega) (by omega)
          omega
      · have : d * 1 ≤ d * q := Int.mul_le_mul_of_nonneg_left (by omega) (by omega)
        omega
    rcases h8 with h8 | h8
    · rw [h8] at h7
      exact ⟨fun h => by omega, fun _ => by omega⟩
    · rw [h8] at h7
      exact ⟨fun h => by omega, fun h => by omega⟩
theorem ediv_bd (n d : Int) (hd : 1 ≤ d) (b : Int) (h : -b ≤ n ∧ n ≤ b) : -b ≤ n / d ∧ n / d ≤ b := by
  have h1 := Int.emod_nonneg n (show d ≠ 0 by omega)
  have h2 := Int.emod_lt_of_pos n (show 0 < d by omega)
  have h3 := Int.mul_ediv_add_emod n d
  generalize n / d = q at *
  constructor
  · by_cases hq : -b ≤ q
    · exact hq
    · have : d * q ≤ d * (-b - 1) := Int.mul_le_mul_of_nonneg_left (by omega) (by omega)
      have e : d * (-b - 1) = -(d * b) - d := by rw [Int.mul_sub, Int.mul_neg, Int.mul_one]
      have : 1 * b ≤ d * b := Int.mul_le_mul_of_nonneg_right (by omega) (by omega)
      omega
  · by_cases hq : q ≤ b
    · exact hq
    · have : d * (b + 1) ≤ d * q := Int.mul_le_mul_of_nonneg_left (by omega) (by omega)
      have e : d * (b + 1) = d * b + d := by rw [Int.mul_add, Int.mul_one]
      have : 1 * b ≤ d * b := Int.mul_le_mul_of_nonneg_right (by omega) (by omega)
      omega
end Go.Pv
