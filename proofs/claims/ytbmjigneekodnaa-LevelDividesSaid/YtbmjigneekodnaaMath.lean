/-
  What this text proves: plain facts on integers and lists. It speaks of no program. No condition but those that stand in each.
-/
import Derived.Test.YtbmjigneekodnaaPv
namespace Go.Pv
theorem bool_iff {p q : Prop} {_ : Decidable p} {_ : Decidable q} (h : p ↔ q) : Value.bool (decide p) = Value.bool (decide q) := by
  by_cases hp : p <;> by_cases hq : q <;> simp_all
theorem bool_tt {q : Prop} {_ : Decidable q} (h : q) : Value.bool true = Value.bool (decide q) := by simp [h]
theorem bool_ff {q : Prop} {_ : Decidable q} (h : ¬ q) : Value.bool false = Value.bool (decide q) := by simp [h]
theorem int_eq {a b : Int} (h : a = b) : Value.int .i64 a = Value.int .i64 b := by rw [h]
theorem below_succ {p : Nat → Prop} {k : Nat} (h : ∀ j, j < k → p j) (hk : p k) : ∀ j, j < k + 1 → p j := fun j hj => by
  rcases Nat.lt_or_ge j k with h1 | h1
  · exact h j h1
  · have : j = k := by omega
    subst this; exact hk
end Go.Pv
