/-
  What this text proves: what the reference's Bridge does, the longest hole and then the longest bridge after which the rest can be divided, is layP. It speaks of no program.
-/
import Derived.Test.YtigknnepmhmiaaaUo
set_option linter.unusedVariables false
set_option linter.unusedSimpArgs false

namespace Go.Pv
theorem alt_sum (a b : Int × Int) : ∀ k : Nat, sumLo (altL a b k) = ((k : Int) + 1) * a.1 + (k : Int) * b.1 ∧ sumHi (altL a b k) = ((k : Int) + 1) * a.2 + (k : Int) * b.2
  | 0 => by simp [altL, sumLo, sumHi]
  | k + 1 => by
    have h := alt_sum a b k
    simp only [altL, sumLo_app, sumHi_app, sumLo, sumHi, h.1, h.2, Int.natCast_add, Int.add_mul]
    omega
/-- A hole, when so many bridges and holes are to come behind it. -/
theorem lay_hole {a b : Int × Int} {to A h : Int} {M : Nat} (hr : canK a b (to - A) M) (h1 : h ≤ a.2) (hS : ((M : Int) * a.1 + (M : Int) * b.1 ≤ to - A - h ∧ to - A - h ≤ (M : Int) * a.2 + (M : Int) * b.2)) (hmax : ∀ g, h < g → g ≤ a.2 → ¬ ((M : Int) * a.1 + (M : Int) * b.1 ≤ to - A - g ∧ to - A - g ≤ (M : Int) * a.2 + (M : Int) * b.2)) :
    min (A + a.2) (to - ((M : Int) * a.1 + (M : Int) * b.1)) = A + h := by
  unfold canK at hr
  rw [(alt_sum a b M).1, (alt_sum a b M).2] at hr
  simp only [Int.add_mul] at hr
  by_cases hh : h = a.2
  · omega
  · have h2 := hmax (h + 1) (by omega) (by omega)
    omega
/-- There is one: from the greatest length down, the search ends. -/
theorem hole_ex {a b : Int × Int} {to A : Int} {M : Nat} (hr : canK a b (to - A) M) (hab : (M : Int) * a.1 + (M : Int) * b.1 ≤ (M : Int) * a.2 + (M : Int) * b.2) (h3 : a.1 ≤ a.2) : ∃ h, h ≤ a.2 ∧ a.1 ≤ h ∧ ((M : Int) * a.1 + (M : Int) * b.1 ≤ to - A - h ∧ to - A - h ≤ (M : Int) * a.2 + (M : Int) * b.2) := by
  unfold canK at hr
  rw [(alt_sum a b M).1, (alt_sum a b M).2] at hr
  simp only [Int.add_mul] at hr
  by_cases hh : to - A - a.2 ≤ (M : Int) * a.1 + (M : Int) * b.1
  · exact ⟨to - A - ((M : Int) * a.1 + (M : Int) * b.1), by omega, by omega, by omega, by omega⟩
  · exact ⟨a.2, by omega, h3, by omega, by omega⟩
/-- A bridge, when so many holes, and one bridge less, are to come behind it. -/
theorem lay_bridge {a b : Int × Int} {to A g : Int} {M : Nat} (hr : ((M : Int) + 1) * a.1 + ((M : Int) + 1) * b.1 ≤ to - A ∧ to - A ≤ ((M : Int) + 1) * a.2 + ((M : Int) + 1) * b.2) (h1 : g ≤ b.2) (hS : canK a b (to - A - g) M) (hmax : ∀ f, g < f → f ≤ b.2 → ¬ canK a b (to - A - f) M) :
    min (A + b.2) (to - sumLo (altL a b M)) = A + g := by
  unfold canK at hS hmax
  rw [(alt_sum a b M).1, (alt_sum a b M).2] at hS
  rw [(alt_sum a b M).1]
  simp only [Int.add_mul] at hr hS ⊢
  by_cases hh : g = b.2
  · omega
  · have h2 := hmax (g + 1) (by omega) (by omega)
    rw [(alt_sum a b M).1, (alt_sum a b M).2] at h2
    simp only [Int.add_mul] at h2
    omega
theorem bridge_ex {a b : Int × Int} {to A : Int} {M : Nat} (hr : ((M : Int) + 1) * a.1 + ((M : Int) + 1) * b.1 ≤ to - A ∧ to - A ≤ ((M : Int) + 1) * a.2 + ((M : Int) + 1) * b.2) (hab : ((M : Int) + 1) * a.1 + (M : Int) * b.1 ≤ ((M : Int) + 1) * a.2 + (M : Int) * b.2) (h3 : b.1 ≤ b.2) : ∃ g, g ≤ b.2 ∧ b.1 ≤ g ∧ canK a b (to - A - g) M := by
  unfold canK
  rw [(alt_sum a b M).1, (alt_sum a b M).2]
  simp only [Int.add_mul] at hr hab ⊢
  by_cases hh : to - A - b.2 ≤ (M : Int) * a.1 + 1 * a.1 + (M : Int) * b.1
  · exact ⟨to - A - ((M : Int) * a.1 + 1 * a.1 + (M : Int) * b.1), by omega, by omega, by omega, by omega⟩
  · exact ⟨b.2, by omega, h3, by omega, by omega⟩
/-- The last hole; a hole and a bridge before others. -/
theorem lay_last {a b : Int × Int} {to A h : Int} (hh : min (A + a.2) (to - (((0 : Nat) : Int) * a.1 + ((0 : Nat) : Int) * b.1)) = A + h) : layP to (altL a b 0) true A = [(A, A + h)] := by
  have e : min (A + a.2) (to - sumLo []) = A + h := by simp only [sumLo]; omega
  simp only [altL, layP, e]
  rfl
theorem lay_more {a b : Int × Int} {to A h g : Int} {M : Nat} (hh : min (A + a.2) (to - (((M + 1 : Nat) : Int) * a.1 + ((M + 1 : Nat) : Int) * b.1)) = A + h) (hg : min (A + h + b.2) (to - sumLo (altL a b M)) = A + h + g) : layP to (altL a b (M + 1)) true A = (A, A + h) :: layP to (altL a b M) true (A + h + g) := by
  have e : min (A + a.2) (to - sumLo (b :: altL a b M)) = A + h := by
    rw [← hh]
    simp only [sumLo, (alt_sum a b M).1, Int.natCast_add, Int.add_mul]
    congr 1
    omega
  rw [altL_cons]
  simp only [layP, e, hg]
  rfl
end Go.Pv
