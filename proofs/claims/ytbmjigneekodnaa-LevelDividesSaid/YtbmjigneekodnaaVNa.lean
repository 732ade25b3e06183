/-
  (rows) What this text proves: codings by numbers, and codings that are moved or turned around, as plain functions: what is best for them is alike. It speaks of no program.
-/
import Derived.Test.YtbmjigneekodnaaVLp
set_option linter.unusedVariables false
set_option linter.unusedSimpArgs false

namespace Go.Pv
/-- The Set of the code at k, and the code, by numbers. -/
def stS (xs : List T3) : Nat → Int
  | 0 => -3
  | k + 1 => stS xs k + (1 + (xs.getD k cD).1 % 4)
def mkAt (xs : List T3) (k : Nat) : T3 := (stS xs k, (xs.getD k cD).2.1 % 40, (xs.getD k cD).2.1 % 40 + (xs.getD k cD).2.2 % 12)
def madeL (xs : List T3) : List T3 := if xs.length = 0 then [(-3, 3, 4)] else (List.range (min 5 xs.length)).map (mkAt xs)
/-- A coding of few codes with small numbers. -/
def smallL (l : List T3) : Prop := (1 ≤ l.length ∧ l.length ≤ 5) ∧ (∀ j, j < l.length → (-3 ≤ (l.getD j cD).1 ∧ (l.getD j cD).1 ≤ 13) ∧ (0 ≤ (l.getD j cD).2.1 ∧ (l.getD j cD).2.1 ≤ 39) ∧ (l.getD j cD).2.1 ≤ (l.getD j cD).2.2 ∧ (l.getD j cD).2.2 ≤ 50) ∧ ∀ i j, i < j → j < l.length → (l.getD i cD).1 < (l.getD j cD).1
/-- The best error is not below 0, and small. -/
theorem best_nn {l : List T3} {f : Int × Int} (hv : Valid l) (h : bestIs l f) : 0 ≤ f.1 ∧ 1 ≤ f.2 := by
  have hf := best_ok hv h
  have h0 := h.2 (0, 0, 0) (Or.inl ⟨rfl, rfl, by have := hv.1.1; simp only; omega⟩)
  have hc := hv.2.1 0 (by have := hv.1.1; omega)
  unfold fLt prvL oneP at h0
  simp only [and_self, if_true] at h0
  unfold codeOk at hc
  unfold fOk at hf
  have h1 := Int.mul_nonneg (show 0 ≤ (l.getD 0 cD).2.2 - (l.getD 0 cD).2.1 by omega) (show 0 ≤ f.2 by omega)
  omega
theorem low_cross {f : Int × Int} (hf : 1 ≤ f.2) : f.1 * (low f).2 = (low f).1 * f.2 := by
  have e2 := Int.ediv_mul_cancel (Int.gcd_dvd_right (a := f.1) (b := f.2))
  have e1 := Int.ediv_mul_cancel (Int.gcd_dvd_left (a := f.1) (b := f.2))
  unfold low
  dsimp only
  generalize (Int.gcd f.1 f.2 : Int) = g at *
  generalize f.2 / g = d at *
  generalize f.1 / g = n at *
  rw [← e1, ← e2]
  ac_rfl
theorem low_pair {l : List T3} {f a : Int × Int} (h2 : 2 ≤ l.length) (h : lowI l f l.length 0 a) : (∃ p q, p < q ∧ q < l.length ∧ a = lowF f (l.getD p cD) (l.getD q cD)) ∧ ∀ p q, p < q → q < l.length → ¬ fLt a (lowF f (l.getD p cD) (l.getD q cD)) := by
  rcases h with ⟨h, _⟩ | ⟨⟨p, q, h3, h4⟩, h5⟩
  · omega
  · unfold seenP at h3
    exact ⟨⟨p, q, h3.1, by omega, h4⟩, fun p q h6 h7 => h5 p q ⟨h6, Or.inl h7⟩⟩
theorem high_pair {l : List T3} {f a : Int × Int} (h2 : 2 ≤ l.length) (h : highI l f l.length 0 a) : (∃ p q, p < q ∧ q < l.length ∧ a = highF f (l.getD p cD) (l.getD q cD)) ∧ ∀ p q, p < q → q < l.length → ¬ fLt (highF f (l.getD p cD) (l.getD q cD)) a := by
  rcases h with ⟨h, _⟩ | ⟨⟨p, q, h3, h4⟩, h5⟩
  · omega
  · unfold seenP at h3
    exact ⟨⟨p, q, h3.1, by omega, h4⟩, fun p q h6 h7 => h5 p q ⟨h6, Or.inl h7⟩⟩
end Go.Pv
