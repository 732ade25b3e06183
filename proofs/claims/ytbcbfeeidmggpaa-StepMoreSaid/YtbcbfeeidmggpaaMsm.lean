/-
  What this text proves: shifted, turned and multiplied positions allow the same steps, as plain facts. It speaks of no program but by its names.
-/
import Derived.Test.YtbcbfeeidmggpaaMq
set_option linter.unusedVariables false
set_option linter.unusedSimpArgs false

namespace Go.Pv
theorem fitsL_mem {off s o : Int} {xs : List Int} : fitsL off s o xs ↔ ∀ p ∈ xs, fits1 off s o p := by
  constructor
  · intro h p hp
    obtain ⟨j, hj, rfl⟩ := getD_mem hp
    exact h j hj
  · intro h j hj
    exact h _ (mem_getD hj)
def canFit (off s : Int) (xs : List Int) : Prop := ∃ o, 0 ≤ o ∧ o < s ∧ fitsL off s o xs
theorem canFit_sub {off s d : Int} {xs ys : List Int} (hs : 1 ≤ s) (h : ∀ y ∈ ys, ∃ p ∈ xs, y = p + d) (hf : canFit off s xs) : canFit off s ys := by
  obtain ⟨o, h1, h2, h3⟩ := hf
  rw [fitsL_mem] at h3
  refine ⟨(o + d) % s, Int.emod_nonneg _ (by omega), Int.emod_lt_of_pos _ (by omega), fitsL_mem.2 fun y hy => ?_⟩
  obtain ⟨p, hp, rfl⟩ := h y hy
  obtain ⟨r, h4, h5⟩ := (fits1_row hs).1 (h3 p hp)
  refine (fits1_row hs).2 ⟨r + (o + d) / s, ?_⟩
  have e := Int.mul_ediv_add_emod (o + d) s
  rw [Int.add_mul, Int.mul_comm ((o + d) / s) s]
  generalize r * s = q at *
  generalize s * ((o + d) / s) = q2 at *
  omega
/-- A copy read from its end, and shifted: the first k positions. -/
def revTo (xs : List Int) (d : Int) : Nat → List Int
  | 0 => []
  | k + 1 => revTo xs d k ++ [xs.getD (xs.length - 1 - k) 0 + d]
theorem revTo_len (xs : List Int) (d : Int) : ∀ k, (revTo xs d k).length = k
  | 0 => rfl
  | k + 1 => by simp [revTo, revTo_len xs d k]
theorem mem_revTo {xs : List Int} {d y : Int} : ∀ {k : Nat}, k ≤ xs.length → (y ∈ revTo xs d k ↔ ∃ j, xs.length - k ≤ j ∧ j < xs.length ∧ y = xs.getD j 0 + d)
  | 0, _ => by
    simp only [revTo, List.not_mem_nil, false_iff]
    rintro ⟨j, h1, h2, -⟩; omega
  | k + 1, hk => by
    rw [revTo, List.mem_append, mem_revTo (k := k) (by omega), List.mem_singleton]
    constructor
    · rintro (⟨j, h1, h2, h3⟩ | rfl)
      · exact ⟨j, by omega, h2, h3⟩
      · exact ⟨xs.length - 1 - k, by omega, by omega, rfl⟩
    · rintro ⟨j, h1, h2, h3⟩
      by_cases e : j = xs.length - 1 - k
      · subst e; exact .inr h3
      · exact .inl ⟨j, by omega, h2, h3⟩
theorem canFit_rev {off s d : Int} {xs : List Int} (hs : 1 ≤ s) : canFit off s (revTo xs d xs.length) ↔ canFit off s xs := by
  constructor
  · refine canFit_sub (d := -d) hs fun y hy => ?_
    obtain ⟨j, hj, rfl⟩ := getD_mem hy
    exact ⟨xs.getD j 0 + d, (mem_revTo (Nat.le_refl _)).2 ⟨j, by omega, hj, rfl⟩, by omega⟩
  · refine canFit_sub (d := d) hs fun y hy => ?_
    obtain ⟨j, -, hj, rfl⟩ := (mem_revTo (Nat.le_refl _)).1 hy
    exact ⟨_, mem_getD hj, rfl⟩
theorem revTo_get (xs : List Int) (d : Int) {k j : Nat} (hk : k ≤ xs.length) (hj : j < k) : ∃ i, i < xs.length ∧ (revTo xs d k).getD j 0 = xs.getD i 0 + d := by
  have h := mem_getD (xs := revTo xs d k) (j := j) (by rw [revTo_len]; exact hj)
  obtain ⟨i, -, hi, e⟩ := (mem_revTo hk).1 h
  exact ⟨i, hi, e⟩
theorem canFit_mul {s n : Int} {xs : List Int} (hs : 1 ≤ s) (hn : 1 ≤ n) (hf : canFit 0 s xs) : canFit 0 (n * s) (xs.map fun p => n * p) := by
  obtain ⟨o, h1, h2, h3⟩ := hf
  rw [fitsL_mem] at h3
  have hns : 1 ≤ n * s := by have := Int.mul_le_mul hn hs (by omega) (by omega); omega
  refine ⟨n * o, Int.mul_nonneg (by omega) h1, Int.mul_lt_mul_of_pos_left h2 (by omega), fitsL_mem.2 fun y hy => ?_⟩
  obtain ⟨p, hp, rfl⟩ := List.mem_map.1 hy
  obtain ⟨r, h4, h5⟩ := (fits1_row hs).1 (h3 p hp)
  refine (fits1_row hns).2 ⟨r, ?_⟩
  have e : n * p - n * o - r * (n * s) = n * (p - o - r * s) := by
    rw [Int.mul_sub, Int.mul_sub, Int.mul_left_comm]
  rw [e, show p - o - r * s = 0 by omega]
  simp
end Go.Pv
namespace Go.Proofs.Ytbcbfeeidmggpaa
open Go.Pv Go.RowKit
theorem okStep_can {off s : Int} {xss : List (List Int)} (hs : 0 ≤ s) : okStep off xss s ↔ ∀ c, c < xss.length → canFit off s (xss.getD c []) := okStep_iff hs
theorem stepL_congr {off lo : Int} {xss yss : List (List Int)} : ∀ k : Nat, (∀ n : Int, lo ≤ n → n < lo + k → (okStep off xss n ↔ okStep off yss n)) → stepL off xss lo k = stepL off yss lo k
  | 0, _ => rfl
  | k + 1, h => by
    have ih := stepL_congr (off := off) (lo := lo) (xss := xss) (yss := yss) k fun n h1 h2 => h n h1 (by omega)
    have hk := h (lo + k) (by omega) (by omega)
    by_cases e : okStep off xss (lo + k)
    · rw [stepL_yes e, stepL_yes (hk.1 e), ih]
    · rw [stepL_no e, stepL_no (fun e2 => e (hk.2 e2)), ih]
/-- The copies in the other order, each turned, the first one shifted. -/
theorem okStep_rev {off s sh : Int} {n : Nat} {xss : List (List Int)} (hs : 1 ≤ s) (hn : xss.length = n) : okStep off xss s ↔ okStep off ((List.range n).map fun i => revTo (xss.getD (n - 1 - i) []) (if i = 0 then sh else 0) (xss.getD (n - 1 - i) []).length) s := by
  rw [okStep_can (by omega), okStep_can (by omega)]
  constructor
  · intro h c hc
    have hc' : c < n := by simpa using hc
    rw [made_at _ hc']
    exact (canFit_rev hs).2 (h _ (by omega))
  · intro h c hc
    have h1 := h (n - 1 - c) (by simp; omega)
    rw [made_at _ (by omega)] at h1
    have h2 := (canFit_rev hs).1 h1
    rwa [show n - 1 - (n - 1 - c) = c by omega] at h2
theorem okStep_mul {s n : Int} {xs : List Int} (hs : 1 ≤ s) (hn : 1 ≤ n) (h : okStep 0 [xs] s) : okStep 0 [xs.map fun p => n * p] (n * s) := by
  have hns : 0 ≤ n * s := Int.mul_nonneg (by omega) (by omega)
  rw [okStep_can (by omega)] at h
  rw [okStep_can hns]
  intro c hc
  obtain rfl : c = 0 := by simpa using hc
  exact canFit_mul hs hn (by simpa using h 0 (by simp))
end Go.Proofs.Ytbcbfeeidmggpaa
