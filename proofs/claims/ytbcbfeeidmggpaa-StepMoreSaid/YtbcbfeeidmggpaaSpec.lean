/-
  What this text proves: what the promises of layer 1 say, as plain functions on integers and lists, and facts on them. It speaks of no program.
-/
import Derived.Test.YtbcbfeeidmggpaaMath
set_option linter.unusedVariables false
set_option linter.unusedSimpArgs false

namespace Go.Pv
/-- The error of a copy's positions. -/
def posErr (xs : List Int) : Int := if xs.length = 0 then 4 else if 12 < xs.length then 5 else if (∀ p ∈ xs, 0 ≤ p ∧ p ≤ 1000000) then 0 else 3
def firstErr : List (List Int) → Int
  | [] => 0
  | xs :: r => if posErr xs = 0 then firstErr r else posErr xs
/-- The error of a sheet. -/
def chk (off : Int) (xss : List (List Int)) : Int := if off < 0 ∨ 50 < off then 3 else if xss.length = 0 then 4 else if 6 < xss.length then 5 else firstErr xss
theorem getD_mem {xs : List Int} {p : Int} (h : p ∈ xs) : ∃ j, j < xs.length ∧ xs.getD j 0 = p := by
  obtain ⟨j, hj, rfl⟩ := List.getElem_of_mem h
  exact ⟨j, hj, by simp [hj]⟩
theorem mem_getD {xs : List Int} {j : Nat} (h : j < xs.length) : xs.getD j 0 ∈ xs := by simp [h]
theorem posErr_bad {xs : List Int} {j : Nat} (h0 : ¬ xs.length = 0) (h1 : ¬ 12 < xs.length) (hj : j < xs.length) (hb : xs.getD j 0 < 0 ∨ 1000000 < xs.getD j 0) : posErr xs = 3 := by
  unfold posErr
  rw [if_neg h0, if_neg h1, if_neg]
  intro h
  have := h _ (mem_getD hj)
  omega
theorem posErr_good {xs : List Int} (h0 : ¬ xs.length = 0) (h1 : ¬ 12 < xs.length) (h : ∀ j, j < xs.length → 0 ≤ xs.getD j 0 ∧ xs.getD j 0 ≤ 1000000) : posErr xs = 0 := by
  unfold posErr
  rw [if_neg h0, if_neg h1, if_pos]
  intro p hp
  obtain ⟨j, hj, rfl⟩ := getD_mem hp
  exact h j hj
theorem firstErr_bad {xss : List (List Int)} : ∀ {k : Nat}, k < xss.length → (∀ j, j < k → posErr (xss.getD j []) = 0) → posErr (xss.getD k []) ≠ 0 → firstErr xss = posErr (xss.getD k []) := by
  induction xss with
  | nil => intro k hk; simp at hk
  | cons xs r ih =>
    intro k hk h1 h2
    cases k with
    | zero => simp at h2 ⊢; simp [firstErr, h2]
    | succ k =>
      have h3 := h1 0 (by omega)
      simp at h3
      simp only [firstErr, h3, if_true]
      have := ih (k := k) (by simpa using hk) (fun j hj => by simpa using h1 (j + 1) (by omega)) (by simpa using h2)
      simpa using this
theorem firstErr_good {xss : List (List Int)} (h : ∀ j, j < xss.length → posErr (xss.getD j []) = 0) : firstErr xss = 0 := by
  induction xss with
  | nil => rfl
  | cons xs r ih =>
    have h3 := h 0 (by simp)
    simp at h3
    simp only [firstErr, h3, if_true]
    exact ih fun j hj => by simpa using h (j + 1) (by simpa using hj)
theorem posErr_empty {xs : List Int} (h : xs.length = 0) : posErr xs = 4 := by unfold posErr; rw [if_pos h]
theorem posErr_many {xs : List Int} (h : 12 < xs.length) : posErr xs = 5 := by unfold posErr; rw [if_neg (by omega), if_pos h]
theorem chk_off {off : Int} {xss : List (List Int)} (h : off < 0 ∨ 50 < off) : chk off xss = 3 := by unfold chk; rw [if_pos h]
theorem chk_none {off : Int} {xss : List (List Int)} (h : ¬ (off < 0 ∨ 50 < off)) (h2 : xss.length = 0) : chk off xss = 4 := by unfold chk; rw [if_neg h, if_pos h2]
theorem chk_many {off : Int} {xss : List (List Int)} (h : ¬ (off < 0 ∨ 50 < off)) (h2 : 6 < xss.length) : chk off xss = 5 := by unfold chk; rw [if_neg h, if_neg (by omega), if_pos h2]
theorem chk_first {off : Int} {xss : List (List Int)} (h : ¬ (off < 0 ∨ 50 < off)) (h2 : ¬ xss.length = 0) (h3 : ¬ 6 < xss.length) : chk off xss = firstErr xss := by unfold chk; rw [if_neg h, if_neg h2, if_neg h3]
theorem chk_bad {off : Int} {xss : List (List Int)} {k : Nat} (h : ¬ (off < 0 ∨ 50 < off)) (h2 : ¬ xss.length = 0) (h3 : ¬ 6 < xss.length) (hk : k < xss.length) (h1 : ∀ j, j < k → posErr (xss.getD j []) = 0) (h4 : posErr (xss.getD k []) ≠ 0) : chk off xss = posErr (xss.getD k []) := by
  rw [chk_first h h2 h3]; exact firstErr_bad hk h1 h4
theorem chk_good {off : Int} {xss : List (List Int)} (h : ¬ (off < 0 ∨ 50 < off)) (h2 : ¬ xss.length = 0) (h3 : ¬ 6 < xss.length) (h1 : ∀ j, j < xss.length → posErr (xss.getD j []) = 0) : chk off xss = 0 := by
  rw [chk_first h h2 h3]; exact firstErr_good h1
/-- A string of bytes is a name. -/
def nameOk (bs : List Int) : Prop := 1 ≤ bs.length ∧ bs.length ≤ 8 ∧ ∀ j, j < bs.length → 97 ≤ bs.getD j 0 ∧ bs.getD j 0 ≤ 122
instance (bs : List Int) : Decidable (nameOk bs) := by unfold nameOk; exact inferInstance
/-- A position fits a step and an offset. -/
def fits1 (off s o p : Int) : Prop := -(-(p - o - off) / s) ≤ (p - o + off) / s
instance (off s o p : Int) : Decidable (fits1 off s o p) := by unfold fits1; exact inferInstance
def fitsL (off s o : Int) (xs : List Int) : Prop := ∀ j, j < xs.length → fits1 off s o (xs.getD j 0)
instance (off s o : Int) (xs : List Int) : Decidable (fitsL off s o xs) := by unfold fitsL; exact inferInstance
/-- The possible offsets below k, and all of them. -/
def offTo (off s : Int) (xs : List Int) : Nat → List Int
  | 0 => []
  | k + 1 => if fitsL off s k xs then offTo off s xs k ++ [(k : Int)] else offTo off s xs k
def offL (off s : Int) (xs : List Int) : List Int := offTo off s xs s.toNat
theorem offTo_yes {off s : Int} {xs : List Int} {k : Nat} (h : fitsL off s k xs) : offTo off s xs (k + 1) = offTo off s xs k ++ [(k : Int)] := by simp [offTo, h]
theorem offTo_no {off s : Int} {xs : List Int} {k : Nat} (h : ¬ fitsL off s k xs) : offTo off s xs (k + 1) = offTo off s xs k := by simp [offTo, h]
theorem offTo_len (off s : Int) (xs : List Int) : ∀ k, (offTo off s xs k).length ≤ k
  | 0 => by simp [offTo]
  | k + 1 => by
    have := offTo_len off s xs k
    simp only [offTo]
    split
    · simp; omega
    · omega
/-- The error of a sheet, the number of a copy, and a step. -/
def askErr (off : Int) (xss : List (List Int)) (c s : Int) : Int := if chk off xss ≠ 0 then chk off xss else if c < 0 ∨ (xss.length : Int) ≤ c then 8 else if s < 1 ∨ 1000 < s then 3 else 0
theorem ask_chk {off : Int} {xss : List (List Int)} {c s : Int} (h : chk off xss ≠ 0) : askErr off xss c s = chk off xss := by unfold askErr; rw [if_pos h]
theorem ask_none {off : Int} {xss : List (List Int)} {c s : Int} (h : chk off xss = 0) (h2 : c < 0 ∨ (xss.length : Int) ≤ c) : askErr off xss c s = 8 := by unfold askErr; rw [if_neg (by omega), if_pos h2]
theorem ask_range {off : Int} {xss : List (List Int)} {c s : Int} (h : chk off xss = 0) (h2 : ¬ (c < 0 ∨ (xss.length : Int) ≤ c)) (h3 : s < 1 ∨ 1000 < s) : askErr off xss c s = 3 := by unfold askErr; rw [if_neg (by omega), if_neg h2, if_pos h3]
theorem ask_ok {off : Int} {xss : List (List Int)} {c s : Int} (h : chk off xss = 0) (h2 : ¬ (c < 0 ∨ (xss.length : Int) ≤ c)) (h3 : ¬ (s < 1 ∨ 1000 < s)) : askErr off xss c s = 0 := by unfold askErr; rw [if_neg (by omega), if_neg h2, if_neg h3]
def spanErr (off : Int) (xss : List (List Int)) (lo hi : Int) : Int := if chk off xss ≠ 0 then chk off xss else if lo < 1 ∨ hi < lo ∨ 1000 < hi then 3 else 0
theorem span_chk {off : Int} {xss : List (List Int)} {lo hi : Int} (h : chk off xss ≠ 0) : spanErr off xss lo hi = chk off xss := by unfold spanErr; rw [if_pos h]
theorem span_range {off : Int} {xss : List (List Int)} {lo hi : Int} (h : chk off xss = 0) (h2 : lo < 1 ∨ hi < lo ∨ 1000 < hi) : spanErr off xss lo hi = 3 := by unfold spanErr; rw [if_neg (by omega), if_pos h2]
theorem span_ok {off : Int} {xss : List (List Int)} {lo hi : Int} (h : chk off xss = 0) (h2 : ¬ (lo < 1 ∨ hi < lo ∨ 1000 < hi)) : spanErr off xss lo hi = 0 := by unfold spanErr; rw [if_neg (by omega), if_neg h2]
/-- The arc of a position. -/
def arcP (p off s : Int) : Int × Int := if s ≤ 2 * off + 1 then (0, s) else ((p - off) % s, 2 * off + 1)
theorem arcP_all {p off s : Int} (h : s ≤ 2 * off + 1) : arcP p off s = (0, s) := by unfold arcP; rw [if_pos h]
theorem arcP_some {p off s : Int} (h : ¬ s ≤ 2 * off + 1) : arcP p off s = ((p - off) % s, 2 * off + 1) := by unfold arcP; rw [if_neg h]
def ringL (off s : Int) (xs : List Int) : List (Int × Int) := xs.map fun p => arcP p off s
theorem ringL_succ (off s : Int) (xs : List Int) (k : Nat) (hk : k < xs.length) : ringL off s (xs.take (k + 1)) = ringL off s (xs.take k) ++ [((arcP (xs.getD k 0) off s).1, (arcP (xs.getD k 0) off s).2)] := by
  unfold ringL
  rw [List.take_succ_eq_append_getElem hk, List.map_append]
  have e : xs.getD k 0 = xs[k] := by simp [hk]
  rw [e]; rfl
/-- The least offset of an arc from a given one on, or the step. -/
def fromP (a : Int × Int) (o s : Int) : Int := if o < a.1 + a.2 - s then o else if o < a.1 then a.1 else if o < a.1 + a.2 then o else s
end Go.Pv
