/-
  What this text proves: plain facts on arcs and rings. It speaks of no program.
-/
import Derived.Test.YtbcbfeeidmggpaaSpec
set_option linter.unusedVariables false
set_option linter.unusedSimpArgs false

namespace Go.Pv
theorem fits1_iff {off s o p : Int} (hs : 1 ≤ s) (ho : 0 ≤ o ∧ o < s) : fits1 off s o p ↔ ((p - off) % s ≤ o ∧ o ≤ (p - off) % s + 2 * off) ∨ (o < (p - off) % s ∧ o + s ≤ (p - off) % s + 2 * off) := by
  have h1 := Int.emod_nonneg (p - off) (show s ≠ 0 by omega)
  have h2 := Int.emod_lt_of_pos (p - off) (show 0 < s by omega)
  have h3 := Int.mul_ediv_add_emod (p - off) s
  unfold fits1
  generalize (p - off) % s = f at *
  generalize (p - off) / s = q at *
  have e1 : -(p - o - off) = (o - f) + s * (-q) := by rw [Int.mul_neg]; omega
  have e2 : p - o + off = (f - o + 2 * off) + s * q := by omega
  rw [e1, e2, Int.add_mul_ediv_left _ _ (by omega), Int.add_mul_ediv_left _ _ (by omega)]
  have c := Int.le_ediv_iff_mul_le (a := 0) (b := f - o + 2 * off) (show 0 < s by omega)
  have c1 := Int.le_ediv_iff_mul_le (a := 1) (b := f - o + 2 * off) (show 0 < s by omega)
  rcases Int.lt_or_le o f with h | h
  · have e : (o - f) / s = -1 := by
      have a1 := Int.le_ediv_iff_mul_le (a := -1) (b := o - f) (show 0 < s by omega)
      have a2 := Int.le_ediv_iff_mul_le (a := 0) (b := o - f) (show 0 < s by omega)
      omega
    omega
  · have e : (o - f) / s = 0 := Int.ediv_eq_zero_of_lt (by omega) (by omega)
    omega
theorem arc_fits {off s o p : Int} (hs : 1 ≤ s) (ho : 0 ≤ o ∧ o < s) (hoff : 0 ≤ off) : fromP (arcP p off s) o s ≤ o ↔ fits1 off s o p := by
  rw [fits1_iff hs ho]
  have h1 := Int.emod_nonneg (p - off) (show s ≠ 0 by omega)
  have h2 := Int.emod_lt_of_pos (p - off) (show 0 < s by omega)
  unfold arcP
  split
  · unfold fromP; simp only []
    rw [if_neg (by omega), if_neg (by omega), if_pos (by omega)]
    omega
  · unfold fromP; simp only []
    repeat' split
    all_goals omega
theorem posErr_inv {xs : List Int} (h : posErr xs = 0) : 1 ≤ xs.length ∧ xs.length ≤ 12 ∧ ∀ j, j < xs.length → 0 ≤ xs.getD j 0 ∧ xs.getD j 0 ≤ 1000000 := by
  unfold posErr at h
  split at h
  · omega
  · split at h
    · omega
    · split at h
      · next h1 h2 h3 => exact ⟨by omega, by omega, fun j hj => h3 _ (mem_getD hj)⟩
      · omega
theorem firstErr_inv {xss : List (List Int)} (h : firstErr xss = 0) : ∀ j, j < xss.length → posErr (xss.getD j []) = 0 := by
  induction xss with
  | nil => intro j hj; simp at hj
  | cons xs r ih =>
    simp only [firstErr] at h
    split at h
    · next h1 =>
      intro j hj
      cases j with
      | zero => simpa using h1
      | succ j => simpa using ih h j (by simpa using hj)
    · contradiction
theorem chk_inv {off : Int} {xss : List (List Int)} (h : chk off xss = 0) : 0 ≤ off ∧ off ≤ 50 ∧ 1 ≤ xss.length ∧ xss.length ≤ 6 ∧ ∀ j, j < xss.length → posErr (xss.getD j []) = 0 := by
  unfold chk at h
  split at h
  · omega
  · split at h
    · omega
    · split at h
      · omega
      · exact ⟨by omega, by omega, by omega, by omega, firstErr_inv h⟩
theorem ask_inv {off : Int} {xss : List (List Int)} {c s : Int} (h : askErr off xss c s = 0) : chk off xss = 0 ∧ 0 ≤ off ∧ off ≤ 50 ∧ 0 ≤ c ∧ c < xss.length ∧ 1 ≤ s ∧ s ≤ 1000 ∧ 1 ≤ (xss.getD c.toNat []).length ∧ (xss.getD c.toNat []).length ≤ 12 ∧ ∀ j, j < (xss.getD c.toNat []).length → 0 ≤ (xss.getD c.toNat []).getD j 0 ∧ (xss.getD c.toNat []).getD j 0 ≤ 1000000 := by
  unfold askErr at h
  split at h
  · omega
  · split at h
    · omega
    · split at h
      · omega
      · next h1 h2 h3 =>
        have h4 : chk off xss = 0 := by omega
        obtain ⟨a, b, _, _, e⟩ := chk_inv h4
        obtain ⟨f, g, k⟩ := posErr_inv (e c.toNat (by omega))
        exact ⟨h4, a, b, by omega, by omega, by omega, by omega, f, g, k⟩
theorem span_inv {off : Int} {xss : List (List Int)} {lo hi : Int} (h : spanErr off xss lo hi = 0) : chk off xss = 0 ∧ 1 ≤ lo ∧ lo ≤ hi ∧ hi ≤ 1000 := by
  unfold spanErr at h
  split at h
  · omega
  · split at h
    · omega
    · omega
/-- Arcs of a step. -/
def WfA (s : Int) (as : List (Int × Int)) : Prop := ∀ j, j < as.length → 0 ≤ (as.getD j (0, 0)).1 ∧ (as.getD j (0, 0)).1 < s ∧ 0 ≤ (as.getD j (0, 0)).2 ∧ (as.getD j (0, 0)).2 ≤ s
def inA (s : Int) (as : List (Int × Int)) (o : Int) : Prop := ∀ j, j < as.length → fromP (as.getD j (0, 0)) o s ≤ o
instance (s : Int) (as : List (Int × Int)) (o : Int) : Decidable (inA s as o) := by unfold inA; exact inferInstance
def arcTo (s : Int) (as : List (Int × Int)) : Nat → List Int
  | 0 => []
  | k + 1 => if inA s as k then arcTo s as k ++ [(k : Int)] else arcTo s as k
theorem arcTo_yes {s : Int} {as : List (Int × Int)} {k : Nat} (h : inA s as k) : arcTo s as (k + 1) = arcTo s as k ++ [(k : Int)] := by simp [arcTo, h]
theorem arcTo_no {s : Int} {as : List (Int × Int)} {k : Nat} (h : ¬ inA s as k) : arcTo s as (k + 1) = arcTo s as k := by simp [arcTo, h]
theorem arcTo_len (s : Int) (as : List (Int × Int)) : ∀ k, (arcTo s as k).length ≤ k
  | 0 => by simp [arcTo]
  | k + 1 => by
    have := arcTo_len s as k
    simp only [arcTo]
    split
    · simp; omega
    · omega
theorem arcTo_skip {s : Int} {as : List (Int × Int)} {a : Nat} : ∀ {b : Nat}, a ≤ b → (∀ k, a ≤ k → k < b → ¬ inA s as k) → arcTo s as b = arcTo s as a := by
  intro b hab
  induction b with
  | zero => intro _; have : a = 0 := by omega
            subst this; rfl
  | succ b ih =>
    intro h
    by_cases e : a = b + 1
    · subst e; rfl
    · rw [arcTo_no (h b (by omega) (by omega)), ih (by omega) fun k h1 h2 => h k h1 (by omega)]
theorem arcTo_mem {s : Int} {as : List (Int × Int)} {k : Nat} (h : inA s as k) : ∀ {n : Nat}, k < n → (k : Int) ∈ arcTo s as n := by
  intro n
  induction n with
  | zero => intro h; omega
  | succ n ih =>
    intro hn
    by_cases e : k = n
    · subst e; rw [arcTo_yes h]; simp
    · have := ih (by omega)
      simp only [arcTo]
      split
      · simp [this]
      · exact this
theorem arcTo_ne {s : Int} {as : List (Int × Int)} {k n : Nat} (h : inA s as k) (hn : k < n) : arcTo s as n ≠ [] := by
  have := arcTo_mem h hn
  intro e; rw [e] at this; cases this
theorem from_le {s o : Int} {as : List (Int × Int)} {j : Nat} (h : WfA s as) (hj : j < as.length) (ho : 0 ≤ o ∧ o < s) : o ≤ fromP (as.getD j (0, 0)) o s ∧ fromP (as.getD j (0, 0)) o s ≤ s := by
  have := h j hj
  unfold fromP
  repeat' split
  all_goals omega
theorem from_skip {s o k : Int} {as : List (Int × Int)} {j : Nat} (hj : j < as.length) (h1 : o ≤ k) (h2 : k < fromP (as.getD j (0, 0)) o s) (h3 : o < fromP (as.getD j (0, 0)) o s) : ¬ inA s as k := by
  intro h
  have h4 := h j hj
  unfold fromP at h2 h3 h4
  repeat' split at h2
  all_goals first | omega | (repeat' split at h4)
  all_goals omega
/-- From o on to the next offset that an arc has, nothing is in all arcs. -/
theorem arcTo_jump {s : Int} {as : List (Int × Int)} {o j : Nat} (h : WfA s as) (hj : j < as.length) (ho : (o : Int) < s) (h3 : (o : Int) < fromP (as.getD j (0, 0)) o s) : arcTo s as (fromP (as.getD j (0, 0)) o s).toNat = arcTo s as o := by
  have := from_le h hj ⟨Int.natCast_nonneg o, ho⟩
  refine arcTo_skip (by omega) fun k h1 h2 => from_skip hj (o := o) (by omega) (by omega) h3
theorem ring_wf {off s : Int} {xs : List Int} (hs : 1 ≤ s) (ho : 0 ≤ off) : WfA s (ringL off s xs) := by
  intro j hj
  have hj' : j < xs.length := by simpa [ringL] using hj
  have e : (ringL off s xs).getD j (0, 0) = arcP (xs.getD j 0) off s := by simp [ringL, hj']
  rw [e]
  have h1 := Int.emod_nonneg (xs.getD j 0 - off) (show s ≠ 0 by omega)
  have h2 := Int.emod_lt_of_pos (xs.getD j 0 - off) (show 0 < s by omega)
  unfold arcP
  split
  · simp; omega
  · simp only []; omega
theorem ring_in {off s : Int} {xs : List Int} {o : Int} (hs : 1 ≤ s) (ho : 0 ≤ off) (h : 0 ≤ o ∧ o < s) : inA s (ringL off s xs) o ↔ fitsL off s o xs := by
  have hl : (ringL off s xs).length = xs.length := by simp [ringL]
  have e : ∀ j, j < xs.length → (ringL off s xs).getD j (0, 0) = arcP (xs.getD j 0) off s := fun j hj => by simp [ringL, hj]
  constructor
  · intro hi j hj
    have := hi j (by omega)
    rw [e j hj] at this
    exact (arc_fits hs h ho).1 this
  · intro hi j hj
    rw [e j (by omega)]
    exact (arc_fits hs h ho).2 (hi j (by omega))
theorem ring_to {off s : Int} {xs : List Int} (hs : 1 ≤ s) (ho : 0 ≤ off) : ∀ k : Nat, (k : Int) ≤ s → arcTo s (ringL off s xs) k = offTo off s xs k
  | 0, _ => rfl
  | k + 1, h => by
    have ih := ring_to (xs := xs) hs ho k (by omega)
    have hi := ring_in (xs := xs) (o := k) hs ho ⟨by omega, by omega⟩
    by_cases hc : inA s (ringL off s xs) k
    · rw [arcTo_yes hc, offTo_yes (hi.1 hc), ih]
    · rw [arcTo_no hc, offTo_no (fun h => hc (hi.2 h)), ih]
theorem ring_all {off s : Int} {xs : List Int} (hs : 1 ≤ s) (ho : 0 ≤ off) : arcTo s (ringL off s xs) s.toNat = offL off s xs := ring_to hs ho _ (by omega)
theorem mem_offTo {off s : Int} {xs : List Int} {n : Int} : ∀ {k : Nat}, n ∈ offTo off s xs k ↔ 0 ≤ n ∧ n < k ∧ fitsL off s n xs
  | 0 => by simp [offTo]; intro _ _; omega
  | k + 1 => by
    have ih := mem_offTo (off := off) (s := s) (xs := xs) (n := n) (k := k)
    simp only [offTo]
    split
    · next h =>
      rw [List.mem_append, ih, List.mem_singleton]
      constructor
      · rintro (⟨h1, h2, h3⟩ | rfl)
        · exact ⟨h1, by omega, h3⟩
        · exact ⟨by omega, by omega, h⟩
      · rintro ⟨h1, h2, h3⟩
        by_cases e : n = k
        · exact .inr e
        · exact .inl ⟨h1, by omega, h3⟩
    · next h =>
      rw [ih]
      constructor
      · rintro ⟨h1, h2, h3⟩; exact ⟨h1, by omega, h3⟩
      · rintro ⟨h1, h2, h3⟩
        refine ⟨h1, ?_, h3⟩
        by_cases e : n = k
        · subst e; exact absurd h3 h
        · omega
theorem mem_offL {off s : Int} {xs : List Int} {n : Int} (hs : 0 ≤ s) : n ∈ offL off s xs ↔ 0 ≤ n ∧ n < s ∧ fitsL off s n xs := by
  unfold offL; rw [mem_offTo]; constructor <;> rintro ⟨a, b, c⟩ <;> exact ⟨a, by omega, c⟩
/-- The rows of a position, and of all positions. -/
def rowP (off s o p : Int) : Int × Int := (-(-(p - o - off) / s), (p - o + off) / s)
def rowsL (off s o : Int) (xs : List Int) : List (Int × Int) := xs.map fun p => rowP off s o p
theorem rowsL_len (off s o : Int) (xs : List Int) : (rowsL off s o xs).length = xs.length := List.length_map ..
theorem rowsL_succ (off s o : Int) (xs : List Int) (k : Nat) (hk : k < xs.length) : rowsL off s o (xs.take (k + 1)) = rowsL off s o (xs.take k) ++ [(-(-(xs.getD k 0 - o - off) / s), (xs.getD k 0 - o + off) / s)] := by
  unfold rowsL
  rw [List.take_succ_eq_append_getElem hk, List.map_append]
  have e : xs.getD k 0 = xs[k] := by simp [hk]
  rw [e]; rfl
theorem rowsL_succ' (off s o : Int) (xs : List Int) (k : Nat) (hk : k < xs.length) : rowsL off s o (xs.take (k + 1)) = rowsL off s o (xs.take k) ++ [(-(-(xs.getD k 0 - off - o) / s), (xs.getD k 0 + off - o) / s)] := by
  rw [rowsL_succ off s o xs k hk]
  have e1 : xs.getD k 0 - o - off = xs.getD k 0 - off - o := by omega
  have e2 : xs.getD k 0 - o + off = xs.getD k 0 + off - o := by omega
  rw [e1, e2]
/-- The error of rows. -/
def rowErr (off : Int) (xss : List (List Int)) (c s o : Int) : Int := if askErr off xss c s ≠ 0 then askErr off xss c s else if o < 0 ∨ s ≤ o then 3 else if fitsL off s o (xss.getD c.toNat []) then 0 else 8
theorem rowErr_ask {off : Int} {xss : List (List Int)} {c s o : Int} (h : askErr off xss c s ≠ 0) : rowErr off xss c s o = askErr off xss c s := by unfold rowErr; rw [if_pos h]
theorem rowErr_range {off : Int} {xss : List (List Int)} {c s o : Int} (h : askErr off xss c s = 0) (h2 : o < 0 ∨ s ≤ o) : rowErr off xss c s o = 3 := by unfold rowErr; rw [if_neg (by omega), if_pos h2]
theorem rowErr_none {off : Int} {xss : List (List Int)} {c s o : Int} (h : askErr off xss c s = 0) (h2 : ¬ (o < 0 ∨ s ≤ o)) (h3 : ¬ fitsL off s o (xss.getD c.toNat [])) : rowErr off xss c s o = 8 := by unfold rowErr; rw [if_neg (by omega), if_neg h2, if_neg h3]
theorem rowErr_ok {off : Int} {xss : List (List Int)} {c s o : Int} (h : askErr off xss c s = 0) (h2 : ¬ (o < 0 ∨ s ≤ o)) (h3 : fitsL off s o (xss.getD c.toNat [])) : rowErr off xss c s o = 0 := by unfold rowErr; rw [if_neg (by omega), if_neg h2, if_pos h3]
end Go.Pv
