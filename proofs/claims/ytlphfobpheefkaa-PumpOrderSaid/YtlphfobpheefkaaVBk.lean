/-
  What this text proves: regulators in another order pass as much; with both in a row at least as much is lacking as with one alone, and at most as much as with each alone together. Conditions: bounds without an error.
-/
import Derived.Test.YtlphfobpheefkaaVBb
import Derived.Test.YtlphfobpheefkaaVAv
set_option linter.unusedVariables false
set_option linter.unusedSimpArgs false
namespace Go.Pv
open Go.RowKit
theorem cv_le {A L : Nat → Int} {n : Nat} (h0 : L 0 = 0) : ∀ {s q : Nat}, q ≤ s → (cv A L n s).1 ≤ A (n - q) + L q
  | 0, q, hq => by
    obtain rfl : q = 0 := by omega
    simp [cv, h0]
  | s + 1, q, hq => by
    have ih := fun h => cv_le (A := A) (L := L) (n := n) h0 (s := s) (q := q) h
    by_cases h : A (n - (s + 1)) + L (s + 1) < (cv A L n s).1
    · rw [cv_yes h]
      by_cases e : q = s + 1
      · subst e; exact Int.le_refl _
      · have := ih (by omega)
        dsimp only
        omega
    · rw [cv_no h]
      by_cases e : q = s + 1
      · subst e; omega
      · exact ih (by omega)
theorem cv_is {A L : Nat → Int} {n : Nat} (h0 : L 0 = 0) : ∀ s : Nat, ∃ q, q ≤ s ∧ (cv A L n s).1 = A (n - q) + L q
  | 0 => ⟨0, Nat.le_refl _, by simp [cv, h0]⟩
  | s + 1 => by
    by_cases h : A (n - (s + 1)) + L (s + 1) < (cv A L n s).1
    · exact ⟨s + 1, Nat.le_refl _, by rw [cv_yes h]⟩
    · obtain ⟨q, hq, e⟩ := cv_is (A := A) (L := L) (n := n) h0 s
      exact ⟨q, by omega, by rw [cv_no h]; exact e⟩
theorem conv_le {A L : Nat → Int} {n q : Nat} (h0 : L 0 = 0) (h : q ≤ n) : conv A L n ≤ A (n - q) + L q := cv_le h0 h
theorem conv_is {A L : Nat → Int} (h0 : L 0 = 0) (n : Nat) : ∃ q, q ≤ n ∧ conv A L n = A (n - q) + L q := cv_is h0 n
theorem conv_comm {A L : Nat → Int} (h0 : L 0 = 0) (h1 : A 0 = 0) (n : Nat) : conv A L n = conv L A n := by
  obtain ⟨q, hq, e⟩ := conv_is (A := A) h0 n
  obtain ⟨p, hp, f⟩ := conv_is (A := L) h1 n
  have k1 := conv_le (A := L) h1 (show n - q ≤ n by omega)
  have k2 := conv_le (A := A) h0 (show n - p ≤ n by omega)
  rw [show n - (n - q) = q by omega] at k1
  rw [show n - (n - p) = p by omega] at k2
  omega
theorem conv_congr {A B L : Nat → Int} (h0 : L 0 = 0) {n : Nat} (h : ∀ q, q ≤ n → A q = B q) : conv A L n = conv B L n := by
  obtain ⟨q, hq, e⟩ := conv_is (A := A) h0 n
  obtain ⟨p, hp, f⟩ := conv_is (A := B) h0 n
  have k1 := conv_le (A := B) h0 hq
  have k2 := conv_le (A := A) h0 hp
  have e1 := h (n - q) (by omega)
  have e2 := h (n - p) (by omega)
  omega
theorem rw_one {rs : List (List (Int × Int))} (h : bErr (rs.getD 0 []) = 0) {n : Nat} (hn : n ≤ 1000) : rwTo rs 1 n = leN (rs.getD 0 []) n := by
  obtain ⟨_, hb⟩ := bErr_inv h
  have k1 := conv_le (A := rwTo rs 0) (L := leN (rs.getD 0 [])) (le_zero _) (Nat.le_refl n)
  obtain ⟨q, hq, e⟩ := conv_is (A := rwTo rs 0) (L := leN (rs.getD 0 [])) (le_zero _) n
  have e0 : rwTo rs 1 n = conv (rwTo rs 0) (leN (rs.getD 0 [])) n := rfl
  have z0 : rwTo rs 0 (n - n) = 0 := by simp [rwTo]
  by_cases hqn : q = n
  · subst hqn
    omega
  · have z1 : rwTo rs 0 (n - q) = 4503599627370496 := by
      have : n - q ≠ 0 := by omega
      simp [rwTo, this]
    have b1 := (le_bd hb q).1
    have b2 := (le_bd hb n).2
    omega
theorem rw_two {a b : List (Int × Int)} (ha : bErr a = 0) (hb : bErr b = 0) {n : Nat} (hn : n ≤ 1000) : rwTo [a, b] 2 n = conv (leN a) (leN b) n :=
  conv_congr (le_zero _) fun q hq => rw_one (rs := [a, b]) ha (by omega)
theorem rw_order {a b : List (Int × Int)} (ha : bErr a = 0) (hb : bErr b = 0) {n : Nat} (hn : n ≤ 1000) : rwTo [a, b] 2 n = rwTo [b, a] 2 n := by
  rw [rw_two ha hb hn, rw_two hb ha hn]
  exact conv_comm (le_zero _) (le_zero _) n
theorem gl_ge {D R : List Int} : ∀ {k j : Nat}, j < k → D.getD j 0 - R.getD j 0 ≤ (glTo D R k).1
  | k + 1, j, hj => by
    have ih := fun h => gl_ge (D := D) (R := R) (k := k) (j := j) h
    by_cases h : (glTo D R k).1 < D.getD k 0 - R.getD k 0
    · rw [gl_yes h]
      by_cases e : j = k
      · subst e; exact Int.le_refl _
      · have := ih (by omega)
        dsimp only
        omega
    · rw [gl_no h]
      by_cases e : j = k
      · subst e; omega
      · exact ih (by omega)
theorem gl_is {D R : List Int} : ∀ k : Nat, (glTo D R k).1 = 0 ∨ ∃ j, j < k ∧ (glTo D R k).1 = D.getD j 0 - R.getD j 0
  | 0 => .inl rfl
  | k + 1 => by
    by_cases h : (glTo D R k).1 < D.getD k 0 - R.getD k 0
    · exact .inr ⟨k, by omega, by rw [gl_yes h]⟩
    · rcases gl_is (D := D) (R := R) k with e | ⟨j, hj, e⟩
      · exact .inl (by rw [gl_no h]; exact e)
      · exact .inr ⟨j, by omega, by rw [gl_no h]; exact e⟩
theorem gl_pos (D R : List Int) : ∀ k : Nat, 0 ≤ (glTo D R k).1
  | 0 => Int.le_refl _
  | k + 1 => by
    have ih := gl_pos D R k
    by_cases h : (glTo D R k).1 < D.getD k 0 - R.getD k 0
    · rw [gl_yes h]; dsimp only; omega
    · rw [gl_no h]; exact ih
theorem drop_ge (pls rs : List (List (Int × Int))) {n j : Nat} (h : j ≤ n) : dmN pls j - rwTo rs rs.length j ≤ (dropL pls rs n).1 := by
  have k := gl_ge (D := (List.range (n + 1)).map (dmN pls)) (R := (List.range (n + 1)).map (rwTo rs rs.length)) (show j < n + 1 by omega)
  rw [range_get (by omega), range_get (by omega)] at k
  exact k
theorem drop_is (pls rs : List (List (Int × Int))) (n : Nat) : (dropL pls rs n).1 = 0 ∨ ∃ j, j ≤ n ∧ (dropL pls rs n).1 = dmN pls j - rwTo rs rs.length j := by
  rcases gl_is (D := (List.range (n + 1)).map (dmN pls)) (R := (List.range (n + 1)).map (rwTo rs rs.length)) (n + 1) with e | ⟨j, hj, e⟩
  · exact .inl e
  · rw [range_get (by omega), range_get (by omega)] at e
    exact .inr ⟨j, by omega, e⟩
theorem drop_pos (pls rs : List (List (Int × Int))) (n : Nat) : 0 ≤ (dropL pls rs n).1 := gl_pos _ _ _
theorem drop_low {pls rs qs : List (List (Int × Int))} {n : Nat} (h : ∀ j, j ≤ n → rwTo qs qs.length j ≤ rwTo rs rs.length j) : (dropL pls rs n).1 ≤ (dropL pls qs n).1 := by
  have k0 := drop_pos pls qs n
  rcases drop_is pls rs n with e | ⟨j, hj, e⟩
  · omega
  · have k1 := drop_ge pls qs hj
    have k2 := h j hj
    omega
theorem drop_congr {pls rs qs : List (List (Int × Int))} {n : Nat} (h : ∀ j, j ≤ n → rwTo qs qs.length j = rwTo rs rs.length j) : dropL pls rs n = dropL pls qs n := by
  unfold dropL
  rw [List.map_congr_left (f := rwTo rs rs.length) (g := rwTo qs qs.length) (fun j hj => (h j (by have := List.mem_range.1 hj; omega)).symm)]
theorem delay_congr {pls rs qs : List (List (Int × Int))} {n : Nat} (h : ∀ j, j ≤ n + 200 → rwTo qs qs.length j = rwTo rs rs.length j) : delayL pls rs n = delayL pls qs n := by
  unfold delayL
  rw [List.map_congr_left (f := rwTo rs rs.length) (g := rwTo qs qs.length) (fun j hj => (h j (by have := List.mem_range.1 hj; omega)).symm)]
theorem dm_add {pls : List (List (Int × Int))} (h : ∀ i, i < pls.length → bErr (pls.getD i []) = 0) (a b : Nat) : ∀ k, k ≤ pls.length → dmTo pls k (a + b) ≤ dmTo pls k a + dmTo pls k b
  | 0, _ => by simp [dmTo]
  | k + 1, hk => by
    have ih := dm_add h a b k (by omega)
    obtain ⟨h1, hb⟩ := bErr_inv (h k (by omega))
    have := mo_add h1.1 hb a b
    simp only [dmTo]
    omega
/-- Everything that the law says of a plant with two regulators. -/
theorem order_all {pls : List (List (Int × Int))} {a b : List (Int × Int)} (hp : ∀ i, i < pls.length → bErr (pls.getD i []) = 0) (ha : bErr a = 0) (hb : bErr b = 0) {n : Nat} (hn : n ≤ 200) :
    (rwTo [a, b] 2 n = rwTo [b, a] 2 n ∧ dropL pls [a, b] n = dropL pls [b, a] n ∧ delayL pls [a, b] n = delayL pls [b, a] n) ∧ (dropL pls [a] n).1 ≤ (dropL pls [a, b] n).1 ∧ (dropL pls [b] n).1 ≤ (dropL pls [a, b] n).1 ∧ (dropL pls [a, b] n).1 ≤ (dropL pls [a] n).1 + (dropL pls [b] n).1 := by
  refine ⟨⟨rw_order ha hb (by omega), drop_congr fun j hj => rw_order hb ha (by omega), delay_congr fun j hj => rw_order hb ha (by omega)⟩, drop_low fun j hj => ?_, drop_low fun j hj => ?_, ?_⟩
  · have k := conv_le (A := leN a) (L := leN b) (le_zero _) (Nat.zero_le j)
    have e1 : rwTo [a, b] [a, b].length j = conv (leN a) (leN b) j := rw_two ha hb (by omega)
    have e2 : rwTo [a] [a].length j = leN a j := rw_one (rs := [a]) ha (by omega)
    have e3 := le_zero b
    rw [Nat.sub_zero] at k
    omega
  · have k := conv_le (A := leN a) (L := leN b) (le_zero _) (Nat.le_refl j)
    have e1 : rwTo [a, b] [a, b].length j = conv (leN a) (leN b) j := rw_two ha hb (by omega)
    have e2 : rwTo [b] [b].length j = leN b j := rw_one (rs := [b]) hb (by omega)
    have e3 := le_zero a
    rw [Nat.sub_self] at k
    omega
  · have p1 := drop_pos pls [a] n
    have p2 := drop_pos pls [b] n
    rcases drop_is pls [a, b] n with e | ⟨j, hj, e⟩
    · omega
    · have e1 : rwTo [a, b] [a, b].length j = conv (leN a) (leN b) j := rw_two ha hb (by omega)
      obtain ⟨q, hq, f⟩ := conv_is (A := leN a) (L := leN b) (le_zero _) j
      have k1 := drop_ge pls [a] (show j - q ≤ n by omega)
      have k2 := drop_ge pls [b] (show q ≤ n by omega)
      have e2 : rwTo [a] [a].length (j - q) = leN a (j - q) := rw_one (rs := [a]) ha (by omega)
      have e3 : rwTo [b] [b].length q = leN b q := rw_one (rs := [b]) hb (by omega)
      have m := dm_add hp (j - q) q pls.length (Nat.le_refl _)
      rw [show j - q + q = j by omega] at m
      have d0 : dmN pls j = dmTo pls pls.length j := rfl
      have d1 : dmN pls (j - q) = dmTo pls pls.length (j - q) := rfl
      have d2 : dmN pls q = dmTo pls pls.length q := rfl
      omega
end Go.Pv
