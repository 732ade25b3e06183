/-
  (rows) What this text proves: codings by numbers, and codings that are moved or turned around, as plain functions: what is best for them is alike. It speaks of no program.
-/
import Derived.Test.YtbmjigneekodnaaVLp
set_option linter.unusedVariables false
set_option linter.unusedSimpArgs false

namespace Go.Pv
/-- The Set of the code at k, and the code, by numbers. -/
def stS (xs : List T3) : Nat → Int
  | 0 => -3
  | k + 1 => stS xs k + (1 + (xs.getD k cD).1 % 4)
def mkAt (xs : List T3) (k : Nat) : T3 := (stS xs k, (xs.getD k cD).2.1 % 40, (xs.getD k cD).2.1 % 40 + (xs.getD k cD).2.2 % 12)
def madeL (xs : List T3) : List T3 := if xs.length = 0 then [(-3, 3, 4)] else (List.range (min 5 xs.length)).map (mkAt xs)
theorem mk_next (xs : List T3) (k : Nat) : (List.range k).map (mkAt xs) ++ [mkAt xs k] = (List.range (k + 1)).map (mkAt xs) := by simp [List.range_succ]
theorem range_getD {α : Type} (f : Nat → α) (d : α) {n k : Nat} (h : k < n) : ((List.range n).map f).getD k d = f k := by
  simp [List.getD, h]
theorem stS_bd (xs : List T3) (k : Nat) : -3 + (k : Int) ≤ stS xs k ∧ stS xs k ≤ -3 + 4 * k := by
  induction k with
  | zero => simp [stS]
  | succ k ih => simp only [stS]; omega
theorem stS_lt (xs : List T3) {i j : Nat} (h : i < j) : stS xs i < stS xs j := by
  induction j with
  | zero => omega
  | succ j ih =>
    simp only [stS]
    by_cases e : i = j
    · subst e; omega
    · have := ih (by omega); omega
/-- A coding of few codes with small numbers. -/
def smallL (l : List T3) : Prop := (1 ≤ l.length ∧ l.length ≤ 5) ∧ (∀ j, j < l.length → (-3 ≤ (l.getD j cD).1 ∧ (l.getD j cD).1 ≤ 13) ∧ (0 ≤ (l.getD j cD).2.1 ∧ (l.getD j cD).2.1 ≤ 39) ∧ (l.getD j cD).2.1 ≤ (l.getD j cD).2.2 ∧ (l.getD j cD).2.2 ≤ 50) ∧ ∀ i j, i < j → j < l.length → (l.getD i cD).1 < (l.getD j cD).1
theorem smallL.valid {l : List T3} (h : smallL l) : Valid l :=
  ⟨⟨h.1.1, by have := h.1.2; omega⟩, fun j hj => by have := h.2.1 j hj; unfold codeOk; omega, h.2.2⟩
theorem madeL_small (xs : List T3) : smallL (madeL xs) := by
  unfold madeL
  by_cases c : xs.length = 0
  · rw [if_pos c]
    refine ⟨by simp, fun j hj => ?_, fun i j h1 h2 => ?_⟩
    · obtain rfl : j = 0 := by simpa using hj
      decide
    · have : j < 1 := by simpa using h2
      omega
  · rw [if_neg c]
    obtain ⟨n, hn⟩ : ∃ n, min 5 xs.length = n := ⟨_, rfl⟩
    rw [hn]
    refine ⟨by simp; omega, fun j hj => ?_, fun i j h1 h2 => ?_⟩
    · have hj' : j < n := by simpa using hj
      rw [range_getD _ _ hj']
      have := stS_bd xs j
      unfold mkAt
      simp only
      omega
    · have hj' : j < n := by simpa using h2
      rw [range_getD _ _ hj', range_getD _ _ (show i < n by omega)]
      exact stS_lt xs h1
theorem small_prv {l : List T3} (h : smallL l) {p : Nat × Nat × Nat} (hp : isProof l.length p) : (-1600 ≤ (prvL l p).1 ∧ (prvL l p).1 ≤ 1600) ∧ 1 ≤ (prvL l p).2 ∧ (prvL l p).2 ≤ 32 := by
  obtain ⟨p1, p2, p3⟩ := p
  unfold prvL
  rcases hp with ⟨h1, h2, h3⟩ | ⟨h1, h2, h3⟩
  · simp only at h1 h2 h3
    subst h1; subst h2
    rw [if_pos ⟨rfl, rfl⟩]
    have := h.2.1 p1 h3
    unfold oneP
    simp only
    omega
  · simp only at h1 h2 h3
    rw [if_neg (by simp only; omega)]
    have ha := h.2.1 p1 (by omega)
    have hb := h.2.1 p2 (by omega)
    have hc := h.2.1 p3 (by omega)
    have k1 := h.2.2 p1 p2 h1 (by omega)
    have k2 := h.2.2 p2 p3 h2 h3
    generalize l.getD p1 cD = a at *
    generalize l.getD p2 cD = b at *
    generalize l.getD p3 cD = c at *
    have f : ∀ {x y : Int}, 0 ≤ x ∧ x ≤ 50 → 0 ≤ y ∧ y ≤ 16 → 0 ≤ x * y ∧ x * y ≤ 800 := fun hx hy => by
      have := lmul_bd hx hy; omega
    have e1 := f (x := b.2.2) (y := (b.1 - a.1) + (c.1 - b.1)) (by omega) (by omega)
    have e2 := f (x := a.2.1) (y := c.1 - b.1) (by omega) (by omega)
    have e3 := f (x := c.2.1) (y := b.1 - a.1) (by omega) (by omega)
    have e4 := f (x := a.2.2) (y := c.1 - b.1) (by omega) (by omega)
    have e5 := f (x := c.2.2) (y := b.1 - a.1) (by omega) (by omega)
    have e6 := f (x := b.2.1) (y := (b.1 - a.1) + (c.1 - b.1)) (by omega) (by omega)
    unfold threeP abv blw
    simp only
    omega
/-- The best error is not below 0, and small. -/
theorem best_nn {l : List T3} {f : Int × Int} (hv : Valid l) (h : bestIs l f) : 0 ≤ f.1 ∧ 1 ≤ f.2 := by
  have hf := best_ok hv h
  have h0 := h.2 (0, 0, 0) (Or.inl ⟨rfl, rfl, by have := hv.1.1; simp only; omega⟩)
  have hc := hv.2.1 0 (by have := hv.1.1; omega)
  unfold fLt prvL oneP at h0
  simp only [and_self, if_true] at h0
  unfold codeOk at hc
  unfold fOk at hf
  have h1 := Int.mul_nonneg (show 0 ≤ (l.getD 0 cD).2.2 - (l.getD 0 cD).2.1 by omega) (show 0 ≤ f.2 by omega)
  omega
theorem small_best {l : List T3} {f : Int × Int} (hs : smallL l) (h : bestIs l f) : (0 ≤ f.1 ∧ f.1 ≤ 1600) ∧ 1 ≤ f.2 ∧ f.2 ≤ 32 := by
  have h1 := best_nn hs.valid h
  obtain ⟨⟨p, hp, rfl⟩, _⟩ := h
  have := small_prv hs hp
  omega
theorem low_cross {f : Int × Int} (hf : 1 ≤ f.2) : f.1 * (low f).2 = (low f).1 * f.2 := by
  have e2 := Int.ediv_mul_cancel (Int.gcd_dvd_right (a := f.1) (b := f.2))
  have e1 := Int.ediv_mul_cancel (Int.gcd_dvd_left (a := f.1) (b := f.2))
  unfold low
  dsimp only
  generalize (Int.gcd f.1 f.2 : Int) = g at *
  generalize f.2 / g = d at *
  generalize f.1 / g = n at *
  rw [← e1, ← e2]
  ac_rfl
theorem low_small {f : Int × Int} {A B : Int} (h : (0 ≤ f.1 ∧ f.1 ≤ A) ∧ 1 ≤ f.2 ∧ f.2 ≤ B) : (0 ≤ (low f).1 ∧ (low f).1 ≤ A) ∧ 1 ≤ (low f).2 ∧ (low f).2 ≤ B := by
  have h1 := low_den h.2.1
  have h2 := h1.2 A (by omega)
  have h3 := low_cross h.2.1
  refine ⟨⟨?_, h2.2⟩, h1.1.1, by omega⟩
  refine Classical.byContradiction fun hc => ?_
  have a1 := Int.mul_nonneg h.1.1 (show 0 ≤ (low f).2 by omega)
  have a2 := Int.mul_pos (show 0 < -(low f).1 by omega) (show 0 < f.2 by omega)
  rw [Int.neg_mul] at a2
  omega
theorem low_pair {l : List T3} {f a : Int × Int} (h2 : 2 ≤ l.length) (h : lowI l f l.length 0 a) : (∃ p q, p < q ∧ q < l.length ∧ a = lowF f (l.getD p cD) (l.getD q cD)) ∧ ∀ p q, p < q → q < l.length → ¬ fLt a (lowF f (l.getD p cD) (l.getD q cD)) := by
  rcases h with ⟨h, _⟩ | ⟨⟨p, q, h3, h4⟩, h5⟩
  · omega
  · unfold seenP at h3
    exact ⟨⟨p, q, h3.1, by omega, h4⟩, fun p q h6 h7 => h5 p q ⟨h6, Or.inl h7⟩⟩
theorem high_pair {l : List T3} {f a : Int × Int} (h2 : 2 ≤ l.length) (h : highI l f l.length 0 a) : (∃ p q, p < q ∧ q < l.length ∧ a = highF f (l.getD p cD) (l.getD q cD)) ∧ ∀ p q, p < q → q < l.length → ¬ fLt (highF f (l.getD p cD) (l.getD q cD)) a := by
  rcases h with ⟨h, _⟩ | ⟨⟨p, q, h3, h4⟩, h5⟩
  · omega
  · unfold seenP at h3
    exact ⟨⟨p, q, h3.1, by omega, h4⟩, fun p q h6 h7 => h5 p q ⟨h6, Or.inl h7⟩⟩
/-- Gains are small. -/
theorem gain_small {l : List T3} {f a : Int × Int} (hs : smallL l) (hf : (0 ≤ f.1 ∧ f.1 ≤ 1900) ∧ 1 ≤ f.2 ∧ f.2 ≤ 40) (h2 : 2 ≤ l.length) (h : lowI l f l.length 0 a ∨ highI l f l.length 0 a) : (-8000 ≤ a.1 ∧ a.1 ≤ 8000) ∧ 1 ≤ a.2 ∧ a.2 ≤ 700 := by
  have key : ∀ {u x : Int}, (-50 ≤ u ∧ u ≤ 50) → (1 ≤ x ∧ x ≤ 16) → (-2000 ≤ u * f.2 ∧ u * f.2 ≤ 2000) ∧ 1 ≤ x * f.2 ∧ x * f.2 ≤ 640 := fun {u x} hu hx => by
    have h1 := smul_bd (a := u) (b := f.2) (A := 50) (B := 40) hu (by omega)
    have h3 := lmul_bd (a := x) (b := f.2) (A := 16) (B := 40) (by omega) (by omega)
    have h4 := Int.mul_pos (show 0 < x by omega) (show 0 < f.2 by omega)
    omega
  rcases h with h | h
  · obtain ⟨⟨p, q, k1, k2, rfl⟩, k4⟩ := low_pair h2 h
    have a1 := hs.2.1 p (by omega)
    have a2 := hs.2.1 q k2
    have a3 := hs.2.2 p q k1 k2
    have := key (u := (l.getD q cD).2.2 - (l.getD p cD).2.1) (x := (l.getD q cD).1 - (l.getD p cD).1) (by omega) (by omega)
    unfold lowF
    simp only
    omega
  · obtain ⟨⟨p, q, k1, k2, rfl⟩, k4⟩ := high_pair h2 h
    have a1 := hs.2.1 p (by omega)
    have a2 := hs.2.1 q k2
    have a3 := hs.2.2 p q k1 k2
    have := key (u := (l.getD q cD).2.1 - (l.getD p cD).2.2) (x := (l.getD q cD).1 - (l.getD p cD).1) (by omega) (by omega)
    unfold highF
    simp only
    omega
end Go.Pv
