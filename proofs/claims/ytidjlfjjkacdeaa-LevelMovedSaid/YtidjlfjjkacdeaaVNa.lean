/-
  (rows) What this text proves: codings by numbers, and codings that are moved or turned around, as plain functions: what is best for them is alike. It speaks of no program.
-/
import Derived.Test.YtidjlfjjkacdeaaVLp
set_option linter.unusedVariables false
set_option linter.unusedSimpArgs false

namespace Go.Pv
/-- The Set of the code at k, and the code, by numbers. -/
def stS (xs : List T3) : Nat → Int
  | 0 => -3
  | k + 1 => stS xs k + (1 + (xs.getD k cD).1 % 4)
def mkAt (xs : List T3) (k : Nat) : T3 := (stS xs k, (xs.getD k cD).2.1 % 40, (xs.getD k cD).2.1 % 40 + (xs.getD k cD).2.2 % 12)
def madeL (xs : List T3) : List T3 := if xs.length = 0 then [(-3, 3, 4)] else (List.range (min 5 xs.length)).map (mkAt xs)
theorem mk_next (xs : List T3) (k : Nat) : (List.range k).map (mkAt xs) ++ [mkAt xs k] = (List.range (k + 1)).map (mkAt xs) := by simp [List.range_succ]
theorem range_getD {α : Type} (f : Nat → α) (d : α) {n k : Nat} (h : k < n) : ((List.range n).map f).getD k d = f k := by
  simp [List.getD, h]
theorem stS_bd (xs : List T3) (k : Nat) : -3 + (k : Int) ≤ stS xs k ∧ stS xs k ≤ -3 + 4 * k := by
  induction k with
  | zero => simp [stS]
  | succ k ih => simp only [stS]; omega
theorem stS_lt (xs : List T3) {i j : Nat} (h : i < j) : stS xs i < stS xs j := by
  induction j with
  | zero => omega
  | succ j ih =>
    simp only [stS]
    by_cases e : i = j
    · subst e; omega
    · have := ih (by omega); omega
/-- A coding of few codes with small numbers. -/
def smallL (l : List T3) : Prop := (1 ≤ l.length ∧ l.length ≤ 5) ∧ (∀ j, j < l.length → (-3 ≤ (l.getD j cD).1 ∧ (l.getD j cD).1 ≤ 13) ∧ (0 ≤ (l.getD j cD).2.1 ∧ (l.getD j cD).2.1 ≤ 39) ∧ (l.getD j cD).2.1 ≤ (l.getD j cD).2.2 ∧ (l.getD j cD).2.2 ≤ 50) ∧ ∀ i j, i < j → j < l.length → (l.getD i cD).1 < (l.getD j cD).1
theorem smallL.valid {l : List T3} (h : smallL l) : Valid l :=
  ⟨⟨h.1.1, by have := h.1.2; omega⟩, fun j hj => by have := h.2.1 j hj; unfold codeOk; omega, h.2.2⟩
theorem madeL_small (xs : List T3) : smallL (madeL xs) := by
  unfold madeL
  by_cases c : xs.length = 0
  · rw [if_pos c]
    refine ⟨by simp, fun j hj => ?_, fun i j h1 h2 => ?_⟩
    · obtain rfl : j = 0 := by simpa using hj
      decide
    · have : j < 1 := by simpa using h2
      omega
  · rw [if_neg c]
    obtain ⟨n, hn⟩ : ∃ n, min 5 xs.length = n := ⟨_, rfl⟩
    rw [hn]
    refine ⟨by simp; omega, fun j hj => ?_, fun i j h1 h2 => ?_⟩
    · have hj' : j < n := by simpa using hj
      rw [range_getD _ _ hj']
      have := stS_bd xs j
      unfold mkAt
      simp only
      omega
    · have hj' : j < n := by simpa using h2
      rw [range_getD _ _ hj', range_getD _ _ (show i < n by omega)]
      exact stS_lt xs h1
theorem small_prv {l : List T3} (h : smallL l) {p : Nat × Nat × Nat} (hp : isProof l.length p) : (-1600 ≤ (prvL l p).1 ∧ (prvL l p).1 ≤ 1600) ∧ 1 ≤ (prvL l p).2 ∧ (prvL l p).2 ≤ 32 := by
  obtain ⟨p1, p2, p3⟩ := p
  unfold prvL
  rcases hp with ⟨h1, h2, h3⟩ | ⟨h1, h2, h3⟩
  · simp only at h1 h2 h3
    subst h1; subst h2
    rw [if_pos ⟨rfl, rfl⟩]
    have := h.2.1 p1 h3
    unfold oneP
    simp only
    omega
  · simp only at h1 h2 h3
    rw [if_neg (by simp only; omega)]
    have ha := h.2.1 p1 (by omega)
    have hb := h.2.1 p2 (by omega)
    have hc := h.2.1 p3 (by omega)
    have k1 := h.2.2 p1 p2 h1 (by omega)
    have k2 := h.2.2 p2 p3 h2 h3
    generalize l.getD p1 cD = a at *
    generalize l.getD p2 cD = b at *
    generalize l.getD p3 cD = c at *
    have f : ∀ {x y : Int}, 0 ≤ x ∧ x ≤ 50 → 0 ≤ y ∧ y ≤ 16 → 0 ≤ x * y ∧ x * y ≤ 800 := fun hx hy => by
      have := lmul_bd hx hy; omega
    have e1 := f (x := b.2.2) (y := (b.1 - a.1) + (c.1 - b.1)) (by omega) (by omega)
    have e2 := f (x := a.2.1) (y := c.1 - b.1) (by omega) (by omega)
    have e3 := f (x := c.2.1) (y := b.1 - a.1) (by omega) (by omega)
    have e4 := f (x := a.2.2) (y := c.1 - b.1) (by omega) (by omega)
    have e5 := f (x := c.2.2) (y := b.1 - a.1) (by omega) (by omega)
    have e6 := f (x := b.2.1) (y := (b.1 - a.1) + (c.1 - b.1)) (by omega) (by omega)
    unfold threeP abv blw
    simp only
    omega
/-- The best error is not below 0, and small. -/
theorem best_nn {l : List T3} {f : Int × Int} (hv : Valid l) (h : bestIs l f) : 0 ≤ f.1 ∧ 1 ≤ f.2 := by
  have hf := best_ok hv h
  have h0 := h.2 (0, 0, 0) (Or.inl ⟨rfl, rfl, by have := hv.1.1; simp only; omega⟩)
  have hc := hv.2.1 0 (by have := hv.1.1; omega)
  unfold fLt prvL oneP at h0
  simp only [and_self, if_true] at h0
  unfold codeOk at hc
  unfold fOk at hf
  have h1 := Int.mul_nonneg (show 0 ≤ (l.getD 0 cD).2.2 - (l.getD 0 cD).2.1 by omega) (show 0 ≤ f.2 by omega)
  omega
theorem small_best {l : List T3} {f : Int × Int} (hs : smallL l) (h : bestIs l f) : (0 ≤ f.1 ∧ f.1 ≤ 1600) ∧ 1 ≤ f.2 ∧ f.2 ≤ 32 := by
  have h1 := best_nn hs.valid h
  obtain ⟨⟨p, hp, rfl⟩, _⟩ := h
  have := small_prv hs hp
  omega
theorem low_cross {f : Int × Int} (hf : 1 ≤ f.2) : f.1 * (low f).2 = (low f).1 * f.2 := by
  have e2 := Int.ediv_mul_cancel (Int.gcd_dvd_right (a := f.1) (b := f.2))
  have e1 := Int.ediv_mul_cancel (Int.gcd_dvd_left (a := f.1) (b := f.2))
  unfold low
  dsimp only
  generalize (Int.gcd f.1 f.2 : Int) = g at *
  generalize f.2 / g = d at *
  generalize f.1 / g = n at *
  rw [← e1, ← e2]
  ac_rfl
theorem low_small {f : Int × Int} {A B : Int} (h : (0 ≤ f.1 ∧ f.1 ≤ A) ∧ 1 ≤ f.2 ∧ f.2 ≤ B) : (0 ≤ (low f).1 ∧ (low f).1 ≤ A) ∧ 1 ≤ (low f).2 ∧ (low f).2 ≤ B := by
  have h1 := low_den h.2.1
  have h2 := h1.2 A (by omega)
  have h3 := low_cross h.2.1
  refine ⟨⟨?_, h2.2⟩, h1.1.1, by omega⟩
  refine Classical.byContradiction fun hc => ?_
  have a1 := Int.mul_nonneg h.1.1 (show 0 ≤ (low f).2 by omega)
  have a2 := Int.mul_pos (show 0 < -(low f).1 by omega) (show 0 < f.2 by omega)
  rw [Int.neg_mul] at a2
  omega
/-- Codings for which the same is proved have the same best error. -/
theorem best_same {l m : List T3} {f g : Int × Int} (hl : Valid l) (hm : Valid m) (s t : Nat × Nat × Nat → Nat × Nat × Nat) (hs : ∀ p, isProof l.length p → isProof m.length (s p) ∧ prvL m (s p) = prvL l p) (ht : ∀ q, isProof m.length q → isProof l.length (t q) ∧ prvL l (t q) = prvL m q)
    (hf : bestIs l f) (hg : bestIs m g) : low f = low g := by
  have h1 := best_nn hl hf
  have h2 := best_nn hm hg
  obtain ⟨⟨p, hp, e1⟩, k1⟩ := hf
  obtain ⟨⟨q, hq, e2⟩, k2⟩ := hg
  have a1 := k1 _ (ht q hq).1
  have a2 := k2 _ (hs p hp).1
  rw [(ht q hq).2, ← e2] at a1
  rw [(hs p hp).2, ← e1] at a2
  unfold fLt at a1 a2
  exact low_eq h1.2 h2.2 (by omega)
/-- A line is added to all Wants; the coding is turned around. -/
def movC (n : Int) (c : T3) : T3 := (c.1, c.2.1 + (n * (c.1 + 10) + 7), c.2.2 + (n * (c.1 + 10) + 7))
def turC (c : T3) : T3 := (-c.1, 100 - c.2.2, 100 - c.2.1)
def movL (n : Int) (l : List T3) : List T3 := (List.range l.length).map fun i => movC n (l.getD i cD)
def turL (l : List T3) : List T3 := (List.range l.length).map fun i => turC (l.getD (l.length - 1 - i) cD)
theorem movL_len (n : Int) (l : List T3) : (movL n l).length = l.length := by simp [movL]
theorem turL_len (l : List T3) : (turL l).length = l.length := by simp [turL]
theorem movL_at (n : Int) (l : List T3) {k : Nat} (h : k < l.length) : (movL n l).getD k cD = movC n (l.getD k cD) := range_getD _ _ h
theorem turL_at (l : List T3) {k : Nat} (h : k < l.length) : (turL l).getD k cD = turC (l.getD (l.length - 1 - k) cD) := range_getD _ _ h
theorem add_bd {n s : Int} (hn : 0 ≤ n ∧ n ≤ 8) (hs : -3 ≤ s ∧ s ≤ 13) : 0 ≤ n * (s + 10) ∧ n * (s + 10) ≤ 184 := by
  have := lmul_bd (a := n) (b := s + 10) (A := 8) (B := 23) hn (by omega)
  omega
theorem movL_valid {n : Int} {l : List T3} (hn : 0 ≤ n ∧ n ≤ 8) (h : smallL l) : Valid (movL n l) := by
  refine ⟨by rw [movL_len]; have := h.1; omega, fun j hj => ?_, fun i j h1 h2 => ?_⟩
  · rw [movL_len] at hj
    rw [movL_at n l hj]
    have h1 := h.2.1 j hj
    have h2 := add_bd hn h1.1
    unfold codeOk movC
    simp only
    omega
  · rw [movL_len] at h2
    rw [movL_at n l h2, movL_at n l (show i < l.length by omega)]
    exact h.2.2 i j h1 h2
theorem turL_valid {l : List T3} (h : smallL l) : Valid (turL l) := by
  refine ⟨by rw [turL_len]; have := h.1; omega, fun j hj => ?_, fun i j h1 h2 => ?_⟩
  · rw [turL_len] at hj
    rw [turL_at l hj]
    have h1 := h.2.1 (l.length - 1 - j) (by omega)
    unfold codeOk turC
    simp only
    omega
  · rw [turL_len] at h2
    rw [turL_at l h2, turL_at l (show i < l.length by omega)]
    have := h.2.2 (l.length - 1 - j) (l.length - 1 - i) (by omega) (by omega)
    unfold turC
    simp only
    omega
theorem one_mov (n : Int) (c : T3) : oneP (movC n c) = oneP c := by
  unfold oneP movC
  simp only
  congr 1
  omega
theorem three_mov (n : Int) (a b c : T3) : threeP (movC n a) (movC n b) (movC n c) = threeP a b c := by
  have e1 : abv (movC n a) (movC n b) (movC n c) = abv a b c := by
    unfold abv movC
    simp only
    grind
  have e2 : blw (movC n a) (movC n b) (movC n c) = blw a b c := by
    unfold blw movC
    simp only
    grind
  unfold threeP
  rw [e1, e2]
  rfl
theorem one_tur (c : T3) : oneP (turC c) = oneP c := by
  unfold oneP turC
  simp only
  congr 1
  omega
theorem three_tur (a b c : T3) : threeP (turC c) (turC b) (turC a) = threeP a b c := by
  have e1 : abv (turC c) (turC b) (turC a) = blw a b c := by
    unfold abv blw turC
    simp only
    grind
  have e2 : blw (turC c) (turC b) (turC a) = abv a b c := by
    unfold blw abv turC
    simp only
    grind
  unfold threeP
  rw [e1, e2, Int.max_comm]
  unfold turC
  simp only
  congr 1
  omega
theorem prv_mov {n : Int} {l : List T3} {p : Nat × Nat × Nat} (hp : isProof l.length p) : prvL (movL n l) p = prvL l p := by
  obtain ⟨p1, p2, p3⟩ := p
  unfold isProof at hp
  simp only at hp
  unfold prvL
  simp only
  by_cases e : p1 = p2 ∧ p2 = p3
  · rw [if_pos e, if_pos e, movL_at n l (by omega), one_mov]
  · rw [if_neg e, if_neg e, movL_at n l (by omega), movL_at n l (by omega), movL_at n l (by omega), three_mov]
def rvP (n : Nat) (p : Nat × Nat × Nat) : Nat × Nat × Nat := (n - 1 - p.2.2, n - 1 - p.2.1, n - 1 - p.1)
theorem rvP_proof {n : Nat} {p : Nat × Nat × Nat} (hp : isProof n p) : isProof n (rvP n p) := by
  unfold isProof rvP at *
  simp only
  omega
theorem prv_tur {l : List T3} {p : Nat × Nat × Nat} (hp : isProof l.length p) : prvL (turL l) (rvP l.length p) = prvL l p := by
  obtain ⟨p1, p2, p3⟩ := p
  unfold isProof at hp
  simp only at hp
  unfold prvL rvP
  simp only
  have r : ∀ x, x < l.length → l.length - 1 - (l.length - 1 - x) = x := fun x hx => by omega
  by_cases e : p1 = p2 ∧ p2 = p3
  · obtain ⟨rfl, rfl⟩ := e
    rw [if_pos ⟨rfl, rfl⟩, if_pos ⟨rfl, rfl⟩, turL_at l (by omega), r p1 (by omega), one_tur]
  · rw [if_neg e, if_neg (by omega), turL_at l (by omega), turL_at l (by omega), turL_at l (by omega), r p1 (by omega), r p2 (by omega), r p3 (by omega), three_tur]
theorem rvP_rvP {n : Nat} {p : Nat × Nat × Nat} (hp : isProof n p) : rvP n (rvP n p) = p := by
  obtain ⟨p1, p2, p3⟩ := p
  unfold isProof at hp
  unfold rvP
  simp only at *
  refine Prod.ext (by simp only; omega) (Prod.ext (by simp only; omega) (by simp only; omega))
theorem best_mov {n : Int} {l : List T3} {f g : Int × Int} (hn : 0 ≤ n ∧ n ≤ 8) (h : smallL l) (hf : bestIs l f) (hg : bestIs (movL n l) g) : low f = low g :=
  best_same h.valid (movL_valid hn h) id id (fun p hp => ⟨by rw [movL_len]; exact hp, prv_mov hp⟩) (fun q hq => by rw [movL_len] at hq; exact ⟨hq, (prv_mov hq).symm⟩) hf hg
theorem best_tur {l : List T3} {f g : Int × Int} (h : smallL l) (hf : bestIs l f) (hg : bestIs (turL l) g) : low f = low g :=
  best_same h.valid (turL_valid h) (rvP l.length) (rvP l.length) (fun p hp => ⟨by rw [turL_len]; exact rvP_proof hp, prv_tur hp⟩) (fun q hq => by
    rw [turL_len] at hq
    refine ⟨rvP_proof hq, ?_⟩
    rw [← prv_tur (rvP_proof hq), rvP_rvP hq]) hf hg
/-- A number is added to a fraction. -/
def sh (n : Int) (f : Int × Int) : Int × Int := (f.1 + n * f.2, f.2)
theorem fLt_sh (n : Int) (f g : Int × Int) : fLt (sh n f) (sh n g) ↔ fLt f g := by
  unfold fLt sh
  simp only
  have e1 : (f.1 + n * f.2) * g.2 = f.1 * g.2 + n * f.2 * g.2 := Int.add_mul ..
  have e2 : (g.1 + n * g.2) * f.2 = g.1 * f.2 + n * f.2 * g.2 := by rw [Int.add_mul]; congr 1; ac_rfl
  omega
theorem low_sh {n : Int} {f : Int × Int} (hf : 1 ≤ f.2) : low (sh n f) = sh n (low f) := by
  have hg : Int.gcd (f.1 + n * f.2) f.2 = Int.gcd f.1 f.2 := by
    rw [Int.gcd_add_mul_right_left]
  unfold low sh
  simp only
  rw [hg]
  have e2 := Int.ediv_mul_cancel (Int.gcd_dvd_right (a := f.1) (b := f.2))
  have e1 := Int.ediv_mul_cancel (Int.gcd_dvd_left (a := f.1) (b := f.2))
  have hp : (0 : Int) < Int.gcd f.1 f.2 := by
    have := Int.gcd_pos_of_ne_zero_right f.1 (show f.2 ≠ 0 by omega)
    omega
  generalize (Int.gcd f.1 f.2 : Int) = g at *
  congr 1
  have : f.1 + n * f.2 = (f.1 / g + n * (f.2 / g)) * g := by
    rw [Int.add_mul, e1, Int.mul_assoc, e2]
  rw [this, Int.mul_ediv_cancel _ (by omega)]
/-- What fits a best error, fits a greater one. -/
theorem fits_more {l : List T3} {f : Int × Int} (hv : Valid l) (h : bestIs l f) {d : Int} (hd : 0 ≤ d) : fitsL l ((low f).1 + d, (low f).2) := by
  intro q hq
  have h1 := best_nn hv h
  have h2 := prv_ok hv hq
  have h3 := low_cross h1.2
  have h4 := (low_den h1.2).1
  have h5 := h.2 q hq
  unfold fOk at h2
  unfold fLt at h5 ⊢
  simp only
  intro hc
  generalize prvL l q = g at *
  generalize (low f).1 = a at *
  generalize (low f).2 = b at *
  have m1 := Int.mul_le_mul_of_nonneg_right (Int.not_lt.1 h5) (show 0 ≤ b by omega)
  have m2 := Int.mul_lt_mul_of_pos_right hc (show 0 < f.2 by omega)
  have m3 := Int.mul_nonneg (Int.mul_nonneg hd (show 0 ≤ g.2 by omega)) (show 0 ≤ f.2 by omega)
  have e1 : f.1 * g.2 * b = f.1 * b * g.2 := by ac_rfl
  have e2 : (a + d) * g.2 * f.2 = a * f.2 * g.2 + d * g.2 * f.2 := by rw [Int.add_mul, Int.add_mul]; congr 1; ac_rfl
  have e3 : g.1 * b * f.2 = g.1 * f.2 * b := by ac_rfl
  rw [e1, h3] at m1
  omega
theorem low_pair {l : List T3} {f a : Int × Int} (h2 : 2 ≤ l.length) (h : lowI l f l.length 0 a) : (∃ p q, p < q ∧ q < l.length ∧ a = lowF f (l.getD p cD) (l.getD q cD)) ∧ ∀ p q, p < q → q < l.length → ¬ fLt a (lowF f (l.getD p cD) (l.getD q cD)) := by
  rcases h with ⟨h, _⟩ | ⟨⟨p, q, h3, h4⟩, h5⟩
  · omega
  · unfold seenP at h3
    exact ⟨⟨p, q, h3.1, by omega, h4⟩, fun p q h6 h7 => h5 p q ⟨h6, Or.inl h7⟩⟩
theorem high_pair {l : List T3} {f a : Int × Int} (h2 : 2 ≤ l.length) (h : highI l f l.length 0 a) : (∃ p q, p < q ∧ q < l.length ∧ a = highF f (l.getD p cD) (l.getD q cD)) ∧ ∀ p q, p < q → q < l.length → ¬ fLt (highF f (l.getD p cD) (l.getD q cD)) a := by
  rcases h with ⟨h, _⟩ | ⟨⟨p, q, h3, h4⟩, h5⟩
  · omega
  · unfold seenP at h3
    exact ⟨⟨p, q, h3.1, by omega, h4⟩, fun p q h6 h7 => h5 p q ⟨h6, Or.inl h7⟩⟩
/-- The extremes of two families of fractions, of which the second is the first one with a number added. -/
theorem ext_same {a b : Int × Int} (n : Int) (ha : 1 ≤ a.2) (hb : 1 ≤ b.2) (h1 : ¬ fLt b (sh n a)) (h2 : ¬ fLt (sh n a) b) : low b = sh n (low a) := by
  rw [← low_sh ha]
  unfold fLt at h1 h2
  exact low_eq hb (by unfold sh; exact ha) (by omega)
theorem lowF_mov (n : Int) (f : Int × Int) (a b : T3) : lowF f (movC n a) (movC n b) = sh n (lowF f a b) := by
  unfold lowF movC sh
  simp only
  congr 1
  grind
theorem highF_mov (n : Int) (f : Int × Int) (a b : T3) : highF f (movC n a) (movC n b) = sh n (highF f a b) := by
  unfold highF movC sh
  simp only
  congr 1
  grind
theorem lowF_tur (f : Int × Int) (a b : T3) : lowF f (turC b) (turC a) = lowF f a b := by
  unfold lowF turC
  simp only
  congr 1
  · grind
  · grind
theorem highF_tur (f : Int × Int) (a b : T3) : highF f (turC b) (turC a) = highF f a b := by
  unfold highF turC
  simp only
  congr 1
  · grind
  · grind
theorem sh_zero (f : Int × Int) : sh 0 f = f := by
  unfold sh
  rw [Int.zero_mul, Int.add_zero]
theorem low_mov {n : Int} {l : List T3} {f a b : Int × Int} (hn : 0 ≤ n ∧ n ≤ 8) (hs : smallL l) (hf : gB f) (h2 : 2 ≤ l.length) (ha : lowI l f l.length 0 a) (hb : lowI (movL n l) f (movL n l).length 0 b) : low b = sh n (low a) := by
  obtain ⟨⟨p, q, k1, k2, rfl⟩, k4⟩ := low_pair h2 ha
  obtain ⟨⟨r, s, m1, m2, rfl⟩, m4⟩ := low_pair (by rw [movL_len]; exact h2) hb
  have g1 := (pair_gF hs.valid hf k1 k2).1
  have g2 := (pair_gF (movL_valid hn hs) hf m1 m2).1
  rw [movL_len] at m2
  refine ext_same n g1.2.1 g2.2.1 ?_ ?_
  · have := m4 p q k1 (by rw [movL_len]; exact k2)
    rw [movL_at n l (by omega : p < l.length), movL_at n l k2, lowF_mov] at this
    exact this
  · rw [movL_at n l (by omega : r < l.length), movL_at n l m2, lowF_mov, fLt_sh]
    exact k4 r s m1 m2
theorem high_mov {n : Int} {l : List T3} {f a b : Int × Int} (hn : 0 ≤ n ∧ n ≤ 8) (hs : smallL l) (hf : gB f) (h2 : 2 ≤ l.length) (ha : highI l f l.length 0 a) (hb : highI (movL n l) f (movL n l).length 0 b) : low b = sh n (low a) := by
  obtain ⟨⟨p, q, k1, k2, rfl⟩, k4⟩ := high_pair h2 ha
  obtain ⟨⟨r, s, m1, m2, rfl⟩, m4⟩ := high_pair (by rw [movL_len]; exact h2) hb
  have g1 := (pair_gF hs.valid hf k1 k2).2
  have g2 := (pair_gF (movL_valid hn hs) hf m1 m2).2
  rw [movL_len] at m2
  refine ext_same n g1.2.1 g2.2.1 ?_ ?_
  · rw [movL_at n l (by omega : r < l.length), movL_at n l m2, highF_mov, fLt_sh]
    exact k4 r s m1 m2
  · have := m4 p q k1 (by rw [movL_len]; exact k2)
    rw [movL_at n l (by omega : p < l.length), movL_at n l k2, highF_mov] at this
    exact this
theorem low_tur {l : List T3} {f a b : Int × Int} (hs : smallL l) (hf : gB f) (h2 : 2 ≤ l.length) (ha : lowI l f l.length 0 a) (hb : lowI (turL l) f (turL l).length 0 b) : low b = low a := by
  obtain ⟨⟨p, q, k1, k2, rfl⟩, k4⟩ := low_pair h2 ha
  obtain ⟨⟨r, s, m1, m2, rfl⟩, m4⟩ := low_pair (by rw [turL_len]; exact h2) hb
  have g1 := (pair_gF hs.valid hf k1 k2).1
  have g2 := (pair_gF (turL_valid hs) hf m1 m2).1
  rw [turL_len] at m2
  rw [← sh_zero (low (lowF f (l.getD p cD) (l.getD q cD)))]
  refine ext_same 0 g1.2.1 g2.2.1 ?_ ?_
  · have := m4 (l.length - 1 - q) (l.length - 1 - p) (by omega) (by rw [turL_len]; omega)
    rw [turL_at l (k := l.length - 1 - q) (by omega), turL_at l (k := l.length - 1 - p) (by omega), show l.length - 1 - (l.length - 1 - q) = q by omega, show l.length - 1 - (l.length - 1 - p) = p by omega, lowF_tur] at this
    rw [sh_zero]; exact this
  · rw [turL_at l (by omega : r < l.length), turL_at l m2, lowF_tur, sh_zero]
    exact k4 (l.length - 1 - s) (l.length - 1 - r) (by omega) (by omega)
theorem high_tur {l : List T3} {f a b : Int × Int} (hs : smallL l) (hf : gB f) (h2 : 2 ≤ l.length) (ha : highI l f l.length 0 a) (hb : highI (turL l) f (turL l).length 0 b) : low b = low a := by
  obtain ⟨⟨p, q, k1, k2, rfl⟩, k4⟩ := high_pair h2 ha
  obtain ⟨⟨r, s, m1, m2, rfl⟩, m4⟩ := high_pair (by rw [turL_len]; exact h2) hb
  have g1 := (pair_gF hs.valid hf k1 k2).2
  have g2 := (pair_gF (turL_valid hs) hf m1 m2).2
  rw [turL_len] at m2
  rw [← sh_zero (low (highF f (l.getD p cD) (l.getD q cD)))]
  refine ext_same 0 g1.2.1 g2.2.1 ?_ ?_
  · rw [turL_at l (by omega : r < l.length), turL_at l m2, highF_tur, sh_zero]
    exact k4 (l.length - 1 - s) (l.length - 1 - r) (by omega) (by omega)
  · have := m4 (l.length - 1 - q) (l.length - 1 - p) (by omega) (by rw [turL_len]; omega)
    rw [turL_at l (k := l.length - 1 - q) (by omega), turL_at l (k := l.length - 1 - p) (by omega), show l.length - 1 - (l.length - 1 - q) = q by omega, show l.length - 1 - (l.length - 1 - p) = p by omega, highF_tur] at this
    rw [sh_zero]; exact this
/-- Gains are small. -/
theorem gain_small {l : List T3} {f a : Int × Int} (hs : smallL l) (hf : (0 ≤ f.1 ∧ f.1 ≤ 1900) ∧ 1 ≤ f.2 ∧ f.2 ≤ 40) (h2 : 2 ≤ l.length) (h : lowI l f l.length 0 a ∨ highI l f l.length 0 a) : (-8000 ≤ a.1 ∧ a.1 ≤ 8000) ∧ 1 ≤ a.2 ∧ a.2 ≤ 700 := by
  have key : ∀ {u x : Int}, (-50 ≤ u ∧ u ≤ 50) → (1 ≤ x ∧ x ≤ 16) → (-2000 ≤ u * f.2 ∧ u * f.2 ≤ 2000) ∧ 1 ≤ x * f.2 ∧ x * f.2 ≤ 640 := fun {u x} hu hx => by
    have h1 := smul_bd (a := u) (b := f.2) (A := 50) (B := 40) hu (by omega)
    have h3 := lmul_bd (a := x) (b := f.2) (A := 16) (B := 40) (by omega) (by omega)
    have h4 := Int.mul_pos (show 0 < x by omega) (show 0 < f.2 by omega)
    omega
  rcases h with h | h
  · obtain ⟨⟨p, q, k1, k2, rfl⟩, k4⟩ := low_pair h2 h
    have a1 := hs.2.1 p (by omega)
    have a2 := hs.2.1 q k2
    have a3 := hs.2.2 p q k1 k2
    have := key (u := (l.getD q cD).2.2 - (l.getD p cD).2.1) (x := (l.getD q cD).1 - (l.getD p cD).1) (by omega) (by omega)
    unfold lowF
    simp only
    omega
  · obtain ⟨⟨p, q, k1, k2, rfl⟩, k4⟩ := high_pair h2 h
    have a1 := hs.2.1 p (by omega)
    have a2 := hs.2.1 q k2
    have a3 := hs.2.2 p q k1 k2
    have := key (u := (l.getD q cD).2.1 - (l.getD p cD).2.2) (x := (l.getD q cD).1 - (l.getD p cD).1) (by omega) (by omega)
    unfold highF
    simp only
    omega
end Go.Pv
