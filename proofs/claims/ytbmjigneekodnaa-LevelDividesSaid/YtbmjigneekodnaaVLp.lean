/-
  What this text proves: mathematics of lines: if no proof proves more than a bound, each code's span and each two codes leave a line; and the least gain of the best error is small in lowest terms. It speaks of no program.
-/
import Derived.Test.YtbmjigneekodnaaVLm
set_option linter.unusedVariables false
set_option linter.unusedSimpArgs false

namespace Go.Pv
/-- The ends between which a line has to pass, times the bound's Den. -/
def upE (f : Int × Int) (c : T3) : Int := c.2.1 * f.2 + f.1
def dnE (f : Int × Int) (c : T3) : Int := c.2.2 * f.2 - f.1
theorem lowF_dn (f : Int × Int) (a b : T3) : lowF f a b = (dnE f b - upE f a, (b.1 - a.1) * f.2) := by
  unfold lowF dnE upE
  have e : (b.2.2 - a.2.1) * f.2 = b.2.2 * f.2 - a.2.1 * f.2 := Int.sub_mul ..
  rw [e]
  congr 1
  omega
theorem highF_up (f : Int × Int) (a b : T3) : highF f a b = (upE f b - dnE f a, (b.1 - a.1) * f.2) := by
  unfold highF dnE upE
  have e : (b.2.1 - a.2.2) * f.2 = b.2.1 * f.2 - a.2.2 * f.2 := Int.sub_mul ..
  rw [e]
  congr 1
  omega
/-- No proof proves more than the bound. -/
def fitsL (l : List T3) (f : Int × Int) : Prop := ∀ q, isProof l.length q → ¬ fLt f (prvL l q)
theorem fits_one {l : List T3} {f : Int × Int} (h : fitsL l f) {j : Nat} (hj : j < l.length) : ((l.getD j cD).2.2 - (l.getD j cD).2.1) * f.2 ≤ 2 * f.1 := by
  have h1 := h (j, j, j) (Or.inl ⟨rfl, rfl, hj⟩)
  unfold fLt prvL oneP at h1
  simp only [and_self, if_true] at h1
  omega
theorem fits_vu {l : List T3} {f : Int × Int} (h : fitsL l f) {j : Nat} (hj : j < l.length) : dnE f (l.getD j cD) ≤ upE f (l.getD j cD) := by
  have h1 := fits_one h hj
  have e := Int.sub_mul (l.getD j cD).2.2 (l.getD j cD).2.1 f.2
  unfold dnE upE
  omega
theorem three_up {f : Int × Int} {a b c : T3} (h : abv a b c * f.2 ≤ f.1 * (2 * ((b.1 - a.1) + (c.1 - b.1)))) : dnE f b * (c.1 - a.1) ≤ upE f a * (c.1 - b.1) + upE f c * (b.1 - a.1) := by
  unfold abv at h
  unfold dnE upE
  have e1 : (b.2.2 * ((b.1 - a.1) + (c.1 - b.1)) - a.2.1 * (c.1 - b.1) - c.2.1 * (b.1 - a.1)) * f.2 - f.1 * (2 * ((b.1 - a.1) + (c.1 - b.1))) = (b.2.2 * f.2 - f.1) * (c.1 - a.1) - ((a.2.1 * f.2 + f.1) * (c.1 - b.1) + (c.2.1 * f.2 + f.1) * (b.1 - a.1)) := by grind
  omega
theorem three_up' {f : Int × Int} {a b c : T3} (h : abv a b c * f.2 = f.1 * (2 * ((b.1 - a.1) + (c.1 - b.1)))) : dnE f b * (c.1 - a.1) = upE f a * (c.1 - b.1) + upE f c * (b.1 - a.1) := by
  unfold abv at h
  unfold dnE upE
  have e1 : (b.2.2 * ((b.1 - a.1) + (c.1 - b.1)) - a.2.1 * (c.1 - b.1) - c.2.1 * (b.1 - a.1)) * f.2 - f.1 * (2 * ((b.1 - a.1) + (c.1 - b.1))) = (b.2.2 * f.2 - f.1) * (c.1 - a.1) - ((a.2.1 * f.2 + f.1) * (c.1 - b.1) + (c.2.1 * f.2 + f.1) * (b.1 - a.1)) := by grind
  omega
theorem three_dn {f : Int × Int} {a b c : T3} (h : blw a b c * f.2 ≤ f.1 * (2 * ((b.1 - a.1) + (c.1 - b.1)))) : dnE f a * (c.1 - b.1) + dnE f c * (b.1 - a.1) ≤ upE f b * (c.1 - a.1) := by
  unfold blw at h
  unfold dnE upE
  have e1 : (a.2.2 * (c.1 - b.1) + c.2.2 * (b.1 - a.1) - b.2.1 * ((b.1 - a.1) + (c.1 - b.1))) * f.2 - f.1 * (2 * ((b.1 - a.1) + (c.1 - b.1))) = ((a.2.2 * f.2 - f.1) * (c.1 - b.1) + (c.2.2 * f.2 - f.1) * (b.1 - a.1)) - (b.2.1 * f.2 + f.1) * (c.1 - a.1) := by grind
  omega
theorem three_dn' {f : Int × Int} {a b c : T3} (h : blw a b c * f.2 = f.1 * (2 * ((b.1 - a.1) + (c.1 - b.1)))) : dnE f a * (c.1 - b.1) + dnE f c * (b.1 - a.1) = upE f b * (c.1 - a.1) := by
  unfold blw at h
  unfold dnE upE
  have e1 : (a.2.2 * (c.1 - b.1) + c.2.2 * (b.1 - a.1) - b.2.1 * ((b.1 - a.1) + (c.1 - b.1))) * f.2 - f.1 * (2 * ((b.1 - a.1) + (c.1 - b.1))) = ((a.2.2 * f.2 - f.1) * (c.1 - b.1) + (c.2.2 * f.2 - f.1) * (b.1 - a.1)) - (b.2.1 * f.2 + f.1) * (c.1 - a.1) := by grind
  omega
theorem set_le {l : List T3} (hv : Valid l) {i j : Nat} (h : i ≤ j) (hj : j < l.length) : (l.getD i cD).1 ≤ (l.getD j cD).1 := by
  by_cases e : i = j
  · subst e; exact Int.le_refl _
  · exact Int.le_of_lt (hv.2.2 i j (by omega) hj)
/-- A code between two others lies between their chords. -/
theorem fits_three {l : List T3} {f : Int × Int} (hv : Valid l) (hf : 1 ≤ f.2) (h : fitsL l f) {i j k : Nat} (hij : i ≤ j) (hjk : j ≤ k) (hik : i < k) (hk : k < l.length) :
    dnE f (l.getD j cD) * ((l.getD k cD).1 - (l.getD i cD).1) ≤ upE f (l.getD i cD) * ((l.getD k cD).1 - (l.getD j cD).1) + upE f (l.getD k cD) * ((l.getD j cD).1 - (l.getD i cD).1) ∧
    dnE f (l.getD i cD) * ((l.getD k cD).1 - (l.getD j cD).1) + dnE f (l.getD k cD) * ((l.getD j cD).1 - (l.getD i cD).1) ≤ upE f (l.getD j cD) * ((l.getD k cD).1 - (l.getD i cD).1) := by
  have hs := hv.2.2 i k hik hk
  by_cases e1 : i = j
  · subst e1
    have h1 := Int.mul_le_mul_of_nonneg_right (fits_vu h (show i < l.length by omega)) (show 0 ≤ (l.getD k cD).1 - (l.getD i cD).1 by omega)
    rw [Int.sub_self, Int.mul_zero, Int.mul_zero]
    omega
  · by_cases e2 : j = k
    · subst e2
      have h1 := Int.mul_le_mul_of_nonneg_right (fits_vu h hk) (show 0 ≤ (l.getD j cD).1 - (l.getD i cD).1 by omega)
      rw [Int.sub_self, Int.mul_zero, Int.mul_zero]
      omega
    · have h1 := h (i, j, k) (Or.inr ⟨show i < j by omega, show j < k by omega, hk⟩)
      unfold fLt prvL threeP at h1
      rw [if_neg (by simp only; omega)] at h1
      simp only at h1
      have s1 := hv.2.2 i j (by omega) (by omega)
      have s2 := hv.2.2 j k (by omega) hk
      have a1 := Int.mul_le_mul_of_nonneg_right (Int.le_max_left (abv (l.getD i cD) (l.getD j cD) (l.getD k cD)) (blw (l.getD i cD) (l.getD j cD) (l.getD k cD))) (show 0 ≤ f.2 by omega)
      have a2 := Int.mul_le_mul_of_nonneg_right (Int.le_max_right (abv (l.getD i cD) (l.getD j cD) (l.getD k cD)) (blw (l.getD i cD) (l.getD j cD) (l.getD k cD))) (show 0 ≤ f.2 by omega)
      exact ⟨three_up (by omega), three_dn (by omega)⟩
theorem cut_mul {x y c : Int} (hc : 0 < c) (h : x * c ≤ y * c) : x ≤ y := Int.le_of_mul_le_mul_right h hc
theorem lines_A {vi vk ui uk si sk ti tk : Int} (h0 : ti ≤ si) (h1 : si < sk) (h2 : ti < tk) (h3 : tk ≤ sk) (k1 : vi * (sk - si) + vk * (si - ti) ≤ ui * (sk - ti)) (k2 : vi * (sk - tk) + vk * (tk - ti) ≤ uk * (sk - ti)) : (vk - ui) * (tk - ti) ≤ (uk - vi) * (sk - si) := by
  have a1 := Int.mul_le_mul_of_nonneg_right k1 (show 0 ≤ tk - ti by omega)
  have a2 := Int.mul_le_mul_of_nonneg_right k2 (show 0 ≤ sk - si by omega)
  refine cut_mul (c := sk - ti) (by omega) ?_
  have e1 : (vk - ui) * (tk - ti) * (sk - ti) = vk * (tk - ti) * (sk - ti) - ui * (sk - ti) * (tk - ti) := by grind
  have e2 : (uk - vi) * (sk - si) * (sk - ti) = uk * (sk - ti) * (sk - si) - vi * (sk - si) * (sk - ti) := by grind
  have e3 : (vi * (sk - si) + vk * (si - ti)) * (tk - ti) + (vi * (sk - tk) + vk * (tk - ti)) * (sk - si) = vk * (tk - ti) * (sk - ti) + vi * (sk - si) * (sk - ti) := by grind
  omega
theorem lines_B {vi vk ui uk si sk ti tk : Int} (h0 : si ≤ ti) (h1 : si < sk) (h2 : ti < tk) (h3 : sk ≤ tk) (k1 : vk * (tk - si) ≤ ui * (tk - sk) + uk * (sk - si)) (k2 : vi * (tk - si) ≤ ui * (tk - ti) + uk * (ti - si)) : (vk - ui) * (tk - ti) ≤ (uk - vi) * (sk - si) := by
  have a1 := Int.mul_le_mul_of_nonneg_right k1 (show 0 ≤ tk - ti by omega)
  have a2 := Int.mul_le_mul_of_nonneg_right k2 (show 0 ≤ sk - si by omega)
  refine cut_mul (c := tk - si) (by omega) ?_
  have e1 : (vk - ui) * (tk - ti) * (tk - si) = vk * (tk - si) * (tk - ti) - ui * (tk - si) * (tk - ti) := by grind
  have e2 : (uk - vi) * (sk - si) * (tk - si) = uk * (tk - si) * (sk - si) - vi * (tk - si) * (sk - si) := by grind
  have e3 : (ui * (tk - sk) + uk * (sk - si)) * (tk - ti) + (ui * (tk - ti) + uk * (ti - si)) * (sk - si) = ui * (tk - si) * (tk - ti) + uk * (tk - si) * (sk - si) := by grind
  omega
theorem lines_C {vi vk ui uk si sk ti tk : Int} (k1 : vk * (tk - si) ≤ ui * (tk - sk) + uk * (sk - si)) (k2 : vi * (sk - si) + vk * (si - ti) ≤ ui * (sk - ti)) : (vk - ui) * (tk - ti) ≤ (uk - vi) * (sk - si) := by
  have e1 : (vk - ui) * (tk - ti) - (uk - vi) * (sk - si) = (vk * (tk - si) - (ui * (tk - sk) + uk * (sk - si))) + (vi * (sk - si) + vk * (si - ti) - ui * (sk - ti)) := by grind
  omega
theorem lines_D {vi vk ui uk si sk ti tk : Int} (k1 : vi * (sk - tk) + vk * (tk - ti) ≤ uk * (sk - ti)) (k2 : vi * (tk - si) ≤ ui * (tk - ti) + uk * (ti - si)) : (vk - ui) * (tk - ti) ≤ (uk - vi) * (sk - si) := by
  have e1 : (vk - ui) * (tk - ti) - (uk - vi) * (sk - si) = (vi * (sk - tk) + vk * (tk - ti) - uk * (sk - ti)) + (vi * (tk - si) - (ui * (tk - ti) + uk * (ti - si))) := by grind
  omega
/-- If no proof proves more, each two codes' least gain is at most each two codes' greatest one. -/
theorem fits_pair {l : List T3} {f : Int × Int} (hv : Valid l) (hf : 1 ≤ f.2) (h : fitsL l f) {i k p q : Nat} (hik : i < k) (hk : k < l.length) (hpq : p < q) (hq : q < l.length) : ¬ fLt (highF f (l.getD p cD) (l.getD q cD)) (lowF f (l.getD i cD) (l.getD k cD)) := by
  rw [lowF_dn, highF_up]
  unfold fLt
  simp only
  have s1 := hv.2.2 i k hik hk
  have s2 := hv.2.2 p q hpq hq
  have key : (dnE f (l.getD k cD) - upE f (l.getD i cD)) * ((l.getD q cD).1 - (l.getD p cD).1) ≤ (upE f (l.getD q cD) - dnE f (l.getD p cD)) * ((l.getD k cD).1 - (l.getD i cD).1) := by
    rcases Nat.le_total p i with h1 | h1 <;> rcases Nat.le_total q k with h2 | h2
    · exact lines_A (set_le hv h1 (by omega)) s1 s2 (set_le hv h2 hk) (fits_three hv hf h h1 (by omega) (by omega) hk).2 (fits_three hv hf h (by omega : p ≤ q) h2 (by omega) hk).2
    · exact lines_C (fits_three hv hf h (by omega : i ≤ k) h2 (by omega) hq).1 (fits_three hv hf h h1 (by omega) (by omega) hk).2
    · exact lines_D (fits_three hv hf h (by omega : p ≤ q) h2 (by omega) hk).2 (fits_three hv hf h h1 (by omega) (by omega) hq).1
    · exact lines_B (set_le hv h1 (by omega)) s1 s2 (set_le hv h2 hq) (fits_three hv hf h (by omega : i ≤ k) h2 (by omega) hq).1 (fits_three hv hf h h1 (by omega) (by omega) hq).1
  have k2 := Int.mul_le_mul_of_nonneg_right key (show 0 ≤ f.2 by omega)
  have e1 : (dnE f (l.getD k cD) - upE f (l.getD i cD)) * (((l.getD q cD).1 - (l.getD p cD).1) * f.2) = (dnE f (l.getD k cD) - upE f (l.getD i cD)) * ((l.getD q cD).1 - (l.getD p cD).1) * f.2 := (Int.mul_assoc ..).symm
  have e2 : (upE f (l.getD q cD) - dnE f (l.getD p cD)) * (((l.getD k cD).1 - (l.getD i cD).1) * f.2) = (upE f (l.getD q cD) - dnE f (l.getD p cD)) * ((l.getD k cD).1 - (l.getD i cD).1) * f.2 := (Int.mul_assoc ..).symm
  omega
theorem fits_clash {l : List T3} {f : Int × Int} (hv : Valid l) (hf : 1 ≤ f.2) (h : fitsL l f) : ¬ clashG l f := by
  rintro ⟨p, q, i, k, h1, h2, h3, h4, h5⟩
  exact fits_pair hv hf h h3 h4 h1 h2 h5
theorem low_den {f : Int × Int} (hf : 1 ≤ f.2) : (1 ≤ (low f).2 ∧ (low f).2 ≤ f.2) ∧ ∀ B, -B ≤ f.1 ∧ f.1 ≤ B → -B ≤ (low f).1 ∧ (low f).1 ≤ B := by
  have hg : (0 : Int) < Int.gcd f.1 f.2 := by
    have := Int.gcd_pos_of_ne_zero_right f.1 (show f.2 ≠ 0 by omega)
    omega
  have e2 := Int.ediv_mul_cancel (Int.gcd_dvd_right (a := f.1) (b := f.2))
  have e1 := Int.ediv_mul_cancel (Int.gcd_dvd_left (a := f.1) (b := f.2))
  unfold low
  dsimp only
  generalize (Int.gcd f.1 f.2 : Int) = g at *
  generalize f.2 / g = d at *
  generalize f.1 / g = n at *
  have hd : 0 < d := by
    refine Classical.byContradiction fun hc => ?_
    have := Int.mul_nonneg (show 0 ≤ -d by omega) (show 0 ≤ g by omega)
    rw [Int.neg_mul] at this
    omega
  have m1 := Int.mul_le_mul_of_nonneg_left (show (1 : Int) ≤ g by omega) (show 0 ≤ d by omega)
  rw [Int.mul_one] at m1
  refine ⟨by omega, fun B hB => ?_⟩
  rcases Int.le_total 0 n with hn | hn
  · have m2 := Int.mul_le_mul_of_nonneg_left (show (1 : Int) ≤ g by omega) hn
    rw [Int.mul_one] at m2
    omega
  · have m2 := Int.mul_le_mul_of_nonneg_left (show (1 : Int) ≤ g by omega) (show 0 ≤ -n by omega)
    rw [Int.mul_one, Int.neg_mul] at m2
    omega
/-- A slope that is the chord's. -/
theorem slope_eq {a : Int × Int} {x D si sj sk ui uk vj : Int} (ha : 1 ≤ a.2) (hD : 1 ≤ D) (h1 : si < sj) (h2 : sj < sk) (hu : uk - ui = x * D) (hc : vj * (sk - si) = ui * (sk - sj) + uk * (sj - si)) (k1 : (vj - ui) * a.2 ≤ a.1 * ((sj - si) * D)) (k2 : a.1 * ((sk - sj) * D) ≤ (uk - vj) * a.2) : a.1 * (sk - si) = x * a.2 := by
  have m1 := Int.mul_le_mul_of_nonneg_right k1 (show 0 ≤ sk - si by omega)
  have m2 := Int.mul_le_mul_of_nonneg_right k2 (show 0 ≤ sk - si by omega)
  have c1 : (vj - ui) * (sk - si) = x * D * (sj - si) := by
    rw [← hu]
    have : (vj - ui) * (sk - si) = vj * (sk - si) - ui * (sk - si) := Int.sub_mul ..
    rw [this, hc]; grind
  have c2 : (uk - vj) * (sk - si) = x * D * (sk - sj) := by
    rw [← hu]
    have : (uk - vj) * (sk - si) = uk * (sk - si) - vj * (sk - si) := Int.sub_mul ..
    rw [this, hc]; grind
  have e1 : (vj - ui) * a.2 * (sk - si) = x * a.2 * ((sj - si) * D) := by
    have : (vj - ui) * a.2 * (sk - si) = (vj - ui) * (sk - si) * a.2 := by ac_rfl
    rw [this, c1]; ac_rfl
  have e2 : (uk - vj) * a.2 * (sk - si) = x * a.2 * ((sk - sj) * D) := by
    have : (uk - vj) * a.2 * (sk - si) = (uk - vj) * (sk - si) * a.2 := by ac_rfl
    rw [this, c2]; ac_rfl
  have e3 : a.1 * ((sj - si) * D) * (sk - si) = a.1 * (sk - si) * ((sj - si) * D) := by ac_rfl
  have e4 : a.1 * ((sk - sj) * D) * (sk - si) = a.1 * (sk - si) * ((sk - sj) * D) := by ac_rfl
  rw [e1, e3] at m1
  rw [e2, e4] at m2
  have p1 := cut_mul (Int.mul_pos (show 0 < sj - si by omega) (show 0 < D by omega)) m1
  have p2 := cut_mul (Int.mul_pos (show 0 < sk - sj by omega) (show 0 < D by omega)) m2
  omega
theorem slope_eq2 {a : Int × Int} {x D si sj sk ui uk vj : Int} (ha : 1 ≤ a.2) (hD : 1 ≤ D) (h1 : si < sj) (h2 : sj < sk) (hu : uk - ui = x * D) (hc : vj * (sk - si) = ui * (sk - sj) + uk * (sj - si)) (k1 : a.1 * ((sj - si) * D) ≤ (vj - ui) * a.2) (k2 : (uk - vj) * a.2 ≤ a.1 * ((sk - sj) * D)) : a.1 * (sk - si) = x * a.2 := by
  have m1 := Int.mul_le_mul_of_nonneg_right k1 (show 0 ≤ sk - si by omega)
  have m2 := Int.mul_le_mul_of_nonneg_right k2 (show 0 ≤ sk - si by omega)
  have c1 : (vj - ui) * (sk - si) = x * D * (sj - si) := by
    rw [← hu]
    have : (vj - ui) * (sk - si) = vj * (sk - si) - ui * (sk - si) := Int.sub_mul ..
    rw [this, hc]; grind
  have c2 : (uk - vj) * (sk - si) = x * D * (sk - sj) := by
    rw [← hu]
    have : (uk - vj) * (sk - si) = uk * (sk - si) - vj * (sk - si) := Int.sub_mul ..
    rw [this, hc]; grind
  have e1 : (vj - ui) * a.2 * (sk - si) = x * a.2 * ((sj - si) * D) := by
    have : (vj - ui) * a.2 * (sk - si) = (vj - ui) * (sk - si) * a.2 := by ac_rfl
    rw [this, c1]; ac_rfl
  have e2 : (uk - vj) * a.2 * (sk - si) = x * a.2 * ((sk - sj) * D) := by
    have : (uk - vj) * a.2 * (sk - si) = (uk - vj) * (sk - si) * a.2 := by ac_rfl
    rw [this, c2]; ac_rfl
  have e3 : a.1 * ((sj - si) * D) * (sk - si) = a.1 * (sk - si) * ((sj - si) * D) := by ac_rfl
  have e4 : a.1 * ((sk - sj) * D) * (sk - si) = a.1 * (sk - si) * ((sk - sj) * D) := by ac_rfl
  rw [e1, e3] at m1
  rw [e2, e4] at m2
  have p1 := cut_mul (Int.mul_pos (show 0 < sj - si by omega) (show 0 < D by omega)) m1
  have p2 := cut_mul (Int.mul_pos (show 0 < sk - sj by omega) (show 0 < D by omega)) m2
  omega
theorem best_fits {l : List T3} {f : Int × Int} (h : bestIs l f) : fitsL l f := h.2
theorem best_ok {l : List T3} {f : Int × Int} (hv : Valid l) (h : bestIs l f) : fOk f := by
  obtain ⟨⟨p, hp, rfl⟩, _⟩ := h
  exact prv_ok hv hp
theorem best_gB {l : List T3} {f : Int × Int} (hv : Valid l) (h : bestIs l f) : gB f := by
  have := best_ok hv h
  unfold fOk at this
  unfold gB
  omega
/-- The least gain of the best error is that of two ends of Wants, or a number divided by a difference of Sets. -/
theorem best_gain {l : List T3} {f a : Int × Int} (hv : Valid l) (h : bestIs l f) (ha : lowI l f l.length 0 a) : (-2200000000 ≤ (low a).1 ∧ (low a).1 ≤ 2200000000) ∧ 1 ≤ (low a).2 ∧ (low a).2 ≤ 20000 := by
  have hgB := best_gB hv h
  have hfit := best_fits h
  rcases ha with ⟨_, rfl⟩ | ⟨⟨p, q, hs, rfl⟩, hall⟩
  · exact ⟨by decide, by decide, by decide⟩
  unfold seenP at hs
  have hpq : p < q := hs.1
  have hq : q < l.length := by omega
  have hg := (pair_gF hv hgB hpq hq).1
  have hb := (low_den hg.2.1).2 2200000000 hg.1
  have hcp := hv.2.1 p (by omega)
  have hcq := hv.2.1 q hq
  have hsl := hv.2.2 p q hpq hq
  refine ⟨hb, (low_den hg.2.1).1.1, ?_⟩
  obtain ⟨⟨r, hr, hfr⟩, _⟩ := h
  rcases hr with ⟨r1, r2, r3⟩ | ⟨r1, r2, r3⟩
  · -- one code
    have hf2 : f = oneP (l.getD r.1 cD) := hfr.trans (if_pos ⟨r1, r2⟩)
    have e : low (lowF f (l.getD p cD) (l.getD q cD)) = low ((l.getD q cD).2.2 - (l.getD p cD).2.1 - f.1, (l.getD q cD).1 - (l.getD p cD).1) := by
      have h2 : f.2 = 2 := by rw [hf2]; rfl
      refine low_eq hg.2.1 (by simp only; omega) ?_
      unfold lowF
      rw [h2]
      simp only
      grind
    rw [e]
    have := (low_den (f := ((l.getD q cD).2.2 - (l.getD p cD).2.1 - f.1, (l.getD q cD).1 - (l.getD p cD).1)) (by simp only; omega)).1.2
    unfold codeOk at hcp hcq
    simp only at this
    omega
  · -- three codes
    have hf2 : f = threeP (l.getD r.1 cD) (l.getD r.2.1 cD) (l.getD r.2.2 cD) := hfr.trans (if_neg (by omega))
    have s1 := hv.2.2 r.1 r.2.1 r1 (by omega)
    have s2 := hv.2.2 r.2.1 r.2.2 r2 r3
    have c1 := hv.2.1 r.1 (by omega)
    have c2 := hv.2.1 r.2.1 (by omega)
    have c3 := hv.2.1 r.2.2 r3
    have n1 := hall r.1 r.2.1 ⟨r1, Or.inl (by omega)⟩
    have n2 := hall r.2.1 r.2.2 ⟨r2, Or.inl r3⟩
    have m1 := fits_pair hv hgB.2.1 hfit hpq hq r1 (by omega : r.2.1 < l.length)
    have m2 := fits_pair hv hgB.2.1 hfit hpq hq r2 r3
    have hD : 1 ≤ f.2 := hgB.2.1
    have ha2 : 1 ≤ (lowF f (l.getD p cD) (l.getD q cD)).2 := hg.2.1
    have done : ∀ x, (lowF f (l.getD p cD) (l.getD q cD)).1 * ((l.getD r.2.2 cD).1 - (l.getD r.1 cD).1) = x * (lowF f (l.getD p cD) (l.getD q cD)).2 → (low (lowF f (l.getD p cD) (l.getD q cD))).2 ≤ 20000 := fun x hx => by
      rw [low_eq (g := (x, (l.getD r.2.2 cD).1 - (l.getD r.1 cD).1)) ha2 (by simp only; omega) hx]
      have := (low_den (f := (x, (l.getD r.2.2 cD).1 - (l.getD r.1 cD).1)) (by simp only; omega)).1.2
      unfold codeOk at c1 c3
      simp only at this
      omega
    generalize lowF f (l.getD p cD) (l.getD q cD) = a at *
    rw [lowF_dn] at n1 n2
    rw [highF_up] at m1 m2
    unfold fLt at n1 n2 m1 m2
    simp only at n1 n2 m1 m2
    have hmx : f.1 = abv (l.getD r.1 cD) (l.getD r.2.1 cD) (l.getD r.2.2 cD) ∨ f.1 = blw (l.getD r.1 cD) (l.getD r.2.1 cD) (l.getD r.2.2 cD) := by
      rw [hf2]; unfold threeP; simp only; omega
    have hf22 : f.2 = 2 * (((l.getD r.2.1 cD).1 - (l.getD r.1 cD).1) + ((l.getD r.2.2 cD).1 - (l.getD r.2.1 cD).1)) := by rw [hf2]; rfl
    rcases hmx with hm | hm
    · have hc := three_up' (f := f) (a := l.getD r.1 cD) (b := l.getD r.2.1 cD) (c := l.getD r.2.2 cD) (by rw [← hm, ← hf22])
      exact done ((l.getD r.2.2 cD).2.1 - (l.getD r.1 cD).2.1) (slope_eq ha2 hD s1 s2 (by unfold upE; rw [Int.sub_mul]; omega) hc (by omega) (by omega))
    · have hc := three_dn' (f := f) (a := l.getD r.1 cD) (b := l.getD r.2.1 cD) (c := l.getD r.2.2 cD) (by rw [← hm, ← hf22])
      have hdd : dnE f (l.getD r.2.2 cD) - dnE f (l.getD r.1 cD) = ((l.getD r.2.2 cD).2.2 - (l.getD r.1 cD).2.2) * f.2 := by unfold dnE; rw [Int.sub_mul]; omega
      refine done ((l.getD r.2.2 cD).2.2 - (l.getD r.1 cD).2.2) ?_
      exact slope_eq2 ha2 hD s1 s2 hdd hc.symm (by omega) (by omega)
end Go.Pv
