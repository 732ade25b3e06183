/-
  (rows) What this text proves: mathematics of gains: bounds of the gains that two codes ask, and what is known behind each two codes. Conditions: the coding is valid, the bound within its limits.
-/
import Derived.Test.YtbmjigneekodnaaVLk
set_option linter.unusedVariables false
set_option linter.unusedSimpArgs false

namespace Go.Pv
/-- A bound of errors that the program's own products can hold. -/
def gB (f : Int × Int) : Prop := (-600000000 ≤ f.1 ∧ f.1 ≤ 600000000) ∧ 1 ≤ f.2 ∧ f.2 ≤ 100000
/-- The least and the greatest gain that two codes allow. -/
def lowF (f : Int × Int) (a b : T3) : Int × Int := ((b.2.2 - a.2.1) * f.2 - 2 * f.1, (b.1 - a.1) * f.2)
def highF (f : Int × Int) (a b : T3) : Int × Int := ((b.2.1 - a.2.2) * f.2 + 2 * f.1, (b.1 - a.1) * f.2)
/-- A fraction that may be compared. -/
def gF (g : Int × Int) : Prop := (-2200000000 ≤ g.1 ∧ g.1 ≤ 2200000000) ∧ 1 ≤ g.2 ∧ g.2 ≤ 2000000000
theorem gF_mul {g h : Int × Int} (hg : gF g) (hh : gF h) : -9000000000000000000 ≤ g.1 * h.2 ∧ g.1 * h.2 ≤ 9000000000000000000 := by
  unfold gF at hg hh
  have := smul_bd (a := g.1) (b := h.2) (A := 2200000000) (B := 2000000000) hg.1 (by omega)
  omega
theorem lowF_bd {f : Int × Int} {a b : T3} (hf : gB f) (ha : codeOk a) (hb : codeOk b) (h : a.1 < b.1) :
    (-1000000000 ≤ (b.2.2 - a.2.1) * f.2 ∧ (b.2.2 - a.2.1) * f.2 ≤ 1000000000) ∧ (-1000000000 ≤ (b.2.1 - a.2.2) * f.2 ∧ (b.2.1 - a.2.2) * f.2 ≤ 1000000000) ∧
    (1 ≤ (b.1 - a.1) * f.2 ∧ (b.1 - a.1) * f.2 ≤ 2000000000) ∧ gF (lowF f a b) ∧ gF (highF f a b) := by
  unfold gB at hf
  unfold codeOk at ha hb
  have h1 := smul_bd (a := b.2.2 - a.2.1) (b := f.2) (A := 10000) (B := 100000) (by omega) (by omega)
  have h2 := smul_bd (a := b.2.1 - a.2.2) (b := f.2) (A := 10000) (B := 100000) (by omega) (by omega)
  have h3 := lmul_bd (a := b.1 - a.1) (b := f.2) (A := 20000) (B := 100000) (by omega) (by omega)
  have h4 : 0 < (b.1 - a.1) * f.2 := Int.mul_pos (by omega) (by omega)
  refine ⟨by omega, by omega, by omega, ?_, ?_⟩
  · unfold gF lowF; dsimp only; omega
  · unfold gF highF; dsimp only; omega
theorem width_bd {f : Int × Int} {b : T3} (hf : gB f) (hb : codeOk b) : 0 ≤ (b.2.2 - b.2.1) * f.2 ∧ (b.2.2 - b.2.1) * f.2 ≤ 1000000000 := by
  unfold gB at hf
  unfold codeOk at hb
  have h1 := lmul_bd (a := b.2.2 - b.2.1) (b := f.2) (A := 10000) (B := 100000) (by omega) (by omega)
  omega
/-- Two codes that were compared before the code j was compared with its i-th. -/
def seenP (j i p q : Nat) : Prop := p < q ∧ (q < j ∨ (q = j ∧ p < i))
/-- What is known of the least gain then. -/
def lowI (l : List T3) (f : Int × Int) (j i : Nat) (a : Int × Int) : Prop :=
  ((j = 0 ∨ (j = 1 ∧ i = 0)) ∧ a = (0, 1)) ∨
  ((∃ p q, seenP j i p q ∧ a = lowF f (l.getD p cD) (l.getD q cD)) ∧ ∀ p q, seenP j i p q → ¬ fLt a (lowF f (l.getD p cD) (l.getD q cD)))
/-- What is known of the greatest gain then. -/
def highI (l : List T3) (f : Int × Int) (j i : Nat) (b : Int × Int) : Prop :=
  ((j = 0 ∨ (j = 1 ∧ i = 0)) ∧ b = (0, 1)) ∨
  ((∃ p q, seenP j i p q ∧ b = highF f (l.getD p cD) (l.getD q cD)) ∧ ∀ p q, seenP j i p q → ¬ fLt (highF f (l.getD p cD) (l.getD q cD)) b)
/-- Some two codes allow less than some two codes ask. -/
def clashG (l : List T3) (f : Int × Int) : Prop := ∃ p q p' q', p < q ∧ q < l.length ∧ p' < q' ∧ q' < l.length ∧ fLt (highF f (l.getD p cD) (l.getD q cD)) (lowF f (l.getD p' cD) (l.getD q' cD))
theorem seen_row (j p q : Nat) : seenP j j p q ↔ seenP (j + 1) 0 p q := by unfold seenP; omega
theorem seen_next {j i p q : Nat} (hi : i < j) : seenP j (i + 1) p q ↔ seenP j i p q ∨ (p = i ∧ q = j) := by unfold seenP; omega
theorem lowI_row {l : List T3} {f : Int × Int} {j : Nat} {a : Int × Int} (h : lowI l f j j a) : lowI l f (j + 1) 0 a := by
  rcases h with ⟨h, ha⟩ | ⟨⟨p, q, h2, h3⟩, h4⟩
  · exact Or.inl ⟨by omega, ha⟩
  · exact Or.inr ⟨⟨p, q, (seen_row _ _ _).1 h2, h3⟩, fun p q hs => h4 p q ((seen_row _ _ _).2 hs)⟩
theorem highI_row {l : List T3} {f : Int × Int} {j : Nat} {b : Int × Int} (h : highI l f j j b) : highI l f (j + 1) 0 b := by
  rcases h with ⟨h, ha⟩ | ⟨⟨p, q, h2, h3⟩, h4⟩
  · exact Or.inl ⟨by omega, ha⟩
  · exact Or.inr ⟨⟨p, q, (seen_row _ _ _).1 h2, h3⟩, fun p q hs => h4 p q ((seen_row _ _ _).2 hs)⟩
theorem pair_gF {l : List T3} {f : Int × Int} (hv : Valid l) (hf : gB f) {p q : Nat} (h : p < q) (hq : q < l.length) : gF (lowF f (l.getD p cD) (l.getD q cD)) ∧ gF (highF f (l.getD p cD) (l.getD q cD)) :=
  (lowF_bd hf (hv.2.1 p (by omega)) (hv.2.1 q hq) (hv.2.2 p q h hq)).2.2.2
theorem lowI_gF {l : List T3} {f : Int × Int} {j i : Nat} {a : Int × Int} (hv : Valid l) (hf : gB f) (hj : j < l.length) (h : lowI l f j i a) : gF a := by
  rcases h with ⟨h, rfl⟩ | ⟨⟨p, q, h2, h3⟩, h4⟩
  · unfold gF; decide
  · unfold seenP at h2
    rw [h3]; exact (pair_gF hv hf h2.1 (by omega)).1
theorem highI_gF {l : List T3} {f : Int × Int} {j i : Nat} {b : Int × Int} (hv : Valid l) (hf : gB f) (hj : j < l.length) (h : highI l f j i b) : gF b := by
  rcases h with ⟨h, rfl⟩ | ⟨⟨p, q, h2, h3⟩, h4⟩
  · unfold gF; decide
  · unfold seenP at h2
    rw [h3]; exact (pair_gF hv hf h2.1 (by omega)).2
theorem lowI_take {l : List T3} {f : Int × Int} {j i : Nat} {a : Int × Int} (hv : Valid l) (hf : gB f) (hj : j < l.length) (hi : i < j) (h : lowI l f j i a) (c : j = 1 ∨ fLt a (lowF f (l.getD i cD) (l.getD j cD))) : lowI l f j (i + 1) (lowF f (l.getD i cD) (l.getD j cD)) := by
  refine Or.inr ⟨⟨i, j, (seen_next hi).2 (Or.inr ⟨rfl, rfl⟩), rfl⟩, fun p q hs => ?_⟩
  rcases (seen_next hi).1 hs with hs | ⟨rfl, rfl⟩
  · rcases h with ⟨h, ha⟩ | ⟨⟨p', q', h2, h3⟩, h4⟩
    · unfold seenP at hs; omega
    · rcases c with rfl | c
      · unfold seenP at hs; omega
      · have g1 := lowI_gF hv hf hj (Or.inr ⟨⟨p', q', h2, h3⟩, h4⟩)
        have h5 := h4 p q hs
        unfold seenP at hs
        exact fLt_le g1.2.1 (pair_gF hv hf hs.1 (by omega)).1.2.1 (pair_gF hv hf hi hj).1.2.1 c h5
  · exact fLt_irr _
theorem lowI_keep {l : List T3} {f : Int × Int} {j i : Nat} {a : Int × Int} (hi : i < j) (h : lowI l f j i a) (hj : ¬ j = 1) (c : ¬ fLt a (lowF f (l.getD i cD) (l.getD j cD))) : lowI l f j (i + 1) a := by
  rcases h with ⟨h, ha⟩ | ⟨⟨p', q', h2, h3⟩, h4⟩
  · omega
  · refine Or.inr ⟨⟨p', q', (seen_next hi).2 (Or.inl h2), h3⟩, fun p q hs => ?_⟩
    rcases (seen_next hi).1 hs with hs | ⟨rfl, rfl⟩
    · exact h4 p q hs
    · exact c
theorem fLt_le2 {p q x : Int × Int} (hp : 1 ≤ p.2) (hq : 1 ≤ q.2) (hx : 1 ≤ x.2) (h1 : fLt x p) (h2 : ¬ fLt q p) : ¬ fLt q x := by
  intro h3
  unfold fLt at *
  have a1 := Int.mul_lt_mul_of_pos_right h1 (show 0 < q.2 by omega)
  have a2 := Int.mul_lt_mul_of_pos_right h3 (show 0 < p.2 by omega)
  have a3 := Int.mul_le_mul_of_nonneg_right (Int.not_lt.1 h2) (show 0 ≤ x.2 by omega)
  have e1 : x.1 * p.2 * q.2 = x.1 * q.2 * p.2 := by ac_rfl
  have e2 : p.1 * x.2 * q.2 = p.1 * q.2 * x.2 := by ac_rfl
  have e3 : q.1 * x.2 * p.2 = q.1 * p.2 * x.2 := by ac_rfl
  omega
theorem highI_take {l : List T3} {f : Int × Int} {j i : Nat} {b : Int × Int} (hv : Valid l) (hf : gB f) (hj : j < l.length) (hi : i < j) (h : highI l f j i b) (c : j = 1 ∨ fLt (highF f (l.getD i cD) (l.getD j cD)) b) : highI l f j (i + 1) (highF f (l.getD i cD) (l.getD j cD)) := by
  refine Or.inr ⟨⟨i, j, (seen_next hi).2 (Or.inr ⟨rfl, rfl⟩), rfl⟩, fun p q hs => ?_⟩
  rcases (seen_next hi).1 hs with hs | ⟨rfl, rfl⟩
  · rcases h with ⟨h, ha⟩ | ⟨⟨p', q', h2, h3⟩, h4⟩
    · unfold seenP at hs; omega
    · rcases c with rfl | c
      · unfold seenP at hs; omega
      · have g1 := highI_gF hv hf hj (Or.inr ⟨⟨p', q', h2, h3⟩, h4⟩)
        have h5 := h4 p q hs
        unfold seenP at hs
        exact fLt_le2 g1.2.1 (pair_gF hv hf hs.1 (by omega)).2.2.1 (pair_gF hv hf hi hj).2.2.1 c h5
  · exact fLt_irr _
theorem highI_keep {l : List T3} {f : Int × Int} {j i : Nat} {b : Int × Int} (hi : i < j) (h : highI l f j i b) (hj : ¬ j = 1) (c : ¬ fLt (highF f (l.getD i cD) (l.getD j cD)) b) : highI l f j (i + 1) b := by
  rcases h with ⟨h, ha⟩ | ⟨⟨p', q', h2, h3⟩, h4⟩
  · omega
  · refine Or.inr ⟨⟨p', q', (seen_next hi).2 (Or.inl h2), h3⟩, fun p q hs => ?_⟩
    rcases (seen_next hi).1 hs with hs | ⟨rfl, rfl⟩
    · exact h4 p q hs
    · exact c
theorem clash_of {l : List T3} {f : Int × Int} {j i : Nat} {a b : Int × Int} (hj : j < l.length) (h1 : lowI l f j i a) (h2 : highI l f j i b) (c : fLt b a) : clashG l f := by
  rcases h1 with ⟨h, rfl⟩ | ⟨⟨p, q, h3, rfl⟩, _⟩
  · rcases h2 with ⟨_, rfl⟩ | ⟨⟨p', q', h5, rfl⟩, _⟩
    · exact absurd c (fLt_irr _)
    · unfold seenP at h5; omega
  · rcases h2 with ⟨h, rfl⟩ | ⟨⟨p', q', h5, rfl⟩, _⟩
    · unfold seenP at h3; omega
    · unfold seenP at h3 h5
      exact ⟨p', q', p, q, h5.1, by omega, h3.1, by omega, c⟩
end Go.Pv
