/-
  What this text proves: the answers that the chapter's examples have. It speaks of no program.
-/
import Derived.Test.YtbmjigneekodnaaVLt
import Derived.Test.YtbmjigneekodnaaVLx
set_option linter.unusedVariables false
set_option linter.unusedSimpArgs false

namespace Go.Pv
abbrev exA : List T3 := [(0, 10, 10), (1, 10, 10), (2, 40, 40)]
abbrev exB : List T3 := [(0, 8, 12), (1, 9, 11), (2, 38, 42)]
abbrev exC : List T3 := [(0, 5, 5), (10, 0, 30), (20, 25, 25)]
theorem valA : Valid exA := valid_of (by kernel_rfl)
theorem proof3 {p : Nat × Nat × Nat} (h : isProof 3 p) : p = (0, 0, 0) ∨ p = (1, 1, 1) ∨ p = (2, 2, 2) ∨ p = (0, 1, 2) := by
  obtain ⟨a, b, c⟩ := p
  unfold isProof at h
  simp only [Prod.mk.injEq] at h ⊢
  omega
theorem isp012 : isProof 3 (0, 1, 2) := Or.inr ⟨by decide, by decide, by decide⟩
theorem isp1 : isProof 3 (1, 1, 1) := Or.inl ⟨rfl, rfl, by decide⟩
theorem bestA {f : Int × Int} (h : bestIs exA f) : f = (30, 4) := by
  obtain ⟨⟨p, hp, rfl⟩, h2⟩ := h
  have h3 := h2 _ isp012
  rcases proof3 hp with rfl | rfl | rfl | rfl
  · exact absurd (show fLt _ _ by decide) h3
  · exact absurd (show fLt _ _ by decide) h3
  · exact absurd (show fLt _ _ by decide) h3
  · rfl
theorem bestB {f : Int × Int} (h : bestIs exB f) : f = prvL exB (0, 1, 2) := by
  obtain ⟨⟨p, hp, rfl⟩, h2⟩ := h
  have h3 := h2 _ isp012
  rcases proof3 hp with rfl | rfl | rfl | rfl
  · exact absurd (show fLt _ _ by decide) h3
  · exact absurd (show fLt _ _ by decide) h3
  · exact absurd (show fLt _ _ by decide) h3
  · rfl
theorem pair3 {p q : Nat} (h : seenP 3 0 p q) : (p = 0 ∧ q = 1) ∨ (p = 0 ∧ q = 2) ∨ (p = 1 ∧ q = 2) := by
  unfold seenP at h; omega
theorem s01 : seenP 3 0 0 1 := by unfold seenP; omega
theorem s12 : seenP 3 0 1 2 := by unfold seenP; omega
theorem lowA {f a : Int × Int} (hf : f = (30, 4) ∨ f = (8, 1) ∨ f = (7, 1) ∨ f = (15, 2)) (h : lowI exA f 3 0 a) : a = lowF f (1, 10, 10) (2, 40, 40) := by
  rcases h with ⟨h, _⟩ | ⟨⟨p, q, hs, rfl⟩, h2⟩
  · omega
  · have h3 := h2 1 2 s12
    rcases pair3 hs with ⟨rfl, rfl⟩ | ⟨rfl, rfl⟩ | ⟨rfl, rfl⟩
    · rcases hf with rfl | rfl | rfl | rfl <;> exact absurd (show fLt _ _ by decide) h3
    · rcases hf with rfl | rfl | rfl | rfl <;> exact absurd (show fLt _ _ by decide) h3
    · rfl
theorem highA {f a : Int × Int} (hf : f = (30, 4) ∨ f = (8, 1) ∨ f = (7, 1) ∨ f = (15, 2)) (h : highI exA f 3 0 a) : a = highF f (0, 10, 10) (1, 10, 10) := by
  rcases h with ⟨h, _⟩ | ⟨⟨p, q, hs, rfl⟩, h2⟩
  · omega
  · have h3 := h2 0 1 s01
    rcases pair3 hs with ⟨rfl, rfl⟩ | ⟨rfl, rfl⟩ | ⟨rfl, rfl⟩
    · rfl
    · rcases hf with rfl | rfl | rfl | rfl <;> exact absurd (show fLt _ _ by decide) h3
    · rcases hf with rfl | rfl | rfl | rfl <;> exact absurd (show fLt _ _ by decide) h3
theorem ex_bestA {g o x : Int × Int} {e : Int} (h : bestR exA g o x e) : g = (15, 1) ∧ o = (5, 2) ∧ x = (15, 2) ∧ e = 0 := by
  rcases h with ⟨h, _⟩ | ⟨_, he, f, hb, rfl, a, i, hl, rfl, hi, hall, rfl⟩
  · exact absurd (show cErr exA = 0 by kernel_rfl) h
  · obtain rfl := bestA hb
    obtain rfl := lowA (Or.inl rfl) hl
    have hg : low (lowF (30, 4) (1, 10, 10) (2, 40, 40)) = (15, 1) := by kernel_rfl
    rw [hg] at hall ⊢
    refine ⟨rfl, ?_, by kernel_rfl, he⟩
    have h0 := hall 0 (by decide)
    have hi3 : i = 0 ∨ i = 1 ∨ i = 2 := by simp at hi; omega
    rcases hi3 with rfl | rfl | rfl
    · show low (aboN 15 1 (exA.getD 0 cD) * 4 - 30 * 1, 1 * 4) = (5, 2)
      kernel_rfl
    · exact absurd (show aboN 15 1 (exA.getD 1 cD) < aboN 15 1 (exA.getD 0 cD) by decide) h0
    · show low (aboN 15 1 (exA.getD 2 cD) * 4 - 30 * 1, 1 * 4) = (5, 2)
      kernel_rfl
theorem ex_bestB {g o x : Int × Int} {e : Int} (h : bestR exB g o x e) : x = (9, 1) ∧ e = 0 := by
  rcases h with ⟨h, _⟩ | ⟨_, he, f, hb, rfl, _⟩
  · exact absurd (show cErr exB = 0 by kernel_rfl) h
  · obtain rfl := bestB hb
    exact ⟨by kernel_rfl, he⟩
theorem ex_proofA {p : Nat × Nat × Nat} (hp : isProof 3 p) (h : ∀ q, isProof 3 q → ¬ fLt (prvL exA p) (prvL exA q)) : codesL p = [0, 1, 2] := by
  have h3 := h _ isp012
  rcases proof3 hp with rfl | rfl | rfl | rfl
  · exact absurd (show fLt _ _ by decide) h3
  · exact absurd (show fLt _ _ by decide) h3
  · exact absurd (show fLt _ _ by decide) h3
  · rfl
theorem ex_proofC {p : Nat × Nat × Nat} (hp : isProof 3 p) (h : ∀ q, isProof 3 q → ¬ fLt (prvL exC p) (prvL exC q)) : codesL p = [1] := by
  have h3 := h _ isp1
  rcases proof3 hp with rfl | rfl | rfl | rfl
  · exact absurd (show fLt _ _ by decide) h3
  · rfl
  · exact absurd (show fLt _ _ by decide) h3
  · exact absurd (show fLt _ _ by decide) h3
theorem ex_gains {f x y : Int × Int} {e : Int} (hf : f = (8, 1) ∨ f = (15, 2)) (h : gainsE exA f x y e) : x = low (lowF f (1, 10, 10) (2, 40, 40)) ∧ y = low (highF f (0, 10, 10) (1, 10, 10)) ∧ e = 0 := by
  rcases h with ⟨_, _, ⟨h, _⟩ | ⟨_, h, _⟩ | ⟨_, _, h, _⟩ | ⟨_, _, _, _, a, b, h⟩⟩ | ⟨_, _, _, he, a, b, h, rfl, rfl⟩
  · exact absurd (show cErr exA = 0 by kernel_rfl) h
  · exact absurd (show bOk f by rcases hf with rfl | rfl <;> decide) h
  · exact absurd h (by decide)
  · have hfit : fitsL exA f := fun q hq => by
      rcases proof3 hq with rfl | rfl | rfl | rfl <;> rcases hf with rfl | rfl <;> decide
    rcases h with ⟨h, _⟩ | ⟨_, ⟨j, hj, h⟩ | h⟩
    · cases h
    · exact absurd (fits_one hfit hj) h
    · exact absurd h (fits_clash valA (by rcases hf with rfl | rfl <;> decide) hfit)
  · rcases h with ⟨_, h1, h2, _⟩ | ⟨h, _⟩
    · rw [lowA (by rcases hf with rfl | rfl <;> simp) h1, highA (by rcases hf with rfl | rfl <;> simp) h2]
      exact ⟨rfl, rfl, he⟩
    · cases h
theorem ex_gains7 {x y : Int × Int} {e : Int} (h : gainsE exA (7, 1) x y e) : e = 11 := by
  rcases h with ⟨_, _, ⟨h, _⟩ | ⟨_, h, _⟩ | ⟨_, _, h, _⟩ | ⟨_, _, _, h, _⟩⟩ | ⟨_, _, _, he, a, b, h, rfl, rfl⟩
  · exact absurd (show cErr exA = 0 by kernel_rfl) h
  · exact absurd (show bOk (7, 1) by decide) h
  · exact absurd h (by decide)
  · exact h
  · rcases h with ⟨_, h1, h2, h3, _⟩ | ⟨h, _⟩
    · obtain rfl := lowA (Or.inr (Or.inr (Or.inl rfl))) h1
      obtain rfl := highA (Or.inr (Or.inr (Or.inl rfl))) h2
      exact absurd (show fLt _ _ by decide) h3
    · cases h
theorem low_zero {d : Int} (hd : 1 ≤ d) : low (0, d) = (0, 1) := by
  have h : (Int.gcd 0 d : Int) = d := by rw [Int.gcd_zero_left]; omega
  unfold low
  simp only [h]
  rw [Int.zero_ediv, Int.ediv_self (by omega)]
theorem best_pos {l : List T3} {f : Int × Int} (hv : Valid l) (h : bestIs l f) : 0 ≤ f.1 := by
  have h0 : 0 < l.length := by have := hv.1; omega
  have h1 := h.2 (0, 0, 0) (Or.inl ⟨rfl, rfl, h0⟩)
  have hc := hv.2.1 0 h0
  have ho := best_ok hv h
  unfold codeOk at hc
  unfold fOk at ho
  unfold fLt prvL oneP at h1
  simp only [and_self, if_true] at h1
  have := Int.mul_nonneg (show 0 ≤ (l.getD 0 cD).2.2 - (l.getD 0 cD).2.1 by omega) (show 0 ≤ f.2 by omega)
  omega
theorem div_pos {l : List T3} {p t : Nat} {S : List Int} {f : Int × Int} (hv : Valid l) (h : DivE l p t S f) : 0 ≤ f.1 := by
  induction h with
  | one h1 h2 h3 => exact best_pos (valid_sec hv h1 h2) h3
  | more h1 h2 h3 h4 ih =>
    unfold fMax
    split
    · exact best_pos (valid_sec hv h2 h3) h4
    · exact ih
theorem best_flat1 (c : T3) (hc : c.2.2 = c.2.1) : bestIs [c] (0, 2) := by
  refine ⟨⟨(0, 0, 0), Or.inl ⟨rfl, rfl, by simp⟩, ?_⟩, fun q hq => ?_⟩
  · unfold prvL oneP; simp; omega
  · have : q = (0, 0, 0) := by
      obtain ⟨a, b, d⟩ := q
      unfold isProof at hq
      simp only [Prod.mk.injEq, List.length_cons, List.length_nil] at hq ⊢
      omega
    subst this
    unfold fLt prvL oneP; simp; omega
theorem best_flat2 (c d : T3) (hc : c.2.2 = c.2.1) (hd : d.2.2 = d.2.1) : bestIs [c, d] (0, 2) := by
  refine ⟨⟨(0, 0, 0), Or.inl ⟨rfl, rfl, by simp⟩, ?_⟩, fun q hq => ?_⟩
  · unfold prvL oneP; simp; omega
  · have : q = (0, 0, 0) ∨ q = (1, 1, 1) := by
      obtain ⟨a, b, e⟩ := q
      unfold isProof at hq
      simp only [Prod.mk.injEq, List.length_cons, List.length_nil] at hq ⊢
      omega
    rcases this with rfl | rfl
    · unfold fLt prvL oneP; simp; omega
    · unfold fLt prvL oneP; simp; omega
theorem ex_div2 {S : List Int} {f : Int × Int} (h : bestDiv exA 2 3 S f) : S.length = 2 ∧ low f = (0, 1) := by
  have hb := DivE.bd valA h.1
  have hp := div_pos valA h.1
  have h1 := h.2 _ _ (DivE.more (DivE.one (l := exA) (t := 2) (by decide) (by decide) (best_flat2 (0, 10, 10) (1, 10, 10) rfl rfl)) (t := 3) (by decide) (by decide) (best_flat1 (2, 40, 40) rfl))
  have h0 : f.1 = 0 := by
    have ho := hb.2.2
    unfold fOk at ho
    unfold fLt fMax at h1
    rw [if_neg (fLt_irr _)] at h1
    simp only at h1
    omega
  obtain ⟨n, d⟩ := f
  simp only at h0
  subst h0
  exact ⟨hb.2.1, low_zero hb.2.2.2.1⟩
theorem ex_v1 : vfE exA [0, 1, 2] (15, 2) = 0 := by kernel_rfl
theorem ex_v2 : vfE exA [0, 1, 2] (8, 1) = 14 := by kernel_rfl
end Go.Pv
namespace Go.Proofs.Ytbmjigneekodnaa
open Go.Pv
theorem ex_err {f : Int × Int} {e : Int} (h : errR exA 15 1 5 1 f e) : f = (10, 1) ∧ e = 0 := by
  rcases h with ⟨h, _⟩ | ⟨_, h, _⟩ | ⟨_, _, he, i, hi, rfl, hall⟩
  · exact absurd (show cErr exA = 0 by kernel_rfl) h
  · exact absurd (show lineOk 15 1 5 1 by decide) h
  · refine ⟨?_, he⟩
    have h0 := hall 1 (by decide)
    have hi3 : i = 0 ∨ i = 1 ∨ i = 2 := by simp at hi; omega
    rcases hi3 with rfl | rfl | rfl
    · exact absurd (show distL 15 1 5 1 (exA.getD 0 cD) < distL 15 1 5 1 (exA.getD 1 cD) by decide) h0
    · show low (distL 15 1 5 1 (exA.getD 1 cD), 1 * 1) = (10, 1)
      kernel_rfl
    · exact absurd (show distL 15 1 5 1 (exA.getD 2 cD) < distL 15 1 5 1 (exA.getD 1 cD) by decide) h0
end Go.Proofs.Ytbmjigneekodnaa
