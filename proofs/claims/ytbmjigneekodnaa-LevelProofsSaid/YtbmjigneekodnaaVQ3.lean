/-
  (rows) What this text proves: LevelProofs returns true. Conditions: the first argument is a row of codes, the second one a row of numbers, the third one a pair. (Before it: the reference's Gains.)
-/
import Derived.Test.YtbmjigneekodnaaVQ2
import Derived.Test.YtbmjigneekodnaaVLo
import Derived.Test.YtbmjigneekodnaaVMw
set_option linter.unusedVariables false
set_option linter.unusedSimpArgs false

namespace Go.Pv
theorem cs_valid : ∀ {l : List T3} {b : Int}, (∀ j, j < l.length → codeOk (l.getD j cD) ∧ b < (l.getD j cD).1) → (∀ i j, i < j → j < l.length → (l.getD i cD).1 < (l.getD j cD).1) → cStep b l = 0
  | [], b, _, _ => rfl
  | c :: r, b, h1, h2 => by
    have h0 := h1 0 (by simp)
    simp only [List.getD_cons_zero] at h0
    simp only [cStep]
    rw [if_neg (fun h => h h0.1), if_neg (by omega)]
    refine cs_valid (fun j hj => ⟨?_, ?_⟩) (fun i j h3 h4 => ?_)
    · have := (h1 (j + 1) (by simpa using hj)).1
      simpa using this
    · have := h2 0 (j + 1) (by omega) (by simpa using hj)
      simpa using this
    · have := h2 (i + 1) (j + 1) (by omega) (by simpa using h4)
      simpa using this
theorem cErr_valid {l : List T3} (h : Valid l) : cErr l = 0 := by
  unfold cErr
  rw [if_neg (by have := h.1.1; omega), if_neg (by have := h.1.2; omega)]
  refine cs_valid (fun j hj => ⟨h.2.1 j hj, ?_⟩) h.2.2
  have := h.2.1 j hj
  unfold codeOk at this
  omega
/-- Gains with which a bound is kept are found. -/
theorem gains_found {l : List T3} {f a b : Int × Int} {ok : Bool} (hv : Valid l) (hf : 1 ≤ f.2) (h : fitsL l f) (hg : gainsR l f a b ok) : ok = true ∧ lowI l f l.length 0 a ∧ highI l f l.length 0 b ∧ ¬ fLt b a := by
  rcases hg with ⟨h1, h2, h3, h4, h5⟩ | ⟨h1, ⟨j, hj, hn⟩ | hc⟩
  · exact ⟨h1, h2, h3, h4⟩
  · exact absurd (fits_one h hj) hn
  · exact absurd hc (fits_clash hv hf h)
theorem gains_ok {l : List T3} {f x y : Int × Int} {e : Int} (hv : Valid l) (hf : bOk f) (h : fitsL l f) (hg : gainsE l f x y e) : (l.length = 1 → e = 13) ∧ (¬ l.length = 1 → e = 0) ∧ (¬ l.length = 1 → ∃ a b, lowI l f l.length 0 a ∧ highI l f l.length 0 b ∧ ¬ fLt b a ∧ x = low a ∧ y = low b) := by
  have hf2 : 1 ≤ f.2 := by unfold bOk at hf; omega
  rcases hg with ⟨hx, hy, ⟨h1, _⟩ | ⟨_, h2, _⟩ | ⟨_, _, h3, h4⟩ | ⟨_, _, _, _, a, b, h4⟩⟩ | ⟨_, _, h3, h4, a, b, h5, h6, h7⟩
  · exact absurd (cErr_valid hv) h1
  · exact absurd hf h2
  · exact ⟨fun _ => h4, fun h => absurd h3 h, fun h => absurd h3 h⟩
  · have := (gains_found hv hf2 h h4).1
    cases this
  · obtain ⟨_, k1, k2, k3⟩ := gains_found hv hf2 h h5
    exact ⟨fun h => absurd h h3, fun _ => h4, fun _ => ⟨a, b, k1, k2, k3, h6, h7⟩⟩
/-- The ends between which an offset lies, times all denominators: the bound f, the gain g. -/
def dnG (f g : Int × Int) (c : T3) : Int := c.2.2 * (g.2 * f.2) - f.1 * g.2 - g.1 * c.1 * f.2
def upG (f g : Int × Int) (c : T3) : Int := c.2.1 * (g.2 * f.2) + f.1 * g.2 - g.1 * c.1 * f.2
def gainKeeps (l : List T3) (f g : Int × Int) : Prop := ∀ i j, i < l.length → j < l.length → dnG f g (l.getD j cD) ≤ upG f g (l.getD i cD)
theorem dn_up_self {f g : Int × Int} {a : T3} (hg : 1 ≤ g.2) : dnG f g a ≤ upG f g a ↔ (a.2.2 - a.2.1) * f.2 ≤ 2 * f.1 := by
  have e : dnG f g a - upG f g a = ((a.2.2 - a.2.1) * f.2 - 2 * f.1) * g.2 := by
    unfold dnG upG
    grind
  constructor
  · intro h
    have h1 : ((a.2.2 - a.2.1) * f.2 - 2 * f.1) * g.2 ≤ 0 * g.2 := by rw [Int.zero_mul]; omega
    have := cut_mul (show 0 < g.2 by omega) h1
    omega
  · intro h
    have h1 := Int.mul_le_mul_of_nonneg_right (show (a.2.2 - a.2.1) * f.2 - 2 * f.1 ≤ 0 by omega) (show 0 ≤ g.2 by omega)
    rw [Int.zero_mul] at h1
    omega
theorem fN_trans {p q x : Int × Int} (hp : 1 ≤ p.2) (hq : 1 ≤ q.2) (hx : 1 ≤ x.2) (h1 : ¬ fLt p q) (h2 : ¬ fLt q x) : ¬ fLt p x := by
  unfold fLt at *
  intro h3
  have m1 := Int.mul_le_mul_of_nonneg_right (Int.not_lt.1 h1) (show 0 ≤ x.2 by omega)
  have m2 := Int.mul_le_mul_of_nonneg_right (Int.not_lt.1 h2) (show 0 ≤ p.2 by omega)
  have m3 := Int.mul_lt_mul_of_pos_right h3 (show 0 < q.2 by omega)
  have e1 : p.1 * x.2 * q.2 = p.1 * q.2 * x.2 := by ac_rfl
  have e2 : x.1 * p.2 * q.2 = x.1 * q.2 * p.2 := by ac_rfl
  have e3 : q.1 * x.2 * p.2 = q.1 * p.2 * x.2 := by ac_rfl
  omega
theorem fLt_low_l {g a : Int × Int} (ha : 1 ≤ a.2) : fLt (low a) g ↔ fLt a g := by
  have h1 := low_cross ha
  have h2 := (low_den ha).1.1
  generalize low a = b at *
  unfold fLt
  have e1 : b.1 * g.2 * a.2 = a.1 * g.2 * b.2 := by
    have : b.1 * g.2 * a.2 = b.1 * a.2 * g.2 := by ac_rfl
    rw [this, ← h1]; ac_rfl
  have e2 : g.1 * b.2 * a.2 = g.1 * a.2 * b.2 := by ac_rfl
  constructor
  · intro h
    have := Int.mul_lt_mul_of_pos_right h (show 0 < a.2 by omega)
    rw [e1, e2] at this
    exact Int.lt_of_mul_lt_mul_right this (show 0 ≤ b.2 by omega)
  · intro h
    have := Int.mul_lt_mul_of_pos_right h (show 0 < b.2 by omega)
    rw [← e1, ← e2] at this
    exact Int.lt_of_mul_lt_mul_right this (show 0 ≤ a.2 by omega)
/-- Where a line keeps a bound, no codes prove more. -/
theorem line_fits {l : List T3} {f g : Int × Int} (hv : Valid l) (hf : 1 ≤ f.2) (hg : 1 ≤ g.2) (h : gainKeeps l f g) : fitsL l f := by
  rintro ⟨p1, p2, p3⟩ hq
  unfold isProof at hq
  simp only at hq
  unfold fLt prvL
  simp only
  by_cases e : p1 = p2 ∧ p2 = p3
  · rw [if_pos e]
    have := (dn_up_self hg).1 (h p1 p1 (by omega) (by omega))
    unfold oneP
    simp only
    omega
  · rw [if_neg e]
    have s1 := hv.2.2 p1 p2 (by omega) (by omega)
    have s2 := hv.2.2 p2 p3 (by omega) (by omega)
    have k1 := h p1 p2 (by omega) (by omega)
    have k2 := h p3 p2 (by omega) (by omega)
    have k3 := h p2 p1 (by omega) (by omega)
    have k4 := h p2 p3 (by omega) (by omega)
    generalize l.getD p1 cD = a at *
    generalize l.getD p2 cD = b at *
    generalize l.getD p3 cD = c at *
    have m1 := Int.mul_le_mul_of_nonneg_right k1 (show 0 ≤ c.1 - b.1 by omega)
    have m2 := Int.mul_le_mul_of_nonneg_right k2 (show 0 ≤ b.1 - a.1 by omega)
    have m3 := Int.mul_le_mul_of_nonneg_right k3 (show 0 ≤ c.1 - b.1 by omega)
    have m4 := Int.mul_le_mul_of_nonneg_right k4 (show 0 ≤ b.1 - a.1 by omega)
    have e1 : (dnG f g b * (c.1 - b.1) + dnG f g b * (b.1 - a.1)) - (upG f g a * (c.1 - b.1) + upG f g c * (b.1 - a.1)) = (abv a b c * f.2 - f.1 * (2 * ((b.1 - a.1) + (c.1 - b.1)))) * g.2 := by
      unfold dnG upG abv
      grind
    have e2 : (dnG f g a * (c.1 - b.1) + dnG f g c * (b.1 - a.1)) - (upG f g b * (c.1 - b.1) + upG f g b * (b.1 - a.1)) = (blw a b c * f.2 - f.1 * (2 * ((b.1 - a.1) + (c.1 - b.1)))) * g.2 := by
      unfold dnG upG blw
      grind
    have n1 := cut_mul (x := abv a b c * f.2 - f.1 * (2 * ((b.1 - a.1) + (c.1 - b.1)))) (y := 0) (show 0 < g.2 by omega) (by rw [Int.zero_mul]; omega)
    have n2 := cut_mul (x := blw a b c * f.2 - f.1 * (2 * ((b.1 - a.1) + (c.1 - b.1)))) (y := 0) (show 0 < g.2 by omega) (by rw [Int.zero_mul]; omega)
    unfold threeP
    simp only
    rcases Int.le_total (abv a b c) (blw a b c) with c | c
    · rw [Int.max_eq_right c]; omega
    · rw [Int.max_eq_left c]; omega
end Go.Pv
namespace Go.Pv
/-- Two codes that were compared before. -/
def seenR (n i k p q : Nat) : Prop := p < q ∧ q < n ∧ (p < i ∨ (p = i ∧ q < k))
def lowN (l : List T3) (f : Int × Int) (i k : Nat) (x : Int × Int) : Prop := (∃ p q, p < q ∧ q < l.length ∧ x = low (lowF f (l.getD p cD) (l.getD q cD))) ∧ ∀ p q, seenR l.length i k p q → ¬ fLt x (low (lowF f (l.getD p cD) (l.getD q cD)))
def highN (l : List T3) (f : Int × Int) (i k : Nat) (x : Int × Int) : Prop := (∃ p q, p < q ∧ q < l.length ∧ x = low (highF f (l.getD p cD) (l.getD q cD))) ∧ ∀ p q, seenR l.length i k p q → ¬ fLt (low (highF f (l.getD p cD) (l.getD q cD))) x
def pairV (l : List T3) (f : Int × Int) (i k : Nat) (b : Bool) (lo hi : Int × Int) : Prop := (b = true ∧ ∀ p q, ¬ seenR l.length i k p q) ∨ (b = false ∧ lowN l f i k lo ∧ highN l f i k hi)
theorem low_gF {g : Int × Int} (h : gF g) : gF (low g) := by
  have h1 := low_den h.2.1
  have h2 := h1.2 2200000000 (by have := h.1; omega)
  exact ⟨by omega, h1.1.1, by have := h.2.2; have := h1.1.2; omega⟩
theorem lowN_gF {l : List T3} {f x : Int × Int} {i k : Nat} (hv : Valid l) (hf : gB f) (h : lowN l f i k x) : gF x := by
  obtain ⟨⟨p, q, h1, h2, rfl⟩, _⟩ := h
  exact low_gF (pair_gF hv hf h1 h2).1
theorem highN_gF {l : List T3} {f x : Int × Int} {i k : Nat} (hv : Valid l) (hf : gB f) (h : highN l f i k x) : gF x := by
  obtain ⟨⟨p, q, h1, h2, rfl⟩, _⟩ := h
  exact low_gF (pair_gF hv hf h1 h2).2
theorem seenR_next {n i k p q : Nat} (h : seenR n i (k + 1) p q) : seenR n i k p q ∨ (p = i ∧ q = k) := by unfold seenR at *; omega
theorem lowN_first {l : List T3} {f : Int × Int} {i k : Nat} (hn : ∀ p q, ¬ seenR l.length i k p q) (hik : i < k) (hk : k < l.length) : lowN l f i (k + 1) (low (lowF f (l.getD i cD) (l.getD k cD))) := by
  refine ⟨⟨i, k, hik, hk, rfl⟩, fun p q h => ?_⟩
  rcases seenR_next h with h | ⟨rfl, rfl⟩
  · exact absurd h (hn p q)
  · exact fLt_irr _
theorem highN_first {l : List T3} {f : Int × Int} {i k : Nat} (hn : ∀ p q, ¬ seenR l.length i k p q) (hik : i < k) (hk : k < l.length) : highN l f i (k + 1) (low (highF f (l.getD i cD) (l.getD k cD))) := by
  refine ⟨⟨i, k, hik, hk, rfl⟩, fun p q h => ?_⟩
  rcases seenR_next h with h | ⟨rfl, rfl⟩
  · exact absurd h (hn p q)
  · exact fLt_irr _
theorem lowN_keep {l : List T3} {f x : Int × Int} {i k : Nat} (h : lowN l f i k x) (hn : ¬ fLt x (low (lowF f (l.getD i cD) (l.getD k cD)))) : lowN l f i (k + 1) x := by
  refine ⟨h.1, fun p q hs => ?_⟩
  rcases seenR_next hs with hs | ⟨rfl, rfl⟩
  · exact h.2 p q hs
  · exact hn
theorem highN_keep {l : List T3} {f x : Int × Int} {i k : Nat} (h : highN l f i k x) (hn : ¬ fLt (low (highF f (l.getD i cD) (l.getD k cD))) x) : highN l f i (k + 1) x := by
  refine ⟨h.1, fun p q hs => ?_⟩
  rcases seenR_next hs with hs | ⟨rfl, rfl⟩
  · exact h.2 p q hs
  · exact hn
theorem lowN_take {l : List T3} {f x : Int × Int} {i k : Nat} (hv : Valid l) (hf : gB f) (h : lowN l f i k x) (hik : i < k) (hk : k < l.length) (hn : fLt x (low (lowF f (l.getD i cD) (l.getD k cD)))) : lowN l f i (k + 1) (low (lowF f (l.getD i cD) (l.getD k cD))) := by
  have hx := lowN_gF hv hf h
  have h0 := low_gF (pair_gF hv hf hik hk).1
  refine ⟨⟨i, k, hik, hk, rfl⟩, fun p q hs => ?_⟩
  have h1 := low_gF (pair_gF hv hf hs.1 hs.2.1).1
  rcases seenR_next hs with hs | ⟨rfl, rfl⟩
  · exact fLt_le hx.2.1 h1.2.1 h0.2.1 hn (h.2 p q hs)
  · exact fLt_irr _
theorem highN_take {l : List T3} {f x : Int × Int} {i k : Nat} (hv : Valid l) (hf : gB f) (h : highN l f i k x) (hik : i < k) (hk : k < l.length) (hn : fLt (low (highF f (l.getD i cD) (l.getD k cD))) x) : highN l f i (k + 1) (low (highF f (l.getD i cD) (l.getD k cD))) := by
  have hx := highN_gF hv hf h
  have h0 := low_gF (pair_gF hv hf hik hk).2
  refine ⟨⟨i, k, hik, hk, rfl⟩, fun p q hs => ?_⟩
  have h1 := low_gF (pair_gF hv hf hs.1 hs.2.1).2
  rcases seenR_next hs with hs | ⟨rfl, rfl⟩
  · exact fLt_le2 hx.2.1 h1.2.1 h0.2.1 hn (h.2 p q hs)
  · exact fLt_irr _
theorem pv_start {l : List T3} {f lo hi : Int × Int} : pairV l f 0 (0 + 1) true lo hi := Or.inl ⟨rfl, fun p q h => by unfold seenR at h; omega⟩
theorem pv_row {l : List T3} {f lo hi : Int × Int} {i : Nat} {b : Bool} (h : pairV l f i l.length b lo hi) : pairV l f (i + 1) (i + 1 + 1) b lo hi := by
  have hs : ∀ p q, seenR l.length (i + 1) (i + 1 + 1) p q → seenR l.length i l.length p q := fun p q h => by unfold seenR at *; omega
  rcases h with ⟨rfl, h⟩ | ⟨rfl, h1, h2⟩
  · exact Or.inl ⟨rfl, fun p q h3 => h p q (hs p q h3)⟩
  · exact Or.inr ⟨rfl, ⟨h1.1, fun p q h3 => h1.2 p q (hs p q h3)⟩, ⟨h2.1, fun p q h3 => h2.2 p q (hs p q h3)⟩⟩
/-- The greatest one of the least gains, and the least one of the greatest ones. -/
def lowE (l : List T3) (f x : Int × Int) : Prop := (∃ p q, p < q ∧ q < l.length ∧ x = low (lowF f (l.getD p cD) (l.getD q cD))) ∧ ∀ p q, p < q → q < l.length → ¬ fLt x (low (lowF f (l.getD p cD) (l.getD q cD)))
def highE (l : List T3) (f x : Int × Int) : Prop := (∃ p q, p < q ∧ q < l.length ∧ x = low (highF f (l.getD p cD) (l.getD q cD))) ∧ ∀ p q, p < q → q < l.length → ¬ fLt (low (highF f (l.getD p cD) (l.getD q cD))) x
theorem pv_end {l : List T3} {f lo hi : Int × Int} {i k : Nat} {b : Bool} (h2 : 2 ≤ l.length) (hi0 : i = l.length) (h : pairV l f i k b lo hi) : b = false ∧ lowE l f lo ∧ highE l f hi := by
  subst hi0
  have hs : ∀ p q, p < q → q < l.length → seenR l.length l.length k p q := fun p q h1 h2 => by unfold seenR; omega
  rcases h with ⟨_, h⟩ | ⟨rfl, h1, h3⟩
  · exact absurd (hs 0 1 (by omega) (by omega)) (h 0 1)
  · exact ⟨rfl, ⟨h1.1, fun p q a b => h1.2 p q (hs p q a b)⟩, ⟨h3.1, fun p q a b => h3.2 p q (hs p q a b)⟩⟩
/-- The reference's answer. -/
def rgE (l : List T3) (f x y : Int × Int) (e : Int) : Prop :=
  (x = (0, 0) ∧ y = (0, 0) ∧ ((cErr l ≠ 0 ∧ e = cErr l) ∨ (cErr l = 0 ∧ ¬ bOk f ∧ e = 3) ∨ (cErr l = 0 ∧ bOk f ∧ l.length = 1 ∧ e = 13) ∨
    (cErr l = 0 ∧ bOk f ∧ l.length ≠ 1 ∧ e = 11 ∧ ∃ f0, bestIs l f0 ∧ fLt f (low f0)))) ∨
  (cErr l = 0 ∧ bOk f ∧ l.length ≠ 1 ∧ e = 0 ∧ (∃ f0, bestIs l f0 ∧ ¬ fLt f (low f0)) ∧ lowE l f x ∧ highE l f y)
theorem bOk_gBQ {f : Int × Int} (h : bOk f) : gB f := by unfold bOk at h; unfold gB; omega
end Go.Pv
namespace Go.Proofs.Ytbmjigneekodnaa
open Go.Pv Go.RowKit
set_option maxHeartbeats 16000000
set_option maxRecDepth 20000

theorem rLessCT (a b : Int × Int) (w : World) (ha : bOk a) (hb : fOk b) (h : fLt a b) : Ret Try.prog 48 [v2 a, v2 b] w fun r _ => r = .bool true := by
  have h1 := vb_bd hb ha
  have := rLess_any a b w h1.2 h1.1
  rw [decide_eq_true h] at this
  exact this
theorem rLessCF (a b : Int × Int) (w : World) (ha : bOk a) (hb : fOk b) (h : ¬ fLt a b) : Ret Try.prog 48 [v2 a, v2 b] w fun r _ => r = .bool false := by
  have h1 := vb_bd hb ha
  have := rLess_any a b w h1.2 h1.1
  rw [decide_eq_false h] at this
  exact this
theorem rLessGT (a b : Int × Int) (w : World) (ha : gF a) (hb : gF b) (h : fLt a b) : Ret Try.prog 48 [v2 a, v2 b] w fun r _ => r = .bool true := by
  have := rLess_any a b w (gF_mul ha hb) (gF_mul hb ha)
  rw [decide_eq_true h] at this
  exact this
theorem rLessGF (a b : Int × Int) (w : World) (ha : gF a) (hb : gF b) (h : ¬ fLt a b) : Ret Try.prog 48 [v2 a, v2 b] w fun r _ => r = .bool false := by
  have := rLess_any a b w (gF_mul ha hb) (gF_mul hb ha)
  rw [decide_eq_false h] at this
  exact this
theorem rboundedT (f : Int × Int) (w : World) (h : bOk f) : Ret Try.prog 46 [v2 f] w fun r _ => r = .bool true := by
  have := rbounded_any f w
  rw [decide_eq_true (by unfold bOk at h; exact h)] at this
  exact this
theorem rboundedF (f : Int × Int) (w : World) (h : ¬ bOk f) : Ret Try.prog 46 [v2 f] w fun r _ => r = .bool false := by
  have := rbounded_any f w
  rw [decide_eq_false (by unfold bOk at h; exact h)] at this
  exact this
theorem rGains_any (v : Value) (l : List T3) (f : Int × Int) (w : World) (h : Row cC 3 w v l) : Ret Try.prog 18 [v, v2 f] w fun r _ => ∃ x y e, r = .tuple #[v2 x, v2 y, .int .i64 e] ∧ rgE l f x y e := by
  have hv1 := h.one
  have hl := h.len
  by_cases hce : cErr l = 0
  · have hv := valid_of hce
    have hln := hv.1
    by_cases hbo : bOk f
    · have hgB := bOk_gBQ hbo
      have hbo1 := hbo
      unfold bOk at hbo1
      by_cases h1 : l.length = 1
      · unfold v2
        refine ret_of_c Try.func18 rfl Try.ntmps18 (Nat.le_of_ble_eq_true rfl) (by dsimp only [ini, Nat.reduceAdd] <;> exact rfl) ?_
        repeat' (first
            | (((with_reducible apply W_split); exact rfl; exact rfl; (all_goals intro _); (all_goals (try (exfalso; (focus (omega; done)))))))
            | (((with_reducible apply c_cond_dec); exact rfl; (all_goals intro _); (all_goals (try (exfalso; (focus (omega; done)))))))
            | ((with_reducible apply W_op); exact rfl; exact rfl; ((with_reducible apply r_lenR (f := cC) (n := 3) (xs := l) (v := v)); exact rfl; exact Row.ex (by repeat (first | exact Ex.refl _ | assumption | (refine Ex.of_grown ?_ (by assumption) (by intro k hk; cases hk; omega)) | (refine Ex.trans ?_ (by assumption)))) h))
            | ((first | ((with_reducible apply W_op); exact rfl; exact rfl) | ((with_reducible apply WQ_op); exact rfl; exact rfl; intro wq he) | ((with_reducible apply WM_op); exact rfl; exact rfl; intro wq he) | ((with_reducible apply WB_op); exact rfl; exact rfl; intro wq)); (first | ((with_reducible apply r_move); ((conv => lhs; whnf) <;> exact rfl)) | ((with_reducible apply r_assign); ((conv => lhs; whnf) <;> exact rfl)) | ((with_reducible apply r_loadA); exact rfl; (first | assumption | exact Bx.cells (by repeat (first | assumption | ((with_reducible apply Bx.grownS); assumption; (first | omega | exact Bx.ne (by assumption) (by omega))) | ((with_reducible apply Bx.below); assumption; omega) | ((with_reducible apply Bx.ex); assumption))) | exact Cells.ex (by assumption) (by assumption)); exact rfl) | ((with_reducible apply r_eql); exact rfl; exact rfl) | ((with_reducible apply r_neq); exact rfl; exact rfl) | ((with_reducible apply r_pick_true); exact rfl; ((conv => lhs; whnf) <;> exact rfl)) | ((with_reducible apply r_notb); exact rfl) | ((with_reducible apply r_build0); exact rfl)))
            | (refine W_callv (rCheck_any v l _ (by repeat (first | assumption | ((with_reducible apply OwnR.grownS); assumption; omega) | ((with_reducible apply Row.ex); assumption) | ((with_reducible apply OwnR.ex); assumption) | ((with_reducible apply Bx.grownS); assumption; (first | omega | exact Bx.ne (by assumption) (by omega))) | ((with_reducible apply Bx.below); assumption; omega) | ((with_reducible apply Own.grownS); assumption; omega) | ((with_reducible apply Bx.ex); assumption) | ((with_reducible apply IntsK.ex); assumption) | ((with_reducible apply Own.ex); assumption) | ((with_reducible apply Prs.ex); assumption)))) rfl (fun wq he => ?_); have hsz := he.size)
            | (refine W_callv (rboundedT f _ hbo) rfl (fun wq he => ?_); have hsz := he.size)
            | ((with_reducible apply p_retcct); exact rfl; exact inferInstance; exact inferInstance; exact inferInstance; exact inferInstance; exact rfl; exact (by repeat (first | assumption | ((with_reducible apply Bx.grownS); assumption; (first | omega | exact Bx.ne (by assumption) (by omega))) | ((with_reducible apply Bx.below); assumption; omega) | ((with_reducible apply Bx.ex); assumption))); exact rfl; exact rfl; exact (by repeat (first | assumption | ((with_reducible apply Bx.grownS); assumption; (first | omega | exact Bx.ne (by assumption) (by omega))) | ((with_reducible apply Bx.below); assumption; omega) | ((with_reducible apply Bx.ex); assumption))); exact rfl; exact rfl; refine ⟨_, rfl, ?_, (by repeat (first | assumption | exact Ex.refl _ | (refine Ex.trans ?_ (by assumption)) | (refine Ex.of_grown ?_ (by assumption) (by intro k hk; cases hk; omega))))⟩)
            | (with_reducible apply W_nil)
            | ((with_reducible apply W_box); exact rfl; exact rfl; intro bq wq hbq he hnq; have hltq := Bx.lt hbq; have hsz := he.size)
            | ((with_reducible apply W_alloc); exact rfl; intro bq wq hbq he hnq; have hltq := Bx.lt hbq; have hsz := he.size)
            | ((with_reducible apply W_storeA); exact rfl; (focus ((repeat (first | assumption | ((with_reducible apply Bx.grownS); assumption; (first | omega | exact Bx.ne (by assumption) (by omega))) | ((with_reducible apply Bx.below); assumption; omega) | ((with_reducible apply Bx.ex); assumption))); done)); exact rfl; exact rfl; exact rfl; (repeat' (first | exact trivial | (first | exact rfl | assumption | exact IntsK.one (by assumption) | exact Prs.one (by assumption) | exact Own.one (by assumption) | exact Row.one (by assumption) | exact OwnR.one (by assumption)) | constructor)); intro wq hbq hgq; have he : Ex w wq := (by repeat (first | assumption | exact Ex.refl _ | (refine Ex.trans ?_ (by assumption)) | (refine Ex.of_grown ?_ (by assumption) (by intro k hk; cases hk; omega)))); have hsz := he.size; have hgz := hgq.size)
            | ((with_reducible apply W_take); exact rfl; exact rfl; exact rfl)
            | (with_reducible apply c_seq)
            | (with_reducible apply c_region)
            | (with_reducible apply c_skip)
            | (with_reducible apply c_ret)
            | ((with_reducible apply c_cond_false); exact rfl)
            | (with_reducible apply n_then)
            | (with_reducible apply r_then))
        all_goals first | exact ⟨(0, 0), (0, 0), _, rfl, Or.inl ⟨rfl, rfl, Or.inr (Or.inr (Or.inl ⟨hce, hbo, h1, rfl⟩))⟩⟩ | skip
      · have h2 : 2 ≤ l.length := by omega
        unfold v2
        refine ret_of_c Try.func18 rfl Try.ntmps18 (Nat.le_of_ble_eq_true rfl) (by dsimp only [ini, Nat.reduceAdd] <;> exact rfl) ?_
        repeat' (first
            | (((with_reducible apply W_split); exact rfl; exact rfl; (all_goals intro _); (all_goals (try (exfalso; (focus (omega; done)))))))
            | (((with_reducible apply c_cond_dec); exact rfl; (all_goals intro _); (all_goals (try (exfalso; (focus (omega; done)))))))
            | ((with_reducible apply W_op); exact rfl; exact rfl; ((with_reducible apply r_lenR (f := cC) (n := 3) (xs := l) (v := v)); exact rfl; exact Row.ex (by repeat (first | exact Ex.refl _ | assumption | (refine Ex.of_grown ?_ (by assumption) (by intro k hk; cases hk; omega)) | (refine Ex.trans ?_ (by assumption)))) h))
            | ((with_reducible (show C _ _ _ _ _)); refine c_cutG (x := .region 8 _ _) (n := 139) (fun ps wr => ∃ (b3 b4 b5 b8 : Nat) (f0 : Int × Int), ps = ([(0, v), (3, .pointer (some ⟨b3, 0, none⟩)), (4, .pointer (some ⟨b4, 0, none⟩)), (5, .pointer (some ⟨b5, 0, none⟩)), (8, .pointer (some ⟨b8, 0, none⟩))] : List (Nat × Value)) ∧ bestIs l f0 ∧ (w.heap.size ≤ b4 ∧ b4 < b5 ∧ w.heap.size ≤ b3) ∧ Bx wr b3 [.int .i64 f.1, .int .i64 f.2] 24 ∧ Bx wr b4 [.int .i64 0, .int .i64 0] 24 ∧ Bx wr b5 [.int .i64 0, .int .i64 0] 24 ∧ Bx wr b8 [.int .i64 (low f0).1, .int .i64 (low f0).2] 24 ∧ Ex w wr) (fun J8 hJ8 => ?_) (fun u8 ps8 w8 hI8 => ?_); rotate_left 1; obtain ⟨b3, b4, b5, b8, f0, rfl, hbI, hbb, hx3, hx4, hx5, hx8, he⟩ := hI8; have hsz := he.size; (have hw8 := he); (have hl5 := Bx.lt hx5); (have hl4 := Bx.lt hx4); (have hl3 := Bx.lt hx3); (have h0ok := best_ok hv hbI); by_cases hlt : fLt f (low f0); rotate_left 2)
            | ((with_reducible (show C _ _ _ _ _)); refine c_cutG (x := .region 11 _ _) (n := 139) (fun ps wr => ∃ (b10 b11 : Nat) (lo hi : Int × Int), ps = ([(0, v), (3, .pointer (some ⟨b3, 0, none⟩)), (4, .pointer (some ⟨b4, 0, none⟩)), (5, .pointer (some ⟨b5, 0, none⟩)), (10, .pointer (some ⟨b10, 0, none⟩)), (11, .pointer (some ⟨b11, 0, none⟩))] : List (Nat × Value)) ∧ (w8.heap.size ≤ b10 ∧ b10 < b11) ∧ Bx wr b10 [.int .i64 lo.1, .int .i64 lo.2] 24 ∧ Bx wr b11 [.int .i64 hi.1, .int .i64 hi.2] 24 ∧ Ex w8 wr) (fun J9 hJ9 => ?_) (fun u9 ps9 w9 hI9 => ?_); rotate_left 1; obtain ⟨b10, b11, lo, hi, rfl, hb10, hx10, hx11, he⟩ := hI9; have hsz := he.size; (have tkO : True := trivial); rotate_left 1)
            | ((with_reducible (show C _ _ _ _ _)); clear tkA; by_cases hil : i < l.length; (have hci := hv.2.1 i hil); (have tkB : True := trivial); rotate_left 1; (have hie : i = l.length := (by omega)); (obtain ⟨hbf, hloE, hhiE⟩ := pv_end h2 hie hpv); subst hbf; rotate_left 1)
            | ((with_reducible (show C _ _ _ _ _)); clear tkD; by_cases hkl : k < l.length; (have hck := hv.2.1 k hkl); (have s1 := hv.2.2 i k (by omega) hkl); (have hbd := lowF_bd hgB hci hck s1); (have hci1 := hci); (have hck1 := hck); unfold codeOk at hci1 hck1; (have tkE : True := trivial); rotate_left 1; (have hke : k = l.length := (by omega)); subst hke; rotate_left 1)
            | ((with_reducible (show C _ _ _ _ _)); clear tkE; refine c_cutG (x := .region 19 _ _) (n := 139) (fun ps wr => ps = ([(0, v), (3, .pointer (some ⟨b3, 0, none⟩)), (4, .pointer (some ⟨b4, 0, none⟩)), (5, .pointer (some ⟨b5, 0, none⟩)), (10, .pointer (some ⟨b10, 0, none⟩)), (11, .pointer (some ⟨b11, 0, none⟩)), (12, .bool b), (13, .int .i64 i), (14, .int .i64 k), (15, .int .i64 (((l.getD k cD).1 - (l.getD i cD).1) * f.2))] : List (Nat × Value)) ∧ Bx wr b10 [.int .i64 lo.1, .int .i64 lo.2] 24 ∧ Bx wr b11 [.int .i64 hi.1, .int .i64 hi.2] 24 ∧ Ex w8 wr) (fun JC hJC => ?_) (fun uC psC wrC hIC => ?_); rotate_left 1; obtain ⟨rfl, hx10, hx11, he⟩ := hIC; have hsz := he.size; (have hl11 := Bx.lt hx11); (have tkF : True := trivial); rotate_left 1)
            | (refine c_mix (id := 19) [] [0, 1, 2, 3, 4, 5, 6, 7, 8, 9, 10, 11, 12, 13] [14] [false, false, false, false, false, false, false, false, false, false, false, false, false, false, false] [true, true, true, true, true, true, true, true, true, true, true, true, true, true, false] [none, none, none, none, none, none, none, none, none, none, none, none, none, none, some true] (by kernel_rfl) (by kernel_rfl) (by kernel_rfl) (by kernel_rfl) (by kernel_rfl) (by kernel_rfl) (by dsimp only [sel] <;> exact rfl) (by dsimp only [sel] <;> exact rfl) (by dsimp only [selT] <;> exact rfl) ?_)
            | (refine WM_indexRwQ (f := cC) (n := 3) (v := v) (xs := l) (i := k) cD cC_len (by decide) rfl (Row.ex (by repeat (first | exact Ex.refl _ | assumption | (refine Ex.of_grown ?_ (by assumption) (by intro k hk; cases hk; omega)) | (refine Ex.trans ?_ (by assumption)))) h) rfl (by omega) ?_; intro pb po hpc; (have hpc3 : Cells _ ⟨pb, po, none⟩ [_, _, _] := hpc); obtain ⟨hp0, hp1, hp2⟩ := cells3 hpc3)
            | (refine WM_indexRwQ (f := cC) (n := 3) (v := v) (xs := l) (i := i) cD cC_len (by decide) rfl (Row.ex (by repeat (first | exact Ex.refl _ | assumption | (refine Ex.of_grown ?_ (by assumption) (by intro k hk; cases hk; omega)) | (refine Ex.trans ?_ (by assumption)))) h) rfl (by omega) ?_; intro pb po hpc; (have hpc3 : Cells _ ⟨pb, po, none⟩ [_, _, _] := hpc); obtain ⟨hp0, hp1, hp2⟩ := cells3 hpc3)
            | ((with_reducible (show C _ _ _ _ _)); clear tkF; refine c_cutG (x := .region 20 _ _) (n := 139) (fun ps wr => ∃ (b16 : Nat), ps = ([(0, v), (3, .pointer (some ⟨b3, 0, none⟩)), (4, .pointer (some ⟨b4, 0, none⟩)), (5, .pointer (some ⟨b5, 0, none⟩)), (10, .pointer (some ⟨b10, 0, none⟩)), (11, .pointer (some ⟨b11, 0, none⟩)), (12, .bool b), (13, .int .i64 i), (14, .int .i64 k), (15, .int .i64 (((l.getD k cD).1 - (l.getD i cD).1) * f.2)), (16, .pointer (some ⟨b16, 0, none⟩))] : List (Nat × Value)) ∧ b11 < b16 ∧ Bx wr b10 [.int .i64 lo.1, .int .i64 lo.2] 24 ∧ Bx wr b11 [.int .i64 hi.1, .int .i64 hi.2] 24 ∧ Bx wr b16 [.int .i64 (low (lowF f (l.getD i cD) (l.getD k cD))).1, .int .i64 (low (lowF f (l.getD i cD) (l.getD k cD))).2] 24 ∧ Ex w8 wr) (fun JD hJD => ?_) (fun uD psD wrD hID => ?_); rotate_left 1; obtain ⟨b16, rfl, hb16, hx10, hx11, hx16, he⟩ := hID; have hsz := he.size; (have hl11 := Bx.lt hx11); (have hl16 := Bx.lt hx16); (have tkG : True := trivial); rotate_left 1)
            | (refine c_mixX (id := 20) [] [0, 1, 2, 3, 4, 5, 6, 7, 8, 9, 10, 11, 12, 13, 14, 15, 16, 17, 18, 19, 20, 21] 2 #[true, true, true, true, true, true, true, true, true, true, true, true, true, true, true, true, true, true, true, true, true, true, false, false] [false, false, false, false, false, false, false, false, false, false, false, false, false, false, false, false, false, false, false, false, false, false, false, false] [true, true, true, true, true, true, true, true, true, true, true, true, true, true, true, true, true, true, true, true, true, true, false, false] (by kernel_rfl) (by kernel_rfl) (by kernel_rfl) (by dsimp only [sel] <;> exact rfl) (by dsimp only [sel] <;> exact rfl) ?_)
            | ((with_reducible (show C _ _ _ _ _)); clear tkG; refine c_cutG (x := .region 21 _ _) (n := 139) (fun ps wr => ∃ (b17 : Nat), ps = ([(0, v), (3, .pointer (some ⟨b3, 0, none⟩)), (4, .pointer (some ⟨b4, 0, none⟩)), (5, .pointer (some ⟨b5, 0, none⟩)), (10, .pointer (some ⟨b10, 0, none⟩)), (11, .pointer (some ⟨b11, 0, none⟩)), (12, .bool b), (13, .int .i64 i), (14, .int .i64 k), (16, .pointer (some ⟨b16, 0, none⟩)), (17, .pointer (some ⟨b17, 0, none⟩))] : List (Nat × Value)) ∧ b11 < b17 ∧ Bx wr b10 [.int .i64 lo.1, .int .i64 lo.2] 24 ∧ Bx wr b11 [.int .i64 hi.1, .int .i64 hi.2] 24 ∧ Bx wr b16 [.int .i64 (low (lowF f (l.getD i cD) (l.getD k cD))).1, .int .i64 (low (lowF f (l.getD i cD) (l.getD k cD))).2] 24 ∧ Bx wr b17 [.int .i64 (low (highF f (l.getD i cD) (l.getD k cD))).1, .int .i64 (low (highF f (l.getD i cD) (l.getD k cD))).2] 24 ∧ Ex w8 wr) (fun JE hJE => ?_) (fun uE psE wrE hIE => ?_); rotate_left 1; obtain ⟨b17, rfl, hb17, hx10, hx11, hx16, hx17, he⟩ := hIE; have hsz := he.size; (have hl11 := Bx.lt hx11); (have hl17 := Bx.lt hx17); (have tkH : True := trivial); rotate_left 1)
            | (refine c_mixX (id := 21) [] [0, 1, 2, 3, 4, 5, 6, 7, 8, 9, 10, 11, 12, 13, 14, 15, 16, 17, 18, 19, 20, 21] 2 #[true, true, true, true, true, true, true, true, true, true, true, true, true, true, true, true, true, true, true, true, true, true, false, false] [false, false, false, false, false, false, false, false, false, false, false, false, false, false, false, false, false, false, false, false, false, false, false, false] [true, true, true, true, true, true, true, true, true, true, true, true, true, true, true, true, true, true, true, true, true, true, false, false] (by kernel_rfl) (by kernel_rfl) (by kernel_rfl) (by dsimp only [sel] <;> exact rfl) (by dsimp only [sel] <;> exact rfl) ?_)
            | ((with_reducible (show C _ _ _ _ _)); clear tkH; refine c_cutG (x := .seq (.region 22 _ _) (.cond _ _ _)) (n := 139) (fun ps wr => ∃ (lo2 : Int × Int), ps = ([(0, v), (3, .pointer (some ⟨b3, 0, none⟩)), (4, .pointer (some ⟨b4, 0, none⟩)), (5, .pointer (some ⟨b5, 0, none⟩)), (10, .pointer (some ⟨b10, 0, none⟩)), (11, .pointer (some ⟨b11, 0, none⟩)), (12, .bool b), (13, .int .i64 i), (14, .int .i64 k), (17, .pointer (some ⟨b17, 0, none⟩))] : List (Nat × Value)) ∧ lowN l f i (k + 1) lo2 ∧ Bx wr b10 [.int .i64 lo2.1, .int .i64 lo2.2] 24 ∧ Bx wr b11 [.int .i64 hi.1, .int .i64 hi.2] 24 ∧ Bx wr b17 [.int .i64 (low (highF f (l.getD i cD) (l.getD k cD))).1, .int .i64 (low (highF f (l.getD i cD) (l.getD k cD))).2] 24 ∧ Ex w8 wr) (fun JF hJF => ?_) (fun uF psF wrF hIF => ?_); rotate_left 1; obtain ⟨lo2, rfl, hloN, hx10, hx11, hx17, he⟩ := hIF; have hsz := he.size; (have tkI2 : True := trivial); rotate_left 1; rcases hpv with ⟨rfl, hnone⟩ | ⟨rfl, hlo, hhi⟩; rotate_left 1; (have hgl := lowN_gF hv hgB hlo); by_cases hl1 : fLt lo (low (lowF f (l.getD i cD) (l.getD k cD))))
            | ((with_reducible (show C _ _ _ _ _)); clear tkI2; refine c_cutG (x := .seq (.region 24 _ _) (.cond _ _ _)) (n := 139) (fun ps wr => ∃ (hi2 : Int × Int), ps = ([(0, v), (3, .pointer (some ⟨b3, 0, none⟩)), (4, .pointer (some ⟨b4, 0, none⟩)), (5, .pointer (some ⟨b5, 0, none⟩)), (10, .pointer (some ⟨b10, 0, none⟩)), (11, .pointer (some ⟨b11, 0, none⟩)), (13, .int .i64 i), (14, .int .i64 k)] : List (Nat × Value)) ∧ highN l f i (k + 1) hi2 ∧ Bx wr b10 [.int .i64 lo2.1, .int .i64 lo2.2] 24 ∧ Bx wr b11 [.int .i64 hi2.1, .int .i64 hi2.2] 24 ∧ Ex w8 wr) (fun JG hJG => ?_) (fun uG psG wrG hIG => ?_); rotate_left 1; obtain ⟨hi2, rfl, hhiN, hx10, hx11, he⟩ := hIG; have hsz := he.size; rotate_left 1; rcases hpv with ⟨rfl, hnone⟩ | ⟨rfl, hlo, hhi⟩; rotate_left 1; (have hgh := highN_gF hv hgB hhi); by_cases hh1 : fLt (low (highF f (l.getD i cD) (l.getD k cD))) hi)
            | (refine c_mixX (id := 27) [] [0] 4 #[true, false, false, false, false] [false, false, false, false, false] [true, false, false, false, false] (by kernel_rfl) (by kernel_rfl) (by kernel_rfl) (by dsimp only [sel] <;> exact rfl) (by dsimp only [sel] <;> exact rfl) ?_)
            | ((first | ((with_reducible apply W_op); exact rfl; exact rfl) | ((with_reducible apply WQ_op); exact rfl; exact rfl; intro wq he) | ((with_reducible apply WM_op); exact rfl; exact rfl; intro wq he) | ((with_reducible apply WB_op); exact rfl; exact rfl; intro wq)); (first | ((with_reducible apply r_move); ((conv => lhs; whnf) <;> exact rfl)) | ((with_reducible apply r_assign); ((conv => lhs; whnf) <;> exact rfl)) | ((with_reducible apply r_fieldAddr); exact rfl) | ((with_reducible apply r_load); exact rfl; exact rfl; (first | assumption | exact (Bx.cell (by repeat (first | assumption | ((with_reducible apply Bx.grownS); assumption; (first | omega | exact Bx.ne (by assumption) (by omega))) | ((with_reducible apply Bx.below); assumption; omega) | ((with_reducible apply Bx.ex); assumption))) _).trans rfl | exact Ex.cell (by assumption) (by assumption))) | ((with_reducible apply r_loadA); exact rfl; (first | assumption | exact Bx.cells (by repeat (first | assumption | ((with_reducible apply Bx.grownS); assumption; (first | omega | exact Bx.ne (by assumption) (by omega))) | ((with_reducible apply Bx.below); assumption; omega) | ((with_reducible apply Bx.ex); assumption))) | exact Cells.ex (by assumption) (by assumption)); exact rfl) | ((with_reducible apply r_lss); exact rfl; exact rfl) | ((with_reducible apply r_eql); exact rfl; exact rfl) | ((with_reducible apply r_neq); exact rfl; exact rfl) | ((with_reducible apply r_add); exact rfl; exact rfl; omega) | ((with_reducible apply r_sub); exact rfl; exact rfl; omega) | ((with_reducible apply r_pick_true); exact rfl; ((conv => lhs; whnf) <;> exact rfl)) | ((with_reducible apply r_pick_false); exact rfl; ((conv => lhs; whnf) <;> exact rfl)) | ((with_reducible apply r_notb); exact rfl) | ((with_reducible apply r_mul); exact rfl; exact rfl; omega) | ((with_reducible apply r_extract); exact rfl; exact rfl) | ((with_reducible apply r_build2); ((conv => lhs; whnf) <;> exact rfl); ((conv => lhs; whnf) <;> exact rfl); (first | exact rfl | assumption | exact IntsK.one (by assumption) | exact Prs.one (by assumption) | exact Own.one (by assumption) | exact Row.one (by assumption) | exact OwnR.one (by assumption)); (first | exact rfl | assumption | exact IntsK.one (by assumption) | exact Prs.one (by assumption) | exact Own.one (by assumption) | exact Row.one (by assumption) | exact OwnR.one (by assumption)); exact rfl; exact rfl; ((simp only [lay, lset, List.replicate_succ, List.replicate_zero]) <;> exact rfl)) | ((with_reducible apply r_build0); exact rfl)))
            | (refine W_callv (rCheck_any v l _ (by repeat (first | assumption | ((with_reducible apply OwnR.grownS); assumption; omega) | ((with_reducible apply Row.ex); assumption) | ((with_reducible apply OwnR.ex); assumption) | ((with_reducible apply Bx.grownS); assumption; (first | omega | exact Bx.ne (by assumption) (by omega))) | ((with_reducible apply Bx.below); assumption; omega) | ((with_reducible apply Own.grownS); assumption; omega) | ((with_reducible apply Bx.ex); assumption) | ((with_reducible apply IntsK.ex); assumption) | ((with_reducible apply Own.ex); assumption) | ((with_reducible apply Prs.ex); assumption)))) rfl (fun wq he => ?_); have hsz := he.size)
            | (refine W_callv (rboundedT f _ hbo) rfl (fun wq he => ?_); have hsz := he.size)
            | ((with_reducible apply p_retcct); exact rfl; exact inferInstance; exact inferInstance; exact inferInstance; exact inferInstance; exact rfl; exact (by repeat (first | assumption | ((with_reducible apply Bx.grownS); assumption; (first | omega | exact Bx.ne (by assumption) (by omega))) | ((with_reducible apply Bx.below); assumption; omega) | ((with_reducible apply Bx.ex); assumption))); exact rfl; exact rfl; exact (by repeat (first | assumption | ((with_reducible apply Bx.grownS); assumption; (first | omega | exact Bx.ne (by assumption) (by omega))) | ((with_reducible apply Bx.below); assumption; omega) | ((with_reducible apply Bx.ex); assumption))); exact rfl; exact rfl; refine ⟨_, rfl, ?_, (by repeat (first | assumption | exact Ex.refl _ | (refine Ex.trans ?_ (by assumption)) | (refine Ex.of_grown ?_ (by assumption) (by intro k hk; cases hk; omega))))⟩)
            | (refine W_call (rbest_any v l _ (Row.ex (by repeat (first | exact Ex.refl _ | assumption | (refine Ex.of_grown ?_ (by assumption) (by intro k hk; cases hk; omega)) | (refine Ex.trans ?_ (by assumption)))) h) hv) rfl ?_; rintro vq wq ⟨f0, vp, rfl, hbI⟩ he; have hsz := he.size)
            | ((with_reducible (show Exit.then _ _ _ _ _)); refine n_cutG (hJ8 _ _ _ ⟨_, _, _, _, f0, rfl, hbI, (by omega), (by repeat (first | assumption | ((with_reducible apply Bx.grownS); assumption; (first | omega | exact Bx.ne (by assumption) (by omega))) | ((with_reducible apply Bx.below); assumption; omega) | ((with_reducible apply Bx.ex); assumption))), (by repeat (first | assumption | ((with_reducible apply Bx.grownS); assumption; (first | omega | exact Bx.ne (by assumption) (by omega))) | ((with_reducible apply Bx.below); assumption; omega) | ((with_reducible apply Bx.ex); assumption))), (by repeat (first | assumption | ((with_reducible apply Bx.grownS); assumption; (first | omega | exact Bx.ne (by assumption) (by omega))) | ((with_reducible apply Bx.below); assumption; omega) | ((with_reducible apply Bx.ex); assumption))), (by repeat (first | assumption | ((with_reducible apply Bx.grownS); assumption; (first | omega | exact Bx.ne (by assumption) (by omega))) | ((with_reducible apply Bx.below); assumption; omega) | ((with_reducible apply Bx.ex); assumption))), (by repeat (first | assumption | exact Ex.refl _ | (refine Ex.trans ?_ (by assumption)) | (refine Ex.of_grown ?_ (by assumption) (by intro k hk; cases hk; omega))))⟩ ⟨rfl, rfl, rfl, rfl, rfl, trivial⟩ rfl))
            | (refine W_callv (rLessCT f (low f0) _ hbo (low_fOk h0ok) hlt) rfl (fun wq he => ?_); have hsz := he.size)
            | (refine W_callv (rLessCF f (low f0) _ hbo (low_fOk h0ok) hlt) rfl (fun wq he => ?_); have hsz := he.size)
            | ((with_reducible (show Exit.then _ _ _ _ _)); refine n_cutG (hJ9 _ _ _ ⟨_, _, (-4503599627370496, 1), (4503599627370496, 1), rfl, (by omega), (by repeat (first | assumption | ((with_reducible apply Bx.grownS); assumption; (first | omega | exact Bx.ne (by assumption) (by omega))) | ((with_reducible apply Bx.below); assumption; omega) | ((with_reducible apply Bx.ex); assumption))), (by repeat (first | assumption | ((with_reducible apply Bx.grownS); assumption; (first | omega | exact Bx.ne (by assumption) (by omega))) | ((with_reducible apply Bx.below); assumption; omega) | ((with_reducible apply Bx.ex); assumption))), (by repeat (first | exact Ex.refl _ | assumption | (refine Ex.of_grown ?_ (by assumption) (by intro k hk; cases hk; omega)) | (refine Ex.trans ?_ (by assumption))))⟩ ⟨rfl, rfl, rfl, rfl, rfl, rfl, trivial⟩ rfl))
            | ((with_reducible (show Exit.then _ _ _ _ _)); refine n_cutG (hJC _ _ _ ⟨rfl, (by repeat (first | assumption | ((with_reducible apply Bx.grownS); assumption; (first | omega | exact Bx.ne (by assumption) (by omega))) | ((with_reducible apply Bx.below); assumption; omega) | ((with_reducible apply Bx.ex); assumption))), (by repeat (first | assumption | ((with_reducible apply Bx.grownS); assumption; (first | omega | exact Bx.ne (by assumption) (by omega))) | ((with_reducible apply Bx.below); assumption; omega) | ((with_reducible apply Bx.ex); assumption))), (by repeat (first | exact Ex.refl _ | assumption | (refine Ex.of_grown ?_ (by assumption) (by intro k hk; cases hk; omega)) | (refine Ex.trans ?_ (by assumption))))⟩ ⟨rfl, rfl, rfl, rfl, rfl, rfl, rfl, rfl, rfl, rfl, trivial⟩ rfl))
            | (refine XT_one (t := 22) (s := false) (listed := #[true, true, true, true, true, true, true, true, true, true, true, true, true, true, true, true, true, true, true, true, true, true, false, false]) (listed' := #[true, true, true, true, true, true, true, true, true, true, true, true, true, true, true, true, true, true, true, true, true, true, true, false]) (by kernel_rfl) rfl (by kernel_rfl) (by kernel_rfl) ?_)
            | (refine XT_one (t := 23) (s := true) (listed := #[true, true, true, true, true, true, true, true, true, true, true, true, true, true, true, true, true, true, true, true, true, true, true, false]) (listed' := #[true, true, true, true, true, true, true, true, true, true, true, true, true, true, true, true, true, true, true, true, true, true, true, true]) (by kernel_rfl) rfl (by kernel_rfl) (by kernel_rfl) ?_)
            | (with_reducible apply XB_nil)
            | ((with_reducible apply XM_nil); intro wq he; have hsz := he.size)
            | ((with_reducible apply XT_nil); kernel_rfl)
            | (with_reducible apply x_sink)
            | ((with_reducible apply x_keep); (focus ((repeat (first | assumption | exact Ex.refl _ | (refine Ex.trans ?_ (by assumption)) | (refine Ex.of_grown ?_ (by assumption) (by intro k hk; cases hk; omega)))); done)); intro wq he; have hsz := he.size)
            | (refine WM_callv (fun wq he => rLeast_any (((l.getD k cD).2.2 - (l.getD i cD).2.1) * f.2 - 2 * f.1) (((l.getD k cD).1 - (l.getD i cD).1) * f.2) wq (by omega) (by omega)) rfl ?_)
            | ((with_reducible (show Exit.then _ _ _ _ _)); refine n_cutG (hJD _ _ _ ⟨_, rfl, (by omega), (by repeat (first | assumption | ((with_reducible apply Bx.grownS); assumption; (first | omega | exact Bx.ne (by assumption) (by omega))) | ((with_reducible apply Bx.below); assumption; omega) | ((with_reducible apply Bx.ex); assumption))), (by repeat (first | assumption | ((with_reducible apply Bx.grownS); assumption; (first | omega | exact Bx.ne (by assumption) (by omega))) | ((with_reducible apply Bx.below); assumption; omega) | ((with_reducible apply Bx.ex); assumption))), (by repeat (first | assumption | ((with_reducible apply Bx.grownS); assumption; (first | omega | exact Bx.ne (by assumption) (by omega))) | ((with_reducible apply Bx.below); assumption; omega) | ((with_reducible apply Bx.ex); assumption))), (by repeat (first | exact Ex.refl _ | assumption | (refine Ex.of_grown ?_ (by assumption) (by intro k hk; cases hk; omega)) | (refine Ex.trans ?_ (by assumption))))⟩ ⟨rfl, rfl, rfl, rfl, rfl, rfl, rfl, rfl, rfl, rfl, rfl, trivial⟩ rfl))
            | (refine WM_callv (fun wq he => rLeast_any (((l.getD k cD).2.1 - (l.getD i cD).2.2) * f.2 + 2 * f.1) (((l.getD k cD).1 - (l.getD i cD).1) * f.2) wq (by omega) (by omega)) rfl ?_)
            | ((with_reducible (show Exit.then _ _ _ _ _)); refine n_cutG (hJE _ _ _ ⟨_, rfl, (by omega), (by repeat (first | assumption | ((with_reducible apply Bx.grownS); assumption; (first | omega | exact Bx.ne (by assumption) (by omega))) | ((with_reducible apply Bx.below); assumption; omega) | ((with_reducible apply Bx.ex); assumption))), (by repeat (first | assumption | ((with_reducible apply Bx.grownS); assumption; (first | omega | exact Bx.ne (by assumption) (by omega))) | ((with_reducible apply Bx.below); assumption; omega) | ((with_reducible apply Bx.ex); assumption))), (by repeat (first | assumption | ((with_reducible apply Bx.grownS); assumption; (first | omega | exact Bx.ne (by assumption) (by omega))) | ((with_reducible apply Bx.below); assumption; omega) | ((with_reducible apply Bx.ex); assumption))), (by repeat (first | assumption | ((with_reducible apply Bx.grownS); assumption; (first | omega | exact Bx.ne (by assumption) (by omega))) | ((with_reducible apply Bx.below); assumption; omega) | ((with_reducible apply Bx.ex); assumption))), (by repeat (first | exact Ex.refl _ | assumption | (refine Ex.of_grown ?_ (by assumption) (by intro k hk; cases hk; omega)) | (refine Ex.trans ?_ (by assumption))))⟩ ⟨rfl, rfl, rfl, rfl, rfl, rfl, rfl, rfl, rfl, rfl, rfl, trivial⟩ rfl))
            | (refine W_callv (rLessGT lo (low (lowF f (l.getD i cD) (l.getD k cD))) _ hgl (low_gF hbd.2.2.2.1) hl1) rfl (fun wq he => ?_); have hsz := he.size)
            | (refine W_callv (rLessGF lo (low (lowF f (l.getD i cD) (l.getD k cD))) _ hgl (low_gF hbd.2.2.2.1) hl1) rfl (fun wq he => ?_); have hsz := he.size)
            | ((with_reducible (show Exit.then _ _ _ _ _)); refine n_cutG (hJF _ _ _ ⟨_, rfl, (by first | exact lowN_first hnone hk.1 hkl | exact lowN_take hv hgB hlo hk.1 hkl hl1 | exact lowN_keep hlo hl1), (by repeat (first | assumption | ((with_reducible apply Bx.grownS); assumption; (first | omega | exact Bx.ne (by assumption) (by omega))) | ((with_reducible apply Bx.below); assumption; omega) | ((with_reducible apply Bx.ex); assumption))), (by repeat (first | assumption | ((with_reducible apply Bx.grownS); assumption; (first | omega | exact Bx.ne (by assumption) (by omega))) | ((with_reducible apply Bx.below); assumption; omega) | ((with_reducible apply Bx.ex); assumption))), (by repeat (first | assumption | ((with_reducible apply Bx.grownS); assumption; (first | omega | exact Bx.ne (by assumption) (by omega))) | ((with_reducible apply Bx.below); assumption; omega) | ((with_reducible apply Bx.ex); assumption))), (by repeat (first | exact Ex.refl _ | assumption | (refine Ex.of_grown ?_ (by assumption) (by intro k hk; cases hk; omega)) | (refine Ex.trans ?_ (by assumption))))⟩ ⟨rfl, rfl, rfl, rfl, rfl, rfl, rfl, rfl, rfl, rfl, trivial⟩ rfl))
            | (refine W_callv (rLessGT (low (highF f (l.getD i cD) (l.getD k cD))) hi _ (low_gF hbd.2.2.2.2) hgh hh1) rfl (fun wq he => ?_); have hsz := he.size)
            | (refine W_callv (rLessGF (low (highF f (l.getD i cD) (l.getD k cD))) hi _ (low_gF hbd.2.2.2.2) hgh hh1) rfl (fun wq he => ?_); have hsz := he.size)
            | ((with_reducible (show Exit.then _ _ _ _ _)); refine n_cutG (hJG _ _ _ ⟨_, rfl, (by first | exact highN_first hnone hk.1 hkl | exact highN_take hv hgB hhi hk.1 hkl hh1 | exact highN_keep hhi hh1), (by repeat (first | assumption | ((with_reducible apply Bx.grownS); assumption; (first | omega | exact Bx.ne (by assumption) (by omega))) | ((with_reducible apply Bx.below); assumption; omega) | ((with_reducible apply Bx.ex); assumption))), (by repeat (first | assumption | ((with_reducible apply Bx.grownS); assumption; (first | omega | exact Bx.ne (by assumption) (by omega))) | ((with_reducible apply Bx.below); assumption; omega) | ((with_reducible apply Bx.ex); assumption))), (by repeat (first | exact Ex.refl _ | assumption | (refine Ex.of_grown ?_ (by assumption) (by intro k hk; cases hk; omega)) | (refine Ex.trans ?_ (by assumption))))⟩ ⟨rfl, rfl, rfl, rfl, rfl, rfl, rfl, rfl, trivial⟩ rfl))
            | (refine XT_two (t := 1) (t' := 2) (s := false) (s' := true) (listed := #[true, false, false, false, false]) (l1 := #[true, true, false, false, false]) (l1' := #[true, false, true, false, false]) (by kernel_rfl) rfl rfl (by kernel_rfl) (by kernel_rfl) (by kernel_rfl) (by kernel_rfl) ?_ ?_)
            | (refine XT_one (t := 2) (s := true) (listed := #[true, true, false, false, false]) (listed' := #[true, true, true, false, false]) (by kernel_rfl) rfl (by kernel_rfl) (by kernel_rfl) ?_)
            | (refine XT_one (t := 1) (s := false) (listed := #[true, false, true, false, false]) (listed' := #[true, true, true, false, false]) (by kernel_rfl) rfl (by kernel_rfl) (by kernel_rfl) ?_)
            | (refine XT_one (t := 3) (s := true) (listed := #[true, true, true, false, false]) (listed' := #[true, true, true, true, false]) (by kernel_rfl) rfl (by kernel_rfl) (by kernel_rfl) ?_)
            | (refine XT_pure (t := 4) (listed := #[true, true, true, true, false]) (listed' := #[true, true, true, true, true]) (by kernel_rfl) rfl rfl rfl (by kernel_rfl) (by intro wq; ((with_reducible apply r_assign); ((conv => lhs; whnf) <;> exact rfl))) ?_)
            | ((with_reducible (show C _ _ _ _ _)); clear tkO; refine c_loopG (fun (i : Nat) ps wr => ∃ b : Bool, ∃ ii : Int, ∃ lo hi : Int × Int, ps = [(0, v), (3, .pointer (some ⟨b3, 0, none⟩)), (4, .pointer (some ⟨b4, 0, none⟩)), (5, .pointer (some ⟨b5, 0, none⟩)), (10, .pointer (some ⟨b10, 0, none⟩)), (11, .pointer (some ⟨b11, 0, none⟩)), (12, .bool b), (13, .int .i64 ii)] ∧ ii = i ∧ i ≤ l.length ∧ pairV l f i (i + 1) b lo hi ∧ Bx wr b10 [.int .i64 lo.1, .int .i64 lo.2] 24 ∧ Bx wr b11 [.int .i64 hi.1, .int .i64 hi.2] 24 ∧ Ex w8 wr) (fun i => l.length - i) 0 _ ⟨_, _, lo, hi, rfl, rfl, Nat.zero_le _, pv_start, (by repeat (first | assumption | ((with_reducible apply Bx.grownS); assumption; (first | omega | exact Bx.ne (by assumption) (by omega))) | ((with_reducible apply Bx.below); assumption; omega) | ((with_reducible apply Bx.ex); assumption))), (by repeat (first | assumption | ((with_reducible apply Bx.grownS); assumption; (first | omega | exact Bx.ne (by assumption) (by omega))) | ((with_reducible apply Bx.below); assumption; omega) | ((with_reducible apply Bx.ex); assumption))), (by repeat (first | exact Ex.refl _ | assumption | (refine Ex.of_grown ?_ (by assumption) (by intro k hk; cases hk; omega)) | (refine Ex.trans ?_ (by assumption))))⟩ ⟨rfl, rfl, rfl, rfl, rfl, rfl, rfl, rfl, trivial⟩ (by ((conv => lhs; whnf) <;> exact rfl)) ?_; rintro JI hJI i u ps wr ⟨b, ii, lo, hi, rfl, rfl, hi1, hpv, hx10, hx11, he⟩; have hsz := he.size; have tkA : True := trivial)
            | ((with_reducible (show Exit.then _ _ _ _ _)); refine n_roundG (i + 1) (hJI _ _ _ _ ⟨_, _, _, _, rfl, by omega, by omega, pv_row hpv, (by repeat (first | assumption | ((with_reducible apply Bx.grownS); assumption; (first | omega | exact Bx.ne (by assumption) (by omega))) | ((with_reducible apply Bx.below); assumption; omega) | ((with_reducible apply Bx.ex); assumption))), (by repeat (first | assumption | ((with_reducible apply Bx.grownS); assumption; (first | omega | exact Bx.ne (by assumption) (by omega))) | ((with_reducible apply Bx.below); assumption; omega) | ((with_reducible apply Bx.ex); assumption))), (by repeat (first | exact Ex.refl _ | assumption | (refine Ex.of_grown ?_ (by assumption) (by intro k hk; cases hk; omega)) | (refine Ex.trans ?_ (by assumption))))⟩ ⟨rfl, rfl, rfl, rfl, rfl, rfl, rfl, rfl, trivial⟩ rfl) (by omega))
            | ((with_reducible (show C _ _ _ _ _)); clear tkB; refine c_loopG (fun (k : Nat) ps wr => ∃ b : Bool, ∃ kk : Int, ∃ lo hi : Int × Int, ps = [(0, v), (3, .pointer (some ⟨b3, 0, none⟩)), (4, .pointer (some ⟨b4, 0, none⟩)), (5, .pointer (some ⟨b5, 0, none⟩)), (10, .pointer (some ⟨b10, 0, none⟩)), (11, .pointer (some ⟨b11, 0, none⟩)), (12, .bool b), (13, .int .i64 i), (14, .int .i64 kk)] ∧ kk = k ∧ (i < k ∧ k ≤ l.length) ∧ pairV l f i k b lo hi ∧ Bx wr b10 [.int .i64 lo.1, .int .i64 lo.2] 24 ∧ Bx wr b11 [.int .i64 hi.1, .int .i64 hi.2] 24 ∧ Ex w8 wr) (fun k => l.length - k) (i + 1) _ ⟨_, _, lo, hi, rfl, (by omega), (by omega), hpv, (by repeat (first | assumption | ((with_reducible apply Bx.grownS); assumption; (first | omega | exact Bx.ne (by assumption) (by omega))) | ((with_reducible apply Bx.below); assumption; omega) | ((with_reducible apply Bx.ex); assumption))), (by repeat (first | assumption | ((with_reducible apply Bx.grownS); assumption; (first | omega | exact Bx.ne (by assumption) (by omega))) | ((with_reducible apply Bx.below); assumption; omega) | ((with_reducible apply Bx.ex); assumption))), (by repeat (first | exact Ex.refl _ | assumption | (refine Ex.of_grown ?_ (by assumption) (by intro k hk; cases hk; omega)) | (refine Ex.trans ?_ (by assumption))))⟩ ⟨rfl, rfl, rfl, rfl, rfl, rfl, rfl, rfl, rfl, trivial⟩ (by ((conv => lhs; whnf) <;> exact rfl)) ?_; rintro JK hJK k u ps wr ⟨b, kk, lo, hi, rfl, rfl, hk, hpv, hx10, hx11, he⟩; have hsz := he.size; have tkD : True := trivial)
            | ((with_reducible (show Exit.then _ _ _ _ _)); refine n_roundG (k + 1) (hJK _ _ _ _ ⟨_, _, lo2, hi2, rfl, by omega, by omega, Or.inr ⟨rfl, hloN, hhiN⟩, (by repeat (first | assumption | ((with_reducible apply Bx.grownS); assumption; (first | omega | exact Bx.ne (by assumption) (by omega))) | ((with_reducible apply Bx.below); assumption; omega) | ((with_reducible apply Bx.ex); assumption))), (by repeat (first | assumption | ((with_reducible apply Bx.grownS); assumption; (first | omega | exact Bx.ne (by assumption) (by omega))) | ((with_reducible apply Bx.below); assumption; omega) | ((with_reducible apply Bx.ex); assumption))), (by repeat (first | exact Ex.refl _ | assumption | (refine Ex.of_grown ?_ (by assumption) (by intro k hk; cases hk; omega)) | (refine Ex.trans ?_ (by assumption))))⟩ ⟨rfl, rfl, rfl, rfl, rfl, rfl, rfl, rfl, rfl, trivial⟩ rfl) (by omega))
            | (with_reducible apply W_nil)
            | (with_reducible apply WM_nil; intro wq he; have hsz := he.size)
            | (with_reducible apply WB_nil)
            | (with_reducible apply WT_nil)
            | (with_reducible apply WT_cons)
            | (with_reducible apply t_sink)
            | ((with_reducible apply W_box); exact rfl; exact rfl; intro bq wq hbq he hnq; have hltq := Bx.lt hbq; have hsz := he.size)
            | ((with_reducible apply W_alloc); exact rfl; intro bq wq hbq he hnq; have hltq := Bx.lt hbq; have hsz := he.size)
            | ((with_reducible apply W_storeA); exact rfl; (focus ((repeat (first | assumption | ((with_reducible apply Bx.grownS); assumption; (first | omega | exact Bx.ne (by assumption) (by omega))) | ((with_reducible apply Bx.below); assumption; omega) | ((with_reducible apply Bx.ex); assumption))); done)); exact rfl; exact rfl; exact rfl; (repeat' (first | exact trivial | (first | exact rfl | assumption | exact IntsK.one (by assumption) | exact Prs.one (by assumption) | exact Own.one (by assumption) | exact Row.one (by assumption) | exact OwnR.one (by assumption)) | constructor)); intro wq hbq hgq; have he : Ex w wq := (by repeat (first | assumption | exact Ex.refl _ | (refine Ex.trans ?_ (by assumption)) | (refine Ex.of_grown ?_ (by assumption) (by intro k hk; cases hk; omega)))); have hsz := he.size; have hgz := hgq.size)
            | ((with_reducible apply W_pass); exact rfl; exact rfl; exact rfl; exact rfl; exact rfl)
            | ((with_reducible apply W_take); exact rfl; exact rfl; exact rfl)
            | (with_reducible apply c_seq)
            | (with_reducible apply c_region)
            | (with_reducible apply c_block)
            | (with_reducible apply c_skip)
            | (with_reducible apply c_ret)
            | (with_reducible apply c_exit)
            | ((with_reducible apply c_cond_true); exact rfl)
            | ((with_reducible apply c_cond_false); exact rfl)
            | (with_reducible apply n_then)
            | (with_reducible apply n_block)
            | (with_reducible apply e_then)
            | (with_reducible apply e_block)
            | (with_reducible apply r_then))
        all_goals first | exact ⟨(0, 0), (0, 0), _, rfl, Or.inl ⟨rfl, rfl, Or.inr (Or.inr (Or.inr ⟨hce, hbo, h1, rfl, f0, hbI, hlt⟩))⟩⟩ | exact ⟨lo, hi, _, rfl, Or.inr ⟨hce, hbo, h1, rfl, ⟨f0, hbI, hlt⟩, hloE, hhiE⟩⟩ | skip
    · unfold v2
      refine ret_of_c Try.func18 rfl Try.ntmps18 (Nat.le_of_ble_eq_true rfl) (by dsimp only [ini, Nat.reduceAdd] <;> exact rfl) ?_
      repeat' (first
          | (((with_reducible apply W_split); exact rfl; exact rfl; (all_goals intro _); (all_goals (try (exfalso; (focus (omega; done)))))))
          | (((with_reducible apply c_cond_dec); exact rfl; (all_goals intro _); (all_goals (try (exfalso; (focus (omega; done)))))))
          | ((first | ((with_reducible apply W_op); exact rfl; exact rfl) | ((with_reducible apply WQ_op); exact rfl; exact rfl; intro wq he) | ((with_reducible apply WM_op); exact rfl; exact rfl; intro wq he) | ((with_reducible apply WB_op); exact rfl; exact rfl; intro wq)); (first | ((with_reducible apply r_move); ((conv => lhs; whnf) <;> exact rfl)) | ((with_reducible apply r_assign); ((conv => lhs; whnf) <;> exact rfl)) | ((with_reducible apply r_loadA); exact rfl; (first | assumption | exact Bx.cells (by repeat (first | assumption | ((with_reducible apply Bx.grownS); assumption; (first | omega | exact Bx.ne (by assumption) (by omega))) | ((with_reducible apply Bx.below); assumption; omega) | ((with_reducible apply Bx.ex); assumption))) | exact Cells.ex (by assumption) (by assumption)); exact rfl) | ((with_reducible apply r_eql); exact rfl; exact rfl) | ((with_reducible apply r_neq); exact rfl; exact rfl) | ((with_reducible apply r_pick_true); exact rfl; ((conv => lhs; whnf) <;> exact rfl)) | ((with_reducible apply r_pick_false); exact rfl; ((conv => lhs; whnf) <;> exact rfl)) | ((with_reducible apply r_notb); exact rfl) | ((with_reducible apply r_build0); exact rfl)))
          | (refine W_callv (rCheck_any v l _ (by repeat (first | assumption | ((with_reducible apply OwnR.grownS); assumption; omega) | ((with_reducible apply Row.ex); assumption) | ((with_reducible apply OwnR.ex); assumption) | ((with_reducible apply Bx.grownS); assumption; (first | omega | exact Bx.ne (by assumption) (by omega))) | ((with_reducible apply Bx.below); assumption; omega) | ((with_reducible apply Own.grownS); assumption; omega) | ((with_reducible apply Bx.ex); assumption) | ((with_reducible apply IntsK.ex); assumption) | ((with_reducible apply Own.ex); assumption) | ((with_reducible apply Prs.ex); assumption)))) rfl (fun wq he => ?_); have hsz := he.size)
          | (refine W_callv (rboundedF f _ hbo) rfl (fun wq he => ?_); have hsz := he.size)
          | ((with_reducible apply p_retcct); exact rfl; exact inferInstance; exact inferInstance; exact inferInstance; exact inferInstance; exact rfl; exact (by repeat (first | assumption | ((with_reducible apply Bx.grownS); assumption; (first | omega | exact Bx.ne (by assumption) (by omega))) | ((with_reducible apply Bx.below); assumption; omega) | ((with_reducible apply Bx.ex); assumption))); exact rfl; exact rfl; exact (by repeat (first | assumption | ((with_reducible apply Bx.grownS); assumption; (first | omega | exact Bx.ne (by assumption) (by omega))) | ((with_reducible apply Bx.below); assumption; omega) | ((with_reducible apply Bx.ex); assumption))); exact rfl; exact rfl; refine ⟨_, rfl, ?_, (by repeat (first | assumption | exact Ex.refl _ | (refine Ex.trans ?_ (by assumption)) | (refine Ex.of_grown ?_ (by assumption) (by intro k hk; cases hk; omega))))⟩)
          | (with_reducible apply W_nil)
          | ((with_reducible apply W_box); exact rfl; exact rfl; intro bq wq hbq he hnq; have hltq := Bx.lt hbq; have hsz := he.size)
          | ((with_reducible apply W_alloc); exact rfl; intro bq wq hbq he hnq; have hltq := Bx.lt hbq; have hsz := he.size)
          | ((with_reducible apply W_storeA); exact rfl; (focus ((repeat (first | assumption | ((with_reducible apply Bx.grownS); assumption; (first | omega | exact Bx.ne (by assumption) (by omega))) | ((with_reducible apply Bx.below); assumption; omega) | ((with_reducible apply Bx.ex); assumption))); done)); exact rfl; exact rfl; exact rfl; (repeat' (first | exact trivial | (first | exact rfl | assumption | exact IntsK.one (by assumption) | exact Prs.one (by assumption) | exact Own.one (by assumption) | exact Row.one (by assumption) | exact OwnR.one (by assumption)) | constructor)); intro wq hbq hgq; have he : Ex w wq := (by repeat (first | assumption | exact Ex.refl _ | (refine Ex.trans ?_ (by assumption)) | (refine Ex.of_grown ?_ (by assumption) (by intro k hk; cases hk; omega)))); have hsz := he.size; have hgz := hgq.size)
          | ((with_reducible apply W_pass); exact rfl; exact rfl; exact rfl; exact rfl; exact rfl)
          | ((with_reducible apply W_take); exact rfl; exact rfl; exact rfl)
          | (with_reducible apply c_seq)
          | (with_reducible apply c_region)
          | (with_reducible apply c_skip)
          | (with_reducible apply c_ret)
          | ((with_reducible apply c_cond_true); exact rfl)
          | ((with_reducible apply c_cond_false); exact rfl)
          | (with_reducible apply n_then)
          | (with_reducible apply r_then))
      all_goals first | exact ⟨(0, 0), (0, 0), _, rfl, Or.inl ⟨rfl, rfl, Or.inr (Or.inl ⟨hce, hbo, rfl⟩)⟩⟩ | skip
  · unfold v2
    refine ret_of_c Try.func18 rfl Try.ntmps18 (Nat.le_of_ble_eq_true rfl) (by dsimp only [ini, Nat.reduceAdd] <;> exact rfl) ?_
    repeat' (first
        | (((with_reducible apply W_split); exact rfl; exact rfl; (all_goals intro _); (all_goals (try (exfalso; (focus (omega; done)))))))
        | (((with_reducible apply c_cond_dec); exact rfl; (all_goals intro _); (all_goals (try (exfalso; (focus (omega; done)))))))
        | ((first | ((with_reducible apply W_op); exact rfl; exact rfl) | ((with_reducible apply WQ_op); exact rfl; exact rfl; intro wq he) | ((with_reducible apply WM_op); exact rfl; exact rfl; intro wq he) | ((with_reducible apply WB_op); exact rfl; exact rfl; intro wq)); (first | ((with_reducible apply r_move); ((conv => lhs; whnf) <;> exact rfl)) | ((with_reducible apply r_assign); ((conv => lhs; whnf) <;> exact rfl)) | ((with_reducible apply r_eql); exact rfl; exact rfl) | ((with_reducible apply r_neq); exact rfl; exact rfl) | ((with_reducible apply r_pick_false); exact rfl; ((conv => lhs; whnf) <;> exact rfl)) | ((with_reducible apply r_build0); exact rfl)))
        | (refine W_callv (rCheck_any v l _ (by repeat (first | assumption | ((with_reducible apply OwnR.grownS); assumption; omega) | ((with_reducible apply Row.ex); assumption) | ((with_reducible apply OwnR.ex); assumption) | ((with_reducible apply Bx.grownS); assumption; (first | omega | exact Bx.ne (by assumption) (by omega))) | ((with_reducible apply Bx.below); assumption; omega) | ((with_reducible apply Own.grownS); assumption; omega) | ((with_reducible apply Bx.ex); assumption) | ((with_reducible apply IntsK.ex); assumption) | ((with_reducible apply Own.ex); assumption) | ((with_reducible apply Prs.ex); assumption)))) rfl (fun wq he => ?_); have hsz := he.size)
        | ((with_reducible apply p_retcct); exact rfl; exact inferInstance; exact inferInstance; exact inferInstance; exact inferInstance; exact rfl; exact (by repeat (first | assumption | ((with_reducible apply Bx.grownS); assumption; (first | omega | exact Bx.ne (by assumption) (by omega))) | ((with_reducible apply Bx.below); assumption; omega) | ((with_reducible apply Bx.ex); assumption))); exact rfl; exact rfl; exact (by repeat (first | assumption | ((with_reducible apply Bx.grownS); assumption; (first | omega | exact Bx.ne (by assumption) (by omega))) | ((with_reducible apply Bx.below); assumption; omega) | ((with_reducible apply Bx.ex); assumption))); exact rfl; exact rfl; refine ⟨_, rfl, ?_, (by repeat (first | assumption | exact Ex.refl _ | (refine Ex.trans ?_ (by assumption)) | (refine Ex.of_grown ?_ (by assumption) (by intro k hk; cases hk; omega))))⟩)
        | (with_reducible apply W_nil)
        | ((with_reducible apply W_box); exact rfl; exact rfl; intro bq wq hbq he hnq; have hltq := Bx.lt hbq; have hsz := he.size)
        | ((with_reducible apply W_alloc); exact rfl; intro bq wq hbq he hnq; have hltq := Bx.lt hbq; have hsz := he.size)
        | ((with_reducible apply W_storeA); exact rfl; (focus ((repeat (first | assumption | ((with_reducible apply Bx.grownS); assumption; (first | omega | exact Bx.ne (by assumption) (by omega))) | ((with_reducible apply Bx.below); assumption; omega) | ((with_reducible apply Bx.ex); assumption))); done)); exact rfl; exact rfl; exact rfl; (repeat' (first | exact trivial | (first | exact rfl | assumption | exact IntsK.one (by assumption) | exact Prs.one (by assumption) | exact Own.one (by assumption) | exact Row.one (by assumption) | exact OwnR.one (by assumption)) | constructor)); intro wq hbq hgq; have he : Ex w wq := (by repeat (first | assumption | exact Ex.refl _ | (refine Ex.trans ?_ (by assumption)) | (refine Ex.of_grown ?_ (by assumption) (by intro k hk; cases hk; omega)))); have hsz := he.size; have hgz := hgq.size)
        | ((with_reducible apply W_pass); exact rfl; exact rfl; exact rfl; exact rfl; exact rfl)
        | (with_reducible apply c_seq)
        | (with_reducible apply c_region)
        | (with_reducible apply c_skip)
        | (with_reducible apply c_ret)
        | ((with_reducible apply c_cond_false); exact rfl)
        | (with_reducible apply n_then)
        | (with_reducible apply r_then))
    all_goals first | exact ⟨(0, 0), (0, 0), _, rfl, Or.inl ⟨rfl, rfl, Or.inl ⟨hce, rfl⟩⟩⟩ | skip
end Go.Proofs.Ytbmjigneekodnaa

namespace Go.Pv
open Go.RowKit
theorem dn_up_low (f g : Int × Int) (a b : T3) : dnG f g b ≤ upG f g a ↔ ¬ fLt g (lowF f a b) := by
  unfold fLt lowF
  simp only
  have e : dnG f g b - upG f g a = ((b.2.2 - a.2.1) * f.2 - 2 * f.1) * g.2 - g.1 * ((b.1 - a.1) * f.2) := by
    unfold dnG upG
    grind
  omega
theorem dn_up_high (f g : Int × Int) (a b : T3) : dnG f g a ≤ upG f g b ↔ ¬ fLt (highF f a b) g := by
  unfold fLt highF
  simp only
  have e : dnG f g a - upG f g b = g.1 * ((b.1 - a.1) * f.2) - ((b.2.1 - a.2.2) * f.2 + 2 * f.1) * g.2 := by
    unfold dnG upG
    grind
  omega
theorem fLt_low_r {g a : Int × Int} (ha : 1 ≤ a.2) : fLt g (low a) ↔ fLt g a := by
  have h1 := low_cross ha
  have h2 := (low_den ha).1.1
  generalize low a = b at *
  unfold fLt
  have e1 : g.1 * b.2 * a.2 = g.1 * a.2 * b.2 := by ac_rfl
  have e2 : b.1 * g.2 * a.2 = a.1 * g.2 * b.2 := by
    have : b.1 * g.2 * a.2 = b.1 * a.2 * g.2 := by ac_rfl
    rw [this, ← h1]; ac_rfl
  constructor
  · intro h
    have := Int.mul_lt_mul_of_pos_right h (show 0 < a.2 by omega)
    rw [e1, e2] at this
    exact Int.lt_of_mul_lt_mul_right this (show 0 ≤ b.2 by omega)
  · intro h
    have := Int.mul_lt_mul_of_pos_right h (show 0 < b.2 by omega)
    rw [← e1, ← e2] at this
    exact Int.lt_of_mul_lt_mul_right this (show 0 ≤ a.2 by omega)
theorem line_iff {l : List T3} {f g a b : Int × Int} (hv : Valid l) (hf : gB f) (hg : 1 ≤ g.2) (h2 : 2 ≤ l.length) (hw : ∀ j, j < l.length → ((l.getD j cD).2.2 - (l.getD j cD).2.1) * f.2 ≤ 2 * f.1)
    (ha : lowI l f l.length 0 a) (hb : highI l f l.length 0 b) : gainKeeps l f g ↔ ¬ fLt g (low a) ∧ ¬ fLt (low b) g := by
  obtain ⟨⟨p, q, k1, k2, ea⟩, k4⟩ := low_pair h2 ha
  obtain ⟨⟨r, s, m1, m2, eb⟩, m4⟩ := high_pair h2 hb
  have ga := (pair_gF hv hf k1 k2).1
  have gb := (pair_gF hv hf m1 m2).2
  rw [← ea] at ga
  rw [← eb] at gb
  rw [fLt_low_r ga.2.1, fLt_low_l gb.2.1]
  constructor
  · intro h
    refine ⟨?_, ?_⟩
    · rw [ea]; exact (dn_up_low f g _ _).1 (h p q (by omega) k2)
    · rw [eb]; exact (dn_up_high f g _ _).1 (h s r m2 (by omega))
  · rintro ⟨h3, h4⟩ i j hi hj
    rcases Nat.lt_trichotomy i j with c | c | c
    · refine (dn_up_low f g _ _).2 fun hc => ?_
      have g1 := (pair_gF hv hf c hj).1
      exact fN_trans hg ga.2.1 g1.2.1 h3 (k4 i j c hj) hc
    · subst c
      exact (dn_up_self hg).2 (hw i hi)
    · refine (dn_up_high f g _ _).2 fun hc => ?_
      have g1 := (pair_gF hv hf c hi).2
      exact fN_trans g1.2.1 gb.2.1 hg (m4 j i c hi) h4 hc
/-- Either the bound is less than the best error, or gains are found. -/
theorem gains_either {l : List T3} {f f0 x y : Int × Int} {e : Int} (hv : Valid l) (hf : bOk f) (h1 : ¬ l.length = 1) (hb : bestIs l f0) (hg : gainsE l f x y e) :
    (fLt f (low f0) ∧ e = 11 ∧ x = (0, 0) ∧ y = (0, 0)) ∨ (¬ fLt f (low f0) ∧ e = 0 ∧ fitsL l f ∧ ∃ a b, lowI l f l.length 0 a ∧ highI l f l.length 0 b ∧ ¬ fLt b a ∧ x = low a ∧ y = low b) := by
  have hf2 : 1 ≤ f.2 := by unfold bOk at hf; omega
  have hb0 := best_nn hv hb
  have h2 : 2 ≤ l.length := by have := hv.1.1; omega
  by_cases c : fLt f (low f0)
  · left
    have c0 := (fLt_low_r (g := f) hb0.2).1 c
    have hno : ¬ fitsL l f := fun h => by
      obtain ⟨⟨p, hp, rfl⟩, _⟩ := hb
      exact h p hp c0
    rcases hg with ⟨hx, hy, ⟨h1, _⟩ | ⟨_, h2, _⟩ | ⟨_, _, h3, h4⟩ | ⟨_, _, _, h4, _⟩⟩ | ⟨_, _, h3, h4, a, b, h5, h6, h7⟩
    · exact absurd (cErr_valid hv) h1
    · exact absurd hf h2
    · exact absurd h3 h1
    · exact ⟨c, h4, hx, hy⟩
    · exfalso
      rcases h5 with ⟨_, k1, k2, k3, k4⟩ | ⟨h, _⟩
      · have ga : 1 ≤ a.2 := by
          obtain ⟨⟨p, q, m1, m2, rfl⟩, _⟩ := low_pair h2 k1
          exact (pair_gF hv (bOk_gB hf) m1 m2).1.2.1
        have gb : 1 ≤ b.2 := by
          obtain ⟨⟨p, q, m1, m2, rfl⟩, _⟩ := high_pair h2 k2
          exact (pair_gF hv (bOk_gB hf) m1 m2).2.2.1
        exact hno (line_fits hv hf2 ga ((line_iff hv (bOk_gB hf) ga h2 k4 k1 k2).2 ⟨fun h => fLt_irr _ ((fLt_low_r ga).1 h), fun h => k3 ((fLt_low_l gb).1 h)⟩))
      · cases h
  · right
    have hfit : fitsL l f := fun q hq => by
      have hp := prv_ok hv hq
      unfold fOk at hp
      exact fN_trans hf2 (low_den hb0.2).1.1 hp.2.1 c (fun h => hb.2 q hq ((fLt_low_l hb0.2).1 h))
    obtain ⟨k1, k2, k3⟩ := gains_ok hv hf hfit hg
    exact ⟨c, k2 h1, hfit, k3 h1⟩
theorem gains_same {l : List T3} {f x y x' y' : Int × Int} {e e' : Int} (h : gainsE l f x y e) (k : rgE l f x' y' e') : x = x' ∧ y = y' ∧ e = e' := by
  rcases k with ⟨rfl, rfl, ⟨k1, rfl⟩ | ⟨k1, k2, rfl⟩ | ⟨k1, k2, k3, rfl⟩ | ⟨k1, k2, k3, rfl, f0, k4, k5⟩⟩ | ⟨k1, k2, k3, rfl, ⟨f0, k4, k5⟩, k6, k7⟩
  · rcases h with ⟨rfl, rfl, ⟨_, h⟩ | ⟨h, _⟩ | ⟨h, _⟩ | ⟨h, _⟩⟩ | ⟨h, _⟩
    · exact ⟨rfl, rfl, h⟩
    all_goals exact absurd h k1
  · rcases h with ⟨rfl, rfl, ⟨h, _⟩ | ⟨_, _, h⟩ | ⟨_, h, _⟩ | ⟨_, h, _⟩⟩ | ⟨_, h, _⟩
    · exact absurd k1 h
    · exact ⟨rfl, rfl, h⟩
    all_goals exact absurd h k2
  · rcases h with ⟨rfl, rfl, ⟨h, _⟩ | ⟨_, h, _⟩ | ⟨_, _, _, h⟩ | ⟨_, _, h, _⟩⟩ | ⟨_, _, h, _⟩
    · exact absurd k1 h
    · exact absurd k2 h
    · exact ⟨rfl, rfl, h⟩
    all_goals exact absurd k3 h
  · have hv := valid_of k1
    rcases gains_either hv k2 k3 k4 h with ⟨_, h1, h2, h3⟩ | ⟨h1, _⟩
    · exact ⟨h2, h3, h1⟩
    · exact absurd k5 h1
  · have hv := valid_of k1
    have hgB := bOk_gB k2
    have h2l : 2 ≤ l.length := by have := hv.1.1; omega
    rcases gains_either hv k2 k3 k4 h with ⟨h1, _⟩ | ⟨_, h1, _, a, b, ha, hb, _, rfl, rfl⟩
    · exact absurd h1 k5
    · obtain ⟨⟨p, q, m1, m2, ea⟩, m3⟩ := low_pair h2l ha
      obtain ⟨⟨r, s, n1, n2, eb⟩, n3⟩ := high_pair h2l hb
      obtain ⟨⟨p', q', m1', m2', rfl⟩, m3'⟩ := k6
      obtain ⟨⟨r', s', n1', n2', rfl⟩, n3'⟩ := k7
      have ga := (pair_gF hv hgB m1 m2).1
      have gb := (pair_gF hv hgB n1 n2).2
      have ga' := (pair_gF hv hgB m1' m2').1
      have gb' := (pair_gF hv hgB n1' n2').2
      have u1 := m3 p' q' m1' m2'
      have u2 := m3' p q m1 m2
      rw [fLt_lowQ ga'.2.1 ga.2.1] at u2
      have v1 := n3 r' s' n1' n2'
      have v2 := n3' r s n1 n2
      rw [fLt_lowQ gb.2.1 gb'.2.1] at v2
      subst ea; subst eb
      refine ⟨low_eq ga.2.1 ga'.2.1 ?_, low_eq gb.2.1 gb'.2.1 ?_, h1⟩
      · unfold fLt at u1 u2; omega
      · unfold fLt at v1 v2; omega
section
variable {P : Program} {l : St} {w : World} {od : Option Nat} {ty : TypeId} {pos : String} {af : Array Edge}
theorem r_eqIT {x y : Operand} {T T2 : TypeId} {k : IntKind} {m : Int} (hx : ev l x = .int k m) (hy : ev l y = .int k m) : Runs P ⟨od, .binOp .eql T x y T2, ty, pos, af, none⟩ l w (.bool true) := by
  have := r_eql (P := P) (od := od) (ty := ty) (pos := pos) (af := af) (T := T) (T2 := T2) (w := w) hx hy
  rwa [decide_eq_true rfl] at this
end
end Go.Pv
namespace Go.Proofs.Ytbmjigneekodnaa
open Go.Pv Go.RowKit
set_option maxHeartbeats 16000000
set_option maxRecDepth 20000

theorem take_one {l : List T3} {k : Nat} (h : k < l.length) : l.take (k + 1) = l.take k ++ [l.getD k cD] := by
  rw [List.take_succ_eq_append_getElem h]
  have e : l.getD k cD = l[k] := by simp [h]
  rw [e]
theorem eqRatio (x y : Int × Int) (w : World) : (binOp .eql 24 (.agg (pc x).toArray) (.agg (pc y).toArray)).run Try.prog w = .ok (.bool (decide (x = y))) w := by
  have hS : Try.prog.underlying 24 = some (.struct (Try.prog.fieldsOf 24)) := by kernel_rfl
  have hp : Try.prog.stoodInHeld 24 = false := by kernel_rfl
  simp only [pc]
  rw [run_eql_struct, show (10000 : Nat) = 9999 + 1 from rfl, run_equalIn_agg w 9999 24 _ _ hS hp]
  simp only [Program.fieldsOf, Try.underlying24]
  go_simp
  obtain ⟨a, b⟩ := x
  obtain ⟨c, d⟩ := y
  by_cases h1 : a = c <;> by_cases h2 : b = d <;> simp [h1, h2]
theorem r_eqRatioT {l : St} {w : World} {od : Option Nat} {ty : TypeId} {pos : String} {af : Array Edge} {x y : Operand} {a0 a1 : Int} (hx : ev l x = .agg #[.int .i64 a0, .int .i64 a1]) (hy : ev l y = .agg #[.int .i64 a0, .int .i64 a1]) : Runs Try.prog ⟨od, .binOp .eql 24 x y 24, ty, pos, af, none⟩ l w (.bool true) := by
  have hg : Try.prog.eqGuardType Try.prog.depth 24 = false := by kernel_rfl
  have h := eqRatio (a0, a1) (a0, a1) w
  rw [decide_eq_true rfl] at h
  simp only [pc] at h
  unfold Runs
  simp only [execOp, hx, hy, Sem.run_bind, run_eqGuard_agg (w := w) .eql 24 x y _ _ hg, Result.andThen_ok, h, Sem.run_pure]
theorem given_any (v : Value) (l : List T3) (w : World) (h : Row cC 3 w v l) (hn : l.length ≤ 1000) : Ret Try.prog 12 [v] w fun r w' => Row cC 3 w' r l := by
  have hv1 := h.one
  have tk1 : True := trivial
  refine ret_of_c Try.func12 rfl Try.ntmps12 (Nat.le_of_ble_eq_true rfl) (by dsimp only [ini, Nat.reduceAdd] <;> exact rfl) ?_
  repeat' (first
      | (clear tkA; (have hu1 := OwnR.one hown0); by_cases hkl : k < l.length; rotate_left 1)
      | (refine W_indexRw (f := cC) (n := 3) (v := v) (xs := l) (i := k) cD cC_len (by decide) rfl (by repeat (first | assumption | ((with_reducible apply OwnR.grownS); assumption; omega) | ((with_reducible apply Row.ex); assumption) | ((with_reducible apply OwnR.ex); assumption) | ((with_reducible apply Bx.grownS); assumption; (first | omega | exact Bx.ne (by assumption) (by omega))) | ((with_reducible apply Bx.below); assumption; omega) | ((with_reducible apply Own.grownS); assumption; omega) | ((with_reducible apply Bx.ex); assumption) | ((with_reducible apply IntsK.ex); assumption) | ((with_reducible apply Own.ex); assumption) | ((with_reducible apply Prs.ex); assumption))) rfl (by omega) ?_; intro pb po hpc; (have hpc3 : Cells _ ⟨pb, po, none⟩ [_, _, _] := hpc))
      | (refine W_bsR3 rfl ?_; intro bq wq hbq he hnq; have hltq := Bx.lt hbq; have hsz := he.size)
      | ((with_reducible apply W_appendR (f := cC) (n := 3) (m := l.getD k cD)); exact fun _ => rfl; decide; exact rfl; ((conv => lhs; whnf) <;> exact rfl); (focus ((repeat (first | assumption | ((with_reducible apply OwnR.grownS); assumption; omega) | ((with_reducible apply Row.ex); assumption) | ((with_reducible apply OwnR.ex); assumption) | ((with_reducible apply Bx.grownS); assumption; (first | omega | exact Bx.ne (by assumption) (by omega))) | ((with_reducible apply Bx.below); assumption; omega) | ((with_reducible apply Own.grownS); assumption; omega) | ((with_reducible apply Bx.ex); assumption) | ((with_reducible apply IntsK.ex); assumption) | ((with_reducible apply Own.ex); assumption) | ((with_reducible apply Prs.ex); assumption))); done)); exact rfl; (show Bx _ _ [_, _, _] _); (focus ((repeat (first | assumption | ((with_reducible apply OwnR.grownS); assumption; omega) | ((with_reducible apply Row.ex); assumption) | ((with_reducible apply OwnR.ex); assumption) | ((with_reducible apply Bx.grownS); assumption; (first | omega | exact Bx.ne (by assumption) (by omega))) | ((with_reducible apply Bx.below); assumption; omega) | ((with_reducible apply Own.grownS); assumption; omega) | ((with_reducible apply Bx.ex); assumption) | ((with_reducible apply IntsK.ex); assumption) | ((with_reducible apply Own.ex); assumption) | ((with_reducible apply Prs.ex); assumption))); done)); exact rfl; (simp only [List.length_take]; omega); (focus ((show Ex w _); (repeat (first | assumption | exact Ex.refl _ | (refine Ex.trans ?_ (by assumption)) | (refine Ex.of_grown ?_ (by assumption) (by intro k hk; cases hk; omega)))); done)); omega; (first | omega | exact Bx.lt (by repeat (first | assumption | ((with_reducible apply OwnR.grownS); assumption; omega) | ((with_reducible apply Row.ex); assumption) | ((with_reducible apply OwnR.ex); assumption) | ((with_reducible apply Bx.grownS); assumption; (first | omega | exact Bx.ne (by assumption) (by omega))) | ((with_reducible apply Bx.below); assumption; omega) | ((with_reducible apply Own.grownS); assumption; omega) | ((with_reducible apply Bx.ex); assumption) | ((with_reducible apply IntsK.ex); assumption) | ((with_reducible apply Own.ex); assumption) | ((with_reducible apply Prs.ex); assumption)))); intro vq wq hown he hkq hgq; have hsz := he.size)
      | ((first | ((with_reducible apply W_op); exact rfl; exact rfl)); (first | ((with_reducible apply r_move); ((conv => lhs; whnf) <;> exact rfl)) | ((with_reducible apply r_assign); ((conv => lhs; whnf) <;> exact rfl)) | ((with_reducible apply r_loadA); exact rfl; (first | assumption | exact Bx.cells (by repeat (first | assumption | ((with_reducible apply Bx.grownS); assumption; (first | omega | exact Bx.ne (by assumption) (by omega))) | ((with_reducible apply Bx.below); assumption; omega) | ((with_reducible apply Bx.ex); assumption))) | exact Cells.ex (by assumption) (by assumption)); exact rfl) | ((with_reducible apply r_lss); exact rfl; exact rfl) | ((with_reducible apply r_add); exact rfl; exact rfl; omega) | ((with_reducible apply r_lenR); ((conv => lhs; whnf) <;> exact rfl); (focus ((repeat (first | assumption | ((with_reducible apply OwnR.grownS); assumption; omega) | ((with_reducible apply Row.ex); assumption) | ((with_reducible apply OwnR.ex); assumption) | ((with_reducible apply Bx.grownS); assumption; (first | omega | exact Bx.ne (by assumption) (by omega))) | ((with_reducible apply Bx.below); assumption; omega) | ((with_reducible apply Own.grownS); assumption; omega) | ((with_reducible apply Bx.ex); assumption) | ((with_reducible apply IntsK.ex); assumption) | ((with_reducible apply Own.ex); assumption) | ((with_reducible apply Prs.ex); assumption))); done)))))
      | ((with_reducible (show C _ _ _ _ _)); clear tk1; refine c_loopG (fun (k : Nat) ps wr => ∃ u : Value, ∃ i : Int, ps = [(0, v), (2, .slice none 0 0), (3, u), (4, .int .i64 i)] ∧ i = k ∧ k ≤ l.length ∧ OwnR cC 3 79 w.heap.size wr u (l.take k) ∧ Ex w wr) (fun k => l.length - k) 0 _ ⟨_, _, rfl, rfl, Nat.zero_le _, OwnR.nil _ _ _, (by repeat (first | assumption | exact Ex.refl _ | (refine Ex.trans ?_ (by assumption)) | (refine Ex.of_grown ?_ (by assumption) (by intro k hk; cases hk; omega))))⟩ ⟨rfl, rfl, rfl, rfl, trivial⟩ (by ((conv => lhs; whnf) <;> exact rfl)) ?_; rintro J hJ k u ps wr ⟨u, i, rfl, rfl, hk, hown0, he⟩; have hsz := he.size; have tkA : True := trivial)
      | ((with_reducible (show Exit.then _ _ _ _ _)); refine n_roundG (k + 1) (hJ _ _ _ _ ⟨_, _, rfl, by omega, by omega, (by rw [take_one hkl]; exact (by repeat (first | assumption | ((with_reducible apply OwnR.grownS); assumption; omega) | ((with_reducible apply Row.ex); assumption) | ((with_reducible apply OwnR.ex); assumption) | ((with_reducible apply Bx.grownS); assumption; (first | omega | exact Bx.ne (by assumption) (by omega))) | ((with_reducible apply Bx.below); assumption; omega) | ((with_reducible apply Own.grownS); assumption; omega) | ((with_reducible apply Bx.ex); assumption) | ((with_reducible apply IntsK.ex); assumption) | ((with_reducible apply Own.ex); assumption) | ((with_reducible apply Prs.ex); assumption)))), (by repeat (first | assumption | exact Ex.refl _ | (refine Ex.trans ?_ (by assumption)) | (refine Ex.of_grown ?_ (by assumption) (by intro k hk; cases hk; omega))))⟩ ⟨rfl, rfl, rfl, rfl, trivial⟩ rfl) (by omega))
      | (with_reducible apply W_nil)
      | (with_reducible apply c_seq)
      | (with_reducible apply c_region)
      | (with_reducible apply c_block)
      | (with_reducible apply c_skip)
      | (with_reducible apply c_ret)
      | (with_reducible apply c_exit)
      | ((with_reducible apply c_cond_dec); exact rfl; intro _; rotate_left 1; intro _)
      | (with_reducible apply n_then)
      | (with_reducible apply n_block)
      | (with_reducible apply e_then)
      | (with_reducible apply e_block)
      | ((with_reducible apply p_ret1); exact rfl; ((conv => lhs; whnf) <;> exact rfl); refine ⟨_, rfl, ?_, (by repeat (first | assumption | exact Ex.refl _ | (refine Ex.trans ?_ (by assumption)) | (refine Ex.of_grown ?_ (by assumption) (by intro k hk; cases hk; omega))))⟩)
      | ((exfalso; omega)))
  have hke : l.take k = l := List.take_of_length_le (by omega)
  rw [hke] at hown0
  exact OwnR.row (fun _ => rfl) (by repeat (first | assumption | ((with_reducible apply OwnR.grownS); assumption; omega) | ((with_reducible apply Row.ex); assumption) | ((with_reducible apply OwnR.ex); assumption) | ((with_reducible apply Bx.grownS); assumption; (first | omega | exact Bx.ne (by assumption) (by omega))) | ((with_reducible apply Bx.below); assumption; omega) | ((with_reducible apply Own.grownS); assumption; omega) | ((with_reducible apply Bx.ex); assumption) | ((with_reducible apply IntsK.ex); assumption) | ((with_reducible apply Own.ex); assumption) | ((with_reducible apply Prs.ex); assumption)))
theorem proofsL_any (v vp : Value) (l : List T3) (cs : List Int) (f : Int × Int) (w : World) (h : Row cC 3 w v l) (hp : Ints w vp cs) :
    Ret Try.prog 4 [v, vp, .agg #[.int .i64 f.1, .int .i64 f.2]] w fun r _ => r = .bool true := by
  have hv1 := h.one
  have hl := h.len
  have hl2 := hp.len
  have hp1 := hp.one
  refine ret_of_c Try.func4 rfl Try.ntmps4 (Nat.le_of_ble_eq_true rfl) (by dsimp only [ini, Nat.reduceAdd] <;> exact rfl) ?_
  repeat' (first
      | (((with_reducible apply W_split); exact rfl; exact rfl; (all_goals intro _); (all_goals (try (exfalso; (focus (omega; done)))))))
      | (((with_reducible apply c_cond_dec); exact rfl; (all_goals intro _); (all_goals (try (exfalso; (focus (omega; done)))))))
      | ((with_reducible apply W_op); exact rfl; exact rfl; ((with_reducible apply r_lenR (f := cC) (n := 3) (xs := l) (v := v)); exact rfl; exact Row.ex (by repeat (first | exact Ex.refl _ | assumption | (refine Ex.of_grown ?_ (by assumption) (by intro k hk; cases hk; omega)) | (refine Ex.trans ?_ (by assumption)))) h))
      | ((with_reducible (show C _ _ _ _ _)); refine c_cutG (x := .region 3 _ _) (n := 66) (fun ps wr => ∃ (b5 : Nat) (vx : Value), ps = ([(0, v), (1, vp), (5, .pointer (some ⟨b5, 0, none⟩)), (7, vx)] : List (Nat × Value)) ∧ Row cC 3 wr vx l ∧ Bx wr b5 [.int .i64 f.1, .int .i64 f.2] 24 ∧ Ex w wr) (fun J3 hJ3 => ?_) (fun u3 ps3 w3 hI3 => ?_); rotate_left 1; obtain ⟨b5, vx, rfl, hxr, hx5, he⟩ := hI3; have hsz := he.size; have hvx1 := hxr.one; (have h3 : Row cC 3 w3 v l := Row.ex he h); (have hp3 : Ints w3 vp cs := IntsK.ex he hp); rotate_left 1)
      | ((with_reducible (show C _ _ _ _ _)); refine c_cutG (x := .region 4 _ _) (n := 66) (fun ps wr => ∃ (b8 b9 : Nat) (x y : Int × Int) (e : Int), ps = ([(0, v), (1, vp), (5, .pointer (some ⟨b5, 0, none⟩)), (7, vx), (8, .pointer (some ⟨b8, 0, none⟩)), (9, .pointer (some ⟨b9, 0, none⟩)), (10, .int .i64 e)] : List (Nat × Value)) ∧ gainsE l f x y e ∧ Bx wr b8 [.int .i64 x.1, .int .i64 x.2] 24 ∧ Bx wr b9 [.int .i64 y.1, .int .i64 y.2] 24 ∧ Ex w3 wr) (fun J4 hJ4 => ?_) (fun u4 ps4 w4 hI4 => ?_); rotate_left 1; obtain ⟨b8, b9, x, y, e, rfl, hgE, hx8, hx9, he⟩ := hI4; have hsz := he.size; rotate_left 1)
      | ((with_reducible (show C _ _ _ _ _)); refine c_cutG (x := .region 5 _ _) (n := 66) (fun ps wr => ∃ (b11 b12 : Nat), ps = ([(0, v), (1, vp), (5, .pointer (some ⟨b5, 0, none⟩)), (7, vx), (8, .pointer (some ⟨b8, 0, none⟩)), (9, .pointer (some ⟨b9, 0, none⟩)), (10, .int .i64 e), (11, .pointer (some ⟨b11, 0, none⟩)), (12, .pointer (some ⟨b12, 0, none⟩)), (13, .int .i64 e)] : List (Nat × Value)) ∧ Bx wr b11 [.int .i64 x.1, .int .i64 x.2] 24 ∧ Bx wr b12 [.int .i64 y.1, .int .i64 y.2] 24 ∧ Ex w4 wr) (fun J5 hJ5 => ?_) (fun u5 ps5 w5 hI5 => ?_); rotate_left 1; obtain ⟨b11, b12, rfl, hx11, hx12, he⟩ := hI5; have hsz := he.size; rotate_left 1)
      | (refine c_mix (id := 6) [] [0, 1, 2, 3, 4, 5, 6, 7, 8, 9, 10, 11, 12, 13, 14, 15, 16, 17, 18, 19, 20, 21, 22, 23, 24, 25, 26] [27] [false, false, false, false, false, false, false, false, false, false, false, false, false, false, false, false, false, false, false, false, false, false, false, false, false, false, false, false] [true, true, true, true, true, true, true, true, true, true, true, true, true, true, true, true, true, true, true, true, true, true, true, true, true, true, true, false] [none, none, none, none, none, none, none, none, none, none, none, none, none, none, none, none, none, none, none, none, none, none, none, none, none, none, none, some true] (by kernel_rfl) (by kernel_rfl) (by kernel_rfl) (by kernel_rfl) (by kernel_rfl) (by kernel_rfl) (by dsimp only [sel] <;> exact rfl) (by dsimp only [sel] <;> exact rfl) (by dsimp only [selT] <;> exact rfl) ?_)
      | ((with_reducible apply WM_op); exact rfl; exact rfl; (intro wq he2; (with_reducible apply r_eqRatioT); exact rfl; exact rfl))
      | ((with_reducible apply WM_op); exact rfl; exact rfl; (intro wq he2; (with_reducible apply r_eqIT); exact rfl; exact rfl))
      | ((first | ((with_reducible apply W_op); exact rfl; exact rfl) | ((with_reducible apply WQ_op); exact rfl; exact rfl; intro wq he) | ((with_reducible apply WM_op); exact rfl; exact rfl; intro wq he) | ((with_reducible apply WB_op); exact rfl; exact rfl; intro wq)); (first | ((with_reducible apply r_move); ((conv => lhs; whnf) <;> exact rfl)) | ((with_reducible apply r_assign); ((conv => lhs; whnf) <;> exact rfl)) | ((with_reducible apply r_loadA); exact rfl; (first | assumption | exact Bx.cells (by repeat (first | assumption | ((with_reducible apply Bx.grownS); assumption; (first | omega | exact Bx.ne (by assumption) (by omega))) | ((with_reducible apply Bx.below); assumption; omega) | ((with_reducible apply Bx.ex); assumption))) | exact Cells.ex (by assumption) (by assumption)); exact rfl) | ((with_reducible apply r_gtr); exact rfl; exact rfl) | ((with_reducible apply r_lenInts); ((conv => lhs; whnf) <;> exact rfl); (focus ((repeat (first | assumption | ((with_reducible apply OwnR.grownS); assumption; omega) | ((with_reducible apply Row.ex); assumption) | ((with_reducible apply OwnR.ex); assumption) | ((with_reducible apply Bx.grownS); assumption; (first | omega | exact Bx.ne (by assumption) (by omega))) | ((with_reducible apply Bx.below); assumption; omega) | ((with_reducible apply Own.grownS); assumption; omega) | ((with_reducible apply Bx.ex); assumption) | ((with_reducible apply IntsK.ex); assumption) | ((with_reducible apply Own.ex); assumption) | ((with_reducible apply Prs.ex); assumption))); done))) | ((with_reducible apply r_pick_true); exact rfl; ((conv => lhs; whnf) <;> exact rfl)) | ((with_reducible apply r_pick_false); exact rfl; ((conv => lhs; whnf) <;> exact rfl)) | ((with_reducible apply r_extract); exact rfl; exact rfl)))
      | (refine W_call (given_any v l _ (Row.ex (by repeat (first | exact Ex.refl _ | assumption | (refine Ex.of_grown ?_ (by assumption) (by intro k hk; cases hk; omega)) | (refine Ex.trans ?_ (by assumption)))) h) (by omega)) rfl ?_; rintro vx wq hxr he; have hsz := he.size; have hvx1 := hxr.one)
      | ((with_reducible (show Exit.then _ _ _ _ _)); refine n_cutG (hJ3 _ _ _ ⟨_, _, rfl, Row.ex (by repeat (first | exact Ex.refl _ | assumption | (refine Ex.of_grown ?_ (by assumption) (by intro k hk; cases hk; omega)) | (refine Ex.trans ?_ (by assumption)))) hxr, (by repeat (first | assumption | ((with_reducible apply Bx.grownS); assumption; (first | omega | exact Bx.ne (by assumption) (by omega))) | ((with_reducible apply Bx.below); assumption; omega) | ((with_reducible apply Bx.ex); assumption))), (by repeat (first | assumption | exact Ex.refl _ | (refine Ex.trans ?_ (by assumption)) | (refine Ex.of_grown ?_ (by assumption) (by intro k hk; cases hk; omega))))⟩ ⟨rfl, rfl, rfl, rfl, trivial⟩ rfl))
      | (refine W_call (Gains_any v l f _ (Row.ex (by repeat (first | exact Ex.refl _ | assumption | (refine Ex.of_grown ?_ (by assumption) (by intro k hk; cases hk; omega)) | (refine Ex.trans ?_ (by assumption)))) h3)) rfl ?_; rintro vq wq ⟨x, y, e, rfl, hgE⟩ he; have hsz := he.size)
      | ((with_reducible (show Exit.then _ _ _ _ _)); refine n_cutG (hJ4 _ _ _ ⟨_, _, x, y, e, rfl, hgE, (by repeat (first | assumption | ((with_reducible apply Bx.grownS); assumption; (first | omega | exact Bx.ne (by assumption) (by omega))) | ((with_reducible apply Bx.below); assumption; omega) | ((with_reducible apply Bx.ex); assumption))), (by repeat (first | assumption | ((with_reducible apply Bx.grownS); assumption; (first | omega | exact Bx.ne (by assumption) (by omega))) | ((with_reducible apply Bx.below); assumption; omega) | ((with_reducible apply Bx.ex); assumption))), (by repeat (first | exact Ex.refl _ | assumption | (refine Ex.of_grown ?_ (by assumption) (by intro k hk; cases hk; omega)) | (refine Ex.trans ?_ (by assumption))))⟩ ⟨rfl, rfl, rfl, rfl, rfl, rfl, rfl, trivial⟩ rfl))
      | (refine W_call (rGains_any vx l f _ (Row.ex (by repeat (first | exact Ex.refl _ | assumption | (refine Ex.of_grown ?_ (by assumption) (by intro k hk; cases hk; omega)) | (refine Ex.trans ?_ (by assumption)))) hxr)) rfl ?_; rintro vq wq ⟨x2, y2, e2, rfl, hrE⟩ he; have hsz := he.size; obtain ⟨rfl, rfl, rfl⟩ := gains_same hgE hrE)
      | ((with_reducible (show Exit.then _ _ _ _ _)); refine n_cutG (hJ5 _ _ _ ⟨_, _, rfl, (by repeat (first | assumption | ((with_reducible apply Bx.grownS); assumption; (first | omega | exact Bx.ne (by assumption) (by omega))) | ((with_reducible apply Bx.below); assumption; omega) | ((with_reducible apply Bx.ex); assumption))), (by repeat (first | assumption | ((with_reducible apply Bx.grownS); assumption; (first | omega | exact Bx.ne (by assumption) (by omega))) | ((with_reducible apply Bx.below); assumption; omega) | ((with_reducible apply Bx.ex); assumption))), (by repeat (first | exact Ex.refl _ | assumption | (refine Ex.of_grown ?_ (by assumption) (by intro k hk; cases hk; omega)) | (refine Ex.trans ?_ (by assumption))))⟩ ⟨rfl, rfl, rfl, rfl, rfl, rfl, rfl, rfl, rfl, rfl, trivial⟩ rfl))
      | (refine WM_callv (fun wq he => Verify_any v vp l cs f wq (Row.ex (by repeat (first | exact Ex.refl _ | assumption | (refine Ex.of_grown ?_ (by assumption) (by intro k hk; cases hk; omega)) | (refine Ex.trans ?_ (by assumption)))) h3) (IntsK.ex (by repeat (first | exact Ex.refl _ | assumption | (refine Ex.of_grown ?_ (by assumption) (by intro k hk; cases hk; omega)) | (refine Ex.trans ?_ (by assumption)))) hp3)) rfl ?_)
      | (refine WM_callv (fun wq he => rVerify_any vx vp l cs f wq (Row.ex (by repeat (first | exact Ex.refl _ | assumption | (refine Ex.of_grown ?_ (by assumption) (by intro k hk; cases hk; omega)) | (refine Ex.trans ?_ (by assumption)))) hxr) (IntsK.ex (by repeat (first | exact Ex.refl _ | assumption | (refine Ex.of_grown ?_ (by assumption) (by intro k hk; cases hk; omega)) | (refine Ex.trans ?_ (by assumption)))) hp3)) rfl ?_)
      | (refine WM_callv (fun wq he => works_any wq) rfl ?_)
      | (refine W_callv (works_any _) rfl (fun wq he => ?_); have hsz := he.size)
      | (with_reducible apply W_nil)
      | (with_reducible apply WM_nil; intro wq he; have hsz := he.size)
      | (with_reducible apply WB_nil)
      | (with_reducible apply WT_nil)
      | (with_reducible apply WT_cons)
      | (with_reducible apply t_sink)
      | ((with_reducible apply W_box); exact rfl; exact rfl; intro bq wq hbq he hnq; have hltq := Bx.lt hbq; have hsz := he.size)
      | ((with_reducible apply W_alloc); exact rfl; intro bq wq hbq he hnq; have hltq := Bx.lt hbq; have hsz := he.size)
      | ((with_reducible apply W_storeA); exact rfl; (focus ((repeat (first | assumption | ((with_reducible apply Bx.grownS); assumption; (first | omega | exact Bx.ne (by assumption) (by omega))) | ((with_reducible apply Bx.below); assumption; omega) | ((with_reducible apply Bx.ex); assumption))); done)); exact rfl; exact rfl; exact rfl; (repeat' (first | exact trivial | (first | exact rfl | assumption | exact IntsK.one (by assumption) | exact Prs.one (by assumption) | exact Own.one (by assumption) | exact Row.one (by assumption) | exact OwnR.one (by assumption)) | constructor)); intro wq hbq hgq; have he : Ex w wq := (by repeat (first | assumption | exact Ex.refl _ | (refine Ex.trans ?_ (by assumption)) | (refine Ex.of_grown ?_ (by assumption) (by intro k hk; cases hk; omega)))); have hsz := he.size; have hgz := hgq.size)
      | ((with_reducible apply W_pass); exact rfl; exact rfl; exact rfl; exact rfl; exact rfl)
      | ((with_reducible apply W_take); exact rfl; exact rfl; exact rfl)
      | ((with_reducible apply WM_take); exact rfl; exact rfl; exact rfl)
      | (with_reducible apply c_seq)
      | (with_reducible apply c_region)
      | (with_reducible apply c_skip)
      | (with_reducible apply c_ret)
      | ((with_reducible apply c_cond_true); exact rfl)
      | (with_reducible apply n_then)
      | (with_reducible apply r_then)
      | ((with_reducible apply p_ret1); exact rfl; ((conv => lhs; whnf) <;> exact rfl); refine ⟨_, rfl, ?_, (by repeat (first | assumption | exact Ex.refl _ | (refine Ex.trans ?_ (by assumption)) | (refine Ex.of_grown ?_ (by assumption) (by intro k hk; cases hk; omega))))⟩))
  all_goals first | rfl | skip
end Go.Proofs.Ytbmjigneekodnaa

