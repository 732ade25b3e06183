/-
  What this text proves: what shares restore, how many polynomials there are and which secrets are possible, as plain functions. It speaks of plain functions.
-/
import Derived.Test.YtngoipmdhliigaaVKx
set_option linter.unusedVariables false
set_option linter.unusedSimpArgs false
namespace Go.Pv
open Go.RowKit
theorem okS.v {sh : List (Int × Int)} (h : okS sh) (i : Nat) : 0 ≤ (sh.getD i (0, 0)).2 ∧ (sh.getD i (0, 0)).2 < 251 := by
  have := (h i).2; unfold nb at this; omega
/-- The value reckoned from the first shares is that of the polynomial through them. -/
theorem lgS_rest {sh : List (Int × Int)} {m : Nat} (hd : Dist (kS sh)) (hm : 1 ≤ m) (hl : m ≤ sh.length) : lgS sh m = atP (restL m sh) := by
  funext x
  have hdt : Dist (kS (sh.take m)) := by rw [kS_take]; exact hd.take m
  exact lag_newton hdt (by rw [kS_len]; simp; omega) x
theorem agree_few {sh : List (Int × Int)} {need : Nat} (hs : okS sh) (hd : Dist (kS sh)) (h : sh.length ≤ need) : agreeP need sh := by
  unfold agreeP
  rw [Nat.min_eq_right h, off_nil]
  intro i hi
  have h0 : 0 < sh.length := by omega
  rw [lgS_rest hd h0 (Nat.le_refl _)]
  unfold restL
  rw [List.take_length]
  have := newton_ok (vs := vS sh) hd (t := i) (by rw [kS_len]; exact hi)
  rw [kS_get, vS_get] at this
  exact ((atP_cg _ _).trans this).eq (md_bd _) (hs.v i)
theorem agree_many {sh : List (Int × Int)} {need : Nat} (hd : Dist (kS sh)) (h1 : 1 ≤ need) (h : need ≤ sh.length) : agreeP need sh ↔ offTo (atP (restL need sh)) sh sh.length = [] := by
  unfold agreeP
  rw [Nat.min_eq_left h, lgS_rest hd h1 h]
theorem rest_nb (m : Nat) (sh : List (Int × Int)) : nbL (restL m sh) := by unfold restL newtonL; exact nsm_nb _ _ _
theorem rest_len {m : Nat} {sh : List (Int × Int)} (h1 : 1 ≤ m) (h : m ≤ sh.length) : (restL m sh).length = m := by
  unfold restL
  have hl : (kS (sh.take m)).length = m := by rw [kS_len]; simp; omega
  rw [newton_len _ _ (by omega), hl]
theorem at_zero {l : List Int} (h : nbL l) : atP l 0 = l.getD 0 0 := by
  have := h 0
  unfold nb at this
  unfold atP
  cases l with
  | nil => simp [evP]
  | cons a r => simp only [evP, Int.zero_mul, Int.add_zero, List.getD_cons_zero] at *; omega
theorem lgS_zero {sh : List (Int × Int)} {m : Nat} (hd : Dist (kS sh)) (hm : 1 ≤ m) (hl : m ≤ sh.length) : lgS sh m 0 = (restL m sh).getD 0 0 := by
  rw [lgS_rest hd hm hl, at_zero (rest_nb m sh)]
def mnN (k : Nat) : Int := min (powN 251 k) 4503599627370496
theorem powN_pos : ∀ k, 1 ≤ powN 251 k
  | 0 => by decide
  | k + 1 => by have := powN_pos k; simp only [powN]; omega
theorem mnN_bd (k : Nat) : 1 ≤ mnN k ∧ mnN k ≤ 4503599627370496 := by have := powN_pos k; unfold mnN; omega
theorem mnN_next (k : Nat) : min (mnN k * 251) 4503599627370496 = mnN (k + 1) := by
  have := powN_pos k
  unfold mnN
  simp only [powN]
  omega
/-- The secrets below k that are possible. -/
def poT (m : Nat) (sh : List (Int × Int)) : Nat → List Int
  | 0 => []
  | k + 1 => if 0 < cntN m sh k then poT m sh k ++ [(k : Int)] else poT m sh k
theorem poT_len (m : Nat) (sh : List (Int × Int)) : ∀ k, (poT m sh k).length ≤ k
  | 0 => by simp [poT]
  | k + 1 => by
    have := poT_len m sh k
    simp only [poT]
    split
    · simp; omega
    · omega
theorem poT_yes {m : Nat} {sh : List (Int × Int)} {k : Nat} (h : 0 < cntN m sh k) : poT m sh (k + 1) = poT m sh k ++ [(k : Int)] := by simp only [poT]; rw [if_pos h]
theorem poT_no {m : Nat} {sh : List (Int × Int)} {k : Nat} (h : ¬ 0 < cntN m sh k) : poT m sh (k + 1) = poT m sh k := by simp only [poT]; rw [if_neg h]
theorem poT_all {m : Nat} {sh : List (Int × Int)} (h : sh.length < m) : ∀ k, poT m sh k = upN k
  | 0 => rfl
  | k + 1 => by
    have hc : 0 < cntN m sh k := by
      unfold cntN; rw [if_pos h]
      have := (mnN_bd (m - sh.length - 1)).1
      unfold mnN at this; omega
    rw [poT_yes hc, poT_all h k, upN_next]
theorem poT_one {m : Nat} {sh : List (Int × Int)} (h : ¬ sh.length < m) (ha : agreeP m sh) (hx : 0 ≤ lgS sh m 0) : ∀ k : Nat, poT m sh k = if lgS sh m 0 < k then [lgS sh m 0] else []
  | 0 => by rw [if_neg (by omega)]; rfl
  | k + 1 => by
    have ih := poT_one h ha hx k
    by_cases e : lgS sh m 0 = k
    · have hc : 0 < cntN m sh k := by unfold cntN; rw [if_neg h, if_pos ⟨ha, e⟩]; decide
      rw [poT_yes hc, ih, if_neg (by omega), if_pos (by omega), e]; rfl
    · have hc : ¬ 0 < cntN m sh k := by unfold cntN; rw [if_neg h, if_neg fun hh => e hh.2]; decide
      rw [poT_no hc, ih]
      by_cases h2 : lgS sh m 0 < k
      · rw [if_pos h2, if_pos (by omega)]
      · rw [if_neg h2, if_neg (by omega)]
theorem poT_none {m : Nat} {sh : List (Int × Int)} (h : ¬ sh.length < m) (ha : ¬ agreeP m sh) : ∀ k : Nat, poT m sh k = []
  | 0 => rfl
  | k + 1 => by
    have hc : ¬ 0 < cntN m sh k := by unfold cntN; rw [if_neg h, if_neg fun hh => ha hh.1]; decide
    rw [poT_no hc, poT_none h ha k]
theorem poT_poss {m : Nat} {sh : List (Int × Int)} (hd : Dist (kS sh)) (hm : 1 ≤ m) : poT m sh 251 = possL m sh := by
  unfold possL
  by_cases h : sh.length < m
  · rw [if_pos h, poT_all h]; rfl
  · rw [if_neg h]
    have hz : 0 ≤ lgS sh m 0 ∧ lgS sh m 0 < 251 := by rw [lgS_rest hd hm (by omega)]; exact md_bd _
    by_cases ha : agreeP m sh
    · rw [if_pos ha, poT_one h ha hz.1, if_pos (by omega)]
    · rw [if_neg ha, poT_none h ha]
theorem cnt_nn (m : Nat) (sh : List (Int × Int)) (s : Int) : 0 ≤ cntN m sh s ∧ cntN m sh s ≤ 4503599627370496 := by
  unfold cntN
  split
  · have := mnN_bd (m - sh.length - 1); unfold mnN at this; omega
  · split <;> decide
end Go.Pv
