/-
  What this text proves: how many polynomials of one or two coefficients go through shares, counted one by one, is as is stated. It speaks of plain functions.
-/
import Derived.Test.YtngoipmdhliigaaVHj
set_option linter.unusedVariables false
set_option linter.unusedSimpArgs false
namespace Go.Pv
open Go.RowKit
/-- Whether shares lie on a line. -/
def fitN (S : List (Int × Int)) (a b : Int) (k : Nat) : Bool := (S.take k).all fun x => decide ((a + b * x.1) % 251 = x.2)
theorem fitN_next {S : List (Int × Int)} {a b : Int} {k : Nat} (h : k < S.length) : fitN S a b (k + 1) = (fitN S a b k && decide ((a + b * (S.getD k (0, 0)).1) % 251 = (S.getD k (0, 0)).2)) := by
  unfold fitN
  have e : S.getD k (0, 0) = S[k] := by simp [h]
  rw [List.take_succ_eq_append_getElem h, List.all_append, e]
  simp
def fitA (S : List (Int × Int)) (a b : Int) : Bool := fitN S a b S.length
theorem fitA_iff {S : List (Int × Int)} {a b : Int} : fitA S a b = true ↔ ∀ x ∈ S, (a + b * x.1) % 251 = x.2 := by
  unfold fitA fitN
  rw [List.take_length, List.all_eq_true]
  simp
/-- How many lines through shares there are, of the first n slopes. -/
def cntB (S : List (Int × Int)) (a : Int) : Nat → Int
  | 0 => 0
  | n + 1 => if fitA S a (n : Int) = true then cntB S a n + 1 else cntB S a n
theorem cntB_bd (S : List (Int × Int)) (a : Int) : ∀ n, 0 ≤ cntB S a n ∧ cntB S a n ≤ n
  | 0 => by simp [cntB]
  | n + 1 => by
    have := cntB_bd S a n
    simp only [cntB]
    split <;> omega
theorem cntB_none {S : List (Int × Int)} {a : Int} : ∀ n : Nat, (∀ b : Nat, b < n → fitA S a b = false) → cntB S a n = 0
  | 0, _ => rfl
  | n + 1, h => by
    simp only [cntB]
    rw [if_neg (by rw [h n (by omega)]; decide)]
    exact cntB_none n fun b hb => h b (by omega)
theorem cntB_all {S : List (Int × Int)} {a : Int} : ∀ n : Nat, (∀ b : Nat, b < n → fitA S a b = true) → cntB S a n = n
  | 0, _ => rfl
  | n + 1, h => by
    simp only [cntB]
    rw [if_pos (h n (by omega)), cntB_all n fun b hb => h b (by omega)]
    omega
theorem cntB_one {S : List (Int × Int)} {a : Int} {b0 : Nat} : ∀ n : Nat, b0 < n → fitA S a b0 = true → (∀ b : Nat, b < n → b ≠ b0 → fitA S a b = false) → cntB S a n = 1
  | 0, h, _, _ => absurd h (by omega)
  | n + 1, h, hy, hn => by
    simp only [cntB]
    by_cases e : b0 = n
    · subst e
      rw [if_pos hy, cntB_none b0 fun b hb => hn b (by omega) (by omega)]; rfl
    · rw [if_neg (by rw [hn n (by omega) (fun x => e x.symm)]; decide)]
      exact cntB_one n (by omega) hy fun b hb hne => hn b (by omega) hne
/-- How many polynomials go through as many shares or more. -/
theorem cnt_iff {S : List (Int × Int)} {m : Nat} {a : Int} (h : ShOk S) (hm : 1 ≤ m) (hl : m ≤ S.length) : (agreeP m S ∧ lgS S m 0 = a) ↔ ∃ P : List Int, P.length = m ∧ nbL P ∧ (∀ x ∈ S, atP P x.1 = x.2) ∧ P.getD 0 0 = a := by
  constructor
  · rintro ⟨ha, hz⟩
    refine ⟨restL m S, rest_len hm hl, rest_nb _ _, mem_iff_get.2 (agree_inv h.dist hm hl ha), ?_⟩
    rw [← lgS_zero h.dist hm hl]; exact hz
  · rintro ⟨P, a1, a2, a3, a4⟩
    refine ⟨(agree_iff h hm).2 ⟨P, a1, a2, a3⟩, ?_⟩
    rw [lgS_zero h.dist hm hl, rest_mem h hm hl a1 a2 a3, a4]
theorem at_one (a x : Int) : atP [a] x = a % 251 := by unfold atP; simp [evP]
theorem at_two (a b x : Int) : atP [a, b] x = (a + b * x) % 251 := by unfold atP; simp [evP, Int.mul_comm]
theorem nb_one {a : Int} (h : nb a) : nbL [a] := fun i => by
  cases i with
  | zero => exact h
  | succ i => simp [nb]
theorem nb_two {a b : Int} (h : nb a) (h2 : nb b) : nbL [a, b] := fun i => by
  cases i with
  | zero => exact h
  | succ i => cases i with
    | zero => exact h2
    | succ i => simp [nb]
theorem line_uniq {a b c k v : Int} (hk : 1 ≤ k ∧ k ≤ 20) (hb : nb b) (hc : nb c) (h1 : (a + b * k) % 251 = v) (h2 : (a + c * k) % 251 = v) : b = c := by
  have e : Cg (a + b * k) (a + c * k) := by unfold Cg; rw [h1, h2]
  have e2 : Cg (k * (b - c)) 0 := by
    have := Cg.sub e (Cg.refl (a + c * k))
    have e3 : a + b * k - (a + c * k) = k * (b - c) := by rw [Int.mul_sub, Int.mul_comm k b, Int.mul_comm k c]; omega
    rw [e3] at this
    simpa using this
  have hkn : ¬ Cg k 0 := by unfold Cg; omega
  have e3 := cg_cancel hkn e2
  have e4 := Cg.add e3 (Cg.refl c)
  have e5 : b - c + c = b := by omega
  rw [e5] at e4
  have e6 : Cg b c := by simpa using e4
  exact e6.eq (nb_lt hb) (nb_lt hc)
theorem cnt_one {S : List (Int × Int)} {a : Int} (h : ShOk S) (ha : nb a) : cntB S a 1 = cntN 1 S a := by
  have hf : fitA S a ((0 : Nat) : Int) = true ↔ ∀ x ∈ S, a = x.2 := by
    rw [fitA_iff]
    unfold nb at ha
    constructor
    · intro hh x hx; have := hh x hx; rw [show ((0 : Nat) : Int) * x.1 = 0 by simp] at this; omega
    · intro hh x hx; have := hh x hx; rw [show ((0 : Nat) : Int) * x.1 = 0 by simp]; omega
  unfold cntN
  by_cases hl : S.length < 1
  · have : S = [] := List.eq_nil_of_length_eq_zero (by omega)
    subst this
    rfl
  · rw [if_neg hl]
    have hi := cnt_iff (a := a) h (Nat.le_refl 1) (by omega)
    have hq : (∃ P : List Int, P.length = 1 ∧ nbL P ∧ (∀ x ∈ S, atP P x.1 = x.2) ∧ P.getD 0 0 = a) ↔ ∀ x ∈ S, a = x.2 := by
      constructor
      · rintro ⟨P, h1, h2, h3, h4⟩ x hx
        obtain ⟨p, rfl⟩ := List.length_eq_one_iff.1 h1
        simp at h4; subst h4
        have := h3 x hx
        rw [at_one] at this
        unfold nb at ha; omega
      · intro hh
        exact ⟨[a], rfl, nb_one ha, fun x hx => by rw [at_one, ← hh x hx]; unfold nb at ha; omega, rfl⟩
    simp only [cntB]
    by_cases hy : fitA S a ((0 : Nat) : Int) = true
    · rw [if_pos hy, if_pos (hi.2 (hq.2 (hf.1 hy)))]; rfl
    · rw [if_neg hy, if_neg fun hh => hy (hf.2 (hq.1 (hi.1 hh)))]
theorem cnt_two {S : List (Int × Int)} {a : Int} (h : ShOk S) (ha : nb a) : cntB S a 251 = cntN 2 S a := by
  by_cases h0 : S = []
  · subst h0
    rw [cntB_all 251 fun b _ => rfl]
    unfold cntN; rfl
  obtain ⟨x0, hx0⟩ : ∃ x, x ∈ S := List.exists_mem_of_ne_nil _ h0
  have hk0 : 1 ≤ x0.1 ∧ x0.1 ≤ 20 := h.1.2 _ (List.mem_map_of_mem hx0)
  have hun : ∀ b c : Nat, b < 251 → c < 251 → fitA S a b = true → fitA S a c = true → b = c := fun b c hb hc h1 h2 => by
    have := line_uniq hk0 (b := (b : Int)) (c := (c : Int)) (by unfold nb; omega) (by unfold nb; omega) (fitA_iff.1 h1 x0 hx0) (fitA_iff.1 h2 x0 hx0)
    omega
  have hone : ∀ b : Nat, b < 251 → fitA S a b = true → cntB S a 251 = 1 := fun b hb hf => cntB_one 251 hb hf fun c hc hne => by
    cases hh : fitA S a c
    · rfl
    · exact absurd (hun c b hc hb hh hf) hne
  have hno : (∀ b : Nat, b < 251 → ¬ fitA S a b = true) → cntB S a 251 = 0 := fun hh => cntB_none 251 fun b hb => by
    cases h2 : fitA S a b
    · rfl
    · exact absurd h2 (hh b hb)
  unfold cntN
  by_cases hl : S.length < 2
  · rw [if_pos hl]
    have hl1 : S.length = 1 := by
      have : 0 < S.length := List.length_pos_of_mem hx0
      omega
    obtain ⟨y, rfl⟩ := List.length_eq_one_iff.1 hl1
    simp at hx0; subst hx0
    have hv := h.2 0
    simp at hv
    -- the slope
    obtain ⟨b, hb⟩ : ∃ b, b = (x0.2 - a) * invN x0.1 % 251 := ⟨_, rfl⟩
    have hbb := md_bd ((x0.2 - a) * invN x0.1)
    rw [← hb] at hbb
    have hfit : fitA [x0] a ((b.toNat : Nat) : Int) = true := by
      rw [fitA_iff]
      intro x hx
      simp at hx; subst hx
      rw [Int.toNat_of_nonneg hbb.1]
      have e1 : Cg (b * x.1) ((x.2 - a) * (invN x.1 * x.1)) := by
        rw [hb, ← Int.mul_assoc]; exact Cg.mul (Cg.md _) (Cg.refl _)
      have e2 := e1.trans (Cg.mul (Cg.refl _) (inv_ok (n := x.1) (by omega)).1)
      have e3 := Cg.add (Cg.refl a) e2
      have e4 : a + (x.2 - a) * 1 = x.2 := by omega
      rw [e4] at e3
      unfold Cg at e3
      omega
    rw [hone b.toNat (by omega) hfit]; rfl
  · rw [if_neg hl]
    have hi := cnt_iff (a := a) h (show 1 ≤ 2 by omega) (by omega)
    by_cases hy : agreeP 2 S ∧ lgS S 2 0 = a
    · rw [if_pos hy]
      obtain ⟨P, h1, h2, h3, h4⟩ := hi.1 hy
      obtain ⟨p, q, rfl⟩ : ∃ p q, P = [p, q] := by
        match P, h1 with
        | [p, q], _ => exact ⟨p, q, rfl⟩
      simp at h4; subst h4
      have hq := h2 1
      simp [nb] at hq
      have hf : fitA S p ((q.toNat : Nat) : Int) = true := by
        rw [fitA_iff]
        intro x hx
        rw [Int.toNat_of_nonneg hq.1, ← at_two]
        exact h3 x hx
      exact hone q.toNat (by omega) hf
    · rw [if_neg hy]
      refine hno fun b hb hf => hy (hi.2 ⟨[a, (b : Int)], rfl, nb_two ha (by unfold nb; omega), fun x hx => ?_, rfl⟩)
      rw [at_two]; exact fitA_iff.1 hf x hx
/-- With one coefficient there is one slope, with two there are 251. -/
theorem cnt_blind {S : List (Int × Int)} {a : Int} {m : Nat} (h : ShOk S) (ha : nb a) (hm : m = 1 ∨ m = 2) : cntB S a (if m = 2 then 251 else 1) = cntN m S a := by
  rcases hm with rfl | rfl
  · exact cnt_one h ha
  · exact cnt_two h ha
end Go.Pv
