/-
  (rows) What this text proves: how the reference divides a coding; its error of a division; one step of its Divide. Conditions: the codes are a row and as stated, the starts are in order.
-/
import Derived.Laws.AppendOwnNone
import Derived.Test.YtbmjigneekodnaaVLx
import Derived.Test.YtbmjigneekodnaaVQ1
import Derived.Test.YtbmjigneekodnaaMml
set_option linter.unusedVariables false
set_option linter.unusedSimpArgs false

namespace Go.Pv
/-- Starts in ascending order, the first one 0, all before t. -/
def Asc (S : List Int) (t : Nat) : Prop := 1 ≤ S.length ∧ S.getD 0 0 = 0 ∧ (∀ i j, i < j → j < S.length → S.getD i 0 < S.getD j 0) ∧ ∀ i, i < S.length → 0 ≤ S.getD i 0 ∧ S.getD i 0 < t
theorem asc_more {S : List Int} {s t : Nat} (h : Asc S s) (hs : s < t) : Asc (S ++ [(s : Int)]) t := by
  obtain ⟨h1, h2, h3, h4⟩ := h
  have e1 : ∀ i, i < S.length → (S ++ [(s : Int)]).getD i 0 = S.getD i 0 := fun i hi => by
    simp only [List.getD, List.getElem?_append_left hi]
  have e2 : (S ++ [(s : Int)]).getD S.length 0 = s := by simp [List.getD]
  refine ⟨by simp, by rw [e1 0 (by omega)]; exact h2, fun i j hij hj => ?_, fun i hi => ?_⟩
  · have hj' : j ≤ S.length := by simp at hj; omega
    by_cases e : j = S.length
    · subst e
      rw [e2, e1 i hij]
      exact (h4 i hij).2
    · rw [e1 i (by omega), e1 j (by omega)]
      exact h3 i j hij (by omega)
  · have hi' : i ≤ S.length := by simp at hi; omega
    by_cases e : i = S.length
    · subst e
      rw [e2]
      omega
    · rw [e1 i (by omega)]
      have := h4 i (by omega)
      omega
theorem div_asc {l : List T3} (hv : Valid l) {p t : Nat} {S : List Int} {f : Int × Int} (h : DivE l p t S f) : Asc S t := by
  induction h with
  | one h1 h2 h3 => exact ⟨by simp, rfl, fun i j a b => by simp at b; omega, fun i hi => by
      have : i = 0 := by simpa using hi
      subst this
      simp
      omega⟩
  | more h1 h2 h3 h4 ih => exact asc_more ih h2
theorem low_z0 {f : Int × Int} (h0 : f.1 = 0) (h : 1 ≤ f.2) : low f = (0, 1) := by
  have := low_eq (f := f) (g := (0, 1)) h (by simp) (by simp [h0])
  rw [this]
  decide
theorem fLt_low2 {f g : Int × Int} (hf : 1 ≤ f.2) (hg : 1 ≤ g.2) : fLt (low f) (low g) ↔ fLt f g := by
  have a := low_cross hf
  have b := low_cross hg
  have a2 := (low_den hf).1.1
  have b2 := (low_den hg).1.1
  obtain ⟨n, d⟩ := f
  obtain ⟨m, e⟩ := g
  generalize low (n, d) = x at *
  generalize low (m, e) = y at *
  obtain ⟨xn, xd⟩ := x
  obtain ⟨yn, yd⟩ := y
  simp only at *
  unfold fLt
  simp only
  have e1 : xn * yd * (d * e) = (xn * d) * (yd * e) := by ac_rfl
  have e2 : yn * xd * (d * e) = (yn * e) * (xd * d) := by ac_rfl
  have e3 : n * e * (xd * yd) = (n * xd) * (yd * e) := by ac_rfl
  have e4 : m * d * (xd * yd) = (m * yd) * (xd * d) := by ac_rfl
  rw [← a] at e1
  rw [← b] at e2
  have p1 : 0 < d * e := Int.mul_pos (by omega) (by omega)
  have p2 : 0 < xd * yd := Int.mul_pos (by omega) (by omega)
  constructor
  · intro h
    have := Int.mul_lt_mul_of_pos_right h p1
    rw [e1, e2, ← e3, ← e4] at this
    exact Int.lt_of_mul_lt_mul_right this (by omega)
  · intro h
    have := Int.mul_lt_mul_of_pos_right h p2
    rw [e3, e4, ← e1, ← e2] at this
    exact Int.lt_of_mul_lt_mul_right this (by omega)
/-- Where part k ends. -/
def endS (S : List Int) (t k : Nat) : Nat := if k + 1 < S.length then (S.getD (k + 1) 0).toNat else t
theorem end_bd {S : List Int} {t k : Nat} (h : Asc S t) (hk : k < S.length) : (S.getD k 0).toNat < endS S t k ∧ endS S t k ≤ t := by
  have h0 := h.2.2.2 k hk
  unfold endS
  split
  · have h1 := h.2.2.1 k (k + 1) (by omega) (by assumption)
    have h2 := h.2.2.2 (k + 1) (by assumption)
    omega
  · omega
/-- The worst part of the first k ones. -/
def partsTo (l : List T3) (S : List Int) (k : Nat) (x : Int × Int) : Prop := (k = 0 ∧ x = (0, 1)) ∨ (1 ≤ k ∧ ∃ f, DivE l k (endS S l.length (k - 1)) (S.take k) f ∧ x = low f)
theorem parts_next {l : List T3} (hv : Valid l) {S : List Int} {k : Nat} {x h : Int × Int} (hS : Asc S l.length) (hk : k < S.length) (hp : partsTo l S k x) (hb : bestIs (secL l (S.getD k 0).toNat (endS S l.length k)) h) : partsTo l S (k + 1) (if fLt x (low h) then low h else x) := by
  have hbd := end_bd hS hk
  have hsv := valid_sec hv hbd.1 hbd.2
  have hh := best_nn hsv hb
  rcases hp with ⟨rfl, rfl⟩ | ⟨h1, f, h2, rfl⟩
  · have e0 := hS.2.1
    refine Or.inr ⟨by omega, h, ?_, ?_⟩
    · rw [e0] at hb
      have et : S.take (0 + 1) = [0] := by
        cases S with
        | nil => simp at hk
        | cons a r => simp only [List.getD_cons_zero] at e0; subst e0; rfl
      rw [et]
      exact DivE.one (Nat.lt_of_le_of_lt (Nat.zero_le _) hbd.1) hbd.2 hb
    · by_cases c : fLt (0, 1) (low h)
      · rw [if_pos c]
      · rw [if_neg c]
        have hl := low_z0 (f := (0, 1)) rfl (by simp)
        rw [← hl, fLt_low2 (by simp) hh.2] at c
        unfold fLt at c
        simp only at c
        exact (low_z0 (by omega) hh.2).symm
  · have ee : endS S l.length (k - 1) = (S.getD k 0).toNat := by
      unfold endS
      rw [show k - 1 + 1 = k by omega, if_pos hk]
    rw [ee] at h2
    have hf := (DivE.bd hv h2).2.2
    have h0 := hS.2.2.2 k hk
    refine Or.inr ⟨by omega, fMax f h, ?_, ?_⟩
    · have := DivE.more h2 hbd.1 hbd.2 hb
      rw [show k + 1 - 1 = k by omega]
      have et : S.take (k + 1) = S.take k ++ [((S.getD k 0).toNat : Int)] := by
        rw [List.take_add_one, show S[k]? = some (S.getD k 0) by simp [List.getD, hk]]
        simp only [Option.toList]
        rw [show ((S.getD k 0).toNat : Int) = S.getD k 0 by omega]
      rw [et]
      exact this
    · unfold fMax
      by_cases c : fLt f h
      · rw [if_pos c, if_pos ((fLt_low2 hf.2.1 hh.2).2 c)]
      · rw [if_neg c, if_neg (fun c2 => c ((fLt_low2 hf.2.1 hh.2).1 c2))]
theorem parts_end {l : List T3} {S : List Int} {x : Int × Int} (hS : 1 ≤ S.length) (hp : partsTo l S S.length x) : ∃ f, DivE l S.length l.length S f ∧ x = low f := by
  rcases hp with ⟨h, _⟩ | ⟨h1, f, h2, rfl⟩
  · omega
  · refine ⟨f, ?_, rfl⟩
    unfold endS at h2
    rw [if_neg (by omega), List.take_length] at h2
    exact h2
theorem low_same {l : List T3} (hv : Valid l) {p t : Nat} {S S' : List Int} {f g : Int × Int} (h1 : DivE l p t S f) (h2 : DivE l p t S' g) (h : ¬ fLt f g) (h' : ¬ fLt g f) : low f = low g := by
  unfold fLt at h h'
  exact low_eq (DivE.bd hv h1).2.2.2.1 (DivE.bd hv h2).2.2.2.1 (by omega)
theorem best_of {l : List T3} (hv : Valid l) : ∀ L : List (Nat × Nat × Nat), L ≠ [] → (∀ p ∈ L, isProof l.length p) → ∃ p, p ∈ L ∧ ∀ q ∈ L, ¬ fLt (prvL l p) (prvL l q)
  | [], h, _ => absurd rfl h
  | [a], _, _ => ⟨a, by simp, fun q hq => by
      have : q = a := by simpa using hq
      subst this
      exact fLt_irr _⟩
  | a :: b :: r, _, h => by
    obtain ⟨p, hp, hall⟩ := best_of hv (b :: r) (by simp) (fun p hp => h p (List.mem_cons_of_mem _ hp))
    have oa := prv_ok hv (h a (by simp))
    have op := prv_ok hv (h p (List.mem_cons_of_mem _ hp))
    by_cases c : fLt (prvL l p) (prvL l a)
    · refine ⟨a, by simp, fun q hq => ?_⟩
      rcases List.mem_cons.1 hq with rfl | hq
      · exact fLt_irr _
      · have oq := prv_ok hv (h q (List.mem_cons_of_mem _ hq))
        exact fLt_trans2 oa.2.1 op.2.1 oq.2.1 (by unfold fLt at *; omega) (hall q hq)
    · refine ⟨p, List.mem_cons_of_mem _ hp, fun q hq => ?_⟩
      rcases List.mem_cons.1 hq with rfl | hq
      · exact c
      · exact hall q hq
theorem best_ex {l : List T3} (hv : Valid l) : ∃ f, bestIs l f := by
  classical
  have hl := hv.1.1
  obtain ⟨n, hn⟩ : ∃ n, n = l.length := ⟨_, rfl⟩
  obtain ⟨p, hp, hall⟩ := best_of hv (((List.range n).flatMap fun i => (List.range n).flatMap fun j => (List.range n).map fun k => (i, j, k)).filter fun p => decide (isProof n p)) (by
    intro e
    have : (0, 0, 0) ∈ ((List.range n).flatMap fun i => (List.range n).flatMap fun j => (List.range n).map fun k => (i, j, k)).filter fun p => decide (isProof n p) := by
      simp only [List.mem_filter, List.mem_flatMap, List.mem_map, List.mem_range, decide_eq_true_eq]
      exact ⟨⟨0, by omega, 0, by omega, 0, by omega, rfl⟩, Or.inl ⟨rfl, rfl, by simp only; omega⟩⟩
    rw [e] at this
    simp at this) (by
    intro p hp
    have := (List.mem_filter.1 hp).2
    rw [← hn]
    exact of_decide_eq_true this)
  refine ⟨prvL l p, ⟨p, ?_, rfl⟩, fun q hq => hall q ?_⟩
  · have := (List.mem_filter.1 hp).2
    rw [← hn]
    exact of_decide_eq_true this
  · rw [← hn] at hq
    obtain ⟨i, j, k⟩ := q
    simp only [List.mem_filter, List.mem_flatMap, List.mem_map, List.mem_range, decide_eq_true_eq]
    refine ⟨?_, hq⟩
    unfold isProof at hq
    simp only at hq
    exact ⟨i, by omega, j, by omega, k, by omega, rfl⟩
theorem end_yesR {S : List Int} {t k : Nat} (h : Asc S t) (hk : k + 1 < S.length) : S.getD (k + 1) 0 = (endS S t k : Int) := by
  have := h.2.2.2 (k + 1) hk
  unfold endS
  rw [if_pos hk]
  omega
theorem end_noR {S : List Int} {t k : Nat} (hk : ¬ k + 1 < S.length) : (t : Int) = (endS S t k : Int) := by
  unfold endS
  rw [if_neg hk]
/-- The best errors of all sections, and of all beginnings among p players. -/
theorem sec_H {l : List T3} (hv : Valid l) : ∃ H : Nat → Nat → Int × Int, ∀ s t, s < t → t ≤ l.length → bestIs (secL l s t) (H s t) := by
  classical
  refine ⟨fun s t => if h : s < t ∧ t ≤ l.length then Classical.choose (best_ex (valid_sec hv h.1 h.2)) else (0, 1), fun s t h1 h2 => ?_⟩
  simp only [h1, h2, and_self, dite_true]
  exact Classical.choose_spec (best_ex (valid_sec hv h1 h2))
def worstOk (l : List T3) (p : Nat) (ys : List (Int × Int)) : Prop := ys.length = l.length + 1 ∧ (1 ≤ p → ∀ e, p ≤ e → e ≤ l.length → ∃ q : List Int × (Int × Int), bestDiv l p e q.1 q.2 ∧ ys.getD e (0, 0) = low q.2)
theorem worst_W {l : List T3} {p : Nat} {ys : List (Int × Int)} (h : worstOk l p ys) : ∃ W : Nat → List Int × (Int × Int), 1 ≤ p → ∀ e, p ≤ e → e ≤ l.length → bestDiv l p e (W e).1 (W e).2 ∧ ys.getD e (0, 0) = low (W e).2 := by
  classical
  refine ⟨fun e => if h' : 1 ≤ p ∧ p ≤ e ∧ e ≤ l.length then Classical.choose (h.2 h'.1 e h'.2.1 h'.2.2) else ([], (0, 1)), fun h1 e h2 h3 => ?_⟩
  simp only [h1, h2, h3, and_self, dite_true]
  exact Classical.choose_spec (h.2 h1 e h2 h3)
def nextOk (l : List T3) (n e : Nat) (zs : List (Int × Int)) : Prop := zs.length = l.length + 1 ∧ (∀ e', n ≤ e' → e' < e → ∃ q : List Int × (Int × Int), bestDiv l n e' q.1 q.2 ∧ zs.getD e' (0, 0) = low q.2) ∧ ∀ e', e ≤ e' → zs.getD e' (0, 0) = (0, 0)
theorem next_start {l : List T3} {n : Nat} : nextOk l n n (List.replicate (l.length + 1) (0, 0)) := by
  refine ⟨by simp, fun e' h1 h2 => by omega, fun e' _ => ?_⟩
  simp only [List.getD, List.getElem?_replicate]
  split <;> rfl
theorem next_step {l : List T3} {n e : Nat} {zs : List (Int × Int)} {z : Int × Int} (h : nextOk l n e zs) (he : e ≤ l.length) (hz : ∃ q : List Int × (Int × Int), bestDiv l n e q.1 q.2 ∧ z = low q.2) : nextOk l n (e + 1) (zs.set e z) := by
  obtain ⟨h0, h1, h2⟩ := h
  have hlt : e < zs.length := by omega
  have hs : (zs.set e z).getD e (0, 0) = z := by simp [List.getD, hlt]
  have ho : ∀ e', e ≠ e' → (zs.set e z).getD e' (0, 0) = zs.getD e' (0, 0) := fun e' hn => by simp only [List.getD, List.getElem?_set_ne hn]
  refine ⟨by simpa using h0, fun e' k1 k2 => ?_, fun e' k1 => ?_⟩
  · by_cases c : e' = e
    · subst c; rw [hs]; exact hz
    · rw [ho e' (by omega)]; exact h1 e' k1 (by omega)
  · rw [ho e' (by omega)]; exact h2 e' (by omega)
theorem next_end {l : List T3} {n e : Nat} {zs : List (Int × Int)} (h : nextOk l n e zs) (he : l.length < e) : worstOk l n zs :=
  ⟨h.1, fun _ e' k1 k2 => h.2.1 e' k1 (by omega)⟩
theorem set_zeroR {zs : List (Int × Int)} {e : Nat} (h : zs.getD e (0, 0) = (0, 0)) (he : e < zs.length) : zs.set e (0, 0) = zs := by
  have : zs[e] = (0, 0) := by simpa [List.getD, he] using h
  rw [← this]
  exact List.set_getElem_self he
/-- The best one of the last starts before a. -/
def curAt (p : Nat) (W : Nat → List Int × (Int × Int)) (H : Nat → Nat → Int × Int) (e a : Nat) (z : Int × Int) : Prop :=
  (z = (0, 0) ∧ a = p) ∨ (p < a ∧ ((p = 0 ∧ z = low (H 0 e)) ∨ (1 ≤ p ∧ ∃ s, p ≤ s ∧ s < a ∧ z = low (fMax (W s).2 (H s e)) ∧ ∀ r, p ≤ r → r < a → ¬ fLt (fMax (W r).2 (H r e)) (fMax (W s).2 (H s e)))))
def candV (p : Nat) (W : Nat → List Int × (Int × Int)) (H : Nat → Nat → Int × Int) (e a : Nat) : Int × Int := if p = 0 then H 0 e else fMax (W a).2 (H a e)
theorem cur_start {p e : Nat} {W : Nat → List Int × (Int × Int)} {H : Nat → Nat → Int × Int} : curAt p W H e p (0, 0) := Or.inl ⟨rfl, rfl⟩
theorem cur_skip {p e a : Nat} {W : Nat → List Int × (Int × Int)} {H : Nat → Nat → Int × Int} {z : Int × Int} (h : curAt p W H e a z) (hp : p = 0) (ha : 1 ≤ a) : curAt p W H e (a + 1) z := by
  rcases h with ⟨_, h⟩ | ⟨_, h | ⟨h, _⟩⟩
  · omega
  · exact Or.inr ⟨by omega, Or.inl h⟩
  · omega
theorem cur_first {p e a : Nat} {W : Nat → List Int × (Int × Int)} {H : Nat → Nat → Int × Int} {z : Int × Int} (h : curAt p W H e a z) (ha : a = p) : curAt p W H e (a + 1) (low (candV p W H e a)) := by
  subst ha
  unfold candV
  refine Or.inr ⟨by omega, ?_⟩
  by_cases c : a = 0
  · rw [if_pos c]; exact Or.inl ⟨c, rfl⟩
  · rw [if_neg c]
    exact Or.inr ⟨by omega, a, Nat.le_refl _, by omega, rfl, fun r h1 h2 => by
      obtain rfl : r = a := by omega
      exact fLt_irr _⟩
theorem cur_step {l : List T3} (hv : Valid l) {p e a : Nat} {W : Nat → List Int × (Int × Int)} {H : Nat → Nat → Int × Int} {z : Int × Int} (h : curAt p W H e a z) (hH : ∀ s t, s < t → t ≤ l.length → bestIs (secL l s t) (H s t)) (hW : 1 ≤ p → ∀ e, p ≤ e → e ≤ l.length → bestDiv l p e (W e).1 (W e).2) (hp : p < a) (hp0 : 1 ≤ p) (hae : a < e) (he : e ≤ l.length) :
    curAt p W H e (a + 1) (if fLt (low (candV p W H e a)) z then low (candV p W H e a) else z) := by
  have ok : ∀ r, p ≤ r → r ≤ a → fOk (fMax (W r).2 (H r e)) := fun r h1 h2 => fMax_ok (DivE.bd hv (hW hp0 r h1 (by omega)).1).2.2 (best_ok (valid_sec hv (by omega) he) (hH r e (by omega) he))
  have e1 : candV p W H e a = fMax (W a).2 (H a e) := by unfold candV; rw [if_neg (by omega)]
  rw [e1]
  rcases h with ⟨_, h⟩ | ⟨_, ⟨h, _⟩ | ⟨_, s, h1, h2, rfl, h3⟩⟩
  · omega
  · omega
  · have os := ok s h1 (by omega)
    have oa := ok a (by omega) (Nat.le_refl _)
    refine Or.inr ⟨by omega, Or.inr ⟨hp0, ?_⟩⟩
    by_cases c : fLt (low (fMax (W a).2 (H a e))) (low (fMax (W s).2 (H s e)))
    · rw [if_pos c]
      rw [fLt_low2 oa.2.1 os.2.1] at c
      refine ⟨a, by omega, by omega, rfl, fun r k1 k2 => ?_⟩
      by_cases e2 : r = a
      · subst e2; exact fLt_irr _
      · exact fLt_trans2 (ok r k1 (by omega)).2.1 os.2.1 oa.2.1 (h3 r k1 (by omega)) (by unfold fLt at *; omega)
    · rw [if_neg c]
      rw [fLt_low2 oa.2.1 os.2.1] at c
      refine ⟨s, h1, by omega, rfl, fun r k1 k2 => ?_⟩
      by_cases e2 : r = a
      · subst e2; exact c
      · exact h3 r k1 (by omega)
theorem cur_end {l : List T3} (hv : Valid l) {p e : Nat} {W : Nat → List Int × (Int × Int)} {H : Nat → Nat → Int × Int} {z : Int × Int} (h : curAt p W H e e z) (hH : ∀ s t, s < t → t ≤ l.length → bestIs (secL l s t) (H s t)) (hW : 1 ≤ p → ∀ e, p ≤ e → e ≤ l.length → bestDiv l p e (W e).1 (W e).2) (hp : p < e) (he : e ≤ l.length) : ∃ q : List Int × (Int × Int), bestDiv l (p + 1) e q.1 q.2 ∧ z = low q.2 := by
  rcases h with ⟨_, h⟩ | ⟨_, ⟨rfl, rfl⟩ | ⟨h0, s, h1, h2, rfl, h3⟩⟩
  · omega
  · exact ⟨([0], H 0 e), div_one (by omega) he (hH 0 e hp he), rfl⟩
  · exact ⟨(_, _), div_step hv he (fun s k1 k2 => hW h0 s k1 (by omega)) (fun s k1 k2 => hH s e k2 he) ⟨h1, h2⟩ h3, rfl⟩
theorem low_fOkR {f : Int × Int} (h : fOk f) : fOk (low f) := by
  have h1 := low_den h.2.1
  have h2 := h1.2 600000000 (by have := h.1; omega)
  exact ⟨by omega, h1.1.1, by have := h.2.2; have := h1.1.2; omega⟩
/-- A current one is known by its Den. -/
theorem cur_den {l : List T3} (hv : Valid l) {p e a : Nat} {W : Nat → List Int × (Int × Int)} {H : Nat → Nat → Int × Int} {z : Int × Int} (h : curAt p W H e a z) (hH : ∀ s t, s < t → t ≤ l.length → bestIs (secL l s t) (H s t)) (hW : 1 ≤ p → ∀ e, p ≤ e → e ≤ l.length → bestDiv l p e (W e).1 (W e).2) (hae : a ≤ e) (hpe : p < e) (he : e ≤ l.length) : (a = p ∧ z = (0, 0)) ∨ (p < a ∧ fOk z) := by
  rcases h with ⟨h1, h2⟩ | ⟨h1, ⟨rfl, rfl⟩ | ⟨h0, s, k1, k2, rfl, _⟩⟩
  · exact Or.inl ⟨h2, h1⟩
  · exact Or.inr ⟨h1, low_fOkR (best_ok (valid_sec hv (by omega) he) (hH 0 e hpe he))⟩
  · exact Or.inr ⟨h1, low_fOkR (fMax_ok (DivE.bd hv (hW h0 s k1 (by omega)).1).2.2 (best_ok (valid_sec hv (by omega) he) (hH s e (by omega) he)))⟩
theorem cand_ok {l : List T3} (hv : Valid l) {p e a : Nat} {W : Nat → List Int × (Int × Int)} {H : Nat → Nat → Int × Int} (hH : ∀ s t, s < t → t ≤ l.length → bestIs (secL l s t) (H s t)) (hW : 1 ≤ p → ∀ e, p ≤ e → e ≤ l.length → bestDiv l p e (W e).1 (W e).2) (hpa : p ≤ a) (hae : a < e) (he : e ≤ l.length) : fOk (low (candV p W H e a)) := by
  unfold candV
  by_cases c : p = 0
  · rw [if_pos c]; exact low_fOkR (best_ok (valid_sec hv (by omega) he) (hH 0 e (by omega) he))
  · rw [if_neg c]; exact low_fOkR (fMax_ok (DivE.bd hv (hW (by omega) a hpa (by omega)).1).2.2 (best_ok (valid_sec hv hae he) (hH a e hae he)))
theorem low_fMax {f g : Int × Int} (hf : 1 ≤ f.2) (hg : 1 ≤ g.2) : (if fLt (low g) (low f) then low f else low g) = low (fMax f g) := by
  unfold fMax
  by_cases c : fLt g f
  · rw [if_pos ((fLt_low2 hg hf).2 c), if_neg (by unfold fLt at *; omega)]
  · rw [if_neg (fun h => c ((fLt_low2 hg hf).1 h))]
    by_cases c2 : fLt f g
    · rw [if_pos c2]
    · rw [if_neg c2]
      exact low_eq hg hf (by unfold fLt at *; omega)
/-- The reference's answer. -/
def rdR (l : List T3) (n : Int) (f : Int × Int) (e : Int) : Prop :=
  (f = (0, 0) ∧ ((cErr l ≠ 0 ∧ e = cErr l) ∨ (cErr l = 0 ∧ ¬ (1 ≤ n ∧ n ≤ l.length) ∧ e = 3))) ∨
  (cErr l = 0 ∧ (1 ≤ n ∧ n ≤ l.length) ∧ e = 0 ∧ ∃ q : List Int × (Int × Int), bestDiv l n.toNat l.length q.1 q.2 ∧ f = low q.2)
end Go.Pv

namespace Go.Pv
theorem parts_ok {l : List T3} (hv : Valid l) {S : List Int} {k : Nat} {x : Int × Int} (h : partsTo l S k x) : fOk x := by
  rcases h with ⟨_, rfl⟩ | ⟨_, f, h1, rfl⟩
  · unfold fOk; decide
  · exact low_fOk (DivE.bd hv h1).2.2
end Go.Pv
namespace Go.Proofs.Ytbmjigneekodnaa
open Go.Pv Go.RowKit
set_option maxHeartbeats 16000000
set_option maxRecDepth 20000

theorem risT (n lo hi : Int) (w : World) (h1 : lo ≤ n) (h2 : n ≤ hi) : Ret Try.prog 43 [.int .i64 n, .int .i64 lo, .int .i64 hi] w fun r _ => r = .bool true := by
  have := ris_any n lo hi w
  rw [decide_eq_true ⟨h1, h2⟩] at this
  exact this
theorem rWorst_any (v vp : Value) (l : List T3) (S : List Int) (n : Nat) (w : World) (h : Row cC 3 w v l) (hp : Ints w vp S) (hv : Valid l) (hA : Asc S l.length) (hn : S.length = n) : Ret Try.prog 23 [v, vp, .int .i64 n] w fun r _ => ∃ f, r = .tuple #[v2 (low f), .bool true] ∧ DivE l n l.length S f := by
  have hl := h.len
  have hv1 := h.one
  have hp1 := hp.one
  have hln := hv.1
  have hS1 := hA.1
  have hl2 := hp.len
  have hS0 := hA.2.1
  have tkK : True := trivial
  refine ret_of_c Try.func23 rfl Try.ntmps23 (Nat.le_of_ble_eq_true rfl) (by dsimp only [ini, Nat.reduceAdd] <;> exact rfl) ?_
  repeat' (first
      | (((with_reducible apply W_split); exact rfl; exact rfl; (all_goals intro _); (all_goals (try (exfalso; (focus (omega; done)))))))
      | (((with_reducible apply c_cond_dec); exact rfl; (all_goals intro _); (all_goals (try (exfalso; (focus (omega; done)))))))
      | ((with_reducible apply W_op); exact rfl; exact rfl; ((with_reducible apply r_lenR (f := cC) (n := 3) (xs := l) (v := v)); exact rfl; exact Row.ex (by repeat (first | exact Ex.refl _ | assumption | (refine Ex.of_grown ?_ (by assumption) (by intro k hk; cases hk; omega)) | (refine Ex.trans ?_ (by assumption)))) h))
      | ((with_reducible apply W_op); exact rfl; exact rfl; ((with_reducible apply r_lenInts (v := vp) (xs := S)); exact rfl; exact IntsK.ex (by repeat (first | exact Ex.refl _ | assumption | (refine Ex.of_grown ?_ (by assumption) (by intro k hk; cases hk; omega)) | (refine Ex.trans ?_ (by assumption)))) hp))
      | (refine W_indexInt (xs := S) (v := vp) (i := 0) rfl (IntsK.ex (by repeat (first | exact Ex.refl _ | assumption | (refine Ex.of_grown ?_ (by assumption) (by intro k hk; cases hk; omega)) | (refine Ex.trans ?_ (by assumption)))) hp) rfl (by omega) ?_; intro pq hpq)
      | (refine W_indexInt (xs := S) (v := vp) (i := k) rfl (IntsK.ex (by repeat (first | exact Ex.refl _ | assumption | (refine Ex.of_grown ?_ (by assumption) (by intro k hk; cases hk; omega)) | (refine Ex.trans ?_ (by assumption)))) hp) rfl (by omega) ?_; intro pq hpq)
      | (refine W_indexInt (xs := S) (v := vp) (i := k + 1) rfl (IntsK.ex (by repeat (first | exact Ex.refl _ | assumption | (refine Ex.of_grown ?_ (by assumption) (by intro k hk; cases hk; omega)) | (refine Ex.trans ?_ (by assumption)))) hp) rfl (by omega) ?_; intro pq hpq)
      | ((with_reducible (show C _ _ _ _ _)); clear tkA; by_cases hkl : k < S.length; (have hab := end_bd hA hkl); (have hk0 := hA.2.2.2 k hkl); (have hl8 := Bx.lt hx8); (have tkB : True := trivial); rotate_left 1; (have hke : k = S.length := (by omega)); subst hke; (obtain ⟨f, hf, hzf⟩ := parts_end hA.1 hpt); subst hzf; rotate_left 1)
      | ((with_reducible (show C _ _ _ _ _)); refine c_cutG (x := .seq (.region 8 _ _) (.cond _ _ _)) (n := 75) (fun ps wr => ∃ (tt : Int), ps = ([(0, v), (1, vp), (6, .pointer (some ⟨b6, 0, none⟩)), (8, .pointer (some ⟨b8, 0, none⟩)), (9, .int .i64 k), (10, .int .i64 tt)] : List (Nat × Value)) ∧ tt = endS S l.length k ∧ Bx wr b8 [.int .i64 z.1, .int .i64 z.2] 24 ∧ Bx wr b6 [.int .i64 0, .int .i64 0] 24 ∧ Ex w wr) (fun JE hJE => ?_) (fun uE psE wE hIE => ?_); rotate_left 1; obtain ⟨tt, rfl, htt, hx8, hx6, he⟩ := hIE; have hsz := he.size; (obtain ⟨c, rfl⟩ : ∃ c : Nat, tt = c := ⟨_, htt⟩); (obtain ⟨a, ha0⟩ : ∃ a : Nat, S.getD k 0 = a := ⟨(S.getD k 0).toNat, by omega⟩); (have ha : (S.getD k 0).toNat = a := by omega); (have hc : endS S l.length k = c := by omega); (have hab2 : a < c ∧ c ≤ l.length := by omega); rotate_left 1)
      | ((with_reducible apply W_op); exact rfl; exact rfl; ((with_reducible apply r_subR (f := cC) (n := 3) (xs := l) (v := v) (i := a) (j := c)); exact rfl; exact Row.ex (by repeat (first | exact Ex.refl _ | assumption | (refine Ex.of_grown ?_ (by assumption) (by intro k hk; cases hk; omega)) | (refine Ex.trans ?_ (by assumption)))) h; exact Eq.trans (b := Value.int .i64 (S.getD k 0)) rfl (congrArg _ ha0); exact rfl; omega; omega))
      | ((with_reducible (show C _ _ _ _ _)); refine c_cutG (x := .region 12 _ _) (n := 75) (fun ps wr => ∃ (b11 : Nat) (y h0 : Int × Int), ps = ([(0, v), (1, vp), (6, .pointer (some ⟨b6, 0, none⟩)), (8, .pointer (some ⟨b8, 0, none⟩)), (9, .int .i64 k), (11, .pointer (some ⟨b11, 0, none⟩))] : List (Nat × Value)) ∧ bestIs (secL l a c) h0 ∧ y = low h0 ∧ Bx wr b8 [.int .i64 z.1, .int .i64 z.2] 24 ∧ Bx wr b6 [.int .i64 0, .int .i64 0] 24 ∧ Bx wr b11 [.int .i64 y.1, .int .i64 y.2] 24 ∧ Ex w wr) (fun JF hJF => ?_) (fun uF psF wF hIF => ?_); rotate_left 1; obtain ⟨b11, y, h0, rfl, hh, hy, hx8, hx6, hx11, he⟩ := hIF; have hsz := he.size; (have hys := low_fOk (best_ok (valid_sec hv hab2.1 hab2.2) hh)); rw [← hy] at hys; (have hzs := parts_ok hv hpt); (have hnx := parts_next hv hA hkl hpt (by rw [ha, hc]; exact hh)); rw [← hy] at hnx; by_cases hlt : fLt z y; rw [if_pos hlt] at hnx; rotate_left 1; rw [if_neg hlt] at hnx; rotate_left 1; rotate_left 2)
      | ((first | ((with_reducible apply W_op); exact rfl; exact rfl)); (first | ((with_reducible apply r_indexArr); exact rfl; exact rfl; omega) | (exact r_indexArr (i := 0) rfl rfl (by decide)) | (exact r_indexArr (i := 1) rfl rfl (by decide)) | (exact r_indexArr (i := 2) rfl rfl (by decide)) | ((with_reducible apply r_move); ((conv => lhs; whnf) <;> exact rfl)) | ((with_reducible apply r_assign); ((conv => lhs; whnf) <;> exact rfl)) | ((with_reducible apply r_load); exact rfl; exact rfl; (first | assumption | exact (Bx.cell (by repeat (first | assumption | ((with_reducible apply Bx.grownS); assumption; (first | omega | exact Bx.ne (by assumption) (by omega))) | ((with_reducible apply Bx.below); assumption; omega) | ((with_reducible apply Bx.ex); assumption))) _).trans rfl | exact Ex.cell (by assumption) (by assumption))) | ((with_reducible apply r_loadF); exact rfl; (first | assumption | exact (Bx.cell (by repeat (first | assumption | ((with_reducible apply Bx.grownS); assumption; (first | omega | exact Bx.ne (by assumption) (by omega))) | ((with_reducible apply Bx.below); assumption; omega) | ((with_reducible apply Bx.ex); assumption))) _).trans rfl | exact Ex.cell (by assumption) (by assumption))) | ((with_reducible apply r_loadA); exact rfl; (first | assumption | exact Bx.cells (by repeat (first | assumption | ((with_reducible apply Bx.grownS); assumption; (first | omega | exact Bx.ne (by assumption) (by omega))) | ((with_reducible apply Bx.below); assumption; omega) | ((with_reducible apply Bx.ex); assumption))) | exact Cells.ex (by assumption) (by assumption)); exact rfl) | ((with_reducible apply r_lss); exact rfl; exact rfl) | ((with_reducible apply r_eql); exact rfl; exact rfl) | ((with_reducible apply r_neq); exact rfl; exact rfl) | ((with_reducible apply r_add); exact rfl; exact rfl; omega) | ((with_reducible apply r_len); exact rfl) | ((with_reducible apply r_lenStr); exact rfl) | ((with_reducible apply r_lenInts); ((conv => lhs; whnf) <;> exact rfl); (focus ((repeat (first | assumption | ((with_reducible apply OwnR.grownS); assumption; omega) | ((with_reducible apply Row.ex); assumption) | ((with_reducible apply OwnR.ex); assumption) | ((with_reducible apply Bx.grownS); assumption; (first | omega | exact Bx.ne (by assumption) (by omega))) | ((with_reducible apply Bx.below); assumption; omega) | ((with_reducible apply Own.grownS); assumption; omega) | ((with_reducible apply Bx.ex); assumption) | ((with_reducible apply IntsK.ex); assumption) | ((with_reducible apply Own.ex); assumption) | ((with_reducible apply Prs.ex); assumption))); done))) | ((with_reducible apply r_lenPrs); ((conv => lhs; whnf) <;> exact rfl); (focus ((repeat (first | assumption | ((with_reducible apply OwnR.grownS); assumption; omega) | ((with_reducible apply Row.ex); assumption) | ((with_reducible apply OwnR.ex); assumption) | ((with_reducible apply Bx.grownS); assumption; (first | omega | exact Bx.ne (by assumption) (by omega))) | ((with_reducible apply Bx.below); assumption; omega) | ((with_reducible apply Own.grownS); assumption; omega) | ((with_reducible apply Bx.ex); assumption) | ((with_reducible apply IntsK.ex); assumption) | ((with_reducible apply Own.ex); assumption) | ((with_reducible apply Prs.ex); assumption))); done))) | ((with_reducible apply r_pick_true); exact rfl; ((conv => lhs; whnf) <;> exact rfl)) | ((with_reducible apply r_pick_false); exact rfl; ((conv => lhs; whnf) <;> exact rfl)) | ((with_reducible apply r_not); exact rfl) | ((with_reducible apply r_notb); exact rfl) | ((with_reducible apply r_eqlb); exact rfl; exact rfl) | ((with_reducible apply r_neqb); exact rfl; exact rfl) | ((with_reducible apply r_extract); exact rfl; exact rfl) | ((with_reducible apply r_build2); ((conv => lhs; whnf) <;> exact rfl); ((conv => lhs; whnf) <;> exact rfl); (first | exact rfl | assumption | exact IntsK.one (by assumption) | exact Prs.one (by assumption) | exact Own.one (by assumption) | exact Row.one (by assumption) | exact OwnR.one (by assumption)); (first | exact rfl | assumption | exact IntsK.one (by assumption) | exact Prs.one (by assumption) | exact Own.one (by assumption) | exact Row.one (by assumption) | exact OwnR.one (by assumption)); exact rfl; exact rfl; ((simp only [lay, lset, List.replicate_succ, List.replicate_zero]) <;> exact rfl)) | ((with_reducible apply r_loadSub); exact rfl; (focus ((repeat (first | assumption | ((with_reducible apply Bx.grownS); assumption; (first | omega | exact Bx.ne (by assumption) (by omega))) | ((with_reducible apply Bx.below); assumption; omega) | ((with_reducible apply Bx.ex); assumption))); done)); ((simp only [Nat.add_zero, Nat.zero_add, Nat.reduceAdd, List.drop_zero, List.drop_succ_cons, List.take_succ_cons, List.take_zero]) <;> exact rfl); exact rfl) | ((with_reducible apply r_bldA); kernel_rfl; ((conv => lhs; whnf) <;> exact rfl); ((conv => lhs; whnf) <;> exact rfl); (first | exact rfl | assumption | exact IntsK.one (by assumption) | exact Prs.one (by assumption) | exact Own.one (by assumption) | exact Row.one (by assumption) | exact OwnR.one (by assumption))) | ((with_reducible apply r_lenR); ((conv => lhs; whnf) <;> exact rfl); (focus ((repeat (first | assumption | ((with_reducible apply OwnR.grownS); assumption; omega) | ((with_reducible apply Row.ex); assumption) | ((with_reducible apply OwnR.ex); assumption) | ((with_reducible apply Bx.grownS); assumption; (first | omega | exact Bx.ne (by assumption) (by omega))) | ((with_reducible apply Bx.below); assumption; omega) | ((with_reducible apply Own.grownS); assumption; omega) | ((with_reducible apply Bx.ex); assumption) | ((with_reducible apply IntsK.ex); assumption) | ((with_reducible apply Own.ex); assumption) | ((with_reducible apply Prs.ex); assumption))); done))) | ((with_reducible apply r_arr3); ((conv => lhs; whnf) <;> exact rfl); ((conv => lhs; whnf) <;> exact rfl); ((conv => lhs; whnf) <;> exact rfl); (first | exact rfl | assumption | exact IntsK.one (by assumption) | exact Prs.one (by assumption) | exact Own.one (by assumption) | exact Row.one (by assumption) | exact OwnR.one (by assumption)); (first | exact rfl | assumption | exact IntsK.one (by assumption) | exact Prs.one (by assumption) | exact Own.one (by assumption) | exact Row.one (by assumption) | exact OwnR.one (by assumption)); (first | exact rfl | assumption | exact IntsK.one (by assumption) | exact Prs.one (by assumption) | exact Own.one (by assumption) | exact Row.one (by assumption) | exact OwnR.one (by assumption)))))
      | ((with_reducible (show Exit.then _ _ _ _ _)); refine n_cutG (hJE _ _ _ ⟨_, rfl, (by first | exact end_yesR hA (by omega) | exact end_noR (by omega)), (by repeat (first | assumption | ((with_reducible apply Bx.grownS); assumption; (first | omega | exact Bx.ne (by assumption) (by omega))) | ((with_reducible apply Bx.below); assumption; omega) | ((with_reducible apply Bx.ex); assumption))), (by repeat (first | assumption | ((with_reducible apply Bx.grownS); assumption; (first | omega | exact Bx.ne (by assumption) (by omega))) | ((with_reducible apply Bx.below); assumption; omega) | ((with_reducible apply Bx.ex); assumption))), (by repeat (first | assumption | exact Ex.refl _ | (refine Ex.trans ?_ (by assumption)) | (refine Ex.of_grown ?_ (by assumption) (by intro k hk; cases hk; omega))))⟩ ⟨rfl, rfl, rfl, rfl, rfl, rfl, trivial⟩ rfl))
      | (refine W_callv (risT _ _ _ _ (by omega) (by omega)) rfl (fun wq he => ?_); have hsz := he.size)
      | (refine W_call (rbest_any (subV 3 v a c) (secL l a c) _ (Row.sub (Row.ex (by repeat (first | exact Ex.refl _ | assumption | (refine Ex.of_grown ?_ (by assumption) (by intro k hk; cases hk; omega)) | (refine Ex.trans ?_ (by assumption)))) h) (by omega) (by omega)) (valid_sec hv hab2.1 hab2.2)) rfl ?_; rintro vq wq ⟨h0, vw, rfl, hh⟩ he; have hsz := he.size)
      | ((with_reducible (show Exit.then _ _ _ _ _)); refine n_cutG (hJF _ _ _ ⟨_, low h0, h0, rfl, hh, rfl, (by repeat (first | assumption | ((with_reducible apply Bx.grownS); assumption; (first | omega | exact Bx.ne (by assumption) (by omega))) | ((with_reducible apply Bx.below); assumption; omega) | ((with_reducible apply Bx.ex); assumption))), (by repeat (first | assumption | ((with_reducible apply Bx.grownS); assumption; (first | omega | exact Bx.ne (by assumption) (by omega))) | ((with_reducible apply Bx.below); assumption; omega) | ((with_reducible apply Bx.ex); assumption))), (by repeat (first | assumption | ((with_reducible apply Bx.grownS); assumption; (first | omega | exact Bx.ne (by assumption) (by omega))) | ((with_reducible apply Bx.below); assumption; omega) | ((with_reducible apply Bx.ex); assumption))), (by repeat (first | assumption | exact Ex.refl _ | (refine Ex.trans ?_ (by assumption)) | (refine Ex.of_grown ?_ (by assumption) (by intro k hk; cases hk; omega))))⟩ ⟨rfl, rfl, rfl, rfl, rfl, rfl, trivial⟩ rfl))
      | (refine W_callv (rLessT z y _ hzs hys hlt) rfl (fun wq he => ?_); have hsz := he.size)
      | (refine W_callv (rLessF z y _ hzs hys hlt) rfl (fun wq he => ?_); have hsz := he.size)
      | ((with_reducible (show C _ _ _ _ _)); clear tkK; refine c_loopG (fun (k : Nat) ps wr => ∃ b6 : Nat, ∃ b8 : Nat, ∃ kk : Int, ∃ z : Int × Int, ps = [(0, v), (1, vp), (6, .pointer (some ⟨b6, 0, none⟩)), (8, .pointer (some ⟨b8, 0, none⟩)), (9, .int .i64 kk)] ∧ kk = k ∧ k ≤ S.length ∧ (w.heap.size ≤ b6 ∧ b6 < b8) ∧ partsTo l S k z ∧ Bx wr b8 [.int .i64 z.1, .int .i64 z.2] 24 ∧ Bx wr b6 [.int .i64 0, .int .i64 0] 24 ∧ Ex w wr) (fun k => S.length - k) 0 _ ⟨_, _, _, (0, 1), rfl, rfl, Nat.zero_le _, (by omega), Or.inl ⟨rfl, rfl⟩, (by repeat (first | assumption | ((with_reducible apply Bx.grownS); assumption; (first | omega | exact Bx.ne (by assumption) (by omega))) | ((with_reducible apply Bx.below); assumption; omega) | ((with_reducible apply Bx.ex); assumption))), (by repeat (first | assumption | ((with_reducible apply Bx.grownS); assumption; (first | omega | exact Bx.ne (by assumption) (by omega))) | ((with_reducible apply Bx.below); assumption; omega) | ((with_reducible apply Bx.ex); assumption))), (by repeat (first | assumption | exact Ex.refl _ | (refine Ex.trans ?_ (by assumption)) | (refine Ex.of_grown ?_ (by assumption) (by intro k hk; cases hk; omega))))⟩ ⟨rfl, rfl, rfl, rfl, rfl, trivial⟩ (by ((conv => lhs; whnf) <;> exact rfl)) ?_; rintro JK hJK k u ps wr ⟨b6, b8, kk, z, rfl, rfl, hk, hbb, hpt, hx8, hx6, he⟩; have hsz := he.size; have tkA : True := trivial)
      | ((with_reducible (show Exit.then _ _ _ _ _)); refine n_roundG (k + 1) (hJK _ _ _ _ ⟨_, _, _, _, rfl, by omega, by omega, hbb, hnx, (by repeat (first | assumption | ((with_reducible apply Bx.grownS); assumption; (first | omega | exact Bx.ne (by assumption) (by omega))) | ((with_reducible apply Bx.below); assumption; omega) | ((with_reducible apply Bx.ex); assumption))), (by repeat (first | assumption | ((with_reducible apply Bx.grownS); assumption; (first | omega | exact Bx.ne (by assumption) (by omega))) | ((with_reducible apply Bx.below); assumption; omega) | ((with_reducible apply Bx.ex); assumption))), (by repeat (first | assumption | exact Ex.refl _ | (refine Ex.trans ?_ (by assumption)) | (refine Ex.of_grown ?_ (by assumption) (by intro k hk; cases hk; omega))))⟩ ⟨rfl, rfl, rfl, rfl, rfl, trivial⟩ rfl) (by omega))
      | (with_reducible apply W_nil)
      | ((with_reducible apply W_alloc); exact rfl; intro bq wq hbq he hnq; have hltq := Bx.lt hbq; have hsz := he.size)
      | ((with_reducible apply W_indexInt); ((conv => lhs; whnf) <;> exact rfl); (focus ((repeat (first | assumption | ((with_reducible apply OwnR.grownS); assumption; omega) | ((with_reducible apply Row.ex); assumption) | ((with_reducible apply OwnR.ex); assumption) | ((with_reducible apply Bx.grownS); assumption; (first | omega | exact Bx.ne (by assumption) (by omega))) | ((with_reducible apply Bx.below); assumption; omega) | ((with_reducible apply Own.grownS); assumption; omega) | ((with_reducible apply Bx.ex); assumption) | ((with_reducible apply IntsK.ex); assumption) | ((with_reducible apply Own.ex); assumption) | ((with_reducible apply Prs.ex); assumption))); done)); exact rfl; omega; intro pq hpq)
      | ((with_reducible apply W_indexIntss); ((conv => lhs; whnf) <;> exact rfl); assumption; (focus ((repeat (first | assumption | exact Ex.refl _ | (refine Ex.trans ?_ (by assumption)) | (refine Ex.of_grown ?_ (by assumption) (by intro k hk; cases hk; omega)))); done)); exact rfl; omega; intro pq uq hpq huq)
      | ((with_reducible apply W_indexPr); ((conv => lhs; whnf) <;> exact rfl); (focus ((repeat (first | assumption | ((with_reducible apply OwnR.grownS); assumption; omega) | ((with_reducible apply Row.ex); assumption) | ((with_reducible apply OwnR.ex); assumption) | ((with_reducible apply Bx.grownS); assumption; (first | omega | exact Bx.ne (by assumption) (by omega))) | ((with_reducible apply Bx.below); assumption; omega) | ((with_reducible apply Own.grownS); assumption; omega) | ((with_reducible apply Bx.ex); assumption) | ((with_reducible apply IntsK.ex); assumption) | ((with_reducible apply Own.ex); assumption) | ((with_reducible apply Prs.ex); assumption))); done)); exact rfl; omega; intro pq hpq)
      | ((with_reducible apply W_storeA); exact rfl; (focus ((repeat (first | assumption | ((with_reducible apply Bx.grownS); assumption; (first | omega | exact Bx.ne (by assumption) (by omega))) | ((with_reducible apply Bx.below); assumption; omega) | ((with_reducible apply Bx.ex); assumption))); done)); exact rfl; exact rfl; exact rfl; (repeat' (first | exact trivial | (first | exact rfl | assumption | exact IntsK.one (by assumption) | exact Prs.one (by assumption) | exact Own.one (by assumption) | exact Row.one (by assumption) | exact OwnR.one (by assumption)) | constructor)); intro wq hbq hgq; have he : Ex w wq := (by repeat (first | assumption | exact Ex.refl _ | (refine Ex.trans ?_ (by assumption)) | (refine Ex.of_grown ?_ (by assumption) (by intro k hk; cases hk; omega)))); have hsz := he.size; have hgz := hgq.size)
      | ((with_reducible apply W_store); exact rfl; (focus ((repeat (first | assumption | ((with_reducible apply Bx.grownS); assumption; (first | omega | exact Bx.ne (by assumption) (by omega))) | ((with_reducible apply Bx.below); assumption; omega) | ((with_reducible apply Bx.ex); assumption))); done)); exact Nat.le_of_ble_eq_true rfl; ((conv => lhs; whnf) <;> exact rfl); (first | exact rfl | assumption | exact IntsK.one (by assumption) | exact Prs.one (by assumption) | exact Own.one (by assumption) | exact Row.one (by assumption) | exact OwnR.one (by assumption)); simp only [lset]; intro wq hbq hgq; have he : Ex w wq := (by repeat (first | assumption | exact Ex.refl _ | (refine Ex.trans ?_ (by assumption)) | (refine Ex.of_grown ?_ (by assumption) (by intro k hk; cases hk; omega)))); have hsz := he.size; have hgz := hgq.size)
      | ((with_reducible apply W_pass); exact rfl; exact rfl; exact rfl; exact rfl; exact rfl)
      | ((with_reducible apply W_take); exact rfl; exact rfl; exact rfl)
      | ((with_reducible apply W_passU); exact rfl; exact rfl; exact rfl; exact rfl)
      | ((with_reducible apply W_split); exact rfl; exact rfl; intro _; rotate_left 1; intro _)
      | (with_reducible apply c_seq)
      | (with_reducible apply c_region)
      | (with_reducible apply c_block)
      | (with_reducible apply c_skip)
      | (with_reducible apply c_ret)
      | (with_reducible apply c_exit)
      | ((with_reducible apply c_cond_true); exact rfl)
      | ((with_reducible apply c_cond_false); exact rfl)
      | ((with_reducible apply c_cond_dec); exact rfl; intro _; rotate_left 1; intro _)
      | ((with_reducible apply c_cond_bool); exact rfl; intro _; rotate_left 1; intro _)
      | (with_reducible apply n_then)
      | (with_reducible apply n_block)
      | (with_reducible apply e_then)
      | (with_reducible apply e_block)
      | (with_reducible apply r_then)
      | (with_reducible apply r_block)
      | ((with_reducible apply e_block'); decide)
      | ((with_reducible apply p_retc); exact rfl; exact inferInstance; exact inferInstance; exact rfl; (focus ((repeat (first | assumption | ((with_reducible apply Bx.grownS); assumption; (first | omega | exact Bx.ne (by assumption) (by omega))) | ((with_reducible apply Bx.below); assumption; omega) | ((with_reducible apply Bx.ex); assumption))); done)); exact rfl; refine ⟨_, rfl, ?_, (by repeat (first | assumption | exact Ex.refl _ | (refine Ex.trans ?_ (by assumption)) | (refine Ex.of_grown ?_ (by assumption) (by intro k hk; cases hk; omega))))⟩)
      | ((with_reducible apply p_retct); exact rfl; exact inferInstance; exact inferInstance; exact rfl; (focus ((repeat (first | assumption | ((with_reducible apply Bx.grownS); assumption; (first | omega | exact Bx.ne (by assumption) (by omega))) | ((with_reducible apply Bx.below); assumption; omega) | ((with_reducible apply Bx.ex); assumption))); done)); exact rfl; exact rfl; refine ⟨_, rfl, ?_, (by repeat (first | assumption | exact Ex.refl _ | (refine Ex.trans ?_ (by assumption)) | (refine Ex.of_grown ?_ (by assumption) (by intro k hk; cases hk; omega))))⟩)
      | ((exfalso; omega)))
  all_goals first | exact ⟨f, rfl, by rw [← hn]; exact hf⟩ | skip
end Go.Proofs.Ytbmjigneekodnaa

namespace Go.Pv
open Go.RowKit
abbrev nilV : Value := .slice none 0 0
theorem pc_lenR (x : Int × Int) : (pc x).length = 2 := rfl
theorem one_pc (x : Int × Int) : ∀ u ∈ pc x, u.oneCell' = true := by
  intro u hu
  unfold pc at hu
  simp at hu
  rcases hu with rfl | rfl <;> rfl
theorem made_pc : ∀ m : Nat, m ≤ 25 → (madeCells (Value.agg #[.int .i64 0, .int .i64 0]).cells (m * 2)).toList = (List.replicate m ((0, 0) : Int × Int)).flatMap pc
  | 0, _ => by kernel_rfl
  | 1, _ => by kernel_rfl
  | 2, _ => by kernel_rfl
  | 3, _ => by kernel_rfl
  | 4, _ => by kernel_rfl
  | 5, _ => by kernel_rfl
  | 6, _ => by kernel_rfl
  | 7, _ => by kernel_rfl
  | 8, _ => by kernel_rfl
  | 9, _ => by kernel_rfl
  | 10, _ => by kernel_rfl
  | 11, _ => by kernel_rfl
  | 12, _ => by kernel_rfl
  | 13, _ => by kernel_rfl
  | 14, _ => by kernel_rfl
  | 15, _ => by kernel_rfl
  | 16, _ => by kernel_rfl
  | 17, _ => by kernel_rfl
  | 18, _ => by kernel_rfl
  | 19, _ => by kernel_rfl
  | 20, _ => by kernel_rfl
  | 21, _ => by kernel_rfl
  | 22, _ => by kernel_rfl
  | 23, _ => by kernel_rfl
  | 24, _ => by kernel_rfl
  | 25, _ => by kernel_rfl
  | m + 26, h => absurd h (by omega)
theorem made_nil : ∀ m : Nat, m ≤ 25 → (madeCells (Value.slice none 0 0).cells (m * 1)).toList = List.replicate m nilV
  | 0, _ => by kernel_rfl
  | 1, _ => by kernel_rfl
  | 2, _ => by kernel_rfl
  | 3, _ => by kernel_rfl
  | 4, _ => by kernel_rfl
  | 5, _ => by kernel_rfl
  | 6, _ => by kernel_rfl
  | 7, _ => by kernel_rfl
  | 8, _ => by kernel_rfl
  | 9, _ => by kernel_rfl
  | 10, _ => by kernel_rfl
  | 11, _ => by kernel_rfl
  | 12, _ => by kernel_rfl
  | 13, _ => by kernel_rfl
  | 14, _ => by kernel_rfl
  | 15, _ => by kernel_rfl
  | 16, _ => by kernel_rfl
  | 17, _ => by kernel_rfl
  | 18, _ => by kernel_rfl
  | 19, _ => by kernel_rfl
  | 20, _ => by kernel_rfl
  | 21, _ => by kernel_rfl
  | 22, _ => by kernel_rfl
  | 23, _ => by kernel_rfl
  | 24, _ => by kernel_rfl
  | 25, _ => by kernel_rfl
  | m + 26, h => absurd h (by omega)
theorem cell_get {w : World} {b j : Nat} {T : TypeId} {vs : List Value} (h : Bx w b vs T) (hj : j < vs.length) : w.cell? ⟨b, j * 1, none⟩ = some (vs.getD j nilV) := by
  rw [Nat.mul_one, h.cell]
  simp [List.getD, hj]
theorem cell_snd {w : World} {b o : Nat} {x : Int × Int} (h : Cells w ⟨b, o, none⟩ (pc x)) : w.cell? ⟨b, o + 1, none⟩ = some (.int .i64 x.2) := by
  unfold Cells pc at h
  have := h 1 _ rfl
  simpa [Addr.add] using this
theorem cell_set {w : World} {b e : Nat} {T : TypeId} {zs : List (Int × Int)} {z : Int × Int} (h : Bx w b ((zs.set e z).flatMap pc) T) (he : e < zs.length) : Cells w ⟨b, e * 2, none⟩ (pc z) := by
  have := cells_rows (0, 0) pc_lenR h (m := e) (by simpa using he) rfl
  have e1 : (zs.set e z).getD e (0, 0) = z := by simp [List.getD, he]
  rw [e1] at this
  exact this
def rowsV (w : World) (m : Nat) (vs : List Value) : Prop := ∀ j, vs.getD j nilV = nilV ∨ ∃ xs, Vals w (vs.getD j nilV) xs ∧ (0 < xs.length ∧ xs.length ≤ m) ∧ ∀ q ∈ xs, q.oneCell' = true
def rowsO (E base : Nat) (w : World) (m : Nat) (us : List Value) : Prop := ∀ j, us.getD j nilV = nilV ∨ ∃ xs, OwnV E base w (us.getD j nilV) xs ∧ (0 < xs.length ∧ xs.length ≤ m) ∧ ∀ q ∈ xs, q.oneCell' = true
theorem rep_nil (m j : Nat) : (List.replicate m nilV).getD j nilV = nilV := by
  simp only [List.getD, List.getElem?_replicate]
  split <;> rfl
theorem rowsV_nil {w : World} {m k : Nat} : rowsV w m (List.replicate k nilV) := fun j => Or.inl (rep_nil k j)
theorem rowsO_nil {E base : Nat} {w : World} {m k : Nat} : rowsO E base w m (List.replicate k nilV) := fun j => Or.inl (rep_nil k j)
theorem rowV_one {w : World} {v : Value} {m : Nat} (h : v = nilV ∨ ∃ xs, Vals w v xs ∧ (0 < xs.length ∧ xs.length ≤ m) ∧ ∀ q ∈ xs, q.oneCell' = true) : v.oneCell' = true := by
  rcases h with h | ⟨xs, h, _⟩
  · rw [h]; rfl
  · exact h.one
theorem rowsO.ex {E base : Nat} {w w' : World} {m : Nat} {us : List Value} (e : Ex w w') (h : rowsO E base w m us) : rowsO E base w' m us := fun j => by
  rcases h j with h | ⟨xs, h1, h2⟩
  · exact Or.inl h
  · exact Or.inr ⟨xs, OwnV.ex e h1, h2⟩
theorem rowsO.grownS {E base b : Nat} {w w' : World} {m : Nat} {us : List Value} (hg : w.grownBy w' (some b)) (hb : b < base) (h : rowsO E base w m us) : rowsO E base w' m us := fun j => by
  rcases h j with h | ⟨xs, h1, h2⟩
  · exact Or.inl h
  · exact Or.inr ⟨xs, OwnV.grownS hg hb h1, h2⟩
theorem rowsO.set {E base : Nat} {w : World} {m j : Nat} {us : List Value} {v : Value} {xs : List Value} (h : rowsO E base w m us) (hv : OwnV E base w v xs) (hx : (0 < xs.length ∧ xs.length ≤ m) ∧ ∀ q ∈ xs, q.oneCell' = true) : rowsO E base w m (us.set j v) := fun i => by
  by_cases c : i = j
  · subst c
    by_cases d : i < us.length
    · have e1 : (us.set i v).getD i nilV = v := by simp [List.getD, d]
      rw [e1]
      exact Or.inr ⟨xs, hv, hx⟩
    · have e1 : (us.set i v).getD i nilV = nilV := by simp [List.getD, d]
      exact Or.inl e1
  · have e1 : (us.set j v).getD i nilV = us.getD i nilV := by simp only [List.getD, List.getElem?_set_ne (fun hx => c hx.symm)]
    rw [e1]
    exact h i
theorem valsQ {E base : Nat} {w : World} {v : Value} {xs : List Value} (h : OwnV E base w v xs) : Vals w v xs := by
  unfold OwnV at h
  unfold Vals Sl
  obtain ⟨h0, h1, h2⟩ := h
  rcases h2 with ⟨rfl, h2⟩ | ⟨g, cap, cur, rfl, hb, hh, hn, hm, hs, ht⟩
  · have : xs = [] := by
      rcases xs with _ | ⟨x, r⟩
      · rfl
      · first | (simp at h2; done) | (cases h2; done) | exact absurd h2 (by simp)
    subst this
    exact ⟨h0, none, 0, rfl, Nat.zero_le _, Nat.zero_le _, fun i hi => absurd hi (by simp)⟩
  · refine ⟨h0, some ⟨g, 0, none⟩, cap, rfl, hn, hm, fun i hi => ⟨⟨g, 0, none⟩, xs[i], rfl, ?_, rfl⟩⟩
    rw [add_mk]
    simp only [World.cell?, hh, Nat.zero_add]
    have e : (List.take (xs.length * 1) cur.toList)[i]? = some xs[i] := by rw [ht]; exact List.getElem?_eq_getElem hi
    rw [List.getElem?_take] at e
    split at e
    · simpa using e
    · cases e
theorem rowsO.toV {E base : Nat} {w : World} {m : Nat} {us : List Value} (h : rowsO E base w m us) : rowsV w m us := fun j => by
  rcases h j with h | ⟨xs, h1, h2⟩
  · exact Or.inl h
  · exact Or.inr ⟨xs, valsQ h1, h2⟩
theorem OwnV.monoR {E : TypeId} {base base' : Nat} {w : World} {v : Value} {xs : List Value} (h : OwnV E base w v xs) (hb : base' ≤ base) : OwnV E base' w v xs := by
  unfold OwnV at h ⊢
  refine ⟨h.1, h.2.1, ?_⟩
  rcases h.2.2 with h2 | ⟨g, cap, cur, h1, h2, h3⟩
  · exact .inl h2
  · exact .inr ⟨g, cap, cur, h1, by omega, h3⟩
theorem row_new {E base base' m : Nat} {w : World} {v u : Value} {xs : List Value} (h : OwnV E base w v (xs ++ [u])) (hb : base' ≤ base) (hl : (xs ++ [u]).length ≤ m) (hx : ∀ q ∈ xs, q.oneCell' = true) (hu : u.oneCell' = true) : OwnV E base' w v (xs ++ [u]) ∧ (0 < (xs ++ [u]).length ∧ (xs ++ [u]).length ≤ m) ∧ ∀ q ∈ xs ++ [u], q.oneCell' = true :=
  ⟨OwnV.monoR h hb, ⟨by simp, hl⟩, fun q hq => by
    rcases List.mem_append.1 hq with h | h
    · exact hx q h
    · have : q = u := by simpa using h
      subst this; exact hu⟩
theorem best_lowR {l : List T3} (hv : Valid l) {a e : Nat} {f g : Int × Int} (h1 : a < e) (h2 : e ≤ l.length) (hf : bestIs (secL l a e) f) (hg : bestIs (secL l a e) g) : low f = low g := by
  have vs := valid_sec hv h1 h2
  have a1 := best_le hf hg
  have a2 := best_le hg hf
  unfold fLt at a1 a2
  exact low_eq (best_ok vs hf).2.1 (best_ok vs hg).2.1 (by omega)
theorem cand_zero {p e a : Nat} {W : Nat → List Int × (Int × Int)} {H : Nat → Nat → Int × Int} (hp : p = 0) (ha : a = 0) : low (candV p W H e a) = low (H a e) := by
  unfold candV
  rw [if_pos hp, ha]
theorem cand_more {p e a : Nat} {W : Nat → List Int × (Int × Int)} {H : Nat → Nat → Int × Int} (hp : ¬ p = 0) (h1 : 1 ≤ (W a).2.2) (h2 : 1 ≤ (H a e).2) : low (candV p W H e a) = if fLt (low (H a e)) (low (W a).2) then low (W a).2 else low (H a e) := by
  unfold candV
  rw [if_neg hp, low_fMax h1 h2]
section
variable {P : Program} {Q : Exit → Act → World → Prop} {ol rest : List Oper} {l : St} {w : World} {ty : TypeId} {pos : String} {af : Array Edge} {T : TypeId} {x y : Operand}
theorem W_appendNone {d : Nat} {e : TypeId} {base : Nat} {v z : Value} {n b : Nat} {xs : List Value} [hT : Und P T (.slice e)] [hz : Sz P e z n b]
    (hx : ev l x = v) (hown : OwnV e base w v xs) (hy : ev l y = .slice none 0 0) (K : W P ol Q rest (upd l d v) w) :
    W P ol Q (⟨some d, .call { callee := .builtin .append, args := #[x, y], argTypes := #[T, T] }, ty, pos, af, none⟩ :: rest) l w := by
  obtain ⟨i, h1, h2, h3, h4⟩ := hz.parts
  unfold OwnV at hown
  unfold W at K ⊢
  refine wpList_append_own_none rfl x y T rfl base e i 1 hT.out h1 v xs.length xs (by rw [eval_act]; exact hx) hown.2 (by rw [eval_act]; exact hy) ?_
  rw [put_act]
  exact K
theorem W_appendVQ {d : Nat} {e : TypeId} {bytes base b c : Nat} {v z : Value} {xs : List Value} {m : Value} {w0 : World} [hT : Und P T (.slice e)] [hz : Sz P e z 1 bytes] (hzc : z.cells.size = 1) (hm : m.oneCell' = true)
    (hx : ev l x = v) (hown : OwnV e base w v xs) (hy : ev l y = .slice (some ⟨b, 0, none⟩) 1 c) (hb : Bx w b [m] e) (hlen : (xs.length + 1) * bytes ≤ 140737488355328 ∧ xs.length + 1 ≤ 9223372036854775807) (h0 : Ex w0 w) (hbase : w0.heap.size ≤ base) (hbase2 : base ≤ w.heap.size)
    (K : ∀ v' w', OwnV e base w' v' (xs ++ [m]) → Ex w0 w' → Below base w w' → w.grownBy w' v.ownBlock → W P ol Q rest (upd l d v') w') :
    W P ol Q (⟨some d, .call { callee := .builtin .append, args := #[x, y], argTypes := #[T, T] }, ty, pos, af, none⟩ :: rest) l w := by
  obtain ⟨i, h1, h2, h3, h4⟩ := hz.parts
  have ho := hown
  have hcb := hb.cells
  have hlt := hown.lt
  unfold OwnV at ho
  unfold Cells at hcb
  unfold W at K ⊢
  refine wpList_append_own w rfl x y T rfl base e i z 1 bytes hT.out h1 h2 h3 h4 hzc (by decide) v xs.length xs (by rw [eval_act]; exact hx) ho.2 ⟨b, 0, none⟩ 1 c [m] (by rw [eval_act]; exact hy) rfl hcb (by simpa using hm) (by unfold maxLen; omega) hlen.1 hbase2 ?_
  intro v' w' hown' hg _
  rw [put_act]
  refine K v' w' (by unfold OwnV; exact ⟨by unfold maxLen; simp; omega, by simpa using hown'⟩) (h0.of_grown hg fun k hk => ?_) ((Below.refl base w).grown hg hbase2 fun k hk => (hlt k hk).1) hg
  have := hlt k hk
  omega
end
theorem Ex.tbR {a b c : World} (h : Ex a b) (k : Below a.heap.size b c) : Ex a c := by unfold Ex at *; exact h.trans k
def cGo : List Nat → Code → Code
  | 0 :: p, .seq _ y => cGo p y
  | 1 :: p, .seq x _ => cGo p x
  | 2 :: p, .block _ c => cGo p c
  | 3 :: p, .loop c => cGo p c
  | _, c => c
theorem with_code {P : Program} {Q : Exit → Act → World → Prop} {a b : Code} {l : St} {w : World} (e : a = b) (h : C P b Q l w) : C P a Q l w := e ▸ h
theorem c_agree {P : Program} {Q : Exit → Act → World → Prop} {y : Code} {n : Nat} {ps : List (Nat × Value)} {l : St} {w : World} (h : ∀ u, C P y Q ⟨n, u, ps⟩ w) (ha : agree l ps) (hn : l.n = n) : C P y Q l w := by
  unfold C at h ⊢
  rw [act_agree l ps ha, hn]; exact h _
theorem q_end1 {Q : Exit → Act → World → Prop} {e : Exit} {n : Nat} {ps : List (Nat × Value)} {w : World} {l : St} (hQ : ∀ u, Q e (act ⟨n, u, ps⟩) w) (ha : agree l ps) (hn : l.n = n) : Q e (act l) w := by
  rw [act_agree l ps ha, hn]; exact hQ _
end Go.Pv
namespace Go.Proofs.Ytbmjigneekodnaa
open Go.Pv Go.RowKit
set_option maxHeartbeats 20000000
set_option maxRecDepth 20000

theorem risF (n lo hi : Int) (w : World) (h : ¬ (lo ≤ n ∧ n ≤ hi)) : Ret Try.prog 43 [.int .i64 n, .int .i64 lo, .int .i64 hi] w fun r _ => r = .bool false := by
  have := ris_any n lo hi w
  rw [decide_eq_false h] at this
  exact this
-- calls_of_c Try.func22
theorem rdTake_any {Q : Exit → Act → World → Prop} {y : Code} (ey : y = cGo [0, 0, 0, 0, 0, 1, 0, 2, 3, 0, 1, 2, 0, 1, 0, 2, 3, 0, 1, 2, 0, 2, 3, 0, 1, 2, 0, 0, 0] (Try.f22.body.getD .skip)) (v : Value) (l : List T3) (n : Nat) (nn : Int) (b5 bw bs bn bf b15 p e a : Nat) (x z : Int × Int) (zs : List (Int × Int)) (us vs : List Value) (u : Nat → Value) (w1 wA : World)
    (hzl : zs.length = l.length + 1) (hul : us.length = l.length + 1) (hvl : vs.length = l.length + 1) (hae : a < e) (hel : e ≤ l.length) (hln0 : l.length ≤ 24) (hpn : p < 24) (hden : z = (0, 0) ∨ fOk z) (hcand : fOk x)
    (hxn : Bx wA bn ((zs.set e z).flatMap pc) 24) (hxf : Bx wA bf us 38) (hx15 : Bx wA b15 [.int .i64 x.1, .int .i64 x.2] 24) (hxs : Bx wA bs vs 38) (hrv : rowsV wA p vs) (hro : rowsO 3 (max bn bf + 1) wA (p + 1) us) (hbnf : bn < bf ∨ bf < bn) (he1 : Ex w1 wA) (hb1 : w1.heap.size ≤ bn ∧ w1.heap.size ≤ bf)
    (hN : ∀ (u' : Nat → Value) (w' : World) (z' : Int × Int) (us' : List Value), ((z' = x ∧ (z = (0, 0) ∨ fLt x z)) ∨ (z' = z ∧ ¬ z = (0, 0) ∧ ¬ fLt x z)) → Bx w' bn ((zs.set e z').flatMap pc) 24 → Bx w' bf us' 38 → us'.length = l.length + 1 → rowsO 3 (max bn bf + 1) w' (p + 1) us' → Ex w1 w' → Q .normal (act ⟨137, u', ([(0, v), (1, .int .i64 n), (5, .pointer (some ⟨b5, 0, none⟩)), (8, .slice (some ⟨bw, 0, none⟩) (l.length + 1) (l.length + 1)), (9, .slice (some ⟨bs, 0, none⟩) (l.length + 1) (l.length + 1)), (10, .int .i64 nn), (11, .slice (some ⟨bn, 0, none⟩) (l.length + 1) (l.length + 1)), (12, .slice (some ⟨bf, 0, none⟩) (l.length + 1) (l.length + 1)), (13, .int .i64 e), (14, .int .i64 a)] : List (Nat × Value))⟩) w') :
    C Try.prog y Q ⟨137, u, ([(0, v), (1, .int .i64 n), (5, .pointer (some ⟨b5, 0, none⟩)), (8, .slice (some ⟨bw, 0, none⟩) (l.length + 1) (l.length + 1)), (9, .slice (some ⟨bs, 0, none⟩) (l.length + 1) (l.length + 1)), (10, .int .i64 nn), (11, .slice (some ⟨bn, 0, none⟩) (l.length + 1) (l.length + 1)), (12, .slice (some ⟨bf, 0, none⟩) (l.length + 1) (l.length + 1)), (13, .int .i64 e), (14, .int .i64 a), (15, .pointer (some ⟨b15, 0, none⟩))] : List (Nat × Value))⟩ wA := by
  subst ey
  refine with_code (by ((conv => lhs; whnf) <;> exact rfl)) ?_
  have hln := Bx.lt hxn
  have hlf := Bx.lt hxf
  have hl15 := Bx.lt hx15
  have tkL : True := trivial
  obtain ⟨w, hw⟩ : ∃ w, w = w1 := ⟨_, rfl⟩
  subst hw
  repeat' (first
      | (((with_reducible apply W_split); exact rfl; exact rfl; (all_goals intro _); (all_goals (try (exfalso; (focus (omega; done)))))))
      | (((with_reducible apply c_cond_dec); exact rfl; (all_goals intro _); (all_goals (try (exfalso; (focus (omega; done)))))))
      | (((with_reducible apply WM_split); exact rfl; exact rfl; (all_goals intro _); (all_goals (try (exfalso; (focus (omega; done)))))))
      | ((with_reducible (show C _ _ _ _ _)); clear tkL; refine c_cutG (x := .region 21 _ _) (n := 137) (fun ps wr => ∃ (t : Bool), ps = ([(0, v), (1, .int .i64 n), (5, .pointer (some ⟨b5, 0, none⟩)), (8, .slice (some ⟨bw, 0, none⟩) (l.length + 1) (l.length + 1)), (9, .slice (some ⟨bs, 0, none⟩) (l.length + 1) (l.length + 1)), (10, .int .i64 nn), (11, .slice (some ⟨bn, 0, none⟩) (l.length + 1) (l.length + 1)), (12, .slice (some ⟨bf, 0, none⟩) (l.length + 1) (l.length + 1)), (13, .int .i64 e), (14, .int .i64 a), (15, .pointer (some ⟨b15, 0, none⟩)), (108, .bool t)] : List (Nat × Value)) ∧ ((t = true ∧ (z = (0, 0) ∨ fLt x z)) ∨ (t = false ∧ ¬ z = (0, 0) ∧ ¬ fLt x z)) ∧ Bx wr b15 [.int .i64 x.1, .int .i64 x.2] 24 ∧ Ex wA wr) (fun JE hJE => ?_) (fun uE psE wE hIE => ?_); rotate_left 1; obtain ⟨t, rfl, hct, hx15, he⟩ := hIE; have hsz := he.size; (have hszE := he.size); (have hroE := rowsO.ex he hro); rcases hct with ⟨rfl, hcu2⟩ | ⟨rfl, hcu2⟩; (have tkN : True := trivial); rotate_left 2; by_cases hz0 : z = (0, 0); subst hz0; (have hcn : Cells wA ⟨bn, e * 2, none⟩ (pc (0, 0)) := cell_set hxn (by omega)); rotate_left 1; (have hcn : Cells wA ⟨bn, e * 2, none⟩ (pc z) := cell_set hxn (by omega)); (have hcz : Cells wA ⟨bn, e * 2, none⟩ [.int .i64 z.1, .int .i64 z.2] := hcn); (have hzo : fOk z := hden.resolve_left hz0); (have hzo1 := hzo); unfold fOk at hzo1; by_cases hl2 : fLt x z)
      | (refine c_mix (id := 21) [] [0, 1, 2, 3, 4, 5, 6, 7, 8, 9, 10, 11, 12] [13] [false, false, false, false, false, false, false, false, false, false, false, false, false, false] [true, true, true, true, true, true, true, true, true, true, true, true, true, false] [none, none, none, none, none, none, none, none, none, none, none, none, none, some true] (by kernel_rfl) (by kernel_rfl) (by kernel_rfl) (by kernel_rfl) (by kernel_rfl) (by kernel_rfl) (by dsimp only [sel] <;> exact rfl) (by dsimp only [sel] <;> exact rfl) (by dsimp only [selT] <;> exact rfl) ?_)
      | ((with_reducible apply WM_op); exact rfl; exact rfl; (intro wq he2; exact r_indexBx rfl rfl (by omega)))
      | ((with_reducible apply W_op); exact rfl; exact rfl; exact r_indexBx rfl rfl (by omega))
      | ((with_reducible apply WM_op); exact rfl; exact rfl; (intro wq he2; (with_reducible apply r_load); exact rfl; exact rfl; exact Ex.cell (by repeat (first | exact Ex.refl _ | assumption | (refine Ex.of_grown ?_ (by assumption) (by intro k hk; cases hk; omega)) | (refine Ex.trans ?_ (by assumption)))) (cell_snd hcn)))
      | ((with_reducible apply WM_op); exact rfl; exact rfl; (intro wq he2; (with_reducible apply r_loadA); exact rfl; exact Cells.ex (by repeat (first | exact Ex.refl _ | assumption | (refine Ex.of_grown ?_ (by assumption) (by intro k hk; cases hk; omega)) | (refine Ex.trans ?_ (by assumption)))) hcz; exact rfl))
      | ((with_reducible (show C _ (.region 22 _ _) _ _ _)); clear tkN; (have hcs1 := cell_get (j := a) hxs (by omega)); rcases hrv a with hnil | ⟨ys0, hys0, hyl, hyo⟩; rw [hnil] at hcs1; (have tkM : True := trivial); rotate_left 1; (have hy1 := hys0.one); (have tkM : True := trivial); rotate_left 1)
      | (refine c_mixR (id := 22) (keepN (wE.heap.size)) [4, 8, 9] [0, 1, 2, 3, 4, 6, 7, 8, 9, 11] 8 #[true, true, true, true, true, false, true, true, true, true, false, true, false, false, false, false, false, false] [some false, some false, some false, some false, some true, none, some false, some false, some true, some true, none, some false, none, none, none, none, none, none] (by kernel_rfl) (by kernel_rfl) (by kernel_rfl) (by dsimp only [selT] <;> exact rfl) ?_)
      | ((with_reducible apply WMR_op); exact rfl; exact rfl; (intro wq hkb; exact r_indexBx rfl rfl (by omega)))
      | ((with_reducible apply WMR_op); exact rfl; exact rfl; (intro wq hkb; (with_reducible apply r_loadA); exact rfl; exact Cells.ex (Ex.tbR (Ex.refl _) (hkb rfl)) (Bx.cells hx15); exact rfl))
      | ((with_reducible apply WMR_op); exact rfl; exact rfl; (intro wq hkb; (with_reducible apply r_load); exact rfl; exact rfl; exact Ex.cell (Ex.tbR he (Below.mono (hkb rfl) (by omega))) hcs1))
      | (refine W_bs0 ?_; intro bq0 wq hown0 he hnq; rw [← hnq] at hown0; have hsz := he.size; (have hb0l := (OwnV.lt hown0 bq0 rfl).2); (have hb0 : wE.heap.size ≤ bq0 := by omega); (have tk10 : True := trivial))
      | (clear tk10; refine W_appendNone (v := .slice (some ⟨bq0, 0, none⟩) 0 0) rfl (OwnV.ex (by repeat (first | exact Ex.refl _ | assumption | (refine Ex.of_grown ?_ (by assumption) (by intro k hk; cases hk; omega)) | (refine Ex.trans ?_ (by assumption)))) hown0) rfl ?_; (have hown1 := hown0); (have hl1 : ([] : List Value).length ≤ p := Nat.zero_le _); (have hn1 : ∀ q ∈ ([] : List Value), q.oneCell' = true := fun q hq => by simp at hq); (have tk13 : True := trivial))
      | (clear tk10; refine W_appendVs (w0 := wE) (v := .slice (some ⟨bq0, 0, none⟩) 0 0) (base := bq0) rfl rfl (by first | exact hown0 | exact OwnV.ex (by repeat (first | exact Ex.refl _ | assumption | (refine Ex.of_grown ?_ (by assumption) (by intro k hk; cases hk; omega)) | (refine Ex.trans ?_ (by assumption)))) hown0) rfl (Vals.ex (by repeat (first | exact Ex.refl _ | assumption | (refine Ex.of_grown ?_ (by assumption) (by intro k hk; cases hk; omega)) | (refine Ex.trans ?_ (by assumption)))) hys0) hyo hyl.1 (by simp only [List.length_nil]; omega) (by repeat (first | exact Ex.refl _ | assumption | (refine Ex.of_grown ?_ (by assumption) (by intro k hk; cases hk; omega)) | (refine Ex.trans ?_ (by assumption)))) (by omega) (by omega) ?_; intro v1 wq hown1 he hkn hg2 hbl2; rw [List.nil_append] at hown1; have hsz := he.size; (have hszk := hkn.size); (have hgq : World.grownBy _ wq (some bq0) := hg2); (have hl1 : ys0.length ≤ p := hyl.2); (have hn1 := hyo); (have tk13 : True := trivial))
      | (refine W_appendVQ (w0 := wE) (base := bq0) (m := .int .i64 a) rfl rfl rfl (by first | exact hown1 | exact OwnV.ex (by repeat (first | exact Ex.refl _ | assumption | (refine Ex.of_grown ?_ (by assumption) (by intro k hk; cases hk; omega)) | (refine Ex.trans ?_ (by assumption)))) hown1) rfl (by repeat (first | assumption | ((with_reducible apply Bx.grownS); assumption; (first | omega | exact Bx.ne (by assumption) (by omega))) | ((with_reducible apply Bx.below); assumption; omega) | ((with_reducible apply Bx.ex); assumption))) (by omega) (by repeat (first | exact Ex.refl _ | assumption | (refine Ex.of_grown ?_ (by assumption) (by intro k hk; cases hk; omega)) | (refine Ex.trans ?_ (by assumption)))) (by omega) (by omega) ?_; intro v2 wq hown2 he hkn hg2; clear tk13; have hsz := he.size; (have hszk := hkn.size); (have hone2 := hown2.one); (have hrow := row_new (m := p + 1) hown2 (show max bn bf + 1 ≤ bq0 by omega) (by rw [List.length_append]; simp only [List.length_cons, List.length_nil]; omega) hn1 rfl); (have hro2 : rowsO 3 (max bn bf + 1) wq (p + 1) us := rowsO.ex (by repeat (first | exact Ex.refl _ | assumption | (refine Ex.of_grown ?_ (by assumption) (by intro k hk; cases hk; omega)) | (refine Ex.trans ?_ (by assumption)))) hroE); (have tk15 : True := trivial))
      | (clear tk15; refine W_storeRB (f := pc) (n := 2) (m := e) (xs := zs.set e z) (g := x) pc_lenR (one_pc _) rfl rfl (by simp; omega) (by repeat (first | assumption | ((with_reducible apply Bx.grownS); assumption; (first | omega | exact Bx.ne (by assumption) (by omega))) | ((with_reducible apply Bx.below); assumption; omega) | ((with_reducible apply Bx.ex); assumption))) rfl ?_; intro wq hbq hgq; rw [List.set_set] at hbq; have he : Ex w wq := (by repeat (first | assumption | exact Ex.refl _ | (refine Ex.trans ?_ (by assumption)) | (refine Ex.of_grown ?_ (by assumption) (by intro k hk; cases hk; omega)))); have hsz := he.size; (have hrow2 := OwnV.grownS hgq (by omega) hrow.1); (have hro3 := rowsO.grownS hgq (by omega) hro2); (have tk17 : True := trivial))
      | (clear tk17; (with_reducible apply W_store); exact rfl; exact (by repeat (first | assumption | ((with_reducible apply Bx.grownS); assumption; (first | omega | exact Bx.ne (by assumption) (by omega))) | ((with_reducible apply Bx.below); assumption; omega) | ((with_reducible apply Bx.ex); assumption))); (omega); exact rfl; exact hone2; intro wq hbq hgq; rw [← lset_eq, Nat.mul_one] at hbq; have he : Ex w wq := (by repeat (first | assumption | exact Ex.refl _ | (refine Ex.trans ?_ (by assumption)) | (refine Ex.of_grown ?_ (by assumption) (by intro k hk; cases hk; omega)))); have hsz := he.size; (have hro4 := rowsO.set (j := e) (rowsO.grownS hgq (by omega) hro3) (OwnV.grownS hgq (by omega) hrow2) hrow.2))
      | ((first | ((with_reducible apply W_op); exact rfl; exact rfl) | ((with_reducible apply WQ_op); exact rfl; exact rfl; intro wq he) | ((with_reducible apply WM_op); exact rfl; exact rfl; intro wq he) | ((with_reducible apply WB_op); exact rfl; exact rfl; intro wq)); (first | ((with_reducible apply r_indexArr); exact rfl; exact rfl; omega) | (exact r_indexArr (i := 0) rfl rfl (by decide)) | (exact r_indexArr (i := 1) rfl rfl (by decide)) | (exact r_indexArr (i := 2) rfl rfl (by decide)) | ((with_reducible apply r_move); ((conv => lhs; whnf) <;> exact rfl)) | ((with_reducible apply r_assign); ((conv => lhs; whnf) <;> exact rfl)) | ((with_reducible apply r_fieldAddr); exact rfl) | ((with_reducible apply r_load); exact rfl; exact rfl; (first | assumption | exact (Bx.cell (by repeat (first | assumption | ((with_reducible apply Bx.grownS); assumption; (first | omega | exact Bx.ne (by assumption) (by omega))) | ((with_reducible apply Bx.below); assumption; omega) | ((with_reducible apply Bx.ex); assumption))) _).trans rfl | exact Ex.cell (by assumption) (by assumption))) | ((with_reducible apply r_loadF); exact rfl; (first | assumption | exact (Bx.cell (by repeat (first | assumption | ((with_reducible apply Bx.grownS); assumption; (first | omega | exact Bx.ne (by assumption) (by omega))) | ((with_reducible apply Bx.below); assumption; omega) | ((with_reducible apply Bx.ex); assumption))) _).trans rfl | exact Ex.cell (by assumption) (by assumption))) | ((with_reducible apply r_loadA); exact rfl; (first | assumption | exact Bx.cells (by repeat (first | assumption | ((with_reducible apply Bx.grownS); assumption; (first | omega | exact Bx.ne (by assumption) (by omega))) | ((with_reducible apply Bx.below); assumption; omega) | ((with_reducible apply Bx.ex); assumption))) | exact Cells.ex (by assumption) (by assumption)); exact rfl) | ((with_reducible apply r_lss); exact rfl; exact rfl) | ((with_reducible apply r_leq); exact rfl; exact rfl) | ((with_reducible apply r_gtr); exact rfl; exact rfl) | ((with_reducible apply r_eql); exact rfl; exact rfl) | ((with_reducible apply r_neq); exact rfl; exact rfl) | ((with_reducible apply r_add); exact rfl; exact rfl; omega) | ((with_reducible apply r_sub); exact rfl; exact rfl; omega) | ((with_reducible apply r_len); exact rfl) | ((with_reducible apply r_lenStr); exact rfl) | ((with_reducible apply r_lenInts); ((conv => lhs; whnf) <;> exact rfl); (focus ((repeat (first | assumption | ((with_reducible apply OwnR.grownS); assumption; omega) | ((with_reducible apply Row.ex); assumption) | ((with_reducible apply OwnR.ex); assumption) | ((with_reducible apply Bx.grownS); assumption; (first | omega | exact Bx.ne (by assumption) (by omega))) | ((with_reducible apply Bx.below); assumption; omega) | ((with_reducible apply Own.grownS); assumption; omega) | ((with_reducible apply Bx.ex); assumption) | ((with_reducible apply IntsK.ex); assumption) | ((with_reducible apply Own.ex); assumption) | ((with_reducible apply Prs.ex); assumption))); done))) | ((with_reducible apply r_lenPrs); ((conv => lhs; whnf) <;> exact rfl); (focus ((repeat (first | assumption | ((with_reducible apply OwnR.grownS); assumption; omega) | ((with_reducible apply Row.ex); assumption) | ((with_reducible apply OwnR.ex); assumption) | ((with_reducible apply Bx.grownS); assumption; (first | omega | exact Bx.ne (by assumption) (by omega))) | ((with_reducible apply Bx.below); assumption; omega) | ((with_reducible apply Own.grownS); assumption; omega) | ((with_reducible apply Bx.ex); assumption) | ((with_reducible apply IntsK.ex); assumption) | ((with_reducible apply Own.ex); assumption) | ((with_reducible apply Prs.ex); assumption))); done))) | ((with_reducible apply r_pick_true); exact rfl; ((conv => lhs; whnf) <;> exact rfl)) | ((with_reducible apply r_pick_false); exact rfl; ((conv => lhs; whnf) <;> exact rfl)) | ((with_reducible apply r_not); exact rfl) | ((with_reducible apply r_notb); exact rfl) | ((with_reducible apply r_eqlb); exact rfl; exact rfl) | ((with_reducible apply r_neqb); exact rfl; exact rfl) | ((with_reducible apply r_extract); exact rfl; exact rfl) | ((with_reducible apply r_loadSub); exact rfl; (focus ((repeat (first | assumption | ((with_reducible apply Bx.grownS); assumption; (first | omega | exact Bx.ne (by assumption) (by omega))) | ((with_reducible apply Bx.below); assumption; omega) | ((with_reducible apply Bx.ex); assumption))); done)); ((simp only [Nat.add_zero, Nat.zero_add, Nat.reduceAdd, List.drop_zero, List.drop_succ_cons, List.take_succ_cons, List.take_zero]) <;> exact rfl); exact rfl) | ((with_reducible apply r_build0); exact rfl) | ((with_reducible apply r_lenR); ((conv => lhs; whnf) <;> exact rfl); (focus ((repeat (first | assumption | ((with_reducible apply OwnR.grownS); assumption; omega) | ((with_reducible apply Row.ex); assumption) | ((with_reducible apply OwnR.ex); assumption) | ((with_reducible apply Bx.grownS); assumption; (first | omega | exact Bx.ne (by assumption) (by omega))) | ((with_reducible apply Bx.below); assumption; omega) | ((with_reducible apply Own.grownS); assumption; omega) | ((with_reducible apply Bx.ex); assumption) | ((with_reducible apply IntsK.ex); assumption) | ((with_reducible apply Own.ex); assumption) | ((with_reducible apply Prs.ex); assumption))); done))) | ((with_reducible apply r_arr3); ((conv => lhs; whnf) <;> exact rfl); ((conv => lhs; whnf) <;> exact rfl); ((conv => lhs; whnf) <;> exact rfl); (first | exact rfl | assumption | exact IntsK.one (by assumption) | exact Prs.one (by assumption) | exact Own.one (by assumption) | exact Row.one (by assumption) | exact OwnR.one (by assumption)); (first | exact rfl | assumption | exact IntsK.one (by assumption) | exact Prs.one (by assumption) | exact Own.one (by assumption) | exact Row.one (by assumption) | exact OwnR.one (by assumption)); (first | exact rfl | assumption | exact IntsK.one (by assumption) | exact Prs.one (by assumption) | exact Own.one (by assumption) | exact Row.one (by assumption) | exact OwnR.one (by assumption)))))
      | (refine WM_callv (fun wq he => rLessT x z wq hcand hzo hl2) rfl ?_)
      | (refine WM_callv (fun wq he => rLessF x z wq hcand hzo hl2) rfl ?_)
      | ((with_reducible (show Exit.then _ _ _ _ _)); refine n_cutG (hJE _ _ _ ⟨_, rfl, (by first | exact Or.inl ⟨rfl, Or.inl rfl⟩ | exact Or.inl ⟨rfl, Or.inr hl2⟩ | exact Or.inr ⟨rfl, hz0, hl2⟩), (by repeat (first | assumption | ((with_reducible apply Bx.grownS); assumption; (first | omega | exact Bx.ne (by assumption) (by omega))) | ((with_reducible apply Bx.below); assumption; omega) | ((with_reducible apply Bx.ex); assumption))), (by repeat (first | exact Ex.refl _ | assumption | (refine Ex.of_grown ?_ (by assumption) (by intro k hk; cases hk; omega)) | (refine Ex.trans ?_ (by assumption))))⟩ ⟨rfl, rfl, rfl, rfl, rfl, rfl, rfl, rfl, rfl, rfl, rfl, rfl, trivial⟩ rfl))
      | (refine XTR_two (t := 5) (t' := 12) (s := false) (s' := false) (listed := #[true, true, true, true, true, false, true, true, true, true, false, true, false, false, false, false, false, false]) (l1 := #[true, true, true, true, true, true, true, true, true, true, false, true, false, false, false, false, false, false]) (l1' := #[true, true, true, true, true, false, true, true, true, true, false, true, true, false, false, false, false, false]) (by kernel_rfl) rfl rfl (by kernel_rfl) (by kernel_rfl) (by kernel_rfl) (by kernel_rfl) ?_ ?_)
      | (refine XTR_two (t := 10) (t' := 12) (s := false) (s' := false) (listed := #[true, true, true, true, true, true, true, true, true, true, false, true, false, false, false, false, false, false]) (l1 := #[true, true, true, true, true, true, true, true, true, true, true, true, false, false, false, false, false, false]) (l1' := #[true, true, true, true, true, true, true, true, true, true, false, true, true, false, false, false, false, false]) (by kernel_rfl) rfl rfl (by kernel_rfl) (by kernel_rfl) (by kernel_rfl) (by kernel_rfl) ?_ ?_)
      | (refine XTR_one (t := 5) (s := false) (listed := #[true, true, true, true, true, false, true, true, true, true, false, true, true, false, false, false, false, false]) (listed' := #[true, true, true, true, true, true, true, true, true, true, false, true, true, false, false, false, false, false]) (by kernel_rfl) rfl (by kernel_rfl) (by kernel_rfl) ?_)
      | (refine XTR_one (t := 12) (s := false) (listed := #[true, true, true, true, true, true, true, true, true, true, true, true, false, false, false, false, false, false]) (listed' := #[true, true, true, true, true, true, true, true, true, true, true, true, true, false, false, false, false, false]) (by kernel_rfl) rfl (by kernel_rfl) (by kernel_rfl) ?_)
      | (refine XTR_one (t := 10) (s := false) (listed := #[true, true, true, true, true, true, true, true, true, true, false, true, true, false, false, false, false, false]) (listed' := #[true, true, true, true, true, true, true, true, true, true, true, true, true, false, false, false, false, false]) (by kernel_rfl) rfl (by kernel_rfl) (by kernel_rfl) ?_)
      | (refine XTR_one (t := 13) (s := false) (listed := #[true, true, true, true, true, true, true, true, true, true, true, true, true, false, false, false, false, false]) (listed' := #[true, true, true, true, true, true, true, true, true, true, true, true, true, true, false, false, false, false]) (by kernel_rfl) rfl (by kernel_rfl) (by kernel_rfl) ?_)
      | (refine XTR_one (t := 14) (s := true) (listed := #[true, true, true, true, true, true, true, true, true, true, true, true, true, true, false, false, false, false]) (listed' := #[true, true, true, true, true, true, true, true, true, true, true, true, true, true, true, false, false, false]) (by kernel_rfl) rfl (by kernel_rfl) (by kernel_rfl) ?_)
      | (refine XTR_one (t := 15) (s := true) (listed := #[true, true, true, true, true, true, true, true, true, true, true, true, true, true, true, false, false, false]) (listed' := #[true, true, true, true, true, true, true, true, true, true, true, true, true, true, true, true, false, false]) (by kernel_rfl) rfl (by kernel_rfl) (by kernel_rfl) ?_)
      | (refine XTR_one (t := 16) (s := true) (listed := #[true, true, true, true, true, true, true, true, true, true, true, true, true, true, true, true, false, false]) (listed' := #[true, true, true, true, true, true, true, true, true, true, true, true, true, true, true, true, true, false]) (by kernel_rfl) rfl (by kernel_rfl) (by kernel_rfl) ?_)
      | (refine XTR_one (t := 17) (s := true) (listed := #[true, true, true, true, true, true, true, true, true, true, true, true, true, true, true, true, true, false]) (listed' := #[true, true, true, true, true, true, true, true, true, true, true, true, true, true, true, true, true, true]) (by kernel_rfl) rfl (by kernel_rfl) (by kernel_rfl) ?_)
      | ((with_reducible apply WMR_op); exact rfl; exact rfl; (intro wq hkb; (first | ((with_reducible apply r_indexArr); exact rfl; exact rfl; omega) | (exact r_indexArr (i := 0) rfl rfl (by decide)) | (exact r_indexArr (i := 1) rfl rfl (by decide)) | (exact r_indexArr (i := 2) rfl rfl (by decide)) | ((with_reducible apply r_move); ((conv => lhs; whnf) <;> exact rfl)) | ((with_reducible apply r_assign); ((conv => lhs; whnf) <;> exact rfl)) | ((with_reducible apply r_fieldAddr); exact rfl) | ((with_reducible apply r_load); exact rfl; exact rfl; (first | assumption | exact (Bx.cell (by repeat (first | assumption | ((with_reducible apply Bx.grownS); assumption; (first | omega | exact Bx.ne (by assumption) (by omega))) | ((with_reducible apply Bx.below); assumption; omega) | ((with_reducible apply Bx.ex); assumption))) _).trans rfl | exact Ex.cell (by assumption) (by assumption))) | ((with_reducible apply r_loadF); exact rfl; (first | assumption | exact (Bx.cell (by repeat (first | assumption | ((with_reducible apply Bx.grownS); assumption; (first | omega | exact Bx.ne (by assumption) (by omega))) | ((with_reducible apply Bx.below); assumption; omega) | ((with_reducible apply Bx.ex); assumption))) _).trans rfl | exact Ex.cell (by assumption) (by assumption))) | ((with_reducible apply r_loadA); exact rfl; (first | assumption | exact Bx.cells (by repeat (first | assumption | ((with_reducible apply Bx.grownS); assumption; (first | omega | exact Bx.ne (by assumption) (by omega))) | ((with_reducible apply Bx.below); assumption; omega) | ((with_reducible apply Bx.ex); assumption))) | exact Cells.ex (by assumption) (by assumption)); exact rfl) | ((with_reducible apply r_lss); exact rfl; exact rfl) | ((with_reducible apply r_leq); exact rfl; exact rfl) | ((with_reducible apply r_gtr); exact rfl; exact rfl) | ((with_reducible apply r_eql); exact rfl; exact rfl) | ((with_reducible apply r_neq); exact rfl; exact rfl) | ((with_reducible apply r_add); exact rfl; exact rfl; omega) | ((with_reducible apply r_sub); exact rfl; exact rfl; omega) | ((with_reducible apply r_len); exact rfl) | ((with_reducible apply r_lenStr); exact rfl) | ((with_reducible apply r_lenInts); ((conv => lhs; whnf) <;> exact rfl); (focus ((repeat (first | assumption | ((with_reducible apply OwnR.grownS); assumption; omega) | ((with_reducible apply Row.ex); assumption) | ((with_reducible apply OwnR.ex); assumption) | ((with_reducible apply Bx.grownS); assumption; (first | omega | exact Bx.ne (by assumption) (by omega))) | ((with_reducible apply Bx.below); assumption; omega) | ((with_reducible apply Own.grownS); assumption; omega) | ((with_reducible apply Bx.ex); assumption) | ((with_reducible apply IntsK.ex); assumption) | ((with_reducible apply Own.ex); assumption) | ((with_reducible apply Prs.ex); assumption))); done))) | ((with_reducible apply r_lenPrs); ((conv => lhs; whnf) <;> exact rfl); (focus ((repeat (first | assumption | ((with_reducible apply OwnR.grownS); assumption; omega) | ((with_reducible apply Row.ex); assumption) | ((with_reducible apply OwnR.ex); assumption) | ((with_reducible apply Bx.grownS); assumption; (first | omega | exact Bx.ne (by assumption) (by omega))) | ((with_reducible apply Bx.below); assumption; omega) | ((with_reducible apply Own.grownS); assumption; omega) | ((with_reducible apply Bx.ex); assumption) | ((with_reducible apply IntsK.ex); assumption) | ((with_reducible apply Own.ex); assumption) | ((with_reducible apply Prs.ex); assumption))); done))) | ((with_reducible apply r_pick_true); exact rfl; ((conv => lhs; whnf) <;> exact rfl)) | ((with_reducible apply r_pick_false); exact rfl; ((conv => lhs; whnf) <;> exact rfl)) | ((with_reducible apply r_not); exact rfl) | ((with_reducible apply r_notb); exact rfl) | ((with_reducible apply r_eqlb); exact rfl; exact rfl) | ((with_reducible apply r_neqb); exact rfl; exact rfl) | ((with_reducible apply r_extract); exact rfl; exact rfl) | ((with_reducible apply r_loadSub); exact rfl; (focus ((repeat (first | assumption | ((with_reducible apply Bx.grownS); assumption; (first | omega | exact Bx.ne (by assumption) (by omega))) | ((with_reducible apply Bx.below); assumption; omega) | ((with_reducible apply Bx.ex); assumption))); done)); ((simp only [Nat.add_zero, Nat.zero_add, Nat.reduceAdd, List.drop_zero, List.drop_succ_cons, List.take_succ_cons, List.take_zero]) <;> exact rfl); exact rfl) | ((with_reducible apply r_build0); exact rfl) | ((with_reducible apply r_lenR); ((conv => lhs; whnf) <;> exact rfl); (focus ((repeat (first | assumption | ((with_reducible apply OwnR.grownS); assumption; omega) | ((with_reducible apply Row.ex); assumption) | ((with_reducible apply OwnR.ex); assumption) | ((with_reducible apply Bx.grownS); assumption; (first | omega | exact Bx.ne (by assumption) (by omega))) | ((with_reducible apply Bx.below); assumption; omega) | ((with_reducible apply Own.grownS); assumption; omega) | ((with_reducible apply Bx.ex); assumption) | ((with_reducible apply IntsK.ex); assumption) | ((with_reducible apply Own.ex); assumption) | ((with_reducible apply Prs.ex); assumption))); done))) | ((with_reducible apply r_arr3); ((conv => lhs; whnf) <;> exact rfl); ((conv => lhs; whnf) <;> exact rfl); ((conv => lhs; whnf) <;> exact rfl); (first | exact rfl | assumption | exact IntsK.one (by assumption) | exact Prs.one (by assumption) | exact Own.one (by assumption) | exact Row.one (by assumption) | exact OwnR.one (by assumption)); (first | exact rfl | assumption | exact IntsK.one (by assumption) | exact Prs.one (by assumption) | exact Own.one (by assumption) | exact Row.one (by assumption) | exact OwnR.one (by assumption)); (first | exact rfl | assumption | exact IntsK.one (by assumption) | exact Prs.one (by assumption) | exact Own.one (by assumption) | exact Row.one (by assumption) | exact OwnR.one (by assumption))))))
      | ((with_reducible apply WMR_nil); intro wq he hszq; have hsz := he.size)
      | ((with_reducible apply XTR_nil); kernel_rfl)
      | (with_reducible apply xR_sink)
      | ((with_reducible apply xR_keep); first | exact (keepN _).refl _ | exact Below.mono (Ex.below he) (by omega) | exact (Below.refl _ _).grown hgq (by omega) (by intro k hk; cases hk; omega) | exact Below.mono hkn (by omega))
      | (refine q_end1 (fun u' => hN u' _ x (us.set e v2) (Or.inl ⟨rfl, hcu2⟩) (by repeat (first | assumption | ((with_reducible apply Bx.grownS); assumption; (first | omega | exact Bx.ne (by assumption) (by omega))) | ((with_reducible apply Bx.below); assumption; omega) | ((with_reducible apply Bx.ex); assumption))) (by repeat (first | assumption | ((with_reducible apply Bx.grownS); assumption; (first | omega | exact Bx.ne (by assumption) (by omega))) | ((with_reducible apply Bx.below); assumption; omega) | ((with_reducible apply Bx.ex); assumption))) (by rw [List.length_set]; exact hul) hro4 (by repeat (first | exact Ex.refl _ | assumption | (refine Ex.of_grown ?_ (by assumption) (by intro k hk; cases hk; omega)) | (refine Ex.trans ?_ (by assumption))))) ⟨rfl, rfl, rfl, rfl, rfl, rfl, rfl, rfl, rfl, rfl, trivial⟩ rfl)
      | (refine q_end1 (fun u' => hN u' _ z us (Or.inr ⟨rfl, hcu2⟩) (by repeat (first | assumption | ((with_reducible apply Bx.grownS); assumption; (first | omega | exact Bx.ne (by assumption) (by omega))) | ((with_reducible apply Bx.below); assumption; omega) | ((with_reducible apply Bx.ex); assumption))) (by repeat (first | assumption | ((with_reducible apply Bx.grownS); assumption; (first | omega | exact Bx.ne (by assumption) (by omega))) | ((with_reducible apply Bx.below); assumption; omega) | ((with_reducible apply Bx.ex); assumption))) hul hroE (by repeat (first | exact Ex.refl _ | assumption | (refine Ex.of_grown ?_ (by assumption) (by intro k hk; cases hk; omega)) | (refine Ex.trans ?_ (by assumption))))) ⟨rfl, rfl, rfl, rfl, rfl, rfl, rfl, rfl, rfl, rfl, trivial⟩ rfl)
      | (with_reducible apply W_nil)
      | ((with_reducible apply WQ_nil); exact rfl; intro wq he; have hsz := he.size)
      | (with_reducible apply WM_nil; intro wq he; have hsz := he.size)
      | (with_reducible apply WB_nil)
      | (with_reducible apply WT_nil)
      | (with_reducible apply WT_cons)
      | (with_reducible apply t_sink)
      | ((with_reducible apply t_keep); (focus ((repeat (first | assumption | exact Ex.refl _ | (refine Ex.trans ?_ (by assumption)) | (refine Ex.of_grown ?_ (by assumption) (by intro k hk; cases hk; omega)))); done)); intro wq he; have hsz := he.size)
      | ((with_reducible apply W_alloc); exact rfl; intro bq wq hbq he hnq; have hltq := Bx.lt hbq; have hsz := he.size)
      | ((with_reducible apply W_indexInt); ((conv => lhs; whnf) <;> exact rfl); (focus ((repeat (first | assumption | ((with_reducible apply OwnR.grownS); assumption; omega) | ((with_reducible apply Row.ex); assumption) | ((with_reducible apply OwnR.ex); assumption) | ((with_reducible apply Bx.grownS); assumption; (first | omega | exact Bx.ne (by assumption) (by omega))) | ((with_reducible apply Bx.below); assumption; omega) | ((with_reducible apply Own.grownS); assumption; omega) | ((with_reducible apply Bx.ex); assumption) | ((with_reducible apply IntsK.ex); assumption) | ((with_reducible apply Own.ex); assumption) | ((with_reducible apply Prs.ex); assumption))); done)); exact rfl; omega; intro pq hpq)
      | ((with_reducible apply W_indexIntss); ((conv => lhs; whnf) <;> exact rfl); assumption; (focus ((repeat (first | assumption | exact Ex.refl _ | (refine Ex.trans ?_ (by assumption)) | (refine Ex.of_grown ?_ (by assumption) (by intro k hk; cases hk; omega)))); done)); exact rfl; omega; intro pq uq hpq huq)
      | ((with_reducible apply WQ_indexInt); ((conv => lhs; whnf) <;> exact rfl); (focus ((repeat (first | assumption | ((with_reducible apply OwnR.grownS); assumption; omega) | ((with_reducible apply Row.ex); assumption) | ((with_reducible apply OwnR.ex); assumption) | ((with_reducible apply Bx.grownS); assumption; (first | omega | exact Bx.ne (by assumption) (by omega))) | ((with_reducible apply Bx.below); assumption; omega) | ((with_reducible apply Own.grownS); assumption; omega) | ((with_reducible apply Bx.ex); assumption) | ((with_reducible apply IntsK.ex); assumption) | ((with_reducible apply Own.ex); assumption) | ((with_reducible apply Prs.ex); assumption))); done)); exact rfl; omega; intro pq hpq)
      | ((with_reducible apply WQ_indexIntss); ((conv => lhs; whnf) <;> exact rfl); assumption; (focus ((repeat (first | assumption | exact Ex.refl _ | (refine Ex.trans ?_ (by assumption)) | (refine Ex.of_grown ?_ (by assumption) (by intro k hk; cases hk; omega)))); done)); exact rfl; omega; intro pq uq hpq huq)
      | ((with_reducible apply WM_indexInt); ((conv => lhs; whnf) <;> exact rfl); (focus ((repeat (first | assumption | ((with_reducible apply OwnR.grownS); assumption; omega) | ((with_reducible apply Row.ex); assumption) | ((with_reducible apply OwnR.ex); assumption) | ((with_reducible apply Bx.grownS); assumption; (first | omega | exact Bx.ne (by assumption) (by omega))) | ((with_reducible apply Bx.below); assumption; omega) | ((with_reducible apply Own.grownS); assumption; omega) | ((with_reducible apply Bx.ex); assumption) | ((with_reducible apply IntsK.ex); assumption) | ((with_reducible apply Own.ex); assumption) | ((with_reducible apply Prs.ex); assumption))); done)); exact rfl; omega; intro pq hpq)
      | ((with_reducible apply WM_indexIntss); ((conv => lhs; whnf) <;> exact rfl); assumption; (focus ((repeat (first | assumption | exact Ex.refl _ | (refine Ex.trans ?_ (by assumption)) | (refine Ex.of_grown ?_ (by assumption) (by intro k hk; cases hk; omega)))); done)); exact rfl; omega; intro pq uq hpq huq)
      | ((with_reducible apply W_indexPr); ((conv => lhs; whnf) <;> exact rfl); (focus ((repeat (first | assumption | ((with_reducible apply OwnR.grownS); assumption; omega) | ((with_reducible apply Row.ex); assumption) | ((with_reducible apply OwnR.ex); assumption) | ((with_reducible apply Bx.grownS); assumption; (first | omega | exact Bx.ne (by assumption) (by omega))) | ((with_reducible apply Bx.below); assumption; omega) | ((with_reducible apply Own.grownS); assumption; omega) | ((with_reducible apply Bx.ex); assumption) | ((with_reducible apply IntsK.ex); assumption) | ((with_reducible apply Own.ex); assumption) | ((with_reducible apply Prs.ex); assumption))); done)); exact rfl; omega; intro pq hpq)
      | ((with_reducible apply WQ_indexPr); ((conv => lhs; whnf) <;> exact rfl); (focus ((repeat (first | assumption | ((with_reducible apply OwnR.grownS); assumption; omega) | ((with_reducible apply Row.ex); assumption) | ((with_reducible apply OwnR.ex); assumption) | ((with_reducible apply Bx.grownS); assumption; (first | omega | exact Bx.ne (by assumption) (by omega))) | ((with_reducible apply Bx.below); assumption; omega) | ((with_reducible apply Own.grownS); assumption; omega) | ((with_reducible apply Bx.ex); assumption) | ((with_reducible apply IntsK.ex); assumption) | ((with_reducible apply Own.ex); assumption) | ((with_reducible apply Prs.ex); assumption))); done)); exact rfl; omega; intro pq hpq)
      | ((with_reducible apply W_bsP); exact rfl; exact rfl; intro bq wq hbq he hnq; have hltq := Bx.lt hbq; have hsz := he.size)
      | ((with_reducible apply W_storeA); exact rfl; (focus ((repeat (first | assumption | ((with_reducible apply Bx.grownS); assumption; (first | omega | exact Bx.ne (by assumption) (by omega))) | ((with_reducible apply Bx.below); assumption; omega) | ((with_reducible apply Bx.ex); assumption))); done)); exact rfl; exact rfl; exact rfl; (repeat' (first | exact trivial | (first | exact rfl | assumption | exact IntsK.one (by assumption) | exact Prs.one (by assumption) | exact Own.one (by assumption) | exact Row.one (by assumption) | exact OwnR.one (by assumption)) | constructor)); intro wq hbq hgq; have he : Ex w wq := (by repeat (first | assumption | exact Ex.refl _ | (refine Ex.trans ?_ (by assumption)) | (refine Ex.of_grown ?_ (by assumption) (by intro k hk; cases hk; omega)))); have hsz := he.size; have hgz := hgq.size)
      | ((with_reducible apply W_store); exact rfl; (focus ((repeat (first | assumption | ((with_reducible apply Bx.grownS); assumption; (first | omega | exact Bx.ne (by assumption) (by omega))) | ((with_reducible apply Bx.below); assumption; omega) | ((with_reducible apply Bx.ex); assumption))); done)); exact Nat.le_of_ble_eq_true rfl; ((conv => lhs; whnf) <;> exact rfl); (first | exact rfl | assumption | exact IntsK.one (by assumption) | exact Prs.one (by assumption) | exact Own.one (by assumption) | exact Row.one (by assumption) | exact OwnR.one (by assumption)); simp only [lset]; intro wq hbq hgq; have he : Ex w wq := (by repeat (first | assumption | exact Ex.refl _ | (refine Ex.trans ?_ (by assumption)) | (refine Ex.of_grown ?_ (by assumption) (by intro k hk; cases hk; omega)))); have hsz := he.size; have hgz := hgq.size)
      | ((with_reducible apply W_pass); exact rfl; exact rfl; exact rfl; exact rfl; exact rfl)
      | ((with_reducible apply W_take); exact rfl; exact rfl; exact rfl)
      | ((with_reducible apply W_passU); exact rfl; exact rfl; exact rfl; exact rfl)
      | ((with_reducible apply W_split); exact rfl; exact rfl; intro _; rotate_left 1; intro _)
      | ((with_reducible apply WQ_pass); exact rfl; exact rfl; exact rfl; exact rfl; exact rfl)
      | ((with_reducible apply WQ_take); exact rfl; exact rfl; exact rfl)
      | ((with_reducible apply WQ_passU); exact rfl; exact rfl; exact rfl; exact rfl)
      | ((with_reducible apply WQ_split); exact rfl; exact rfl; intro _; rotate_left 1; intro _)
      | ((with_reducible apply WM_pass); exact rfl; exact rfl; exact rfl; exact rfl; exact rfl)
      | ((with_reducible apply WM_take); exact rfl; exact rfl; exact rfl)
      | ((with_reducible apply WM_passU); exact rfl; exact rfl; exact rfl; exact rfl)
      | ((with_reducible apply WM_split); exact rfl; exact rfl; intro _; rotate_left 1; intro _)
      | ((with_reducible apply c_quiet); kernel_rfl)
      | ((with_reducible apply W_bs1); ((conv => lhs; whnf) <;> exact rfl); (first | exact rfl | assumption | exact IntsK.one (by assumption) | exact Prs.one (by assumption) | exact Own.one (by assumption) | exact Row.one (by assumption) | exact OwnR.one (by assumption)); decide; decide; exact rfl; exact rfl; ((simp only [lay, lset, List.replicate_succ, List.replicate_zero]) <;> exact rfl); intro bq wq hbq he hnq; have hltq := Bx.lt hbq; have hsz := he.size)
      | (with_reducible apply c_seq)
      | (with_reducible apply c_region)
      | (with_reducible apply c_block)
      | (with_reducible apply c_skip)
      | (with_reducible apply c_ret)
      | (with_reducible apply c_exit)
      | ((with_reducible apply c_cond_true); exact rfl)
      | ((with_reducible apply c_cond_false); exact rfl)
      | ((with_reducible apply c_cond_dec); exact rfl; intro _; rotate_left 1; intro _)
      | ((with_reducible apply c_cond_bool); exact rfl; intro _; rotate_left 1; intro _)
      | (with_reducible apply n_then)
      | (with_reducible apply n_block)
      | (with_reducible apply e_then)
      | (with_reducible apply e_block)
      | (with_reducible apply r_then)
      | (with_reducible apply r_block)
      | ((with_reducible apply e_block'); decide)
      | ((with_reducible apply p_retc); exact rfl; exact inferInstance; exact inferInstance; exact rfl; (focus ((repeat (first | assumption | ((with_reducible apply Bx.grownS); assumption; (first | omega | exact Bx.ne (by assumption) (by omega))) | ((with_reducible apply Bx.below); assumption; omega) | ((with_reducible apply Bx.ex); assumption))); done)); exact rfl; refine ⟨_, rfl, ?_, (by repeat (first | assumption | exact Ex.refl _ | (refine Ex.trans ?_ (by assumption)) | (refine Ex.of_grown ?_ (by assumption) (by intro k hk; cases hk; omega))))⟩)
      | ((with_reducible apply p_retct); exact rfl; exact inferInstance; exact inferInstance; exact rfl; (focus ((repeat (first | assumption | ((with_reducible apply Bx.grownS); assumption; (first | omega | exact Bx.ne (by assumption) (by omega))) | ((with_reducible apply Bx.below); assumption; omega) | ((with_reducible apply Bx.ex); assumption))); done)); exact rfl; exact rfl; refine ⟨_, rfl, ?_, (by repeat (first | assumption | exact Ex.refl _ | (refine Ex.trans ?_ (by assumption)) | (refine Ex.of_grown ?_ (by assumption) (by intro k hk; cases hk; omega))))⟩)
      | ((exfalso; omega)))
end Go.Proofs.Ytbmjigneekodnaa
