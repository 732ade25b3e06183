/-
  What this text proves: the polynomial that the reference builds goes through all shares. It speaks of plain functions.
-/
import Derived.Test.YtngoipmdhliigaaVKc
set_option linter.unusedVariables false
set_option linter.unusedSimpArgs false
namespace Go.Pv
open Go.RowKit
theorem evP_set (x v : Int) : ∀ (l : List Int) (i : Nat), i < l.length → evP (l.set i v) x = evP l x + (v - l.getD i 0) * pw x i
  | [], i, h => by simp at h
  | a :: r, 0, _ => by simp [evP, pw]; omega
  | a :: r, i + 1, h => by
    have ih := evP_set x v r i (by simpa using h)
    simp only [List.set_cons_succ, evP, ih, pw, List.getD_cons_succ]
    simp only [Int.mul_add, Int.mul_sub, Int.sub_mul, Int.mul_assoc, Int.mul_comm, Int.mul_left_comm]
    omega
/-- One polynomial times x less K, times d, as the reference reckons it, the first c coefficients. -/
def stR (one : List Int) (K d : Int) (m : Nat) : Nat → List Int
  | 0 => List.replicate m 0
  | c + 1 =>
    if c + 1 < m then ((stR one K d m c).set c (((stR one K d m c).getD c 0 - one.getD c 0 * K % 251 * d) % 251)).set (c + 1) ((((stR one K d m c).set c (((stR one K d m c).getD c 0 - one.getD c 0 * K % 251 * d) % 251)).getD (c + 1) 0 + one.getD c 0 * d) % 251)
    else (stR one K d m c).set c (((stR one K d m c).getD c 0 - one.getD c 0 * K % 251 * d) % 251)
theorem stR_len (one : List Int) (K d : Int) (m : Nat) : ∀ c, (stR one K d m c).length = m
  | 0 => by simp [stR]
  | c + 1 => by
    have ih := stR_len one K d m c
    simp only [stR]
    split <;> simp [ih]
theorem set_nb {l : List Int} {i : Nat} {v : Int} (h : nbL l) (hv : nb v) : nbL (l.set i v) := fun j => by
  by_cases hj : j = i
  · subst hj
    by_cases hl : j < l.length
    · simpa [List.getD, hl] using hv
    · rw [List.set_eq_of_length_le (by omega)]; exact h j
  · have e : (l.set i v).getD j 0 = l.getD j 0 := by simp [List.getD, List.getElem?_set, Ne.symm hj]
    rw [e]; exact h j
theorem rep_g0 (m i : Nat) : (List.replicate m (0 : Int)).getD i 0 = 0 := by
  simp only [List.getD, List.getElem?_replicate]
  split <;> rfl
theorem rep_nb (m : Nat) : nbL (List.replicate m 0) := fun i => by
  rw [rep_g0]; unfold nb; decide
theorem stR_nb (one : List Int) (K d : Int) (m : Nat) : ∀ c, nbL (stR one K d m c)
  | 0 => rep_nb m
  | c + 1 => by
    have ih := stR_nb one K d m c
    simp only [stR]
    split
    · exact set_nb (set_nb ih (nb_md _)) (nb_md _)
    · exact set_nb ih (nb_md _)
theorem take_ev {l : List Int} {k : Nat} (x : Int) (hk : k < l.length) : evP (l.take (k + 1)) x = evP (l.take k) x + l.getD k 0 * pw x k := by
  have hg : l.getD k 0 = l[k] := by simp [hk]
  rw [List.take_succ_eq_append_getElem hk, evP_app, hg, List.length_take, Nat.min_eq_left (by omega)]
theorem stR_ev {one : List Int} {K d : Int} {m : Nat} (x : Int) (hl : one.length = m) (hz : one.getD (m - 1) 0 = 0) : ∀ c, c ≤ m → Cg (evP (stR one K d m c) x) (d * (x - K) * evP (one.take c) x)
  | 0, _ => by
    have : evP (stR one K d m 0) x = 0 := by simp [stR, rep_ev]
    rw [this]; simp [evP]; rfl
  | c + 1, h => by
    have ih := stR_ev x hl hz (K := K) (d := d) c (by omega)
    have hsl := stR_len one K d m c
    rw [take_ev x (show c < one.length by omega)]
    obtain ⟨A, hA⟩ : ∃ A, A = stR one K d m c := ⟨_, rfl⟩
    obtain ⟨o, ho⟩ : ∃ o, o = one.getD c 0 := ⟨_, rfl⟩
    obtain ⟨p, hp⟩ : ∃ p, p = pw x c := ⟨_, rfl⟩
    obtain ⟨E, hE⟩ : ∃ E, E = evP (one.take c) x := ⟨_, rfl⟩
    have h1 : Cg (evP (A.set c ((A.getD c 0 - o * K % 251 * d) % 251)) x) (d * (x - K) * E - o * K * d * p) := by
      rw [evP_set x _ A c (by rw [hA]; omega), ← hp]
      rw [← hA, ← hE] at ih
      have e1 : Cg ((A.getD c 0 - o * K % 251 * d) % 251 - A.getD c 0) (A.getD c 0 - o * K * d - A.getD c 0) :=
        Cg.sub ((Cg.md _).trans (Cg.sub (Cg.refl _) (Cg.mul (Cg.md _) (Cg.refl d)))) (Cg.refl _)
      have e2 : A.getD c 0 - o * K * d - A.getD c 0 = - (o * K * d) := by omega
      rw [e2] at e1
      have e3 := Cg.add ih (Cg.mul e1 (Cg.refl p))
      rwa [Int.neg_mul, ← Int.sub_eq_add_neg] at e3
    simp only [stR]
    rw [← hA, ← ho, ← hp, ← hE]
    split
    · next hc =>
      have h2 := evP_set x (((A.set c ((A.getD c 0 - o * K % 251 * d) % 251)).getD (c + 1) 0 + o * d) % 251) (A.set c ((A.getD c 0 - o * K % 251 * d) % 251)) (c + 1) (by rw [List.length_set, hA, hsl]; exact hc)
      rw [h2]
      obtain ⟨g, hg⟩ : ∃ g, g = (A.set c ((A.getD c 0 - o * K % 251 * d) % 251)).getD (c + 1) 0 := ⟨_, rfl⟩
      rw [← hg]
      have e1 : Cg ((g + o * d) % 251 - g) (g + o * d - g) := Cg.sub (Cg.md _) (Cg.refl _)
      have e2 : g + o * d - g = o * d := by omega
      rw [e2] at e1
      have e3 := Cg.add h1 (Cg.mul e1 (Cg.refl (pw x (c + 1))))
      have e4 : pw x (c + 1) = p * x := by rw [hp]; rfl
      rw [e4] at e3 ⊢
      have e5 : d * (x - K) * E - o * K * d * p + o * d * (p * x) = d * (x - K) * (E + o * p) := by
        simp only [Int.mul_add, Int.mul_sub, Int.sub_mul, Int.mul_assoc, Int.mul_comm, Int.mul_left_comm]
        omega
      rwa [e5] at e3
    · next hc =>
      have h0 : o = 0 := by rw [ho, show c = m - 1 by omega]; exact hz
      rw [h0] at h1 ⊢
      simpa using h1
theorem set_hi {l : List Int} {i j : Nat} {v : Int} (h : l.getD j 0 = 0) (hv : i = j → v = 0) : (l.set i v).getD j 0 = 0 := by
  by_cases hj : i = j
  · subst hj
    by_cases hl : i < l.length
    · simp [List.getD, hl, hv rfl]
    · rw [List.set_eq_of_length_le (by omega)]; exact h
  · have e : (l.set i v).getD j 0 = l.getD j 0 := by simp [List.getD, List.getElem?_set, hj]
    rw [e]; exact h
theorem stR_hi {one : List Int} {K d : Int} {m n : Nat} (hz : ∀ j, n < j → one.getD j 0 = 0) : ∀ c j, n + 1 < j → (stR one K d m c).getD j 0 = 0
  | 0, j, _ => by
    simp only [stR, List.getD, List.getElem?_replicate]
    split <;> rfl
  | c + 1, j, h => by
    have ih := stR_hi hz (K := K) (d := d) (m := m) c
    have h1 : ∀ j, n + 1 < j → ((stR one K d m c).set c (((stR one K d m c).getD c 0 - one.getD c 0 * K % 251 * d) % 251)).getD j 0 = 0 := fun j hj => by
      refine set_hi (ih j hj) fun e => ?_
      subst e
      rw [ih c hj, hz c (by omega), Int.zero_mul]; simp
    simp only [stR]
    split
    · refine set_hi (h1 j h) fun e => ?_
      rw [e, h1 j h, hz c (by omega), Int.zero_mul]; rfl
    · exact h1 j h
/-- The polynomial that is 1 at one keeper and 0 at others, the first n shares. -/
def onR (ks : List Int) (i m : Nat) : Nat → List Int
  | 0 => 1 :: List.replicate (m - 1) 0
  | n + 1 => if n = i then onR ks i m n else stR (onR ks i m n) (ks.getD n 0) (invN ((ks.getD i 0 - ks.getD n 0) % 251)) m m
theorem onR_len {m : Nat} (hm : 0 < m) (ks : List Int) (i : Nat) : ∀ n, (onR ks i m n).length = m
  | 0 => by simp [onR]; omega
  | n + 1 => by
    have ih := onR_len hm ks i n
    simp only [onR]
    split
    · exact ih
    · exact stR_len _ _ _ _ _
theorem onR_nb (ks : List Int) (i m : Nat) : ∀ n, nbL (onR ks i m n)
  | 0 => fun j => by
    cases j with
    | zero => simp only [onR, List.getD_cons_zero]; unfold nb; decide
    | succ j => simp only [onR, List.getD_cons_succ]; exact rep_nb _ j
  | n + 1 => by
    have ih := onR_nb ks i m n
    simp only [onR]
    split
    · exact ih
    · exact stR_nb _ _ _ _ _
theorem onR_hi (ks : List Int) (i m : Nat) : ∀ n j, (if i < n then n - 1 else n) < j → (onR ks i m n).getD j 0 = 0
  | 0, j, h => by
    obtain ⟨k, rfl⟩ : ∃ k, j = k + 1 := ⟨j - 1, by simp at h; omega⟩
    simp only [onR, List.getD_cons_succ]
    exact rep_g0 _ _
  | n + 1, j, h => by
    have ih := onR_hi ks i m n
    simp only [onR]
    by_cases hn : n = i
    · rw [if_pos hn]
      refine ih j ?_
      rw [if_neg (by omega)]
      rw [if_pos (by omega)] at h
      omega
    · rw [if_neg hn]
      refine stR_hi ih _ _ ?_
      by_cases h2 : i < n
      · rw [if_pos h2]; rw [if_pos (by omega)] at h; omega
      · rw [if_neg h2]; rw [if_neg (by omega)] at h; omega
theorem inv_sub {ks : List Int} {i n : Nat} (h : ¬ Cg (ks.getD i 0) (ks.getD n 0)) : Cg (invN ((ks.getD i 0 - ks.getD n 0) % 251) * (ks.getD i 0 - ks.getD n 0)) 1 := by
  have hb := md_bd (ks.getD i 0 - ks.getD n 0)
  have hne : (ks.getD i 0 - ks.getD n 0) % 251 ≠ 0 := fun e => h (by
    have := Cg.add (Cg.zero.2 e) (Cg.refl (ks.getD n 0))
    have e2 : ks.getD i 0 - ks.getD n 0 + ks.getD n 0 = ks.getD i 0 := by omega
    rw [e2] at this
    simpa using this)
  exact (Cg.mul (Cg.refl _) (Cg.md _).symm).trans (inv_ok (n := (ks.getD i 0 - ks.getD n 0) % 251) (by omega)).1
theorem onR_step {ks : List Int} {i m n : Nat} (x : Int) (hn : n < m) (hi : i < m) (hne : n ≠ i) : Cg (evP (onR ks i m (n + 1)) x) (invN ((ks.getD i 0 - ks.getD n 0) % 251) * (x - ks.getD n 0) * evP (onR ks i m n) x) := by
  have hl := onR_len (show 0 < m by omega) ks i n
  have hz : (onR ks i m n).getD (m - 1) 0 = 0 := onR_hi ks i m n (m - 1) (by split <;> omega)
  have := stR_ev x hl hz (K := ks.getD n 0) (d := invN ((ks.getD i 0 - ks.getD n 0) % 251)) m (Nat.le_refl _)
  simp only [onR]
  rw [if_neg hne]
  rwa [show (onR ks i m n).take m = onR ks i m n from List.take_of_length_le (by omega)] at this
theorem onR_one {ks : List Int} (hd : Dist ks) {i : Nat} (hi : i < ks.length) : ∀ n, n ≤ ks.length → Cg (evP (onR ks i ks.length n) (ks.getD i 0)) 1
  | 0, _ => by simp [onR, evP, rep_ev]; rfl
  | n + 1, h => by
    have ih := onR_one hd hi n (by omega)
    by_cases hn : n = i
    · simp only [onR]; rw [if_pos hn]; exact ih
    · have h1 := onR_step (ks := ks) (m := ks.length) (ks.getD i 0) (show n < ks.length by omega) hi hn
      have h2 := inv_sub (ks := ks) (i := i) (n := n) (hd.ne hi (by omega) hn)
      have := h1.trans (Cg.mul h2 ih)
      simpa using this
theorem onR_zero {ks : List Int} {i t : Nat} (hi : i < ks.length) (ht : t ≠ i) : ∀ n, t < n → n ≤ ks.length → Cg (evP (onR ks i ks.length n) (ks.getD t 0)) 0
  | 0, h, _ => absurd h (by omega)
  | n + 1, h, h2 => by
    by_cases hn : n = i
    · have ih := onR_zero (ks := ks) hi ht n (by omega) (by omega)
      simp only [onR]; rw [if_pos hn]; exact ih
    · have h1 := onR_step (ks := ks) (m := ks.length) (ks.getD t 0) (show n < ks.length by omega) hi hn
      by_cases htn : t = n
      · subst htn
        rw [Int.sub_self, Int.mul_zero, Int.zero_mul] at h1
        exact h1
      · have ih := onR_zero (ks := ks) hi ht n (by omega) (by omega)
        have := h1.trans (Cg.mul (Cg.refl _) ih)
        simpa using this
/-- What is added to the polynomial for one share. -/
def acR (out one : List Int) (v : Int) : List Int := List.zipWith (fun a b => (a + b * v) % 251) out one
theorem acR_len {out one : List Int} (v : Int) (h : out.length = one.length) : (acR out one v).length = out.length := by simp [acR, h]
theorem acR_get {out one : List Int} {v : Int} {i : Nat} (h : i < out.length) (h2 : out.length = one.length) : (acR out one v).getD i 0 = (out.getD i 0 + one.getD i 0 * v) % 251 := zw_get h (by omega)
theorem acR_bd (out one : List Int) (v : Int) : nbL (acR out one v) := fun i => by
  have := inl_bd (zip_bd (f := fun a b => (a + b * v) % 251) (fun a b => md_bd _) out one) i
  unfold nb; unfold acR; omega
theorem acR_ev (x v : Int) {out one : List Int} (h : out.length = one.length) : Cg (evP (acR out one v) x) (evP out x + v * evP one x) := by
  have h1 : Cg (evP (acR out one v) x) (evP (plsL out (scaL one v)) x) := by
    refine evP_cg (by rw [acR_len v h, plsL_len (by rw [scaL_len]; exact h)]) (fun i hi => ?_) rfl
    rw [acR_len v h] at hi
    rw [acR_get hi h]
    have e : (plsL out (scaL one v)).getD i 0 = pls (out.getD i 0) ((scaL one v).getD i 0) := zw_get hi (by rw [scaL_len]; omega)
    have e2 : (scaL one v).getD i 0 = tms (one.getD i 0) v := (scaL_get (by omega)).symm
    rw [e, e2]
    exact (Cg.md _).trans ((Cg.add (Cg.refl _) (tms_cg _ _).symm).trans (pls_cg _ _).symm)
  exact h1.trans ((plsL_ev x (by rw [scaL_len]; exact h)).trans (Cg.add (Cg.refl _) (scaL_ev _ _ _)))
/-- The polynomial through the first n shares and through 0 at the others. -/
def thR (ks vs : List Int) (m : Nat) : Nat → List Int
  | 0 => List.replicate m 0
  | n + 1 => acR (thR ks vs m n) (onR ks n m m) (vs.getD n 0)
theorem thR_len {m : Nat} (hm : 0 < m) (ks vs : List Int) : ∀ n, (thR ks vs m n).length = m
  | 0 => by simp [thR]
  | n + 1 => by
    have ih := thR_len hm ks vs n
    simp only [thR]
    rw [acR_len _ (by rw [ih, onR_len hm]), ih]
theorem thR_nb (ks vs : List Int) (m : Nat) : ∀ n, nbL (thR ks vs m n)
  | 0 => rep_nb m
  | n + 1 => acR_bd _ _ _
theorem thR_at {ks vs : List Int} (hd : Dist ks) {t : Nat} (ht : t < ks.length) : ∀ n, n ≤ ks.length → Cg (evP (thR ks vs ks.length n) (ks.getD t 0)) (if t < n then vs.getD t 0 else 0)
  | 0, _ => by simp [thR, rep_ev]; rfl
  | n + 1, h => by
    have ih := thR_at (vs := vs) hd ht n (by omega)
    have h1 := acR_ev (ks.getD t 0) (vs.getD n 0) (out := thR ks vs ks.length n) (one := onR ks n ks.length ks.length) (by rw [thR_len (by omega), onR_len (by omega)])
    simp only [thR]
    refine h1.trans ?_
    by_cases hn : t = n
    · subst hn
      rw [if_neg (by omega)] at ih
      rw [if_pos (by omega)]
      have h2 := onR_one hd (show t < ks.length by omega) ks.length (Nat.le_refl _)
      have := Cg.add ih (Cg.mul (Cg.refl (vs.getD t 0)) h2)
      simpa using this
    · have h2 := onR_zero (ks := ks) (i := n) (t := t) (by omega) hn ks.length ht (Nat.le_refl _)
      have := Cg.add ih (Cg.mul (Cg.refl (vs.getD n 0)) h2)
      by_cases h3 : t < n
      · rw [if_pos h3] at this; rw [if_pos (by omega)]; simpa using this
      · rw [if_neg h3] at this; rw [if_neg (by omega)]; simpa using this
theorem thR_newton {ks vs : List Int} (hd : Dist ks) (h : 0 < ks.length) : thR ks vs ks.length ks.length = newtonL ks vs := by
  refine (newton_eq hd h (thR_len h ks vs _) (fun i hi => nb_lt (thR_nb ks vs _ _ i)) fun t ht => ?_).symm
  have := thR_at (vs := vs) hd ht ks.length (Nat.le_refl _)
  rwa [if_pos ht] at this
/-- What is stored over a list, so far. -/
def mixA (new old : List Int) (k : Nat) : List Int := new.take k ++ old.drop k
theorem mixA_len {new old : List Int} {k : Nat} (hl : new.length = old.length) (h : k ≤ old.length) : (mixA new old k).length = old.length := by simp [mixA]; omega
theorem mixA_get {new old : List Int} {k : Nat} (hl : new.length = old.length) (h : k < old.length) : (mixA new old k).getD k 0 = old.getD k 0 := by
  unfold mixA
  have h1 : (new.take k).length = k := by simp; omega
  simp only [List.getD]
  rw [List.getElem?_append_right (by omega), List.getElem?_drop, h1]
  simp
theorem mixA_set {new old : List Int} {k : Nat} (hl : new.length = old.length) (h : k < old.length) : (mixA new old k).set k (new.getD k 0) = mixA new old (k + 1) := by
  have hg : new.getD k 0 = new[k]'(by omega) := by simp [show k < new.length by omega]
  unfold mixA
  have h1 : (new.take k).length = k := by simp; omega
  rw [hg, List.set_append_right _ _ (by omega), h1, Nat.sub_self, List.drop_eq_getElem_cons h, List.set_cons_zero, List.take_succ_eq_append_getElem (show k < new.length by omega), List.append_assoc]
  rfl
theorem mixA_zero (new old : List Int) : mixA new old 0 = old := by simp [mixA]
theorem mixA_all {new old : List Int} (hl : new.length = old.length) : mixA new old new.length = new := by unfold mixA; rw [List.take_length, List.drop_of_length_le (by omega), List.append_nil]
end Go.Pv
