/-
  (heavy) What this text proves: the law VaultWrongs returns true, and all that only this law needs: keepers, orders of shares, sets of shares, the reference's left and Wrong. Conditions: the value reads as a list.
-/
import Derived.Test.YtngoipmdhliigaaVJ0
import Derived.Test.YtngoipmdhliigaaVJx
import Derived.Test.YtngoipmdhliigaaVJi
import Derived.Test.YtngoipmdhliigaaVKz
import Derived.Test.YtngoipmdhliigaaTw
set_option linter.unusedVariables false
set_option linter.unusedSimpArgs false
namespace Go.Pv
open Go.RowKit
/-- The coefficients of a lock. -/
def lockM (xs : List Int) : List Int := (xs.map (· % 251)).take 8
def lockL (xs : List Int) : List Int := if xs.length = 0 then [0] else lockM xs
theorem lockM_nb (xs : List Int) : nbL (lockM xs) := fun i => by
  unfold lockM
  by_cases h : i < ((xs.map (· % 251)).take 8).length
  · simp at h
    have hi : i < xs.length := by omega
    have e : ((xs.map (· % 251)).take 8).getD i 0 = xs[i] % 251 := by
      simp only [List.getD]; rw [List.getElem?_take_of_lt (by omega)]; simp [hi]
    rw [e]; exact nb_md _
  · have e : ((xs.map (· % 251)).take 8).getD i 0 = 0 := by simp only [List.getD]; rw [List.getElem?_eq_none (by omega)]; rfl
    rw [e]; unfold nb; decide
theorem lockL_nb (xs : List Int) : nbL (lockL xs) := by
  unfold lockL
  split
  · intro i
    cases i with
    | zero => simp [nb]
    | succ i => simp [nb]
  · exact lockM_nb xs
theorem lockL_len (xs : List Int) : 1 ≤ (lockL xs).length ∧ (lockL xs).length ≤ 8 := by
  unfold lockL
  split
  · simp
  · unfold lockM; simp; omega
theorem lock_step (xs : List Int) (k : Nat) (h : k < xs.length) : (xs.map (· % 251)).take (k + 1) = (xs.map (· % 251)).take k ++ [xs.getD k 0 % 251] := by
  rw [List.take_succ_eq_append_getElem (by simpa using h)]; simp [h]
theorem lock_fin {xs : List Int} {k : Nat} (h8 : k ≤ 8) (hk : k ≤ xs.length) (h : ¬ k < xs.length ∨ ¬ k < 8) (h0 : xs.length ≠ 0) : (xs.map (· % 251)).take k = lockL xs := by
  unfold lockL lockM
  rw [if_neg h0]
  rcases Nat.lt_or_ge k 8 with h1 | h1
  · rw [List.take_of_length_le (by simp; omega), List.take_of_length_le (by simp; omega)]
  · rw [show k = 8 by omega]
theorem sum_next {l : List Int} {x : Int} {k : Nat} (hk : k < l.length) : (evP (l.take k) x % 251 + l.getD k 0 * pw x k % 251) % 251 = evP (l.take (k + 1)) x % 251 := by
  have hg : l.getD k 0 = l[k] := by simp [hk]
  rw [List.take_succ_eq_append_getElem hk, evP_app, hg, List.length_take, Nat.min_eq_left (by omega)]
  exact Cg.eq ((Cg.md _).trans ((Cg.add (Cg.md _) (Cg.md _)).trans (Cg.md _).symm)) (md_bd _) (md_bd _)
theorem pw_step (c x : Int) (k : Nat) : c * pw x k % 251 * x % 251 = c * pw x (k + 1) % 251 := by
  refine Cg.eq ((Cg.md _).trans ((Cg.mul (Cg.md _) (Cg.refl x)).trans ?_)) (md_bd _) (md_bd _)
  have e : c * pw x k * x = c * pw x (k + 1) := by simp only [pw]; rw [Int.mul_assoc]
  rw [e]; exact (Cg.md _).symm
/-- Shares of a polynomial. -/
def shL (l ks : List Int) : List (Int × Int) := ks.map fun k => (k, atP l k)
theorem shL_len (l ks : List Int) : (shL l ks).length = ks.length := by simp [shL]
theorem shL_next (l ks : List Int) (k : Int) : shL l (ks ++ [k]) = shL l ks ++ [(k, atP l k)] := by simp [shL]
/-- Keepers, all different. -/
def KsOk (ks : List Int) : Prop := ks.Nodup ∧ ∀ k ∈ ks, 1 ≤ k ∧ k ≤ 20
theorem nodup_le : ∀ (n : Nat) (ks : List Int), ks.Nodup → (∀ k ∈ ks, 1 ≤ k ∧ k ≤ (n : Int)) → ks.length ≤ n
  | 0, [], _, _ => Nat.le_refl _
  | 0, a :: r, _, h => by have := h a (by simp); omega
  | n + 1, ks, hn, h => by
    by_cases hm : ((n : Int) + 1) ∈ ks
    · have ih := nodup_le n (ks.erase ((n : Int) + 1)) (hn.erase _) fun k hk => by
        have h1 := (hn.mem_erase_iff).1 hk
        have := h k h1.2
        have := h1.1
        omega
      rw [List.length_erase_of_mem hm] at ih
      omega
    · have := nodup_le n ks hn fun k hk => by
        have h1 := h k hk
        have : k ≠ (n : Int) + 1 := fun e => hm (e ▸ hk)
        omega
      omega
theorem all_ge : ∀ (n : Nat) (ks : List Int), (∀ j : Nat, j < n → ((j : Int) + 1) ∈ ks) → n ≤ ks.length
  | 0, _, _ => Nat.zero_le _
  | n + 1, ks, h => by
    have hm := h n (by omega)
    have ih := all_ge n (ks.erase ((n : Int) + 1)) fun j hj => by
      have := h j (by omega)
      rwa [List.mem_erase_of_ne (by omega)]
    rw [List.length_erase_of_mem hm] at ih
    have : 0 < ks.length := List.length_pos_of_mem hm
    omega
theorem KsOk.le {ks : List Int} (h : KsOk ks) : ks.length ≤ 20 := nodup_le 20 ks h.1 h.2
theorem KsOk.nil : KsOk [] := ⟨List.nodup_nil, fun k h => by simp at h⟩
theorem KsOk.next {ks : List Int} {k : Int} (h : KsOk ks) (hk : 1 ≤ k ∧ k ≤ 20) (hm : ¬ k ∈ ks) : KsOk (ks ++ [k]) := by
  refine ⟨?_, fun x hx => ?_⟩
  · rw [List.nodup_append]
    refine ⟨h.1, by simp, fun a ha b hb => ?_⟩
    simp at hb; subst hb
    exact fun e => hm (e ▸ ha)
  · simp at hx
    rcases hx with hx | rfl
    · exact h.2 x hx
    · exact hk
def kAt (bs : List Int) (i : Nat) : Int := if i < bs.length then 1 + bs.getD i 0 % 20 else 1 + (i : Int) % 20
def smK (bs : List Int) (least : Nat) : Nat → Nat → List Int → List Int
  | 0, _, ks => ks
  | f + 1, i, ks => if i < bs.length ∨ ks.length < least then smK bs least f (i + 1) (if kAt bs i ∈ ks then ks else ks ++ [kAt bs i]) else ks
/-- The keepers that numbers say. -/
def someK (bs : List Int) (least : Nat) : List Int := smK bs least (bs.length + 20) 0 []
theorem smK_end {bs : List Int} {least i : Nat} {ks : List Int} (h : ¬ (i < bs.length ∨ ks.length < least)) : ∀ f, smK bs least f i ks = ks
  | 0 => rfl
  | f + 1 => by simp only [smK]; rw [if_neg h]
theorem smK_old {bs : List Int} {least i f : Nat} {ks : List Int} (h : i < bs.length ∨ ks.length < least) (hf : 0 < f) (hm : kAt bs i ∈ ks) : smK bs least f i ks = smK bs least (f - 1) (i + 1) ks := by
  obtain ⟨g, rfl⟩ : ∃ g, f = g + 1 := ⟨f - 1, by omega⟩
  simp only [smK]; rw [if_pos h, if_pos hm]; rfl
theorem smK_new {bs : List Int} {least i f : Nat} {ks : List Int} (h : i < bs.length ∨ ks.length < least) (hf : 0 < f) (hm : ¬ kAt bs i ∈ ks) : smK bs least f i ks = smK bs least (f - 1) (i + 1) (ks ++ [kAt bs i]) := by
  obtain ⟨g, rfl⟩ : ∃ g, f = g + 1 := ⟨f - 1, by omega⟩
  simp only [smK]; rw [if_pos h, if_neg hm]; rfl
theorem smK_old2 {bs : List Int} {least i N : Nat} {ks X : List Int} (h : i < bs.length ∨ ks.length < least) (hf : i < N) (hm : kAt bs i ∈ ks) (e : smK bs least (N - i) i ks = X) : smK bs least (N - (i + 1)) (i + 1) ks = X := by
  rw [smK_old h (by omega) hm] at e
  rwa [show N - (i + 1) = N - i - 1 by omega]
theorem smK_new2 {bs : List Int} {least i N : Nat} {ks X : List Int} {k : Int} (h : i < bs.length ∨ ks.length < least) (hf : i < N) (hk : kAt bs i = k) (hm : ¬ k ∈ ks) (e : smK bs least (N - i) i ks = X) : smK bs least (N - (i + 1)) (i + 1) (ks ++ [k]) = X := by
  subst hk
  rw [smK_new h (by omega) hm] at e
  rwa [show N - (i + 1) = N - i - 1 by omega]
theorem all_full {bs ks : List Int} {i : Nat} (h : ∀ j : Nat, bs.length ≤ j → j < i → (1 + (j : Int) % 20) ∈ ks) : i = bs.length + 20 → 20 ≤ ks.length := by
  intro hi
  refine all_ge 20 ks fun j hj => ?_
  have := h (bs.length + (j + 20 - bs.length % 20) % 20) (by omega) (by omega)
  have e : (1 + ((bs.length + (j + 20 - bs.length % 20) % 20 : Nat) : Int) % 20) = (j : Int) + 1 := by omega
  rwa [e] at this
theorem kAt_bd {bs : List Int} (hb : ∀ j, 0 ≤ bs.getD j 0 ∧ bs.getD j 0 ≤ 255) (i : Nat) : 1 ≤ kAt bs i ∧ kAt bs i ≤ 20 := by
  have := hb i
  unfold kAt
  split <;> omega
/-- Which keepers have come up. -/
def metK (ks : List Int) : List Value := (List.range 21).map fun (j : Nat) => .bool (decide ((j : Int) ∈ ks))
theorem metK_len (ks : List Int) : (metK ks).length = 21 := by simp [metK]
theorem metK_nil : metK [] = List.replicate 21 (.bool false) := by simp [metK]; rfl
theorem metK_get {ks : List Int} {j : Nat} (h : j < 21) : (metK ks)[j]? = some (.bool (decide ((j : Int) ∈ ks))) := by simp [metK, h]
theorem metK_yes {ks : List Int} {j : Nat} (h : j < 21) (hm : (j : Int) ∈ ks) : (metK ks)[j * 1]? = some (.bool true) := by rw [Nat.mul_one, metK_get h, decide_eq_true hm]
theorem metK_no {ks : List Int} {j : Nat} (h : j < 21) (hm : ¬ (j : Int) ∈ ks) : (metK ks)[j * 1]? = some (.bool false) := by rw [Nat.mul_one, metK_get h, decide_eq_false hm]
theorem metK_set {ks : List Int} {j : Nat} : (metK ks).set j (.bool true) = metK (ks ++ [(j : Int)]) := by
  apply List.ext_getElem?
  intro i
  by_cases hi : i < 21
  · rw [metK_get hi]
    by_cases e : i = j
    · subst e
      rw [List.getElem?_set_self (by rw [metK_len]; exact hi)]
      simp
    · rw [List.getElem?_set_ne (fun x => e x.symm), metK_get hi]
      congr 2
      simp only [List.mem_append, List.mem_singleton]
      refine decide_eq_decide.2 ⟨fun h => .inl h, fun h => h.resolve_right (by omega)⟩
  · rw [List.getElem?_eq_none (by rw [List.length_set, metK_len]; omega), List.getElem?_eq_none (by rw [metK_len]; omega)]
theorem met_next {bs ks : List Int} {i : Nat} {k : Int} (h : ∀ j : Nat, bs.length ≤ j → j < i → (1 + (j : Int) % 20) ∈ ks) (hk : ¬ i < bs.length → 1 + (i : Int) % 20 = k) : ∀ j : Nat, bs.length ≤ j → j < i + 1 → (1 + (j : Int) % 20) ∈ ks ++ [k] := by
  intro j h1 h2
  by_cases e : j = i
  · subst e
    rw [hk (by omega)]; simp
  · exact List.mem_append_left _ (h j h1 (by omega))
theorem met_old {bs ks : List Int} {i : Nat} {k : Int} (h : ∀ j : Nat, bs.length ≤ j → j < i → (1 + (j : Int) % 20) ∈ ks) (hk : ¬ i < bs.length → 1 + (i : Int) % 20 = k) (hm : k ∈ ks) : ∀ j : Nat, bs.length ≤ j → j < i + 1 → (1 + (j : Int) % 20) ∈ ks := by
  intro j h1 h2
  by_cases e : j = i
  · subst e
    rw [hk (by omega)]; exact hm
  · exact h j h1 (by omega)
end Go.Pv
namespace Go.Pv
open Go.RowKit
theorem smK_ok {bs : List Int} {least : Nat} (hb : ∀ j, 0 ≤ bs.getD j 0 ∧ bs.getD j 0 ≤ 255) (hle : least ≤ 20) : ∀ (f i : Nat) (ks : List Int), f + i = bs.length + 20 → KsOk ks → (∀ j : Nat, bs.length ≤ j → j < i → (1 + (j : Int) % 20) ∈ ks) → KsOk (smK bs least f i ks) ∧ least ≤ (smK bs least f i ks).length
  | 0, i, ks, hi, hk, ha => by
    have := all_full ha (by omega)
    exact ⟨hk, by simp only [smK]; omega⟩
  | f + 1, i, ks, hi, hk, ha => by
    simp only [smK]
    have hka := kAt_bd hb i
    have hk2 : ¬ i < bs.length → 1 + (i : Int) % 20 = kAt bs i := fun hh => by unfold kAt; rw [if_neg hh]
    by_cases hc : i < bs.length ∨ ks.length < least
    · rw [if_pos hc]
      by_cases hm : kAt bs i ∈ ks
      · rw [if_pos hm]
        exact smK_ok hb hle f (i + 1) ks (by omega) hk (met_old ha hk2 hm)
      · rw [if_neg hm]
        exact smK_ok hb hle f (i + 1) _ (by omega) (hk.next hka hm) (met_next ha hk2)
    · rw [if_neg hc]
      exact ⟨hk, by omega⟩
theorem someK_ok {bs : List Int} {least : Nat} (hb : ∀ j, 0 ≤ bs.getD j 0 ∧ bs.getD j 0 ≤ 255) (hle : least ≤ 20) : KsOk (someK bs least) ∧ least ≤ (someK bs least).length :=
  smK_ok hb hle _ 0 [] (by omega) KsOk.nil fun j h1 h2 => absurd h2 (Nat.not_lt_zero _)
/-- Shares without an error. -/
def ShOk (sh : List (Int × Int)) : Prop := KsOk (kS sh) ∧ ∀ i, 0 ≤ (sh.getD i (0, 0)).2 ∧ (sh.getD i (0, 0)).2 ≤ 250
theorem mem_get {ks : List Int} {i : Nat} (h : i < ks.length) : ks.getD i 0 ∈ ks := by
  have e : ks.getD i 0 = ks[i] := by simp [h]
  rw [e]; exact List.getElem_mem h
theorem nodup_take {ks : List Int} (h : ks.Nodup) {i : Nat} (hi : i < ks.length) : ¬ ks.getD i 0 ∈ ks.take i := by
  intro hm
  obtain ⟨j, hj, e⟩ := List.getElem_of_mem hm
  rw [List.getElem_take] at e
  have hj2 : j < i := by simp at hj; omega
  have e2 : ks.getD i 0 = ks[i] := by simp [hi]
  rw [e2] at e
  have := (List.nodup_iff_pairwise_ne.1 h)
  rw [List.pairwise_iff_getElem] at this
  exact this j i (by omega) hi hj2 e
theorem errF_zero {sh : List (Int × Int)} (h : ∀ j, j < sh.length → rngS (sh.getD j (0, 0)) ∧ ¬ (sh.getD j (0, 0)).1 ∈ (kS sh).take j) : ∀ f i, f + i ≤ sh.length → errF sh f i = 0
  | 0, i, _ => rfl
  | f + 1, i, hi => by
    have hh := h i (by omega)
    simp only [errF]
    rw [if_neg (Classical.not_not.2 hh.1), if_neg hh.2]
    exact errF_zero h f (i + 1) (by omega)
theorem ShOk.err {sh : List (Int × Int)} (h : ShOk sh) : shErr sh = 0 := by
  refine errF_zero (fun j hj => ?_) _ 0 (by omega)
  have hj2 : j < (kS sh).length := by rw [kS_len]; exact hj
  have h1 := h.1.2 _ (mem_get hj2)
  have h2 := nodup_take h.1.1 hj2
  rw [kS_get] at h1 h2
  exact ⟨⟨h1, h.2 j⟩, h2⟩
theorem ShOk.len {sh : List (Int × Int)} (h : ShOk sh) : sh.length ≤ 20 := by have := h.1.le; rwa [kS_len] at this
theorem ShOk.chk {sh : List (Int × Int)} (h : ShOk sh) {n : Int} (hn : 1 ≤ n ∧ n ≤ 8) : chk n sh = 0 := by
  have := h.len
  unfold Pv.chk
  rw [if_neg (by omega), if_neg (by omega)]
  exact h.err
theorem ShOk.ok {sh : List (Int × Int)} (h : ShOk sh) : okS sh := (sh_ok h.err).1
theorem ShOk.dist {sh : List (Int × Int)} (h : ShOk sh) : Dist (kS sh) := (sh_ok h.err).2
theorem ShOk.take {sh : List (Int × Int)} (h : ShOk sh) (m : Nat) : ShOk (sh.take m) := by
  refine ⟨?_, fun i => ?_⟩
  · rw [kS_take]
    exact ⟨h.1.1.sublist (List.take_sublist _ _), fun k hk => h.1.2 k (List.mem_of_mem_take hk)⟩
  · by_cases hi : i < (sh.take m).length
    · have hi2 : i < m := by simp at hi; omega
      have e : (sh.take m).getD i (0, 0) = sh.getD i (0, 0) := by simp only [List.getD]; rw [List.getElem?_take_of_lt hi2]
      rw [e]; exact h.2 i
    · have e : (sh.take m).getD i (0, 0) = (0, 0) := by simp only [List.getD]; rw [List.getElem?_eq_none (by omega)]; rfl
      rw [e]; decide
theorem kS_shL (l : List Int) : ∀ ks, kS (shL l ks) = ks
  | [] => rfl
  | a :: r => congrArg (a :: ·) (kS_shL l r)
theorem shL_get {l ks : List Int} {i : Nat} (h : i < ks.length) : (shL l ks).getD i (0, 0) = (ks.getD i 0, atP l (ks.getD i 0)) := by
  unfold shL; simp [List.getD, h]
theorem shL_ok (l : List Int) {ks : List Int} (h : KsOk ks) : ShOk (shL l ks) := by
  refine ⟨by rw [kS_shL]; exact h, fun i => ?_⟩
  by_cases hi : i < ks.length
  · rw [shL_get hi]; have := md_bd (evP l (ks.getD i 0)); unfold atP; simp only; omega
  · have e : (shL l ks).getD i (0, 0) = (0, 0) := by simp only [List.getD]; rw [List.getElem?_eq_none (by rw [shL_len]; omega)]; rfl
    rw [e]; decide
/-- The polynomial with so many coefficients that goes through the first shares is the one that is restored. -/
theorem rest_is {sh : List (Int × Int)} {m : Nat} {P : List Int} (hd : Dist (kS sh)) (hm : 1 ≤ m) (hl : m ≤ sh.length) (hP : P.length = m) (hb : nbL P) (h : ∀ i, i < m → atP P (sh.getD i (0, 0)).1 = (sh.getD i (0, 0)).2) : restL m sh = P := by
  have hdt : Dist (kS (sh.take m)) := by rw [kS_take]; exact hd.take m
  have htl : (kS (sh.take m)).length = m := by rw [kS_len]; simp; omega
  refine newton_eq hdt (by omega) (by omega) (fun i _ => nb_lt (hb i)) fun t ht => ?_
  have htm : t < m := by omega
  have e : (sh.take m).getD t (0, 0) = sh.getD t (0, 0) := by simp only [List.getD]; rw [List.getElem?_take_of_lt htm]
  rw [kS_get, vS_get, e, ← h t htm]
  exact (atP_cg _ _).symm
theorem agree_inv {sh : List (Int × Int)} {m : Nat} (hd : Dist (kS sh)) (hm : 1 ≤ m) (hl : m ≤ sh.length) (h : agreeP m sh) : ∀ i, i < sh.length → atP (restL m sh) (sh.getD i (0, 0)).1 = (sh.getD i (0, 0)).2 :=
  (off_nil _).1 ((agree_many hd hm hl).1 h)
theorem agree_of {sh : List (Int × Int)} {m : Nat} {P : List Int} (hs : okS sh) (hd : Dist (kS sh)) (hm : 1 ≤ m) (hP : P.length = m) (hb : nbL P) (h : ∀ i, i < sh.length → atP P (sh.getD i (0, 0)).1 = (sh.getD i (0, 0)).2) : agreeP m sh := by
  by_cases hl : m ≤ sh.length
  · rw [agree_many hd hm hl, rest_is hd hm hl hP hb fun i hi => h i (by omega)]
    exact (off_nil _).2 h
  · exact agree_few hs hd (by omega)
theorem shL_at {l ks : List Int} {i : Nat} (h : i < (shL l ks).length) : atP l ((shL l ks).getD i (0, 0)).1 = ((shL l ks).getD i (0, 0)).2 := by
  rw [shL_len] at h
  rw [shL_get h]
theorem shL_rest {l ks : List Int} (hk : KsOk ks) (hb : nbL l) (h1 : 1 ≤ l.length) (hl : l.length ≤ ks.length) : restL l.length (shL l ks) = l :=
  rest_is (shL_ok l hk).dist h1 (by rw [shL_len]; exact hl) rfl hb fun i hi => shL_at (by rw [shL_len]; omega)
theorem shL_agree {l ks : List Int} (hk : KsOk ks) (hb : nbL l) (h1 : 1 ≤ l.length) : agreeP l.length (shL l ks) :=
  agree_of (shL_ok l hk).ok (shL_ok l hk).dist h1 rfl hb fun i hi => shL_at hi
theorem shL_whole {l ks : List Int} (hk : KsOk ks) (hb : nbL l) (h1 : 1 ≤ l.length ∧ l.length ≤ 8) (hl : l.length ≤ ks.length) : whole (l.length : Int) (shL l ks) = 0 := by
  unfold whole
  rw [(shL_ok l hk).chk (by omega), if_neg (by decide), if_neg (by rw [shL_len]; omega), Int.toNat_natCast, if_pos (shL_agree hk hb h1.1)]
theorem shL_zero {l ks : List Int} (hk : KsOk ks) (hb : nbL l) (h1 : 1 ≤ l.length) (hl : l.length ≤ ks.length) : lgS (shL l ks) l.length 0 = l.getD 0 0 := by
  rw [lgS_zero (shL_ok l hk).dist h1 (by rw [shL_len]; exact hl), shL_rest hk hb h1 hl]
theorem deal_get {l : List Int} {n k : Nat} (h : k < n) : (dealL l n).getD k (0, 0) = ((k : Int) + 1, atP l ((k : Int) + 1)) := by
  unfold dealL; simp [List.getD, h]
theorem deal_len (l : List Int) (n : Nat) : (dealL l n).length = n := by simp [dealL]
theorem pol_good {l : List Int} (hb : nbL l) (h : 1 ≤ l.length ∧ l.length ≤ 8) : polErr l = 0 := pol_ok (by omega) h.2 fun i _ => hb i
end Go.Pv
namespace Go.Pv
open Go.RowKit
theorem evP_pad (c : List Int) (x : Int) : ∀ k, evP (c ++ List.replicate k 0) x = evP c x
  | 0 => by simp
  | k + 1 => by
    rw [List.replicate_succ', ← List.append_assoc, evP_app, evP_pad c x k]; simp
theorem pad_nb {c : List Int} (h : nbL c) (k : Nat) : nbL (c ++ List.replicate k 0) := fun i => by
  simp only [List.getD, List.getElem?_append]
  split
  · exact h i
  · simp only [List.getElem?_replicate]
    split <;> (unfold nb; decide)
theorem mem_iff_get {sh : List (Int × Int)} {p : Int × Int → Prop} : (∀ x ∈ sh, p x) ↔ ∀ i, i < sh.length → p (sh.getD i (0, 0)) := by
  constructor
  · intro h i hi
    have e : sh.getD i (0, 0) = sh[i] := by simp [hi]
    rw [e]; exact h _ (List.getElem_mem hi)
  · intro h x hx
    obtain ⟨i, hi, rfl⟩ := List.getElem_of_mem hx
    have e : sh.getD i (0, 0) = sh[i] := by simp [hi]
    rw [← e]; exact h i hi
/-- Shares agree just if a polynomial with so many coefficients goes through all of them. -/
theorem agree_iff {sh : List (Int × Int)} {m : Nat} (h : ShOk sh) (hm : 1 ≤ m) : agreeP m sh ↔ ∃ P : List Int, P.length = m ∧ nbL P ∧ ∀ x ∈ sh, atP P x.1 = x.2 := by
  constructor
  · intro ha
    by_cases hl : m ≤ sh.length
    · exact ⟨restL m sh, rest_len hm hl, rest_nb _ _, mem_iff_get.2 (agree_inv h.dist hm hl ha)⟩
    · have hn : (newtonL (kS sh) (vS sh)).length = sh.length := by
        by_cases h0 : sh.length = 0
        · have : sh = [] := List.eq_nil_of_length_eq_zero h0
          subst this; rfl
        · rw [newton_len _ _ (by rw [kS_len]; omega), kS_len]
      refine ⟨newtonL (kS sh) (vS sh) ++ List.replicate (m - sh.length) 0, by simp [hn]; omega, pad_nb (by unfold newtonL; exact nsm_nb _ _ _) _, mem_iff_get.2 fun i hi => ?_⟩
      have e := newton_ok (vs := vS sh) h.dist (t := i) (by rw [kS_len]; exact hi)
      rw [kS_get, vS_get] at e
      have hb := h.2 i
      unfold atP
      rw [evP_pad]
      exact ((Cg.md _).trans e).eq (md_bd _) (by omega)
  · rintro ⟨P, hP, hb, hx⟩
    exact agree_of h.ok h.dist hm hP hb (mem_iff_get.1 hx)
theorem rest_mem {sh : List (Int × Int)} {m : Nat} {P : List Int} (h : ShOk sh) (hm : 1 ≤ m) (hl : m ≤ sh.length) (hP : P.length = m) (hb : nbL P) (hx : ∀ x ∈ sh, atP P x.1 = x.2) : restL m sh = P :=
  rest_is h.dist hm hl hP hb fun i hi => mem_iff_get.1 hx i (by omega)
theorem ShOk.nodup {sh : List (Int × Int)} (h : ShOk sh) : sh.Nodup :=
  List.Pairwise.of_map (fun x => x.1) (fun a b hab e => hab (congrArg Prod.fst e)) h.1.1
theorem ShOk.sub {sh c : List (Int × Int)} (h : ShOk sh) (hs : c.Sublist sh) : ShOk c := by
  refine ⟨⟨h.1.1.sublist (hs.map _), fun k hk => h.1.2 k ((hs.map _).subset hk)⟩, fun i => ?_⟩
  by_cases hi : i < c.length
  · have e : c.getD i (0, 0) = c[i] := by simp [hi]
    have hm := hs.subset (List.getElem_mem hi)
    have := mem_iff_get (sh := sh) (p := fun x => 0 ≤ x.2 ∧ x.2 ≤ 250) |>.2 (fun j _ => h.2 j) _ hm
    rw [e]; exact this
  · have e : c.getD i (0, 0) = (0, 0) := by simp only [List.getD]; rw [List.getElem?_eq_none (by omega)]; rfl
    rw [e]; decide
/-- The same shares, perhaps in another order. -/
def Same (s t : List (Int × Int)) : Prop := s.Perm t
section
variable {s t : List (Int × Int)} {m : Nat}
theorem ShOk.perm (h : ShOk s) (e : s.Perm t) : ShOk t := by
  refine ⟨⟨(e.map _).nodup_iff.1 h.1.1, fun k hk => h.1.2 k ((e.map _).mem_iff.2 hk)⟩, fun i => ?_⟩
  by_cases hi : i < t.length
  · have e2 : t.getD i (0, 0) = t[i] := by simp [hi]
    have hm := e.mem_iff.2 (List.getElem_mem hi)
    have := mem_iff_get (sh := s) (p := fun x => 0 ≤ x.2 ∧ x.2 ≤ 250) |>.2 (fun j _ => h.2 j) _ hm
    rw [e2]; exact this
  · have e2 : t.getD i (0, 0) = (0, 0) := by simp only [List.getD]; rw [List.getElem?_eq_none (by omega)]; rfl
    rw [e2]; decide
theorem agree_ord (h : ShOk s) (e : s.Perm t) (hm : 1 ≤ m) : agreeP m s ↔ agreeP m t := by
  rw [agree_iff h hm, agree_iff (h.perm e) hm]
  constructor
  · rintro ⟨P, a, b, c⟩; exact ⟨P, a, b, fun x hx => c x (e.mem_iff.2 hx)⟩
  · rintro ⟨P, a, b, c⟩; exact ⟨P, a, b, fun x hx => c x (e.mem_iff.1 hx)⟩
theorem rest_ord (h : ShOk s) (e : s.Perm t) (hm : 1 ≤ m) (hl : m ≤ s.length) (ha : agreeP m s) : restL m s = restL m t := by
  obtain ⟨P, a, b, c⟩ := (agree_iff h hm).1 ha
  rw [rest_mem h hm hl a b c, rest_mem (h.perm e) hm (by rw [← e.length_eq]; exact hl) a b fun x hx => c x (e.mem_iff.2 hx)]
theorem whole_ord (h : ShOk s) (e : s.Perm t) {n : Int} (hn : 1 ≤ n ∧ n ≤ 8) : whole n s = whole n t := by
  unfold whole
  rw [h.chk hn, (h.perm e).chk hn, e.length_eq]
  have := agree_ord (m := n.toNat) h e (by omega)
  by_cases ha : agreeP n.toNat s
  · rw [if_pos ha, if_pos (this.1 ha)]
  · rw [if_neg ha, if_neg fun hh => ha (this.2 hh)]
theorem cnt_ord (h : ShOk s) (e : s.Perm t) (hm : 1 ≤ m) (x : Int) : cntN m s x = cntN m t x := by
  unfold cntN
  rw [e.length_eq]
  by_cases hl : t.length < m
  · rw [if_pos hl, if_pos hl]
  · rw [if_neg hl, if_neg hl]
    have hls : m ≤ s.length := by rw [e.length_eq]; omega
    have hag := agree_ord (m := m) h e hm
    by_cases ha : agreeP m s
    · rw [lgS_zero h.dist hm hls, lgS_zero (h.perm e).dist hm (by omega), rest_ord h e hm hls ha]
      by_cases hx : (restL m t).getD 0 0 = x
      · rw [if_pos ⟨ha, hx⟩, if_pos ⟨hag.1 ha, hx⟩]
      · rw [if_neg fun hh => hx hh.2, if_neg fun hh => hx hh.2]
    · rw [if_neg fun hh => ha hh.1, if_neg fun hh => ha (hag.2 hh.1)]
theorem off_filter (F : Int → Int) (sh : List (Int × Int)) : ∀ k, k ≤ sh.length → offTo F sh k = ((sh.take k).filter fun x => decide (F x.1 ≠ x.2)).map (·.1)
  | 0, _ => rfl
  | k + 1, h => by
    have ih := off_filter F sh k (by omega)
    have e : sh.getD k (0, 0) = sh[k] := by simp [show k < sh.length by omega]
    rw [List.take_succ_eq_append_getElem (by omega), List.filter_append, List.map_append, ← ih]
    simp only [offTo]
    rw [e]
    by_cases hf : F sh[k].1 = sh[k].2
    · rw [if_pos hf]; simp [hf]
    · rw [if_neg hf]; simp [hf]
theorem sort_perm {xs ys : List Int} (e : xs.Perm ys) : sortL xs = sortL ys := by
  unfold sortL
  have ht : ∀ a b c : Int, decide (a ≤ b) = true → decide (b ≤ c) = true → decide (a ≤ c) = true := fun a b c h1 h2 => by
    simp only [decide_eq_true_eq] at *; omega
  have hl : ∀ a b : Int, (decide (a ≤ b) || decide (b ≤ a)) = true := fun a b => by
    simp only [Bool.or_eq_true, decide_eq_true_eq]; omega
  refine List.Perm.eq_of_pairwise (le := fun a b => decide (a ≤ b) = true) (fun a b _ _ h1 h2 => ?_) (List.pairwise_mergeSort ht hl xs) (List.pairwise_mergeSort ht hl ys) ((List.mergeSort_perm _ _).trans (e.trans (List.mergeSort_perm _ _).symm))
  simp only [decide_eq_true_eq] at h1 h2; omega
theorem off_ord (F : Int → Int) (e : s.Perm t) : sortL (offTo F s s.length) = sortL (offTo F t t.length) := by
  rw [off_filter F s _ (Nat.le_refl _), off_filter F t _ (Nat.le_refl _), List.take_length, List.take_length]
  exact sort_perm ((e.filter _).map _)
theorem found_ord {k : Nat} {c : List (Int × Int)} (h : ShOk s) (e : s.Perm t) (hm : 1 ≤ m) (hk : m ≤ k) (hf : FoundC m k s c) : ∃ d, FoundC m k t d ∧ nwS m d = nwS m c := by
  obtain ⟨⟨hl, hs⟩, ha⟩ := hf
  have hc := h.sub hs
  have hpc : c.Perm (t.filter fun x => decide (x ∈ c)) := by
    refine (List.perm_ext_iff_of_nodup hc.nodup ((h.perm e).nodup.sublist List.filter_sublist)).2 fun a => ?_
    simp only [List.mem_filter, decide_eq_true_eq]
    exact ⟨fun h1 => ⟨e.mem_iff.1 (hs.subset h1), h1⟩, fun h1 => h1.2⟩
  refine ⟨t.filter fun x => decide (x ∈ c), ⟨⟨by rw [← hpc.length_eq, hl], List.filter_sublist⟩, (agree_ord hc hpc hm).1 ha⟩, ?_⟩
  exact (rest_ord hc hpc hm (by omega) ha).symm
/-- What Wrong answers does not depend on the order. -/
theorem wrong_ord {need most e1 e2 : Int} {xs ys : List Int} (h : ShOk s) (e : s.Perm t) (hn : 1 ≤ need ∧ need ≤ 8) (h1 : WrongP need most s e1 xs) (h2 : WrongP need most t e2 ys) : e1 = e2 ∧ xs = ys := by
  have ht := h.perm e
  have hle := e.length_eq
  unfold WrongP at h1 h2
  rcases h1 with ⟨a, _⟩ | ⟨_, h1⟩
  · exact absurd (h.chk hn) a
  rcases h2 with ⟨a, _⟩ | ⟨_, h2⟩
  · exact absurd (ht.chk hn) a
  rcases h1 with ⟨a, rfl, rfl⟩ | ⟨a, h1⟩
  · rcases h2 with ⟨_, rfl, rfl⟩ | ⟨b, _⟩
    · exact ⟨rfl, rfl⟩
    · exact absurd b a
  rcases h2 with ⟨b, _⟩ | ⟨_, h2⟩
  · exact absurd a b
  rcases h1 with ⟨b, rfl, rfl⟩ | ⟨b, h1⟩
  · rcases h2 with ⟨_, rfl, rfl⟩ | ⟨c, _⟩
    · exact ⟨rfl, rfl⟩
    · exact absurd (by rw [← hle]; exact b) c
  rcases h2 with ⟨c, _⟩ | ⟨_, h2⟩
  · exact absurd (by rw [hle]; exact c) b
  have hkn : need.toNat ≤ s.length - most.toNat := by omega
  rcases h1 with ⟨hno, rfl, rfl⟩ | ⟨c, hc, rfl, rfl⟩
  · rcases h2 with ⟨_, rfl, rfl⟩ | ⟨d, hd, _⟩
    · exact ⟨rfl, rfl⟩
    · obtain ⟨c, hc, _⟩ := found_ord ht e.symm (by omega) (by omega) hd
      rw [← hle] at hc
      exact absurd hc (hno c)
  · obtain ⟨d, hd, hcd⟩ := found_ord h e (by omega) hkn hc
    rw [hle] at hd
    rcases h2 with ⟨hno, _⟩ | ⟨d2, hd2, rfl, rfl⟩
    · exact absurd hd (hno d)
    · refine ⟨rfl, ?_⟩
      have hu := found_uniq (need := need.toNat) (most := most.toNat) (sh := t) (by omega) ht.ok ht.dist (by omega) hd hd2
      rw [← hu, hcd]
      exact off_ord _ e
end
/-- Shares by numbers: of each keeper the first one. -/
def xOf (p : Int × Int) : Int × Int := (1 + p.1 % 20, p.2 % 251)
def ordT (ps : List (Int × Int)) : Nat → List (Int × Int)
  | 0 => []
  | k + 1 => if (xOf (ps.getD k (0, 0))).1 ∈ kS (ordT ps k) then ordT ps k else ordT ps k ++ [xOf (ps.getD k (0, 0))]
theorem ordT_len (ps : List (Int × Int)) : ∀ k, (ordT ps k).length ≤ k
  | 0 => by simp [ordT]
  | k + 1 => by
    have := ordT_len ps k
    simp only [ordT]
    split
    · omega
    · simp; omega
theorem kS_app (a b : List (Int × Int)) : kS (a ++ b) = kS a ++ kS b := by simp [kS]
theorem ordT_ok (ps : List (Int × Int)) : ∀ k, ShOk (ordT ps k)
  | 0 => ⟨KsOk.nil, fun i => by simp [ordT]⟩
  | k + 1 => by
    have ih := ordT_ok ps k
    simp only [ordT]
    split
    · exact ih
    · next hm =>
      have h1 : 1 ≤ (xOf (ps.getD k (0, 0))).1 ∧ (xOf (ps.getD k (0, 0))).1 ≤ 20 := by unfold xOf; simp only; omega
      have h2 : 0 ≤ (xOf (ps.getD k (0, 0))).2 ∧ (xOf (ps.getD k (0, 0))).2 ≤ 250 := by unfold xOf; simp only; omega
      refine ⟨by rw [kS_app]; exact ih.1.next h1 hm, fun i => ?_⟩
      simp only [List.getD, List.getElem?_append]
      split
      · exact ih.2 i
      · by_cases hi : i - (ordT ps k).length = 0
        · rw [hi]; exact h2
        · rw [List.getElem?_eq_none (by simp; omega)]; decide
theorem ord_new {ps : List (Int × Int)} {k : Nat} {a : Int} (hk : 1 + (ps.getD k (0, 0)).1 % 20 = a) (hm : ¬ a ∈ kS (ordT ps k)) : ordT ps (k + 1) = ordT ps k ++ [(1 + (ps.getD k (0, 0)).1 % 20, (ps.getD k (0, 0)).2 % 251)] ∧ kS (ordT ps (k + 1)) = kS (ordT ps k) ++ [a] := by
  subst hk
  have e : ordT ps (k + 1) = ordT ps k ++ [xOf (ps.getD k (0, 0))] := by simp only [ordT]; exact if_neg hm
  exact ⟨e, by rw [e, kS_app]; rfl⟩
theorem ord_old {ps : List (Int × Int)} {k : Nat} {a : Int} (hk : 1 + (ps.getD k (0, 0)).1 % 20 = a) (hm : a ∈ kS (ordT ps k)) : ordT ps (k + 1) = ordT ps k := by
  subst hk
  simp only [ordT]; exact if_pos hm
/-- Shares that are turned. -/
def rotT (s : List (Int × Int)) (n : Nat) (k : Nat) : List (Int × Int) := (List.range k).map fun i => s.getD ((i + n) % s.length) (0, 0)
theorem rotT_len (s : List (Int × Int)) (n k : Nat) : (rotT s n k).length = k := by simp [rotT]
theorem rotT_next (s : List (Int × Int)) (n k : Nat) : rotT s n (k + 1) = rotT s n k ++ [s.getD ((k + n) % s.length) (0, 0)] := by unfold rotT; rw [List.range_succ, List.map_append]; rfl
theorem rotT_perm (s : List (Int × Int)) (n : Nat) : s.Perm (rotT s n s.length) := by
  by_cases h0 : s.length = 0
  · have : s = [] := List.eq_nil_of_length_eq_zero h0
    subst this; exact List.Perm.refl _
  obtain ⟨r, hr⟩ : ∃ r, r = n % s.length := ⟨_, rfl⟩
  have hrl : r < s.length := by rw [hr]; exact Nat.mod_lt _ (by omega)
  have e : rotT s n s.length = s.drop r ++ s.take r := by
    apply List.ext_getElem
    · rw [rotT_len]; simp; omega
    · intro i h1 h2
      rw [rotT_len] at h1
      have hm : (i + n) % s.length = if i + r < s.length then i + r else i + r - s.length := by
        rw [Nat.add_mod, ← hr, Nat.mod_eq_of_lt h1]
        split
        · next h => exact Nat.mod_eq_of_lt h
        · next h => rw [Nat.mod_eq_sub_mod (by omega), Nat.mod_eq_of_lt (by omega)]
      have hlt : (i + n) % s.length < s.length := Nat.mod_lt _ (by omega)
      have e1 : (rotT s n s.length)[i]'(by rw [rotT_len]; exact h1) = s[(i + n) % s.length] := by
        unfold rotT; simp [hlt]
      rw [e1]
      by_cases hi : i + r < s.length
      · rw [List.getElem_append_left (by simp; omega), List.getElem_drop]
        congr 1
        rw [hm, if_pos hi]; omega
      · rw [List.getElem_append_right (by simp; omega), List.getElem_take]
        congr 1
        rw [hm, if_neg hi]; simp; omega
  rw [e]
  have := (List.perm_append_comm (l₁ := s.take r) (l₂ := s.drop r))
  rwa [List.take_append_drop] at this
theorem rot_ix (n j l : Nat) : ((j : Int) + (n : Int)) % (l : Int) = (((j + n) % l : Nat) : Int) := by
  rw [Int.natCast_emod, Int.natCast_add]
end Go.Pv
namespace Go.Pv
open Go.RowKit
/-- The shares among the first k whose bit is set. -/
def tkS (S : List (Int × Int)) (set : Nat) : Nat → List (Int × Int)
  | 0 => []
  | k + 1 => if set.testBit k then tkS S set k ++ [S.getD k (0, 0)] else tkS S set k
/-- The shares among the first k whose bit is not set. -/
def lfS (S : List (Int × Int)) (set : Nat) : Nat → List (Int × Int)
  | 0 => []
  | k + 1 => if set.testBit k then lfS S set k else lfS S set k ++ [S.getD k (0, 0)]
section
variable {S : List (Int × Int)} {set k : Nat}
theorem tkS_yes (h : set / 2 ^ k % 2 = 1) : tkS S set (k + 1) = tkS S set k ++ [S.getD k (0, 0)] := by
  simp only [tkS]; rw [if_pos (by rw [Nat.testBit_eq_decide_div_mod_eq]; simpa using h)]
theorem tkS_no (h : ¬ set / 2 ^ k % 2 = 1) : tkS S set (k + 1) = tkS S set k := by
  simp only [tkS]; rw [if_neg (by rw [Nat.testBit_eq_decide_div_mod_eq]; simpa using h)]
theorem lfS_yes (h : set / 2 ^ k % 2 = 1) : lfS S set (k + 1) = lfS S set k := by
  simp only [lfS]; rw [if_pos (by rw [Nat.testBit_eq_decide_div_mod_eq]; simpa using h)]
theorem lfS_no (h : ¬ set / 2 ^ k % 2 = 1) : lfS S set (k + 1) = lfS S set k ++ [S.getD k (0, 0)] := by
  simp only [lfS]; rw [if_neg (by rw [Nat.testBit_eq_decide_div_mod_eq]; simpa using h)]
theorem tl_len (S : List (Int × Int)) (set : Nat) : ∀ k, (tkS S set k).length + (lfS S set k).length = k
  | 0 => rfl
  | k + 1 => by
    have := tl_len S set k
    simp only [tkS, lfS]
    split <;> simp <;> omega
theorem tkS_congr {a b : Nat} : ∀ {k : Nat}, (∀ i, i < k → a.testBit i = b.testBit i) → tkS S a k = tkS S b k
  | 0, _ => rfl
  | k + 1, h => by
    simp only [tkS]
    rw [h k (by omega), tkS_congr fun i hi => h i (by omega)]
theorem lfS_congr {a b : Nat} : ∀ {k : Nat}, (∀ i, i < k → a.testBit i = b.testBit i) → lfS S a k = lfS S b k
  | 0, _ => rfl
  | k + 1, h => by
    simp only [lfS]
    rw [h k (by omega), lfS_congr fun i hi => h i (by omega)]
theorem tkS_sub (S : List (Int × Int)) (set : Nat) : ∀ k, k ≤ S.length → (tkS S set k).Sublist (S.take k)
  | 0, _ => by simp [tkS]
  | k + 1, h => by
    have ih := tkS_sub S set k (by omega)
    have e : S.getD k (0, 0) = S[k] := by simp [show k < S.length by omega]
    rw [List.take_succ_eq_append_getElem (by omega)]
    simp only [tkS]
    rw [e]
    split
    · exact ih.append (List.Sublist.refl _)
    · exact ih.trans (List.sublist_append_left _ _)
theorem lfS_sub (S : List (Int × Int)) (set : Nat) : ∀ k, k ≤ S.length → (lfS S set k).Sublist (S.take k)
  | 0, _ => by simp [lfS]
  | k + 1, h => by
    have ih := lfS_sub S set k (by omega)
    have e : S.getD k (0, 0) = S[k] := by simp [show k < S.length by omega]
    rw [List.take_succ_eq_append_getElem (by omega)]
    simp only [lfS]
    rw [e]
    split
    · exact ih.trans (List.sublist_append_left _ _)
    · exact ih.append (List.Sublist.refl _)
theorem tl_mem (S : List (Int × Int)) (set : Nat) (x : Int × Int) : ∀ k, k ≤ S.length → x ∈ S.take k → x ∈ tkS S set k ∨ x ∈ lfS S set k
  | 0, _, h => by simp at h
  | k + 1, hk, h => by
    have ih := tl_mem S set x k (by omega)
    have e : S.getD k (0, 0) = S[k] := by simp [show k < S.length by omega]
    rw [List.take_succ_eq_append_getElem (by omega), List.mem_append, List.mem_singleton] at h
    simp only [tkS, lfS]
    rw [e]
    split
    · rcases h with h | h
      · exact (ih h).imp (fun q => List.mem_append_left _ q) id
      · exact .inl (List.mem_append_right _ (List.mem_singleton.2 h))
    · rcases h with h | h
      · exact (ih h).imp id fun q => List.mem_append_left _ q
      · exact .inr (List.mem_append_right _ (List.mem_singleton.2 h))
/-- Each property of shares is a set. -/
theorem tl_set (S : List (Int × Int)) (p : Int × Int → Bool) : ∀ k, k ≤ S.length → ∃ set, set < 2 ^ k ∧ tkS S set k = (S.take k).filter p ∧ lfS S set k = (S.take k).filter fun x => !p x
  | 0, _ => ⟨0, by simp, by simp [tkS], by simp [lfS]⟩
  | k + 1, h => by
    obtain ⟨set, h1, h2, h3⟩ := tl_set S p k (by omega)
    have e : S.getD k (0, 0) = S[k] := by simp [show k < S.length by omega]
    rw [List.take_succ_eq_append_getElem (by omega), List.filter_append, List.filter_append, ← h2, ← h3]
    by_cases hp : p S[k] = true
    · refine ⟨2 ^ k + set, by rw [Nat.pow_succ]; omega, ?_, ?_⟩
      · simp only [tkS]
        rw [if_pos (by rw [Nat.testBit_two_pow_add_eq, Nat.testBit_lt_two_pow h1]; rfl), e]
        rw [tkS_congr (b := set) fun i hi => Nat.testBit_two_pow_add_gt hi set]
        simp [hp]
      · simp only [lfS]
        rw [if_pos (by rw [Nat.testBit_two_pow_add_eq, Nat.testBit_lt_two_pow h1]; rfl)]
        rw [lfS_congr (b := set) fun i hi => Nat.testBit_two_pow_add_gt hi set]
        simp [hp]
    · have hp2 : p S[k] = false := by simpa using hp
      refine ⟨set, by rw [Nat.pow_succ]; omega, ?_, ?_⟩
      · simp only [tkS]
        rw [if_neg (by rw [Nat.testBit_lt_two_pow h1]; simp)]
        simp [hp2]
      · simp only [lfS]
        rw [if_neg (by rw [Nat.testBit_lt_two_pow h1]; simp), e]
        simp [hp2]
end
section
variable {S c : List (Int × Int)} {need most : Nat}
/-- The shares that are off the polynomial that a choice restores. -/
def offS (need : Nat) (S c : List (Int × Int)) : List (Int × Int) := S.filter fun x => decide (atP (nwS need c) x.1 ≠ x.2)
theorem lf_found (hS : ShOk S) (h1 : 1 ≤ need) (hl : need + 2 * most ≤ S.length) {set : Nat} (ha : agreeP need (lfS S set S.length)) (ht : (tkS S set S.length).length ≤ most) :
    FoundC need (S.length - most) S ((lfS S set S.length).take (S.length - most)) ∧ ∀ x ∈ lfS S set S.length, atP (nwS need ((lfS S set S.length).take (S.length - most))) x.1 = x.2 := by
  have hlen := tl_len S set S.length
  have hsub : (lfS S set S.length).Sublist S := by have := lfS_sub S set S.length (Nat.le_refl _); rwa [List.take_length] at this
  have hA := hS.sub hsub
  have hsub2 := (List.take_sublist (S.length - most) (lfS S set S.length)).trans hsub
  have hB := hS.sub hsub2
  obtain ⟨P, p1, p2, p3⟩ := (agree_iff hA h1).1 ha
  have hBl : ((lfS S set S.length).take (S.length - most)).length = S.length - most := by rw [List.length_take]; omega
  have hon : ∀ x ∈ (lfS S set S.length).take (S.length - most), atP P x.1 = x.2 := fun x hx => p3 x (List.mem_of_mem_take hx)
  have e : nwS need ((lfS S set S.length).take (S.length - most)) = P := rest_mem hB h1 (by omega) p1 p2 hon
  refine ⟨⟨⟨hBl, hsub2⟩, (agree_iff hB h1).2 ⟨P, p1, p2, hon⟩⟩, ?_⟩
  rw [e]; exact p3
theorem lf_off (hS : ShOk S) (h1 : 1 ≤ need) (hl : need + 2 * most ≤ S.length) (hc : FoundC need (S.length - most) S c) {set : Nat} (ha : agreeP need (lfS S set S.length)) (ht : (tkS S set S.length).length ≤ most) :
    ((tkS S set S.length).filter fun x => decide (atP (nwS need c) x.1 ≠ x.2)).Perm (offS need S c) := by
  obtain ⟨hf, hon⟩ := lf_found hS h1 hl ha ht
  rw [found_uniq h1 hS.ok hS.dist hl hf hc] at hon
  have hsub : (tkS S set S.length).Sublist S := by have := tkS_sub S set S.length (Nat.le_refl _); rwa [List.take_length] at this
  refine (List.perm_ext_iff_of_nodup (hS.nodup.sublist (List.filter_sublist.trans hsub)) (hS.nodup.sublist List.filter_sublist)).2 fun x => ?_
  rw [List.mem_filter, List.mem_filter]
  constructor
  · rintro ⟨h2, h3⟩; exact ⟨hsub.subset h2, h3⟩
  · rintro ⟨h2, h3⟩
    refine ⟨?_, h3⟩
    rcases tl_mem S set x S.length (Nat.le_refl _) (by rw [List.take_length]; exact h2) with h4 | h4
    · exact h4
    · exact absurd (hon x h4) (by simpa using h3)
/-- There is a set with just the shares that are off. -/
theorem off_set (hS : ShOk S) (h1 : 1 ≤ need) (hl : need + 2 * most ≤ S.length) (hc : FoundC need (S.length - most) S c) :
    (offS need S c).length ≤ most ∧ ∃ set, set < 2 ^ S.length ∧ tkS S set S.length = offS need S c ∧ agreeP need (lfS S set S.length) := by
  have hon := found_on h1 (by omega) hS.ok hS.dist hc
  obtain ⟨set, g1, g2, g3⟩ := tl_set S (fun x => decide (atP (nwS need c) x.1 ≠ x.2)) S.length (Nat.le_refl _)
  rw [List.take_length] at g2 g3
  have hsub : (lfS S set S.length).Sublist S := by have := lfS_sub S set S.length (Nat.le_refl _); rwa [List.take_length] at this
  have hA := hS.sub hsub
  have hnl : (nwS need c).length = need := by unfold nwS; rw [newton_len _ _ (by rw [kS_len]; simp; have := hc.1.1; omega), kS_len]; simp; have := hc.1.1; omega
  refine ⟨?_, set, g1, g2, (agree_iff hA h1).2 ⟨nwS need c, hnl, by unfold nwS newtonL; exact nsm_nb _ _ _, fun x hx => ?_⟩⟩
  · have e1 := filter_split (fun x : Int × Int => decide (atP (nwS need c) x.1 ≠ x.2)) S
    have e2 := (hc.1.2.filter fun x => !decide (atP (nwS need c) x.1 ≠ x.2)).length_le
    have e3 : (c.filter fun x => !decide (atP (nwS need c) x.1 ≠ x.2)) = c := List.filter_eq_self.2 fun x hx => by simpa using hon x hx
    rw [e3] at e2
    have := hc.1.1
    unfold offS
    omega
  · rw [g3, List.mem_filter] at hx
    simpa using hx.2
/-- No set of fewer shares has a rest that agrees, and a set of as many is that of the shares that are off. -/
theorem wrongs_found (hS : ShOk S) {e : Int} {xs : List Int} (hn : 1 ≤ need ∧ need ≤ 8) (hm : most ≤ 3) (hl : need + 2 * most ≤ S.length) (hw : WrongP (need : Int) (most : Int) S e xs) {set size : Nat}
    (ha : agreeP need (lfS S set S.length)) (hs : (tkS S set S.length).length = size) (hsm : size ≤ most) (hmin : ∀ z, z < size → ∀ t, t < 2 ^ S.length → (tkS S t S.length).length = z → ¬ agreeP need (lfS S t S.length)) : e = 0 ∧ xs = sortL (kS (tkS S set S.length)) := by
  obtain ⟨hf, _⟩ := lf_found hS hn.1 hl ha (by omega)
  unfold WrongP at hw
  rcases hw with ⟨a, _⟩ | ⟨_, hw⟩
  · exact absurd (hS.chk (by omega)) a
  rcases hw with ⟨a, _⟩ | ⟨_, hw⟩
  · exact absurd ⟨by omega, by omega⟩ a
  rcases hw with ⟨a, _⟩ | ⟨_, hw⟩
  · omega
  rw [Int.toNat_natCast, Int.toNat_natCast] at hw
  rcases hw with ⟨a, _⟩ | ⟨d, hd, rfl, rfl⟩
  · exact absurd hf (a _)
  refine ⟨rfl, ?_⟩
  rw [off_filter _ _ _ (Nat.le_refl _), List.take_length]
  have hp := lf_off hS hn.1 hl hd ha (by omega)
  obtain ⟨ho, t, t1, t2, t3⟩ := off_set hS hn.1 hl hd
  have hle : size ≤ (offS need S d).length := Nat.le_of_not_lt fun hlt => hmin _ hlt t t1 (by rw [t2]) t3
  have e1 := filter_split (fun x : Int × Int => decide (atP (nwS need d) x.1 ≠ x.2)) (tkS S set S.length)
  have e2 := hp.length_eq
  have e3 : ((tkS S set S.length).filter fun x => !decide (atP (nwS need d) x.1 ≠ x.2)) = [] := List.eq_nil_of_length_eq_zero (by omega)
  have e4 : ((tkS S set S.length).filter fun x => decide (atP (nwS need d) x.1 ≠ x.2)) = tkS S set S.length := by
    rw [List.filter_eq_self]
    intro x hx
    rw [List.filter_eq_nil_iff] at e3
    have := e3 x hx
    simpa using this
  rw [e4] at hp
  exact sort_perm (hp.map _).symm
theorem wrongs_none (hS : ShOk S) {e : Int} {xs : List Int} (hn : 1 ≤ need ∧ need ≤ 8) (hm : most ≤ 3) (hl : need + 2 * most ≤ S.length) (hw : WrongP (need : Int) (most : Int) S e xs)
    (hmin : ∀ z, z < most + 1 → ∀ t, t < 2 ^ S.length → (tkS S t S.length).length = z → ¬ agreeP need (lfS S t S.length)) : e = 15 ∧ xs = [] := by
  unfold WrongP at hw
  rcases hw with ⟨a, _⟩ | ⟨_, hw⟩
  · exact absurd (hS.chk (by omega)) a
  rcases hw with ⟨a, _⟩ | ⟨_, hw⟩
  · exact absurd ⟨by omega, by omega⟩ a
  rcases hw with ⟨a, _⟩ | ⟨_, hw⟩
  · omega
  rw [Int.toNat_natCast, Int.toNat_natCast] at hw
  rcases hw with ⟨_, h2, h3⟩ | ⟨d, hd, _⟩
  · exact ⟨h2, h3⟩
  obtain ⟨ho, t, t1, t2, t3⟩ := off_set hS hn.1 hl hd
  exact absurd t3 (hmin _ (Nat.lt_succ_of_le ho) t t1 (by rw [t2]))
end
/-- A number in its place among others. -/
def insA (M : List Int) (x : Int) (p : Nat) : List Int := M.take p ++ x :: M.drop p
theorem insA_len (M : List Int) (x : Int) {p : Nat} (h : p ≤ M.length) : (insA M x p).length = M.length + 1 := by simp [insA]; omega
theorem insA_end (M : List Int) (x : Int) : insA M x M.length = M ++ [x] := by simp [insA]
theorem insA_at (M : List Int) (x : Int) {p : Nat} (h : p ≤ M.length) : (insA M x p).getD p 0 = x := by
  unfold insA
  simp only [List.getD]
  rw [List.getElem?_append_right (by simp; omega)]
  simp [Nat.min_eq_left h]
theorem insA_before (M : List Int) (x : Int) {p : Nat} (h : p + 1 ≤ M.length) : (insA M x (p + 1)).getD p 0 = M.getD p 0 := by
  unfold insA
  simp only [List.getD]
  rw [List.getElem?_append_left (by simp; omega), List.getElem?_take_of_lt (by omega)]
theorem insA_swap (M : List Int) (x : Int) {p : Nat} (h : p + 1 ≤ M.length) : ((insA M x (p + 1)).set (p + 1) (M.getD p 0)).set p x = insA M x p := by
  refine List.ext_getElem? fun i => ?_
  unfold insA
  have e : M.getD p 0 = M[p] := by simp [show p < M.length by omega]
  rw [e]
  rcases Nat.lt_trichotomy i p with h1 | h1 | h1
  · rw [List.getElem?_set_ne (by omega), List.getElem?_set_ne (by omega), List.getElem?_append_left (by simp; omega), List.getElem?_append_left (by simp; omega), List.getElem?_take_of_lt (by omega), List.getElem?_take_of_lt (by omega)]
  · subst h1
    rw [List.getElem?_set_self (by simp; omega), List.getElem?_append_right (by simp; omega)]
    simp [Nat.min_eq_left (show i ≤ M.length by omega)]
  · rw [List.getElem?_set_ne (by omega), List.getElem?_append_right (by simp; omega)]
    have e2 : (M.take p).length = p := by simp; omega
    have e3 : (M.take (p + 1)).length = p + 1 := by simp; omega
    rw [e2]
    by_cases h2 : i = p + 1
    · subst h2
      rw [List.getElem?_set_self (by simp; omega), show p + 1 - p = 0 + 1 by omega, List.getElem?_cons_succ, List.getElem?_drop, Nat.add_zero, List.getElem?_eq_getElem (by omega)]
    · rw [List.getElem?_set_ne (by omega), List.getElem?_append_right (by rw [e3]; omega), e3, show i - p = (i - p - 1) + 1 by omega, List.getElem?_cons_succ, show i - (p + 1) = (i - p - 2) + 1 by omega, List.getElem?_cons_succ, List.getElem?_drop, List.getElem?_drop]
      congr 1; omega
/-- The place is right if what comes before is not greater and all that comes behind is. -/
theorem insA_sorted {L : List Int} {x : Int} {p : Nat} (hp : p ≤ (sortL L).length) (hb : ∀ y ∈ (sortL L).drop p, x ≤ y) (h : p = 0 ∨ ¬ x < (sortL L).getD (p - 1) 0) : insA (sortL L) x p = sortL (L ++ [x]) := by
  have ht : ∀ a b c : Int, decide (a ≤ b) = true → decide (b ≤ c) = true → decide (a ≤ c) = true := fun a b c h1 h2 => by
    simp only [decide_eq_true_eq] at *; omega
  have hl : ∀ a b : Int, (decide (a ≤ b) || decide (b ≤ a)) = true := fun a b => by
    simp only [Bool.or_eq_true, decide_eq_true_eq]; omega
  have hs : (sortL L).Pairwise fun a b => decide (a ≤ b) = true := by unfold sortL; exact List.pairwise_mergeSort ht hl L
  have hperm : (sortL L).Perm L := by unfold sortL; exact List.mergeSort_perm _ _
  have hsp := hs
  rw [← List.take_append_drop p (sortL L), List.pairwise_append] at hsp
  have hfront : ∀ y ∈ (sortL L).take p, y ≤ x := by
    intro y hy
    rcases h with h | h
    · subst h; simp at hy
    · obtain ⟨i, hi, rfl⟩ := List.getElem_of_mem hy
      rw [List.length_take] at hi
      have e : (sortL L).getD (p - 1) 0 = (sortL L)[p - 1]'(by omega) := by simp [show p - 1 < (sortL L).length by omega]
      rw [e] at h
      rw [List.getElem_take]
      by_cases hip : i = p - 1
      · subst hip; omega
      · have := List.pairwise_iff_getElem.1 hs i (p - 1) (by omega) (by omega) (by omega)
        simp only [decide_eq_true_eq] at this
        omega
  show insA (sortL L) x p = sortL (L ++ [x])
  have hp1 : (insA (sortL L) x p).Perm (L ++ [x]) := by
    unfold insA
    refine List.perm_middle.trans ?_
    rw [List.take_append_drop]
    refine (List.Perm.cons x hperm).trans ?_
    exact (List.perm_append_singleton x L).symm
  have hp2 : (sortL (L ++ [x])).Perm (L ++ [x]) := by unfold sortL; exact List.mergeSort_perm _ _
  have hs2 : (sortL (L ++ [x])).Pairwise fun a b => decide (a ≤ b) = true := by unfold sortL; exact List.pairwise_mergeSort ht hl _
  refine List.Perm.eq_of_pairwise (le := fun a b => decide (a ≤ b) = true) (fun a b _ _ h1 h2 => ?_) ?_ hs2 (hp1.trans hp2.symm)
  · simp only [decide_eq_true_eq] at h1 h2; omega
  · unfold insA
    rw [List.pairwise_append]
    refine ⟨hsp.1, List.pairwise_cons.2 ⟨fun y hy => by simpa using hb y hy, hsp.2.1⟩, fun a ha b hb2 => ?_⟩
    rw [List.mem_cons] at hb2
    rcases hb2 with rfl | hb2
    · simpa using hfront a ha
    · exact hsp.2.2 a ha b hb2
theorem insA_down {M : List Int} {x : Int} {p : Nat} (hp : p + 1 ≤ M.length) (hb : ∀ y ∈ M.drop (p + 1), x ≤ y) (h : x < M.getD p 0) : ∀ y ∈ M.drop p, x ≤ y := by
  intro y hy
  rw [List.drop_eq_getElem_cons (by omega), List.mem_cons] at hy
  have e : M.getD p 0 = M[p] := by simp [show p < M.length by omega]
  rcases hy with rfl | hy
  · omega
  · exact hb y hy
end Go.Pv
namespace Go.Pv
open Go.RowKit
section
variable {P : Program} {l : St} {w : World} {od : Option Nat} {ty : TypeId} {pos : String} {af : Array Edge}
theorem and_one9 (m : Nat) (hm : m < 9223372036854775808) : bits .and .i64 (m : Int) 1 = ((m % 2 : Nat) : Int) := by
  have h1 : (BitVec.ofInt 64 (m : Int)).toNat = m := by
    rw [BitVec.ofInt_natCast, BitVec.toNat_ofNat]; exact Nat.mod_eq_of_lt (by omega)
  have h2 : (BitVec.ofInt 64 (1 : Int)).toNat = 1 := by decide
  show IntKind.i64.wrap ((BitVec.ofInt 64 (m : Int) &&& BitVec.ofInt 64 (1 : Int)).toNat : Int) = _
  rw [BitVec.toNat_and, h1, h2, Nat.and_one_is_mod]
  exact IntWalk.i64_in _ (by omega)
theorem r_and9 {x y : Operand} {T T2 : TypeId} {k : IntKind} {m n : Int} (hx : ev l x = .int k m) (hy : ev l y = .int k n) : Runs P ⟨od, .binOp .and T x y T2, ty, pos, af, none⟩ l w (.int k (bits .and k m n)) :=
  r_bin hx hy (by rw [Go.binOp_and]; rfl)
theorem r_andO {x y : Operand} {T T2 : TypeId} {m : Nat} (hx : ev l x = .int .i64 (m : Int)) (hy : ev l y = .int .i64 1) {q : Nat} (hq : m % 2 = q) (hm : m < 9223372036854775808) : Runs P ⟨od, .binOp .and T x y T2, ty, pos, af, none⟩ l w (.int .i64 (q : Int)) := by
  subst hq
  have := r_and9 (P := P) (od := od) (ty := ty) (pos := pos) (af := af) (T := T) (T2 := T2) (w := w) hx hy
  rwa [and_one9 m hm] at this
theorem r_shr9 {x y : Operand} {T T2 : TypeId} {k k2 : IntKind} {m n : Int} (hx : ev l x = .int k m) (hy : ev l y = .int k2 n) (hn : 0 ≤ n) : Runs P ⟨od, .binOp .shr T x y T2, ty, pos, af, none⟩ l w (.int k (m / 2 ^ min n.toNat k.bits)) :=
  by simp [Runs, execOp, hx, hy, run_guard_int, binOp, Go.shift_shr_any k k2 m n hn]
theorem r_shrM {x y : Operand} {T T2 : TypeId} {m n : Nat} (hx : ev l x = .int .i64 (m : Int)) (hy : ev l y = .int .i64 (n : Int)) {q : Nat} (hq : m / 2 ^ n = q) (hn : n ≤ 64) : Runs P ⟨od, .binOp .shr T x y T2, ty, pos, af, none⟩ l w (.int .i64 (q : Int)) := by
  subst hq
  have := r_shr9 (P := P) (od := od) (ty := ty) (pos := pos) (af := af) (T := T) (T2 := T2) (w := w) hx hy (by omega)
  have e : (m : Int) / 2 ^ min (n : Int).toNat (IntKind.bits .i64) = ((m / 2 ^ n : Nat) : Int) := by
    rw [show min (n : Int).toNat (IntKind.bits .i64) = n by simp [IntKind.bits]; omega]
    simp
  rwa [e] at this
theorem r_shlO {x y : Operand} {T T2 : TypeId} {n : Nat} (hx : ev l x = .int .i64 1) (hy : ev l y = .int .i64 (n : Int)) {M : Nat} (hM : 2 ^ n = M) (hn : n ≤ 62) : Runs P ⟨od, .binOp .shl T x y T2, ty, pos, af, none⟩ l w (.int .i64 (M : Int)) := by
  subst hM
  have hp : 2 ^ n ≤ 2 ^ 62 := Nat.pow_le_pow_right (by omega) hn
  have e : IntKind.i64.wrap (1 * 2 ^ min (n : Int).toNat (IntKind.bits .i64)) = ((2 ^ n : Nat) : Int) := by
    rw [show min (n : Int).toNat (IntKind.bits .i64) = n by simp [IntKind.bits]; omega, Int.one_mul, show (2 : Int) ^ n = ((2 ^ n : Nat) : Int) by simp]
    obtain ⟨q, hq⟩ : ∃ q : Nat, q = 2 ^ n := ⟨_, rfl⟩
    rw [← hq] at hp ⊢
    exact IntWalk.i64_in _ (by omega)
  simp only [Runs, execOp, hx, hy, run_guard_int, binOp, Go.shift_shl_any .i64 .i64 1 (n : Int) (by omega), e, Sem.run_bind, Result.andThen_ok, Sem.run_pure]
end
theorem OwnP.toR9 {E : TypeId} {base : Nat} {w : World} {v : Value} {xs : List (Int × Int)} (h : OwnP E base w v xs) : OwnR pc 2 E base w v xs := by
  unfold OwnP at h; unfold OwnR; exact h
theorem OwnP.ofR9 {E : TypeId} {base : Nat} {w : World} {v : Value} {xs : List (Int × Int)} (h : OwnR pc 2 E base w v xs) : OwnP E base w v xs := by
  unfold OwnP; unfold OwnR at h; exact h
theorem lfS_len (S : List (Int × Int)) (set k : Nat) : (lfS S set k).length ≤ k := by have := tl_len S set k; omega
theorem tkS_len (S : List (Int × Int)) (set k : Nat) : (tkS S set k).length ≤ k := by have := tl_len S set k; omega
end Go.Pv
namespace Go.Proofs.Ytngoipmdhliigaa
open Go.Pv Go.RowKit Go.Sort
set_option maxHeartbeats 8000000
set_option maxRecDepth 20000
theorem left_any (set : Nat) (v : Value) (S : List (Int × Int)) (w : World) (h : Prs w v S) (hl : S.length ≤ 20) (hset : set < 1048576) : Ret Try.prog 70 [v, .int .i64 (set : Int)] w fun r w' => ∃ a b, r = .tuple #[a, b] ∧ OwnP 85 w.heap.size w' a (lfS S set S.length) ∧ OwnP 85 w.heap.size w' b (tkS S set S.length) := by
  have hv1 := h.one
  have hln := h.len
  have tkS0 : True := trivial
  refine ret_of_c Try.func70 rfl Try.ntmps70 (Nat.le_of_ble_eq_true rfl) (by dsimp only [ini, Nat.reduceAdd] <;> exact rfl) ?_
  repeat' (first
      | (clear tkB; (obtain ⟨q, hq⟩ : ∃ q, set / 2 ^ k % 2 = q := ⟨_, rfl⟩); (have hav1 := OwnR.one htw.1); (have hbv1 := OwnR.one htw.2.1); (have hll := lfS_len S set k); (have htl := tkS_len S set k); have tkC : True := trivial)
      | ((with_reducible apply W_op); exact rfl; exact rfl; exact r_lenPrs rfl (Prs.ex (show Ex w _ from (by repeat (first | exact Ex.refl _ | assumption | (refine Ex.of_grown ?_ (by assumption) (by intro k hk; cases hk; omega)) | (refine Ex.trans ?_ (by assumption))))) h))
      | ((with_reducible apply c_cond_dec); exact rfl; intro _; rotate_left 1; intro _; (all_goals (try (exfalso; (focus (omega; done))))))
      | (refine W_appendRF (w0 := w) (base := w.heap.size) (f := pc) (n := 2) (v := av) (m := S.getD k (0, 0)) (xs := lfS S set k) (fun _ => rfl) (by decide) rfl rfl (TwoR.ex (show Ex wr _ from (by repeat (first | exact Ex.refl _ | assumption | (refine Ex.of_grown ?_ (by assumption) (by intro k hk; cases hk; omega)) | (refine Ex.trans ?_ (by assumption))))) htw).1 rfl (by repeat (first | assumption | ((with_reducible apply Bx.grownS); assumption; (first | omega | exact Bx.ne (by assumption) (by omega))) | ((with_reducible apply Bx.below); assumption; omega) | ((with_reducible apply Bx.ex); assumption))) rfl (by omega) (by repeat (first | assumption | exact Ex.refl _ | (refine Ex.trans ?_ (by assumption)) | (refine Ex.of_grown ?_ (by assumption) (by intro k hk; cases hk; omega)))) (Nat.le_refl _) (by omega) ?_; intro v2 wq hown2 he hkq hg2 hbl2; have htw2 := TwoR.updA (TwoR.ex (show Ex wr _ from (by repeat (first | exact Ex.refl _ | assumption | (refine Ex.of_grown ?_ (by assumption) (by intro k hk; cases hk; omega)) | (refine Ex.trans ?_ (by assumption))))) htw) hg2 hown2 hbl2; have hav21 := OwnR.one htw2.1; have hsz := he.size)
      | (refine W_appendRF (w0 := w) (base := w.heap.size) (f := pc) (n := 2) (v := bv) (m := S.getD k (0, 0)) (xs := tkS S set k) (fun _ => rfl) (by decide) rfl rfl (TwoR.ex (show Ex wr _ from (by repeat (first | exact Ex.refl _ | assumption | (refine Ex.of_grown ?_ (by assumption) (by intro k hk; cases hk; omega)) | (refine Ex.trans ?_ (by assumption))))) htw).2.1 rfl (by repeat (first | assumption | ((with_reducible apply Bx.grownS); assumption; (first | omega | exact Bx.ne (by assumption) (by omega))) | ((with_reducible apply Bx.below); assumption; omega) | ((with_reducible apply Bx.ex); assumption))) rfl (by omega) (by repeat (first | assumption | exact Ex.refl _ | (refine Ex.trans ?_ (by assumption)) | (refine Ex.of_grown ?_ (by assumption) (by intro k hk; cases hk; omega)))) (Nat.le_refl _) (by omega) ?_; intro v2 wq hown2 he hkq hg2 hbl2; have htw2 := TwoR.updB (TwoR.ex (show Ex wr _ from (by repeat (first | exact Ex.refl _ | assumption | (refine Ex.of_grown ?_ (by assumption) (by intro k hk; cases hk; omega)) | (refine Ex.trans ?_ (by assumption))))) htw) hg2 hown2 hbl2; have hav21 := OwnR.one htw2.2.1; have hsz := he.size)
      | ((with_reducible (show C _ _ _ _ _ _)); clear tkS0; refine c_loopG (fun (k : Nat) ps wr => ∃ av bv : Value, ∃ i : Int, ps = [(0, v), (1, .int .i64 (set : Int)), (6, av), (7, bv), (8, .int .i64 i)] ∧ i = k ∧ k ≤ S.length ∧ TwoR pc 2 85 w.heap.size wr av bv (lfS S set k) (tkS S set k) ∧ Ex w wr) (fun k => S.length - k) 0 _ ⟨_, _, _, rfl, rfl, Nat.zero_le _, TwoR.nil _, (by repeat (first | assumption | exact Ex.refl _ | (refine Ex.trans ?_ (by assumption)) | (refine Ex.of_grown ?_ (by assumption) (by intro k hk; cases hk; omega))))⟩ ⟨rfl, rfl, rfl, rfl, rfl, trivial⟩ (by ((conv => lhs; whnf) <;> exact rfl)) (by ((conv => lhs; whnf) <;> exact rfl)) ?_; rintro J hJ k u ps wr ⟨av, bv, i, rfl, rfl, hk, htw, he⟩; have hsz := he.size; have tkB : True := trivial)
      | ((first | ((with_reducible apply W_op); exact rfl; exact rfl)); (first | ((with_reducible apply r_indexArr); exact rfl; exact rfl; omega) | ((with_reducible apply r_move); ((conv => lhs; whnf) <;> exact rfl)) | ((with_reducible apply r_assign); ((conv => lhs; whnf) <;> exact rfl)) | ((with_reducible apply r_load); exact rfl; exact rfl; (first | assumption | exact (Bx.cell (by repeat (first | assumption | ((with_reducible apply Bx.grownS); assumption; (first | omega | exact Bx.ne (by assumption) (by omega))) | ((with_reducible apply Bx.below); assumption; omega) | ((with_reducible apply Bx.ex); assumption))) _).trans rfl | exact Ex.cell (by assumption) (by assumption))) | ((with_reducible apply r_loadF); exact rfl; (first | assumption | exact (Bx.cell (by repeat (first | assumption | ((with_reducible apply Bx.grownS); assumption; (first | omega | exact Bx.ne (by assumption) (by omega))) | ((with_reducible apply Bx.below); assumption; omega) | ((with_reducible apply Bx.ex); assumption))) _).trans rfl | exact Ex.cell (by assumption) (by assumption))) | ((with_reducible apply r_loadA); exact rfl; (first | assumption | exact Bx.cells (by repeat (first | assumption | ((with_reducible apply Bx.grownS); assumption; (first | omega | exact Bx.ne (by assumption) (by omega))) | ((with_reducible apply Bx.below); assumption; omega) | ((with_reducible apply Bx.ex); assumption))) | exact Cells.ex (by assumption) (by assumption)); exact rfl) | ((with_reducible apply r_lss); exact rfl; exact rfl) | ((with_reducible apply r_eql); exact rfl; exact rfl) | ((with_reducible apply r_add); exact rfl; exact rfl; omega) | ((with_reducible apply r_len); exact rfl) | ((with_reducible apply r_lenStr); exact rfl) | ((with_reducible apply r_lenInts); ((conv => lhs; whnf) <;> exact rfl); (focus ((repeat (first | assumption | ((refine IntsK.exH (by assumption) ?_); (focus ((repeat (first | exact Ex.refl _ | assumption | (refine Ex.of_grown ?_ (by assumption) (by intro k hk; cases hk; omega)) | (refine Ex.trans ?_ (by assumption)))); done))) | ((refine Prs.exH (by assumption) ?_); (focus ((repeat (first | exact Ex.refl _ | assumption | (refine Ex.of_grown ?_ (by assumption) (by intro k hk; cases hk; omega)) | (refine Ex.trans ?_ (by assumption)))); done))) | ((with_reducible apply Bx.grownS); assumption; (first | omega | exact Bx.ne (by assumption) (by omega))) | ((with_reducible apply Bx.below); assumption; omega) | ((with_reducible apply OwnP.grownS); assumption; omega) | ((with_reducible apply Own.grownS); assumption; omega) | ((with_reducible apply Bx.ex); assumption) | ((with_reducible apply IntsK.ex); assumption) | ((with_reducible apply Own.ex); assumption) | ((with_reducible apply Prs.ex); assumption) | ((with_reducible apply OwnP.ex); assumption))); done))) | ((with_reducible apply r_lenPrs); ((conv => lhs; whnf) <;> exact rfl); (focus ((repeat (first | assumption | ((refine IntsK.exH (by assumption) ?_); (focus ((repeat (first | exact Ex.refl _ | assumption | (refine Ex.of_grown ?_ (by assumption) (by intro k hk; cases hk; omega)) | (refine Ex.trans ?_ (by assumption)))); done))) | ((refine Prs.exH (by assumption) ?_); (focus ((repeat (first | exact Ex.refl _ | assumption | (refine Ex.of_grown ?_ (by assumption) (by intro k hk; cases hk; omega)) | (refine Ex.trans ?_ (by assumption)))); done))) | ((with_reducible apply Bx.grownS); assumption; (first | omega | exact Bx.ne (by assumption) (by omega))) | ((with_reducible apply Bx.below); assumption; omega) | ((with_reducible apply OwnP.grownS); assumption; omega) | ((with_reducible apply Own.grownS); assumption; omega) | ((with_reducible apply Bx.ex); assumption) | ((with_reducible apply IntsK.ex); assumption) | ((with_reducible apply Own.ex); assumption) | ((with_reducible apply Prs.ex); assumption) | ((with_reducible apply OwnP.ex); assumption))); done))) | ((with_reducible apply r_eqlb); exact rfl; exact rfl) | ((with_reducible apply r_loadSub); exact rfl; (focus ((repeat (first | assumption | ((with_reducible apply Bx.grownS); assumption; (first | omega | exact Bx.ne (by assumption) (by omega))) | ((with_reducible apply Bx.below); assumption; omega) | ((with_reducible apply Bx.ex); assumption))); done)); ((simp only [Nat.add_zero, Nat.zero_add, Nat.reduceAdd, List.drop_zero, List.drop_succ_cons, List.take_succ_cons, List.take_zero]) <;> exact rfl); exact rfl)))
      | ((with_reducible apply W_op); exact rfl; exact rfl; exact r_shrM (n := k) rfl rfl rfl (by omega))
      | ((with_reducible apply W_op); exact rfl; exact rfl; exact r_andO rfl rfl hq (Nat.lt_of_le_of_lt (Nat.div_le_self set (2 ^ k)) (by omega)))
      | ((with_reducible (show Exit.then _ _ _ _ _)); refine n_roundG (k + 1) (hJ _ _ _ _ ⟨_, _, _, rfl, by omega, by omega, (by rw [lfS_yes (by omega), tkS_yes (by omega)]; exact htw2), (by repeat (first | assumption | exact Ex.refl _ | (refine Ex.trans ?_ (by assumption)) | (refine Ex.of_grown ?_ (by assumption) (by intro k hk; cases hk; omega))))⟩ ⟨rfl, rfl, rfl, rfl, rfl, trivial⟩ rfl) (by omega))
      | ((with_reducible (show Exit.then _ _ _ _ _)); refine n_roundG (k + 1) (hJ _ _ _ _ ⟨_, _, _, rfl, by omega, by omega, (by rw [lfS_no (by omega), tkS_no (by omega)]; exact htw2), (by repeat (first | assumption | exact Ex.refl _ | (refine Ex.trans ?_ (by assumption)) | (refine Ex.of_grown ?_ (by assumption) (by intro k hk; cases hk; omega))))⟩ ⟨rfl, rfl, rfl, rfl, rfl, trivial⟩ rfl) (by omega))
      | (with_reducible apply W_nil)
      | ((with_reducible apply W_indexInt); ((conv => lhs; whnf) <;> exact rfl); (focus ((repeat (first | assumption | ((refine IntsK.exH (by assumption) ?_); (focus ((repeat (first | exact Ex.refl _ | assumption | (refine Ex.of_grown ?_ (by assumption) (by intro k hk; cases hk; omega)) | (refine Ex.trans ?_ (by assumption)))); done))) | ((refine Prs.exH (by assumption) ?_); (focus ((repeat (first | exact Ex.refl _ | assumption | (refine Ex.of_grown ?_ (by assumption) (by intro k hk; cases hk; omega)) | (refine Ex.trans ?_ (by assumption)))); done))) | ((with_reducible apply Bx.grownS); assumption; (first | omega | exact Bx.ne (by assumption) (by omega))) | ((with_reducible apply Bx.below); assumption; omega) | ((with_reducible apply OwnP.grownS); assumption; omega) | ((with_reducible apply Own.grownS); assumption; omega) | ((with_reducible apply Bx.ex); assumption) | ((with_reducible apply IntsK.ex); assumption) | ((with_reducible apply Own.ex); assumption) | ((with_reducible apply Prs.ex); assumption) | ((with_reducible apply OwnP.ex); assumption))); done)); exact rfl; omega; intro pq hpq)
      | ((with_reducible apply W_indexIntss); ((conv => lhs; whnf) <;> exact rfl); assumption; (focus ((repeat (first | assumption | exact Ex.refl _ | (refine Ex.trans ?_ (by assumption)) | (refine Ex.of_grown ?_ (by assumption) (by intro k hk; cases hk; omega)))); done)); exact rfl; omega; intro pq uq hpq huq)
      | ((with_reducible apply W_indexPr); ((conv => lhs; whnf) <;> exact rfl); (focus ((repeat (first | assumption | ((refine IntsK.exH (by assumption) ?_); (focus ((repeat (first | exact Ex.refl _ | assumption | (refine Ex.of_grown ?_ (by assumption) (by intro k hk; cases hk; omega)) | (refine Ex.trans ?_ (by assumption)))); done))) | ((refine Prs.exH (by assumption) ?_); (focus ((repeat (first | exact Ex.refl _ | assumption | (refine Ex.of_grown ?_ (by assumption) (by intro k hk; cases hk; omega)) | (refine Ex.trans ?_ (by assumption)))); done))) | ((with_reducible apply Bx.grownS); assumption; (first | omega | exact Bx.ne (by assumption) (by omega))) | ((with_reducible apply Bx.below); assumption; omega) | ((with_reducible apply OwnP.grownS); assumption; omega) | ((with_reducible apply Own.grownS); assumption; omega) | ((with_reducible apply Bx.ex); assumption) | ((with_reducible apply IntsK.ex); assumption) | ((with_reducible apply Own.ex); assumption) | ((with_reducible apply Prs.ex); assumption) | ((with_reducible apply OwnP.ex); assumption))); done)); exact rfl; omega; intro pq hpq)
      | ((with_reducible apply W_bsP); exact rfl; exact rfl; intro bq wq hbq he hnq; have hltq := Bx.lt hbq; have hsz := he.size)
      | ((with_reducible apply W_bs1); ((conv => lhs; whnf) <;> exact rfl); (first | exact rfl | assumption | exact IntsK.one (by assumption) | exact Prs.one (by assumption) | exact OwnP.one (by assumption) | exact Own.one (by assumption)); decide; decide; exact rfl; exact rfl; ((simp only [lay, lset, List.replicate_succ, List.replicate_zero]) <;> exact rfl); intro bq wq hbq he hnq; have hltq := Bx.lt hbq; have hsz := he.size)
      | (with_reducible apply c_seq)
      | ((with_reducible apply c_region); kernel_rfl)
      | (with_reducible apply n_nq)
      | (with_reducible apply c_block)
      | (with_reducible apply c_skip)
      | (with_reducible apply c_ret)
      | (with_reducible apply c_exit)
      | ((with_reducible apply c_cond_true); exact rfl)
      | ((with_reducible apply c_cond_false); exact rfl)
      | ((with_reducible apply c_cond_dec); exact rfl; intro _; rotate_left 1; intro _)
      | ((with_reducible apply c_cond_bool); exact rfl; intro _; rotate_left 1; intro _)
      | (with_reducible apply n_then)
      | (with_reducible apply n_block)
      | (with_reducible apply e_then)
      | (with_reducible apply e_block)
      | (with_reducible apply r_then)
      | (with_reducible apply r_block)
      | ((with_reducible apply e_block'); decide)
      | ((with_reducible apply p_ret2); exact rfl; exact rfl; ((conv => lhs; whnf) <;> exact rfl); ((conv => lhs; whnf) <;> exact rfl); refine ⟨_, rfl, ?_, (by repeat (first | assumption | exact Ex.refl _ | (refine Ex.trans ?_ (by assumption)) | (refine Ex.of_grown ?_ (by assumption) (by intro k hk; cases hk; omega))))⟩)
      | ((with_reducible apply m_ret2); (focus ((repeat (first | assumption | exact Al.nil _ _ | ((with_reducible apply Al.grownS); assumption; (focus ((repeat (first | assumption | ((with_reducible apply Bx.grownS); assumption; (first | omega | exact Bx.ne (by assumption) (by omega))) | ((with_reducible apply Bx.below); assumption; omega) | ((with_reducible apply Bx.ex); assumption))); done))) | (refine Al.ex (by assumption) ?_))); done)); exact rfl; ((conv => lhs; whnf) <;> exact rfl); ((conv => lhs; whnf) <;> exact rfl); refine ⟨_, rfl, ?_, (shut_grown _ _ (by repeat (first | assumption | exact Al.nil _ _ | ((with_reducible apply Al.grownS); assumption; (focus ((repeat (first | assumption | ((with_reducible apply Bx.grownS); assumption; (first | omega | exact Bx.ne (by assumption) (by omega))) | ((with_reducible apply Bx.below); assumption; omega) | ((with_reducible apply Bx.ex); assumption))); done))) | (refine Al.ex (by assumption) ?_))) (by repeat (first | assumption | exact Ex.refl _ | (refine Ex.trans ?_ (by assumption)) | (refine Ex.of_grown ?_ (by assumption) (by intro k hk; cases hk; omega)))) (Nat.le_refl _))⟩)
      | ((with_reducible apply p_retct); exact rfl; exact rfl; exact inferInstance; exact inferInstance; exact rfl; (focus ((repeat (first | assumption | ((with_reducible apply Bx.grownS); assumption; (first | omega | exact Bx.ne (by assumption) (by omega))) | ((with_reducible apply Bx.below); assumption; omega) | ((with_reducible apply Bx.ex); assumption))); done)); exact rfl; exact rfl; refine ⟨_, rfl, ?_, (by repeat (first | assumption | exact Ex.refl _ | (refine Ex.trans ?_ (by assumption)) | (refine Ex.of_grown ?_ (by assumption) (by intro k hk; cases hk; omega))))⟩)
      | ((exfalso; omega)))
  all_goals first
    | (rw [show k = S.length by omega] at htw; exact ⟨_, _, rfl, OwnP.ofR9 htw.1, OwnP.ofR9 htw.2.1⟩)
    | trace_state
end Go.Proofs.Ytngoipmdhliigaa
namespace Go.Pv
open Go.RowKit
theorem nxt_no {p q : Nat → Prop} {s : Nat} (h : ∀ t, t < s → p t → ¬ q t) (hs : p s → ¬ q s) : ∀ t, t < s + 1 → p t → ¬ q t := fun t ht => by
  by_cases e : t = s
  · subst e; exact hs
  · exact h t (by omega)
theorem nxt_size {L : Nat → Nat} {A : Nat → Prop} {z M s : Nat} (h : ∀ y, y < z → ∀ t, t < M → L t = y → ¬ A t) (hs : ∀ t, t < s → L t = z → ¬ A t) (hM : M ≤ s) : ∀ y, y < z + 1 → ∀ t, t < M → L t = y → ¬ A t := fun y hy t ht e => by
  by_cases e2 : y = z
  · subst e2; exact hs t (by omega) e
  · exact h y (by omega) t ht e
theorem insA_fin {K M : List Int} {x : Int} {p : Nat} (hM : M = sortL K) (hp : p ≤ M.length) (hb : ∀ y ∈ M.drop p, x ≤ y) (h : p = 0 ∨ ¬ x < M.getD (p - 1) 0) : insA M x p = sortL (K ++ [x]) := by
  subst hM; exact insA_sorted hp hb h
theorem kS_succ {T : List (Int × Int)} {j : Nat} (h : j < T.length) : kS (T.take (j + 1)) = kS (T.take j) ++ [(T.getD j (0, 0)).1] := by
  have e : T.getD j (0, 0) = T[j] := by simp [h]
  unfold kS
  rw [List.take_succ_eq_append_getElem h, List.map_append, e]; rfl
theorem chk_shok {need : Int} {S : List (Int × Int)} (h : chk need S = 0) : ShOk S := by
  obtain ⟨_, _, h2⟩ := chk_inv h
  have hi := fun j (hj : j < S.length) => errF_inv S.length 0 h2 j (Nat.zero_le _) (by omega)
  refine ⟨⟨?_, fun k hk => ?_⟩, fun i => ?_⟩
  · rw [List.nodup_iff_pairwise_ne, List.pairwise_iff_getElem]
    intro i j h3 h4 h5 e
    rw [kS_len] at h3 h4
    have h6 := (hi j h4).2
    rw [← kS_get] at h6
    apply h6
    have e2 : (kS S).getD j 0 = (kS S)[j]'(by rw [kS_len]; exact h4) := by simp [kS_len, h4]
    rw [e2, ← e, List.mem_take_iff_getElem]
    exact ⟨i, by rw [kS_len]; omega, rfl⟩
  · obtain ⟨i, h3, rfl⟩ := List.getElem_of_mem hk
    rw [kS_len] at h3
    have h6 := (hi i h3).1
    unfold rngS at h6
    have e2 : (kS S).getD i 0 = (kS S)[i]'(by rw [kS_len]; exact h3) := by simp [kS_len, h3]
    rw [← e2, kS_get]
    omega
  · by_cases h1 : i < S.length
    · have h6 := (hi i h1).1
      unfold rngS at h6
      omega
    · have e : S.getD i (0, 0) = (0, 0) := by simp only [List.getD]; rw [List.getElem?_eq_none (by omega)]; rfl
      rw [e]; decide
section
variable {P : Program} {Q : Exit → Act → World → Prop} {ol rest : List Oper} {l : St} {w : World} {ty : TypeId} {pos : String} {af : Array Edge}
theorem Own.at9 {E : TypeId} {base : Nat} {w : World} {v : Value} {xs : List Int} (h : Own E base w v xs) {i : Nat} (hi : i < xs.length) : ∃ g cap, v = .slice (some ⟨g, 0, none⟩) xs.length cap ∧ base ≤ g ∧ g < w.heap.size := by
  unfold Own at h
  obtain ⟨h0, h1, h2⟩ := h
  rcases h2 with ⟨_, h3⟩ | ⟨g, cap, cur, h3, h4, h5, _⟩
  · omega
  · exact ⟨g, cap, h3, h4, (Array.getElem?_eq_some_iff.1 h5).1⟩
theorem Own.cellI {E : TypeId} {base g n cap : Nat} {w : World} {xs : List Int} (h : Own E base w (.slice (some ⟨g, 0, none⟩) n cap) xs) {i : Nat} (hi : i < xs.length) {u : Int} (hu : xs.getD i 0 = u) : w.cell? ⟨g, i * 1, none⟩ = some (.int .i64 u) := by
  subst hu
  have := h.ints
  unfold Ints IntsK Sl at this
  obtain ⟨_, a, c, h1, h2, h3, h4⟩ := this
  cases h1
  obtain ⟨p, u, hp, hc, hr⟩ := h4 i hi
  cases hp
  rw [add_mk, Nat.zero_add] at hc
  unfold IntR at hr
  have e : xs.getD i 0 = xs[i] := by simp [hi]
  rw [e, Nat.mul_one, hc, hr]
theorem W_storeI9 {i g n cap : Nat} {base : Nat} {e T : TypeId} {x y : Operand} {xs : List Int} {u : Int} {z : Value} {bytes : Nat} {w0 : World} [hz : Sz P T z 1 bytes] (h0 : Ex w0 w) (hb0 : w0.heap.size ≤ base) (hown : Own e base w (.slice (some ⟨g, 0, none⟩) n cap) xs) (hb : base ≤ w.heap.size) (hx : ev l x = .pointer (some ⟨g, i * 1, none⟩)) (hi : i < xs.length) (hy : ev l y = .int .i64 u)
    (K : ∀ w', Own e base w' (.slice (some ⟨g, 0, none⟩) n cap) (xs.set i u) → Ex w0 w' → w.grownBy w' (some g) → W P ol Q rest l w') : W P ol Q (⟨none, .store T x y, ty, pos, af, none⟩ :: rest) l w := by
  obtain ⟨g', cap', e1, h1, h2⟩ := hown.at9 hi
  cases e1
  rw [Nat.mul_one] at hx
  refine W_storeF (i := i) (w0 := w0) (base := base) h0 hb0 hb hx (Own.toVs hown) (by simpa using hi) hy rfl ?_
  intro w' k1 k2 k3 k4
  exact K w' (Own.ofVs (by rw [List.map_set]; exact k1)) k2 k4
end
end Go.Pv
namespace Go.Proofs.Ytngoipmdhliigaa
open Go.Pv Go.RowKit Go.Sort
set_option maxHeartbeats 8000000
set_option maxRecDepth 20000
theorem rWrong_any (need most : Int) (v : Value) (S : List (Int × Int)) (w : World) (h : Prs w v S) (h10 : S.length ≤ 10 ∨ 20 < S.length) (e : Int) (xs : List Int) (hw : WrongP need most S e xs) : Ret Try.prog 37 [.int .i64 need, .int .i64 most, v] w fun r w' => ∃ u, r = .tuple #[u, .int .i64 e] ∧ Ints w' u xs := by
  have hv1 := h.one
  have hck := fun w2 (e : Ex w w2) => rcheck_any need v S w2 (Prs.ex e h)
  by_cases hc : chk need S = 0
  · have hi := chk_inv hc
    rw [hc] at hck
    by_cases hm : 0 ≤ most ∧ most ≤ 3
    · obtain ⟨n, hn⟩ : ∃ n : Nat, need = n := ⟨need.toNat, by omega⟩
      subst hn
      obtain ⟨m, hmm⟩ : ∃ m : Nat, most = m := ⟨most.toNat, by omega⟩
      subst hmm
      by_cases hl : (S.length : Int) < n + 2 * m
      · have hres : e = 8 ∧ xs = [] := by
          unfold WrongP at hw
          rcases hw with ⟨a, _⟩ | ⟨_, hw⟩
          · exact absurd hc a
          rcases hw with ⟨a, _⟩ | ⟨_, hw⟩
          · exact absurd hm a
          rcases hw with ⟨_, h2, h3⟩ | ⟨a, _⟩
          · exact ⟨h2, h3⟩
          · exact absurd hl a
        obtain ⟨rfl, rfl⟩ := hres
        refine ret_of_c Try.func37 rfl Try.ntmps37 (Nat.le_of_ble_eq_true rfl) (by dsimp only [ini, Nat.reduceAdd] <;> exact rfl) ?_
        repeat' (first
            | ((with_reducible apply W_op); exact rfl; exact rfl; exact r_lenPrs rfl (Prs.ex (show Ex w _ from (by repeat (first | exact Ex.refl _ | assumption | (refine Ex.of_grown ?_ (by assumption) (by intro k hk; cases hk; omega)) | (refine Ex.trans ?_ (by assumption))))) h))
            | ((with_reducible apply c_cond_dec); exact rfl; intro _; rotate_left 1; intro _; (all_goals (try (exfalso; (focus (omega; done))))))
            | ((with_reducible apply W_split); exact rfl; exact rfl; intro _; rotate_left 1; intro hsx; (all_goals (try (exfalso; (focus (first | exact hsx rfl | omega; done))))))
            | ((first | ((with_reducible apply W_op); exact rfl; exact rfl) | ((with_reducible apply WQ_op); exact rfl; exact rfl; intro wq he) | ((with_reducible apply WM_op); exact rfl; exact rfl; intro wq he) | ((with_reducible apply WB_op); exact rfl; exact rfl; intro wq)); (first | ((with_reducible apply r_indexArr); exact rfl; exact rfl; omega) | ((with_reducible apply r_move); ((conv => lhs; whnf) <;> exact rfl)) | ((with_reducible apply r_assign); ((conv => lhs; whnf) <;> exact rfl)) | ((with_reducible apply r_fieldAddr); exact rfl) | ((with_reducible apply r_load); exact rfl; exact rfl; (first | assumption | exact (Bx.cell (by repeat (first | assumption | ((with_reducible apply Bx.grownS); assumption; (first | omega | exact Bx.ne (by assumption) (by omega))) | ((with_reducible apply Bx.below); assumption; omega) | ((with_reducible apply Bx.ex); assumption))) _).trans rfl | exact Ex.cell (by assumption) (by assumption))) | ((with_reducible apply r_loadF); exact rfl; (first | assumption | exact (Bx.cell (by repeat (first | assumption | ((with_reducible apply Bx.grownS); assumption; (first | omega | exact Bx.ne (by assumption) (by omega))) | ((with_reducible apply Bx.below); assumption; omega) | ((with_reducible apply Bx.ex); assumption))) _).trans rfl | exact Ex.cell (by assumption) (by assumption))) | ((with_reducible apply r_loadA); exact rfl; (first | assumption | exact Bx.cells (by repeat (first | assumption | ((with_reducible apply Bx.grownS); assumption; (first | omega | exact Bx.ne (by assumption) (by omega))) | ((with_reducible apply Bx.below); assumption; omega) | ((with_reducible apply Bx.ex); assumption))) | exact Cells.ex (by assumption) (by assumption)); exact rfl) | ((with_reducible apply r_lss); exact rfl; exact rfl) | ((with_reducible apply r_leq); exact rfl; exact rfl) | ((with_reducible apply r_gtr); exact rfl; exact rfl) | ((with_reducible apply r_eql); exact rfl; exact rfl) | ((with_reducible apply r_neq); exact rfl; exact rfl) | ((with_reducible apply r_add); exact rfl; exact rfl; omega) | ((with_reducible apply r_sub); exact rfl; exact rfl; omega) | ((with_reducible apply r_len); exact rfl) | ((with_reducible apply r_lenStr); exact rfl) | ((with_reducible apply r_lenInts); ((conv => lhs; whnf) <;> exact rfl); (focus ((repeat (first | assumption | ((refine IntsK.exH (by assumption) ?_); (focus ((repeat (first | exact Ex.refl _ | assumption | (refine Ex.of_grown ?_ (by assumption) (by intro k hk; cases hk; omega)) | (refine Ex.trans ?_ (by assumption)))); done))) | ((refine Prs.exH (by assumption) ?_); (focus ((repeat (first | exact Ex.refl _ | assumption | (refine Ex.of_grown ?_ (by assumption) (by intro k hk; cases hk; omega)) | (refine Ex.trans ?_ (by assumption)))); done))) | ((with_reducible apply Bx.grownS); assumption; (first | omega | exact Bx.ne (by assumption) (by omega))) | ((with_reducible apply Bx.below); assumption; omega) | ((with_reducible apply OwnP.grownS); assumption; omega) | ((with_reducible apply Own.grownS); assumption; omega) | ((with_reducible apply Bx.ex); assumption) | ((with_reducible apply IntsK.ex); assumption) | ((with_reducible apply Own.ex); assumption) | ((with_reducible apply Prs.ex); assumption) | ((with_reducible apply OwnP.ex); assumption))); done))) | ((with_reducible apply r_lenPrs); ((conv => lhs; whnf) <;> exact rfl); (focus ((repeat (first | assumption | ((refine IntsK.exH (by assumption) ?_); (focus ((repeat (first | exact Ex.refl _ | assumption | (refine Ex.of_grown ?_ (by assumption) (by intro k hk; cases hk; omega)) | (refine Ex.trans ?_ (by assumption)))); done))) | ((refine Prs.exH (by assumption) ?_); (focus ((repeat (first | exact Ex.refl _ | assumption | (refine Ex.of_grown ?_ (by assumption) (by intro k hk; cases hk; omega)) | (refine Ex.trans ?_ (by assumption)))); done))) | ((with_reducible apply Bx.grownS); assumption; (first | omega | exact Bx.ne (by assumption) (by omega))) | ((with_reducible apply Bx.below); assumption; omega) | ((with_reducible apply OwnP.grownS); assumption; omega) | ((with_reducible apply Own.grownS); assumption; omega) | ((with_reducible apply Bx.ex); assumption) | ((with_reducible apply IntsK.ex); assumption) | ((with_reducible apply Own.ex); assumption) | ((with_reducible apply Prs.ex); assumption) | ((with_reducible apply OwnP.ex); assumption))); done))) | ((with_reducible apply r_pick_true); exact rfl; ((conv => lhs; whnf) <;> exact rfl)) | ((with_reducible apply r_pick_false); exact rfl; ((conv => lhs; whnf) <;> exact rfl)) | ((with_reducible apply r_not); exact rfl) | ((with_reducible apply r_notb); exact rfl) | ((with_reducible apply r_mul); exact rfl; exact rfl; omega) | ((with_reducible apply r_eqlb); exact rfl; exact rfl) | ((with_reducible apply r_neqb); exact rfl; exact rfl) | ((with_reducible apply r_extract); exact rfl; exact rfl) | ((with_reducible apply r_loadSub); exact rfl; (focus ((repeat (first | assumption | ((with_reducible apply Bx.grownS); assumption; (first | omega | exact Bx.ne (by assumption) (by omega))) | ((with_reducible apply Bx.below); assumption; omega) | ((with_reducible apply Bx.ex); assumption))); done)); ((simp only [Nat.add_zero, Nat.zero_add, Nat.reduceAdd, List.drop_zero, List.drop_succ_cons, List.take_succ_cons, List.take_zero]) <;> exact rfl); exact rfl)))
            | (refine W_callv (hck _ (by repeat (first | assumption | exact Ex.refl _ | (refine Ex.trans ?_ (by assumption)) | (refine Ex.of_grown ?_ (by assumption) (by intro k hk; cases hk; omega))))) rfl (fun wq he => ?_); have hsz := he.size)
            | (refine W_callv (is_any (m : Int) 0 3 _) rfl (fun wq he => ?_); have hsz := he.size)
            | (with_reducible apply W_nil)
            | ((with_reducible apply WQ_nil); exact rfl; intro wq he; have hsz := he.size)
            | (with_reducible apply WM_nil; intro wq he; have hsz := he.size)
            | (with_reducible apply WB_nil)
            | (with_reducible apply WT_nil)
            | (with_reducible apply WT_cons)
            | (with_reducible apply t_sink)
            | ((with_reducible apply t_keep); (focus ((repeat (first | assumption | exact Ex.refl _ | (refine Ex.trans ?_ (by assumption)) | (refine Ex.of_grown ?_ (by assumption) (by intro k hk; cases hk; omega)))); done)); intro wq he; have hsz := he.size)
            | ((with_reducible apply W_indexInt); ((conv => lhs; whnf) <;> exact rfl); (focus ((repeat (first | assumption | ((refine IntsK.exH (by assumption) ?_); (focus ((repeat (first | exact Ex.refl _ | assumption | (refine Ex.of_grown ?_ (by assumption) (by intro k hk; cases hk; omega)) | (refine Ex.trans ?_ (by assumption)))); done))) | ((refine Prs.exH (by assumption) ?_); (focus ((repeat (first | exact Ex.refl _ | assumption | (refine Ex.of_grown ?_ (by assumption) (by intro k hk; cases hk; omega)) | (refine Ex.trans ?_ (by assumption)))); done))) | ((with_reducible apply Bx.grownS); assumption; (first | omega | exact Bx.ne (by assumption) (by omega))) | ((with_reducible apply Bx.below); assumption; omega) | ((with_reducible apply OwnP.grownS); assumption; omega) | ((with_reducible apply Own.grownS); assumption; omega) | ((with_reducible apply Bx.ex); assumption) | ((with_reducible apply IntsK.ex); assumption) | ((with_reducible apply Own.ex); assumption) | ((with_reducible apply Prs.ex); assumption) | ((with_reducible apply OwnP.ex); assumption))); done)); exact rfl; omega; intro pq hpq)
            | ((with_reducible apply W_indexIntss); ((conv => lhs; whnf) <;> exact rfl); assumption; (focus ((repeat (first | assumption | exact Ex.refl _ | (refine Ex.trans ?_ (by assumption)) | (refine Ex.of_grown ?_ (by assumption) (by intro k hk; cases hk; omega)))); done)); exact rfl; omega; intro pq uq hpq huq)
            | ((with_reducible apply WQ_indexInt); ((conv => lhs; whnf) <;> exact rfl); (focus ((repeat (first | assumption | ((refine IntsK.exH (by assumption) ?_); (focus ((repeat (first | exact Ex.refl _ | assumption | (refine Ex.of_grown ?_ (by assumption) (by intro k hk; cases hk; omega)) | (refine Ex.trans ?_ (by assumption)))); done))) | ((refine Prs.exH (by assumption) ?_); (focus ((repeat (first | exact Ex.refl _ | assumption | (refine Ex.of_grown ?_ (by assumption) (by intro k hk; cases hk; omega)) | (refine Ex.trans ?_ (by assumption)))); done))) | ((with_reducible apply Bx.grownS); assumption; (first | omega | exact Bx.ne (by assumption) (by omega))) | ((with_reducible apply Bx.below); assumption; omega) | ((with_reducible apply OwnP.grownS); assumption; omega) | ((with_reducible apply Own.grownS); assumption; omega) | ((with_reducible apply Bx.ex); assumption) | ((with_reducible apply IntsK.ex); assumption) | ((with_reducible apply Own.ex); assumption) | ((with_reducible apply Prs.ex); assumption) | ((with_reducible apply OwnP.ex); assumption))); done)); exact rfl; omega; intro pq hpq)
            | ((with_reducible apply WQ_indexIntss); ((conv => lhs; whnf) <;> exact rfl); assumption; (focus ((repeat (first | assumption | exact Ex.refl _ | (refine Ex.trans ?_ (by assumption)) | (refine Ex.of_grown ?_ (by assumption) (by intro k hk; cases hk; omega)))); done)); exact rfl; omega; intro pq uq hpq huq)
            | ((with_reducible apply WM_indexInt); ((conv => lhs; whnf) <;> exact rfl); (focus ((repeat (first | assumption | ((refine IntsK.exH (by assumption) ?_); (focus ((repeat (first | exact Ex.refl _ | assumption | (refine Ex.of_grown ?_ (by assumption) (by intro k hk; cases hk; omega)) | (refine Ex.trans ?_ (by assumption)))); done))) | ((refine Prs.exH (by assumption) ?_); (focus ((repeat (first | exact Ex.refl _ | assumption | (refine Ex.of_grown ?_ (by assumption) (by intro k hk; cases hk; omega)) | (refine Ex.trans ?_ (by assumption)))); done))) | ((with_reducible apply Bx.grownS); assumption; (first | omega | exact Bx.ne (by assumption) (by omega))) | ((with_reducible apply Bx.below); assumption; omega) | ((with_reducible apply OwnP.grownS); assumption; omega) | ((with_reducible apply Own.grownS); assumption; omega) | ((with_reducible apply Bx.ex); assumption) | ((with_reducible apply IntsK.ex); assumption) | ((with_reducible apply Own.ex); assumption) | ((with_reducible apply Prs.ex); assumption) | ((with_reducible apply OwnP.ex); assumption))); done)); exact rfl; omega; intro pq hpq)
            | ((with_reducible apply WM_indexIntss); ((conv => lhs; whnf) <;> exact rfl); assumption; (focus ((repeat (first | assumption | exact Ex.refl _ | (refine Ex.trans ?_ (by assumption)) | (refine Ex.of_grown ?_ (by assumption) (by intro k hk; cases hk; omega)))); done)); exact rfl; omega; intro pq uq hpq huq)
            | ((with_reducible apply W_indexPr); ((conv => lhs; whnf) <;> exact rfl); (focus ((repeat (first | assumption | ((refine IntsK.exH (by assumption) ?_); (focus ((repeat (first | exact Ex.refl _ | assumption | (refine Ex.of_grown ?_ (by assumption) (by intro k hk; cases hk; omega)) | (refine Ex.trans ?_ (by assumption)))); done))) | ((refine Prs.exH (by assumption) ?_); (focus ((repeat (first | exact Ex.refl _ | assumption | (refine Ex.of_grown ?_ (by assumption) (by intro k hk; cases hk; omega)) | (refine Ex.trans ?_ (by assumption)))); done))) | ((with_reducible apply Bx.grownS); assumption; (first | omega | exact Bx.ne (by assumption) (by omega))) | ((with_reducible apply Bx.below); assumption; omega) | ((with_reducible apply OwnP.grownS); assumption; omega) | ((with_reducible apply Own.grownS); assumption; omega) | ((with_reducible apply Bx.ex); assumption) | ((with_reducible apply IntsK.ex); assumption) | ((with_reducible apply Own.ex); assumption) | ((with_reducible apply Prs.ex); assumption) | ((with_reducible apply OwnP.ex); assumption))); done)); exact rfl; omega; intro pq hpq)
            | ((with_reducible apply WQ_indexPr); ((conv => lhs; whnf) <;> exact rfl); (focus ((repeat (first | assumption | ((refine IntsK.exH (by assumption) ?_); (focus ((repeat (first | exact Ex.refl _ | assumption | (refine Ex.of_grown ?_ (by assumption) (by intro k hk; cases hk; omega)) | (refine Ex.trans ?_ (by assumption)))); done))) | ((refine Prs.exH (by assumption) ?_); (focus ((repeat (first | exact Ex.refl _ | assumption | (refine Ex.of_grown ?_ (by assumption) (by intro k hk; cases hk; omega)) | (refine Ex.trans ?_ (by assumption)))); done))) | ((with_reducible apply Bx.grownS); assumption; (first | omega | exact Bx.ne (by assumption) (by omega))) | ((with_reducible apply Bx.below); assumption; omega) | ((with_reducible apply OwnP.grownS); assumption; omega) | ((with_reducible apply Own.grownS); assumption; omega) | ((with_reducible apply Bx.ex); assumption) | ((with_reducible apply IntsK.ex); assumption) | ((with_reducible apply Own.ex); assumption) | ((with_reducible apply Prs.ex); assumption) | ((with_reducible apply OwnP.ex); assumption))); done)); exact rfl; omega; intro pq hpq)
            | ((with_reducible apply W_bsP); exact rfl; exact rfl; intro bq wq hbq he hnq; have hltq := Bx.lt hbq; have hsz := he.size)
            | ((with_reducible apply W_storeA); exact rfl; (focus ((repeat (first | assumption | ((with_reducible apply Bx.grownS); assumption; (first | omega | exact Bx.ne (by assumption) (by omega))) | ((with_reducible apply Bx.below); assumption; omega) | ((with_reducible apply Bx.ex); assumption))); done)); exact rfl; exact rfl; exact rfl; (repeat' (first | exact trivial | (first | exact rfl | assumption | exact IntsK.one (by assumption) | exact Prs.one (by assumption) | exact OwnP.one (by assumption) | exact Own.one (by assumption)) | constructor)); intro wq hbq hgq; have he : Ex w wq := (by repeat (first | assumption | exact Ex.refl _ | (refine Ex.trans ?_ (by assumption)) | (refine Ex.of_grown ?_ (by assumption) (by intro k hk; cases hk; omega)))); have hsz := he.size; have hgz := hgq.size)
            | ((with_reducible apply W_store); exact rfl; (focus ((repeat (first | assumption | ((with_reducible apply Bx.grownS); assumption; (first | omega | exact Bx.ne (by assumption) (by omega))) | ((with_reducible apply Bx.below); assumption; omega) | ((with_reducible apply Bx.ex); assumption))); done)); exact Nat.le_of_ble_eq_true rfl; ((conv => lhs; whnf) <;> exact rfl); (first | exact rfl | assumption | exact IntsK.one (by assumption) | exact Prs.one (by assumption) | exact OwnP.one (by assumption) | exact Own.one (by assumption)); simp only [lset]; intro wq hbq hgq; have he : Ex w wq := (by repeat (first | assumption | exact Ex.refl _ | (refine Ex.trans ?_ (by assumption)) | (refine Ex.of_grown ?_ (by assumption) (by intro k hk; cases hk; omega)))); have hsz := he.size; have hgz := hgq.size)
            | ((with_reducible apply W_pass); exact rfl; exact rfl; exact rfl; exact rfl; exact rfl)
            | ((with_reducible apply W_take); exact rfl; exact rfl; exact rfl)
            | ((with_reducible apply W_passU); exact rfl; exact rfl; exact rfl; exact rfl)
            | ((with_reducible apply W_split); exact rfl; exact rfl; intro _; rotate_left 1; intro _)
            | ((with_reducible apply WQ_pass); exact rfl; exact rfl; exact rfl; exact rfl; exact rfl)
            | ((with_reducible apply WQ_take); exact rfl; exact rfl; exact rfl)
            | ((with_reducible apply WQ_passU); exact rfl; exact rfl; exact rfl; exact rfl)
            | ((with_reducible apply WQ_split); exact rfl; exact rfl; intro _; rotate_left 1; intro _)
            | ((with_reducible apply WM_pass); exact rfl; exact rfl; exact rfl; exact rfl; exact rfl)
            | ((with_reducible apply WM_take); exact rfl; exact rfl; exact rfl)
            | ((with_reducible apply WM_passU); exact rfl; exact rfl; exact rfl; exact rfl)
            | ((with_reducible apply WM_split); exact rfl; exact rfl; intro _; rotate_left 1; intro _)
            | ((with_reducible apply c_quiet); kernel_rfl)
            | ((with_reducible apply W_bs1); ((conv => lhs; whnf) <;> exact rfl); (first | exact rfl | assumption | exact IntsK.one (by assumption) | exact Prs.one (by assumption) | exact OwnP.one (by assumption) | exact Own.one (by assumption)); decide; decide; exact rfl; exact rfl; ((simp only [lay, lset, List.replicate_succ, List.replicate_zero]) <;> exact rfl); intro bq wq hbq he hnq; have hltq := Bx.lt hbq; have hsz := he.size)
            | (with_reducible apply c_seq)
            | ((with_reducible apply c_region); kernel_rfl)
            | (with_reducible apply n_nq)
            | (with_reducible apply c_block)
            | (with_reducible apply c_skip)
            | (with_reducible apply c_ret)
            | (with_reducible apply c_exit)
            | ((with_reducible apply c_cond_true); exact rfl)
            | ((with_reducible apply c_cond_false); exact rfl)
            | ((with_reducible apply c_cond_dec); exact rfl; intro _; rotate_left 1; intro _)
            | ((with_reducible apply c_cond_bool); exact rfl; intro _; rotate_left 1; intro _)
            | (with_reducible apply n_then)
            | (with_reducible apply n_block)
            | (with_reducible apply e_then)
            | (with_reducible apply e_block)
            | (with_reducible apply r_then)
            | (with_reducible apply r_block)
            | ((with_reducible apply e_block'); decide)
            | ((with_reducible apply p_ret2); exact rfl; exact rfl; ((conv => lhs; whnf) <;> exact rfl); ((conv => lhs; whnf) <;> exact rfl); refine ⟨_, rfl, ?_, (by repeat (first | assumption | exact Ex.refl _ | (refine Ex.trans ?_ (by assumption)) | (refine Ex.of_grown ?_ (by assumption) (by intro k hk; cases hk; omega))))⟩)
            | ((with_reducible apply m_ret2); (focus ((repeat (first | assumption | exact Al.nil _ _ | ((with_reducible apply Al.grownS); assumption; (focus ((repeat (first | assumption | ((with_reducible apply Bx.grownS); assumption; (first | omega | exact Bx.ne (by assumption) (by omega))) | ((with_reducible apply Bx.below); assumption; omega) | ((with_reducible apply Bx.ex); assumption))); done))) | (refine Al.ex (by assumption) ?_))); done)); exact rfl; ((conv => lhs; whnf) <;> exact rfl); ((conv => lhs; whnf) <;> exact rfl); refine ⟨_, rfl, ?_, (shut_grown _ _ (by repeat (first | assumption | exact Al.nil _ _ | ((with_reducible apply Al.grownS); assumption; (focus ((repeat (first | assumption | ((with_reducible apply Bx.grownS); assumption; (first | omega | exact Bx.ne (by assumption) (by omega))) | ((with_reducible apply Bx.below); assumption; omega) | ((with_reducible apply Bx.ex); assumption))); done))) | (refine Al.ex (by assumption) ?_))) (by repeat (first | assumption | exact Ex.refl _ | (refine Ex.trans ?_ (by assumption)) | (refine Ex.of_grown ?_ (by assumption) (by intro k hk; cases hk; omega)))) (Nat.le_refl _))⟩)
            | ((with_reducible apply p_retct); exact rfl; exact rfl; exact inferInstance; exact inferInstance; exact rfl; (focus ((repeat (first | assumption | ((with_reducible apply Bx.grownS); assumption; (first | omega | exact Bx.ne (by assumption) (by omega))) | ((with_reducible apply Bx.below); assumption; omega) | ((with_reducible apply Bx.ex); assumption))); done)); exact rfl; exact rfl; refine ⟨_, rfl, ?_, (by repeat (first | assumption | exact Ex.refl _ | (refine Ex.trans ?_ (by assumption)) | (refine Ex.of_grown ?_ (by assumption) (by intro k hk; cases hk; omega))))⟩)
            | ((exfalso; omega)))
        all_goals first
          | exact ⟨_, rfl, IntsK.nil _ _ _ (Nat.zero_le _)⟩
          | trace_state
      · have hS : ShOk S := chk_shok hc
        have hlen10 : S.length ≤ 10 := by have := hS.len; omega
        obtain ⟨M, hM⟩ : ∃ M, 2 ^ S.length = M := ⟨_, rfl⟩
        have hMb : M ≤ 1024 := by rw [← hM]; exact Nat.pow_le_pow_right (by omega) (show S.length ≤ 10 by omega)
        have hF := fun (set size : Nat) => wrongs_found (need := n) (most := m) (set := set) (size := size) hS (by omega) (by omega) (by omega) hw
        have hN := wrongs_none (need := n) (most := m) hS (by omega) (by omega) (by omega) hw
        have hA := fun (set : Nat) u w2 (hu : Prs w2 u (lfS S set S.length)) => by
          have hsub : (lfS S set S.length).Sublist S := by have := lfS_sub S set S.length (Nat.le_refl _); rwa [List.take_length] at this
          have hAs := hS.sub hsub
          have := lfS_len S set S.length
          exact ragree_any n u (lfS S set S.length) w2 hu hAs.ok hAs.dist (by omega) (by omega)
        rw [hM] at hF hN
        clear hw
        have tkA : True := trivial
        refine ret_of_c Try.func37 rfl Try.ntmps37 (Nat.le_of_ble_eq_true rfl) (by dsimp only [ini, Nat.reduceAdd] <;> exact rfl) ?_
        repeat' (first
            | (have _ := tkA; (with_reducible apply W_op); exact rfl; exact rfl; exact r_lenPrs rfl (Prs.ex (show Ex w _ from (by repeat (first | exact Ex.refl _ | assumption | (refine Ex.of_grown ?_ (by assumption) (by intro k hk; cases hk; omega)) | (refine Ex.trans ?_ (by assumption))))) h))
            | (have _ := tkA; (with_reducible apply c_cond_dec); exact rfl; intro _; rotate_left 1; intro _; (all_goals (try (exfalso; (focus (omega; done))))))
            | (have _ := tkA; (with_reducible apply W_split); exact rfl; exact rfl; intro _; rotate_left 1; intro hsx; (all_goals (try (exfalso; (focus (first | exact hsx rfl | omega; done))))))
            | (clear tkA; (have tkZ : True := trivial); clear tkZ; refine c_loopG (fun (z : Nat) ps wr => ∃ i : Int, ps = [(0, .int .i64 (n : Int)), (1, .int .i64 (m : Int)), (2, v), (9, .int .i64 i)] ∧ i = z ∧ z ≤ m + 1 ∧ (∀ y, y < z → ∀ t, t < M → (tkS S t S.length).length = y → ¬ agreeP n (lfS S t S.length)) ∧ Ex w wr) (fun z => m + 1 - z) 0 _ ⟨_, rfl, rfl, Nat.zero_le _, (fun y hy => absurd hy (Nat.not_lt_zero _)), (by repeat (first | assumption | exact Ex.refl _ | (refine Ex.trans ?_ (by assumption)) | (refine Ex.of_grown ?_ (by assumption) (by intro k hk; cases hk; omega))))⟩ ⟨rfl, rfl, rfl, rfl, trivial⟩ (by ((conv => lhs; whnf) <;> exact rfl)) (by ((conv => lhs; whnf) <;> exact rfl)) ?_; rintro J hJ z u ps wr ⟨i, rfl, rfl, hz, hmin, he⟩; have hsz := he.size; have tkY : True := trivial)
            | (clear tkY; (have tkX : True := trivial); clear tkX; refine c_loopG (fun (s : Nat) ps wr => ∃ i : Int, ps = [(0, .int .i64 (n : Int)), (1, .int .i64 (m : Int)), (2, v), (9, .int .i64 (z : Int)), (10, .int .i64 i)] ∧ i = s ∧ s ≤ M ∧ (∀ t, t < s → (tkS S t S.length).length = z → ¬ agreeP n (lfS S t S.length)) ∧ Ex w wr) (fun s => M - s) 0 _ ⟨_, rfl, rfl, Nat.zero_le _, (fun y hy => absurd hy (Nat.not_lt_zero _)), (by repeat (first | assumption | exact Ex.refl _ | (refine Ex.trans ?_ (by assumption)) | (refine Ex.of_grown ?_ (by assumption) (by intro k hk; cases hk; omega))))⟩ ⟨rfl, rfl, rfl, rfl, rfl, trivial⟩ (by ((conv => lhs; whnf) <;> exact rfl)) (by ((conv => lhs; whnf) <;> exact rfl)) ?_; rintro K2 hK2 s u ps wr ⟨i, rfl, rfl, hs, hin, he⟩; have hsz := he.size; have tkW : True := trivial)
            | (clear tkW; (have htl := tkS_len S s S.length); (have hA := hA s); (by_cases hlen : (tkS S s S.length).length = z; by_cases hag : agreeP n (lfS S s S.length)); all_goals ((try rw [decide_eq_true hag] at hA); (try rw [decide_eq_false hag] at hA); (have tkV : True := trivial)))
            | (have _ := tkV; (with_reducible apply W_op); exact rfl; exact rfl; exact r_lenPrs rfl (Prs.ex (show Ex w _ from (by repeat (first | exact Ex.refl _ | assumption | (refine Ex.of_grown ?_ (by assumption) (by intro k hk; cases hk; omega)) | (refine Ex.trans ?_ (by assumption))))) h))
            | ((with_reducible apply W_op); exact rfl; exact rfl; exact r_shlO rfl rfl hM (by omega))
            | (have _ := tkV; (with_reducible apply c_cond_dec); exact rfl; intro _; rotate_left 1; intro _; (all_goals (try (exfalso; (focus (omega; done))))))
            | (clear tkV; refine W_call (left_any s v S _ (Prs.ex (show Ex w _ from (by repeat (first | exact Ex.refl _ | assumption | (refine Ex.of_grown ?_ (by assumption) (by intro k hk; cases hk; omega)) | (refine Ex.trans ?_ (by assumption))))) h) (by omega) (by omega)) rfl ?_; rintro vq wl ⟨av, bv, rfl, hoa, hob⟩ he; have hsz := he.size; have ha1 := hoa.one; have hb1 := hob.one; have hpa := hoa.prs; have hpb := hob.prs; (have tkU : True := trivial))
            | (have _ := tkU; (with_reducible apply W_op); exact rfl; exact rfl; exact r_lenPrs rfl hpb)
            | (have _ := tkU; (with_reducible apply W_split); exact rfl; exact rfl; intro _; rotate_left 1; intro hsx; (all_goals (try (exfalso; (focus (first | exact hsx rfl | omega; done))))))
            | (have _ := tkU; refine W_callv (hA _ _ hpa) rfl (fun wq he => ?_); have hsz := he.size)
            | (have _ := tkU; (with_reducible apply c_cond_dec); exact rfl; intro _; rotate_left 1; intro _; (all_goals (try (exfalso; (focus (omega; done))))))
            | (clear tkU; (obtain ⟨rfl, rfl⟩ := hF s z hag hlen (by omega) hmin); (have tkT : True := trivial); clear tkT; refine c_loopG (fun (j : Nat) ps wr => ∃ ov : Value, ∃ i : Int, ps = [(12, bv), (13, ov), (14, .int .i64 i)] ∧ i = j ∧ j ≤ z ∧ Pv.Own 3 wl.heap.size wr ov (sortL (kS ((tkS S s S.length).take j))) ∧ Ex wl wr) (fun j => z - j) 0 _ ⟨_, _, rfl, rfl, Nat.zero_le _, (by rw [List.take_zero]; show Pv.Own _ _ _ _ (sortL []); rw [show sortL [] = [] from by simp [sortL]]; exact Pv.Own.nil _ _ _), (show Ex wl _ from (by repeat (first | exact Ex.refl _ | assumption | (refine Ex.of_grown ?_ (by assumption) (by intro k hk; cases hk; omega)) | (refine Ex.trans ?_ (by assumption)))))⟩ ⟨rfl, rfl, rfl, trivial⟩ (by ((conv => lhs; whnf) <;> exact rfl)) (by ((conv => lhs; whnf) <;> exact rfl)) ?_; rintro K3 hK3 j u ps wr ⟨ov, i, rfl, rfl, hj, hown, he⟩; have hsz := he.size; have tkR : True := trivial)
            | (clear tkR; (obtain ⟨L, hL⟩ : ∃ q, q = sortL (kS ((tkS S s S.length).take j)) := ⟨_, rfl⟩); rw [← hL] at hown; have ho1 := hown.one; (obtain ⟨xk, hxk⟩ : ∃ q, ((tkS S s S.length).getD j (0, 0)).1 = q := ⟨_, rfl⟩); (have hLl : L.length ≤ 10 := by rw [hL, sortL_len, kS_len]; have := List.length_take_le j (tkS S s S.length); omega); (have tkP : True := trivial); (have tkO : True := trivial))
            | (have _ := tkP; (with_reducible apply W_op); exact rfl; exact rfl; exact r_lenPrs rfl (Prs.ex (show Ex wl _ from (by repeat (first | exact Ex.refl _ | assumption | (refine Ex.of_grown ?_ (by assumption) (by intro k hk; cases hk; omega)) | (refine Ex.trans ?_ (by assumption))))) hpb))
            | (have _ := tkP; (with_reducible apply c_cond_dec); exact rfl; intro _; rotate_left 1; intro _; (all_goals (try (exfalso; (focus (omega; done))))))
            | (have _ := tkP; refine W_indexPr2 (i := j) (v := bv) (xs := tkS S s S.length) rfl (Prs.ex (show Ex wl _ from (by repeat (first | exact Ex.refl _ | assumption | (refine Ex.of_grown ?_ (by assumption) (by intro k hk; cases hk; omega)) | (refine Ex.trans ?_ (by assumption))))) hpb) rfl (by omega) ?_; intro pb po hpc hp0 hp1; rw [hxk] at hp0)
            | (have _ := tkP; refine W_appendO (w0 := wl) (base := wl.heap.size) (m := xk) (xs := L) rfl rfl (Pv.Own.ex (show Ex wr _ from (by repeat (first | exact Ex.refl _ | assumption | (refine Ex.of_grown ?_ (by assumption) (by intro k hk; cases hk; omega)) | (refine Ex.trans ?_ (by assumption))))) hown) rfl (by repeat (first | assumption | ((with_reducible apply Bx.grownS); assumption; (first | omega | exact Bx.ne (by assumption) (by omega))) | ((with_reducible apply Bx.below); assumption; omega) | ((with_reducible apply Bx.ex); assumption))) (by omega) (show Ex wl _ from (by repeat (first | exact Ex.refl _ | assumption | (refine Ex.of_grown ?_ (by assumption) (by intro k hk; cases hk; omega)) | (refine Ex.trans ?_ (by assumption))))) (Nat.le_refl _) (by omega) ?_; intro ov2 wa hown2 hov1 he hkn hgq; have hsz := he.size; (have hNl : (L ++ [xk]).length = L.length + 1 := (by simp)); (obtain ⟨g, cap, rfl, hgb, hgl⟩ := hown2.at9 (i := L.length) (by omega)); rw [hNl] at hown2 ⊢)
            | (clear tkO; (have tkN : True := trivial); clear tkN; refine c_loopG (fun (p : Nat) ps wr => ∃ i : Int, ps = [(12, bv), (13, .slice (some ⟨g, 0, none⟩) (L.length + 1) cap), (14, .int .i64 (j : Int)), (15, .int .i64 i)] ∧ i = p ∧ p ≤ L.length ∧ (∀ y ∈ L.drop p, xk ≤ y) ∧ Pv.Own 3 wl.heap.size wr (.slice (some ⟨g, 0, none⟩) (L.length + 1) cap) (insA L xk p) ∧ Ex wl wr) (fun p => p) L.length _ ⟨_, rfl, (by omega), Nat.le_refl _, (by simp), (by rw [insA_end]; exact hown2), (show Ex wl _ from (by repeat (first | exact Ex.refl _ | assumption | (refine Ex.of_grown ?_ (by assumption) (by intro k hk; cases hk; omega)) | (refine Ex.trans ?_ (by assumption)))))⟩ ⟨rfl, rfl, rfl, rfl, trivial⟩ (by ((conv => lhs; whnf) <;> exact rfl)) (by ((conv => lhs; whnf) <;> exact rfl)) ?_; rintro K4 hK4 p u ps wr ⟨i, rfl, rfl, hp, hdr, hown3, he⟩; have hsz := he.size; have tkM : True := trivial)
            | (clear tkM; clear tkP; (by_cases hp0 : p = 0; rotate_left 1; (have hil := insA_len L xk hp); (have hat := insA_at L xk hp); (have hbf := insA_before L xk (p := p - 1) (by omega)); (have hsw := insA_swap L xk (p := p - 1) (by omega)); rw [show p - 1 + 1 = p by omega] at hbf hsw; (by_cases hnlt : ¬ xk < L.getD (p - 1) 0; rotate_left 1; (have hdn := insA_down (M := L) (x := xk) (p := p - 1) (by omega) (by rw [show p - 1 + 1 = p by omega]; exact hdr) (Classical.not_not.1 hnlt)))); all_goals (have tkL : True := trivial))
            | (have _ := tkL; (with_reducible apply WQ_split); exact rfl; exact rfl; intro _; rotate_left 1; intro _; (all_goals (try (exfalso; (focus (omega; done))))))
            | (have _ := tkL; refine WQ_indexInt (i := p) (v := .slice (some ⟨g, 0, none⟩) (L.length + 1) cap) (xs := insA L xk p) rfl (Pv.Own.ints (Pv.Own.ex (show Ex wr _ from (by repeat (first | exact Ex.refl _ | assumption | (refine Ex.of_grown ?_ (by assumption) (by intro k hk; cases hk; omega)) | (refine Ex.trans ?_ (by assumption))))) hown3)) rfl (by omega) ?_; intro pq hpq; rw [hat] at hpq)
            | (have _ := tkL; refine WQ_indexInt (i := p - 1) (v := .slice (some ⟨g, 0, none⟩) (L.length + 1) cap) (xs := insA L xk p) rfl (Pv.Own.ints (Pv.Own.ex (show Ex wr _ from (by repeat (first | exact Ex.refl _ | assumption | (refine Ex.of_grown ?_ (by assumption) (by intro k hk; cases hk; omega)) | (refine Ex.trans ?_ (by assumption))))) hown3)) (Eq.trans (b := Value.int .i64 _) rfl (congrArg _ (by omega))) (by omega) ?_; intro pq hpq; rw [hbf] at hpq)
            | (have _ := tkL; (with_reducible apply c_cond_dec); exact rfl; intro _; rotate_left 1; intro _; (all_goals (try (exfalso; (focus (omega; done))))))
            | (refine c_mixR (id := 24) (keepB ([some g])) [8, 12] [0, 1, 2, 3, 4, 5, 6, 7, 8, 10, 11, 12] 6 #[true, true, true, true, true, true, true, true, true, false, true, true, true, false, false, false, false, false] [some false, some false, some false, some false, some false, some false, some false, some false, some true, none, some false, some false, some true, none, none, none, none, none] (by kernel_rfl) (by kernel_rfl) (by kernel_rfl) (by dsimp only [selT] <;> exact rfl) ?_)
            | (have _ := tkL; (with_reducible apply WMR_op); exact rfl; exact rfl; (intro wq hkb; exact r_indexBx (i := p) rfl rfl (by omega)))
            | (have _ := tkL; (with_reducible apply WMR_op); exact rfl; exact rfl; (intro wq hkb; exact r_indexBx (i := p - 1) rfl (Eq.trans (b := Value.int .i64 _) rfl (congrArg _ (by omega))) (by omega)))
            | (have _ := tkL; (with_reducible apply W_op); exact rfl; exact rfl; exact r_indexBx (i := p) rfl rfl (by omega))
            | (have _ := tkL; (with_reducible apply W_op); exact rfl; exact rfl; exact r_indexBx (i := p - 1) rfl (Eq.trans (b := Value.int .i64 _) rfl (congrArg _ (by omega))) (by omega))
            | (have _ := tkL; (with_reducible apply W_op); exact rfl; exact rfl; exact r_load rfl rfl (Pv.Own.cellI (i := p) (Pv.Own.ex (show Ex wr _ from (by repeat (first | exact Ex.refl _ | assumption | (refine Ex.of_grown ?_ (by assumption) (by intro k hk; cases hk; omega)) | (refine Ex.trans ?_ (by assumption))))) hown3) (by omega) hat))
            | (have _ := tkL; (with_reducible apply W_op); exact rfl; exact rfl; exact r_load rfl rfl (Pv.Own.cellI (i := p - 1) (Pv.Own.ex (show Ex wr _ from (by repeat (first | exact Ex.refl _ | assumption | (refine Ex.of_grown ?_ (by assumption) (by intro k hk; cases hk; omega)) | (refine Ex.trans ?_ (by assumption))))) hown3) (by omega) hbf))
            | (have _ := tkL; refine W_storeI9 (i := p) (u := L.getD (p - 1) 0) (w0 := wl) (base := wl.heap.size) (xs := insA L xk p) (show Ex wl _ from (by repeat (first | exact Ex.refl _ | assumption | (refine Ex.of_grown ?_ (by assumption) (by intro k hk; cases hk; omega)) | (refine Ex.trans ?_ (by assumption))))) (Nat.le_refl _) (Pv.Own.ex (show Ex wr _ from (by repeat (first | exact Ex.refl _ | assumption | (refine Ex.of_grown ?_ (by assumption) (by intro k hk; cases hk; omega)) | (refine Ex.trans ?_ (by assumption))))) hown3) (by omega) rfl (by omega) rfl ?_; intro wq hown4 he hgq; have hsz := he.size)
            | (have _ := tkL; refine W_storeI9 (i := p - 1) (u := xk) (w0 := wl) (base := wl.heap.size) (xs := (insA L xk p).set p (L.getD (p - 1) 0)) (show Ex wl _ from (by repeat (first | exact Ex.refl _ | assumption | (refine Ex.of_grown ?_ (by assumption) (by intro k hk; cases hk; omega)) | (refine Ex.trans ?_ (by assumption))))) (Nat.le_refl _) hown4 (by omega) rfl (by rw [List.length_set]; omega) rfl ?_; intro wq hown5 he hgq; have hsz := he.size)
            | ((first | ((with_reducible apply W_op); exact rfl; exact rfl) | ((with_reducible apply WQ_op); exact rfl; exact rfl; intro wq he) | ((with_reducible apply WM_op); exact rfl; exact rfl; intro wq he) | ((with_reducible apply WB_op); exact rfl; exact rfl; intro wq)); (first | ((with_reducible apply r_indexArr); exact rfl; exact rfl; omega) | ((with_reducible apply r_move); ((conv => lhs; whnf) <;> exact rfl)) | ((with_reducible apply r_assign); ((conv => lhs; whnf) <;> exact rfl)) | ((with_reducible apply r_fieldAddr); exact rfl) | ((with_reducible apply r_load); exact rfl; exact rfl; (first | assumption | exact (Bx.cell (by repeat (first | assumption | ((with_reducible apply Bx.grownS); assumption; (first | omega | exact Bx.ne (by assumption) (by omega))) | ((with_reducible apply Bx.below); assumption; omega) | ((with_reducible apply Bx.ex); assumption))) _).trans rfl | exact Ex.cell (by assumption) (by assumption))) | ((with_reducible apply r_loadF); exact rfl; (first | assumption | exact (Bx.cell (by repeat (first | assumption | ((with_reducible apply Bx.grownS); assumption; (first | omega | exact Bx.ne (by assumption) (by omega))) | ((with_reducible apply Bx.below); assumption; omega) | ((with_reducible apply Bx.ex); assumption))) _).trans rfl | exact Ex.cell (by assumption) (by assumption))) | ((with_reducible apply r_loadA); exact rfl; (first | assumption | exact Bx.cells (by repeat (first | assumption | ((with_reducible apply Bx.grownS); assumption; (first | omega | exact Bx.ne (by assumption) (by omega))) | ((with_reducible apply Bx.below); assumption; omega) | ((with_reducible apply Bx.ex); assumption))) | exact Cells.ex (by assumption) (by assumption)); exact rfl) | ((with_reducible apply r_lss); exact rfl; exact rfl) | ((with_reducible apply r_leq); exact rfl; exact rfl) | ((with_reducible apply r_gtr); exact rfl; exact rfl) | ((with_reducible apply r_eql); exact rfl; exact rfl) | ((with_reducible apply r_neq); exact rfl; exact rfl) | ((with_reducible apply r_add); exact rfl; exact rfl; omega) | ((with_reducible apply r_sub); exact rfl; exact rfl; omega) | ((with_reducible apply r_len); exact rfl) | ((with_reducible apply r_lenStr); exact rfl) | ((with_reducible apply r_lenInts); ((conv => lhs; whnf) <;> exact rfl); (focus ((repeat (first | assumption | ((refine IntsK.exH (by assumption) ?_); (focus ((repeat (first | exact Ex.refl _ | assumption | (refine Ex.of_grown ?_ (by assumption) (by intro k hk; cases hk; omega)) | (refine Ex.trans ?_ (by assumption)))); done))) | ((refine Prs.exH (by assumption) ?_); (focus ((repeat (first | exact Ex.refl _ | assumption | (refine Ex.of_grown ?_ (by assumption) (by intro k hk; cases hk; omega)) | (refine Ex.trans ?_ (by assumption)))); done))) | ((with_reducible apply Bx.grownS); assumption; (first | omega | exact Bx.ne (by assumption) (by omega))) | ((with_reducible apply Bx.below); assumption; omega) | ((with_reducible apply OwnP.grownS); assumption; omega) | ((with_reducible apply Own.grownS); assumption; omega) | ((with_reducible apply Bx.ex); assumption) | ((with_reducible apply IntsK.ex); assumption) | ((with_reducible apply Own.ex); assumption) | ((with_reducible apply Prs.ex); assumption) | ((with_reducible apply OwnP.ex); assumption))); done))) | ((with_reducible apply r_lenPrs); ((conv => lhs; whnf) <;> exact rfl); (focus ((repeat (first | assumption | ((refine IntsK.exH (by assumption) ?_); (focus ((repeat (first | exact Ex.refl _ | assumption | (refine Ex.of_grown ?_ (by assumption) (by intro k hk; cases hk; omega)) | (refine Ex.trans ?_ (by assumption)))); done))) | ((refine Prs.exH (by assumption) ?_); (focus ((repeat (first | exact Ex.refl _ | assumption | (refine Ex.of_grown ?_ (by assumption) (by intro k hk; cases hk; omega)) | (refine Ex.trans ?_ (by assumption)))); done))) | ((with_reducible apply Bx.grownS); assumption; (first | omega | exact Bx.ne (by assumption) (by omega))) | ((with_reducible apply Bx.below); assumption; omega) | ((with_reducible apply OwnP.grownS); assumption; omega) | ((with_reducible apply Own.grownS); assumption; omega) | ((with_reducible apply Bx.ex); assumption) | ((with_reducible apply IntsK.ex); assumption) | ((with_reducible apply Own.ex); assumption) | ((with_reducible apply Prs.ex); assumption) | ((with_reducible apply OwnP.ex); assumption))); done))) | ((with_reducible apply r_pick_true); exact rfl; ((conv => lhs; whnf) <;> exact rfl)) | ((with_reducible apply r_pick_false); exact rfl; ((conv => lhs; whnf) <;> exact rfl)) | ((with_reducible apply r_not); exact rfl) | ((with_reducible apply r_notb); exact rfl) | ((with_reducible apply r_mul); exact rfl; exact rfl; omega) | ((with_reducible apply r_eqlb); exact rfl; exact rfl) | ((with_reducible apply r_neqb); exact rfl; exact rfl) | ((with_reducible apply r_extract); exact rfl; exact rfl) | ((with_reducible apply r_loadSub); exact rfl; (focus ((repeat (first | assumption | ((with_reducible apply Bx.grownS); assumption; (first | omega | exact Bx.ne (by assumption) (by omega))) | ((with_reducible apply Bx.below); assumption; omega) | ((with_reducible apply Bx.ex); assumption))); done)); ((simp only [Nat.add_zero, Nat.zero_add, Nat.reduceAdd, List.drop_zero, List.drop_succ_cons, List.take_succ_cons, List.take_zero]) <;> exact rfl); exact rfl)))
            | (refine W_callv (hck _ (by repeat (first | assumption | exact Ex.refl _ | (refine Ex.trans ?_ (by assumption)) | (refine Ex.of_grown ?_ (by assumption) (by intro k hk; cases hk; omega))))) rfl (fun wq he => ?_); have hsz := he.size)
            | (refine W_callv (is_any (m : Int) 0 3 _) rfl (fun wq he => ?_); have hsz := he.size)
            | ((with_reducible (show Exit.then _ _ _ _ _)); refine n_roundG (z + 1) (hJ _ _ _ _ ⟨_, rfl, by omega, by omega, nxt_size hmin hin (by omega), (by repeat (first | assumption | exact Ex.refl _ | (refine Ex.trans ?_ (by assumption)) | (refine Ex.of_grown ?_ (by assumption) (by intro k hk; cases hk; omega))))⟩ ⟨rfl, rfl, rfl, rfl, trivial⟩ rfl) (by omega))
            | ((with_reducible (show Exit.then _ _ _ _ _)); refine n_roundG (s + 1) (hK2 _ _ _ _ ⟨_, rfl, by omega, by omega, nxt_no hin (fun h1 => absurd h1 hlen), (by repeat (first | assumption | exact Ex.refl _ | (refine Ex.trans ?_ (by assumption)) | (refine Ex.of_grown ?_ (by assumption) (by intro k hk; cases hk; omega))))⟩ ⟨rfl, rfl, rfl, rfl, rfl, trivial⟩ rfl) (by omega))
            | ((with_reducible (show Exit.then _ _ _ _ _)); refine n_roundG (s + 1) (hK2 _ _ _ _ ⟨_, rfl, by omega, by omega, nxt_no hin (fun _ h1 => absurd h1 hag), (by repeat (first | assumption | exact Ex.refl _ | (refine Ex.trans ?_ (by assumption)) | (refine Ex.of_grown ?_ (by assumption) (by intro k hk; cases hk; omega))))⟩ ⟨rfl, rfl, rfl, rfl, rfl, trivial⟩ rfl) (by omega))
            | ((with_reducible (show Exit.then _ _ _ _ _)); refine n_roundG (j + 1) (hK3 _ _ _ _ ⟨_, _, rfl, by omega, by omega, (by rw [kS_succ (by omega), hxk, ← insA_fin hL hp hdr (.inl hp0)]; exact Pv.Own.ex (show Ex wr _ from (by repeat (first | exact Ex.refl _ | assumption | (refine Ex.of_grown ?_ (by assumption) (by intro k hk; cases hk; omega)) | (refine Ex.trans ?_ (by assumption))))) hown3), (show Ex wl _ from (by repeat (first | exact Ex.refl _ | assumption | (refine Ex.of_grown ?_ (by assumption) (by intro k hk; cases hk; omega)) | (refine Ex.trans ?_ (by assumption)))))⟩ ⟨rfl, rfl, rfl, trivial⟩ rfl) (by omega))
            | ((with_reducible (show Exit.then _ _ _ _ _)); refine n_roundG (j + 1) (hK3 _ _ _ _ ⟨_, _, rfl, by omega, by omega, (by rw [kS_succ (by omega), hxk, ← insA_fin hL hp hdr (.inr hnlt)]; exact Pv.Own.ex (show Ex wr _ from (by repeat (first | exact Ex.refl _ | assumption | (refine Ex.of_grown ?_ (by assumption) (by intro k hk; cases hk; omega)) | (refine Ex.trans ?_ (by assumption))))) hown3), (show Ex wl _ from (by repeat (first | exact Ex.refl _ | assumption | (refine Ex.of_grown ?_ (by assumption) (by intro k hk; cases hk; omega)) | (refine Ex.trans ?_ (by assumption)))))⟩ ⟨rfl, rfl, rfl, trivial⟩ rfl) (by omega))
            | ((with_reducible (show Exit.then _ _ _ _ _)); refine n_roundG (p - 1) (hK4 _ _ _ _ ⟨_, rfl, by omega, by omega, hdn, (by rw [← hsw]; exact hown5), (show Ex wl _ from (by repeat (first | exact Ex.refl _ | assumption | (refine Ex.of_grown ?_ (by assumption) (by intro k hk; cases hk; omega)) | (refine Ex.trans ?_ (by assumption)))))⟩ ⟨rfl, rfl, rfl, rfl, trivial⟩ rfl) (by omega))
            | (refine XTR_two (t := 9) (t' := 13) (s := false) (s' := false) (listed := #[true, true, true, true, true, true, true, true, true, false, true, true, true, false, false, false, false, false]) (l1 := #[true, true, true, true, true, true, true, true, true, true, true, true, true, false, false, false, false, false]) (l1' := #[true, true, true, true, true, true, true, true, true, false, true, true, true, true, false, false, false, false]) (by kernel_rfl) rfl rfl (by kernel_rfl) (by kernel_rfl) (by kernel_rfl) (by kernel_rfl) ?_ ?_)
            | (refine XTR_one (t := 13) (s := false) (listed := #[true, true, true, true, true, true, true, true, true, true, true, true, true, false, false, false, false, false]) (listed' := #[true, true, true, true, true, true, true, true, true, true, true, true, true, true, false, false, false, false]) (by kernel_rfl) rfl (by kernel_rfl) (by kernel_rfl) ?_)
            | (refine XTR_one (t := 9) (s := false) (listed := #[true, true, true, true, true, true, true, true, true, false, true, true, true, true, false, false, false, false]) (listed' := #[true, true, true, true, true, true, true, true, true, true, true, true, true, true, false, false, false, false]) (by kernel_rfl) rfl (by kernel_rfl) (by kernel_rfl) ?_)
            | (refine XTR_one (t := 14) (s := true) (listed := #[true, true, true, true, true, true, true, true, true, true, true, true, true, true, false, false, false, false]) (listed' := #[true, true, true, true, true, true, true, true, true, true, true, true, true, true, true, false, false, false]) (by kernel_rfl) rfl (by kernel_rfl) (by kernel_rfl) ?_)
            | (refine XTR_one (t := 15) (s := true) (listed := #[true, true, true, true, true, true, true, true, true, true, true, true, true, true, true, false, false, false]) (listed' := #[true, true, true, true, true, true, true, true, true, true, true, true, true, true, true, true, false, false]) (by kernel_rfl) rfl (by kernel_rfl) (by kernel_rfl) ?_)
            | (refine XTR_one (t := 16) (s := true) (listed := #[true, true, true, true, true, true, true, true, true, true, true, true, true, true, true, true, false, false]) (listed' := #[true, true, true, true, true, true, true, true, true, true, true, true, true, true, true, true, true, false]) (by kernel_rfl) rfl (by kernel_rfl) (by kernel_rfl) ?_)
            | (refine XTR_one (t := 17) (s := true) (listed := #[true, true, true, true, true, true, true, true, true, true, true, true, true, true, true, true, true, false]) (listed' := #[true, true, true, true, true, true, true, true, true, true, true, true, true, true, true, true, true, true]) (by kernel_rfl) rfl (by kernel_rfl) (by kernel_rfl) ?_)
            | ((with_reducible apply WMR_op); exact rfl; exact rfl; (intro wq hkb; (first | ((with_reducible apply r_indexArr); exact rfl; exact rfl; omega) | ((with_reducible apply r_move); ((conv => lhs; whnf) <;> exact rfl)) | ((with_reducible apply r_assign); ((conv => lhs; whnf) <;> exact rfl)) | ((with_reducible apply r_fieldAddr); exact rfl) | ((with_reducible apply r_load); exact rfl; exact rfl; (first | assumption | exact (Bx.cell (by repeat (first | assumption | ((with_reducible apply Bx.grownS); assumption; (first | omega | exact Bx.ne (by assumption) (by omega))) | ((with_reducible apply Bx.below); assumption; omega) | ((with_reducible apply Bx.ex); assumption))) _).trans rfl | exact Ex.cell (by assumption) (by assumption))) | ((with_reducible apply r_loadF); exact rfl; (first | assumption | exact (Bx.cell (by repeat (first | assumption | ((with_reducible apply Bx.grownS); assumption; (first | omega | exact Bx.ne (by assumption) (by omega))) | ((with_reducible apply Bx.below); assumption; omega) | ((with_reducible apply Bx.ex); assumption))) _).trans rfl | exact Ex.cell (by assumption) (by assumption))) | ((with_reducible apply r_loadA); exact rfl; (first | assumption | exact Bx.cells (by repeat (first | assumption | ((with_reducible apply Bx.grownS); assumption; (first | omega | exact Bx.ne (by assumption) (by omega))) | ((with_reducible apply Bx.below); assumption; omega) | ((with_reducible apply Bx.ex); assumption))) | exact Cells.ex (by assumption) (by assumption)); exact rfl) | ((with_reducible apply r_lss); exact rfl; exact rfl) | ((with_reducible apply r_leq); exact rfl; exact rfl) | ((with_reducible apply r_gtr); exact rfl; exact rfl) | ((with_reducible apply r_eql); exact rfl; exact rfl) | ((with_reducible apply r_neq); exact rfl; exact rfl) | ((with_reducible apply r_add); exact rfl; exact rfl; omega) | ((with_reducible apply r_sub); exact rfl; exact rfl; omega) | ((with_reducible apply r_len); exact rfl) | ((with_reducible apply r_lenStr); exact rfl) | ((with_reducible apply r_lenInts); ((conv => lhs; whnf) <;> exact rfl); (focus ((repeat (first | assumption | ((refine IntsK.exH (by assumption) ?_); (focus ((repeat (first | exact Ex.refl _ | assumption | (refine Ex.of_grown ?_ (by assumption) (by intro k hk; cases hk; omega)) | (refine Ex.trans ?_ (by assumption)))); done))) | ((refine Prs.exH (by assumption) ?_); (focus ((repeat (first | exact Ex.refl _ | assumption | (refine Ex.of_grown ?_ (by assumption) (by intro k hk; cases hk; omega)) | (refine Ex.trans ?_ (by assumption)))); done))) | ((with_reducible apply Bx.grownS); assumption; (first | omega | exact Bx.ne (by assumption) (by omega))) | ((with_reducible apply Bx.below); assumption; omega) | ((with_reducible apply OwnP.grownS); assumption; omega) | ((with_reducible apply Own.grownS); assumption; omega) | ((with_reducible apply Bx.ex); assumption) | ((with_reducible apply IntsK.ex); assumption) | ((with_reducible apply Own.ex); assumption) | ((with_reducible apply Prs.ex); assumption) | ((with_reducible apply OwnP.ex); assumption))); done))) | ((with_reducible apply r_lenPrs); ((conv => lhs; whnf) <;> exact rfl); (focus ((repeat (first | assumption | ((refine IntsK.exH (by assumption) ?_); (focus ((repeat (first | exact Ex.refl _ | assumption | (refine Ex.of_grown ?_ (by assumption) (by intro k hk; cases hk; omega)) | (refine Ex.trans ?_ (by assumption)))); done))) | ((refine Prs.exH (by assumption) ?_); (focus ((repeat (first | exact Ex.refl _ | assumption | (refine Ex.of_grown ?_ (by assumption) (by intro k hk; cases hk; omega)) | (refine Ex.trans ?_ (by assumption)))); done))) | ((with_reducible apply Bx.grownS); assumption; (first | omega | exact Bx.ne (by assumption) (by omega))) | ((with_reducible apply Bx.below); assumption; omega) | ((with_reducible apply OwnP.grownS); assumption; omega) | ((with_reducible apply Own.grownS); assumption; omega) | ((with_reducible apply Bx.ex); assumption) | ((with_reducible apply IntsK.ex); assumption) | ((with_reducible apply Own.ex); assumption) | ((with_reducible apply Prs.ex); assumption) | ((with_reducible apply OwnP.ex); assumption))); done))) | ((with_reducible apply r_pick_true); exact rfl; ((conv => lhs; whnf) <;> exact rfl)) | ((with_reducible apply r_pick_false); exact rfl; ((conv => lhs; whnf) <;> exact rfl)) | ((with_reducible apply r_not); exact rfl) | ((with_reducible apply r_notb); exact rfl) | ((with_reducible apply r_mul); exact rfl; exact rfl; omega) | ((with_reducible apply r_eqlb); exact rfl; exact rfl) | ((with_reducible apply r_neqb); exact rfl; exact rfl) | ((with_reducible apply r_extract); exact rfl; exact rfl) | ((with_reducible apply r_loadSub); exact rfl; (focus ((repeat (first | assumption | ((with_reducible apply Bx.grownS); assumption; (first | omega | exact Bx.ne (by assumption) (by omega))) | ((with_reducible apply Bx.below); assumption; omega) | ((with_reducible apply Bx.ex); assumption))); done)); ((simp only [Nat.add_zero, Nat.zero_add, Nat.reduceAdd, List.drop_zero, List.drop_succ_cons, List.take_succ_cons, List.take_zero]) <;> exact rfl); exact rfl))))
            | ((with_reducible apply WMR_nil); intro wq he hszq; have hsz := he.size)
            | ((with_reducible apply XTR_nil); kernel_rfl)
            | (with_reducible apply xR_sink)
            | ((with_reducible apply xR_keep); first | exact (keepB _).refl _ | exact KeepB.of_ex (by assumption) | exact KeepB.of_grown (by assumption) (by simp))
            | (with_reducible apply W_nil)
            | ((with_reducible apply WQ_nil); exact rfl; intro wq he; have hsz := he.size)
            | (with_reducible apply WM_nil; intro wq he; have hsz := he.size)
            | (with_reducible apply WB_nil)
            | (with_reducible apply WT_nil)
            | (with_reducible apply WT_cons)
            | (with_reducible apply t_sink)
            | ((with_reducible apply t_keep); (focus ((repeat (first | assumption | exact Ex.refl _ | (refine Ex.trans ?_ (by assumption)) | (refine Ex.of_grown ?_ (by assumption) (by intro k hk; cases hk; omega)))); done)); intro wq he; have hsz := he.size)
            | ((with_reducible apply W_indexInt); ((conv => lhs; whnf) <;> exact rfl); (focus ((repeat (first | assumption | ((refine IntsK.exH (by assumption) ?_); (focus ((repeat (first | exact Ex.refl _ | assumption | (refine Ex.of_grown ?_ (by assumption) (by intro k hk; cases hk; omega)) | (refine Ex.trans ?_ (by assumption)))); done))) | ((refine Prs.exH (by assumption) ?_); (focus ((repeat (first | exact Ex.refl _ | assumption | (refine Ex.of_grown ?_ (by assumption) (by intro k hk; cases hk; omega)) | (refine Ex.trans ?_ (by assumption)))); done))) | ((with_reducible apply Bx.grownS); assumption; (first | omega | exact Bx.ne (by assumption) (by omega))) | ((with_reducible apply Bx.below); assumption; omega) | ((with_reducible apply OwnP.grownS); assumption; omega) | ((with_reducible apply Own.grownS); assumption; omega) | ((with_reducible apply Bx.ex); assumption) | ((with_reducible apply IntsK.ex); assumption) | ((with_reducible apply Own.ex); assumption) | ((with_reducible apply Prs.ex); assumption) | ((with_reducible apply OwnP.ex); assumption))); done)); exact rfl; omega; intro pq hpq)
            | ((with_reducible apply W_indexIntss); ((conv => lhs; whnf) <;> exact rfl); assumption; (focus ((repeat (first | assumption | exact Ex.refl _ | (refine Ex.trans ?_ (by assumption)) | (refine Ex.of_grown ?_ (by assumption) (by intro k hk; cases hk; omega)))); done)); exact rfl; omega; intro pq uq hpq huq)
            | ((with_reducible apply WQ_indexInt); ((conv => lhs; whnf) <;> exact rfl); (focus ((repeat (first | assumption | ((refine IntsK.exH (by assumption) ?_); (focus ((repeat (first | exact Ex.refl _ | assumption | (refine Ex.of_grown ?_ (by assumption) (by intro k hk; cases hk; omega)) | (refine Ex.trans ?_ (by assumption)))); done))) | ((refine Prs.exH (by assumption) ?_); (focus ((repeat (first | exact Ex.refl _ | assumption | (refine Ex.of_grown ?_ (by assumption) (by intro k hk; cases hk; omega)) | (refine Ex.trans ?_ (by assumption)))); done))) | ((with_reducible apply Bx.grownS); assumption; (first | omega | exact Bx.ne (by assumption) (by omega))) | ((with_reducible apply Bx.below); assumption; omega) | ((with_reducible apply OwnP.grownS); assumption; omega) | ((with_reducible apply Own.grownS); assumption; omega) | ((with_reducible apply Bx.ex); assumption) | ((with_reducible apply IntsK.ex); assumption) | ((with_reducible apply Own.ex); assumption) | ((with_reducible apply Prs.ex); assumption) | ((with_reducible apply OwnP.ex); assumption))); done)); exact rfl; omega; intro pq hpq)
            | ((with_reducible apply WQ_indexIntss); ((conv => lhs; whnf) <;> exact rfl); assumption; (focus ((repeat (first | assumption | exact Ex.refl _ | (refine Ex.trans ?_ (by assumption)) | (refine Ex.of_grown ?_ (by assumption) (by intro k hk; cases hk; omega)))); done)); exact rfl; omega; intro pq uq hpq huq)
            | ((with_reducible apply WM_indexInt); ((conv => lhs; whnf) <;> exact rfl); (focus ((repeat (first | assumption | ((refine IntsK.exH (by assumption) ?_); (focus ((repeat (first | exact Ex.refl _ | assumption | (refine Ex.of_grown ?_ (by assumption) (by intro k hk; cases hk; omega)) | (refine Ex.trans ?_ (by assumption)))); done))) | ((refine Prs.exH (by assumption) ?_); (focus ((repeat (first | exact Ex.refl _ | assumption | (refine Ex.of_grown ?_ (by assumption) (by intro k hk; cases hk; omega)) | (refine Ex.trans ?_ (by assumption)))); done))) | ((with_reducible apply Bx.grownS); assumption; (first | omega | exact Bx.ne (by assumption) (by omega))) | ((with_reducible apply Bx.below); assumption; omega) | ((with_reducible apply OwnP.grownS); assumption; omega) | ((with_reducible apply Own.grownS); assumption; omega) | ((with_reducible apply Bx.ex); assumption) | ((with_reducible apply IntsK.ex); assumption) | ((with_reducible apply Own.ex); assumption) | ((with_reducible apply Prs.ex); assumption) | ((with_reducible apply OwnP.ex); assumption))); done)); exact rfl; omega; intro pq hpq)
            | ((with_reducible apply WM_indexIntss); ((conv => lhs; whnf) <;> exact rfl); assumption; (focus ((repeat (first | assumption | exact Ex.refl _ | (refine Ex.trans ?_ (by assumption)) | (refine Ex.of_grown ?_ (by assumption) (by intro k hk; cases hk; omega)))); done)); exact rfl; omega; intro pq uq hpq huq)
            | ((with_reducible apply W_indexPr); ((conv => lhs; whnf) <;> exact rfl); (focus ((repeat (first | assumption | ((refine IntsK.exH (by assumption) ?_); (focus ((repeat (first | exact Ex.refl _ | assumption | (refine Ex.of_grown ?_ (by assumption) (by intro k hk; cases hk; omega)) | (refine Ex.trans ?_ (by assumption)))); done))) | ((refine Prs.exH (by assumption) ?_); (focus ((repeat (first | exact Ex.refl _ | assumption | (refine Ex.of_grown ?_ (by assumption) (by intro k hk; cases hk; omega)) | (refine Ex.trans ?_ (by assumption)))); done))) | ((with_reducible apply Bx.grownS); assumption; (first | omega | exact Bx.ne (by assumption) (by omega))) | ((with_reducible apply Bx.below); assumption; omega) | ((with_reducible apply OwnP.grownS); assumption; omega) | ((with_reducible apply Own.grownS); assumption; omega) | ((with_reducible apply Bx.ex); assumption) | ((with_reducible apply IntsK.ex); assumption) | ((with_reducible apply Own.ex); assumption) | ((with_reducible apply Prs.ex); assumption) | ((with_reducible apply OwnP.ex); assumption))); done)); exact rfl; omega; intro pq hpq)
            | ((with_reducible apply WQ_indexPr); ((conv => lhs; whnf) <;> exact rfl); (focus ((repeat (first | assumption | ((refine IntsK.exH (by assumption) ?_); (focus ((repeat (first | exact Ex.refl _ | assumption | (refine Ex.of_grown ?_ (by assumption) (by intro k hk; cases hk; omega)) | (refine Ex.trans ?_ (by assumption)))); done))) | ((refine Prs.exH (by assumption) ?_); (focus ((repeat (first | exact Ex.refl _ | assumption | (refine Ex.of_grown ?_ (by assumption) (by intro k hk; cases hk; omega)) | (refine Ex.trans ?_ (by assumption)))); done))) | ((with_reducible apply Bx.grownS); assumption; (first | omega | exact Bx.ne (by assumption) (by omega))) | ((with_reducible apply Bx.below); assumption; omega) | ((with_reducible apply OwnP.grownS); assumption; omega) | ((with_reducible apply Own.grownS); assumption; omega) | ((with_reducible apply Bx.ex); assumption) | ((with_reducible apply IntsK.ex); assumption) | ((with_reducible apply Own.ex); assumption) | ((with_reducible apply Prs.ex); assumption) | ((with_reducible apply OwnP.ex); assumption))); done)); exact rfl; omega; intro pq hpq)
            | ((with_reducible apply W_bsP); exact rfl; exact rfl; intro bq wq hbq he hnq; have hltq := Bx.lt hbq; have hsz := he.size)
            | ((with_reducible apply W_storeA); exact rfl; (focus ((repeat (first | assumption | ((with_reducible apply Bx.grownS); assumption; (first | omega | exact Bx.ne (by assumption) (by omega))) | ((with_reducible apply Bx.below); assumption; omega) | ((with_reducible apply Bx.ex); assumption))); done)); exact rfl; exact rfl; exact rfl; (repeat' (first | exact trivial | (first | exact rfl | assumption | exact IntsK.one (by assumption) | exact Prs.one (by assumption) | exact OwnP.one (by assumption) | exact Own.one (by assumption)) | constructor)); intro wq hbq hgq; have he : Ex w wq := (by repeat (first | assumption | exact Ex.refl _ | (refine Ex.trans ?_ (by assumption)) | (refine Ex.of_grown ?_ (by assumption) (by intro k hk; cases hk; omega)))); have hsz := he.size; have hgz := hgq.size)
            | ((with_reducible apply W_store); exact rfl; (focus ((repeat (first | assumption | ((with_reducible apply Bx.grownS); assumption; (first | omega | exact Bx.ne (by assumption) (by omega))) | ((with_reducible apply Bx.below); assumption; omega) | ((with_reducible apply Bx.ex); assumption))); done)); exact Nat.le_of_ble_eq_true rfl; ((conv => lhs; whnf) <;> exact rfl); (first | exact rfl | assumption | exact IntsK.one (by assumption) | exact Prs.one (by assumption) | exact OwnP.one (by assumption) | exact Own.one (by assumption)); simp only [lset]; intro wq hbq hgq; have he : Ex w wq := (by repeat (first | assumption | exact Ex.refl _ | (refine Ex.trans ?_ (by assumption)) | (refine Ex.of_grown ?_ (by assumption) (by intro k hk; cases hk; omega)))); have hsz := he.size; have hgz := hgq.size)
            | ((with_reducible apply W_pass); exact rfl; exact rfl; exact rfl; exact rfl; exact rfl)
            | ((with_reducible apply W_take); exact rfl; exact rfl; exact rfl)
            | ((with_reducible apply W_passU); exact rfl; exact rfl; exact rfl; exact rfl)
            | ((with_reducible apply W_split); exact rfl; exact rfl; intro _; rotate_left 1; intro _)
            | ((with_reducible apply WQ_pass); exact rfl; exact rfl; exact rfl; exact rfl; exact rfl)
            | ((with_reducible apply WQ_take); exact rfl; exact rfl; exact rfl)
            | ((with_reducible apply WQ_passU); exact rfl; exact rfl; exact rfl; exact rfl)
            | ((with_reducible apply WQ_split); exact rfl; exact rfl; intro _; rotate_left 1; intro _)
            | ((with_reducible apply WM_pass); exact rfl; exact rfl; exact rfl; exact rfl; exact rfl)
            | ((with_reducible apply WM_take); exact rfl; exact rfl; exact rfl)
            | ((with_reducible apply WM_passU); exact rfl; exact rfl; exact rfl; exact rfl)
            | ((with_reducible apply WM_split); exact rfl; exact rfl; intro _; rotate_left 1; intro _)
            | ((with_reducible apply c_quiet); kernel_rfl)
            | ((with_reducible apply W_bs1); ((conv => lhs; whnf) <;> exact rfl); (first | exact rfl | assumption | exact IntsK.one (by assumption) | exact Prs.one (by assumption) | exact OwnP.one (by assumption) | exact Own.one (by assumption)); decide; decide; exact rfl; exact rfl; ((simp only [lay, lset, List.replicate_succ, List.replicate_zero]) <;> exact rfl); intro bq wq hbq he hnq; have hltq := Bx.lt hbq; have hsz := he.size)
            | (with_reducible apply c_seq)
            | ((with_reducible apply c_region); kernel_rfl)
            | (with_reducible apply n_nq)
            | (with_reducible apply c_block)
            | (with_reducible apply c_skip)
            | (with_reducible apply c_ret)
            | (with_reducible apply c_exit)
            | ((with_reducible apply c_cond_true); exact rfl)
            | ((with_reducible apply c_cond_false); exact rfl)
            | ((with_reducible apply c_cond_dec); exact rfl; intro _; rotate_left 1; intro _)
            | ((with_reducible apply c_cond_bool); exact rfl; intro _; rotate_left 1; intro _)
            | (with_reducible apply n_then)
            | (with_reducible apply n_block)
            | (with_reducible apply e_then)
            | (with_reducible apply e_block)
            | (with_reducible apply r_then)
            | (with_reducible apply r_block)
            | ((with_reducible apply e_block'); decide)
            | ((with_reducible apply p_ret2); exact rfl; exact rfl; ((conv => lhs; whnf) <;> exact rfl); ((conv => lhs; whnf) <;> exact rfl); refine ⟨_, rfl, ?_, (by repeat (first | assumption | exact Ex.refl _ | (refine Ex.trans ?_ (by assumption)) | (refine Ex.of_grown ?_ (by assumption) (by intro k hk; cases hk; omega))))⟩)
            | ((with_reducible apply m_ret2); (focus ((repeat (first | assumption | exact Al.nil _ _ | ((with_reducible apply Al.grownS); assumption; (focus ((repeat (first | assumption | ((with_reducible apply Bx.grownS); assumption; (first | omega | exact Bx.ne (by assumption) (by omega))) | ((with_reducible apply Bx.below); assumption; omega) | ((with_reducible apply Bx.ex); assumption))); done))) | (refine Al.ex (by assumption) ?_))); done)); exact rfl; ((conv => lhs; whnf) <;> exact rfl); ((conv => lhs; whnf) <;> exact rfl); refine ⟨_, rfl, ?_, (shut_grown _ _ (by repeat (first | assumption | exact Al.nil _ _ | ((with_reducible apply Al.grownS); assumption; (focus ((repeat (first | assumption | ((with_reducible apply Bx.grownS); assumption; (first | omega | exact Bx.ne (by assumption) (by omega))) | ((with_reducible apply Bx.below); assumption; omega) | ((with_reducible apply Bx.ex); assumption))); done))) | (refine Al.ex (by assumption) ?_))) (by repeat (first | assumption | exact Ex.refl _ | (refine Ex.trans ?_ (by assumption)) | (refine Ex.of_grown ?_ (by assumption) (by intro k hk; cases hk; omega)))) (Nat.le_refl _))⟩)
            | ((with_reducible apply p_retct); exact rfl; exact rfl; exact inferInstance; exact inferInstance; exact rfl; (focus ((repeat (first | assumption | ((with_reducible apply Bx.grownS); assumption; (first | omega | exact Bx.ne (by assumption) (by omega))) | ((with_reducible apply Bx.below); assumption; omega) | ((with_reducible apply Bx.ex); assumption))); done)); exact rfl; exact rfl; refine ⟨_, rfl, ?_, (by repeat (first | assumption | exact Ex.refl _ | (refine Ex.trans ?_ (by assumption)) | (refine Ex.of_grown ?_ (by assumption) (by intro k hk; cases hk; omega))))⟩)
            | ((exfalso; omega)))
        all_goals first
          | (rw [hL, List.take_of_length_le (show (tkS S s S.length).length ≤ j by omega)] at hown; exact ⟨_, rfl, Pv.Own.ints hown⟩)
          | (obtain ⟨rfl, rfl⟩ := hN (by rw [show m + 1 = z by omega]; exact hmin); exact ⟨_, rfl, IntsK.nil _ _ _ (Nat.zero_le _)⟩)
          | trace_state
    · have hres : e = 3 ∧ xs = [] := by
        unfold WrongP at hw
        rcases hw with ⟨a, _⟩ | ⟨_, hw⟩
        · exact absurd hc a
        rcases hw with ⟨_, h2, h3⟩ | ⟨a, _⟩
        · exact ⟨h2, h3⟩
        · exact absurd a hm
      obtain ⟨rfl, rfl⟩ := hres
      refine ret_of_c Try.func37 rfl Try.ntmps37 (Nat.le_of_ble_eq_true rfl) (by dsimp only [ini, Nat.reduceAdd] <;> exact rfl) ?_
      repeat' (first
          | ((with_reducible apply c_cond_dec); exact rfl; intro _; rotate_left 1; intro _; (all_goals (try (exfalso; (focus (omega; done))))))
          | ((with_reducible apply W_split); exact rfl; exact rfl; intro _; rotate_left 1; intro hsx; (all_goals (try (exfalso; (focus (first | exact hsx rfl | omega; done))))))
          | ((first | ((with_reducible apply W_op); exact rfl; exact rfl) | ((with_reducible apply WQ_op); exact rfl; exact rfl; intro wq he) | ((with_reducible apply WM_op); exact rfl; exact rfl; intro wq he) | ((with_reducible apply WB_op); exact rfl; exact rfl; intro wq)); (first | ((with_reducible apply r_indexArr); exact rfl; exact rfl; omega) | ((with_reducible apply r_move); ((conv => lhs; whnf) <;> exact rfl)) | ((with_reducible apply r_assign); ((conv => lhs; whnf) <;> exact rfl)) | ((with_reducible apply r_fieldAddr); exact rfl) | ((with_reducible apply r_load); exact rfl; exact rfl; (first | assumption | exact (Bx.cell (by repeat (first | assumption | ((with_reducible apply Bx.grownS); assumption; (first | omega | exact Bx.ne (by assumption) (by omega))) | ((with_reducible apply Bx.below); assumption; omega) | ((with_reducible apply Bx.ex); assumption))) _).trans rfl | exact Ex.cell (by assumption) (by assumption))) | ((with_reducible apply r_loadF); exact rfl; (first | assumption | exact (Bx.cell (by repeat (first | assumption | ((with_reducible apply Bx.grownS); assumption; (first | omega | exact Bx.ne (by assumption) (by omega))) | ((with_reducible apply Bx.below); assumption; omega) | ((with_reducible apply Bx.ex); assumption))) _).trans rfl | exact Ex.cell (by assumption) (by assumption))) | ((with_reducible apply r_loadA); exact rfl; (first | assumption | exact Bx.cells (by repeat (first | assumption | ((with_reducible apply Bx.grownS); assumption; (first | omega | exact Bx.ne (by assumption) (by omega))) | ((with_reducible apply Bx.below); assumption; omega) | ((with_reducible apply Bx.ex); assumption))) | exact Cells.ex (by assumption) (by assumption)); exact rfl) | ((with_reducible apply r_lss); exact rfl; exact rfl) | ((with_reducible apply r_leq); exact rfl; exact rfl) | ((with_reducible apply r_gtr); exact rfl; exact rfl) | ((with_reducible apply r_eql); exact rfl; exact rfl) | ((with_reducible apply r_neq); exact rfl; exact rfl) | ((with_reducible apply r_add); exact rfl; exact rfl; omega) | ((with_reducible apply r_sub); exact rfl; exact rfl; omega) | ((with_reducible apply r_len); exact rfl) | ((with_reducible apply r_lenStr); exact rfl) | ((with_reducible apply r_lenInts); ((conv => lhs; whnf) <;> exact rfl); (focus ((repeat (first | assumption | ((refine IntsK.exH (by assumption) ?_); (focus ((repeat (first | exact Ex.refl _ | assumption | (refine Ex.of_grown ?_ (by assumption) (by intro k hk; cases hk; omega)) | (refine Ex.trans ?_ (by assumption)))); done))) | ((refine Prs.exH (by assumption) ?_); (focus ((repeat (first | exact Ex.refl _ | assumption | (refine Ex.of_grown ?_ (by assumption) (by intro k hk; cases hk; omega)) | (refine Ex.trans ?_ (by assumption)))); done))) | ((with_reducible apply Bx.grownS); assumption; (first | omega | exact Bx.ne (by assumption) (by omega))) | ((with_reducible apply Bx.below); assumption; omega) | ((with_reducible apply OwnP.grownS); assumption; omega) | ((with_reducible apply Own.grownS); assumption; omega) | ((with_reducible apply Bx.ex); assumption) | ((with_reducible apply IntsK.ex); assumption) | ((with_reducible apply Own.ex); assumption) | ((with_reducible apply Prs.ex); assumption) | ((with_reducible apply OwnP.ex); assumption))); done))) | ((with_reducible apply r_lenPrs); ((conv => lhs; whnf) <;> exact rfl); (focus ((repeat (first | assumption | ((refine IntsK.exH (by assumption) ?_); (focus ((repeat (first | exact Ex.refl _ | assumption | (refine Ex.of_grown ?_ (by assumption) (by intro k hk; cases hk; omega)) | (refine Ex.trans ?_ (by assumption)))); done))) | ((refine Prs.exH (by assumption) ?_); (focus ((repeat (first | exact Ex.refl _ | assumption | (refine Ex.of_grown ?_ (by assumption) (by intro k hk; cases hk; omega)) | (refine Ex.trans ?_ (by assumption)))); done))) | ((with_reducible apply Bx.grownS); assumption; (first | omega | exact Bx.ne (by assumption) (by omega))) | ((with_reducible apply Bx.below); assumption; omega) | ((with_reducible apply OwnP.grownS); assumption; omega) | ((with_reducible apply Own.grownS); assumption; omega) | ((with_reducible apply Bx.ex); assumption) | ((with_reducible apply IntsK.ex); assumption) | ((with_reducible apply Own.ex); assumption) | ((with_reducible apply Prs.ex); assumption) | ((with_reducible apply OwnP.ex); assumption))); done))) | ((with_reducible apply r_pick_true); exact rfl; ((conv => lhs; whnf) <;> exact rfl)) | ((with_reducible apply r_pick_false); exact rfl; ((conv => lhs; whnf) <;> exact rfl)) | ((with_reducible apply r_not); exact rfl) | ((with_reducible apply r_notb); exact rfl) | ((with_reducible apply r_mul); exact rfl; exact rfl; omega) | ((with_reducible apply r_eqlb); exact rfl; exact rfl) | ((with_reducible apply r_neqb); exact rfl; exact rfl) | ((with_reducible apply r_extract); exact rfl; exact rfl) | ((with_reducible apply r_loadSub); exact rfl; (focus ((repeat (first | assumption | ((with_reducible apply Bx.grownS); assumption; (first | omega | exact Bx.ne (by assumption) (by omega))) | ((with_reducible apply Bx.below); assumption; omega) | ((with_reducible apply Bx.ex); assumption))); done)); ((simp only [Nat.add_zero, Nat.zero_add, Nat.reduceAdd, List.drop_zero, List.drop_succ_cons, List.take_succ_cons, List.take_zero]) <;> exact rfl); exact rfl)))
          | (refine W_callv (hck _ (by repeat (first | assumption | exact Ex.refl _ | (refine Ex.trans ?_ (by assumption)) | (refine Ex.of_grown ?_ (by assumption) (by intro k hk; cases hk; omega))))) rfl (fun wq he => ?_); have hsz := he.size)
          | (refine W_callv (is_any most 0 3 _) rfl (fun wq he => ?_); have hsz := he.size)
          | (with_reducible apply W_nil)
          | ((with_reducible apply WQ_nil); exact rfl; intro wq he; have hsz := he.size)
          | (with_reducible apply WM_nil; intro wq he; have hsz := he.size)
          | (with_reducible apply WB_nil)
          | (with_reducible apply WT_nil)
          | (with_reducible apply WT_cons)
          | (with_reducible apply t_sink)
          | ((with_reducible apply t_keep); (focus ((repeat (first | assumption | exact Ex.refl _ | (refine Ex.trans ?_ (by assumption)) | (refine Ex.of_grown ?_ (by assumption) (by intro k hk; cases hk; omega)))); done)); intro wq he; have hsz := he.size)
          | ((with_reducible apply W_indexInt); ((conv => lhs; whnf) <;> exact rfl); (focus ((repeat (first | assumption | ((refine IntsK.exH (by assumption) ?_); (focus ((repeat (first | exact Ex.refl _ | assumption | (refine Ex.of_grown ?_ (by assumption) (by intro k hk; cases hk; omega)) | (refine Ex.trans ?_ (by assumption)))); done))) | ((refine Prs.exH (by assumption) ?_); (focus ((repeat (first | exact Ex.refl _ | assumption | (refine Ex.of_grown ?_ (by assumption) (by intro k hk; cases hk; omega)) | (refine Ex.trans ?_ (by assumption)))); done))) | ((with_reducible apply Bx.grownS); assumption; (first | omega | exact Bx.ne (by assumption) (by omega))) | ((with_reducible apply Bx.below); assumption; omega) | ((with_reducible apply OwnP.grownS); assumption; omega) | ((with_reducible apply Own.grownS); assumption; omega) | ((with_reducible apply Bx.ex); assumption) | ((with_reducible apply IntsK.ex); assumption) | ((with_reducible apply Own.ex); assumption) | ((with_reducible apply Prs.ex); assumption) | ((with_reducible apply OwnP.ex); assumption))); done)); exact rfl; omega; intro pq hpq)
          | ((with_reducible apply W_indexIntss); ((conv => lhs; whnf) <;> exact rfl); assumption; (focus ((repeat (first | assumption | exact Ex.refl _ | (refine Ex.trans ?_ (by assumption)) | (refine Ex.of_grown ?_ (by assumption) (by intro k hk; cases hk; omega)))); done)); exact rfl; omega; intro pq uq hpq huq)
          | ((with_reducible apply WQ_indexInt); ((conv => lhs; whnf) <;> exact rfl); (focus ((repeat (first | assumption | ((refine IntsK.exH (by assumption) ?_); (focus ((repeat (first | exact Ex.refl _ | assumption | (refine Ex.of_grown ?_ (by assumption) (by intro k hk; cases hk; omega)) | (refine Ex.trans ?_ (by assumption)))); done))) | ((refine Prs.exH (by assumption) ?_); (focus ((repeat (first | exact Ex.refl _ | assumption | (refine Ex.of_grown ?_ (by assumption) (by intro k hk; cases hk; omega)) | (refine Ex.trans ?_ (by assumption)))); done))) | ((with_reducible apply Bx.grownS); assumption; (first | omega | exact Bx.ne (by assumption) (by omega))) | ((with_reducible apply Bx.below); assumption; omega) | ((with_reducible apply OwnP.grownS); assumption; omega) | ((with_reducible apply Own.grownS); assumption; omega) | ((with_reducible apply Bx.ex); assumption) | ((with_reducible apply IntsK.ex); assumption) | ((with_reducible apply Own.ex); assumption) | ((with_reducible apply Prs.ex); assumption) | ((with_reducible apply OwnP.ex); assumption))); done)); exact rfl; omega; intro pq hpq)
          | ((with_reducible apply WQ_indexIntss); ((conv => lhs; whnf) <;> exact rfl); assumption; (focus ((repeat (first | assumption | exact Ex.refl _ | (refine Ex.trans ?_ (by assumption)) | (refine Ex.of_grown ?_ (by assumption) (by intro k hk; cases hk; omega)))); done)); exact rfl; omega; intro pq uq hpq huq)
          | ((with_reducible apply WM_indexInt); ((conv => lhs; whnf) <;> exact rfl); (focus ((repeat (first | assumption | ((refine IntsK.exH (by assumption) ?_); (focus ((repeat (first | exact Ex.refl _ | assumption | (refine Ex.of_grown ?_ (by assumption) (by intro k hk; cases hk; omega)) | (refine Ex.trans ?_ (by assumption)))); done))) | ((refine Prs.exH (by assumption) ?_); (focus ((repeat (first | exact Ex.refl _ | assumption | (refine Ex.of_grown ?_ (by assumption) (by intro k hk; cases hk; omega)) | (refine Ex.trans ?_ (by assumption)))); done))) | ((with_reducible apply Bx.grownS); assumption; (first | omega | exact Bx.ne (by assumption) (by omega))) | ((with_reducible apply Bx.below); assumption; omega) | ((with_reducible apply OwnP.grownS); assumption; omega) | ((with_reducible apply Own.grownS); assumption; omega) | ((with_reducible apply Bx.ex); assumption) | ((with_reducible apply IntsK.ex); assumption) | ((with_reducible apply Own.ex); assumption) | ((with_reducible apply Prs.ex); assumption) | ((with_reducible apply OwnP.ex); assumption))); done)); exact rfl; omega; intro pq hpq)
          | ((with_reducible apply WM_indexIntss); ((conv => lhs; whnf) <;> exact rfl); assumption; (focus ((repeat (first | assumption | exact Ex.refl _ | (refine Ex.trans ?_ (by assumption)) | (refine Ex.of_grown ?_ (by assumption) (by intro k hk; cases hk; omega)))); done)); exact rfl; omega; intro pq uq hpq huq)
          | ((with_reducible apply W_indexPr); ((conv => lhs; whnf) <;> exact rfl); (focus ((repeat (first | assumption | ((refine IntsK.exH (by assumption) ?_); (focus ((repeat (first | exact Ex.refl _ | assumption | (refine Ex.of_grown ?_ (by assumption) (by intro k hk; cases hk; omega)) | (refine Ex.trans ?_ (by assumption)))); done))) | ((refine Prs.exH (by assumption) ?_); (focus ((repeat (first | exact Ex.refl _ | assumption | (refine Ex.of_grown ?_ (by assumption) (by intro k hk; cases hk; omega)) | (refine Ex.trans ?_ (by assumption)))); done))) | ((with_reducible apply Bx.grownS); assumption; (first | omega | exact Bx.ne (by assumption) (by omega))) | ((with_reducible apply Bx.below); assumption; omega) | ((with_reducible apply OwnP.grownS); assumption; omega) | ((with_reducible apply Own.grownS); assumption; omega) | ((with_reducible apply Bx.ex); assumption) | ((with_reducible apply IntsK.ex); assumption) | ((with_reducible apply Own.ex); assumption) | ((with_reducible apply Prs.ex); assumption) | ((with_reducible apply OwnP.ex); assumption))); done)); exact rfl; omega; intro pq hpq)
          | ((with_reducible apply WQ_indexPr); ((conv => lhs; whnf) <;> exact rfl); (focus ((repeat (first | assumption | ((refine IntsK.exH (by assumption) ?_); (focus ((repeat (first | exact Ex.refl _ | assumption | (refine Ex.of_grown ?_ (by assumption) (by intro k hk; cases hk; omega)) | (refine Ex.trans ?_ (by assumption)))); done))) | ((refine Prs.exH (by assumption) ?_); (focus ((repeat (first | exact Ex.refl _ | assumption | (refine Ex.of_grown ?_ (by assumption) (by intro k hk; cases hk; omega)) | (refine Ex.trans ?_ (by assumption)))); done))) | ((with_reducible apply Bx.grownS); assumption; (first | omega | exact Bx.ne (by assumption) (by omega))) | ((with_reducible apply Bx.below); assumption; omega) | ((with_reducible apply OwnP.grownS); assumption; omega) | ((with_reducible apply Own.grownS); assumption; omega) | ((with_reducible apply Bx.ex); assumption) | ((with_reducible apply IntsK.ex); assumption) | ((with_reducible apply Own.ex); assumption) | ((with_reducible apply Prs.ex); assumption) | ((with_reducible apply OwnP.ex); assumption))); done)); exact rfl; omega; intro pq hpq)
          | ((with_reducible apply W_bsP); exact rfl; exact rfl; intro bq wq hbq he hnq; have hltq := Bx.lt hbq; have hsz := he.size)
          | ((with_reducible apply W_storeA); exact rfl; (focus ((repeat (first | assumption | ((with_reducible apply Bx.grownS); assumption; (first | omega | exact Bx.ne (by assumption) (by omega))) | ((with_reducible apply Bx.below); assumption; omega) | ((with_reducible apply Bx.ex); assumption))); done)); exact rfl; exact rfl; exact rfl; (repeat' (first | exact trivial | (first | exact rfl | assumption | exact IntsK.one (by assumption) | exact Prs.one (by assumption) | exact OwnP.one (by assumption) | exact Own.one (by assumption)) | constructor)); intro wq hbq hgq; have he : Ex w wq := (by repeat (first | assumption | exact Ex.refl _ | (refine Ex.trans ?_ (by assumption)) | (refine Ex.of_grown ?_ (by assumption) (by intro k hk; cases hk; omega)))); have hsz := he.size; have hgz := hgq.size)
          | ((with_reducible apply W_store); exact rfl; (focus ((repeat (first | assumption | ((with_reducible apply Bx.grownS); assumption; (first | omega | exact Bx.ne (by assumption) (by omega))) | ((with_reducible apply Bx.below); assumption; omega) | ((with_reducible apply Bx.ex); assumption))); done)); exact Nat.le_of_ble_eq_true rfl; ((conv => lhs; whnf) <;> exact rfl); (first | exact rfl | assumption | exact IntsK.one (by assumption) | exact Prs.one (by assumption) | exact OwnP.one (by assumption) | exact Own.one (by assumption)); simp only [lset]; intro wq hbq hgq; have he : Ex w wq := (by repeat (first | assumption | exact Ex.refl _ | (refine Ex.trans ?_ (by assumption)) | (refine Ex.of_grown ?_ (by assumption) (by intro k hk; cases hk; omega)))); have hsz := he.size; have hgz := hgq.size)
          | ((with_reducible apply W_pass); exact rfl; exact rfl; exact rfl; exact rfl; exact rfl)
          | ((with_reducible apply W_take); exact rfl; exact rfl; exact rfl)
          | ((with_reducible apply W_passU); exact rfl; exact rfl; exact rfl; exact rfl)
          | ((with_reducible apply W_split); exact rfl; exact rfl; intro _; rotate_left 1; intro _)
          | ((with_reducible apply WQ_pass); exact rfl; exact rfl; exact rfl; exact rfl; exact rfl)
          | ((with_reducible apply WQ_take); exact rfl; exact rfl; exact rfl)
          | ((with_reducible apply WQ_passU); exact rfl; exact rfl; exact rfl; exact rfl)
          | ((with_reducible apply WQ_split); exact rfl; exact rfl; intro _; rotate_left 1; intro _)
          | ((with_reducible apply WM_pass); exact rfl; exact rfl; exact rfl; exact rfl; exact rfl)
          | ((with_reducible apply WM_take); exact rfl; exact rfl; exact rfl)
          | ((with_reducible apply WM_passU); exact rfl; exact rfl; exact rfl; exact rfl)
          | ((with_reducible apply WM_split); exact rfl; exact rfl; intro _; rotate_left 1; intro _)
          | ((with_reducible apply c_quiet); kernel_rfl)
          | ((with_reducible apply W_bs1); ((conv => lhs; whnf) <;> exact rfl); (first | exact rfl | assumption | exact IntsK.one (by assumption) | exact Prs.one (by assumption) | exact OwnP.one (by assumption) | exact Own.one (by assumption)); decide; decide; exact rfl; exact rfl; ((simp only [lay, lset, List.replicate_succ, List.replicate_zero]) <;> exact rfl); intro bq wq hbq he hnq; have hltq := Bx.lt hbq; have hsz := he.size)
          | (with_reducible apply c_seq)
          | ((with_reducible apply c_region); kernel_rfl)
          | (with_reducible apply n_nq)
          | (with_reducible apply c_block)
          | (with_reducible apply c_skip)
          | (with_reducible apply c_ret)
          | (with_reducible apply c_exit)
          | ((with_reducible apply c_cond_true); exact rfl)
          | ((with_reducible apply c_cond_false); exact rfl)
          | ((with_reducible apply c_cond_dec); exact rfl; intro _; rotate_left 1; intro _)
          | ((with_reducible apply c_cond_bool); exact rfl; intro _; rotate_left 1; intro _)
          | (with_reducible apply n_then)
          | (with_reducible apply n_block)
          | (with_reducible apply e_then)
          | (with_reducible apply e_block)
          | (with_reducible apply r_then)
          | (with_reducible apply r_block)
          | ((with_reducible apply e_block'); decide)
          | ((with_reducible apply p_ret2); exact rfl; exact rfl; ((conv => lhs; whnf) <;> exact rfl); ((conv => lhs; whnf) <;> exact rfl); refine ⟨_, rfl, ?_, (by repeat (first | assumption | exact Ex.refl _ | (refine Ex.trans ?_ (by assumption)) | (refine Ex.of_grown ?_ (by assumption) (by intro k hk; cases hk; omega))))⟩)
          | ((with_reducible apply m_ret2); (focus ((repeat (first | assumption | exact Al.nil _ _ | ((with_reducible apply Al.grownS); assumption; (focus ((repeat (first | assumption | ((with_reducible apply Bx.grownS); assumption; (first | omega | exact Bx.ne (by assumption) (by omega))) | ((with_reducible apply Bx.below); assumption; omega) | ((with_reducible apply Bx.ex); assumption))); done))) | (refine Al.ex (by assumption) ?_))); done)); exact rfl; ((conv => lhs; whnf) <;> exact rfl); ((conv => lhs; whnf) <;> exact rfl); refine ⟨_, rfl, ?_, (shut_grown _ _ (by repeat (first | assumption | exact Al.nil _ _ | ((with_reducible apply Al.grownS); assumption; (focus ((repeat (first | assumption | ((with_reducible apply Bx.grownS); assumption; (first | omega | exact Bx.ne (by assumption) (by omega))) | ((with_reducible apply Bx.below); assumption; omega) | ((with_reducible apply Bx.ex); assumption))); done))) | (refine Al.ex (by assumption) ?_))) (by repeat (first | assumption | exact Ex.refl _ | (refine Ex.trans ?_ (by assumption)) | (refine Ex.of_grown ?_ (by assumption) (by intro k hk; cases hk; omega)))) (Nat.le_refl _))⟩)
          | ((with_reducible apply p_retct); exact rfl; exact rfl; exact inferInstance; exact inferInstance; exact rfl; (focus ((repeat (first | assumption | ((with_reducible apply Bx.grownS); assumption; (first | omega | exact Bx.ne (by assumption) (by omega))) | ((with_reducible apply Bx.below); assumption; omega) | ((with_reducible apply Bx.ex); assumption))); done)); exact rfl; exact rfl; refine ⟨_, rfl, ?_, (by repeat (first | assumption | exact Ex.refl _ | (refine Ex.trans ?_ (by assumption)) | (refine Ex.of_grown ?_ (by assumption) (by intro k hk; cases hk; omega))))⟩)
          | ((exfalso; omega)))
      all_goals first
        | exact ⟨_, rfl, IntsK.nil _ _ _ (Nat.zero_le _)⟩
        | trace_state
  · have hres : e = chk need S ∧ xs = [] := by
      unfold WrongP at hw
      rcases hw with ⟨_, h2, h3⟩ | ⟨a, _⟩
      · exact ⟨h2, h3⟩
      · exact absurd a hc
    obtain ⟨hee, rfl⟩ := hres
    rw [← hee] at hck hc
    clear hee hw
    refine ret_of_c Try.func37 rfl Try.ntmps37 (Nat.le_of_ble_eq_true rfl) (by dsimp only [ini, Nat.reduceAdd] <;> exact rfl) ?_
    repeat' (first
        | ((with_reducible apply c_cond_dec); exact rfl; intro _; rotate_left 1; intro _; (all_goals (try (exfalso; (focus (omega; done))))))
        | ((with_reducible apply W_split); exact rfl; exact rfl; intro _; rotate_left 1; intro hsx; (all_goals (try (exfalso; (focus (first | exact hsx rfl | omega; done))))))
        | ((first | ((with_reducible apply W_op); exact rfl; exact rfl) | ((with_reducible apply WQ_op); exact rfl; exact rfl; intro wq he) | ((with_reducible apply WM_op); exact rfl; exact rfl; intro wq he) | ((with_reducible apply WB_op); exact rfl; exact rfl; intro wq)); (first | ((with_reducible apply r_indexArr); exact rfl; exact rfl; omega) | ((with_reducible apply r_move); ((conv => lhs; whnf) <;> exact rfl)) | ((with_reducible apply r_assign); ((conv => lhs; whnf) <;> exact rfl)) | ((with_reducible apply r_fieldAddr); exact rfl) | ((with_reducible apply r_load); exact rfl; exact rfl; (first | assumption | exact (Bx.cell (by repeat (first | assumption | ((with_reducible apply Bx.grownS); assumption; (first | omega | exact Bx.ne (by assumption) (by omega))) | ((with_reducible apply Bx.below); assumption; omega) | ((with_reducible apply Bx.ex); assumption))) _).trans rfl | exact Ex.cell (by assumption) (by assumption))) | ((with_reducible apply r_loadF); exact rfl; (first | assumption | exact (Bx.cell (by repeat (first | assumption | ((with_reducible apply Bx.grownS); assumption; (first | omega | exact Bx.ne (by assumption) (by omega))) | ((with_reducible apply Bx.below); assumption; omega) | ((with_reducible apply Bx.ex); assumption))) _).trans rfl | exact Ex.cell (by assumption) (by assumption))) | ((with_reducible apply r_loadA); exact rfl; (first | assumption | exact Bx.cells (by repeat (first | assumption | ((with_reducible apply Bx.grownS); assumption; (first | omega | exact Bx.ne (by assumption) (by omega))) | ((with_reducible apply Bx.below); assumption; omega) | ((with_reducible apply Bx.ex); assumption))) | exact Cells.ex (by assumption) (by assumption)); exact rfl) | ((with_reducible apply r_lss); exact rfl; exact rfl) | ((with_reducible apply r_leq); exact rfl; exact rfl) | ((with_reducible apply r_gtr); exact rfl; exact rfl) | ((with_reducible apply r_eql); exact rfl; exact rfl) | ((with_reducible apply r_neq); exact rfl; exact rfl) | ((with_reducible apply r_add); exact rfl; exact rfl; omega) | ((with_reducible apply r_sub); exact rfl; exact rfl; omega) | ((with_reducible apply r_len); exact rfl) | ((with_reducible apply r_lenStr); exact rfl) | ((with_reducible apply r_lenInts); ((conv => lhs; whnf) <;> exact rfl); (focus ((repeat (first | assumption | ((refine IntsK.exH (by assumption) ?_); (focus ((repeat (first | exact Ex.refl _ | assumption | (refine Ex.of_grown ?_ (by assumption) (by intro k hk; cases hk; omega)) | (refine Ex.trans ?_ (by assumption)))); done))) | ((refine Prs.exH (by assumption) ?_); (focus ((repeat (first | exact Ex.refl _ | assumption | (refine Ex.of_grown ?_ (by assumption) (by intro k hk; cases hk; omega)) | (refine Ex.trans ?_ (by assumption)))); done))) | ((with_reducible apply Bx.grownS); assumption; (first | omega | exact Bx.ne (by assumption) (by omega))) | ((with_reducible apply Bx.below); assumption; omega) | ((with_reducible apply OwnP.grownS); assumption; omega) | ((with_reducible apply Own.grownS); assumption; omega) | ((with_reducible apply Bx.ex); assumption) | ((with_reducible apply IntsK.ex); assumption) | ((with_reducible apply Own.ex); assumption) | ((with_reducible apply Prs.ex); assumption) | ((with_reducible apply OwnP.ex); assumption))); done))) | ((with_reducible apply r_lenPrs); ((conv => lhs; whnf) <;> exact rfl); (focus ((repeat (first | assumption | ((refine IntsK.exH (by assumption) ?_); (focus ((repeat (first | exact Ex.refl _ | assumption | (refine Ex.of_grown ?_ (by assumption) (by intro k hk; cases hk; omega)) | (refine Ex.trans ?_ (by assumption)))); done))) | ((refine Prs.exH (by assumption) ?_); (focus ((repeat (first | exact Ex.refl _ | assumption | (refine Ex.of_grown ?_ (by assumption) (by intro k hk; cases hk; omega)) | (refine Ex.trans ?_ (by assumption)))); done))) | ((with_reducible apply Bx.grownS); assumption; (first | omega | exact Bx.ne (by assumption) (by omega))) | ((with_reducible apply Bx.below); assumption; omega) | ((with_reducible apply OwnP.grownS); assumption; omega) | ((with_reducible apply Own.grownS); assumption; omega) | ((with_reducible apply Bx.ex); assumption) | ((with_reducible apply IntsK.ex); assumption) | ((with_reducible apply Own.ex); assumption) | ((with_reducible apply Prs.ex); assumption) | ((with_reducible apply OwnP.ex); assumption))); done))) | ((with_reducible apply r_pick_true); exact rfl; ((conv => lhs; whnf) <;> exact rfl)) | ((with_reducible apply r_pick_false); exact rfl; ((conv => lhs; whnf) <;> exact rfl)) | ((with_reducible apply r_not); exact rfl) | ((with_reducible apply r_notb); exact rfl) | ((with_reducible apply r_mul); exact rfl; exact rfl; omega) | ((with_reducible apply r_eqlb); exact rfl; exact rfl) | ((with_reducible apply r_neqb); exact rfl; exact rfl) | ((with_reducible apply r_extract); exact rfl; exact rfl) | ((with_reducible apply r_loadSub); exact rfl; (focus ((repeat (first | assumption | ((with_reducible apply Bx.grownS); assumption; (first | omega | exact Bx.ne (by assumption) (by omega))) | ((with_reducible apply Bx.below); assumption; omega) | ((with_reducible apply Bx.ex); assumption))); done)); ((simp only [Nat.add_zero, Nat.zero_add, Nat.reduceAdd, List.drop_zero, List.drop_succ_cons, List.take_succ_cons, List.take_zero]) <;> exact rfl); exact rfl)))
        | (refine W_callv (hck _ (by repeat (first | assumption | exact Ex.refl _ | (refine Ex.trans ?_ (by assumption)) | (refine Ex.of_grown ?_ (by assumption) (by intro k hk; cases hk; omega))))) rfl (fun wq he => ?_); have hsz := he.size)
        | (with_reducible apply W_nil)
        | ((with_reducible apply WQ_nil); exact rfl; intro wq he; have hsz := he.size)
        | (with_reducible apply WM_nil; intro wq he; have hsz := he.size)
        | (with_reducible apply WB_nil)
        | (with_reducible apply WT_nil)
        | (with_reducible apply WT_cons)
        | (with_reducible apply t_sink)
        | ((with_reducible apply t_keep); (focus ((repeat (first | assumption | exact Ex.refl _ | (refine Ex.trans ?_ (by assumption)) | (refine Ex.of_grown ?_ (by assumption) (by intro k hk; cases hk; omega)))); done)); intro wq he; have hsz := he.size)
        | ((with_reducible apply W_indexInt); ((conv => lhs; whnf) <;> exact rfl); (focus ((repeat (first | assumption | ((refine IntsK.exH (by assumption) ?_); (focus ((repeat (first | exact Ex.refl _ | assumption | (refine Ex.of_grown ?_ (by assumption) (by intro k hk; cases hk; omega)) | (refine Ex.trans ?_ (by assumption)))); done))) | ((refine Prs.exH (by assumption) ?_); (focus ((repeat (first | exact Ex.refl _ | assumption | (refine Ex.of_grown ?_ (by assumption) (by intro k hk; cases hk; omega)) | (refine Ex.trans ?_ (by assumption)))); done))) | ((with_reducible apply Bx.grownS); assumption; (first | omega | exact Bx.ne (by assumption) (by omega))) | ((with_reducible apply Bx.below); assumption; omega) | ((with_reducible apply OwnP.grownS); assumption; omega) | ((with_reducible apply Own.grownS); assumption; omega) | ((with_reducible apply Bx.ex); assumption) | ((with_reducible apply IntsK.ex); assumption) | ((with_reducible apply Own.ex); assumption) | ((with_reducible apply Prs.ex); assumption) | ((with_reducible apply OwnP.ex); assumption))); done)); exact rfl; omega; intro pq hpq)
        | ((with_reducible apply W_indexIntss); ((conv => lhs; whnf) <;> exact rfl); assumption; (focus ((repeat (first | assumption | exact Ex.refl _ | (refine Ex.trans ?_ (by assumption)) | (refine Ex.of_grown ?_ (by assumption) (by intro k hk; cases hk; omega)))); done)); exact rfl; omega; intro pq uq hpq huq)
        | ((with_reducible apply WQ_indexInt); ((conv => lhs; whnf) <;> exact rfl); (focus ((repeat (first | assumption | ((refine IntsK.exH (by assumption) ?_); (focus ((repeat (first | exact Ex.refl _ | assumption | (refine Ex.of_grown ?_ (by assumption) (by intro k hk; cases hk; omega)) | (refine Ex.trans ?_ (by assumption)))); done))) | ((refine Prs.exH (by assumption) ?_); (focus ((repeat (first | exact Ex.refl _ | assumption | (refine Ex.of_grown ?_ (by assumption) (by intro k hk; cases hk; omega)) | (refine Ex.trans ?_ (by assumption)))); done))) | ((with_reducible apply Bx.grownS); assumption; (first | omega | exact Bx.ne (by assumption) (by omega))) | ((with_reducible apply Bx.below); assumption; omega) | ((with_reducible apply OwnP.grownS); assumption; omega) | ((with_reducible apply Own.grownS); assumption; omega) | ((with_reducible apply Bx.ex); assumption) | ((with_reducible apply IntsK.ex); assumption) | ((with_reducible apply Own.ex); assumption) | ((with_reducible apply Prs.ex); assumption) | ((with_reducible apply OwnP.ex); assumption))); done)); exact rfl; omega; intro pq hpq)
        | ((with_reducible apply WQ_indexIntss); ((conv => lhs; whnf) <;> exact rfl); assumption; (focus ((repeat (first | assumption | exact Ex.refl _ | (refine Ex.trans ?_ (by assumption)) | (refine Ex.of_grown ?_ (by assumption) (by intro k hk; cases hk; omega)))); done)); exact rfl; omega; intro pq uq hpq huq)
        | ((with_reducible apply WM_indexInt); ((conv => lhs; whnf) <;> exact rfl); (focus ((repeat (first | assumption | ((refine IntsK.exH (by assumption) ?_); (focus ((repeat (first | exact Ex.refl _ | assumption | (refine Ex.of_grown ?_ (by assumption) (by intro k hk; cases hk; omega)) | (refine Ex.trans ?_ (by assumption)))); done))) | ((refine Prs.exH (by assumption) ?_); (focus ((repeat (first | exact Ex.refl _ | assumption | (refine Ex.of_grown ?_ (by assumption) (by intro k hk; cases hk; omega)) | (refine Ex.trans ?_ (by assumption)))); done))) | ((with_reducible apply Bx.grownS); assumption; (first | omega | exact Bx.ne (by assumption) (by omega))) | ((with_reducible apply Bx.below); assumption; omega) | ((with_reducible apply OwnP.grownS); assumption; omega) | ((with_reducible apply Own.grownS); assumption; omega) | ((with_reducible apply Bx.ex); assumption) | ((with_reducible apply IntsK.ex); assumption) | ((with_reducible apply Own.ex); assumption) | ((with_reducible apply Prs.ex); assumption) | ((with_reducible apply OwnP.ex); assumption))); done)); exact rfl; omega; intro pq hpq)
        | ((with_reducible apply WM_indexIntss); ((conv => lhs; whnf) <;> exact rfl); assumption; (focus ((repeat (first | assumption | exact Ex.refl _ | (refine Ex.trans ?_ (by assumption)) | (refine Ex.of_grown ?_ (by assumption) (by intro k hk; cases hk; omega)))); done)); exact rfl; omega; intro pq uq hpq huq)
        | ((with_reducible apply W_indexPr); ((conv => lhs; whnf) <;> exact rfl); (focus ((repeat (first | assumption | ((refine IntsK.exH (by assumption) ?_); (focus ((repeat (first | exact Ex.refl _ | assumption | (refine Ex.of_grown ?_ (by assumption) (by intro k hk; cases hk; omega)) | (refine Ex.trans ?_ (by assumption)))); done))) | ((refine Prs.exH (by assumption) ?_); (focus ((repeat (first | exact Ex.refl _ | assumption | (refine Ex.of_grown ?_ (by assumption) (by intro k hk; cases hk; omega)) | (refine Ex.trans ?_ (by assumption)))); done))) | ((with_reducible apply Bx.grownS); assumption; (first | omega | exact Bx.ne (by assumption) (by omega))) | ((with_reducible apply Bx.below); assumption; omega) | ((with_reducible apply OwnP.grownS); assumption; omega) | ((with_reducible apply Own.grownS); assumption; omega) | ((with_reducible apply Bx.ex); assumption) | ((with_reducible apply IntsK.ex); assumption) | ((with_reducible apply Own.ex); assumption) | ((with_reducible apply Prs.ex); assumption) | ((with_reducible apply OwnP.ex); assumption))); done)); exact rfl; omega; intro pq hpq)
        | ((with_reducible apply WQ_indexPr); ((conv => lhs; whnf) <;> exact rfl); (focus ((repeat (first | assumption | ((refine IntsK.exH (by assumption) ?_); (focus ((repeat (first | exact Ex.refl _ | assumption | (refine Ex.of_grown ?_ (by assumption) (by intro k hk; cases hk; omega)) | (refine Ex.trans ?_ (by assumption)))); done))) | ((refine Prs.exH (by assumption) ?_); (focus ((repeat (first | exact Ex.refl _ | assumption | (refine Ex.of_grown ?_ (by assumption) (by intro k hk; cases hk; omega)) | (refine Ex.trans ?_ (by assumption)))); done))) | ((with_reducible apply Bx.grownS); assumption; (first | omega | exact Bx.ne (by assumption) (by omega))) | ((with_reducible apply Bx.below); assumption; omega) | ((with_reducible apply OwnP.grownS); assumption; omega) | ((with_reducible apply Own.grownS); assumption; omega) | ((with_reducible apply Bx.ex); assumption) | ((with_reducible apply IntsK.ex); assumption) | ((with_reducible apply Own.ex); assumption) | ((with_reducible apply Prs.ex); assumption) | ((with_reducible apply OwnP.ex); assumption))); done)); exact rfl; omega; intro pq hpq)
        | ((with_reducible apply W_bsP); exact rfl; exact rfl; intro bq wq hbq he hnq; have hltq := Bx.lt hbq; have hsz := he.size)
        | ((with_reducible apply W_storeA); exact rfl; (focus ((repeat (first | assumption | ((with_reducible apply Bx.grownS); assumption; (first | omega | exact Bx.ne (by assumption) (by omega))) | ((with_reducible apply Bx.below); assumption; omega) | ((with_reducible apply Bx.ex); assumption))); done)); exact rfl; exact rfl; exact rfl; (repeat' (first | exact trivial | (first | exact rfl | assumption | exact IntsK.one (by assumption) | exact Prs.one (by assumption) | exact OwnP.one (by assumption) | exact Own.one (by assumption)) | constructor)); intro wq hbq hgq; have he : Ex w wq := (by repeat (first | assumption | exact Ex.refl _ | (refine Ex.trans ?_ (by assumption)) | (refine Ex.of_grown ?_ (by assumption) (by intro k hk; cases hk; omega)))); have hsz := he.size; have hgz := hgq.size)
        | ((with_reducible apply W_store); exact rfl; (focus ((repeat (first | assumption | ((with_reducible apply Bx.grownS); assumption; (first | omega | exact Bx.ne (by assumption) (by omega))) | ((with_reducible apply Bx.below); assumption; omega) | ((with_reducible apply Bx.ex); assumption))); done)); exact Nat.le_of_ble_eq_true rfl; ((conv => lhs; whnf) <;> exact rfl); (first | exact rfl | assumption | exact IntsK.one (by assumption) | exact Prs.one (by assumption) | exact OwnP.one (by assumption) | exact Own.one (by assumption)); simp only [lset]; intro wq hbq hgq; have he : Ex w wq := (by repeat (first | assumption | exact Ex.refl _ | (refine Ex.trans ?_ (by assumption)) | (refine Ex.of_grown ?_ (by assumption) (by intro k hk; cases hk; omega)))); have hsz := he.size; have hgz := hgq.size)
        | ((with_reducible apply W_pass); exact rfl; exact rfl; exact rfl; exact rfl; exact rfl)
        | ((with_reducible apply W_take); exact rfl; exact rfl; exact rfl)
        | ((with_reducible apply W_passU); exact rfl; exact rfl; exact rfl; exact rfl)
        | ((with_reducible apply W_split); exact rfl; exact rfl; intro _; rotate_left 1; intro _)
        | ((with_reducible apply WQ_pass); exact rfl; exact rfl; exact rfl; exact rfl; exact rfl)
        | ((with_reducible apply WQ_take); exact rfl; exact rfl; exact rfl)
        | ((with_reducible apply WQ_passU); exact rfl; exact rfl; exact rfl; exact rfl)
        | ((with_reducible apply WQ_split); exact rfl; exact rfl; intro _; rotate_left 1; intro _)
        | ((with_reducible apply WM_pass); exact rfl; exact rfl; exact rfl; exact rfl; exact rfl)
        | ((with_reducible apply WM_take); exact rfl; exact rfl; exact rfl)
        | ((with_reducible apply WM_passU); exact rfl; exact rfl; exact rfl; exact rfl)
        | ((with_reducible apply WM_split); exact rfl; exact rfl; intro _; rotate_left 1; intro _)
        | ((with_reducible apply c_quiet); kernel_rfl)
        | ((with_reducible apply W_bs1); ((conv => lhs; whnf) <;> exact rfl); (first | exact rfl | assumption | exact IntsK.one (by assumption) | exact Prs.one (by assumption) | exact OwnP.one (by assumption) | exact Own.one (by assumption)); decide; decide; exact rfl; exact rfl; ((simp only [lay, lset, List.replicate_succ, List.replicate_zero]) <;> exact rfl); intro bq wq hbq he hnq; have hltq := Bx.lt hbq; have hsz := he.size)
        | (with_reducible apply c_seq)
        | ((with_reducible apply c_region); kernel_rfl)
        | (with_reducible apply n_nq)
        | (with_reducible apply c_block)
        | (with_reducible apply c_skip)
        | (with_reducible apply c_ret)
        | (with_reducible apply c_exit)
        | ((with_reducible apply c_cond_true); exact rfl)
        | ((with_reducible apply c_cond_false); exact rfl)
        | ((with_reducible apply c_cond_dec); exact rfl; intro _; rotate_left 1; intro _)
        | ((with_reducible apply c_cond_bool); exact rfl; intro _; rotate_left 1; intro _)
        | (with_reducible apply n_then)
        | (with_reducible apply n_block)
        | (with_reducible apply e_then)
        | (with_reducible apply e_block)
        | (with_reducible apply r_then)
        | (with_reducible apply r_block)
        | ((with_reducible apply e_block'); decide)
        | ((with_reducible apply p_ret2); exact rfl; exact rfl; ((conv => lhs; whnf) <;> exact rfl); ((conv => lhs; whnf) <;> exact rfl); refine ⟨_, rfl, ?_, (by repeat (first | assumption | exact Ex.refl _ | (refine Ex.trans ?_ (by assumption)) | (refine Ex.of_grown ?_ (by assumption) (by intro k hk; cases hk; omega))))⟩)
        | ((with_reducible apply m_ret2); (focus ((repeat (first | assumption | exact Al.nil _ _ | ((with_reducible apply Al.grownS); assumption; (focus ((repeat (first | assumption | ((with_reducible apply Bx.grownS); assumption; (first | omega | exact Bx.ne (by assumption) (by omega))) | ((with_reducible apply Bx.below); assumption; omega) | ((with_reducible apply Bx.ex); assumption))); done))) | (refine Al.ex (by assumption) ?_))); done)); exact rfl; ((conv => lhs; whnf) <;> exact rfl); ((conv => lhs; whnf) <;> exact rfl); refine ⟨_, rfl, ?_, (shut_grown _ _ (by repeat (first | assumption | exact Al.nil _ _ | ((with_reducible apply Al.grownS); assumption; (focus ((repeat (first | assumption | ((with_reducible apply Bx.grownS); assumption; (first | omega | exact Bx.ne (by assumption) (by omega))) | ((with_reducible apply Bx.below); assumption; omega) | ((with_reducible apply Bx.ex); assumption))); done))) | (refine Al.ex (by assumption) ?_))) (by repeat (first | assumption | exact Ex.refl _ | (refine Ex.trans ?_ (by assumption)) | (refine Ex.of_grown ?_ (by assumption) (by intro k hk; cases hk; omega)))) (Nat.le_refl _))⟩)
        | ((with_reducible apply p_retct); exact rfl; exact rfl; exact inferInstance; exact inferInstance; exact rfl; (focus ((repeat (first | assumption | ((with_reducible apply Bx.grownS); assumption; (first | omega | exact Bx.ne (by assumption) (by omega))) | ((with_reducible apply Bx.below); assumption; omega) | ((with_reducible apply Bx.ex); assumption))); done)); exact rfl; exact rfl; refine ⟨_, rfl, ?_, (by repeat (first | assumption | exact Ex.refl _ | (refine Ex.trans ?_ (by assumption)) | (refine Ex.of_grown ?_ (by assumption) (by intro k hk; cases hk; omega))))⟩)
        | ((exfalso; omega)))
    all_goals first
      | exact ⟨_, rfl, IntsK.nil _ _ _ (Nat.zero_le _)⟩
      | trace_state
end Go.Proofs.Ytngoipmdhliigaa
namespace Go.Proofs.Ytngoipmdhliigaa
open Go.Pv Go.RowKit Go.Sort
set_option maxHeartbeats 8000000
set_option maxRecDepth 20000
theorem lawWrongs_any (need most : Int) (v : Value) (sh : List (Int × Int)) (w : World) (h : Prs w v sh) : Ret Try.prog 6 [.int .i64 need, .int .i64 most, v] w fun r _ => r = .bool true := by
  have hv1 := h.one
  have hln := h.len
  have hA := fun w2 (e : Ex w w2) => Wrong_any need most v sh w2 (Prs.ex e h)
  by_cases hlen : (10 < sh.length ∧ sh.length ≤ 20) ∨ 60 < sh.length
  · refine ret_of_c Try.func6 rfl Try.ntmps6 (Nat.le_of_ble_eq_true rfl) (by dsimp only [ini, Nat.reduceAdd] <;> exact rfl) ?_
    repeat' (first
        | ((with_reducible apply W_split); exact rfl; exact rfl; intro _; rotate_left 1; intro hsx; (all_goals (try (exfalso; (focus (first | exact hsx rfl | omega; done))))))
        | ((with_reducible apply c_cond_dec); exact rfl; intro _; rotate_left 1; intro _; (all_goals (try (exfalso; (focus (omega; done))))))
        | ((with_reducible apply W_op); exact rfl; exact rfl; exact r_lenPrs rfl (Prs.ex (show Ex w _ from (by repeat (first | exact Ex.refl _ | assumption | (refine Ex.of_grown ?_ (by assumption) (by intro k hk; cases hk; omega)) | (refine Ex.trans ?_ (by assumption))))) h))
        | ((first | ((with_reducible apply W_op); exact rfl; exact rfl)); (first | ((with_reducible apply r_move); ((conv => lhs; whnf) <;> exact rfl)) | ((with_reducible apply r_assign); ((conv => lhs; whnf) <;> exact rfl)) | ((with_reducible apply r_leq); exact rfl; exact rfl) | ((with_reducible apply r_gtr); exact rfl; exact rfl) | ((with_reducible apply r_eql); exact rfl; exact rfl) | ((with_reducible apply r_len); exact rfl) | ((with_reducible apply r_lenStr); exact rfl) | ((with_reducible apply r_lenInts); ((conv => lhs; whnf) <;> exact rfl); (focus ((repeat (first | assumption | ((refine IntsK.exH (by assumption) ?_); (focus ((repeat (first | exact Ex.refl _ | assumption | (refine Ex.of_grown ?_ (by assumption) (by intro k hk; cases hk; omega)) | (refine Ex.trans ?_ (by assumption)))); done))) | ((refine Prs.exH (by assumption) ?_); (focus ((repeat (first | exact Ex.refl _ | assumption | (refine Ex.of_grown ?_ (by assumption) (by intro k hk; cases hk; omega)) | (refine Ex.trans ?_ (by assumption)))); done))) | ((with_reducible apply Bx.grownS); assumption; (first | omega | exact Bx.ne (by assumption) (by omega))) | ((with_reducible apply Bx.below); assumption; omega) | ((with_reducible apply OwnP.grownS); assumption; omega) | ((with_reducible apply Own.grownS); assumption; omega) | ((with_reducible apply Bx.ex); assumption) | ((with_reducible apply IntsK.ex); assumption) | ((with_reducible apply Own.ex); assumption) | ((with_reducible apply Prs.ex); assumption) | ((with_reducible apply OwnP.ex); assumption))); done))) | ((with_reducible apply r_lenPrs); ((conv => lhs; whnf) <;> exact rfl); (focus ((repeat (first | assumption | ((refine IntsK.exH (by assumption) ?_); (focus ((repeat (first | exact Ex.refl _ | assumption | (refine Ex.of_grown ?_ (by assumption) (by intro k hk; cases hk; omega)) | (refine Ex.trans ?_ (by assumption)))); done))) | ((refine Prs.exH (by assumption) ?_); (focus ((repeat (first | exact Ex.refl _ | assumption | (refine Ex.of_grown ?_ (by assumption) (by intro k hk; cases hk; omega)) | (refine Ex.trans ?_ (by assumption)))); done))) | ((with_reducible apply Bx.grownS); assumption; (first | omega | exact Bx.ne (by assumption) (by omega))) | ((with_reducible apply Bx.below); assumption; omega) | ((with_reducible apply OwnP.grownS); assumption; omega) | ((with_reducible apply Own.grownS); assumption; omega) | ((with_reducible apply Bx.ex); assumption) | ((with_reducible apply IntsK.ex); assumption) | ((with_reducible apply Own.ex); assumption) | ((with_reducible apply Prs.ex); assumption) | ((with_reducible apply OwnP.ex); assumption))); done))) | ((with_reducible apply r_pick_true); exact rfl; ((conv => lhs; whnf) <;> exact rfl)) | ((with_reducible apply r_pick_false); exact rfl; ((conv => lhs; whnf) <;> exact rfl)) | ((with_reducible apply r_eqlb); exact rfl; exact rfl) | ((with_reducible apply r_extract); exact rfl; exact rfl)))
        | (refine W_callv (works_any _) rfl (fun wq he => ?_); have hsz := he.size)
        | (with_reducible apply W_nil)
        | ((with_reducible apply W_pass); exact rfl; exact rfl; exact rfl; exact rfl; exact rfl)
        | ((with_reducible apply W_take); exact rfl; exact rfl; exact rfl)
        | ((with_reducible apply W_passU); exact rfl; exact rfl; exact rfl; exact rfl)
        | ((with_reducible apply W_split); exact rfl; exact rfl; intro _; rotate_left 1; intro _)
        | (with_reducible apply c_seq)
        | ((with_reducible apply c_region); kernel_rfl)
        | (with_reducible apply n_nq)
        | (with_reducible apply c_skip)
        | (with_reducible apply c_ret)
        | ((with_reducible apply c_cond_true); exact rfl)
        | ((with_reducible apply c_cond_false); exact rfl)
        | ((with_reducible apply c_cond_dec); exact rfl; intro _; rotate_left 1; intro _)
        | ((with_reducible apply c_cond_bool); exact rfl; intro _; rotate_left 1; intro _)
        | (with_reducible apply n_then)
        | (with_reducible apply e_then)
        | (with_reducible apply r_then)
        | ((with_reducible apply p_ret1); exact rfl; exact rfl; ((conv => lhs; whnf) <;> exact rfl); refine ⟨_, rfl, ?_, (by repeat (first | assumption | exact Ex.refl _ | (refine Ex.trans ?_ (by assumption)) | (refine Ex.of_grown ?_ (by assumption) (by intro k hk; cases hk; omega))))⟩)
        | ((with_reducible apply m_ret1); (focus ((repeat (first | assumption | exact Al.nil _ _ | ((with_reducible apply Al.grownS); assumption; (focus ((repeat (first | assumption | ((with_reducible apply Bx.grownS); assumption; (first | omega | exact Bx.ne (by assumption) (by omega))) | ((with_reducible apply Bx.below); assumption; omega) | ((with_reducible apply Bx.ex); assumption))); done))) | (refine Al.ex (by assumption) ?_))); done)); exact rfl; ((conv => lhs; whnf) <;> exact rfl); refine ⟨_, rfl, ?_, (shut_grown _ _ (by repeat (first | assumption | exact Al.nil _ _ | ((with_reducible apply Al.grownS); assumption; (focus ((repeat (first | assumption | ((with_reducible apply Bx.grownS); assumption; (first | omega | exact Bx.ne (by assumption) (by omega))) | ((with_reducible apply Bx.below); assumption; omega) | ((with_reducible apply Bx.ex); assumption))); done))) | (refine Al.ex (by assumption) ?_))) (by repeat (first | assumption | exact Ex.refl _ | (refine Ex.trans ?_ (by assumption)) | (refine Ex.of_grown ?_ (by assumption) (by intro k hk; cases hk; omega)))) (Nat.le_refl _))⟩)
        | ((with_reducible apply p_retct); exact rfl; exact rfl; exact inferInstance; exact inferInstance; exact rfl; (focus ((repeat (first | assumption | ((with_reducible apply Bx.grownS); assumption; (first | omega | exact Bx.ne (by assumption) (by omega))) | ((with_reducible apply Bx.below); assumption; omega) | ((with_reducible apply Bx.ex); assumption))); done)); exact rfl; exact rfl; refine ⟨_, rfl, ?_, (by repeat (first | assumption | exact Ex.refl _ | (refine Ex.trans ?_ (by assumption)) | (refine Ex.of_grown ?_ (by assumption) (by intro k hk; cases hk; omega))))⟩)
        | ((exfalso; omega)))
    all_goals first | rfl | trace_state
  · have hl10 : sh.length ≤ 10 ∨ 20 < sh.length := by omega
    have hB := fun e xs (hw : WrongP need most sh e xs) g w2 (hg : Prs w2 g sh) => rWrong_any need most g sh w2 hg hl10 e xs hw
    refine ret_of_c Try.func6 rfl Try.ntmps6 (Nat.le_of_ble_eq_true rfl) (by dsimp only [ini, Nat.reduceAdd] <;> exact rfl) ?_
    repeat' (first
        | ((with_reducible apply W_split); exact rfl; exact rfl; intro _; rotate_left 1; intro hsx; (all_goals (try (exfalso; (focus (first | exact hsx rfl | omega; done))))))
        | ((with_reducible apply c_cond_dec); exact rfl; intro _; rotate_left 1; intro _; (all_goals (try (exfalso; (focus (omega; done))))))
        | ((with_reducible apply W_op); exact rfl; exact rfl; exact r_lenPrs rfl (Prs.ex (show Ex w _ from (by repeat (first | exact Ex.refl _ | assumption | (refine Ex.of_grown ?_ (by assumption) (by intro k hk; cases hk; omega)) | (refine Ex.trans ?_ (by assumption))))) h))
        | ((first | ((with_reducible apply W_op); exact rfl; exact rfl)); (first | ((with_reducible apply r_move); ((conv => lhs; whnf) <;> exact rfl)) | ((with_reducible apply r_assign); ((conv => lhs; whnf) <;> exact rfl)) | ((with_reducible apply r_leq); exact rfl; exact rfl) | ((with_reducible apply r_gtr); exact rfl; exact rfl) | ((with_reducible apply r_eql); exact rfl; exact rfl) | ((with_reducible apply r_len); exact rfl) | ((with_reducible apply r_lenStr); exact rfl) | ((with_reducible apply r_lenInts); ((conv => lhs; whnf) <;> exact rfl); (focus ((repeat (first | assumption | ((refine IntsK.exH (by assumption) ?_); (focus ((repeat (first | exact Ex.refl _ | assumption | (refine Ex.of_grown ?_ (by assumption) (by intro k hk; cases hk; omega)) | (refine Ex.trans ?_ (by assumption)))); done))) | ((refine Prs.exH (by assumption) ?_); (focus ((repeat (first | exact Ex.refl _ | assumption | (refine Ex.of_grown ?_ (by assumption) (by intro k hk; cases hk; omega)) | (refine Ex.trans ?_ (by assumption)))); done))) | ((with_reducible apply Bx.grownS); assumption; (first | omega | exact Bx.ne (by assumption) (by omega))) | ((with_reducible apply Bx.below); assumption; omega) | ((with_reducible apply OwnP.grownS); assumption; omega) | ((with_reducible apply Own.grownS); assumption; omega) | ((with_reducible apply Bx.ex); assumption) | ((with_reducible apply IntsK.ex); assumption) | ((with_reducible apply Own.ex); assumption) | ((with_reducible apply Prs.ex); assumption) | ((with_reducible apply OwnP.ex); assumption))); done))) | ((with_reducible apply r_lenPrs); ((conv => lhs; whnf) <;> exact rfl); (focus ((repeat (first | assumption | ((refine IntsK.exH (by assumption) ?_); (focus ((repeat (first | exact Ex.refl _ | assumption | (refine Ex.of_grown ?_ (by assumption) (by intro k hk; cases hk; omega)) | (refine Ex.trans ?_ (by assumption)))); done))) | ((refine Prs.exH (by assumption) ?_); (focus ((repeat (first | exact Ex.refl _ | assumption | (refine Ex.of_grown ?_ (by assumption) (by intro k hk; cases hk; omega)) | (refine Ex.trans ?_ (by assumption)))); done))) | ((with_reducible apply Bx.grownS); assumption; (first | omega | exact Bx.ne (by assumption) (by omega))) | ((with_reducible apply Bx.below); assumption; omega) | ((with_reducible apply OwnP.grownS); assumption; omega) | ((with_reducible apply Own.grownS); assumption; omega) | ((with_reducible apply Bx.ex); assumption) | ((with_reducible apply IntsK.ex); assumption) | ((with_reducible apply Own.ex); assumption) | ((with_reducible apply Prs.ex); assumption) | ((with_reducible apply OwnP.ex); assumption))); done))) | ((with_reducible apply r_pick_true); exact rfl; ((conv => lhs; whnf) <;> exact rfl)) | ((with_reducible apply r_pick_false); exact rfl; ((conv => lhs; whnf) <;> exact rfl)) | ((with_reducible apply r_eqlb); exact rfl; exact rfl) | ((with_reducible apply r_extract); exact rfl; exact rfl)))
        | (refine W_call (hA _ (by repeat (first | assumption | exact Ex.refl _ | (refine Ex.trans ?_ (by assumption)) | (refine Ex.of_grown ?_ (by assumption) (by intro k hk; cases hk; omega))))) rfl ?_; rintro vq wq ⟨u1, ee, xs, rfl, hwp, ho1⟩ he; have hsz := he.size; have hu1 := ho1.one; have hp1 := Pv.Own.ints ho1)
        | (refine W_call (given_any v sh _ (Prs.ex (show Ex w _ from (by repeat (first | exact Ex.refl _ | assumption | (refine Ex.of_grown ?_ (by assumption) (by intro k hk; cases hk; omega)) | (refine Ex.trans ?_ (by assumption))))) h) (by omega)) rfl ?_; rintro vq wq og1 he; have hsz := he.size; have hg1 := og1.one; have pg1 := og1.prs)
        | (refine W_call (hB ee xs hwp _ _ (by assumption)) rfl ?_; rintro vq wq ⟨u2, rfl, hp2⟩ he; have hsz := he.size; have hu2 := hp2.one)
        | (refine W_callv (nums_same _ _ xs _ (IntsK.ex (by repeat (first | exact Ex.refl _ | assumption | (refine Ex.of_grown ?_ (by assumption) (by intro k hk; cases hk; omega)) | (refine Ex.trans ?_ (by assumption)))) hp1) (IntsK.ex (by repeat (first | exact Ex.refl _ | assumption | (refine Ex.of_grown ?_ (by assumption) (by intro k hk; cases hk; omega)) | (refine Ex.trans ?_ (by assumption)))) hp2)) rfl (fun wq he => ?_); have hsz := he.size)
        | (refine W_callv (works_any _) rfl (fun wq he => ?_); have hsz := he.size)
        | (with_reducible apply W_nil)
        | ((with_reducible apply W_pass); exact rfl; exact rfl; exact rfl; exact rfl; exact rfl)
        | ((with_reducible apply W_take); exact rfl; exact rfl; exact rfl)
        | ((with_reducible apply W_passU); exact rfl; exact rfl; exact rfl; exact rfl)
        | ((with_reducible apply W_split); exact rfl; exact rfl; intro _; rotate_left 1; intro _)
        | (with_reducible apply c_seq)
        | ((with_reducible apply c_region); kernel_rfl)
        | (with_reducible apply n_nq)
        | (with_reducible apply c_skip)
        | (with_reducible apply c_ret)
        | ((with_reducible apply c_cond_true); exact rfl)
        | ((with_reducible apply c_cond_false); exact rfl)
        | ((with_reducible apply c_cond_dec); exact rfl; intro _; rotate_left 1; intro _)
        | ((with_reducible apply c_cond_bool); exact rfl; intro _; rotate_left 1; intro _)
        | (with_reducible apply n_then)
        | (with_reducible apply e_then)
        | (with_reducible apply r_then)
        | ((with_reducible apply p_ret1); exact rfl; exact rfl; ((conv => lhs; whnf) <;> exact rfl); refine ⟨_, rfl, ?_, (by repeat (first | assumption | exact Ex.refl _ | (refine Ex.trans ?_ (by assumption)) | (refine Ex.of_grown ?_ (by assumption) (by intro k hk; cases hk; omega))))⟩)
        | ((with_reducible apply m_ret1); (focus ((repeat (first | assumption | exact Al.nil _ _ | ((with_reducible apply Al.grownS); assumption; (focus ((repeat (first | assumption | ((with_reducible apply Bx.grownS); assumption; (first | omega | exact Bx.ne (by assumption) (by omega))) | ((with_reducible apply Bx.below); assumption; omega) | ((with_reducible apply Bx.ex); assumption))); done))) | (refine Al.ex (by assumption) ?_))); done)); exact rfl; ((conv => lhs; whnf) <;> exact rfl); refine ⟨_, rfl, ?_, (shut_grown _ _ (by repeat (first | assumption | exact Al.nil _ _ | ((with_reducible apply Al.grownS); assumption; (focus ((repeat (first | assumption | ((with_reducible apply Bx.grownS); assumption; (first | omega | exact Bx.ne (by assumption) (by omega))) | ((with_reducible apply Bx.below); assumption; omega) | ((with_reducible apply Bx.ex); assumption))); done))) | (refine Al.ex (by assumption) ?_))) (by repeat (first | assumption | exact Ex.refl _ | (refine Ex.trans ?_ (by assumption)) | (refine Ex.of_grown ?_ (by assumption) (by intro k hk; cases hk; omega)))) (Nat.le_refl _))⟩)
        | ((with_reducible apply p_retct); exact rfl; exact rfl; exact inferInstance; exact inferInstance; exact rfl; (focus ((repeat (first | assumption | ((with_reducible apply Bx.grownS); assumption; (first | omega | exact Bx.ne (by assumption) (by omega))) | ((with_reducible apply Bx.below); assumption; omega) | ((with_reducible apply Bx.ex); assumption))); done)); exact rfl; exact rfl; refine ⟨_, rfl, ?_, (by repeat (first | assumption | exact Ex.refl _ | (refine Ex.trans ?_ (by assumption)) | (refine Ex.of_grown ?_ (by assumption) (by intro k hk; cases hk; omega))))⟩)
        | ((exfalso; omega)))
    all_goals first | rfl | trace_state
end Go.Proofs.Ytngoipmdhliigaa
