/-
  What this text proves: shares of a polynomial of different keepers have no error, agree, and restore the polynomial; a changed one is noticed. It speaks of plain functions.
-/
import Derived.Test.YtngoipmdhliigaaVHd
set_option linter.unusedVariables false
set_option linter.unusedSimpArgs false
namespace Go.Pv
open Go.RowKit
theorem smK_ok {bs : List Int} {least : Nat} (hb : ∀ j, 0 ≤ bs.getD j 0 ∧ bs.getD j 0 ≤ 255) (hle : least ≤ 20) : ∀ (f i : Nat) (ks : List Int), f + i = bs.length + 20 → KsOk ks → (∀ j : Nat, bs.length ≤ j → j < i → (1 + (j : Int) % 20) ∈ ks) → KsOk (smK bs least f i ks) ∧ least ≤ (smK bs least f i ks).length
  | 0, i, ks, hi, hk, ha => by
    have := all_full ha (by omega)
    exact ⟨hk, by simp only [smK]; omega⟩
  | f + 1, i, ks, hi, hk, ha => by
    simp only [smK]
    have hka := kAt_bd hb i
    have hk2 : ¬ i < bs.length → 1 + (i : Int) % 20 = kAt bs i := fun hh => by unfold kAt; rw [if_neg hh]
    by_cases hc : i < bs.length ∨ ks.length < least
    · rw [if_pos hc]
      by_cases hm : kAt bs i ∈ ks
      · rw [if_pos hm]
        exact smK_ok hb hle f (i + 1) ks (by omega) hk (met_old ha hk2 hm)
      · rw [if_neg hm]
        exact smK_ok hb hle f (i + 1) _ (by omega) (hk.next hka hm) (met_next ha hk2)
    · rw [if_neg hc]
      exact ⟨hk, by omega⟩
theorem someK_ok {bs : List Int} {least : Nat} (hb : ∀ j, 0 ≤ bs.getD j 0 ∧ bs.getD j 0 ≤ 255) (hle : least ≤ 20) : KsOk (someK bs least) ∧ least ≤ (someK bs least).length :=
  smK_ok hb hle _ 0 [] (by omega) KsOk.nil fun j h1 h2 => absurd h2 (Nat.not_lt_zero _)
/-- Shares without an error. -/
def ShOk (sh : List (Int × Int)) : Prop := KsOk (kS sh) ∧ ∀ i, 0 ≤ (sh.getD i (0, 0)).2 ∧ (sh.getD i (0, 0)).2 ≤ 250
theorem mem_get {ks : List Int} {i : Nat} (h : i < ks.length) : ks.getD i 0 ∈ ks := by
  have e : ks.getD i 0 = ks[i] := by simp [h]
  rw [e]; exact List.getElem_mem h
theorem nodup_take {ks : List Int} (h : ks.Nodup) {i : Nat} (hi : i < ks.length) : ¬ ks.getD i 0 ∈ ks.take i := by
  intro hm
  obtain ⟨j, hj, e⟩ := List.getElem_of_mem hm
  rw [List.getElem_take] at e
  have hj2 : j < i := by simp at hj; omega
  have e2 : ks.getD i 0 = ks[i] := by simp [hi]
  rw [e2] at e
  have := (List.nodup_iff_pairwise_ne.1 h)
  rw [List.pairwise_iff_getElem] at this
  exact this j i (by omega) hi hj2 e
theorem errF_zero {sh : List (Int × Int)} (h : ∀ j, j < sh.length → rngS (sh.getD j (0, 0)) ∧ ¬ (sh.getD j (0, 0)).1 ∈ (kS sh).take j) : ∀ f i, f + i ≤ sh.length → errF sh f i = 0
  | 0, i, _ => rfl
  | f + 1, i, hi => by
    have hh := h i (by omega)
    simp only [errF]
    rw [if_neg (Classical.not_not.2 hh.1), if_neg hh.2]
    exact errF_zero h f (i + 1) (by omega)
theorem ShOk.err {sh : List (Int × Int)} (h : ShOk sh) : shErr sh = 0 := by
  refine errF_zero (fun j hj => ?_) _ 0 (by omega)
  have hj2 : j < (kS sh).length := by rw [kS_len]; exact hj
  have h1 := h.1.2 _ (mem_get hj2)
  have h2 := nodup_take h.1.1 hj2
  rw [kS_get] at h1 h2
  exact ⟨⟨h1, h.2 j⟩, h2⟩
theorem ShOk.len {sh : List (Int × Int)} (h : ShOk sh) : sh.length ≤ 20 := by have := h.1.le; rwa [kS_len] at this
theorem ShOk.chk {sh : List (Int × Int)} (h : ShOk sh) {n : Int} (hn : 1 ≤ n ∧ n ≤ 8) : chk n sh = 0 := by
  have := h.len
  unfold Pv.chk
  rw [if_neg (by omega), if_neg (by omega)]
  exact h.err
theorem ShOk.ok {sh : List (Int × Int)} (h : ShOk sh) : okS sh := (sh_ok h.err).1
theorem ShOk.dist {sh : List (Int × Int)} (h : ShOk sh) : Dist (kS sh) := (sh_ok h.err).2
theorem ShOk.take {sh : List (Int × Int)} (h : ShOk sh) (m : Nat) : ShOk (sh.take m) := by
  refine ⟨?_, fun i => ?_⟩
  · rw [kS_take]
    exact ⟨h.1.1.sublist (List.take_sublist _ _), fun k hk => h.1.2 k (List.mem_of_mem_take hk)⟩
  · by_cases hi : i < (sh.take m).length
    · have hi2 : i < m := by simp at hi; omega
      have e : (sh.take m).getD i (0, 0) = sh.getD i (0, 0) := by simp only [List.getD]; rw [List.getElem?_take_of_lt hi2]
      rw [e]; exact h.2 i
    · have e : (sh.take m).getD i (0, 0) = (0, 0) := by simp only [List.getD]; rw [List.getElem?_eq_none (by omega)]; rfl
      rw [e]; decide
theorem kS_shL (l : List Int) : ∀ ks, kS (shL l ks) = ks
  | [] => rfl
  | a :: r => congrArg (a :: ·) (kS_shL l r)
theorem shL_get {l ks : List Int} {i : Nat} (h : i < ks.length) : (shL l ks).getD i (0, 0) = (ks.getD i 0, atP l (ks.getD i 0)) := by
  unfold shL; simp [List.getD, h]
theorem shL_ok (l : List Int) {ks : List Int} (h : KsOk ks) : ShOk (shL l ks) := by
  refine ⟨by rw [kS_shL]; exact h, fun i => ?_⟩
  by_cases hi : i < ks.length
  · rw [shL_get hi]; have := md_bd (evP l (ks.getD i 0)); unfold atP; simp only; omega
  · have e : (shL l ks).getD i (0, 0) = (0, 0) := by simp only [List.getD]; rw [List.getElem?_eq_none (by rw [shL_len]; omega)]; rfl
    rw [e]; decide
/-- The polynomial with so many coefficients that goes through the first shares is the one that is restored. -/
theorem rest_is {sh : List (Int × Int)} {m : Nat} {P : List Int} (hd : Dist (kS sh)) (hm : 1 ≤ m) (hl : m ≤ sh.length) (hP : P.length = m) (hb : nbL P) (h : ∀ i, i < m → atP P (sh.getD i (0, 0)).1 = (sh.getD i (0, 0)).2) : restL m sh = P := by
  have hdt : Dist (kS (sh.take m)) := by rw [kS_take]; exact hd.take m
  have htl : (kS (sh.take m)).length = m := by rw [kS_len]; simp; omega
  refine newton_eq hdt (by omega) (by omega) (fun i _ => nb_lt (hb i)) fun t ht => ?_
  have htm : t < m := by omega
  have e : (sh.take m).getD t (0, 0) = sh.getD t (0, 0) := by simp only [List.getD]; rw [List.getElem?_take_of_lt htm]
  rw [kS_get, vS_get, e, ← h t htm]
  exact (atP_cg _ _).symm
theorem agree_inv {sh : List (Int × Int)} {m : Nat} (hd : Dist (kS sh)) (hm : 1 ≤ m) (hl : m ≤ sh.length) (h : agreeP m sh) : ∀ i, i < sh.length → atP (restL m sh) (sh.getD i (0, 0)).1 = (sh.getD i (0, 0)).2 :=
  (off_nil _).1 ((agree_many hd hm hl).1 h)
theorem agree_of {sh : List (Int × Int)} {m : Nat} {P : List Int} (hs : okS sh) (hd : Dist (kS sh)) (hm : 1 ≤ m) (hP : P.length = m) (hb : nbL P) (h : ∀ i, i < sh.length → atP P (sh.getD i (0, 0)).1 = (sh.getD i (0, 0)).2) : agreeP m sh := by
  by_cases hl : m ≤ sh.length
  · rw [agree_many hd hm hl, rest_is hd hm hl hP hb fun i hi => h i (by omega)]
    exact (off_nil _).2 h
  · exact agree_few hs hd (by omega)
theorem shL_at {l ks : List Int} {i : Nat} (h : i < (shL l ks).length) : atP l ((shL l ks).getD i (0, 0)).1 = ((shL l ks).getD i (0, 0)).2 := by
  rw [shL_len] at h
  rw [shL_get h]
theorem shL_rest {l ks : List Int} (hk : KsOk ks) (hb : nbL l) (h1 : 1 ≤ l.length) (hl : l.length ≤ ks.length) : restL l.length (shL l ks) = l :=
  rest_is (shL_ok l hk).dist h1 (by rw [shL_len]; exact hl) rfl hb fun i hi => shL_at (by rw [shL_len]; omega)
theorem shL_agree {l ks : List Int} (hk : KsOk ks) (hb : nbL l) (h1 : 1 ≤ l.length) : agreeP l.length (shL l ks) :=
  agree_of (shL_ok l hk).ok (shL_ok l hk).dist h1 rfl hb fun i hi => shL_at hi
theorem shL_whole {l ks : List Int} (hk : KsOk ks) (hb : nbL l) (h1 : 1 ≤ l.length ∧ l.length ≤ 8) (hl : l.length ≤ ks.length) : whole (l.length : Int) (shL l ks) = 0 := by
  unfold whole
  rw [(shL_ok l hk).chk (by omega), if_neg (by decide), if_neg (by rw [shL_len]; omega), Int.toNat_natCast, if_pos (shL_agree hk hb h1.1)]
theorem shL_zero {l ks : List Int} (hk : KsOk ks) (hb : nbL l) (h1 : 1 ≤ l.length) (hl : l.length ≤ ks.length) : lgS (shL l ks) l.length 0 = l.getD 0 0 := by
  rw [lgS_zero (shL_ok l hk).dist h1 (by rw [shL_len]; exact hl), shL_rest hk hb h1 hl]
theorem deal_get {l : List Int} {n k : Nat} (h : k < n) : (dealL l n).getD k (0, 0) = ((k : Int) + 1, atP l ((k : Int) + 1)) := by
  unfold dealL; simp [List.getD, h]
theorem deal_len (l : List Int) (n : Nat) : (dealL l n).length = n := by simp [dealL]
theorem pol_good {l : List Int} (hb : nbL l) (h : 1 ≤ l.length ∧ l.length ≤ 8) : polErr l = 0 := pol_ok (by omega) h.2 fun i _ => hb i
end Go.Pv
