/-
  What this text proves: the clash that a ring gives has no offset in common, names each position once in ascending order, and has no more positions than any other. It speaks of no program.
-/
import Derived.Test.YtbcbfeeidmggpaaNch
import Derived.Test.YtbcbfeeidmggpaaO
import Derived.Test.YtbcbfeeidmggpaaMg
set_option linter.unusedVariables false
set_option linter.unusedSimpArgs false

namespace Go.Pv
theorem excl_back {off s f t : Int} (hs : 2 * off + 1 < s) (hoff : 0 ≤ off) {p : Int} (ht : 0 ≤ t ∧ t < s) (h : ((p - off) % s - f) % s ≤ t ∧ t < ((p - off) % s - f) % s + (s - (2 * off + 1))) :
    ¬ fits1 off s ((f + (2 * off + 1) + t) % s) p := by
  have hs1 : s ≠ 0 := by omega
  have b1 := Int.emod_nonneg (f + (2 * off + 1) + t) hs1
  have b2 := Int.emod_lt_of_pos (f + (2 * off + 1) + t) (show 0 < s by omega)
  rw [fits1_iff (by omega) ⟨b1, b2⟩]
  have b3 := Int.emod_nonneg (p - off) hs1
  have b4 := Int.emod_lt_of_pos (p - off) (show 0 < s by omega)
  have b5 := Int.emod_nonneg ((p - off) % s - f) hs1
  have b6 := Int.emod_lt_of_pos ((p - off) % s - f) (show 0 < s by omega)
  have c1 := Int.mul_ediv_add_emod (f + (2 * off + 1) + t) s
  have c2 := Int.mul_ediv_add_emod ((p - off) % s - f) s
  generalize (p - off) % s = q at *
  generalize (f + (2 * off + 1) + t) % s = o at *
  generalize (q - f) % s = a at *
  generalize (f + (2 * off + 1) + t) / s = d1 at *
  generalize (q - f) / s = d2 at *
  have c3 : o - q = (2 * off + 1) + t - a - s * (d1 + d2) := by rw [Int.mul_add]; omega
  have c4 : d1 + d2 = -1 ∨ d1 + d2 = 0 ∨ d1 + d2 = 1 ∨ d1 + d2 = 2 := by
    generalize d1 + d2 = d at c3
    by_cases e1 : d ≤ -2
    · have : s * d ≤ s * (-2) := Int.mul_le_mul_of_nonneg_left e1 (by omega)
      omega
    · by_cases e2 : 3 ≤ d
      · have : s * 3 ≤ s * d := Int.mul_le_mul_of_nonneg_left e2 (by omega)
        omega
      · omega
  rcases c4 with e | e | e | e <;> rw [e] at c3 <;> omega
theorem ringL_get {off s : Int} {xs : List Int} (hs : 2 * off + 1 < s) {i : Nat} (hi : i < xs.length) : (ringL off s xs).getD i (0, 0) = ((xs.getD i 0 - off) % s, 2 * off + 1) := by
  have e : (ringL off s xs).getD i (0, 0) = arcP (xs.getD i 0) off s := by simp [ringL, hi]
  rw [e, arcP_some (by omega)]
theorem away_ring {off s st : Int} {xs : List Int} (hs : 2 * off + 1 < s) {i : Nat} (hi : i < xs.length) : awayOf (ringL off s xs) s st i = ((xs.getD i 0 - off) % s - st) % s := by
  unfold awayOf; rw [ringL_get hs hi]
/-- No offset is allowed by all of these positions. -/
def NoCommon (off s : Int) (xs : List Int) (H : List Nat) : Prop := (∀ i ∈ H, i < xs.length) ∧ ∀ o, 0 ≤ o → o < s → ∃ i ∈ H, ¬ fits1 off s o (xs.getD i 0)
theorem covers_of {off s st : Int} {xs : List Int} {H : List Nat} (hs : 2 * off + 1 < s) (hoff : 0 ≤ off) (h : NoCommon off s xs H) : Covers (ringL off s xs) s st (s - (2 * off + 1)) H := by
  intro t h1 h2
  obtain ⟨i, hi, hf⟩ := h.2 ((st + (2 * off + 1) + t) % s) (Int.emod_nonneg _ (by omega)) (Int.emod_lt_of_pos _ (by omega))
  have hil := h.1 i hi
  have h3 := (excl hs hoff ⟨h1, h2⟩).1 hf
  exact ⟨i, hi, by unfold ringL; rw [List.length_map]; exact hil, by rw [away_ring hs hil]; exact h3.1, by rw [away_ring hs hil]; exact h3.2⟩
theorem none_of {off s st r : Int} {xs : List Int} {l : List Int} (hs : 2 * off + 1 < s) (hoff : 0 ≤ off) (h : ChainOk (ringL off s xs) s st (s - (2 * off + 1)) l r) (hr : s ≤ r) : (∀ x ∈ l, 0 ≤ x ∧ x < xs.length) ∧ ∀ o, 0 ≤ o → o < s → ∃ j : Nat, (j : Int) ∈ l ∧ j < xs.length ∧ ¬ fits1 off s o (xs.getD j 0) := by
  have hin : ∀ j : Nat, (j : Int) ∈ l → j < xs.length := by
    intro j hj
    obtain ⟨j', e, h2, -⟩ := h.2.1 _ hj
    unfold ringL at h2
    rw [List.length_map] at h2
    omega
  refine ⟨fun x hx => ?_, fun o h1 h2 => ?_⟩
  · obtain ⟨j, e, -, -⟩ := h.2.1 x hx
    subst e
    have := hin j hx
    omega
  · have b1 := Int.emod_nonneg (o - st - (2 * off + 1)) (show s ≠ 0 by omega)
    have b2 := Int.emod_lt_of_pos (o - st - (2 * off + 1)) (show 0 < s by omega)
    obtain ⟨j, hj, h3, h4⟩ := h.2.2 ((o - st - (2 * off + 1)) % s) b1 (by omega)
    have hjl := hin j hj
    refine ⟨j, hj, hjl, ?_⟩
    rw [away_ring hs hjl] at h3 h4
    have h5 := excl_back hs hoff ⟨b1, b2⟩ ⟨h3, h4⟩
    rwa [show (st + (2 * off + 1) + (o - st - (2 * off + 1)) % s) % s = o from by
      rw [Int.add_emod_emod]
      rw [show st + (2 * off + 1) + (o - st - (2 * off + 1)) = o by omega]
      exact Int.emod_eq_of_lt h1 h2] at h5
end Go.Pv
namespace Go.Proofs.Ytbcbfeeidmggpaa
open Go.Pv Go.RowKit Go.Shelf
theorem mem_distTo {xs : List (Int × Int)} {j : Nat} (h : ∀ i, i < j → xs.getD i (0, 0) ≠ xs.getD j (0, 0)) : ∀ {k : Nat}, j < k → (j : Int) ∈ distTo xs k
  | 0, hk => by omega
  | k + 1, hk => by
    simp only [distTo]
    by_cases e : j = k
    · subst e
      rw [if_pos h]; simp
    · have ih := mem_distTo h (show j < k by omega)
      split
      · exact List.mem_append_left _ ih
      · exact ih
theorem first_of (xs : List (Int × Int)) : ∀ g : Nat, ∃ j, j ≤ g ∧ xs.getD j (0, 0) = xs.getD g (0, 0) ∧ ∀ i, i < j → xs.getD i (0, 0) ≠ xs.getD j (0, 0) := by
  intro g
  obtain ⟨j, h1, h2⟩ := least (p := fun j => xs.getD j (0, 0) = xs.getD g (0, 0)) ⟨g, rfl⟩
  exact ⟨j, h2 g rfl, h1, fun i hi e => by have := h2 i (e.trans h1); omega⟩
theorem bestTo_le {F : Int → List Int} {es : List Int} : ∀ {k j : Nat}, j < k → (bestTo F es k).length ≤ (F (es.getD j 0)).length
  | 0, j, h => by omega
  | k + 1, j, h => by
    simp only [bestTo]
    by_cases e : j = k
    · subst e
      split
      · exact Nat.le_refl _
      · omega
    · have ih := bestTo_le (F := F) (es := es) (show j < k by omega)
      split
      · omega
      · exact ih
theorem bestTo_mem {F : Int → List Int} {es : List Int} : ∀ {k : Nat}, 0 < k → ∃ j, j < k ∧ bestTo F es k = F (es.getD j 0)
  | 0, h => by omega
  | k + 1, _ => by
    simp only [bestTo]
    split
    · exact ⟨k, by omega, rfl⟩
    · obtain ⟨j, h1, h2⟩ := bestTo_mem (F := F) (es := es) (show 0 < k by omega)
      exact ⟨j, by omega, h2⟩
theorem sortL_mem {xs : List Int} {x : Int} : x ∈ sortL xs ↔ x ∈ xs := (List.mergeSort_perm xs _).mem_iff
theorem sortL_lt {xs : List Int} (h : xs.Nodup) : (sortL xs).Pairwise (· < ·) := by
  have h1 : (sortL xs).Pairwise (fun a b => decide (a ≤ b) = true) := List.pairwise_mergeSort (fun a b c h1 h2 => by simp at *; omega) (fun a b => by simp; omega) xs
  have h2 : (sortL xs).Nodup := (List.mergeSort_perm xs _).nodup_iff.2 h
  exact (h1.and h2).imp fun {a b} hab => by have := hab.1; have := hab.2; simp at *; omega
theorem chainOf_eq {off s : Int} {xs : List Int} (hs : 2 * off + 1 < s) {g : Nat} (hg : g < xs.length) : chainOf (ringL off s xs) s g = chainF (ringL off s xs) s ((ringL off s xs).getD g (0, 0)).1 (s - (2 * off + 1)) g 1000 [(g : Int)] (s - (2 * off + 1)) := by
  unfold chainOf
  rw [show ((ringL off s xs).getD g (0, 0)).2 = 2 * off + 1 by rw [ringL_get hs hg]]
theorem chain_some {off s : Int} {xs : List Int} (hs : 2 * off + 1 < s) (hoff : 0 ≤ off) (hl : xs.length ≤ 1000) (hn : NoCommon off s xs (List.range xs.length)) {g : Nat} (hg : g < xs.length) : ∃ l, chainOf (ringL off s xs) s g = some l := by
  rw [chainOf_eq hs hg]
  refine chainF_some (H := List.range xs.length) (covers_of hs hoff hn) (by omega) (Int.le_refl _) ?_
  have := List.length_filter_le (fun i => decide (s - (2 * off + 1) < awayOf (ringL off s xs) s ((ringL off s xs).getD g (0, 0)).1 i + (s - (2 * off + 1)))) (List.range xs.length)
  unfold left
  rw [List.length_range] at this
  omega
theorem clash_best {off s : Int} {xs : List Int} (hoff : 0 ≤ off) (hs1 : 1 ≤ s) (hl : 1 ≤ xs.length ∧ xs.length ≤ 1000) (hno : offL off s xs = []) :
    (∀ j, j < (ringL off s xs).length → ∃ l, chainOf (ringL off s xs) s j = some l) ∧ (clashL (ringL off s xs) s).length ≠ 0 ∧ (∀ x ∈ clashL (ringL off s xs) s, 0 ≤ x ∧ x < xs.length) ∧ (clashL (ringL off s xs) s).Pairwise (· < ·) ∧
    offL off s (pickL xs (clashL (ringL off s xs) s)) = [] ∧ ∀ H : List Nat, NoCommon off s xs H → (clashL (ringL off s xs) s).length ≤ H.length := by
  have hlen : (ringL off s xs).length = xs.length := List.length_map ..
  have hall : ∀ o, 0 ≤ o → o < s → ¬ fitsL off s o xs := fun o h1 h2 h3 => by
    have := (mem_offL (off := off) (xs := xs) (by omega)).2 ⟨h1, h2, h3⟩
    rw [hno] at this; cases this
  have hs : 2 * off + 1 < s := by
    rcases Int.lt_or_le (2 * off + 1) s with h | h
    · exact h
    · exact absurd (fun j _ => fits_small ⟨hs1, h⟩) (hall 0 (by omega) (by omega))
  have hn : NoCommon off s xs (List.range xs.length) := by
    refine ⟨fun i hi => List.mem_range.1 hi, fun o h1 h2 => ?_⟩
    rcases Classical.em (∃ i ∈ List.range xs.length, ¬ fits1 off s o (xs.getD i 0)) with h | h
    · exact h
    · refine absurd (fun j hj => ?_) (hall o h1 h2)
      rcases Classical.em (fits1 off s o (xs.getD j 0)) with h3 | h3
      · exact h3
      · exact absurd ⟨j, List.mem_range.2 hj, h3⟩ h
  have hsome : ∀ j, j < (ringL off s xs).length → ∃ l, chainOf (ringL off s xs) s j = some l := fun j hj => chain_some hs hoff hl.2 hn (by omega)
  obtain ⟨es, hes⟩ : ∃ es, es = distTo (ringL off s xs) (ringL off s xs).length := ⟨_, rfl⟩
  have h0es : ((0 : Nat) : Int) ∈ es := by rw [hes]; exact mem_distTo (fun i hi => by omega) (by omega)
  obtain ⟨C, hC⟩ : ∃ C, C = clashL (ringL off s xs) s := ⟨_, rfl⟩
  have hC2 : C = bestTo (chainS (ringL off s xs) s) es es.length := by rw [hC, hes]; rfl
  rw [← hC]
  obtain ⟨j, hj, hj2⟩ := bestTo_mem (F := chainS (ringL off s xs) s) (es := es) (List.length_pos_of_mem h0es)
  obtain ⟨i, hi, hi2⟩ := distTo_in (ringL off s xs) (ringL off s xs).length j (by rw [← hes]; exact hj)
  rw [← hes] at hi2
  obtain ⟨l', hl'⟩ := hsome i hi
  have hCl : C = sortL l' := by
    rw [hC2, hj2, hi2]
    unfold chainS
    rw [Int.toNat_natCast, hl']; rfl
  have hl2 := hl'
  rw [chainOf_eq hs (by omega)] at hl2
  obtain ⟨r, hr, hok⟩ := chain_ok (H := List.range xs.length) hs1 (by omega) hi (covers_of hs hoff hn) hl2
  obtain ⟨n1, n2⟩ := none_of hs hoff hok hr
  have hmem : ∀ x, x ∈ C ↔ x ∈ l' := fun x => by rw [hCl]; exact sortL_mem
  refine ⟨hsome, ?_, fun x hx => n1 x ((hmem x).1 hx), by rw [hCl]; exact sortL_lt hok.1, ?_, fun H hH => ?_⟩
  · obtain ⟨a, ha, -⟩ := n2 0 (by omega) (by omega)
    have := List.length_pos_of_mem ((hmem _).2 ha)
    omega
  · rcases hp : offL off s (pickL xs C) with _ | ⟨o, rest⟩
    · rfl
    · exfalso
      have ho : o ∈ offL off s (pickL xs C) := by rw [hp]; simp
      obtain ⟨h1, h2, h3⟩ := (mem_offL (by omega)).1 ho
      obtain ⟨a, ha, -, hf⟩ := n2 o h1 h2
      obtain ⟨b, hb, hb2⟩ := getD_mem ((hmem _).2 ha)
      have h4 := h3 b (by rw [pickL_len]; exact hb)
      rw [pickL_get _ _ _ hb, hb2, Int.toNat_natCast] at h4
      exact hf h4
  · obtain ⟨g, hg, -⟩ := hH.2 0 (by omega) (by omega)
    have hgl := hH.1 g hg
    obtain ⟨k, hk1, hk2, hk3⟩ := first_of (ringL off s xs) g
    have hkes : (k : Int) ∈ es := by rw [hes]; exact mem_distTo hk3 (by omega)
    obtain ⟨b, hb, hb2⟩ := getD_mem hkes
    have h1 := bestTo_le (F := chainS (ringL off s xs) s) (es := es) hb
    rw [← hC2, hb2] at h1
    obtain ⟨l3, hl3⟩ := hsome k (by omega)
    have h2 : (chainS (ringL off s xs) s (k : Int)).length = l3.length := by
      unfold chainS
      rw [Int.toNat_natCast, hl3]
      exact sortL_len l3
    rw [chainOf_eq hs (by omega), hk2] at hl3
    have h3 := chain_bound hs1 (by omega) (covers_of hs hoff hH) hg hl3
    omega
end Go.Proofs.Ytbcbfeeidmggpaa
