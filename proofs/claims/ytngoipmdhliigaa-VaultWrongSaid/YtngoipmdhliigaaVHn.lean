/-
  What this text proves: if a few shares are changed, just their keepers are wrong, and the others restore the secret. It speaks of plain functions.
-/
import Derived.Test.YtngoipmdhliigaaVHj
set_option linter.unusedVariables false
set_option linter.unusedSimpArgs false
namespace Go.Pv
open Go.RowKit
/-- The shares that are off a polynomial are those of the keepers of a list. -/
def BadS (c : List Int) (S : List (Int × Int)) (D : List Int) : Prop := ∀ x ∈ S, (x.1 ∈ D → atP c x.1 ≠ x.2) ∧ (¬ x.1 ∈ D → atP c x.1 = x.2)
/-- Keepers in ascending order. -/
def ascK (D : List Int) : Nat → List Int
  | 0 => []
  | k + 1 => if (k : Int) ∈ D then ascK D k ++ [(k : Int)] else ascK D k
theorem ascK_mem {D : List Int} {k : Int} : ∀ n : Nat, k ∈ ascK D n ↔ (0 ≤ k ∧ k < n) ∧ k ∈ D
  | 0 => by simp [ascK]; omega
  | n + 1 => by
    have ih := ascK_mem (D := D) (k := k) n
    simp only [ascK]
    split
    · next h =>
      rw [List.mem_append, List.mem_singleton, ih]
      constructor
      · rintro (⟨h1, h2⟩ | rfl)
        · exact ⟨by omega, h2⟩
        · exact ⟨by omega, h⟩
      · rintro ⟨h1, h2⟩
        by_cases e : k = n
        · exact .inr e
        · exact .inl ⟨by omega, h2⟩
    · next h =>
      rw [ih]
      constructor
      · rintro ⟨h1, h2⟩; exact ⟨by omega, h2⟩
      · rintro ⟨h1, h2⟩
        have : k ≠ n := fun e => h (e ▸ h2)
        exact ⟨by omega, h2⟩
theorem ascK_len (D : List Int) : ∀ n, (ascK D n).length ≤ n
  | 0 => by simp [ascK]
  | n + 1 => by
    have := ascK_len D n
    simp only [ascK]
    split
    · simp; omega
    · omega
theorem ascK_sorted (D : List Int) : ∀ n : Nat, (ascK D n).Pairwise fun a b => a < b
  | 0 => List.Pairwise.nil
  | n + 1 => by
    have ih := ascK_sorted D n
    simp only [ascK]
    split
    · rw [List.pairwise_append]
      refine ⟨ih, List.pairwise_singleton _ _, fun a ha b hb => ?_⟩
      rw [List.mem_singleton] at hb; subst hb
      have := (ascK_mem n).1 ha
      omega
    · exact ih
theorem sort_asc {L D : List Int} (hn : L.Nodup) (hm : ∀ k, k ∈ L ↔ k ∈ D) (hD : ∀ k ∈ D, 1 ≤ k ∧ k ≤ 20) : sortL L = ascK D 21 := by
  have ht : ∀ a b c : Int, decide (a ≤ b) = true → decide (b ≤ c) = true → decide (a ≤ c) = true := fun a b c h1 h2 => by
    simp only [decide_eq_true_eq] at *; omega
  have hl : ∀ a b : Int, (decide (a ≤ b) || decide (b ≤ a)) = true := fun a b => by
    simp only [Bool.or_eq_true, decide_eq_true_eq]; omega
  have hs := ascK_sorted D 21
  have hp : L.Perm (ascK D 21) := by
    refine (List.perm_ext_iff_of_nodup hn (hs.imp fun h => Int.ne_of_lt h)).2 fun k => ?_
    rw [ascK_mem, hm]
    exact ⟨fun h => ⟨by have := hD k h; omega, h⟩, fun h => h.2⟩
  unfold sortL
  refine List.Perm.eq_of_pairwise (le := fun a b => decide (a ≤ b) = true) (fun a b _ _ h1 h2 => ?_) (List.pairwise_mergeSort ht hl L) (hs.imp fun h => ?_) ((List.mergeSort_perm _ _).trans hp)
  · simp only [decide_eq_true_eq] at h1 h2; omega
  · simp only [decide_eq_true_eq]; omega
/-- The shares of the keepers that are not in a list. -/
def goodS (S : List (Int × Int)) (D : List Int) : List (Int × Int) := S.filter fun x => decide (¬ x.1 ∈ D)
section
variable {S : List (Int × Int)} {D c : List Int}
theorem good_len (hS : ShOk S) (hD : D.Nodup) (hDS : ∀ k ∈ D, k ∈ kS S) : (goodS S D).length + D.length = S.length := by
  have h1 := filter_split (fun x : Int × Int => decide (¬ x.1 ∈ D)) S
  have h2 : (S.filter fun x => !decide (¬ x.1 ∈ D)).length = D.length := by
    have hp : ((S.filter fun x => !decide (¬ x.1 ∈ D)).map (·.1)).Perm D := by
      refine (List.perm_ext_iff_of_nodup (hS.1.1.sublist (List.filter_sublist.map _)) hD).2 fun k => ?_
      rw [List.mem_map]
      constructor
      · rintro ⟨x, hx, rfl⟩
        rw [List.mem_filter] at hx
        simpa using hx.2
      · intro hk
        have := hDS k hk
        unfold kS at this
        rw [List.mem_map] at this
        obtain ⟨x, hx, rfl⟩ := this
        exact ⟨x, by rw [List.mem_filter]; exact ⟨hx, by simpa using hk⟩, rfl⟩
    have := hp.length_eq
    rwa [List.length_map] at this
  unfold goodS
  omega
theorem good_on (hb : BadS c S D) : ∀ x ∈ goodS S D, atP c x.1 = x.2 := fun x hx => by
  unfold goodS at hx
  rw [List.mem_filter] at hx
  exact (hb x hx.1).2 (by simpa using hx.2)
theorem wrong_is {n : Nat} {e : Int} {xs : List Int} (hS : ShOk S) (hc : nbL c) (h1 : 1 ≤ c.length ∧ c.length ≤ 8) (hl : c.length + 2 * n ≤ S.length) (hn : n ≤ 3) (hD : D.Nodup) (hDn : D.length ≤ n) (hDS : ∀ k ∈ D, k ∈ kS S) (hb : BadS c S D) (hw : WrongP (c.length : Int) (n : Int) S e xs) : e = 0 ∧ xs = ascK D 21 := by
  have hgl := good_len hS hD hDS
  have hsub : ((goodS S D).take (S.length - n)).Sublist S := (List.take_sublist _ _).trans List.filter_sublist
  have hcl : ((goodS S D).take (S.length - n)).length = S.length - n := by rw [List.length_take]; omega
  have hon : ∀ x ∈ (goodS S D).take (S.length - n), atP c x.1 = x.2 := fun x hx => good_on hb x (List.mem_of_mem_take hx)
  have hcs := hS.sub hsub
  have hfo : FoundC c.length (S.length - n) S ((goodS S D).take (S.length - n)) := ⟨⟨hcl, hsub⟩, (agree_iff hcs h1.1).2 ⟨c, rfl, hc, hon⟩⟩
  have hnw : nwS c.length ((goodS S D).take (S.length - n)) = c := rest_mem hcs h1.1 (by omega) rfl hc hon
  unfold WrongP at hw
  rcases hw with ⟨a, _⟩ | ⟨_, hw⟩
  · exact absurd (hS.chk (by omega)) a
  rcases hw with ⟨a, _⟩ | ⟨_, hw⟩
  · exact absurd ⟨by omega, by omega⟩ a
  rcases hw with ⟨a, _⟩ | ⟨_, hw⟩
  · omega
  rw [Int.toNat_natCast, Int.toNat_natCast] at hw
  rcases hw with ⟨a, _⟩ | ⟨d, hd, rfl, rfl⟩
  · exact absurd hfo (a _)
  refine ⟨rfl, ?_⟩
  rw [found_uniq (need := c.length) (most := n) h1.1 hS.ok hS.dist hl hd hfo, hnw, off_filter _ _ _ (Nat.le_refl _), List.take_length]
  refine sort_asc (hS.1.1.sublist (List.filter_sublist.map _)) (fun k => ?_) fun k hk => hS.1.2 k (hDS k hk)
  rw [List.mem_map]
  constructor
  · rintro ⟨x, hx, rfl⟩
    rw [List.mem_filter] at hx
    have h2 : atP c x.1 ≠ x.2 := by simpa using hx.2
    exact Classical.byContradiction fun h3 => h2 ((hb x hx.1).2 h3)
  · intro hk
    have := hDS k hk
    unfold kS at this
    rw [List.mem_map] at this
    obtain ⟨x, hx, rfl⟩ := this
    exact ⟨x, by rw [List.mem_filter]; exact ⟨hx, by simpa using (hb x hx).1 hk⟩, rfl⟩
theorem good_secret {n : Nat} (hS : ShOk S) (hc : nbL c) (h1 : 1 ≤ c.length ∧ c.length ≤ 8) (hl : c.length + n ≤ S.length) (hD : D.Nodup) (hDn : D.length ≤ n) (hDS : ∀ k ∈ D, k ∈ kS S) (hb : BadS c S D) : whole (c.length : Int) (goodS S D) = 0 ∧ lgS (goodS S D) c.length 0 = c.getD 0 0 := by
  have hgl := good_len hS hD hDS
  have hg := hS.sub (c := goodS S D) List.filter_sublist
  have ha : agreeP c.length (goodS S D) := (agree_iff hg h1.1).2 ⟨c, rfl, hc, good_on hb⟩
  refine ⟨?_, ?_⟩
  · unfold whole
    rw [hg.chk (by omega), if_neg (by decide), if_neg (by omega), Int.toNat_natCast, if_pos ha]
  · rw [lgS_zero hg.dist h1.1 (by omega), rest_mem hg h1.1 (by omega) rfl hc (good_on hb)]
/-- One share is changed. -/
theorem bad_set {i : Nat} {v : Int} (hS : ShOk S) (hb : BadS c S D) (hi : i < S.length) (hk : ¬ (S.getD i (0, 0)).1 ∈ D) (hv : v ≠ (S.getD i (0, 0)).2) : BadS c (S.set i ((S.getD i (0, 0)).1, v)) (D ++ [(S.getD i (0, 0)).1]) := by
  have e : S.getD i (0, 0) = S[i] := by simp [hi]
  have hnd := hS.1.1
  rw [e] at hk hv ⊢
  have hold := (hb _ (List.getElem_mem hi)).2 hk
  refine mem_iff_get.2 fun j hj => ?_
  rw [List.length_set] at hj
  by_cases hji : i = j
  · subst hji
    have e2 : (S.set i (S[i].1, v)).getD i (0, 0) = (S[i].1, v) := by simp [List.getD, hi]
    rw [e2]
    refine ⟨fun _ h2 => ?_, fun h2 => absurd (by simp) h2⟩
    exact hv (h2.symm.trans hold)
  · have e2 : (S.set i (S[i].1, v)).getD j (0, 0) = S[j] := by simp [List.getD, List.getElem?_set, hji, hj]
    rw [e2]
    have hne : S[j].1 ≠ S[i].1 := by
      have h3 := List.nodup_iff_pairwise_ne.1 hnd
      rw [List.pairwise_iff_getElem] at h3
      have h4 := fun a b ha hb hab => h3 a b (by rw [kS_len]; exact ha) (by rw [kS_len]; exact hb) hab
      unfold kS at h4
      simp only [List.getElem_map] at h4
      rcases Nat.lt_or_gt_of_ne hji with h5 | h5
      · exact fun h6 => h4 i j hi hj h5 h6.symm
      · exact h4 j i hj hi h5
    have h7 := hb _ (List.getElem_mem hj)
    simp only [List.mem_append, List.mem_singleton]
    exact ⟨fun h8 => h7.1 (h8.resolve_right hne), fun h8 => h7.2 fun h9 => h8 (.inl h9)⟩
end
end Go.Pv
