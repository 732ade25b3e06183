/-
  What this text proves: shares that all but a few lie on a polynomial have just one. Conditions: as stated.
-/
import Derived.Test.YtngoipmdhliigaaVKw
set_option linter.unusedVariables false
set_option linter.unusedSimpArgs false
namespace Go.Pv
open Go.RowKit
theorem found_on {need k : Nat} {sh c : List (Int × Int)} (h1 : 1 ≤ need) (hk : need ≤ k) (hs : okS sh) (hd : Dist (kS sh)) (h : FoundC need k sh c) : ∀ x ∈ c, atP (nwS need c) x.1 = x.2 := by
  obtain ⟨⟨hl, hsub⟩, hag⟩ := h
  have hdc := Dist.sub hsub hd
  have hdt : Dist (kS (c.take need)) := by rw [kS_take]; exact hdc.take need
  have hlt : (kS (c.take need)).length = need := by rw [kS_len]; simp; omega
  unfold agreeP at hag
  rw [Nat.min_eq_left (by omega), off_nil] at hag
  intro x hx
  obtain ⟨i, hi, rfl⟩ := List.getElem_of_mem hx
  have e : c.getD i (0, 0) = c[i] := by simp [hi]
  have := hag i hi
  rw [show lgS c need (c.getD i (0, 0)).1 = atP (nwS need c) (c.getD i (0, 0)).1 from lag_newton hdt (by omega) _, e] at this
  exact this
theorem filter_split {α : Type} (p : α → Bool) : ∀ l : List α, l.length = (l.filter p).length + (l.filter fun x => !p x).length
  | [] => rfl
  | a :: r => by
    have ih := filter_split p r
    cases h : p a <;> simp [List.filter_cons, h] <;> omega
/-- What two choices share. -/
theorem both_len {sh c d : List (Int × Int)} {n m : Nat} (hc : c.Sublist sh) (hd : d.Sublist sh) (h1 : c.length + m = sh.length) (h2 : d.length + m = sh.length) (h : n + 2 * m ≤ sh.length) : n ≤ (c.filter fun x => decide (x ∈ d)).length := by
  have e1 := filter_split (fun x => decide (x ∈ d)) c
  have e2 := filter_split (fun x => decide (x ∈ d)) sh
  have s1 := (hd.filter (fun x => decide (x ∈ d))).length_le
  have s2 := (hc.filter (fun x => !decide (x ∈ d))).length_le
  have e3 : d.filter (fun x => decide (x ∈ d)) = d := List.filter_eq_self.2 fun x hx => by simpa using hx
  rw [e3] at s1
  omega
theorem found_uniq {need most : Nat} {sh c d : List (Int × Int)} (h1 : 1 ≤ need) (hs : okS sh) (hd : Dist (kS sh)) (hl : need + 2 * most ≤ sh.length) (hc : FoundC need (sh.length - most) sh c) (hc2 : FoundC need (sh.length - most) sh d) : nwS need c = nwS need d := by
  have o1 := found_on h1 (by omega) hs hd hc
  have o2 := found_on h1 (by omega) hs hd hc2
  have hb := both_len (n := need) (m := most) hc.1.2 hc2.1.2 (by have := hc.1.1; omega) (by have := hc2.1.1; omega) hl
  obtain ⟨b, hbd⟩ : ∃ b, b = (c.filter fun x => decide (x ∈ d)).take need := ⟨_, rfl⟩
  have hbl : b.length = need := by rw [hbd]; simp; omega
  have hbs : b.Sublist sh := by rw [hbd]; exact ((List.take_sublist _ _).trans List.filter_sublist).trans hc.1.2
  have hbm : ∀ x ∈ b, x ∈ c ∧ x ∈ d := by
    intro x hx
    rw [hbd] at hx
    have := List.mem_of_mem_take hx
    simpa using this
  have hdb := Dist.sub hbs hd
  have l1 : (nwS need c).length = need := by unfold nwS; rw [newton_len _ _ (by rw [kS_len]; simp; have := hc.1.1; omega), kS_len]; simp; have := hc.1.1; omega
  have l2 : (nwS need d).length = need := by unfold nwS; rw [newton_len _ _ (by rw [kS_len]; simp; have := hc2.1.1; omega), kS_len]; simp; have := hc2.1.1; omega
  have hn1 : nbL (nwS need c) := by unfold nwS newtonL; exact nsm_nb _ _ _
  have hn2 : nbL (nwS need d) := by unfold nwS newtonL; exact nsm_nb _ _ _
  refine poly_eq (xs := kS b) (by omega) (by rw [kS_len]; omega) hdb ?_ ?_ ?_
  · intro i hi
    rw [kS_len] at hi
    rw [kS_get]
    have e : b.getD i (0, 0) = b[i] := by simp [hi]
    rw [e]
    have hm := hbm _ (List.getElem_mem hi)
    have a1 := o1 _ hm.1
    have a2 := o2 _ hm.2
    refine (show Cg (atP (nwS need c) b[i].1) (evP (nwS need c) b[i].1) from Cg.md _).symm.trans ?_
    rw [a1, ← a2]
    exact Cg.md _
  · intro i _; have := hn1 i; unfold nb at this; omega
  · intro i _; have := hn2 i; unfold nb at this; omega
end Go.Pv
