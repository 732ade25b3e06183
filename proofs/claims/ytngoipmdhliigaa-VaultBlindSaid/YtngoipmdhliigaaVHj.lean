/-
  What this text proves: in which order shares stand does not matter for whether they agree, what they restore, how many polynomials there are and which are wrong. It speaks of plain functions.
-/
import Derived.Test.YtngoipmdhliigaaVHe
set_option linter.unusedVariables false
set_option linter.unusedSimpArgs false
namespace Go.Pv
open Go.RowKit
theorem evP_pad (c : List Int) (x : Int) : ∀ k, evP (c ++ List.replicate k 0) x = evP c x
  | 0 => by simp
  | k + 1 => by
    rw [List.replicate_succ', ← List.append_assoc, evP_app, evP_pad c x k]; simp
theorem pad_nb {c : List Int} (h : nbL c) (k : Nat) : nbL (c ++ List.replicate k 0) := fun i => by
  simp only [List.getD, List.getElem?_append]
  split
  · exact h i
  · simp only [List.getElem?_replicate]
    split <;> (unfold nb; decide)
theorem mem_iff_get {sh : List (Int × Int)} {p : Int × Int → Prop} : (∀ x ∈ sh, p x) ↔ ∀ i, i < sh.length → p (sh.getD i (0, 0)) := by
  constructor
  · intro h i hi
    have e : sh.getD i (0, 0) = sh[i] := by simp [hi]
    rw [e]; exact h _ (List.getElem_mem hi)
  · intro h x hx
    obtain ⟨i, hi, rfl⟩ := List.getElem_of_mem hx
    have e : sh.getD i (0, 0) = sh[i] := by simp [hi]
    rw [← e]; exact h i hi
/-- Shares agree just if a polynomial with so many coefficients goes through all of them. -/
theorem agree_iff {sh : List (Int × Int)} {m : Nat} (h : ShOk sh) (hm : 1 ≤ m) : agreeP m sh ↔ ∃ P : List Int, P.length = m ∧ nbL P ∧ ∀ x ∈ sh, atP P x.1 = x.2 := by
  constructor
  · intro ha
    by_cases hl : m ≤ sh.length
    · exact ⟨restL m sh, rest_len hm hl, rest_nb _ _, mem_iff_get.2 (agree_inv h.dist hm hl ha)⟩
    · have hn : (newtonL (kS sh) (vS sh)).length = sh.length := by
        by_cases h0 : sh.length = 0
        · have : sh = [] := List.eq_nil_of_length_eq_zero h0
          subst this; rfl
        · rw [newton_len _ _ (by rw [kS_len]; omega), kS_len]
      refine ⟨newtonL (kS sh) (vS sh) ++ List.replicate (m - sh.length) 0, by simp [hn]; omega, pad_nb (by unfold newtonL; exact nsm_nb _ _ _) _, mem_iff_get.2 fun i hi => ?_⟩
      have e := newton_ok (vs := vS sh) h.dist (t := i) (by rw [kS_len]; exact hi)
      rw [kS_get, vS_get] at e
      have hb := h.2 i
      unfold atP
      rw [evP_pad]
      exact ((Cg.md _).trans e).eq (md_bd _) (by omega)
  · rintro ⟨P, hP, hb, hx⟩
    exact agree_of h.ok h.dist hm hP hb (mem_iff_get.1 hx)
theorem rest_mem {sh : List (Int × Int)} {m : Nat} {P : List Int} (h : ShOk sh) (hm : 1 ≤ m) (hl : m ≤ sh.length) (hP : P.length = m) (hb : nbL P) (hx : ∀ x ∈ sh, atP P x.1 = x.2) : restL m sh = P :=
  rest_is h.dist hm hl hP hb fun i hi => mem_iff_get.1 hx i (by omega)
theorem ShOk.nodup {sh : List (Int × Int)} (h : ShOk sh) : sh.Nodup :=
  List.Pairwise.of_map (fun x => x.1) (fun a b hab e => hab (congrArg Prod.fst e)) h.1.1
theorem ShOk.sub {sh c : List (Int × Int)} (h : ShOk sh) (hs : c.Sublist sh) : ShOk c := by
  refine ⟨⟨h.1.1.sublist (hs.map _), fun k hk => h.1.2 k ((hs.map _).subset hk)⟩, fun i => ?_⟩
  by_cases hi : i < c.length
  · have e : c.getD i (0, 0) = c[i] := by simp [hi]
    have hm := hs.subset (List.getElem_mem hi)
    have := mem_iff_get (sh := sh) (p := fun x => 0 ≤ x.2 ∧ x.2 ≤ 250) |>.2 (fun j _ => h.2 j) _ hm
    rw [e]; exact this
  · have e : c.getD i (0, 0) = (0, 0) := by simp only [List.getD]; rw [List.getElem?_eq_none (by omega)]; rfl
    rw [e]; decide
/-- The same shares, perhaps in another order. -/
def Same (s t : List (Int × Int)) : Prop := s.Perm t
section
variable {s t : List (Int × Int)} {m : Nat}
theorem ShOk.perm (h : ShOk s) (e : s.Perm t) : ShOk t := by
  refine ⟨⟨(e.map _).nodup_iff.1 h.1.1, fun k hk => h.1.2 k ((e.map _).mem_iff.2 hk)⟩, fun i => ?_⟩
  by_cases hi : i < t.length
  · have e2 : t.getD i (0, 0) = t[i] := by simp [hi]
    have hm := e.mem_iff.2 (List.getElem_mem hi)
    have := mem_iff_get (sh := s) (p := fun x => 0 ≤ x.2 ∧ x.2 ≤ 250) |>.2 (fun j _ => h.2 j) _ hm
    rw [e2]; exact this
  · have e2 : t.getD i (0, 0) = (0, 0) := by simp only [List.getD]; rw [List.getElem?_eq_none (by omega)]; rfl
    rw [e2]; decide
theorem agree_ord (h : ShOk s) (e : s.Perm t) (hm : 1 ≤ m) : agreeP m s ↔ agreeP m t := by
  rw [agree_iff h hm, agree_iff (h.perm e) hm]
  constructor
  · rintro ⟨P, a, b, c⟩; exact ⟨P, a, b, fun x hx => c x (e.mem_iff.2 hx)⟩
  · rintro ⟨P, a, b, c⟩; exact ⟨P, a, b, fun x hx => c x (e.mem_iff.1 hx)⟩
theorem rest_ord (h : ShOk s) (e : s.Perm t) (hm : 1 ≤ m) (hl : m ≤ s.length) (ha : agreeP m s) : restL m s = restL m t := by
  obtain ⟨P, a, b, c⟩ := (agree_iff h hm).1 ha
  rw [rest_mem h hm hl a b c, rest_mem (h.perm e) hm (by rw [← e.length_eq]; exact hl) a b fun x hx => c x (e.mem_iff.2 hx)]
theorem whole_ord (h : ShOk s) (e : s.Perm t) {n : Int} (hn : 1 ≤ n ∧ n ≤ 8) : whole n s = whole n t := by
  unfold whole
  rw [h.chk hn, (h.perm e).chk hn, e.length_eq]
  have := agree_ord (m := n.toNat) h e (by omega)
  by_cases ha : agreeP n.toNat s
  · rw [if_pos ha, if_pos (this.1 ha)]
  · rw [if_neg ha, if_neg fun hh => ha (this.2 hh)]
theorem cnt_ord (h : ShOk s) (e : s.Perm t) (hm : 1 ≤ m) (x : Int) : cntN m s x = cntN m t x := by
  unfold cntN
  rw [e.length_eq]
  by_cases hl : t.length < m
  · rw [if_pos hl, if_pos hl]
  · rw [if_neg hl, if_neg hl]
    have hls : m ≤ s.length := by rw [e.length_eq]; omega
    have hag := agree_ord (m := m) h e hm
    by_cases ha : agreeP m s
    · rw [lgS_zero h.dist hm hls, lgS_zero (h.perm e).dist hm (by omega), rest_ord h e hm hls ha]
      by_cases hx : (restL m t).getD 0 0 = x
      · rw [if_pos ⟨ha, hx⟩, if_pos ⟨hag.1 ha, hx⟩]
      · rw [if_neg fun hh => hx hh.2, if_neg fun hh => hx hh.2]
    · rw [if_neg fun hh => ha hh.1, if_neg fun hh => ha (hag.2 hh.1)]
theorem off_filter (F : Int → Int) (sh : List (Int × Int)) : ∀ k, k ≤ sh.length → offTo F sh k = ((sh.take k).filter fun x => decide (F x.1 ≠ x.2)).map (·.1)
  | 0, _ => rfl
  | k + 1, h => by
    have ih := off_filter F sh k (by omega)
    have e : sh.getD k (0, 0) = sh[k] := by simp [show k < sh.length by omega]
    rw [List.take_succ_eq_append_getElem (by omega), List.filter_append, List.map_append, ← ih]
    simp only [offTo]
    rw [e]
    by_cases hf : F sh[k].1 = sh[k].2
    · rw [if_pos hf]; simp [hf]
    · rw [if_neg hf]; simp [hf]
theorem sort_perm {xs ys : List Int} (e : xs.Perm ys) : sortL xs = sortL ys := by
  unfold sortL
  have ht : ∀ a b c : Int, decide (a ≤ b) = true → decide (b ≤ c) = true → decide (a ≤ c) = true := fun a b c h1 h2 => by
    simp only [decide_eq_true_eq] at *; omega
  have hl : ∀ a b : Int, (decide (a ≤ b) || decide (b ≤ a)) = true := fun a b => by
    simp only [Bool.or_eq_true, decide_eq_true_eq]; omega
  refine List.Perm.eq_of_pairwise (le := fun a b => decide (a ≤ b) = true) (fun a b _ _ h1 h2 => ?_) (List.pairwise_mergeSort ht hl xs) (List.pairwise_mergeSort ht hl ys) ((List.mergeSort_perm _ _).trans (e.trans (List.mergeSort_perm _ _).symm))
  simp only [decide_eq_true_eq] at h1 h2; omega
theorem off_ord (F : Int → Int) (e : s.Perm t) : sortL (offTo F s s.length) = sortL (offTo F t t.length) := by
  rw [off_filter F s _ (Nat.le_refl _), off_filter F t _ (Nat.le_refl _), List.take_length, List.take_length]
  exact sort_perm ((e.filter _).map _)
theorem found_ord {k : Nat} {c : List (Int × Int)} (h : ShOk s) (e : s.Perm t) (hm : 1 ≤ m) (hk : m ≤ k) (hf : FoundC m k s c) : ∃ d, FoundC m k t d ∧ nwS m d = nwS m c := by
  obtain ⟨⟨hl, hs⟩, ha⟩ := hf
  have hc := h.sub hs
  have hpc : c.Perm (t.filter fun x => decide (x ∈ c)) := by
    refine (List.perm_ext_iff_of_nodup hc.nodup ((h.perm e).nodup.sublist List.filter_sublist)).2 fun a => ?_
    simp only [List.mem_filter, decide_eq_true_eq]
    exact ⟨fun h1 => ⟨e.mem_iff.1 (hs.subset h1), h1⟩, fun h1 => h1.2⟩
  refine ⟨t.filter fun x => decide (x ∈ c), ⟨⟨by rw [← hpc.length_eq, hl], List.filter_sublist⟩, (agree_ord hc hpc hm).1 ha⟩, ?_⟩
  exact (rest_ord hc hpc hm (by omega) ha).symm
/-- What Wrong answers does not depend on the order. -/
theorem wrong_ord {need most e1 e2 : Int} {xs ys : List Int} (h : ShOk s) (e : s.Perm t) (hn : 1 ≤ need ∧ need ≤ 8) (h1 : WrongP need most s e1 xs) (h2 : WrongP need most t e2 ys) : e1 = e2 ∧ xs = ys := by
  have ht := h.perm e
  have hle := e.length_eq
  unfold WrongP at h1 h2
  rcases h1 with ⟨a, _⟩ | ⟨_, h1⟩
  · exact absurd (h.chk hn) a
  rcases h2 with ⟨a, _⟩ | ⟨_, h2⟩
  · exact absurd (ht.chk hn) a
  rcases h1 with ⟨a, rfl, rfl⟩ | ⟨a, h1⟩
  · rcases h2 with ⟨_, rfl, rfl⟩ | ⟨b, _⟩
    · exact ⟨rfl, rfl⟩
    · exact absurd b a
  rcases h2 with ⟨b, _⟩ | ⟨_, h2⟩
  · exact absurd a b
  rcases h1 with ⟨b, rfl, rfl⟩ | ⟨b, h1⟩
  · rcases h2 with ⟨_, rfl, rfl⟩ | ⟨c, _⟩
    · exact ⟨rfl, rfl⟩
    · exact absurd (by rw [← hle]; exact b) c
  rcases h2 with ⟨c, _⟩ | ⟨_, h2⟩
  · exact absurd (by rw [hle]; exact c) b
  have hkn : need.toNat ≤ s.length - most.toNat := by omega
  rcases h1 with ⟨hno, rfl, rfl⟩ | ⟨c, hc, rfl, rfl⟩
  · rcases h2 with ⟨_, rfl, rfl⟩ | ⟨d, hd, _⟩
    · exact ⟨rfl, rfl⟩
    · obtain ⟨c, hc, _⟩ := found_ord ht e.symm (by omega) (by omega) hd
      rw [← hle] at hc
      exact absurd hc (hno c)
  · obtain ⟨d, hd, hcd⟩ := found_ord h e (by omega) hkn hc
    rw [hle] at hd
    rcases h2 with ⟨hno, _⟩ | ⟨d2, hd2, rfl, rfl⟩
    · exact absurd hd (hno d)
    · refine ⟨rfl, ?_⟩
      have hu := found_uniq (need := need.toNat) (most := most.toNat) (sh := t) (by omega) ht.ok ht.dist (by omega) hd hd2
      rw [← hu, hcd]
      exact off_ord _ e
end
/-- Shares by numbers: of each keeper the first one. -/
def xOf (p : Int × Int) : Int × Int := (1 + p.1 % 20, p.2 % 251)
def ordT (ps : List (Int × Int)) : Nat → List (Int × Int)
  | 0 => []
  | k + 1 => if (xOf (ps.getD k (0, 0))).1 ∈ kS (ordT ps k) then ordT ps k else ordT ps k ++ [xOf (ps.getD k (0, 0))]
theorem ordT_len (ps : List (Int × Int)) : ∀ k, (ordT ps k).length ≤ k
  | 0 => by simp [ordT]
  | k + 1 => by
    have := ordT_len ps k
    simp only [ordT]
    split
    · omega
    · simp; omega
theorem kS_app (a b : List (Int × Int)) : kS (a ++ b) = kS a ++ kS b := by simp [kS]
theorem ordT_ok (ps : List (Int × Int)) : ∀ k, ShOk (ordT ps k)
  | 0 => ⟨KsOk.nil, fun i => by simp [ordT]⟩
  | k + 1 => by
    have ih := ordT_ok ps k
    simp only [ordT]
    split
    · exact ih
    · next hm =>
      have h1 : 1 ≤ (xOf (ps.getD k (0, 0))).1 ∧ (xOf (ps.getD k (0, 0))).1 ≤ 20 := by unfold xOf; simp only; omega
      have h2 : 0 ≤ (xOf (ps.getD k (0, 0))).2 ∧ (xOf (ps.getD k (0, 0))).2 ≤ 250 := by unfold xOf; simp only; omega
      refine ⟨by rw [kS_app]; exact ih.1.next h1 hm, fun i => ?_⟩
      simp only [List.getD, List.getElem?_append]
      split
      · exact ih.2 i
      · by_cases hi : i - (ordT ps k).length = 0
        · rw [hi]; exact h2
        · rw [List.getElem?_eq_none (by simp; omega)]; decide
theorem ord_new {ps : List (Int × Int)} {k : Nat} {a : Int} (hk : 1 + (ps.getD k (0, 0)).1 % 20 = a) (hm : ¬ a ∈ kS (ordT ps k)) : ordT ps (k + 1) = ordT ps k ++ [(1 + (ps.getD k (0, 0)).1 % 20, (ps.getD k (0, 0)).2 % 251)] ∧ kS (ordT ps (k + 1)) = kS (ordT ps k) ++ [a] := by
  subst hk
  have e : ordT ps (k + 1) = ordT ps k ++ [xOf (ps.getD k (0, 0))] := by simp only [ordT]; exact if_neg hm
  exact ⟨e, by rw [e, kS_app]; rfl⟩
theorem ord_old {ps : List (Int × Int)} {k : Nat} {a : Int} (hk : 1 + (ps.getD k (0, 0)).1 % 20 = a) (hm : a ∈ kS (ordT ps k)) : ordT ps (k + 1) = ordT ps k := by
  subst hk
  simp only [ordT]; exact if_pos hm
/-- Shares that are turned. -/
def rotT (s : List (Int × Int)) (n : Nat) (k : Nat) : List (Int × Int) := (List.range k).map fun i => s.getD ((i + n) % s.length) (0, 0)
theorem rotT_len (s : List (Int × Int)) (n k : Nat) : (rotT s n k).length = k := by simp [rotT]
theorem rotT_next (s : List (Int × Int)) (n k : Nat) : rotT s n (k + 1) = rotT s n k ++ [s.getD ((k + n) % s.length) (0, 0)] := by unfold rotT; rw [List.range_succ, List.map_append]; rfl
theorem rotT_perm (s : List (Int × Int)) (n : Nat) : s.Perm (rotT s n s.length) := by
  by_cases h0 : s.length = 0
  · have : s = [] := List.eq_nil_of_length_eq_zero h0
    subst this; exact List.Perm.refl _
  obtain ⟨r, hr⟩ : ∃ r, r = n % s.length := ⟨_, rfl⟩
  have hrl : r < s.length := by rw [hr]; exact Nat.mod_lt _ (by omega)
  have e : rotT s n s.length = s.drop r ++ s.take r := by
    apply List.ext_getElem
    · rw [rotT_len]; simp; omega
    · intro i h1 h2
      rw [rotT_len] at h1
      have hm : (i + n) % s.length = if i + r < s.length then i + r else i + r - s.length := by
        rw [Nat.add_mod, ← hr, Nat.mod_eq_of_lt h1]
        split
        · next h => exact Nat.mod_eq_of_lt h
        · next h => rw [Nat.mod_eq_sub_mod (by omega), Nat.mod_eq_of_lt (by omega)]
      have hlt : (i + n) % s.length < s.length := Nat.mod_lt _ (by omega)
      have e1 : (rotT s n s.length)[i]'(by rw [rotT_len]; exact h1) = s[(i + n) % s.length] := by
        unfold rotT; simp [hlt]
      rw [e1]
      by_cases hi : i + r < s.length
      · rw [List.getElem_append_left (by simp; omega), List.getElem_drop]
        congr 1
        rw [hm, if_pos hi]; omega
      · rw [List.getElem_append_right (by simp; omega), List.getElem_take]
        congr 1
        rw [hm, if_neg hi]; simp; omega
  rw [e]
  have := (List.perm_append_comm (l₁ := s.take r) (l₂ := s.drop r))
  rwa [List.take_append_drop] at this
theorem rot_ix (n j l : Nat) : ((j : Int) + (n : Int)) % (l : Int) = (((j + n) % l : Nat) : Int) := by
  rw [Int.natCast_emod, Int.natCast_add]
end Go.Pv
