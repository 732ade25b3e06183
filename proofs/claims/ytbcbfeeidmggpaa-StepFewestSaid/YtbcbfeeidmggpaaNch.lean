/-
  What this text proves: the chain of an arc has no more numbers than any list of arcs, with this one among them, that have no offset in common. It speaks of no program.
-/
import Derived.Test.YtbcbfeeidmggpaaN
import Derived.Test.YtbcbfeeidmggpaaRing
set_option linter.unusedVariables false
set_option linter.unusedSimpArgs false

namespace Go.Pv
/-- How far behind the start an arc begins. -/
def awayOf (xs : List (Int × Int)) (s st : Int) (i : Nat) : Int := ((xs.getD i (0, 0)).1 - st) % s
theorem pk_max {xs : List (Int × Int)} {s st g reach : Int} : ∀ {k j : Nat}, j < k → awayOf xs s st j ≤ reach → awayOf xs s st j ≤ (pk xs s st g reach k).2
  | 0, j, h, _ => by omega
  | k + 1, j, h, hr => by
    by_cases e : j = k
    · subst e
      unfold awayOf at hr ⊢
      by_cases h2 : ((xs.getD j (0, 0)).1 - st) % s ≤ reach ∧ (pk xs s st g reach j).2 < ((xs.getD j (0, 0)).1 - st) % s
      · rw [pk_yes h2]; exact Int.le_refl _
      · rw [pk_no h2]; omega
    · have ih := pk_max (g := g) (show j < k by omega) hr
      by_cases h2 : ((xs.getD k (0, 0)).1 - st) % s ≤ reach ∧ (pk xs s st g reach k).2 < ((xs.getD k (0, 0)).1 - st) % s
      · rw [pk_yes h2]; show _ ≤ ((xs.getD k (0, 0)).1 - st) % s; omega
      · rw [pk_no h2]; exact ih
theorem pk_le {xs : List (Int × Int)} {s st g reach : Int} (h0 : 0 ≤ reach) : ∀ k, 0 ≤ (pk xs s st g reach k).2 ∧ (pk xs s st g reach k).2 ≤ reach
  | 0 => by simp [pk]; exact h0
  | k + 1 => by
    have ih := pk_le (xs := xs) (s := s) (st := st) (g := g) h0 k
    by_cases h2 : ((xs.getD k (0, 0)).1 - st) % s ≤ reach ∧ (pk xs s st g reach k).2 < ((xs.getD k (0, 0)).1 - st) % s
    · rw [pk_yes h2]; show 0 ≤ ((xs.getD k (0, 0)).1 - st) % s ∧ ((xs.getD k (0, 0)).1 - st) % s ≤ reach; omega
    · rw [pk_no h2]; exact ih
/-- Every offset behind the given arc's is excluded by an arc of the list. -/
def Covers (xs : List (Int × Int)) (s st exc : Int) (H : List Nat) : Prop := ∀ t, exc ≤ t → t < s → ∃ i ∈ H, i < xs.length ∧ awayOf xs s st i ≤ t ∧ t < awayOf xs s st i + exc
def left (xs : List (Int × Int)) (s st exc : Int) (H : List Nat) (reach : Int) : Nat := (H.filter fun i => decide (reach < awayOf xs s st i + exc)).length
theorem left_less {xs : List (Int × Int)} {s st exc reach reach' : Int} (hr : reach ≤ reach') : ∀ {H : List Nat}, left xs s st exc H reach' ≤ left xs s st exc H reach ∧ ∀ i ∈ H, reach < awayOf xs s st i + exc → awayOf xs s st i + exc ≤ reach' → left xs s st exc H reach' + 1 ≤ left xs s st exc H reach
  | [] => ⟨by simp [left], fun i hi => by cases hi⟩
  | j :: H => by
    have ih := left_less (xs := xs) (s := s) (st := st) (exc := exc) hr (H := H)
    unfold left at ih ⊢
    simp only [List.filter_cons]
    refine ⟨?_, fun i hi h1 h2 => ?_⟩
    · split <;> split <;> simp_all <;> omega
    · rcases List.mem_cons.1 hi with rfl | hi
      · rw [if_neg (by simp; omega), if_pos (by simp; omega)]
        simp only [List.length_cons]
        omega
      · have h3 := ih.2 i hi h1 h2
        split <;> split <;> simp_all <;> omega
theorem chainF_bound {xs : List (Int × Int)} {s st exc g : Int} {H : List Nat} (hc : Covers xs s st exc H) (h0 : 0 ≤ exc) : ∀ {m : Nat} {l l' : List Int} {reach : Int}, exc ≤ reach → chainF xs s st exc g m l reach = some l' → l'.length ≤ l.length + left xs s st exc H reach
  | 0, l, l', reach, hr, h => by
    by_cases e : reach < s
    · simp only [chainF] at h; rw [if_pos e] at h; cases h
    · rw [chainF_end (by omega) h]; omega
  | m + 1, l, l', reach, hr, h => by
    by_cases e : reach < s
    · have h1 := (chainF_step e h).2
      simp only [Nat.add_sub_cancel] at h1
      obtain ⟨i, hi, hil, h2, h3⟩ := hc reach hr e
      have h4 := pk_max (g := g) hil h2
      have h5 := pk_le (xs := xs) (s := s) (st := st) (g := g) (show 0 ≤ reach by omega) xs.length
      have ih := chainF_bound hc h0 (by omega) h1
      have h6 := (left_less (xs := xs) (s := s) (st := st) (exc := exc) (reach := reach) (reach' := (pk xs s st g reach xs.length).2 + exc) (by omega) (H := H)).2 i hi h3 (by omega)
      simp only [List.length_append, List.length_cons, List.length_nil] at ih
      omega
    · rw [chainF_end (by omega) h]; omega
theorem chainF_some {xs : List (Int × Int)} {s st exc g : Int} {H : List Nat} (hc : Covers xs s st exc H) (h0 : 0 ≤ exc) : ∀ {m : Nat} {l : List Int} {reach : Int}, exc ≤ reach → left xs s st exc H reach ≤ m → ∃ l', chainF xs s st exc g m l reach = some l'
  | 0, l, reach, hr, h => by
    by_cases e : reach < s
    · obtain ⟨i, hi, hil, h2, h3⟩ := hc reach hr e
      have h6 := (left_less (xs := xs) (s := s) (st := st) (exc := exc) (reach := reach) (reach' := reach + exc) (by omega) (H := H)).2 i hi h3 (by omega)
      omega
    · exact ⟨l, by simp only [chainF]; rw [if_neg e]⟩
  | m + 1, l, reach, hr, h => by
    by_cases e : reach < s
    · obtain ⟨i, hi, hil, h2, h3⟩ := hc reach hr e
      have h4 := pk_max (g := g) hil h2
      have h5 := pk_le (xs := xs) (s := s) (st := st) (g := g) (show 0 ≤ reach by omega) xs.length
      have h6 := (left_less (xs := xs) (s := s) (st := st) (exc := exc) (reach := reach) (reach' := (pk xs s st g reach xs.length).2 + exc) (by omega) (H := H)).2 i hi h3 (by omega)
      obtain ⟨l', hl⟩ := chainF_some hc h0 (m := m) (l := l ++ [(pk xs s st g reach xs.length).1]) (reach := (pk xs s st g reach xs.length).2 + exc) (by omega) (by omega)
      exact ⟨l', by simp only [chainF]; rw [if_pos e]; exact hl⟩
    · exact ⟨l, by simp only [chainF]; rw [if_neg e]⟩
theorem left_less_mem {xs : List (Int × Int)} {s st exc : Int} : ∀ {H : List Nat} {g : Nat}, g ∈ H → awayOf xs s st g = 0 → left xs s st exc H exc + 1 ≤ H.length
  | j :: H, g, hg, h0 => by
    unfold left
    simp only [List.filter_cons]
    rcases List.mem_cons.1 hg with rfl | hg
    · rw [if_neg (by simp; omega)]
      have := List.length_filter_le (fun i => decide (exc < awayOf xs s st i + exc)) H
      simp only [List.length_cons]; omega
    · have ih := left_less_mem (exc := exc) hg h0
      unfold left at ih
      split
      · simp only [List.length_cons]; omega
      · simp only [List.length_cons]; omega
theorem chain_bound {xs : List (Int × Int)} {s exc : Int} {g g' : Nat} {H : List Nat} {m : Nat} {l' : List Int} (hs : 1 ≤ s) (h0 : 0 ≤ exc) (hc : Covers xs s (xs.getD g (0, 0)).1 exc H) (hg : g ∈ H) (h : chainF xs s (xs.getD g (0, 0)).1 exc g' m [(g' : Int)] exc = some l') : l'.length ≤ H.length := by
  have h1 := chainF_bound hc h0 (Int.le_refl _) h
  have h2 := left_less_mem (exc := exc) hg (show awayOf xs s (xs.getD g (0, 0)).1 g = 0 by unfold awayOf; simp)
  simp only [List.length_cons, List.length_nil] at h1
  omega
/-- The number that pk gives is an arc's, and how far it lies. -/
theorem pk_idx {xs : List (Int × Int)} {s st reach : Int} {g : Nat} (hg : awayOf xs s st g = 0) : ∀ k, ∃ j : Nat, (pk xs s st g reach k).1 = (j : Int) ∧ awayOf xs s st j = (pk xs s st g reach k).2 ∧ (j < k ∨ j = g)
  | 0 => ⟨g, rfl, hg, .inr rfl⟩
  | k + 1 => by
    by_cases h2 : ((xs.getD k (0, 0)).1 - st) % s ≤ reach ∧ (pk xs s st g reach k).2 < ((xs.getD k (0, 0)).1 - st) % s
    · rw [pk_yes h2]; exact ⟨k, rfl, rfl, .inl (by omega)⟩
    · rw [pk_no h2]
      obtain ⟨j, h3, h4, h5⟩ := pk_idx (reach := reach) hg k
      exact ⟨j, h3, h4, by omega⟩
/-- What a list of a chain is: numbers of arcs, each once, that leave no gap below reach. -/
def ChainOk (xs : List (Int × Int)) (s st exc : Int) (l : List Int) (reach : Int) : Prop :=
  l.Nodup ∧ (∀ x ∈ l, ∃ j : Nat, x = (j : Int) ∧ j < xs.length ∧ awayOf xs s st j + exc ≤ reach) ∧ ∀ t, 0 ≤ t → t < reach → ∃ j : Nat, (j : Int) ∈ l ∧ awayOf xs s st j ≤ t ∧ t < awayOf xs s st j + exc
theorem chainF_ok {xs : List (Int × Int)} {s st exc : Int} {g : Nat} {H : List Nat} (hc : Covers xs s st exc H) (h0 : 0 ≤ exc) (hg : awayOf xs s st g = 0) (hgl : g < xs.length) : ∀ {m : Nat} {l l' : List Int} {reach : Int}, exc ≤ reach → ChainOk xs s st exc l reach → chainF xs s st exc g m l reach = some l' → ∃ r, s ≤ r ∧ ChainOk xs s st exc l' r
  | 0, l, l', reach, hr, hl, h => by
    by_cases e : reach < s
    · simp only [chainF] at h; rw [if_pos e] at h; cases h
    · rw [← chainF_end (by omega) h]; exact ⟨reach, by omega, hl⟩
  | m + 1, l, l', reach, hr, hl, h => by
    by_cases e : reach < s
    · have h1 := (chainF_step e h).2
      simp only [Nat.add_sub_cancel] at h1
      obtain ⟨i, hi, hil, h2, h3⟩ := hc reach hr e
      have h4 := pk_max (g := (g : Int)) hil h2
      have h5 := pk_le (xs := xs) (s := s) (st := st) (g := (g : Int)) (show 0 ≤ reach by omega) xs.length
      obtain ⟨j, j1, j2, j3⟩ := pk_idx (reach := reach) hg xs.length
      refine chainF_ok hc h0 hg hgl (by omega) ⟨?_, ?_, ?_⟩ h1
      · rw [j1]
        refine List.nodup_append.2 ⟨hl.1, by simp, fun x hx y hy => ?_⟩
        obtain ⟨j', e1, -, e2⟩ := hl.2.1 x hx
        have e3 : y = (j : Int) := by simpa using hy
        intro e4
        have e5 : j' = j := by omega
        subst e5
        omega
      · intro x hx
        rcases List.mem_append.1 hx with hx | hx
        · obtain ⟨j', e1, e2, e3⟩ := hl.2.1 x hx
          exact ⟨j', e1, e2, by omega⟩
        · rw [j1] at hx
          exact ⟨j, by simpa using hx, by omega, by omega⟩
      · intro t ht1 ht2
        by_cases e2 : t < reach
        · obtain ⟨j', e3, e4⟩ := hl.2.2 t ht1 e2
          exact ⟨j', List.mem_append_left _ e3, e4⟩
        · exact ⟨j, List.mem_append_right _ (by rw [j1]; simp), by omega, by omega⟩
    · rw [← chainF_end (by omega) h]; exact ⟨reach, by omega, hl⟩
theorem chain_ok {xs : List (Int × Int)} {s exc : Int} {g : Nat} {H : List Nat} {m : Nat} {l' : List Int} (hs : 1 ≤ s) (h0 : 0 ≤ exc) (hgl : g < xs.length) (hc : Covers xs s (xs.getD g (0, 0)).1 exc H) (h : chainF xs s (xs.getD g (0, 0)).1 exc g m [(g : Int)] exc = some l') : ∃ r, s ≤ r ∧ ChainOk xs s (xs.getD g (0, 0)).1 exc l' r := by
  have hg : awayOf xs s (xs.getD g (0, 0)).1 g = 0 := by unfold awayOf; simp
  refine chainF_ok hc h0 hg hgl (Int.le_refl _) ⟨by simp, fun x hx => ⟨g, by simpa using hx, hgl, by omega⟩, fun t h1 h2 => ⟨g, by simp, by omega, by omega⟩⟩ h
/-- An offset behind the given arc's is excluded just by those arcs that begin within reach. -/
theorem excl {off s f t : Int} (hs : 2 * off + 1 < s) (hoff : 0 ≤ off) {p : Int} (ht : s - (2 * off + 1) ≤ t ∧ t < s) :
    ¬ fits1 off s ((f + (2 * off + 1) + t) % s) p ↔ ((p - off) % s - f) % s ≤ t ∧ t < ((p - off) % s - f) % s + (s - (2 * off + 1)) := by
  have hs1 : s ≠ 0 := by omega
  have b1 := Int.emod_nonneg (f + (2 * off + 1) + t) hs1
  have b2 := Int.emod_lt_of_pos (f + (2 * off + 1) + t) (show 0 < s by omega)
  rw [fits1_iff (by omega) ⟨b1, b2⟩]
  have b3 := Int.emod_nonneg (p - off) hs1
  have b4 := Int.emod_lt_of_pos (p - off) (show 0 < s by omega)
  have b5 := Int.emod_nonneg ((p - off) % s - f) hs1
  have b6 := Int.emod_lt_of_pos ((p - off) % s - f) (show 0 < s by omega)
  have c1 := Int.mul_ediv_add_emod (f + (2 * off + 1) + t) s
  have c2 := Int.mul_ediv_add_emod ((p - off) % s - f) s
  generalize (p - off) % s = q at *
  generalize (f + (2 * off + 1) + t) % s = o at *
  generalize (q - f) % s = a at *
  generalize (f + (2 * off + 1) + t) / s = d1 at *
  generalize (q - f) / s = d2 at *
  -- o = f + S + t - s d1, a = q - f - s d2, so o - q = S + t - a - s (d1 + d2)
  have c3 : o - q = (2 * off + 1) + t - a - s * (d1 + d2) := by rw [Int.mul_add]; omega
  have c4 : d1 + d2 = -1 ∨ d1 + d2 = 0 ∨ d1 + d2 = 1 ∨ d1 + d2 = 2 := by
    generalize d1 + d2 = d at c3
    by_cases e1 : d ≤ -2
    · have : s * d ≤ s * (-2) := Int.mul_le_mul_of_nonneg_left e1 (by omega)
      omega
    · by_cases e2 : 3 ≤ d
      · have : s * 3 ≤ s * d := Int.mul_le_mul_of_nonneg_left e2 (by omega)
        omega
      · omega
  rcases c4 with e | e | e | e <;> rw [e] at c3 <;> omega
end Go.Pv
