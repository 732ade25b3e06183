/-
  What this text proves: what the promises of layer 3 say, as plain functions on integers and lists, and facts on them. It speaks of no program.
-/
import Derived.Test.YtngoipmdhliigaaMath
set_option linter.unusedVariables false
set_option linter.unusedSimpArgs false

namespace Go.Pv
theorem mem_getDz {α : Type} {xs : List α} {d : α} {j : Nat} (h : j < xs.length) : xs.getD j d ∈ xs := by simp [h]
theorem getD_memz {α : Type} {xs : List α} {d p : α} (h : p ∈ xs) : ∃ j, j < xs.length ∧ xs.getD j d = p := by
  obtain ⟨j, hj, rfl⟩ := List.getElem_of_mem h
  exact ⟨j, hj, by simp [hj]⟩
theorem forall_getD {α : Type} {xs : List α} {d : α} {p : α → Prop} : (∀ x ∈ xs, p x) ↔ ∀ j, j < xs.length → p (xs.getD j d) :=
  ⟨fun h j hj => h _ (mem_getDz hj), fun h x hx => by obtain ⟨j, hj, rfl⟩ := getD_memz (d := d) hx; exact h j hj⟩
/-- A slot's numbers are as stated. -/
def slotOk (s : Int × Int) : Prop := 0 ≤ s.1 ∧ s.1 < s.2 ∧ s.2 ≤ 1000000
instance (s : Int × Int) : Decidable (slotOk s) := by unfold slotOk; exact inferInstance
def slotsOk (sl : List (Int × Int)) : Prop := ∀ j, j < sl.length → slotOk (sl.getD j (0, 0))
instance (sl : List (Int × Int)) : Decidable (slotsOk sl) := by unfold slotsOk; exact inferInstance
/-- The error of a job. -/
def jobErr (rest : Int) (sl : List (Int × Int)) : Int := if rest < 0 ∨ 1000 < rest then 3 else if 40 < sl.length then 5 else if slotsOk sl then 0 else 3
theorem job_inv {rest : Int} {sl : List (Int × Int)} (h : jobErr rest sl = 0) : (0 ≤ rest ∧ rest ≤ 1000) ∧ sl.length ≤ 40 ∧ ∀ j, j < sl.length → 0 ≤ (sl.getD j (0, 0)).1 ∧ (sl.getD j (0, 0)).1 < (sl.getD j (0, 0)).2 ∧ (sl.getD j (0, 0)).2 ≤ 1000000 := by
  unfold jobErr at h
  split at h
  · omega
  · split at h
    · omega
    · split at h
      · next h3 => exact ⟨by omega, by omega, h3⟩
      · omega
theorem job_rest {rest : Int} {sl : List (Int × Int)} (h : rest < 0 ∨ 1000 < rest) : jobErr rest sl = 3 := by unfold jobErr; rw [if_pos h]
theorem job_many {rest : Int} {sl : List (Int × Int)} (h : ¬ (rest < 0 ∨ 1000 < rest)) (h2 : 40 < sl.length) : jobErr rest sl = 5 := by unfold jobErr; rw [if_neg h, if_pos h2]
theorem job_bad {rest : Int} {sl : List (Int × Int)} (h : ¬ (rest < 0 ∨ 1000 < rest)) (h2 : ¬ 40 < sl.length) (h3 : ¬ slotsOk sl) : jobErr rest sl = 3 := by unfold jobErr; rw [if_neg h, if_neg h2, if_neg h3]
theorem job_good {rest : Int} {sl : List (Int × Int)} (h : ¬ (rest < 0 ∨ 1000 < rest)) (h2 : ¬ 40 < sl.length) (h3 : slotsOk sl) : jobErr rest sl = 0 := by unfold jobErr; rw [if_neg h, if_neg h2, if_pos h3]
/-- A slot is of the crowd at a moment. -/
def inC (rest m : Int) (s : Int × Int) : Prop := s.1 ≤ m ∧ m < s.2 + rest
instance (rest m : Int) (s : Int × Int) : Decidable (inC rest m s) := by unfold inC; exact inferInstance
def crowdTo (rest : Int) (sl : List (Int × Int)) (m : Int) : Nat → List Int
  | 0 => []
  | k + 1 => if inC rest m (sl.getD k (0, 0)) then crowdTo rest sl m k ++ [(k : Int)] else crowdTo rest sl m k
def crowdL (rest : Int) (sl : List (Int × Int)) (m : Int) : List Int := crowdTo rest sl m sl.length
theorem crowd_yes {rest m : Int} {sl : List (Int × Int)} {k : Nat} (h : inC rest m (sl.getD k (0, 0))) : crowdTo rest sl m (k + 1) = crowdTo rest sl m k ++ [(k : Int)] := by simp only [crowdTo]; rw [if_pos h]
theorem crowd_no {rest m : Int} {sl : List (Int × Int)} {k : Nat} (h : ¬ inC rest m (sl.getD k (0, 0))) : crowdTo rest sl m (k + 1) = crowdTo rest sl m k := by simp only [crowdTo]; rw [if_neg h]
theorem crowd_len (rest m : Int) (sl : List (Int × Int)) : ∀ k, (crowdTo rest sl m k).length ≤ k
  | 0 => by simp [crowdTo]
  | k + 1 => by
    have := crowd_len rest m sl k
    simp only [crowdTo]
    split
    · simp; omega
    · omega
/-- Two slots clash. -/
def clashP (rest : Int) (a b : Int × Int) : Prop := a.1 < b.2 + rest ∧ b.1 < a.2 + rest
instance (rest : Int) (a b : Int × Int) : Decidable (clashP rest a b) := by unfold clashP; exact inferInstance
/-- No slot that clashes with s has the number n. -/
def freeN (rest : Int) (sl : List (Int × Int)) (t : List Int) (s : Int × Int) (n : Int) : Prop := ∀ i, i < sl.length → t.getD i (-1) = n → ¬ clashP rest s (sl.getD i (0, 0))
instance (rest : Int) (sl : List (Int × Int)) (t : List Int) (s : Int × Int) (n : Int) : Decidable (freeN rest sl t s n) := by unfold freeN; exact inferInstance
def smallF (rest : Int) (sl : List (Int × Int)) (t : List Int) (s : Int × Int) : Nat → Int → Int
  | 0, n => n
  | f + 1, n => if freeN rest sl t s n then n else smallF rest sl t s f (n + 1)
/-- The smallest number from 0 on that is free. -/
def smallN (rest : Int) (sl : List (Int × Int)) (t : List Int) (s : Int × Int) : Int := smallF rest sl t s (sl.length + 1) 0
theorem pigeon : ∀ (p : Nat) (L : List Int), (∀ k : Nat, k < p → (k : Int) ∈ L) → p ≤ L.length
  | 0, _, _ => Nat.zero_le _
  | p + 1, L, h => by
    have h1 := h p (by omega)
    have h2 := List.length_erase_of_mem h1
    have h3 := pigeon p (L.erase (p : Int)) fun k hk => (List.mem_erase_of_ne (by omega)).2 (h k (by omega))
    have h4 := List.length_pos_of_mem h1
    omega
theorem small_le {rest : Int} {sl : List (Int × Int)} {t : List Int} {s : Int × Int} {p : Nat} (h : ∀ k : Nat, k < p → ¬ freeN rest sl t s k) : p ≤ sl.length := by
  have := pigeon p ((List.range sl.length).map fun i => t.getD i (-1)) fun k hk => by
    have h1 := h k hk
    unfold freeN at h1
    refine Classical.byContradiction fun hc => h1 fun i hi e _ => hc ?_
    exact List.mem_map.2 ⟨i, by simpa using hi, e⟩
  simpa using this
theorem smallF_of {rest : Int} {sl : List (Int × Int)} {t : List Int} {s : Int × Int} {m : Nat} (hm : freeN rest sl t s m) : ∀ (f n : Nat), n ≤ m → (∀ k : Nat, n ≤ k → k < m → ¬ freeN rest sl t s k) → m ≤ n + f → smallF rest sl t s f n = m
  | 0, n, h1, h2, h3 => by simp only [smallF]; omega
  | f + 1, n, h1, h2, h3 => by
    simp only [smallF]
    by_cases e : n = m
    · subst e; rw [if_pos hm]
    · rw [if_neg (h2 n (by omega) (by omega))]
      have := smallF_of hm f (n + 1) (by omega) (fun k hk => h2 k (by omega)) (by omega)
      simpa using this
theorem small_of {rest : Int} {sl : List (Int × Int)} {t : List Int} {s : Int × Int} {m : Nat} (hm : freeN rest sl t s m) (h : ∀ k : Nat, k < m → ¬ freeN rest sl t s k) : smallN rest sl t s = m := by
  have := small_le h
  exact smallF_of hm (sl.length + 1) 0 (by omega) (fun k _ hk => h k hk) (by omega)
theorem small_ex {rest : Int} {sl : List (Int × Int)} {t : List Int} {s : Int × Int} : ∃ m : Nat, smallN rest sl t s = m ∧ m ≤ sl.length ∧ freeN rest sl t s m ∧ ∀ k : Nat, k < m → ¬ freeN rest sl t s k := by
  have hex : ∃ m : Nat, freeN rest sl t s m := Classical.byContradiction fun hc => by
    have := small_le (rest := rest) (sl := sl) (t := t) (s := s) (p := sl.length + 1) fun k _ hf => hc ⟨k, hf⟩
    omega
  obtain ⟨m, h1, h2⟩ := least hex
  have h3 : ∀ k : Nat, k < m → ¬ freeN rest sl t s k := fun k hk hf => by have := h2 k hf; omega
  exact ⟨m, small_of h1 h3, small_le h3, h1, h3⟩
/-- The passes of a plan. -/
def passTo (plan : List Int) : Nat → Int
  | 0 => 0
  | k + 1 => max (passTo plan k) (plan.getD k 0 + 1)
def passL (plan : List Int) : Int := passTo plan plan.length
theorem passTo_bd {plan : List Int} {b : Int} (hb : 0 ≤ b) : ∀ {k : Nat}, (∀ j, j < k → plan.getD j 0 + 1 ≤ b) → 0 ≤ passTo plan k ∧ passTo plan k ≤ b
  | 0, _ => ⟨Int.le_refl _, hb⟩
  | k + 1, h => by
    have h1 := passTo_bd (k := k) hb fun j hj => h j (by omega)
    have h2 := h k (by omega)
    simp only [passTo, Int.max_def]
    split <;> omega
/-- A plan keeps slots apart that clash. -/
def apart (rest : Int) (sl : List (Int × Int)) (plan : List Int) : Prop := ∀ i, i < sl.length → ∀ k, k < i → ¬ (plan.getD i 0 = plan.getD k 0 ∧ clashP rest (sl.getD i (0, 0)) (sl.getD k (0, 0)))
instance (rest : Int) (sl : List (Int × Int)) (plan : List Int) : Decidable (apart rest sl plan) := by unfold apart; exact inferInstance
def numsOk (plan : List Int) : Prop := ∀ j, j < plan.length → 0 ≤ plan.getD j 0 ∧ plan.getD j 0 ≤ 39
instance (plan : List Int) : Decidable (numsOk plan) := by unfold numsOk; exact inferInstance
/-- The error of a plan. -/
def planErr (rest : Int) (sl : List (Int × Int)) (plan : List Int) : Int :=
  if jobErr rest sl ≠ 0 then jobErr rest sl else if plan.length ≠ sl.length then 6 else if ¬ numsOk plan then 3 else if ¬ apart rest sl plan then 14 else 0
theorem clash_comm {rest : Int} {a b : Int × Int} : clashP rest a b ↔ clashP rest b a := by unfold clashP; exact And.comm
/-- The order in which slots get their passes. -/
def beforeP (sl : List (Int × Int)) (i k : Nat) : Prop := (sl.getD i (0, 0)).1 < (sl.getD k (0, 0)).1 ∨ ((sl.getD i (0, 0)).1 = (sl.getD k (0, 0)).1 ∧ i < k)
instance (sl : List (Int × Int)) (i k : Nat) : Decidable (beforeP sl i k) := by unfold beforeP; exact inferInstance
def insO (sl : List (Int × Int)) (i : Nat) : List Nat → List Nat
  | [] => [i]
  | k :: r => if beforeP sl i k then i :: k :: r else k :: insO sl i r
def ordTo (sl : List (Int × Int)) : Nat → List Nat
  | 0 => []
  | k + 1 => insO sl k (ordTo sl k)
def ordL (sl : List (Int × Int)) : List Nat := ordTo sl sl.length
theorem before_tr {sl : List (Int × Int)} {a b c : Nat} (h : beforeP sl a b) (k : beforeP sl b c) : beforeP sl a c := by unfold beforeP at *; omega
theorem before_irr {sl : List (Int × Int)} {a : Nat} : ¬ beforeP sl a a := by unfold beforeP; omega
theorem before_tot {sl : List (Int × Int)} {a b : Nat} (h : a ≠ b) : beforeP sl a b ∨ beforeP sl b a := by unfold beforeP; omega
theorem insO_perm (sl : List (Int × Int)) (i : Nat) : ∀ r, (insO sl i r).Perm (i :: r)
  | [] => List.Perm.refl _
  | k :: r => by
    simp only [insO]
    split
    · exact List.Perm.refl _
    · exact ((insO_perm sl i r).cons k).trans (List.Perm.swap i k r)
theorem insO_sorted {sl : List (Int × Int)} {i : Nat} : ∀ {r : List Nat}, r.Pairwise (beforeP sl) → i ∉ r → (insO sl i r).Pairwise (beforeP sl)
  | [], _, _ => by simp [insO]
  | k :: r, h, hn => by
    simp only [insO]
    obtain ⟨h1, h2⟩ := List.pairwise_cons.1 h
    split
    · next hb =>
      refine List.pairwise_cons.2 ⟨fun x hx => ?_, h⟩
      rcases List.mem_cons.1 hx with rfl | hx
      · exact hb
      · exact before_tr hb (h1 x hx)
    · next hb =>
      have hik : beforeP sl k i := (before_tot (fun e => hn (by simp [e]))).resolve_left hb
      refine List.pairwise_cons.2 ⟨fun x hx => ?_, insO_sorted h2 (fun h => hn (List.mem_cons_of_mem _ h))⟩
      rcases List.mem_cons.1 ((insO_perm sl i r).mem_iff.1 hx) with rfl | hx
      · exact hik
      · exact h1 x hx
theorem ordTo_perm (sl : List (Int × Int)) : ∀ k, (ordTo sl k).Perm (List.range k)
  | 0 => List.Perm.refl _
  | k + 1 => by
    simp only [ordTo]
    refine (insO_perm sl k _).trans (((ordTo_perm sl k).cons k).trans ?_)
    rw [List.range_succ]
    exact (List.perm_append_comm (l₁ := [k]) (l₂ := List.range k))
theorem ordTo_sorted (sl : List (Int × Int)) : ∀ k, (ordTo sl k).Pairwise (beforeP sl)
  | 0 => by simp [ordTo]
  | k + 1 => insO_sorted (ordTo_sorted sl k) (fun h => by have := (ordTo_perm sl k).mem_iff.1 h; simp at this)
theorem ordL_perm (sl : List (Int × Int)) : (ordL sl).Perm (List.range sl.length) := ordTo_perm sl _
theorem ordL_sorted (sl : List (Int × Int)) : (ordL sl).Pairwise (beforeP sl) := ordTo_sorted sl _
theorem ordL_len (sl : List (Int × Int)) : (ordL sl).length = sl.length := by rw [(ordL_perm sl).length_eq, List.length_range]
theorem ordL_lt {sl : List (Int × Int)} {i : Nat} (h : i ∈ ordL sl) : i < sl.length := by have := (ordL_perm sl).mem_iff.1 h; simpa using this
/-- There is just one list in this order. -/
theorem sorted_uniq {sl : List (Int × Int)} : ∀ {a b : List Nat}, a.Perm b → a.Pairwise (beforeP sl) → b.Pairwise (beforeP sl) → a = b
  | [], b, h, _, _ => by have := h.length_eq; cases b with
    | nil => rfl
    | cons => simp at this
  | x :: a, [], h, _, _ => by have := h.length_eq; simp at this
  | x :: a, y :: b, h, ha, hb => by
    obtain ⟨ha1, ha2⟩ := List.pairwise_cons.1 ha
    obtain ⟨hb1, hb2⟩ := List.pairwise_cons.1 hb
    have e : x = y := by
      refine Classical.byContradiction fun hn => ?_
      have h1 : x ∈ b := (List.mem_cons.1 (h.mem_iff.1 (List.mem_cons_self ..))).resolve_left hn
      have h2 : y ∈ a := (List.mem_cons.1 (h.symm.mem_iff.1 (List.mem_cons_self ..))).resolve_left (fun e => hn e.symm)
      exact before_irr (before_tr (ha1 y h2) (hb1 x h1))
    subst e
    rw [sorted_uniq (List.Perm.cons_inv h) ha2 hb2]
/-- The numbers that slots have taken when k of them have got theirs. -/
def planTo (rest : Int) (sl : List (Int × Int)) : Nat → List Int
  | 0 => List.replicate 40 (-1)
  | k + 1 => (planTo rest sl k).set ((ordL sl).getD k 0) (smallN rest sl (planTo rest sl k) (sl.getD ((ordL sl).getD k 0) (0, 0)))
theorem planTo_len (rest : Int) (sl : List (Int × Int)) : ∀ k, (planTo rest sl k).length = 40
  | 0 => by simp [planTo]
  | k + 1 => by simp [planTo, planTo_len rest sl k]
def planL (rest : Int) (sl : List (Int × Int)) : List Int := (planTo rest sl sl.length).take sl.length
/-- The moment that proves the best plan, and its crowd: looked for where slots begin, in their order. -/
def momTo (rest : Int) (sl : List (Int × Int)) : Nat → Int × Int
  | 0 => (0, 0)
  | k + 1 => if (momTo rest sl k).2 < (crowdL rest sl (sl.getD ((ordL sl).getD k 0) (0, 0)).1).length then ((sl.getD ((ordL sl).getD k 0) (0, 0)).1, (crowdL rest sl (sl.getD ((ordL sl).getD k 0) (0, 0)).1).length) else momTo rest sl k
def momL (rest : Int) (sl : List (Int × Int)) : Int := (momTo rest sl sl.length).1
end Go.Pv
