/-
  What this text proves: with one more slot the passes become at most one more, and no fewer; with more rest no fewer; in another order as many; of slots that are shifted the plan is the same. It speaks of plain functions.
-/
import Derived.Test.YtjcigpakljfkeaaVYf
set_option linter.unusedVariables false
set_option linter.unusedSimpArgs false
namespace Go.Pv
open Go.RowKit
/-- How many slots a moment belongs to. -/
def cnt (rest : Int) (sl : List (Int × Int)) (m : Int) : Nat := sl.countP fun s => decide (inC rest m s)
theorem cnt_to (rest m : Int) (sl : List (Int × Int)) : ∀ k, k ≤ sl.length → (crowdTo rest sl m k).length = cnt rest (sl.take k) m
  | 0, _ => by simp [crowdTo, cnt]
  | k + 1, hk => by
    have ih := cnt_to rest m sl k (by omega)
    rw [take_succD (d := (0, 0)) (by omega)]
    unfold cnt at ih ⊢
    rw [List.countP_append, ← ih]
    by_cases h : inC rest m (sl.getD k (0, 0))
    · rw [crowd_yes h, List.countP_singleton, if_pos (decide_eq_true h), List.length_append]; rfl
    · rw [crowd_no h, List.countP_singleton, if_neg (by simp only [decide_eq_true_eq]; exact h)]; rfl
theorem cnt_eq (rest m : Int) (sl : List (Int × Int)) : (crowdL rest sl m).length = cnt rest sl m := by
  unfold crowdL
  rw [cnt_to rest m sl _ (Nat.le_refl _), List.take_length]
theorem pass_ge {rest m : Int} {sl : List (Int × Int)} (hj : jobErr rest sl = 0) : (cnt rest sl m : Int) ≤ passL (planL rest sl) := by
  have := crowd_all (m := m) hj
  rwa [cnt_eq] at this
theorem pass_at {rest : Int} {sl : List (Int × Int)} (hj : jobErr rest sl = 0) : passL (planL rest sl) = 0 ∨ ∃ m, (cnt rest sl m : Int) = passL (planL rest sl) := by
  by_cases hne : 0 < sl.length
  · have := (mom_first hj hne).2.1
    rw [cnt_eq] at this
    exact .inr ⟨_, this⟩
  · exact .inl (plan_zero (job_inv hj).2.1 (by omega))
theorem pass_le_of {r1 r2 : Int} {s1 s2 : List (Int × Int)} {d : Int} (h1 : jobErr r1 s1 = 0) (h2 : jobErr r2 s2 = 0) (hd : 0 ≤ d) (h : ∀ m, (cnt r1 s1 m : Int) ≤ cnt r2 s2 m + d) : passL (planL r1 s1) ≤ passL (planL r2 s2) + d := by
  rcases pass_at h1 with e | ⟨m, e⟩
  · have := (plan_le h2).1; omega
  · have := pass_ge (m := m) h2
    have := h m
    omega
theorem pass_add {rest : Int} {sl : List (Int × Int)} {s : Int × Int} (h1 : jobErr rest sl = 0) (h2 : jobErr rest (sl ++ [s]) = 0) : passL (planL rest sl) ≤ passL (planL rest (sl ++ [s])) ∧ passL (planL rest (sl ++ [s])) ≤ passL (planL rest sl) + 1 := by
  have hc : ∀ m, (cnt rest sl m : Int) ≤ cnt rest (sl ++ [s]) m + 0 ∧ (cnt rest (sl ++ [s]) m : Int) ≤ cnt rest sl m + 1 := fun m => by
    unfold cnt
    rw [List.countP_append, List.countP_singleton]
    split <;> omega
  have := pass_le_of h1 h2 (Int.le_refl 0) fun m => (hc m).1
  exact ⟨by omega, pass_le_of h2 h1 (by decide) fun m => (hc m).2⟩
theorem pass_rest {rest more : Int} {sl : List (Int × Int)} (h1 : jobErr rest sl = 0) (h2 : jobErr (rest + more) sl = 0) (hm : 0 ≤ more) : passL (planL rest sl) ≤ passL (planL (rest + more) sl) := by
  have := pass_le_of h1 h2 (Int.le_refl 0) fun m => by
    have : cnt rest sl m ≤ cnt (rest + more) sl m := by
      unfold cnt
      refine List.countP_mono_left fun s _ h => ?_
      have := of_decide_eq_true h
      refine decide_eq_true ?_
      unfold inC at *
      omega
    omega
  omega
theorem pass_perm {rest : Int} {s1 s2 : List (Int × Int)} (h1 : jobErr rest s1 = 0) (h2 : jobErr rest s2 = 0) (hp : s1.Perm s2) : passL (planL rest s1) = passL (planL rest s2) := by
  have hc : ∀ m, cnt rest s1 m = cnt rest s2 m := fun m => hp.countP_eq _
  have a := pass_le_of h1 h2 (Int.le_refl 0) fun m => by rw [hc m]; omega
  have b := pass_le_of h2 h1 (Int.le_refl 0) fun m => by rw [hc m]; omega
  omega
/-- The slots from another one on. -/
def rotL (t : Nat) (sl : List (Int × Int)) : List (Int × Int) := sl.drop (t % sl.length) ++ sl.take (t % sl.length)
theorem rot_len (t : Nat) (sl : List (Int × Int)) : (rotL t sl).length = sl.length := by
  unfold rotL
  rcases Nat.eq_zero_or_pos sl.length with h | h
  · have : sl = [] := List.eq_nil_of_length_eq_zero h
    subst this; simp
  · have := Nat.mod_lt t h
    simp; omega
theorem rot_perm (t : Nat) (sl : List (Int × Int)) : (rotL t sl).Perm sl := by
  unfold rotL
  refine List.perm_append_comm.trans ?_
  rw [List.take_append_drop]
theorem rot_get {t i : Nat} {sl : List (Int × Int)} (hi : i < sl.length) : (rotL t sl).getD i (0, 0) = sl.getD ((i + t) % sl.length) (0, 0) := by
  have hm := Nat.mod_lt t (show 0 < sl.length by omega)
  have e : (i + t) % sl.length = (i + t % sl.length) % sl.length := by rw [Nat.add_mod, Nat.add_mod i (t % sl.length), Nat.mod_mod]
  rw [e]
  obtain ⟨m, hmd⟩ : ∃ m, m = t % sl.length := ⟨_, rfl⟩
  unfold rotL
  rw [← hmd] at hm ⊢
  simp only [List.getD]
  by_cases h : i + m < sl.length
  · rw [Nat.mod_eq_of_lt h, List.getElem?_append_left (by simp; omega), List.getElem?_drop, Nat.add_comm]
  · rw [Nat.mod_eq_sub_mod (by omega), Nat.mod_eq_of_lt (by omega), List.getElem?_append_right (by simp; omega), List.getElem?_take_of_lt (by simp; omega)]
    congr 2
    simp; omega
/-- Slots that are shifted. -/
def shL (d : Int) (sl : List (Int × Int)) : List (Int × Int) := sl.map fun s => (s.1 + d, s.2 + d)
theorem sh_len (d : Int) (sl : List (Int × Int)) : (shL d sl).length = sl.length := by simp [shL]
theorem sh_get {d : Int} {sl : List (Int × Int)} {i : Nat} (h : i < sl.length) : (shL d sl).getD i (0, 0) = ((sl.getD i (0, 0)).1 + d, (sl.getD i (0, 0)).2 + d) := by
  simp [shL, List.getD, h]
theorem sh_before {d : Int} {sl : List (Int × Int)} {i k : Nat} (hi : i < sl.length) (hk : k < sl.length) : beforeP (shL d sl) i k ↔ beforeP sl i k := by
  unfold beforeP
  rw [sh_get hi, sh_get hk]
  simp only
  omega
theorem sh_ins {d : Int} {sl : List (Int × Int)} {i : Nat} (hi : i < sl.length) : ∀ r : List Nat, (∀ x ∈ r, x < sl.length) → insO (shL d sl) i r = insO sl i r
  | [], _ => rfl
  | k :: r, h => by
    have ih := sh_ins (d := d) hi r fun x hx => h x (List.mem_cons_of_mem _ hx)
    have hb := sh_before (d := d) hi (h k (List.mem_cons_self ..))
    simp only [insO]
    by_cases hc : beforeP sl i k
    · rw [if_pos hc, if_pos (hb.2 hc)]
    · rw [if_neg hc, if_neg (fun h => hc (hb.1 h)), ih]
theorem ordTo_mem {sl : List (Int × Int)} : ∀ (k x : Nat), x ∈ ordTo sl k → x < k
  | 0, x, h => by simp [ordTo] at h
  | k + 1, x, h => by
    have h2 := (insO_perm sl k (ordTo sl k)).mem_iff.1 h
    rcases List.mem_cons.1 h2 with rfl | h3
    · omega
    · have := ordTo_mem k x h3; omega
theorem sh_ord {d : Int} {sl : List (Int × Int)} : ∀ k, k ≤ sl.length → ordTo (shL d sl) k = ordTo sl k
  | 0, _ => rfl
  | k + 1, h => by
    have ih := sh_ord (d := d) (sl := sl) k (by omega)
    simp only [ordTo]
    rw [ih, sh_ins (by omega) _ fun x hx => by have := ordTo_mem k x hx; omega]
theorem sh_small {rest d : Int} {sl : List (Int × Int)} {t : List Int} {j : Nat} (hj : j < sl.length) : smallN rest (shL d sl) t ((shL d sl).getD j (0, 0)) = smallN rest sl t (sl.getD j (0, 0)) := by
  have hf : ∀ n, freeN rest (shL d sl) t ((shL d sl).getD j (0, 0)) n ↔ freeN rest sl t (sl.getD j (0, 0)) n := fun n => by
    unfold freeN
    rw [sh_len]
    refine forall_congr' fun i => forall_congr' fun hi => ?_
    rw [sh_get hi, sh_get hj]
    unfold clashP
    simp only
    constructor <;> intro h e hc <;> exact h e (by omega)
  have hF : ∀ f n, smallF rest (shL d sl) t ((shL d sl).getD j (0, 0)) f n = smallF rest sl t (sl.getD j (0, 0)) f n := by
    intro f
    induction f with
    | zero => intro n; rfl
    | succ f ih =>
      intro n
      simp only [smallF]
      by_cases h : freeN rest sl t (sl.getD j (0, 0)) n
      · rw [if_pos h, if_pos ((hf n).2 h)]
      · rw [if_neg h, if_neg (fun k => h ((hf n).1 k)), ih]
  unfold smallN
  rw [sh_len, hF]
theorem sh_planTo {rest d : Int} {sl : List (Int × Int)} : ∀ k, k ≤ sl.length → planTo rest (shL d sl) k = planTo rest sl k
  | 0, _ => rfl
  | k + 1, h => by
    have ih := sh_planTo (rest := rest) (d := d) (sl := sl) k (by omega)
    have ho : ordL (shL d sl) = ordL sl := by unfold ordL; rw [sh_len]; exact sh_ord _ (Nat.le_refl _)
    have hlt : (ordL sl).getD k 0 < sl.length := ordN_lt (show k < sl.length by omega)
    simp only [planTo]
    rw [ih, ho, sh_small hlt]
theorem sh_plan (rest d : Int) (sl : List (Int × Int)) : planL rest (shL d sl) = planL rest sl := by
  unfold planL
  rw [sh_len, sh_planTo _ (Nat.le_refl _)]
theorem sh_job {R rest d : Int} {sl : List (Int × Int)} (h : SmallJ R rest sl) (hR : R ≤ 1000) (hl : sl.length ≤ 40) (hd : 0 ≤ d ∧ d ≤ 1000) : jobErr rest (shL d sl) = 0 := by
  obtain ⟨h1, h2⟩ := h
  unfold jobErr
  rw [if_neg (by omega), if_neg (by rw [sh_len]; omega), if_pos]
  intro j hj
  rw [sh_len] at hj
  have := h2 j hj
  rw [sh_get hj]
  unfold slotOk
  simp only
  omega
theorem small_more {R rest more : Int} {sl : List (Int × Int)} (h : SmallJ R rest sl) (hm : 0 ≤ more ∧ more ≤ 255) : SmallJ (R + 255) (rest + more) sl := ⟨by have := h.1; omega, h.2⟩
theorem small_rot {R rest : Int} {sl : List (Int × Int)} (t : Nat) (h : SmallJ R rest sl) : SmallJ R rest (rotL t sl) := by
  refine ⟨h.1, fun j hj => ?_⟩
  rw [rot_len] at hj
  rw [rot_get hj]
  exact h.2 _ (Nat.mod_lt _ (by omega))
end Go.Pv
