/-
  What this text proves: the reference accepts plans, finds the moment and the pass for one more slot, as the plain functions say. Conditions: the values read as lists.
-/
import Derived.Test.YtigknnepmhmiaaaVUj
set_option linter.unusedVariables false
set_option linter.unusedSimpArgs false
namespace Go.Pv
theorem bs {p : Nat → Prop} {k : Nat} (h : ∀ j, j < k → p j) (hk : p k) : ∀ j, j < k + 1 → p j := below_succ h hk
/-- The least beginning of the first k slots whose crowd has n slots. -/
def outTo (rest : Int) (sl : List (Int × Int)) (n : Int) : Nat → Int
  | 0 => -1
  | k + 1 => if ((crowdL rest sl (sl.getD k (0, 0)).1).length : Int) = n ∧ (outTo rest sl n k < 0 ∨ (sl.getD k (0, 0)).1 < outTo rest sl n k) then (sl.getD k (0, 0)).1 else outTo rest sl n k
theorem out_yes {rest n : Int} {sl : List (Int × Int)} {k : Nat} (h : ((crowdL rest sl (sl.getD k (0, 0)).1).length : Int) = n ∧ (outTo rest sl n k < 0 ∨ (sl.getD k (0, 0)).1 < outTo rest sl n k)) : outTo rest sl n (k + 1) = (sl.getD k (0, 0)).1 := by simp only [outTo]; rw [if_pos h]
theorem out_no {rest n : Int} {sl : List (Int × Int)} {k : Nat} (h : ¬ (((crowdL rest sl (sl.getD k (0, 0)).1).length : Int) = n ∧ (outTo rest sl n k < 0 ∨ (sl.getD k (0, 0)).1 < outTo rest sl n k))) : outTo rest sl n (k + 1) = outTo rest sl n k := by simp only [outTo]; rw [if_neg h]
theorem out_spec {rest n : Int} {sl : List (Int × Int)} (h0 : ∀ j, j < sl.length → 0 ≤ (sl.getD j (0, 0)).1) : ∀ k, k ≤ sl.length → (outTo rest sl n k = -1 ∧ ∀ j, j < k → ((crowdL rest sl (sl.getD j (0, 0)).1).length : Int) ≠ n) ∨ (∃ j, j < k ∧ outTo rest sl n k = (sl.getD j (0, 0)).1 ∧ ((crowdL rest sl (sl.getD j (0, 0)).1).length : Int) = n ∧ ∀ i, i < k → ((crowdL rest sl (sl.getD i (0, 0)).1).length : Int) = n → outTo rest sl n k ≤ (sl.getD i (0, 0)).1)
  | 0, _ => .inl ⟨rfl, fun j hj => by omega⟩
  | k + 1, hk => by
    have hk0 := h0 k (by omega)
    by_cases hc : ((crowdL rest sl (sl.getD k (0, 0)).1).length : Int) = n ∧ (outTo rest sl n k < 0 ∨ (sl.getD k (0, 0)).1 < outTo rest sl n k)
    · rw [out_yes hc]
      refine .inr ⟨k, by omega, rfl, hc.1, fun i hi he => ?_⟩
      rcases Nat.lt_or_ge i k with h1 | h1
      · rcases out_spec h0 k (by omega) with ⟨h2, h3⟩ | ⟨j, h2, h3, h4, h5⟩
        · exact absurd he (h3 i h1)
        · have := h5 i h1 he
          have := h0 j (by omega)
          omega
      · have : i = k := by omega
        subst this; omega
    · rw [out_no hc]
      rcases out_spec h0 k (by omega) with ⟨h2, h3⟩ | ⟨j, h2, h3, h4, h5⟩
      · refine .inl ⟨h2, below_succ h3 fun he => hc ⟨he, by omega⟩⟩
      · refine .inr ⟨j, by omega, h3, h4, fun i hi he => ?_⟩
        rcases Nat.lt_or_ge i k with h1 | h1
        · exact h5 i h1 he
        · have : i = k := by omega
          subst this
          have := h0 j (by omega)
          omega
theorem out_mom {rest : Int} {sl : List (Int × Int)} (hj : jobErr rest sl = 0) (hne : 0 < sl.length) : outTo rest sl (passL (planL rest sl)) sl.length = momL rest sl := by
  obtain ⟨⟨i, h1, h2⟩, h3, h4⟩ := mom_first hj hne
  have hji := job_inv hj
  rcases out_spec (rest := rest) (n := passL (planL rest sl)) (sl := sl) (fun j hj2 => (hji.2.2 j hj2).1) sl.length (Nat.le_refl _) with ⟨_, h6⟩ | ⟨j, h5, h6, h7, h8⟩
  · exact absurd (by rw [← h2]; exact h3) (h6 i h1)
  · have := h8 i h1 (by rw [← h2]; exact h3)
    have := h4 j h5 h7
    omega
theorem passL_0 {rest : Int} {sl : List (Int × Int)} (hj : jobErr rest sl = 0) : passL (planL rest sl) = 0 ↔ sl.length = 0 := by
  have hji := job_inv hj
  obtain ⟨h1, h2⟩ := planL_num (rest := rest) hji.2.1
  constructor
  · intro h
    rcases Nat.eq_zero_or_pos sl.length with h3 | h3
    · exact h3
    · have := (h1 0 h3); omega
  · intro h
    have : (planL rest sl).length = 0 := by rw [planL_len hji.2.1]; exact h
    unfold passL; rw [this]; rfl
end Go.Pv
namespace Go.Proofs.Ytigknnepmhmiaaa
open Go.Pv Go.RowKit
set_option maxHeartbeats 8000000
theorem refVerify_any (rest : Int) (v pv : Value) (sl : List (Int × Int)) (plan : List Int) (w : World) (h : Prs w v sl) (hp : Ints w pv plan) : Ret Try.prog 27 [.agg #[.int .i64 rest, v], pv] w fun r _ => r = .tuple #[.int .i64 (if planErr rest sl plan = 0 then passL plan else 0), .int .i64 (planErr rest sl plan)] := by
  have hv1 := h.one
  have hp1 := hp.one
  have hpl := hp.len
  have hsl := h.len
  have tA : True := trivial
  refine ret_of_c Try.func27 rfl Try.ntmps27 (Nat.le_of_ble_eq_true rfl) (by dsimp only [ini, Nat.reduceAdd] <;> exact rfl) ?_
  repeat' (first
      | (clear tA; (have tB : True := trivial); have hE : jobErr rest sl = 0 := (by omega); have hji := job_inv hE; have hln : plan.length = sl.length := (by omega); refine c_loopG (fun (k : Nat) ps wr => ∃ b1 : Nat, ∃ i : Int, ps = [(1, pv), (2, .pointer (some ⟨b1, 0, none⟩)), (7, .int .i64 i)] ∧ i = k ∧ k ≤ plan.length ∧ (∀ j, j < k → 0 ≤ plan.getD j 0 ∧ plan.getD j 0 ≤ 39) ∧ w.heap.size ≤ b1 ∧ Bx wr b1 [.int .i64 rest, v] 33 ∧ Ex w wr) (fun k => plan.length - k) 0 _ ⟨_, _, rfl, rfl, Nat.zero_le _, fun j hj => absurd hj (Nat.not_lt_zero _), by omega, (by repeat (first | assumption | ((with_reducible apply Bx.grownS); assumption; (first | omega | exact Bx.ne (by assumption) (by omega))) | ((with_reducible apply Bx.below); assumption; omega) | ((with_reducible apply Bx.ex); assumption))), (by repeat (first | assumption | exact Ex.refl _ | (refine Ex.trans ?_ (by assumption)) | (refine Ex.of_grown ?_ (by assumption) (by intro k hk; cases hk; omega))))⟩ ⟨rfl, rfl, rfl, trivial⟩ (by ((conv => lhs; whnf) <;> exact rfl)) (by ((conv => lhs; whnf) <;> exact rfl)) ?_; rintro JA hJA k u ps wr ⟨b1, i, rfl, rfl, hk, hall, hb1, hx1, he⟩; have hsz := he.size)
      | (clear tB; (have tC : True := trivial); have hnum : numsOk plan := (fun j hj => hall j (by omega)); refine c_loopG (fun (i : Nat) ps wr => ∃ ii : Int, ps = [(1, pv), (2, .pointer (some ⟨b1, 0, none⟩)), (8, .int .i64 ii)] ∧ ii = i ∧ i ≤ plan.length ∧ (∀ j, j < i → ∀ k, k < j → ¬ (plan.getD j 0 = plan.getD k 0 ∧ clashP rest (sl.getD j (0, 0)) (sl.getD k (0, 0)))) ∧ Bx wr b1 [.int .i64 rest, v] 33 ∧ Ex w wr) (fun i => plan.length - i) 0 _ ⟨_, rfl, rfl, Nat.zero_le _, fun j hj => absurd hj (Nat.not_lt_zero _), (by repeat (first | assumption | ((with_reducible apply Bx.grownS); assumption; (first | omega | exact Bx.ne (by assumption) (by omega))) | ((with_reducible apply Bx.below); assumption; omega) | ((with_reducible apply Bx.ex); assumption))), (by repeat (first | assumption | exact Ex.refl _ | (refine Ex.trans ?_ (by assumption)) | (refine Ex.of_grown ?_ (by assumption) (by intro k hk; cases hk; omega))))⟩ ⟨rfl, rfl, rfl, trivial⟩ (by ((conv => lhs; whnf) <;> exact rfl)) (by ((conv => lhs; whnf) <;> exact rfl)) ?_; rintro JB hJB i u ps wr ⟨ii, rfl, rfl, hi, hap, hx1, he⟩; have hsz := he.size; have tk : True := trivial)
      | ((with_reducible (show C _ _ _ _ _ _)); clear tk; refine c_loopG (fun (k : Nat) ps wr => ∃ kk : Int, ps = [(1, pv), (2, .pointer (some ⟨b1, 0, none⟩)), (8, .int .i64 i), (9, .int .i64 kk)] ∧ kk = k ∧ k ≤ i ∧ (∀ q, q < k → ¬ (plan.getD i 0 = plan.getD q 0 ∧ clashP rest (sl.getD i (0, 0)) (sl.getD q (0, 0)))) ∧ Bx wr b1 [.int .i64 rest, v] 33 ∧ Ex w wr) (fun k => i - k) 0 _ ⟨_, rfl, rfl, Nat.zero_le _, fun j hj => absurd hj (Nat.not_lt_zero _), (by repeat (first | assumption | ((with_reducible apply Bx.grownS); assumption; (first | omega | exact Bx.ne (by assumption) (by omega))) | ((with_reducible apply Bx.below); assumption; omega) | ((with_reducible apply Bx.ex); assumption))), (by repeat (first | assumption | exact Ex.refl _ | (refine Ex.trans ?_ (by assumption)) | (refine Ex.of_grown ?_ (by assumption) (by intro k hk; cases hk; omega))))⟩ ⟨rfl, rfl, rfl, rfl, trivial⟩ (by ((conv => lhs; whnf) <;> exact rfl)) (by ((conv => lhs; whnf) <;> exact rfl)) ?_; rintro JC hJC k u ps wr ⟨kk, rfl, rfl, hki, hin, hx1, he⟩; have hsz := he.size; have tk2 : True := trivial)
      | ((with_reducible (show C _ _ (Code.seq (Code.region 17 _ _) _) _ _ _)); clear tk2; have hi2 := hji.2.2 i (by omega); have hk2 := hji.2.2 k (by omega); (with_reducible apply c_seq))
      | (refine WQ_indexPr2 (i := i) (v := v) (xs := sl) rfl (by repeat (first | assumption | ((with_reducible apply Bx.grownS); assumption; (first | omega | exact Bx.ne (by assumption) (by omega))) | ((with_reducible apply Bx.below); assumption; omega) | ((with_reducible apply Own.grownS); assumption; omega) | ((with_reducible apply Bx.ex); assumption) | ((with_reducible apply IntsK.ex); assumption) | ((with_reducible apply Own.ex); assumption) | ((with_reducible apply Prs.ex); assumption))) rfl (by omega) ?_; intro pb po hpc hp0 hp1)
      | (refine WQ_indexPr2 (i := k) (v := v) (xs := sl) rfl (by repeat (first | assumption | ((with_reducible apply Bx.grownS); assumption; (first | omega | exact Bx.ne (by assumption) (by omega))) | ((with_reducible apply Bx.below); assumption; omega) | ((with_reducible apply Own.grownS); assumption; omega) | ((with_reducible apply Bx.ex); assumption) | ((with_reducible apply IntsK.ex); assumption) | ((with_reducible apply Own.ex); assumption) | ((with_reducible apply Prs.ex); assumption))) rfl (by omega) ?_; intro pb po hpc hp0 hp1)
      | ((first | ((with_reducible apply W_op); exact rfl; exact rfl) | ((with_reducible apply WQ_op); exact rfl; exact rfl; intro wq he) | ((with_reducible apply WM_op); exact rfl; exact rfl; intro wq he) | ((with_reducible apply WB_op); exact rfl; exact rfl; intro wq)); (first | ((with_reducible apply r_move); ((conv => lhs; whnf) <;> exact rfl)) | ((with_reducible apply r_assign); ((conv => lhs; whnf) <;> exact rfl)) | ((with_reducible apply r_fieldAddr); exact rfl) | ((with_reducible apply r_load); exact rfl; exact rfl; (first | assumption | exact (Bx.cell (by repeat (first | assumption | ((with_reducible apply Bx.grownS); assumption; (first | omega | exact Bx.ne (by assumption) (by omega))) | ((with_reducible apply Bx.below); assumption; omega) | ((with_reducible apply Bx.ex); assumption))) _).trans rfl | exact Ex.cell (by assumption) (by assumption))) | ((with_reducible apply r_loadA); exact rfl; (first | assumption | exact Bx.cells (by repeat (first | assumption | ((with_reducible apply Bx.grownS); assumption; (first | omega | exact Bx.ne (by assumption) (by omega))) | ((with_reducible apply Bx.below); assumption; omega) | ((with_reducible apply Bx.ex); assumption))) | exact Cells.ex (by assumption) (by assumption)); exact rfl) | ((with_reducible apply r_lss); exact rfl; exact rfl) | ((with_reducible apply r_eql); exact rfl; exact rfl) | ((with_reducible apply r_neq); exact rfl; exact rfl) | ((with_reducible apply r_add); exact rfl; exact rfl; omega) | ((with_reducible apply r_lenInts); ((conv => lhs; whnf) <;> exact rfl); (focus ((repeat (first | assumption | ((with_reducible apply Bx.grownS); assumption; (first | omega | exact Bx.ne (by assumption) (by omega))) | ((with_reducible apply Bx.below); assumption; omega) | ((with_reducible apply Own.grownS); assumption; omega) | ((with_reducible apply Bx.ex); assumption) | ((with_reducible apply IntsK.ex); assumption) | ((with_reducible apply Own.ex); assumption) | ((with_reducible apply Prs.ex); assumption))); done))) | ((with_reducible apply r_lenPrs); ((conv => lhs; whnf) <;> exact rfl); (focus ((repeat (first | assumption | ((with_reducible apply Bx.grownS); assumption; (first | omega | exact Bx.ne (by assumption) (by omega))) | ((with_reducible apply Bx.below); assumption; omega) | ((with_reducible apply Own.grownS); assumption; omega) | ((with_reducible apply Bx.ex); assumption) | ((with_reducible apply IntsK.ex); assumption) | ((with_reducible apply Own.ex); assumption) | ((with_reducible apply Prs.ex); assumption))); done))) | ((with_reducible apply r_pick_true); exact rfl; ((conv => lhs; whnf) <;> exact rfl)) | ((with_reducible apply r_pick_false); exact rfl; ((conv => lhs; whnf) <;> exact rfl)) | ((with_reducible apply r_not); exact rfl)))
      | (refine W_callv (refCheck_any rest v sl _ (by repeat (first | assumption | ((with_reducible apply Bx.grownS); assumption; (first | omega | exact Bx.ne (by assumption) (by omega))) | ((with_reducible apply Bx.below); assumption; omega) | ((with_reducible apply Own.grownS); assumption; omega) | ((with_reducible apply Bx.ex); assumption) | ((with_reducible apply IntsK.ex); assumption) | ((with_reducible apply Own.ex); assumption) | ((with_reducible apply Prs.ex); assumption)))) rfl (fun wq he => ?_); have hsz := he.size)
      | (refine W_callv (is_any _ 0 39 _) rfl (fun wq he => ?_); have hsz := he.size)
      | ((with_reducible (show Exit.then _ _ _ _ _)); refine n_roundG (k + 1) (hJA _ _ _ _ ⟨_, _, rfl, by omega, by omega, bs hall (Classical.not_not.1 (by assumption)), hb1, (by repeat (first | assumption | ((with_reducible apply Bx.grownS); assumption; (first | omega | exact Bx.ne (by assumption) (by omega))) | ((with_reducible apply Bx.below); assumption; omega) | ((with_reducible apply Bx.ex); assumption))), (by repeat (first | assumption | exact Ex.refl _ | (refine Ex.trans ?_ (by assumption)) | (refine Ex.of_grown ?_ (by assumption) (by intro k hk; cases hk; omega))))⟩ ⟨rfl, rfl, rfl, trivial⟩ rfl) (by omega))
      | ((with_reducible (show Exit.then _ _ _ _ _)); refine n_roundG (i + 1) (hJB _ _ _ _ ⟨_, rfl, by omega, by omega, bs hap (fun k hk => hin k (by omega)), (by repeat (first | assumption | ((with_reducible apply Bx.grownS); assumption; (first | omega | exact Bx.ne (by assumption) (by omega))) | ((with_reducible apply Bx.below); assumption; omega) | ((with_reducible apply Bx.ex); assumption))), (by repeat (first | assumption | exact Ex.refl _ | (refine Ex.trans ?_ (by assumption)) | (refine Ex.of_grown ?_ (by assumption) (by intro k hk; cases hk; omega))))⟩ ⟨rfl, rfl, rfl, trivial⟩ rfl) (by omega))
      | ((with_reducible (show Exit.then _ _ _ _ _)); refine n_roundG (k + 1) (hJC _ _ _ _ ⟨_, rfl, by omega, by omega, bs hin (fun hf => absurd hf.1 (by assumption)), (by repeat (first | assumption | ((with_reducible apply Bx.grownS); assumption; (first | omega | exact Bx.ne (by assumption) (by omega))) | ((with_reducible apply Bx.below); assumption; omega) | ((with_reducible apply Bx.ex); assumption))), (by repeat (first | assumption | exact Ex.refl _ | (refine Ex.trans ?_ (by assumption)) | (refine Ex.of_grown ?_ (by assumption) (by intro k hk; cases hk; omega))))⟩ ⟨rfl, rfl, rfl, rfl, trivial⟩ rfl) (by omega))
      | ((with_reducible (show Exit.then _ _ _ _ _)); refine n_roundG (k + 1) (hJC _ _ _ _ ⟨_, rfl, by omega, by omega, bs hin (fun hf => absurd hf.2 (by assumption)), (by repeat (first | assumption | ((with_reducible apply Bx.grownS); assumption; (first | omega | exact Bx.ne (by assumption) (by omega))) | ((with_reducible apply Bx.below); assumption; omega) | ((with_reducible apply Bx.ex); assumption))), (by repeat (first | assumption | exact Ex.refl _ | (refine Ex.trans ?_ (by assumption)) | (refine Ex.of_grown ?_ (by assumption) (by intro k hk; cases hk; omega))))⟩ ⟨rfl, rfl, rfl, rfl, trivial⟩ rfl) (by omega))
      | (refine WQ_callv (fun wq he => clash_any (sl.getD i (0, 0)).1 (sl.getD i (0, 0)).2 (sl.getD k (0, 0)).1 (sl.getD k (0, 0)).2 rest _ (by omega)) rfl ?_)
      | (refine W_callv (refPasses_any pv plan _ (by repeat (first | assumption | ((with_reducible apply Bx.grownS); assumption; (first | omega | exact Bx.ne (by assumption) (by omega))) | ((with_reducible apply Bx.below); assumption; omega) | ((with_reducible apply Own.grownS); assumption; omega) | ((with_reducible apply Bx.ex); assumption) | ((with_reducible apply IntsK.ex); assumption) | ((with_reducible apply Own.ex); assumption) | ((with_reducible apply Prs.ex); assumption))) (fun j hj => by have := hnum j hj; omega)) rfl (fun wq he => ?_); have hsz := he.size)
      | (with_reducible apply W_nil)
      | ((with_reducible apply WQ_nil); exact rfl; intro wq he; have hsz := he.size)
      | ((with_reducible apply W_box); exact rfl; exact rfl; intro bq wq hbq he hnq; have hltq := Bx.lt hbq; have hsz := he.size)
      | ((with_reducible apply W_indexInt); ((conv => lhs; whnf) <;> exact rfl); (focus ((repeat (first | assumption | ((with_reducible apply Bx.grownS); assumption; (first | omega | exact Bx.ne (by assumption) (by omega))) | ((with_reducible apply Bx.below); assumption; omega) | ((with_reducible apply Own.grownS); assumption; omega) | ((with_reducible apply Bx.ex); assumption) | ((with_reducible apply IntsK.ex); assumption) | ((with_reducible apply Own.ex); assumption) | ((with_reducible apply Prs.ex); assumption))); done)); exact rfl; omega; intro pq hpq)
      | ((with_reducible apply WQ_indexInt); ((conv => lhs; whnf) <;> exact rfl); (focus ((repeat (first | assumption | ((with_reducible apply Bx.grownS); assumption; (first | omega | exact Bx.ne (by assumption) (by omega))) | ((with_reducible apply Bx.below); assumption; omega) | ((with_reducible apply Own.grownS); assumption; omega) | ((with_reducible apply Bx.ex); assumption) | ((with_reducible apply IntsK.ex); assumption) | ((with_reducible apply Own.ex); assumption) | ((with_reducible apply Prs.ex); assumption))); done)); exact rfl; omega; intro pq hpq)
      | ((with_reducible apply WQ_pass); exact rfl; exact rfl; exact rfl; exact rfl; exact rfl)
      | ((with_reducible apply WQ_take); exact rfl; exact rfl; exact rfl)
      | ((with_reducible apply WQ_split); exact rfl; exact rfl; intro _; rotate_left 1; intro _)
      | ((with_reducible apply c_quiet); kernel_rfl)
      | (with_reducible apply c_seq)
      | ((with_reducible apply c_region); kernel_rfl)
      | (with_reducible apply n_nq)
      | (with_reducible apply c_block)
      | (with_reducible apply c_skip)
      | (with_reducible apply c_ret)
      | (with_reducible apply c_exit)
      | ((with_reducible apply c_cond_false); exact rfl)
      | ((with_reducible apply c_cond_dec); exact rfl; intro _; rotate_left 1; intro _)
      | (with_reducible apply n_then)
      | (with_reducible apply n_block)
      | (with_reducible apply e_then)
      | (with_reducible apply e_block)
      | (with_reducible apply r_then)
      | (with_reducible apply r_block)
      | ((with_reducible apply p_ret2); exact rfl; exact rfl; ((conv => lhs; whnf) <;> exact rfl); ((conv => lhs; whnf) <;> exact rfl); refine ⟨_, rfl, ?_, (by repeat (first | assumption | exact Ex.refl _ | (refine Ex.trans ?_ (by assumption)) | (refine Ex.of_grown ?_ (by assumption) (by intro k hk; cases hk; omega))))⟩))
  · rw [pe_ok hE hln hnum (fun i hi k hk => hap i (by omega) k hk)]; rfl
  · rw [pe_apart hE hln hnum (fun ha => ha i (by omega) k (by omega) ⟨by assumption, by assumption⟩)]; rfl
  · rw [pe_num hE hln (fun hn => absurd (hn k (by omega)) (by assumption))]; rfl
  · rw [pe_len (by omega) (by omega)]; rfl
  · rw [pe_job (by omega), if_neg (by omega)]
theorem refAdd_any (rest a b : Int) (v pv : Value) (sl : List (Int × Int)) (plan : List Int) (w : World) (h : Prs w v sl) (hp : Ints w pv plan) : Ret Try.prog 29 [.agg #[.int .i64 rest, v], pv, .agg #[.int .i64 a, .int .i64 b]] w fun r _ => r = .tuple #[.int .i64 (if addErr rest sl plan (a, b) = 0 then smallN rest sl (fillP plan) (a, b) else 0), .int .i64 (addErr rest sl plan (a, b))] := by
  have hv1 := h.one
  have hp1 := hp.one
  have tA : True := trivial
  refine ret_of_c Try.func29 rfl Try.ntmps29 (Nat.le_of_ble_eq_true rfl) (by dsimp only [ini, Nat.reduceAdd] <;> exact rfl) ?_
  repeat' (first
      | (clear tA; have hE : planErr rest sl plan = 0 := (by omega); have hpi := planErr_inv hE; have hji := job_inv hpi.1; (have hso : slotOk (a, b) := Classical.not_not.1 (by assumption)); (have hso2 : 0 ≤ b ∧ b ≤ 1000000 := (by have h1 := hso; unfold slotOk at h1; simp only at h1; omega)); refine W_callv (refSmallest_any rest a b v pv sl plan _ (by repeat (first | assumption | ((with_reducible apply Bx.grownS); assumption; (first | omega | exact Bx.ne (by assumption) (by omega))) | ((with_reducible apply Bx.below); assumption; omega) | ((with_reducible apply Own.grownS); assumption; omega) | ((with_reducible apply Bx.ex); assumption) | ((with_reducible apply IntsK.ex); assumption) | ((with_reducible apply Own.ex); assumption) | ((with_reducible apply Prs.ex); assumption))) (by repeat (first | assumption | ((with_reducible apply Bx.grownS); assumption; (first | omega | exact Bx.ne (by assumption) (by omega))) | ((with_reducible apply Bx.below); assumption; omega) | ((with_reducible apply Own.grownS); assumption; omega) | ((with_reducible apply Bx.ex); assumption) | ((with_reducible apply IntsK.ex); assumption) | ((with_reducible apply Own.ex); assumption) | ((with_reducible apply Prs.ex); assumption))) hpi.2.1 hji.2.1 ⟨⟨hji.1.1, by omega⟩, fun j hj => ⟨by have := hji.2.2 j hj; omega, (hji.2.2 j hj).2.2⟩, hso2.1, hso2.2⟩) rfl (fun wq he => ?_); have hsz := he.size)
      | ((first | ((with_reducible apply W_op); exact rfl; exact rfl)); (first | ((with_reducible apply r_move); ((conv => lhs; whnf) <;> exact rfl)) | ((with_reducible apply r_assign); ((conv => lhs; whnf) <;> exact rfl)) | ((with_reducible apply r_loadA); exact rfl; (first | assumption | exact Bx.cells (by repeat (first | assumption | ((with_reducible apply Bx.grownS); assumption; (first | omega | exact Bx.ne (by assumption) (by omega))) | ((with_reducible apply Bx.below); assumption; omega) | ((with_reducible apply Bx.ex); assumption))) | exact Cells.ex (by assumption) (by assumption)); exact rfl) | ((with_reducible apply r_neq); exact rfl; exact rfl) | ((with_reducible apply r_not); exact rfl) | ((with_reducible apply r_extract); exact rfl; exact rfl)))
      | (refine W_callv (refVerify_any rest v pv sl plan _ (by repeat (first | assumption | ((with_reducible apply Bx.grownS); assumption; (first | omega | exact Bx.ne (by assumption) (by omega))) | ((with_reducible apply Bx.below); assumption; omega) | ((with_reducible apply Own.grownS); assumption; omega) | ((with_reducible apply Bx.ex); assumption) | ((with_reducible apply IntsK.ex); assumption) | ((with_reducible apply Own.ex); assumption) | ((with_reducible apply Prs.ex); assumption))) (by repeat (first | assumption | ((with_reducible apply Bx.grownS); assumption; (first | omega | exact Bx.ne (by assumption) (by omega))) | ((with_reducible apply Bx.below); assumption; omega) | ((with_reducible apply Own.grownS); assumption; omega) | ((with_reducible apply Bx.ex); assumption) | ((with_reducible apply IntsK.ex); assumption) | ((with_reducible apply Own.ex); assumption) | ((with_reducible apply Prs.ex); assumption)))) rfl (fun wq he => ?_); have hsz := he.size)
      | (refine W_callv (refSlot_any a b _) rfl (fun wq he => ?_); have hsz := he.size)
      | (with_reducible apply W_nil)
      | ((with_reducible apply W_box); exact rfl; exact rfl; intro bq wq hbq he hnq; have hltq := Bx.lt hbq; have hsz := he.size)
      | (with_reducible apply c_seq)
      | ((with_reducible apply c_region); kernel_rfl)
      | (with_reducible apply n_nq)
      | (with_reducible apply c_skip)
      | (with_reducible apply c_ret)
      | ((with_reducible apply c_cond_dec); exact rfl; intro _; rotate_left 1; intro _)
      | (with_reducible apply n_then)
      | (with_reducible apply r_then)
      | ((with_reducible apply p_ret2); exact rfl; exact rfl; ((conv => lhs; whnf) <;> exact rfl); ((conv => lhs; whnf) <;> exact rfl); refine ⟨_, rfl, ?_, (by repeat (first | assumption | exact Ex.refl _ | (refine Ex.trans ?_ (by assumption)) | (refine Ex.of_grown ?_ (by assumption) (by intro k hk; cases hk; omega))))⟩))
  · rw [ae_ok hE hso, if_pos rfl]
    congr 4
    exact small_take fun i hi => by rw [fillP_get (by omega)]; simp [show i < plan.length by omega]
  · rw [ae_bad (by omega) (by assumption), if_neg (by omega)]
  · rw [ae_plan (by omega), if_neg (by omega)]
theorem refProve_any (rest : Int) (v : Value) (sl : List (Int × Int)) (w : World) (h : Prs w v sl) : Ret Try.prog 25 [.agg #[.int .i64 rest, v]] w fun r _ => r = .tuple #[.int .i64 (if proveErr rest sl = 0 then momL rest sl else 0), .int .i64 (proveErr rest sl)] := by
  have hv1 := h.one
  have hsl := h.len
  have tA : True := trivial
  refine ret_of_c Try.func25 rfl Try.ntmps25 (Nat.le_of_ble_eq_true rfl) (by dsimp only [ini, Nat.reduceAdd] <;> exact rfl) ?_
  repeat' (first
      | (clear tA; (have tB : True := trivial); have hE : jobErr rest sl = 0 := (by omega); have hji := job_inv hE; have h0 := passL_0 hE; (have eP : (if jobErr rest sl = 0 then passL (planL rest sl) else 0) = passL (planL rest sl) := if_pos hE); refine c_loopG (fun (k : Nat) ps wr => ∃ b1 : Nat, ∃ o : Int, ∃ i : Int, ps = [(1, .pointer (some ⟨b1, 0, none⟩)), (5, .int .i64 (if jobErr rest sl = 0 then passL (planL rest sl) else 0)), (7, .int .i64 o), (8, .int .i64 i)] ∧ i = k ∧ k ≤ sl.length ∧ o = outTo rest sl (passL (planL rest sl)) k ∧ w.heap.size ≤ b1 ∧ Bx wr b1 [.int .i64 rest, v] 33 ∧ Ex w wr) (fun k => sl.length - k) 0 _ ⟨_, _, _, rfl, rfl, Nat.zero_le _, rfl, by omega, (by repeat (first | assumption | ((with_reducible apply Bx.grownS); assumption; (first | omega | exact Bx.ne (by assumption) (by omega))) | ((with_reducible apply Bx.below); assumption; omega) | ((with_reducible apply Bx.ex); assumption))), (by repeat (first | assumption | exact Ex.refl _ | (refine Ex.trans ?_ (by assumption)) | (refine Ex.of_grown ?_ (by assumption) (by intro k hk; cases hk; omega))))⟩ ⟨rfl, rfl, rfl, rfl, trivial⟩ (by ((conv => lhs; whnf) <;> exact rfl)) (by ((conv => lhs; whnf) <;> exact rfl)) ?_; rintro JA hJA k u ps wr ⟨b1, o, i, rfl, rfl, hk, ho, hb1, hx1, he⟩; have hsz := he.size)
      | (refine W_indexPr2 (i := k) (v := v) (xs := sl) rfl (by repeat (first | assumption | ((with_reducible apply Bx.grownS); assumption; (first | omega | exact Bx.ne (by assumption) (by omega))) | ((with_reducible apply Bx.below); assumption; omega) | ((with_reducible apply Own.grownS); assumption; omega) | ((with_reducible apply Bx.ex); assumption) | ((with_reducible apply IntsK.ex); assumption) | ((with_reducible apply Own.ex); assumption) | ((with_reducible apply Prs.ex); assumption))) rfl (by omega) ?_; intro pb po hpc hp0 hp1)
      | ((with_reducible apply W_op); exact rfl; exact rfl; exact r_load rfl rfl hp0)
      | ((first | ((with_reducible apply W_op); exact rfl; exact rfl)); (first | ((with_reducible apply r_move); ((conv => lhs; whnf) <;> exact rfl)) | ((with_reducible apply r_assign); ((conv => lhs; whnf) <;> exact rfl)) | ((with_reducible apply r_fieldAddr); exact rfl) | ((with_reducible apply r_load); exact rfl; exact rfl; (first | assumption | exact (Bx.cell (by repeat (first | assumption | ((with_reducible apply Bx.grownS); assumption; (first | omega | exact Bx.ne (by assumption) (by omega))) | ((with_reducible apply Bx.below); assumption; omega) | ((with_reducible apply Bx.ex); assumption))) _).trans rfl | exact Ex.cell (by assumption) (by assumption))) | ((with_reducible apply r_loadA); exact rfl; (first | assumption | exact Bx.cells (by repeat (first | assumption | ((with_reducible apply Bx.grownS); assumption; (first | omega | exact Bx.ne (by assumption) (by omega))) | ((with_reducible apply Bx.below); assumption; omega) | ((with_reducible apply Bx.ex); assumption))) | exact Cells.ex (by assumption) (by assumption)); exact rfl) | ((with_reducible apply r_lss); exact rfl; exact rfl) | ((with_reducible apply r_eql); exact rfl; exact rfl) | ((with_reducible apply r_neq); exact rfl; exact rfl) | ((with_reducible apply r_add); exact rfl; exact rfl; omega) | ((with_reducible apply r_lenInts); ((conv => lhs; whnf) <;> exact rfl); (focus ((repeat (first | assumption | ((with_reducible apply Bx.grownS); assumption; (first | omega | exact Bx.ne (by assumption) (by omega))) | ((with_reducible apply Bx.below); assumption; omega) | ((with_reducible apply Own.grownS); assumption; omega) | ((with_reducible apply Bx.ex); assumption) | ((with_reducible apply IntsK.ex); assumption) | ((with_reducible apply Own.ex); assumption) | ((with_reducible apply Prs.ex); assumption))); done))) | ((with_reducible apply r_lenPrs); ((conv => lhs; whnf) <;> exact rfl); (focus ((repeat (first | assumption | ((with_reducible apply Bx.grownS); assumption; (first | omega | exact Bx.ne (by assumption) (by omega))) | ((with_reducible apply Bx.below); assumption; omega) | ((with_reducible apply Own.grownS); assumption; omega) | ((with_reducible apply Bx.ex); assumption) | ((with_reducible apply IntsK.ex); assumption) | ((with_reducible apply Own.ex); assumption) | ((with_reducible apply Prs.ex); assumption))); done))) | ((with_reducible apply r_pick_true); exact rfl; ((conv => lhs; whnf) <;> exact rfl)) | ((with_reducible apply r_pick_false); exact rfl; ((conv => lhs; whnf) <;> exact rfl)) | ((with_reducible apply r_extract); exact rfl; exact rfl)))
      | (refine W_call (refPassesF_any rest v sl _ (by repeat (first | assumption | ((with_reducible apply Bx.grownS); assumption; (first | omega | exact Bx.ne (by assumption) (by omega))) | ((with_reducible apply Bx.below); assumption; omega) | ((with_reducible apply Own.grownS); assumption; omega) | ((with_reducible apply Bx.ex); assumption) | ((with_reducible apply IntsK.ex); assumption) | ((with_reducible apply Own.ex); assumption) | ((with_reducible apply Prs.ex); assumption)))) rfl ?_; rintro vq wq ⟨u, rfl, hu⟩ he; have hsz := he.size; have hu1 := hu.one)
      | ((with_reducible (show Exit.then _ _ _ _ _)); refine n_roundG (k + 1) (hJA _ _ _ _ ⟨_, _, _, rfl, by omega, by omega, (by first | exact (out_yes (by omega)).symm | (rw [out_no (by omega)]; exact ho)), hb1, (by repeat (first | assumption | ((with_reducible apply Bx.grownS); assumption; (first | omega | exact Bx.ne (by assumption) (by omega))) | ((with_reducible apply Bx.below); assumption; omega) | ((with_reducible apply Bx.ex); assumption))), (by repeat (first | assumption | exact Ex.refl _ | (refine Ex.trans ?_ (by assumption)) | (refine Ex.of_grown ?_ (by assumption) (by intro k hk; cases hk; omega))))⟩ ⟨rfl, rfl, rfl, rfl, trivial⟩ rfl) (by omega))
      | (refine W_call (refCrowd1_any rest _ v sl _ (by repeat (first | assumption | ((with_reducible apply Bx.grownS); assumption; (first | omega | exact Bx.ne (by assumption) (by omega))) | ((with_reducible apply Bx.below); assumption; omega) | ((with_reducible apply Own.grownS); assumption; omega) | ((with_reducible apply Bx.ex); assumption) | ((with_reducible apply IntsK.ex); assumption) | ((with_reducible apply Own.ex); assumption) | ((with_reducible apply Prs.ex); assumption))) hE) rfl ?_; rintro vq wq hown he; have hsz := he.size; have hin := Pv.Own.ints hown)
      | (with_reducible apply W_nil)
      | ((with_reducible apply W_box); exact rfl; exact rfl; intro bq wq hbq he hnq; have hltq := Bx.lt hbq; have hsz := he.size)
      | ((with_reducible apply W_pass); exact rfl; exact rfl; exact rfl; exact rfl; exact rfl)
      | ((with_reducible apply W_take); exact rfl; exact rfl; exact rfl)
      | ((with_reducible apply W_passU); exact rfl; exact rfl; exact rfl; exact rfl)
      | ((with_reducible apply W_split); exact rfl; exact rfl; intro _; rotate_left 1; intro _)
      | (with_reducible apply c_seq)
      | ((with_reducible apply c_region); kernel_rfl)
      | (with_reducible apply n_nq)
      | (with_reducible apply c_block)
      | (with_reducible apply c_skip)
      | (with_reducible apply c_ret)
      | (with_reducible apply c_exit)
      | ((with_reducible apply c_cond_true); exact rfl)
      | ((with_reducible apply c_cond_false); exact rfl)
      | ((with_reducible apply c_cond_dec); exact rfl; intro _; rotate_left 1; intro _)
      | (with_reducible apply n_then)
      | (with_reducible apply n_block)
      | (with_reducible apply e_then)
      | (with_reducible apply e_block)
      | (with_reducible apply r_then)
      | ((with_reducible apply p_ret2); exact rfl; exact rfl; ((conv => lhs; whnf) <;> exact rfl); ((conv => lhs; whnf) <;> exact rfl); refine ⟨_, rfl, ?_, (by repeat (first | assumption | exact Ex.refl _ | (refine Ex.trans ?_ (by assumption)) | (refine Ex.of_grown ?_ (by assumption) (by intro k hk; cases hk; omega))))⟩))
  · have hne : ¬ sl.length = 0 := fun e => (by assumption : ¬ (if jobErr rest sl = 0 then passL (planL rest sl) else 0) = 0) (by rw [eP]; exact h0.2 e)
    have hp : proveErr rest sl = 0 := by unfold proveErr; rw [if_neg (by omega), if_neg hne]
    have e : k = sl.length := by omega
    rw [hp, if_pos rfl, ho, e, out_mom hE (by omega)]
  · have hE : jobErr rest sl = 0 := by omega
    have h1 := (by assumption : (if jobErr rest sl = 0 then passL (planL rest sl) else 0) = 0)
    rw [if_pos hE] at h1
    have hp : proveErr rest sl = 8 := by unfold proveErr; rw [if_neg (by omega), if_pos ((passL_0 hE).1 h1)]
    rw [hp, if_neg (by omega)]
  · have hp : proveErr rest sl = jobErr rest sl := by unfold proveErr; rw [if_pos (by omega)]
    rw [hp, if_neg (by omega)]
end Go.Proofs.Ytigknnepmhmiaaa
