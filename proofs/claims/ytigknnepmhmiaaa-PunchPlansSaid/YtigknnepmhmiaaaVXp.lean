/-
  What this text proves: the law PunchPlans returns true. Conditions: the values read as lists.
-/
import Derived.Test.YtigknnepmhmiaaaVXa
set_option linter.unusedVariables false
set_option linter.unusedSimpArgs false
namespace Go.Proofs.Ytigknnepmhmiaaa
open Go.Pv Go.RowKit
set_option maxHeartbeats 8000000
set_option maxRecDepth 20000
theorem lawPlans_any (rest : Int) (v : Value) (sl : List (Int × Int)) (w : World) (h : Prs w v sl) : Ret Try.prog 4 [.agg #[.int .i64 rest, v]] w fun r _ => r = .bool true := by
  have hv1 := h.one
  refine ret_of_c Try.func4 rfl Try.ntmps4 (Nat.le_of_ble_eq_true rfl) (by dsimp only [ini, Nat.reduceAdd] <;> exact rfl) ?_
  repeat' (first
      | ((first | ((with_reducible apply W_op); exact rfl; exact rfl)); (first | ((with_reducible apply r_move); ((conv => lhs; whnf) <;> exact rfl)) | ((with_reducible apply r_assign); ((conv => lhs; whnf) <;> exact rfl)) | ((with_reducible apply r_fieldAddr); exact rfl) | ((with_reducible apply r_load); exact rfl; exact rfl; (first | assumption | exact (Bx.cell (by repeat (first | assumption | ((with_reducible apply Bx.grownS); assumption; (first | omega | exact Bx.ne (by assumption) (by omega))) | ((with_reducible apply Bx.below); assumption; omega) | ((with_reducible apply Bx.ex); assumption))) _).trans rfl | exact Ex.cell (by assumption) (by assumption))) | ((with_reducible apply r_loadA); exact rfl; (first | assumption | exact Bx.cells (by repeat (first | assumption | ((with_reducible apply Bx.grownS); assumption; (first | omega | exact Bx.ne (by assumption) (by omega))) | ((with_reducible apply Bx.below); assumption; omega) | ((with_reducible apply Bx.ex); assumption))) | exact Cells.ex (by assumption) (by assumption)); exact rfl) | ((with_reducible apply r_gtr); exact rfl; exact rfl) | ((with_reducible apply r_eql); exact rfl; exact rfl) | ((with_reducible apply r_lenPrs); ((conv => lhs; whnf) <;> exact rfl); (focus ((repeat (first | assumption | ((with_reducible apply Bx.grownS); assumption; (first | omega | exact Bx.ne (by assumption) (by omega))) | ((with_reducible apply Bx.below); assumption; omega) | ((with_reducible apply Own.grownS); assumption; omega) | ((with_reducible apply Bx.ex); assumption) | ((with_reducible apply IntsK.ex); assumption) | ((with_reducible apply Own.ex); assumption) | ((with_reducible apply Prs.ex); assumption))); done))) | ((with_reducible apply r_pick_true); exact rfl; ((conv => lhs; whnf) <;> exact rfl)) | ((with_reducible apply r_pick_false); exact rfl; ((conv => lhs; whnf) <;> exact rfl)) | ((with_reducible apply r_extract); exact rfl; exact rfl)))
      | (refine W_callv (works_any _) rfl (fun wq he => ?_); have hsz := he.size)
      | (refine W_call (given_any rest v sl _ (by repeat (first | assumption | ((with_reducible apply Bx.grownS); assumption; (first | omega | exact Bx.ne (by assumption) (by omega))) | ((with_reducible apply Bx.below); assumption; omega) | ((with_reducible apply Own.grownS); assumption; omega) | ((with_reducible apply Bx.ex); assumption) | ((with_reducible apply IntsK.ex); assumption) | ((with_reducible apply Own.ex); assumption) | ((with_reducible apply Prs.ex); assumption))) (by omega)) rfl ?_; rintro vq wq ⟨u1, rfl, hu1⟩ he; have hsz := he.size; have hu1o := hu1.one)
      | (refine W_call (Passes_any rest v sl _ (by repeat (first | assumption | ((with_reducible apply Bx.grownS); assumption; (first | omega | exact Bx.ne (by assumption) (by omega))) | ((with_reducible apply Bx.below); assumption; omega) | ((with_reducible apply Own.grownS); assumption; omega) | ((with_reducible apply Bx.ex); assumption) | ((with_reducible apply IntsK.ex); assumption) | ((with_reducible apply Own.ex); assumption) | ((with_reducible apply Prs.ex); assumption)))) rfl ?_; rintro vq wq ⟨u2, rfl, hu2⟩ he; have hsz := he.size; have hu2o := hu2.one)
      | (refine W_call (refPassesF_any rest _ sl _ (Prs.ex (by repeat (first | assumption | exact Ex.refl _ | (refine Ex.trans ?_ (by assumption)) | (refine Ex.of_grown ?_ (by assumption) (by intro k hk; cases hk; omega)))) hu1)) rfl ?_; rintro vq wq ⟨u3, rfl, hu3⟩ he; have hsz := he.size; have hu3o := hu3.one)
      | (refine W_callv (Prove_any rest v sl _ (by repeat (first | assumption | ((with_reducible apply Bx.grownS); assumption; (first | omega | exact Bx.ne (by assumption) (by omega))) | ((with_reducible apply Bx.below); assumption; omega) | ((with_reducible apply Own.grownS); assumption; omega) | ((with_reducible apply Bx.ex); assumption) | ((with_reducible apply IntsK.ex); assumption) | ((with_reducible apply Own.ex); assumption) | ((with_reducible apply Prs.ex); assumption)))) rfl (fun wq he => ?_); have hsz := he.size)
      | (refine W_callv (refProve_any rest _ sl _ (Prs.ex (by repeat (first | assumption | exact Ex.refl _ | (refine Ex.trans ?_ (by assumption)) | (refine Ex.of_grown ?_ (by assumption) (by intro k hk; cases hk; omega)))) hu1)) rfl (fun wq he => ?_); have hsz := he.size)
      | (refine W_callv (numbers_same u2 u3 _ _ (IntsK.ex (by repeat (first | assumption | exact Ex.refl _ | (refine Ex.trans ?_ (by assumption)) | (refine Ex.of_grown ?_ (by assumption) (by intro k hk; cases hk; omega)))) hu2) (IntsK.ex (by repeat (first | assumption | exact Ex.refl _ | (refine Ex.trans ?_ (by assumption)) | (refine Ex.of_grown ?_ (by assumption) (by intro k hk; cases hk; omega)))) hu3)) rfl (fun wq he => ?_); have hsz := he.size)
      | (with_reducible apply W_nil)
      | ((with_reducible apply W_box); exact rfl; exact rfl; intro bq wq hbq he hnq; have hltq := Bx.lt hbq; have hsz := he.size)
      | ((with_reducible apply W_pass); exact rfl; exact rfl; exact rfl; exact rfl; exact rfl)
      | ((with_reducible apply W_take); exact rfl; exact rfl; exact rfl)
      | ((with_reducible apply W_split); exact rfl; exact rfl; intro _; rotate_left 1; intro _)
      | (with_reducible apply c_seq)
      | ((with_reducible apply c_region); kernel_rfl)
      | (with_reducible apply n_nq)
      | (with_reducible apply c_skip)
      | (with_reducible apply c_ret)
      | ((with_reducible apply c_cond_dec); exact rfl; intro _; rotate_left 1; intro _)
      | (with_reducible apply n_then)
      | (with_reducible apply r_then)
      | ((with_reducible apply p_ret1); exact rfl; exact rfl; ((conv => lhs; whnf) <;> exact rfl); refine ⟨_, rfl, ?_, (by repeat (first | assumption | exact Ex.refl _ | (refine Ex.trans ?_ (by assumption)) | (refine Ex.of_grown ?_ (by assumption) (by intro k hk; cases hk; omega))))⟩)
      | ((exfalso; omega)))
  all_goals rfl
end Go.Proofs.Ytigknnepmhmiaaa
