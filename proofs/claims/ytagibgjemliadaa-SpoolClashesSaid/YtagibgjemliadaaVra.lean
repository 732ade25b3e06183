/-
  What this text proves: the reference's checks, lengths, places and arrivals are as the plain functions say. Conditions: the bounds that stand in each.
-/
import Derived.Test.YtagibgjemliadaaVc
set_option linter.unusedVariables false
set_option linter.unusedSimpArgs false

namespace Go.Proofs.Ytagibgjemliadaa
open Go.Pv Go.RowKit
set_option maxHeartbeats 8000000

theorem ris1_any (n lo hi : Int) (w : World) : Ret Try.prog 73 [.int .i64 n, .int .i64 lo, .int .i64 hi] w fun r _ => r = .bool (decide (lo ≤ n ∧ n ≤ hi)) := by
  refine ret_of_c Try.func73 rfl Try.ntmps73 (Nat.le_of_ble_eq_true rfl) (by dsimp only [ini, Nat.reduceAdd] <;> exact rfl) ?_
  repeat' (first
      | ((first | ((with_reducible apply W_op); exact rfl; exact rfl)); (first | ((with_reducible apply r_move); ((conv => lhs; whnf) <;> exact rfl)) | ((with_reducible apply r_assign); ((conv => lhs; whnf) <;> exact rfl)) | ((with_reducible apply r_leq); exact rfl; exact rfl) | ((with_reducible apply r_geq); exact rfl; exact rfl) | ((with_reducible apply r_pick_true); exact rfl; ((conv => lhs; whnf) <;> exact rfl)) | ((with_reducible apply r_pick_false); exact rfl; ((conv => lhs; whnf) <;> exact rfl))))
      | (with_reducible apply W_nil)
      | ((with_reducible apply W_pass); exact rfl; exact rfl; exact rfl; exact rfl; exact rfl)
      | ((with_reducible apply W_take); exact rfl; exact rfl; exact rfl)
      | ((with_reducible apply W_passU); exact rfl; exact rfl; exact rfl; exact rfl)
      | ((with_reducible apply W_split); exact rfl; exact rfl; intro _; rotate_left 1; intro _)
      | (with_reducible apply c_seq)
      | (with_reducible apply c_region)
      | (with_reducible apply c_skip)
      | (with_reducible apply c_ret)
      | (with_reducible apply n_then)
      | (with_reducible apply e_then)
      | (with_reducible apply r_then)
      | ((with_reducible apply p_ret1); exact rfl; ((conv => lhs; whnf) <;> exact rfl); refine ⟨_, rfl, ?_, (by repeat (first | assumption | exact Ex.refl _ | (refine Ex.trans ?_ (by assumption)) | (refine Ex.of_grown ?_ (by assumption) (by intro k hk; cases hk; omega))))⟩)
      | ((with_reducible apply q_ret1); exact rfl; ((conv => lhs; whnf) <;> exact rfl); refine ⟨_, rfl, ?_, (by repeat (first | assumption | exact Ex.refl _ | (refine Ex.trans ?_ (by assumption)) | (refine Ex.of_grown ?_ (by assumption) (by intro k hk; cases hk; omega))))⟩)
      | ((with_reducible apply p_retct); exact rfl; exact inferInstance; exact inferInstance; exact rfl; (focus ((repeat (first | assumption | ((with_reducible apply Bx.grownS); assumption; (first | omega | exact Nat.ne_of_lt (Nat.lt_of_lt_of_le (Bx.lt (by assumption)) (by omega)))) | ((with_reducible apply Bx.below); assumption; omega) | ((with_reducible apply Bx.ex); assumption))); done)); exact rfl; exact rfl; refine ⟨_, rfl, ?_, (by repeat (first | assumption | exact Ex.refl _ | (refine Ex.trans ?_ (by assumption)) | (refine Ex.of_grown ?_ (by assumption) (by intro k hk; cases hk; omega))))⟩)
      | ((exfalso; omega)))
  all_goals first
    | (apply bool_iff; omega)
    | (apply bool_ff; omega)
    | (apply bool_tt; omega)
theorem ris_any (n lo hi : Int) (w : World) : Ret Try.prog 51 [.int .i64 n, .int .i64 lo, .int .i64 hi] w fun r _ => r = .bool (decide (lo ≤ n ∧ n ≤ hi)) := by
  refine ret_of_c Try.func51 rfl Try.ntmps51 (Nat.le_of_ble_eq_true rfl) (by dsimp only [ini, Nat.reduceAdd] <;> exact rfl) ?_
  repeat' (first
      | ((first | ((with_reducible apply W_op); exact rfl; exact rfl)); (first | ((with_reducible apply r_move); ((conv => lhs; whnf) <;> exact rfl)) | ((with_reducible apply r_assign); ((conv => lhs; whnf) <;> exact rfl))))
      | (refine W_callv (ris1_any n lo hi _) rfl (fun wq he => ?_); have hsz := he.size)
      | (with_reducible apply W_nil)
      | (with_reducible apply c_seq)
      | (with_reducible apply c_region)
      | (with_reducible apply c_skip)
      | (with_reducible apply c_ret)
      | (with_reducible apply n_then)
      | (with_reducible apply e_then)
      | (with_reducible apply r_then)
      | ((with_reducible apply p_ret1); exact rfl; ((conv => lhs; whnf) <;> exact rfl); refine ⟨_, rfl, ?_, (by repeat (first | assumption | exact Ex.refl _ | (refine Ex.trans ?_ (by assumption)) | (refine Ex.of_grown ?_ (by assumption) (by intro k hk; cases hk; omega))))⟩)
      | ((with_reducible apply q_ret1); exact rfl; ((conv => lhs; whnf) <;> exact rfl); refine ⟨_, rfl, ?_, (by repeat (first | assumption | exact Ex.refl _ | (refine Ex.trans ?_ (by assumption)) | (refine Ex.of_grown ?_ (by assumption) (by intro k hk; cases hk; omega))))⟩)
      | ((with_reducible apply p_retct); exact rfl; exact inferInstance; exact inferInstance; exact rfl; (focus ((repeat (first | assumption | ((with_reducible apply Bx.grownS); assumption; (first | omega | exact Nat.ne_of_lt (Nat.lt_of_lt_of_le (Bx.lt (by assumption)) (by omega)))) | ((with_reducible apply Bx.below); assumption; omega) | ((with_reducible apply Bx.ex); assumption))); done)); exact rfl; exact rfl; refine ⟨_, rfl, ?_, (by repeat (first | assumption | exact Ex.refl _ | (refine Ex.trans ?_ (by assumption)) | (refine Ex.of_grown ?_ (by assumption) (by intro k hk; cases hk; omega))))⟩)
      | ((exfalso; omega)))
  rfl
theorem rCheck_any (co ti lo hi : Int) (w : World) : Ret Try.prog 22 [.agg #[.int .i64 co, .int .i64 ti, .int .i64 lo, .int .i64 hi]] w fun r _ => r = .int .i64 (spErr co ti lo hi) := by
  refine ret_of_c Try.func22 rfl Try.ntmps22 (Nat.le_of_ble_eq_true rfl) (by dsimp only [ini, Nat.reduceAdd] <;> exact rfl) ?_
  repeat' (first
      | ((first | ((with_reducible apply W_op); exact rfl; exact rfl)); (first | ((with_reducible apply r_move); ((conv => lhs; whnf) <;> exact rfl)) | ((with_reducible apply r_assign); ((conv => lhs; whnf) <;> exact rfl)) | ((with_reducible apply r_fieldAddr); exact rfl) | ((with_reducible apply r_load); exact rfl; exact rfl; (first | assumption | exact (Bx.cell (by repeat (first | assumption | ((with_reducible apply Bx.grownS); assumption; (first | omega | exact Nat.ne_of_lt (Nat.lt_of_lt_of_le (Bx.lt (by assumption)) (by omega)))) | ((with_reducible apply Bx.below); assumption; omega) | ((with_reducible apply Bx.ex); assumption))) _).trans rfl | exact Ex.cell (by assumption) (by assumption))) | ((with_reducible apply r_loadF); exact rfl; (first | assumption | exact (Bx.cell (by repeat (first | assumption | ((with_reducible apply Bx.grownS); assumption; (first | omega | exact Nat.ne_of_lt (Nat.lt_of_lt_of_le (Bx.lt (by assumption)) (by omega)))) | ((with_reducible apply Bx.below); assumption; omega) | ((with_reducible apply Bx.ex); assumption))) _).trans rfl | exact Ex.cell (by assumption) (by assumption))) | ((with_reducible apply r_loadA); exact rfl; (first | assumption | exact Bx.cells (by repeat (first | assumption | ((with_reducible apply Bx.grownS); assumption; (first | omega | exact Nat.ne_of_lt (Nat.lt_of_lt_of_le (Bx.lt (by assumption)) (by omega)))) | ((with_reducible apply Bx.below); assumption; omega) | ((with_reducible apply Bx.ex); assumption))) | exact Cells.ex (by assumption) (by assumption)); exact rfl) | ((with_reducible apply r_gtr); exact rfl; exact rfl) | ((with_reducible apply r_pick_true); exact rfl; ((conv => lhs; whnf) <;> exact rfl)) | ((with_reducible apply r_pick_false); exact rfl; ((conv => lhs; whnf) <;> exact rfl)) | ((with_reducible apply r_not); exact rfl) | ((with_reducible apply r_notb); exact rfl) | ((with_reducible apply r_loadSub); exact rfl; (focus ((repeat (first | assumption | ((with_reducible apply Bx.grownS); assumption; (first | omega | exact Nat.ne_of_lt (Nat.lt_of_lt_of_le (Bx.lt (by assumption)) (by omega)))) | ((with_reducible apply Bx.below); assumption; omega) | ((with_reducible apply Bx.ex); assumption))); done)); ((simp only [Nat.add_zero, Nat.zero_add, Nat.reduceAdd, List.drop_zero, List.drop_succ_cons, List.take_succ_cons, List.take_zero]) <;> exact rfl); exact rfl)))
      | (refine W_callv (ris_any _ _ _ _) rfl (fun wq he => ?_); have hsz := he.size)
      | (with_reducible apply W_nil)
      | ((with_reducible apply W_box); exact rfl; exact rfl; intro bq wq hbq he hnq; have hltq := Bx.lt hbq; have hsz := he.size)
      | ((with_reducible apply W_pass); exact rfl; exact rfl; exact rfl; exact rfl; exact rfl)
      | ((with_reducible apply W_take); exact rfl; exact rfl; exact rfl)
      | ((with_reducible apply W_passU); exact rfl; exact rfl; exact rfl; exact rfl)
      | ((with_reducible apply W_split); exact rfl; exact rfl; intro _; rotate_left 1; intro _)
      | (with_reducible apply c_seq)
      | (with_reducible apply c_region)
      | (with_reducible apply c_skip)
      | (with_reducible apply c_ret)
      | ((with_reducible apply c_cond_true); exact rfl)
      | ((with_reducible apply c_cond_false); exact rfl)
      | ((with_reducible apply c_cond_dec); exact rfl; intro _; rotate_left 1; intro _)
      | ((with_reducible apply c_cond_bool); exact rfl; intro _; rotate_left 1; intro _)
      | (with_reducible apply n_then)
      | (with_reducible apply e_then)
      | (with_reducible apply r_then)
      | ((with_reducible apply p_ret1); exact rfl; ((conv => lhs; whnf) <;> exact rfl); refine ⟨_, rfl, ?_, (by repeat (first | assumption | exact Ex.refl _ | (refine Ex.trans ?_ (by assumption)) | (refine Ex.of_grown ?_ (by assumption) (by intro k hk; cases hk; omega))))⟩)
      | ((with_reducible apply q_ret1); exact rfl; ((conv => lhs; whnf) <;> exact rfl); refine ⟨_, rfl, ?_, (by repeat (first | assumption | exact Ex.refl _ | (refine Ex.trans ?_ (by assumption)) | (refine Ex.of_grown ?_ (by assumption) (by intro k hk; cases hk; omega))))⟩)
      | ((with_reducible apply p_retct); exact rfl; exact inferInstance; exact inferInstance; exact rfl; (focus ((repeat (first | assumption | ((with_reducible apply Bx.grownS); assumption; (first | omega | exact Nat.ne_of_lt (Nat.lt_of_lt_of_le (Bx.lt (by assumption)) (by omega)))) | ((with_reducible apply Bx.below); assumption; omega) | ((with_reducible apply Bx.ex); assumption))); done)); exact rfl; exact rfl; refine ⟨_, rfl, ?_, (by repeat (first | assumption | exact Ex.refl _ | (refine Ex.trans ?_ (by assumption)) | (refine Ex.of_grown ?_ (by assumption) (by intro k hk; cases hk; omega))))⟩)
      | ((exfalso; omega)))
  all_goals unfold spErr
  all_goals first
    | (rw [if_pos (by unfold spOk; omega)])
    | (rw [if_neg (by unfold spOk; omega)])
theorem rlength_any (co ti lo hi g n : Int) (w : World) (hc : 1 ≤ co ∧ co ≤ 100000) (hg : 0 ≤ g ∧ g ≤ 1000) (hn : 0 ≤ n ∧ n ≤ 1000) : Ret Try.prog 52 [.agg #[.int .i64 co, .int .i64 ti, .int .i64 lo, .int .i64 hi], .int .i64 g, .int .i64 n] w fun r _ => r = .int .i64 (lenOf co g n) := by
  obtain ⟨h1, h2, h3, h4⟩ := len_bd hc hg hn
  have h5 : (g * n * (n - 1)).tdiv 2 = g * n * (n - 1) / 2 := Int.tdiv_eq_ediv_of_nonneg h3.1
  refine ret_of_c Try.func52 rfl Try.ntmps52 (Nat.le_of_ble_eq_true rfl) (by dsimp only [ini, Nat.reduceAdd] <;> exact rfl) ?_
  repeat' (first
      | ((with_reducible apply W_op); exact rfl; exact rfl; (refine r_quo (m := g * n * (n - 1)) rfl rfl (by omega) (by omega)); rw [h5])
      | ((first | ((with_reducible apply W_op); exact rfl; exact rfl)); (first | ((with_reducible apply r_move); ((conv => lhs; whnf) <;> exact rfl)) | ((with_reducible apply r_assign); ((conv => lhs; whnf) <;> exact rfl)) | ((with_reducible apply r_fieldAddr); exact rfl) | ((with_reducible apply r_load); exact rfl; exact rfl; (first | assumption | exact (Bx.cell (by repeat (first | assumption | ((with_reducible apply Bx.grownS); assumption; (first | omega | exact Nat.ne_of_lt (Nat.lt_of_lt_of_le (Bx.lt (by assumption)) (by omega)))) | ((with_reducible apply Bx.below); assumption; omega) | ((with_reducible apply Bx.ex); assumption))) _).trans rfl | exact Ex.cell (by assumption) (by assumption))) | ((with_reducible apply r_loadF); exact rfl; (first | assumption | exact (Bx.cell (by repeat (first | assumption | ((with_reducible apply Bx.grownS); assumption; (first | omega | exact Nat.ne_of_lt (Nat.lt_of_lt_of_le (Bx.lt (by assumption)) (by omega)))) | ((with_reducible apply Bx.below); assumption; omega) | ((with_reducible apply Bx.ex); assumption))) _).trans rfl | exact Ex.cell (by assumption) (by assumption))) | ((with_reducible apply r_loadA); exact rfl; (first | assumption | exact Bx.cells (by repeat (first | assumption | ((with_reducible apply Bx.grownS); assumption; (first | omega | exact Nat.ne_of_lt (Nat.lt_of_lt_of_le (Bx.lt (by assumption)) (by omega)))) | ((with_reducible apply Bx.below); assumption; omega) | ((with_reducible apply Bx.ex); assumption))) | exact Cells.ex (by assumption) (by assumption)); exact rfl) | ((with_reducible apply r_add); exact rfl; exact rfl; omega) | ((with_reducible apply r_sub); exact rfl; exact rfl; omega) | ((with_reducible apply r_quo); exact rfl; exact rfl; omega; omega) | ((with_reducible apply r_mul); exact rfl; exact rfl; omega) | ((with_reducible apply r_loadSub); exact rfl; (focus ((repeat (first | assumption | ((with_reducible apply Bx.grownS); assumption; (first | omega | exact Nat.ne_of_lt (Nat.lt_of_lt_of_le (Bx.lt (by assumption)) (by omega)))) | ((with_reducible apply Bx.below); assumption; omega) | ((with_reducible apply Bx.ex); assumption))); done)); ((simp only [Nat.add_zero, Nat.zero_add, Nat.reduceAdd, List.drop_zero, List.drop_succ_cons, List.take_succ_cons, List.take_zero]) <;> exact rfl); exact rfl)))
      | (with_reducible apply W_nil)
      | ((with_reducible apply W_box); exact rfl; exact rfl; intro bq wq hbq he hnq; have hltq := Bx.lt hbq; have hsz := he.size)
      | (with_reducible apply c_seq)
      | (with_reducible apply c_region)
      | (with_reducible apply c_skip)
      | (with_reducible apply c_ret)
      | (with_reducible apply n_then)
      | (with_reducible apply e_then)
      | (with_reducible apply r_then)
      | ((with_reducible apply p_ret1); exact rfl; ((conv => lhs; whnf) <;> exact rfl); refine ⟨_, rfl, ?_, (by repeat (first | assumption | exact Ex.refl _ | (refine Ex.trans ?_ (by assumption)) | (refine Ex.of_grown ?_ (by assumption) (by intro k hk; cases hk; omega))))⟩)
      | ((with_reducible apply q_ret1); exact rfl; ((conv => lhs; whnf) <;> exact rfl); refine ⟨_, rfl, ?_, (by repeat (first | assumption | exact Ex.refl _ | (refine Ex.trans ?_ (by assumption)) | (refine Ex.of_grown ?_ (by assumption) (by intro k hk; cases hk; omega))))⟩)
      | ((with_reducible apply p_retct); exact rfl; exact inferInstance; exact inferInstance; exact rfl; (focus ((repeat (first | assumption | ((with_reducible apply Bx.grownS); assumption; (first | omega | exact Nat.ne_of_lt (Nat.lt_of_lt_of_le (Bx.lt (by assumption)) (by omega)))) | ((with_reducible apply Bx.below); assumption; omega) | ((with_reducible apply Bx.ex); assumption))); done)); exact rfl; exact rfl; refine ⟨_, rfl, ?_, (by repeat (first | assumption | exact Ex.refl _ | (refine Ex.trans ?_ (by assumption)) | (refine Ex.of_grown ?_ (by assumption) (by intro k hk; cases hk; omega))))⟩)
      | ((exfalso; omega)))
  rfl
theorem rplace_any (co ti lo hi g t : Int) (w : World) (hc : 1 ≤ co ∧ co ≤ 100000) (hi1 : 1 ≤ ti ∧ ti ≤ co) (hg : 0 ≤ g ∧ g ≤ 1000) (ht : 0 ≤ t ∧ t ≤ 1000 * ti) : Ret Try.prog 56 [.agg #[.int .i64 co, .int .i64 ti, .int .i64 lo, .int .i64 hi], .int .i64 g, .int .i64 t] w fun r _ => r = .int .i64 (plOf co ti g t) := by
  obtain ⟨h1, h2, h3, h4, h5, h6⟩ := pl_bd hc hi1 hg ht
  have hl := (len_bd (n := t / ti) hc hg h1).2.2.2
  have hp : plOf co ti g t = lenOf co g (t / ti) + (co + t / ti * g) * (t % ti) / ti := rfl
  rw [← Int.tdiv_eq_ediv_of_nonneg h4.1] at h5 hp
  simp only [← Int.tdiv_eq_ediv_of_nonneg ht.1] at h1 h2 h3 h4 h5 hp hl
  rw [hp]
  clear hp h6
  refine ret_of_c Try.func56 rfl Try.ntmps56 (Nat.le_of_ble_eq_true rfl) (by dsimp only [ini, Nat.reduceAdd] <;> exact rfl) ?_
  repeat' (first
      | ((first | ((with_reducible apply W_op); exact rfl; exact rfl) | ((with_reducible apply WQ_op); exact rfl; exact rfl; intro wq he) | ((with_reducible apply WM_op); exact rfl; exact rfl; intro wq he) | ((with_reducible apply WB_op); exact rfl; exact rfl; intro wq)); (first | ((with_reducible apply r_remE); exact rfl; exact rfl; omega; omega) | ((with_reducible apply r_move); ((conv => lhs; whnf) <;> exact rfl)) | ((with_reducible apply r_assign); ((conv => lhs; whnf) <;> exact rfl)) | ((with_reducible apply r_fieldAddr); exact rfl) | ((with_reducible apply r_load); exact rfl; exact rfl; (first | assumption | exact (Bx.cell (by repeat (first | assumption | ((with_reducible apply Bx.grownS); assumption; (first | omega | exact Nat.ne_of_lt (Nat.lt_of_lt_of_le (Bx.lt (by assumption)) (by omega)))) | ((with_reducible apply Bx.below); assumption; omega) | ((with_reducible apply Bx.ex); assumption))) _).trans rfl | exact Ex.cell (by assumption) (by assumption))) | ((with_reducible apply r_loadF); exact rfl; (first | assumption | exact (Bx.cell (by repeat (first | assumption | ((with_reducible apply Bx.grownS); assumption; (first | omega | exact Nat.ne_of_lt (Nat.lt_of_lt_of_le (Bx.lt (by assumption)) (by omega)))) | ((with_reducible apply Bx.below); assumption; omega) | ((with_reducible apply Bx.ex); assumption))) _).trans rfl | exact Ex.cell (by assumption) (by assumption))) | ((with_reducible apply r_loadA); exact rfl; (first | assumption | exact Bx.cells (by repeat (first | assumption | ((with_reducible apply Bx.grownS); assumption; (first | omega | exact Nat.ne_of_lt (Nat.lt_of_lt_of_le (Bx.lt (by assumption)) (by omega)))) | ((with_reducible apply Bx.below); assumption; omega) | ((with_reducible apply Bx.ex); assumption))) | exact Cells.ex (by assumption) (by assumption)); exact rfl) | ((with_reducible apply r_add); exact rfl; exact rfl; omega) | ((with_reducible apply r_quo); exact rfl; exact rfl; omega; omega) | ((with_reducible apply r_rem); exact rfl; exact rfl; omega) | ((with_reducible apply r_mul); exact rfl; exact rfl; omega) | ((with_reducible apply r_loadSub); exact rfl; (focus ((repeat (first | assumption | ((with_reducible apply Bx.grownS); assumption; (first | omega | exact Nat.ne_of_lt (Nat.lt_of_lt_of_le (Bx.lt (by assumption)) (by omega)))) | ((with_reducible apply Bx.below); assumption; omega) | ((with_reducible apply Bx.ex); assumption))); done)); ((simp only [Nat.add_zero, Nat.zero_add, Nat.reduceAdd, List.drop_zero, List.drop_succ_cons, List.take_succ_cons, List.take_zero]) <;> exact rfl); exact rfl)))
      | (refine W_callv (rlength_any co ti lo hi g (t.tdiv ti) _ hc hg h1) rfl (fun wq he => ?_); have hsz := he.size)
      | (refine WQ_callv (fun wq he => rlength_any co ti lo hi g (t.tdiv ti) _ hc hg h1) rfl ?_)
      | (with_reducible apply W_nil)
      | ((with_reducible apply WQ_nil); exact rfl; intro wq he; have hsz := he.size)
      | (with_reducible apply WM_nil; intro wq he; have hsz := he.size)
      | (with_reducible apply WB_nil)
      | (with_reducible apply WT_nil)
      | (with_reducible apply WT_cons)
      | (with_reducible apply t_sink)
      | ((with_reducible apply t_keep); (focus ((repeat (first | assumption | exact Ex.refl _ | (refine Ex.trans ?_ (by assumption)) | (refine Ex.of_grown ?_ (by assumption) (by intro k hk; cases hk; omega)))); done)); intro wq he; have hsz := he.size)
      | ((with_reducible apply W_box); exact rfl; exact rfl; intro bq wq hbq he hnq; have hltq := Bx.lt hbq; have hsz := he.size)
      | ((with_reducible apply c_quiet); kernel_rfl)
      | (with_reducible apply c_seq)
      | (with_reducible apply c_region)
      | (with_reducible apply c_skip)
      | (with_reducible apply c_ret)
      | (with_reducible apply n_then)
      | (with_reducible apply e_then)
      | (with_reducible apply r_then)
      | ((with_reducible apply p_ret1); exact rfl; ((conv => lhs; whnf) <;> exact rfl); refine ⟨_, rfl, ?_, (by repeat (first | assumption | exact Ex.refl _ | (refine Ex.trans ?_ (by assumption)) | (refine Ex.of_grown ?_ (by assumption) (by intro k hk; cases hk; omega))))⟩)
      | ((with_reducible apply q_ret1); exact rfl; ((conv => lhs; whnf) <;> exact rfl); refine ⟨_, rfl, ?_, (by repeat (first | assumption | exact Ex.refl _ | (refine Ex.trans ?_ (by assumption)) | (refine Ex.of_grown ?_ (by assumption) (by intro k hk; cases hk; omega))))⟩)
      | ((with_reducible apply p_retct); exact rfl; exact inferInstance; exact inferInstance; exact rfl; (focus ((repeat (first | assumption | ((with_reducible apply Bx.grownS); assumption; (first | omega | exact Nat.ne_of_lt (Nat.lt_of_lt_of_le (Bx.lt (by assumption)) (by omega)))) | ((with_reducible apply Bx.below); assumption; omega) | ((with_reducible apply Bx.ex); assumption))); done)); exact rfl; exact rfl; refine ⟨_, rfl, ?_, (by repeat (first | assumption | exact Ex.refl _ | (refine Ex.trans ?_ (by assumption)) | (refine Ex.of_grown ?_ (by assumption) (by intro k hk; cases hk; omega))))⟩)
      | ((exfalso; omega)))
  rfl
theorem rarrival_any (co ti lo hi g p : Int) (w : World) (hc : 1 ≤ co ∧ co ≤ 100000) (hi1 : 1 ≤ ti ∧ ti ≤ co) (hg : 0 ≤ g ∧ g ≤ 1000) (hp : 0 ≤ p) : Ret Try.prog 61 [.agg #[.int .i64 co, .int .i64 ti, .int .i64 lo, .int .i64 hi], .int .i64 g, .int .i64 p] w fun r _ => r = .int .i64 (if lenOf co g 1000 < p then -1 else arrOf co ti g p) := by
  by_cases hpl : lenOf co g 1000 < p
  · rw [if_pos hpl]
    refine ret_of_c Try.func61 rfl Try.ntmps61 (Nat.le_of_ble_eq_true rfl) (by dsimp only [ini, Nat.reduceAdd] <;> exact rfl) ?_
    repeat' (first
        | ((first | ((with_reducible apply W_op); exact rfl; exact rfl)); (first | ((with_reducible apply r_move); ((conv => lhs; whnf) <;> exact rfl)) | ((with_reducible apply r_assign); ((conv => lhs; whnf) <;> exact rfl)) | ((with_reducible apply r_fieldAddr); exact rfl) | ((with_reducible apply r_load); exact rfl; exact rfl; (first | assumption | exact (Bx.cell (by repeat (first | assumption | ((with_reducible apply Bx.grownS); assumption; (first | omega | exact Nat.ne_of_lt (Nat.lt_of_lt_of_le (Bx.lt (by assumption)) (by omega)))) | ((with_reducible apply Bx.below); assumption; omega) | ((with_reducible apply Bx.ex); assumption))) _).trans rfl | exact Ex.cell (by assumption) (by assumption))) | ((with_reducible apply r_loadF); exact rfl; (first | assumption | exact (Bx.cell (by repeat (first | assumption | ((with_reducible apply Bx.grownS); assumption; (first | omega | exact Nat.ne_of_lt (Nat.lt_of_lt_of_le (Bx.lt (by assumption)) (by omega)))) | ((with_reducible apply Bx.below); assumption; omega) | ((with_reducible apply Bx.ex); assumption))) _).trans rfl | exact Ex.cell (by assumption) (by assumption))) | ((with_reducible apply r_loadA); exact rfl; (first | assumption | exact Bx.cells (by repeat (first | assumption | ((with_reducible apply Bx.grownS); assumption; (first | omega | exact Nat.ne_of_lt (Nat.lt_of_lt_of_le (Bx.lt (by assumption)) (by omega)))) | ((with_reducible apply Bx.below); assumption; omega) | ((with_reducible apply Bx.ex); assumption))) | exact Cells.ex (by assumption) (by assumption)); exact rfl) | ((with_reducible apply r_lss); exact rfl; exact rfl) | ((with_reducible apply r_gtr); exact rfl; exact rfl) | ((with_reducible apply r_add); exact rfl; exact rfl; omega) | ((with_reducible apply r_pick_true); exact rfl; ((conv => lhs; whnf) <;> exact rfl)) | ((with_reducible apply r_pick_false); exact rfl; ((conv => lhs; whnf) <;> exact rfl)) | ((with_reducible apply r_mul); exact rfl; exact rfl; omega) | ((with_reducible apply r_loadSub); exact rfl; (focus ((repeat (first | assumption | ((with_reducible apply Bx.grownS); assumption; (first | omega | exact Nat.ne_of_lt (Nat.lt_of_lt_of_le (Bx.lt (by assumption)) (by omega)))) | ((with_reducible apply Bx.below); assumption; omega) | ((with_reducible apply Bx.ex); assumption))); done)); ((simp only [Nat.add_zero, Nat.zero_add, Nat.reduceAdd, List.drop_zero, List.drop_succ_cons, List.take_succ_cons, List.take_zero]) <;> exact rfl); exact rfl)))
        | (refine W_callv (rlength_any co ti lo hi g 1000 _ hc hg (by omega)) rfl (fun wq he => ?_); have hsz := he.size)
        | (with_reducible apply W_nil)
        | ((with_reducible apply W_box); exact rfl; exact rfl; intro bq wq hbq he hnq; have hltq := Bx.lt hbq; have hsz := he.size)
        | ((with_reducible apply W_pass); exact rfl; exact rfl; exact rfl; exact rfl; exact rfl)
        | ((with_reducible apply W_take); exact rfl; exact rfl; exact rfl)
        | ((with_reducible apply W_passU); exact rfl; exact rfl; exact rfl; exact rfl)
        | ((with_reducible apply W_split); exact rfl; exact rfl; intro _; rotate_left 1; intro _)
        | (with_reducible apply c_seq)
        | (with_reducible apply c_region)
        | (with_reducible apply c_block)
        | (with_reducible apply c_skip)
        | (with_reducible apply c_ret)
        | (with_reducible apply c_exit)
        | ((with_reducible apply c_cond_true); exact rfl)
        | ((with_reducible apply c_cond_false); exact rfl)
        | ((with_reducible apply c_cond_dec); exact rfl; intro _; rotate_left 1; intro _)
        | ((with_reducible apply c_cond_bool); exact rfl; intro _; rotate_left 1; intro _)
        | (with_reducible apply n_then)
        | (with_reducible apply n_block)
        | (with_reducible apply e_then)
        | (with_reducible apply e_block)
        | (with_reducible apply r_then)
        | (with_reducible apply r_block)
        | ((with_reducible apply e_block'); decide)
        | ((with_reducible apply p_ret1); exact rfl; ((conv => lhs; whnf) <;> exact rfl); refine ⟨_, rfl, ?_, (by repeat (first | assumption | exact Ex.refl _ | (refine Ex.trans ?_ (by assumption)) | (refine Ex.of_grown ?_ (by assumption) (by intro k hk; cases hk; omega))))⟩)
        | ((with_reducible apply q_ret1); exact rfl; ((conv => lhs; whnf) <;> exact rfl); refine ⟨_, rfl, ?_, (by repeat (first | assumption | exact Ex.refl _ | (refine Ex.trans ?_ (by assumption)) | (refine Ex.of_grown ?_ (by assumption) (by intro k hk; cases hk; omega))))⟩)
        | ((with_reducible apply p_retct); exact rfl; exact inferInstance; exact inferInstance; exact rfl; (focus ((repeat (first | assumption | ((with_reducible apply Bx.grownS); assumption; (first | omega | exact Nat.ne_of_lt (Nat.lt_of_lt_of_le (Bx.lt (by assumption)) (by omega)))) | ((with_reducible apply Bx.below); assumption; omega) | ((with_reducible apply Bx.ex); assumption))); done)); exact rfl; exact rfl; refine ⟨_, rfl, ?_, (by repeat (first | assumption | exact Ex.refl _ | (refine Ex.trans ?_ (by assumption)) | (refine Ex.of_grown ?_ (by assumption) (by intro k hk; cases hk; omega))))⟩)
        | ((exfalso; omega)))
    rfl
  · rw [if_neg hpl]
    have tk1 : True := trivial
    have hlast := pl_turn co ti g 1000 hi1.1
    refine ret_of_c Try.func61 rfl Try.ntmps61 (Nat.le_of_ble_eq_true rfl) (by dsimp only [ini, Nat.reduceAdd] <;> exact rfl) ?_
    repeat' (first
        | (clear tk3; have htl : plOf co ti g t < p → t < 1000 * ti := fun hlt => by (by_cases c : t < 1000 * ti; exact c; (exfalso; have e : t = 1000 * ti := (by omega); rw [e, hlast] at hlt; omega)))
        | ((first | ((with_reducible apply W_op); exact rfl; exact rfl)); (first | ((with_reducible apply r_move); ((conv => lhs; whnf) <;> exact rfl)) | ((with_reducible apply r_assign); ((conv => lhs; whnf) <;> exact rfl)) | ((with_reducible apply r_fieldAddr); exact rfl) | ((with_reducible apply r_load); exact rfl; exact rfl; (first | assumption | exact (Bx.cell (by repeat (first | assumption | ((with_reducible apply Bx.grownS); assumption; (first | omega | exact Nat.ne_of_lt (Nat.lt_of_lt_of_le (Bx.lt (by assumption)) (by omega)))) | ((with_reducible apply Bx.below); assumption; omega) | ((with_reducible apply Bx.ex); assumption))) _).trans rfl | exact Ex.cell (by assumption) (by assumption))) | ((with_reducible apply r_loadF); exact rfl; (first | assumption | exact (Bx.cell (by repeat (first | assumption | ((with_reducible apply Bx.grownS); assumption; (first | omega | exact Nat.ne_of_lt (Nat.lt_of_lt_of_le (Bx.lt (by assumption)) (by omega)))) | ((with_reducible apply Bx.below); assumption; omega) | ((with_reducible apply Bx.ex); assumption))) _).trans rfl | exact Ex.cell (by assumption) (by assumption))) | ((with_reducible apply r_loadA); exact rfl; (first | assumption | exact Bx.cells (by repeat (first | assumption | ((with_reducible apply Bx.grownS); assumption; (first | omega | exact Nat.ne_of_lt (Nat.lt_of_lt_of_le (Bx.lt (by assumption)) (by omega)))) | ((with_reducible apply Bx.below); assumption; omega) | ((with_reducible apply Bx.ex); assumption))) | exact Cells.ex (by assumption) (by assumption)); exact rfl) | ((with_reducible apply r_lss); exact rfl; exact rfl) | ((with_reducible apply r_gtr); exact rfl; exact rfl) | ((with_reducible apply r_add); exact rfl; exact rfl; omega) | ((with_reducible apply r_pick_true); exact rfl; ((conv => lhs; whnf) <;> exact rfl)) | ((with_reducible apply r_pick_false); exact rfl; ((conv => lhs; whnf) <;> exact rfl)) | ((with_reducible apply r_mul); exact rfl; exact rfl; omega) | ((with_reducible apply r_loadSub); exact rfl; (focus ((repeat (first | assumption | ((with_reducible apply Bx.grownS); assumption; (first | omega | exact Nat.ne_of_lt (Nat.lt_of_lt_of_le (Bx.lt (by assumption)) (by omega)))) | ((with_reducible apply Bx.below); assumption; omega) | ((with_reducible apply Bx.ex); assumption))); done)); ((simp only [Nat.add_zero, Nat.zero_add, Nat.reduceAdd, List.drop_zero, List.drop_succ_cons, List.take_succ_cons, List.take_zero]) <;> exact rfl); exact rfl)))
        | (refine W_callv (rlength_any co ti lo hi g 1000 _ hc hg (by omega)) rfl (fun wq he => ?_); have hsz := he.size)
        | (refine W_callv (rlength_any co ti lo hi g (n + 1) _ hc hg (by omega)) rfl (fun wq he => ?_); have hsz := he.size)
        | (refine W_callv (rplace_any co ti lo hi g t _ hc hi1 hg ht) rfl (fun wq he => ?_); have hsz := he.size)
        | (clear tk1; refine c_loopG (fun (k : Nat) ps wr => ∃ b3 : Nat, ∃ n : Int, ps = [(1, .int .i64 g), (2, .int .i64 p), (3, .pointer (some ⟨b3, 0, none⟩)), (7, .int .i64 n)] ∧ n = k ∧ n ≤ 1000 ∧ (0 ≤ n * ti ∧ n * ti ≤ 1000 * ti) ∧ (n = 0 ∨ lenOf co g n < p) ∧ Bx wr b3 [.int .i64 co, .int .i64 ti, .int .i64 lo, .int .i64 hi] 30 ∧ Ex w wr) (fun k => 1000 - k) 0 _ ⟨_, _, rfl, rfl, by omega, mul_bd (by omega) (by omega), .inl rfl, (by repeat (first | assumption | ((with_reducible apply Bx.grownS); assumption; (first | omega | exact Nat.ne_of_lt (Nat.lt_of_lt_of_le (Bx.lt (by assumption)) (by omega)))) | ((with_reducible apply Bx.below); assumption; omega) | ((with_reducible apply Own.grownS); assumption; omega) | ((with_reducible apply Bx.ex); assumption) | ((with_reducible apply IntsK.ex); assumption) | ((with_reducible apply Own.ex); assumption) | ((with_reducible apply Prs.ex); assumption))), (by repeat (first | assumption | exact Ex.refl _ | (refine Ex.trans ?_ (by assumption)) | (refine Ex.of_grown ?_ (by assumption) (by intro k hk; cases hk; omega))))⟩ ⟨rfl, rfl, rfl, rfl, trivial⟩ (by ((conv => lhs; whnf) <;> exact rfl)) ?_; rintro JJ hJJ k u ps wr ⟨b3, n, rfl, hn, hn1, hnt0, hnp, hx3, he⟩; have hsz := he.size; have tk2 : True := trivial)
        | (refine n_roundG (k + 1) (hJJ _ _ _ _ ⟨_, _, rfl, by omega, by omega, mul_bd (by omega) (by omega), .inr (by assumption), (by repeat (first | assumption | ((with_reducible apply Bx.grownS); assumption; (first | omega | exact Nat.ne_of_lt (Nat.lt_of_lt_of_le (Bx.lt (by assumption)) (by omega)))) | ((with_reducible apply Bx.below); assumption; omega) | ((with_reducible apply Own.grownS); assumption; omega) | ((with_reducible apply Bx.ex); assumption) | ((with_reducible apply IntsK.ex); assumption) | ((with_reducible apply Own.ex); assumption) | ((with_reducible apply Prs.ex); assumption))), (by repeat (first | assumption | exact Ex.refl _ | (refine Ex.trans ?_ (by assumption)) | (refine Ex.of_grown ?_ (by assumption) (by intro k hk; cases hk; omega))))⟩ ⟨rfl, rfl, rfl, rfl, trivial⟩ rfl) (by omega))
        | (clear tk2; refine c_loopG (fun (k : Nat) ps wr => ∃ b3 : Nat, ∃ t : Int, ps = [(1, .int .i64 g), (2, .int .i64 p), (3, .pointer (some ⟨b3, 0, none⟩)), (8, .int .i64 t)] ∧ k = t.toNat ∧ (0 ≤ t ∧ t ≤ 1000 * ti) ∧ (t = 0 ∨ plOf co ti g (t - 1) < p) ∧ Bx wr b3 [.int .i64 co, .int .i64 ti, .int .i64 lo, .int .i64 hi] 30 ∧ Ex w wr) (fun k => (1000 * ti).toNat - k) (n * ti).toNat _ ⟨_, _, rfl, rfl, (by have := mul_bd (a := n) (b := ti) (A := 1000) (B := ti) (by omega) (by omega); omega), (by rcases hnp with rfl | hnp; exact .inl (Int.zero_mul _); (by_cases c : n * ti = 0; exact .inl c; (right; have hnt := mul_bd (a := n) (b := ti) (A := 1000) (B := ti) (by omega) (by omega); have h1 := pl_far (co := co) (g := g) hi1 hg.1 (show 0 ≤ n * ti - 1 by omega) (show n * ti - 1 ≤ n * ti by omega); rw [pl_turn co ti g n hi1.1] at h1; omega))), (by repeat (first | assumption | ((with_reducible apply Bx.grownS); assumption; (first | omega | exact Nat.ne_of_lt (Nat.lt_of_lt_of_le (Bx.lt (by assumption)) (by omega)))) | ((with_reducible apply Bx.below); assumption; omega) | ((with_reducible apply Own.grownS); assumption; omega) | ((with_reducible apply Bx.ex); assumption) | ((with_reducible apply IntsK.ex); assumption) | ((with_reducible apply Own.ex); assumption) | ((with_reducible apply Prs.ex); assumption))), (by repeat (first | assumption | exact Ex.refl _ | (refine Ex.trans ?_ (by assumption)) | (refine Ex.of_grown ?_ (by assumption) (by intro k hk; cases hk; omega))))⟩ ⟨rfl, rfl, rfl, rfl, trivial⟩ (by ((conv => lhs; whnf) <;> exact rfl)) ?_; rintro JK hJK k u ps wr ⟨b3, t, rfl, hkt, ht, htp, hx3, he⟩; have hsz := he.size; have tk3 : True := trivial)
        | (refine n_roundG ((t + 1).toNat) (hJK _ _ _ _ ⟨_, _, rfl, rfl, by have := htl (by assumption); omega, .inr (by rw [show t + 1 - 1 = t by omega]; assumption), (by repeat (first | assumption | ((with_reducible apply Bx.grownS); assumption; (first | omega | exact Nat.ne_of_lt (Nat.lt_of_lt_of_le (Bx.lt (by assumption)) (by omega)))) | ((with_reducible apply Bx.below); assumption; omega) | ((with_reducible apply Own.grownS); assumption; omega) | ((with_reducible apply Bx.ex); assumption) | ((with_reducible apply IntsK.ex); assumption) | ((with_reducible apply Own.ex); assumption) | ((with_reducible apply Prs.ex); assumption))), (by repeat (first | assumption | exact Ex.refl _ | (refine Ex.trans ?_ (by assumption)) | (refine Ex.of_grown ?_ (by assumption) (by intro k hk; cases hk; omega))))⟩ ⟨rfl, rfl, rfl, rfl, trivial⟩ rfl) (by have := htl (by assumption); omega))
        | (with_reducible apply W_nil)
        | ((with_reducible apply W_box); exact rfl; exact rfl; intro bq wq hbq he hnq; have hltq := Bx.lt hbq; have hsz := he.size)
        | ((with_reducible apply W_pass); exact rfl; exact rfl; exact rfl; exact rfl; exact rfl)
        | ((with_reducible apply W_take); exact rfl; exact rfl; exact rfl)
        | ((with_reducible apply W_passU); exact rfl; exact rfl; exact rfl; exact rfl)
        | ((with_reducible apply W_split); exact rfl; exact rfl; intro _; rotate_left 1; intro _)
        | (with_reducible apply c_seq)
        | (with_reducible apply c_region)
        | (with_reducible apply c_block)
        | (with_reducible apply c_skip)
        | (with_reducible apply c_ret)
        | (with_reducible apply c_exit)
        | ((with_reducible apply c_cond_true); exact rfl)
        | ((with_reducible apply c_cond_false); exact rfl)
        | ((with_reducible apply c_cond_dec); exact rfl; intro _; rotate_left 1; intro _)
        | ((with_reducible apply c_cond_bool); exact rfl; intro _; rotate_left 1; intro _)
        | (with_reducible apply n_then)
        | (with_reducible apply n_block)
        | (with_reducible apply e_then)
        | (with_reducible apply e_block)
        | (with_reducible apply r_then)
        | (with_reducible apply r_block)
        | ((with_reducible apply e_block'); decide)
        | ((with_reducible apply p_ret1); exact rfl; ((conv => lhs; whnf) <;> exact rfl); refine ⟨_, rfl, ?_, (by repeat (first | assumption | exact Ex.refl _ | (refine Ex.trans ?_ (by assumption)) | (refine Ex.of_grown ?_ (by assumption) (by intro k hk; cases hk; omega))))⟩)
        | ((with_reducible apply q_ret1); exact rfl; ((conv => lhs; whnf) <;> exact rfl); refine ⟨_, rfl, ?_, (by repeat (first | assumption | exact Ex.refl _ | (refine Ex.trans ?_ (by assumption)) | (refine Ex.of_grown ?_ (by assumption) (by intro k hk; cases hk; omega))))⟩)
        | ((with_reducible apply p_retct); exact rfl; exact inferInstance; exact inferInstance; exact rfl; (focus ((repeat (first | assumption | ((with_reducible apply Bx.grownS); assumption; (first | omega | exact Nat.ne_of_lt (Nat.lt_of_lt_of_le (Bx.lt (by assumption)) (by omega)))) | ((with_reducible apply Bx.below); assumption; omega) | ((with_reducible apply Bx.ex); assumption))); done)); exact rfl; exact rfl; refine ⟨_, rfl, ?_, (by repeat (first | assumption | exact Ex.refl _ | (refine Ex.trans ?_ (by assumption)) | (refine Ex.of_grown ?_ (by assumption) (by intro k hk; cases hk; omega))))⟩)
        | ((exfalso; omega)))
    all_goals (apply int_eq; symm; exact arr_eq hi1 hg.1 ht (by omega) htp)
end Go.Proofs.Ytagibgjemliadaa
