/-
  What this text proves: what the small functions of the reference and of the program leave. No condition but the bounds that stand in each.
-/
import Derived.Test.YtbcbfeeidmggpaaFacts
import Derived.Test.YtbcbfeeidmggpaaMath
namespace Go.Proofs.Ytbcbfeeidmggpaa
open Go.Pv Go.RowKit
set_option maxHeartbeats 8000000
set_option linter.unusedVariables false
set_option linter.unusedSimpArgs false

theorem is_any (n lo hi : Int) (w : World) : Ret Try.prog 32 [.int .i64 n, .int .i64 lo, .int .i64 hi] w fun v _ => v = .bool (decide (lo ≤ n ∧ n ≤ hi)) := by
  refine ret_of_c Try.func32 rfl Try.ntmps32 (Nat.le_of_ble_eq_true rfl) (by dsimp only [ini, Nat.reduceAdd] <;> exact rfl) ?_
  repeat' (first
      | ((first | ((with_reducible apply W_op); exact rfl; exact rfl)); (first | ((with_reducible apply r_move); ((conv => lhs; whnf) <;> exact rfl)) | ((with_reducible apply r_assign); ((conv => lhs; whnf) <;> exact rfl)) | ((with_reducible apply r_leq); exact rfl; exact rfl) | ((with_reducible apply r_geq); exact rfl; exact rfl) | ((with_reducible apply r_pick_true); exact rfl; ((conv => lhs; whnf) <;> exact rfl)) | ((with_reducible apply r_pick_false); exact rfl; ((conv => lhs; whnf) <;> exact rfl))))
      | (with_reducible apply W_nil)
      | ((with_reducible apply W_pass); exact rfl; exact rfl; exact rfl; exact rfl; exact rfl)
      | ((with_reducible apply W_take); exact rfl; exact rfl; exact rfl)
      | ((with_reducible apply W_passU); exact rfl; exact rfl; exact rfl; exact rfl)
      | ((with_reducible apply W_split); exact rfl; exact rfl; intro _; rotate_left 1; intro _)
      | (with_reducible apply c_seq)
      | (with_reducible apply c_region)
      | (with_reducible apply c_skip)
      | (with_reducible apply c_ret)
      | (with_reducible apply n_then)
      | (with_reducible apply e_then)
      | (with_reducible apply r_then)
      | ((with_reducible apply p_ret1); exact rfl; ((conv => lhs; whnf) <;> exact rfl); refine ⟨_, rfl, ?_, (by repeat (first | assumption | exact Ex.refl _ | (refine Ex.trans ?_ (by assumption)) | (refine Ex.of_grown ?_ (by assumption) (by intro k hk; cases hk; omega))))⟩)
      | ((with_reducible apply q_ret1); exact rfl; ((conv => lhs; whnf) <;> exact rfl); refine ⟨_, rfl, ?_, (by repeat (first | assumption | exact Ex.refl _ | (refine Ex.trans ?_ (by assumption)) | (refine Ex.of_grown ?_ (by assumption) (by intro k hk; cases hk; omega))))⟩)
      | ((exfalso; omega)))
  all_goals (first | rfl | (apply bool_iff; omega) | (apply bool_ff; omega) | (apply bool_tt; omega))
theorem floor_any (n d : Int) (w : World) (hd : 1 ≤ d) (hn : -4611686018427387904 ≤ n ∧ n ≤ 4611686018427387904) : Ret Try.prog 73 [.int .i64 n, .int .i64 d] w fun v _ => v = .int .i64 (n / d) := by
  obtain ⟨h1, h2⟩ := tdiv_floor n d hd
  have h3 := ediv_bd n d hd 4611686018427387904 (by omega)
  refine ret_of_c Try.func73 rfl Try.ntmps73 (Nat.le_of_ble_eq_true rfl) (by dsimp only [ini, Nat.reduceAdd] <;> exact rfl) ?_
  by_cases h : n.tmod d < 0
  · have e := h1 h
    repeat' (first
        | ((first | ((with_reducible apply W_op); exact rfl; exact rfl)); (first | ((with_reducible apply r_move); ((conv => lhs; whnf) <;> exact rfl)) | ((with_reducible apply r_assign); ((conv => lhs; whnf) <;> exact rfl)) | ((with_reducible apply r_lss); exact rfl; exact rfl) | ((with_reducible apply r_sub); exact rfl; exact rfl; omega) | ((with_reducible apply r_quo); exact rfl; exact rfl; omega; omega) | ((with_reducible apply r_rem); exact rfl; exact rfl; omega)))
        | (with_reducible apply W_nil)
        | (with_reducible apply c_seq)
        | (with_reducible apply c_region)
        | (with_reducible apply c_skip)
        | (with_reducible apply c_ret)
        | ((with_reducible apply c_cond_true); exact rfl)
        | ((with_reducible apply c_cond_false); exact rfl)
        | ((with_reducible apply c_cond_dec); exact rfl; intro _; rotate_left 1; intro _)
        | ((with_reducible apply c_cond_bool); exact rfl; intro _; rotate_left 1; intro _)
        | (with_reducible apply n_then)
        | (with_reducible apply e_then)
        | (with_reducible apply r_then)
        | ((with_reducible apply p_ret1); exact rfl; ((conv => lhs; whnf) <;> exact rfl); refine ⟨_, rfl, ?_, (by repeat (first | assumption | exact Ex.refl _ | (refine Ex.trans ?_ (by assumption)) | (refine Ex.of_grown ?_ (by assumption) (by intro k hk; cases hk; omega))))⟩)
        | ((with_reducible apply q_ret1); exact rfl; ((conv => lhs; whnf) <;> exact rfl); refine ⟨_, rfl, ?_, (by repeat (first | assumption | exact Ex.refl _ | (refine Ex.trans ?_ (by assumption)) | (refine Ex.of_grown ?_ (by assumption) (by intro k hk; cases hk; omega))))⟩)
        | ((exfalso; omega)))
    exact int_eq e
  · have e := h2 h
    repeat' (first
        | ((first | ((with_reducible apply W_op); exact rfl; exact rfl)); (first | ((with_reducible apply r_move); ((conv => lhs; whnf) <;> exact rfl)) | ((with_reducible apply r_assign); ((conv => lhs; whnf) <;> exact rfl)) | ((with_reducible apply r_lss); exact rfl; exact rfl) | ((with_reducible apply r_sub); exact rfl; exact rfl; omega) | ((with_reducible apply r_quo); exact rfl; exact rfl; omega; omega) | ((with_reducible apply r_rem); exact rfl; exact rfl; omega)))
        | (with_reducible apply W_nil)
        | (with_reducible apply c_seq)
        | (with_reducible apply c_region)
        | (with_reducible apply c_skip)
        | (with_reducible apply c_ret)
        | ((with_reducible apply c_cond_true); exact rfl)
        | ((with_reducible apply c_cond_false); exact rfl)
        | ((with_reducible apply c_cond_dec); exact rfl; intro _; rotate_left 1; intro _)
        | ((with_reducible apply c_cond_bool); exact rfl; intro _; rotate_left 1; intro _)
        | (with_reducible apply n_then)
        | (with_reducible apply e_then)
        | (with_reducible apply r_then)
        | ((with_reducible apply p_ret1); exact rfl; ((conv => lhs; whnf) <;> exact rfl); refine ⟨_, rfl, ?_, (by repeat (first | assumption | exact Ex.refl _ | (refine Ex.trans ?_ (by assumption)) | (refine Ex.of_grown ?_ (by assumption) (by intro k hk; cases hk; omega))))⟩)
        | ((with_reducible apply q_ret1); exact rfl; ((conv => lhs; whnf) <;> exact rfl); refine ⟨_, rfl, ?_, (by repeat (first | assumption | exact Ex.refl _ | (refine Ex.trans ?_ (by assumption)) | (refine Ex.of_grown ?_ (by assumption) (by intro k hk; cases hk; omega))))⟩)
        | ((exfalso; omega)))
    exact int_eq e
theorem ceil_any (n d : Int) (w : World) (hd : 1 ≤ d) (hn : -4611686018427387904 ≤ n ∧ n ≤ 4611686018427387904) : Ret Try.prog 72 [.int .i64 n, .int .i64 d] w fun v _ => v = .int .i64 (-(-n / d)) := by
  have h3 := ediv_bd (-n) d hd 4611686018427387904 (by omega)
  refine ret_of_c Try.func72 rfl Try.ntmps72 (Nat.le_of_ble_eq_true rfl) (by dsimp only [ini, Nat.reduceAdd] <;> exact rfl) ?_
  repeat' (first
      | ((first | ((with_reducible apply W_op); exact rfl; exact rfl)); (first | ((with_reducible apply r_move); ((conv => lhs; whnf) <;> exact rfl)) | ((with_reducible apply r_assign); ((conv => lhs; whnf) <;> exact rfl)) | ((with_reducible apply r_neg); exact rfl; omega)))
      | (refine W_callv (floor_any (-n) d _ hd (by omega)) rfl (fun w' hw => ?_))
      | (with_reducible apply W_nil)
      | (with_reducible apply c_seq)
      | (with_reducible apply c_region)
      | (with_reducible apply c_skip)
      | (with_reducible apply c_ret)
      | (with_reducible apply n_then)
      | (with_reducible apply e_then)
      | (with_reducible apply r_then)
      | ((with_reducible apply p_ret1); exact rfl; ((conv => lhs; whnf) <;> exact rfl); refine ⟨_, rfl, ?_, (by repeat (first | assumption | exact Ex.refl _ | (refine Ex.trans ?_ (by assumption)) | (refine Ex.of_grown ?_ (by assumption) (by intro k hk; cases hk; omega))))⟩)
      | ((with_reducible apply q_ret1); exact rfl; ((conv => lhs; whnf) <;> exact rfl); refine ⟨_, rfl, ?_, (by repeat (first | assumption | exact Ex.refl _ | (refine Ex.trans ?_ (by assumption)) | (refine Ex.of_grown ?_ (by assumption) (by intro k hk; cases hk; omega))))⟩)
      | ((exfalso; omega)))
  rfl
theorem divideDown_any (n d : Int) (w : World) (hd : 1 ≤ d) (hn : -4611686018427387904 ≤ n ∧ n ≤ 4611686018427387904) : Ret Try.prog 41 [.int .i64 n, .int .i64 d] w fun v _ => v = .int .i64 (n / d) := by
  obtain ⟨h1, h2⟩ := tdiv_floor n d hd
  have h3 := ediv_bd n d hd 4611686018427387904 (by omega)
  refine ret_of_c Try.func41 rfl Try.ntmps41 (Nat.le_of_ble_eq_true rfl) (by dsimp only [ini, Nat.reduceAdd] <;> exact rfl) ?_
  by_cases h : n.tmod d < 0
  · have e := h1 h
    repeat' (first
        | ((first | ((with_reducible apply W_op); exact rfl; exact rfl)); (first | ((with_reducible apply r_move); ((conv => lhs; whnf) <;> exact rfl)) | ((with_reducible apply r_assign); ((conv => lhs; whnf) <;> exact rfl)) | ((with_reducible apply r_lss); exact rfl; exact rfl) | ((with_reducible apply r_sub); exact rfl; exact rfl; omega) | ((with_reducible apply r_quo); exact rfl; exact rfl; omega; omega) | ((with_reducible apply r_rem); exact rfl; exact rfl; omega)))
        | (with_reducible apply W_nil)
        | (with_reducible apply c_seq)
        | (with_reducible apply c_region)
        | (with_reducible apply c_skip)
        | (with_reducible apply c_ret)
        | ((with_reducible apply c_cond_true); exact rfl)
        | ((with_reducible apply c_cond_false); exact rfl)
        | ((with_reducible apply c_cond_dec); exact rfl; intro _; rotate_left 1; intro _)
        | ((with_reducible apply c_cond_bool); exact rfl; intro _; rotate_left 1; intro _)
        | (with_reducible apply n_then)
        | (with_reducible apply e_then)
        | (with_reducible apply r_then)
        | ((with_reducible apply p_ret1); exact rfl; ((conv => lhs; whnf) <;> exact rfl); refine ⟨_, rfl, ?_, (by repeat (first | assumption | exact Ex.refl _ | (refine Ex.trans ?_ (by assumption)) | (refine Ex.of_grown ?_ (by assumption) (by intro k hk; cases hk; omega))))⟩)
        | ((with_reducible apply q_ret1); exact rfl; ((conv => lhs; whnf) <;> exact rfl); refine ⟨_, rfl, ?_, (by repeat (first | assumption | exact Ex.refl _ | (refine Ex.trans ?_ (by assumption)) | (refine Ex.of_grown ?_ (by assumption) (by intro k hk; cases hk; omega))))⟩)
        | ((exfalso; omega)))
    exact int_eq e
  · have e := h2 h
    repeat' (first
        | ((first | ((with_reducible apply W_op); exact rfl; exact rfl)); (first | ((with_reducible apply r_move); ((conv => lhs; whnf) <;> exact rfl)) | ((with_reducible apply r_assign); ((conv => lhs; whnf) <;> exact rfl)) | ((with_reducible apply r_lss); exact rfl; exact rfl) | ((with_reducible apply r_sub); exact rfl; exact rfl; omega) | ((with_reducible apply r_quo); exact rfl; exact rfl; omega; omega) | ((with_reducible apply r_rem); exact rfl; exact rfl; omega)))
        | (with_reducible apply W_nil)
        | (with_reducible apply c_seq)
        | (with_reducible apply c_region)
        | (with_reducible apply c_skip)
        | (with_reducible apply c_ret)
        | ((with_reducible apply c_cond_true); exact rfl)
        | ((with_reducible apply c_cond_false); exact rfl)
        | ((with_reducible apply c_cond_dec); exact rfl; intro _; rotate_left 1; intro _)
        | ((with_reducible apply c_cond_bool); exact rfl; intro _; rotate_left 1; intro _)
        | (with_reducible apply n_then)
        | (with_reducible apply e_then)
        | (with_reducible apply r_then)
        | ((with_reducible apply p_ret1); exact rfl; ((conv => lhs; whnf) <;> exact rfl); refine ⟨_, rfl, ?_, (by repeat (first | assumption | exact Ex.refl _ | (refine Ex.trans ?_ (by assumption)) | (refine Ex.of_grown ?_ (by assumption) (by intro k hk; cases hk; omega))))⟩)
        | ((with_reducible apply q_ret1); exact rfl; ((conv => lhs; whnf) <;> exact rfl); refine ⟨_, rfl, ?_, (by repeat (first | assumption | exact Ex.refl _ | (refine Ex.trans ?_ (by assumption)) | (refine Ex.of_grown ?_ (by assumption) (by intro k hk; cases hk; omega))))⟩)
        | ((exfalso; omega)))
    exact int_eq e
theorem divideUp_any (n d : Int) (w : World) (hd : 1 ≤ d) (hn : -4611686018427387904 ≤ n ∧ n ≤ 4611686018427387904) : Ret Try.prog 40 [.int .i64 n, .int .i64 d] w fun v _ => v = .int .i64 (-(-n / d)) := by
  have h3 := ediv_bd (-n) d hd 4611686018427387904 (by omega)
  refine ret_of_c Try.func40 rfl Try.ntmps40 (Nat.le_of_ble_eq_true rfl) (by dsimp only [ini, Nat.reduceAdd] <;> exact rfl) ?_
  repeat' (first
      | ((first | ((with_reducible apply W_op); exact rfl; exact rfl)); (first | ((with_reducible apply r_move); ((conv => lhs; whnf) <;> exact rfl)) | ((with_reducible apply r_assign); ((conv => lhs; whnf) <;> exact rfl)) | ((with_reducible apply r_neg); exact rfl; omega)))
      | (refine W_callv (divideDown_any (-n) d _ hd (by omega)) rfl (fun w' hw => ?_))
      | (with_reducible apply W_nil)
      | (with_reducible apply c_seq)
      | (with_reducible apply c_region)
      | (with_reducible apply c_skip)
      | (with_reducible apply c_ret)
      | (with_reducible apply n_then)
      | (with_reducible apply e_then)
      | (with_reducible apply r_then)
      | ((with_reducible apply p_ret1); exact rfl; ((conv => lhs; whnf) <;> exact rfl); refine ⟨_, rfl, ?_, (by repeat (first | assumption | exact Ex.refl _ | (refine Ex.trans ?_ (by assumption)) | (refine Ex.of_grown ?_ (by assumption) (by intro k hk; cases hk; omega))))⟩)
      | ((with_reducible apply q_ret1); exact rfl; ((conv => lhs; whnf) <;> exact rfl); refine ⟨_, rfl, ?_, (by repeat (first | assumption | exact Ex.refl _ | (refine Ex.trans ?_ (by assumption)) | (refine Ex.of_grown ?_ (by assumption) (by intro k hk; cases hk; omega))))⟩)
      | ((exfalso; omega)))
  rfl
theorem remainder_any (n d : Int) (w : World) (hd : 1 ≤ d) (hd2 : d ≤ 4611686018427387904) (hn : -4611686018427387904 ≤ n ∧ n ≤ 4611686018427387904) : Ret Try.prog 56 [.int .i64 n, .int .i64 d] w fun v _ => v = .int .i64 (n % d) := by
  have h1 := Int.emod_nonneg n (show d ≠ 0 by omega)
  have h2 := Int.emod_lt_of_pos n (show 0 < d by omega)
  have h3 := Int.mul_ediv_add_emod n d
  refine ret_of_c Try.func56 rfl Try.ntmps56 (Nat.le_of_ble_eq_true rfl) (by dsimp only [ini, Nat.reduceAdd] <;> exact rfl) ?_
  repeat' (first
      | ((first | ((with_reducible apply W_op); exact rfl; exact rfl)); (first | ((with_reducible apply r_move); ((conv => lhs; whnf) <;> exact rfl)) | ((with_reducible apply r_assign); ((conv => lhs; whnf) <;> exact rfl)) | ((with_reducible apply r_sub); exact rfl; exact rfl; omega) | ((with_reducible apply r_mul); exact rfl; exact rfl; omega)))
      | (refine W_callv (divideDown_any n d _ hd (by omega)) rfl (fun w' hw => ?_))
      | (with_reducible apply W_nil)
      | (with_reducible apply c_seq)
      | (with_reducible apply c_region)
      | (with_reducible apply c_skip)
      | (with_reducible apply c_ret)
      | (with_reducible apply n_then)
      | (with_reducible apply e_then)
      | (with_reducible apply r_then)
      | ((with_reducible apply p_ret1); exact rfl; ((conv => lhs; whnf) <;> exact rfl); refine ⟨_, rfl, ?_, (by repeat (first | assumption | exact Ex.refl _ | (refine Ex.trans ?_ (by assumption)) | (refine Ex.of_grown ?_ (by assumption) (by intro k hk; cases hk; omega))))⟩)
      | ((with_reducible apply q_ret1); exact rfl; ((conv => lhs; whnf) <;> exact rfl); refine ⟨_, rfl, ?_, (by repeat (first | assumption | exact Ex.refl _ | (refine Ex.trans ?_ (by assumption)) | (refine Ex.of_grown ?_ (by assumption) (by intro k hk; cases hk; omega))))⟩)
      | ((exfalso; omega)))
  exact int_eq (by omega)
end Go.Proofs.Ytbcbfeeidmggpaa
