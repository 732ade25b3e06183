/-
  (heavy) What this text proves: SpoolPlaces and SpoolArrivals return true for every spool and all numbers.
-/
import Derived.Test.YtnkahanapbfhkaaVrd
import Derived.Test.YtnkahanapbfhkaaVl
set_option linter.unusedVariables false
set_option linter.unusedSimpArgs false

namespace Go.Proofs.Ytnkahanapbfhkaa
open Go.Pv Go.RowKit
set_option maxHeartbeats 16000000

theorem r_eqSame {l : St} {w : World} {od : Option Nat} {ty : TypeId} {pos : String} {af : Array Edge} {x y : Operand} {a : Int × Int} (hx : ev l x = .agg (pc a).toArray) (hy : ev l y = .agg (pc a).toArray) : Runs Try.prog ⟨od, .binOp .eql 23 x y 23, ty, pos, af, none⟩ l w (.bool true) := by
  have h := r_eqSpan (w := w) (od := od) (ty := ty) (pos := pos) (af := af) hx hy
  rw [decide_eq_true rfl] at h
  exact h
theorem places_any (co ti lo hi n t : Int) (w : World) : Ret Try.prog 3 [.agg #[.int .i64 co, .int .i64 ti, .int .i64 lo, .int .i64 hi], .int .i64 n, .int .i64 t] w fun r _ => r = .bool true := by
  refine ret_of_c Try.func3 rfl Try.ntmps3 (Nat.le_of_ble_eq_true rfl) (by dsimp only [ini, Nat.reduceAdd] <;> exact rfl) ?_
  repeat' (first
      | ((first | ((with_reducible apply W_op); exact rfl; exact rfl) | ((with_reducible apply WQ_op); exact rfl; exact rfl; intro wq he) | ((with_reducible apply WM_op); exact rfl; exact rfl; intro wq he) | ((with_reducible apply WB_op); exact rfl; exact rfl; intro wq)); (first | ((with_reducible apply r_move); ((conv => lhs; whnf) <;> exact rfl)) | ((with_reducible apply r_assign); ((conv => lhs; whnf) <;> exact rfl)) | ((with_reducible apply r_load); exact rfl; exact rfl; (first | assumption | exact (Bx.cell (by repeat (first | assumption | ((with_reducible apply Bx.grownS); assumption; (first | omega | exact Nat.ne_of_lt (Nat.lt_of_lt_of_le (Bx.lt (by assumption)) (by omega)))) | ((with_reducible apply Bx.below); assumption; omega) | ((with_reducible apply Bx.ex); assumption))) _).trans rfl | exact Ex.cell (by assumption) (by assumption))) | ((with_reducible apply r_loadF); exact rfl; (first | assumption | exact (Bx.cell (by repeat (first | assumption | ((with_reducible apply Bx.grownS); assumption; (first | omega | exact Nat.ne_of_lt (Nat.lt_of_lt_of_le (Bx.lt (by assumption)) (by omega)))) | ((with_reducible apply Bx.below); assumption; omega) | ((with_reducible apply Bx.ex); assumption))) _).trans rfl | exact Ex.cell (by assumption) (by assumption))) | ((with_reducible apply r_loadA); exact rfl; (first | assumption | exact Bx.cells (by repeat (first | assumption | ((with_reducible apply Bx.grownS); assumption; (first | omega | exact Nat.ne_of_lt (Nat.lt_of_lt_of_le (Bx.lt (by assumption)) (by omega)))) | ((with_reducible apply Bx.below); assumption; omega) | ((with_reducible apply Bx.ex); assumption))) | exact Cells.ex (by assumption) (by assumption)); exact rfl) | ((with_reducible apply r_eql); exact rfl; exact rfl) | ((with_reducible apply r_pick_true); exact rfl; ((conv => lhs; whnf) <;> exact rfl)) | ((with_reducible apply r_pick_false); exact rfl; ((conv => lhs; whnf) <;> exact rfl)) | ((with_reducible apply r_eqlb); exact rfl; exact rfl) | ((with_reducible apply r_extract); exact rfl; exact rfl) | ((with_reducible apply r_loadSub); exact rfl; (focus ((repeat (first | assumption | ((with_reducible apply Bx.grownS); assumption; (first | omega | exact Nat.ne_of_lt (Nat.lt_of_lt_of_le (Bx.lt (by assumption)) (by omega)))) | ((with_reducible apply Bx.below); assumption; omega) | ((with_reducible apply Bx.ex); assumption))); done)); ((simp only [Nat.add_zero, Nat.zero_add, Nat.reduceAdd, List.drop_zero, List.drop_succ_cons, List.take_succ_cons, List.take_zero]) <;> exact rfl); exact rfl)))
      | (refine W_callv (Length_any co ti lo hi n _) rfl (fun wq he => ?_); have hsz := he.size)
      | (refine W_callv (given_any co ti lo hi _) rfl (fun wq he => ?_); have hsz := he.size)
      | (refine W_callv (rLength_any co ti lo hi n _) rfl (fun wq he => ?_); have hsz := he.size)
      | (refine W_callv (Place_any co ti lo hi t _) rfl (fun wq he => ?_); have hsz := he.size)
      | (refine W_callv (rPlace_any co ti lo hi t _) rfl (fun wq he => ?_); have hsz := he.size)
      | ((with_reducible apply WQ_op); exact rfl; exact rfl; (intro wq he; exact r_eqSame rfl rfl))
      | (refine WQ_callv (fun wq he => spCheck_any co ti lo hi _) rfl ?_)
      | (refine WQ_callv (fun wq he => given_any co ti lo hi _) rfl ?_)
      | (refine WQ_callv (fun wq he => rCheck_any co ti lo hi _) rfl ?_)
      | (refine WQ_callv (fun wq he => works_any _) rfl ?_)
      | (with_reducible apply W_nil)
      | ((with_reducible apply WQ_nil); exact rfl; intro wq he; have hsz := he.size)
      | (with_reducible apply WM_nil; intro wq he; have hsz := he.size)
      | (with_reducible apply WB_nil)
      | (with_reducible apply WT_nil)
      | (with_reducible apply WT_cons)
      | (with_reducible apply t_sink)
      | ((with_reducible apply t_keep); (focus ((repeat (first | assumption | exact Ex.refl _ | (refine Ex.trans ?_ (by assumption)) | (refine Ex.of_grown ?_ (by assumption) (by intro k hk; cases hk; omega)))); done)); intro wq he; have hsz := he.size)
      | ((with_reducible apply W_box); exact rfl; exact rfl; intro bq wq hbq he hnq; have hltq := Bx.lt hbq; have hsz := he.size)
      | ((with_reducible apply W_alloc); exact rfl; intro bq wq hbq he hnq; have hltq := Bx.lt hbq; have hsz := he.size)
      | ((with_reducible apply W_storeA); exact rfl; (focus ((repeat (first | assumption | ((with_reducible apply Bx.grownS); assumption; (first | omega | exact Nat.ne_of_lt (Nat.lt_of_lt_of_le (Bx.lt (by assumption)) (by omega)))) | ((with_reducible apply Bx.below); assumption; omega) | ((with_reducible apply Bx.ex); assumption))); done)); exact rfl; exact rfl; exact rfl; (repeat' (first | exact trivial | (first | exact rfl | assumption | exact IntsK.one (by assumption) | exact Prs.one (by assumption) | exact OwnP.one (by assumption) | exact Own.one (by assumption)) | constructor)); intro wq hbq hgq; have he : Ex w wq := (by repeat (first | assumption | exact Ex.refl _ | (refine Ex.trans ?_ (by assumption)) | (refine Ex.of_grown ?_ (by assumption) (by intro k hk; cases hk; omega)))); have hsz := he.size; have hgz := hgq.size)
      | ((with_reducible apply W_store); exact rfl; (focus ((repeat (first | assumption | ((with_reducible apply Bx.grownS); assumption; (first | omega | exact Nat.ne_of_lt (Nat.lt_of_lt_of_le (Bx.lt (by assumption)) (by omega)))) | ((with_reducible apply Bx.below); assumption; omega) | ((with_reducible apply Bx.ex); assumption))); done)); exact Nat.le_of_ble_eq_true rfl; ((conv => lhs; whnf) <;> exact rfl); (first | exact rfl | assumption | exact IntsK.one (by assumption) | exact Prs.one (by assumption) | exact OwnP.one (by assumption) | exact Own.one (by assumption)); simp only [lset]; intro wq hbq hgq; have he : Ex w wq := (by repeat (first | assumption | exact Ex.refl _ | (refine Ex.trans ?_ (by assumption)) | (refine Ex.of_grown ?_ (by assumption) (by intro k hk; cases hk; omega)))); have hsz := he.size; have hgz := hgq.size)
      | ((with_reducible apply W_pass); exact rfl; exact rfl; exact rfl; exact rfl; exact rfl)
      | ((with_reducible apply W_take); exact rfl; exact rfl; exact rfl)
      | ((with_reducible apply W_passU); exact rfl; exact rfl; exact rfl; exact rfl)
      | ((with_reducible apply W_split); exact rfl; exact rfl; intro _; rotate_left 1; intro _)
      | ((with_reducible apply WQ_pass); exact rfl; exact rfl; exact rfl; exact rfl; exact rfl)
      | ((with_reducible apply WQ_take); exact rfl; exact rfl; exact rfl)
      | ((with_reducible apply WQ_passU); exact rfl; exact rfl; exact rfl; exact rfl)
      | ((with_reducible apply WQ_split); exact rfl; exact rfl; intro _; rotate_left 1; intro _)
      | ((with_reducible apply WM_pass); exact rfl; exact rfl; exact rfl; exact rfl; exact rfl)
      | ((with_reducible apply WM_take); exact rfl; exact rfl; exact rfl)
      | ((with_reducible apply WM_passU); exact rfl; exact rfl; exact rfl; exact rfl)
      | ((with_reducible apply WM_split); exact rfl; exact rfl; intro _; rotate_left 1; intro _)
      | ((with_reducible apply c_quiet); kernel_rfl)
      | (with_reducible apply c_seq)
      | (with_reducible apply c_region)
      | (with_reducible apply c_skip)
      | (with_reducible apply c_ret)
      | (with_reducible apply n_then)
      | (with_reducible apply e_then)
      | (with_reducible apply r_then)
      | ((with_reducible apply p_ret1); exact rfl; ((conv => lhs; whnf) <;> exact rfl); refine ⟨_, rfl, ?_, (by repeat (first | assumption | exact Ex.refl _ | (refine Ex.trans ?_ (by assumption)) | (refine Ex.of_grown ?_ (by assumption) (by intro k hk; cases hk; omega))))⟩)
      | ((with_reducible apply q_ret1); exact rfl; ((conv => lhs; whnf) <;> exact rfl); refine ⟨_, rfl, ?_, (by repeat (first | assumption | exact Ex.refl _ | (refine Ex.trans ?_ (by assumption)) | (refine Ex.of_grown ?_ (by assumption) (by intro k hk; cases hk; omega))))⟩)
      | ((with_reducible apply p_retct); exact rfl; exact inferInstance; exact inferInstance; exact rfl; (focus ((repeat (first | assumption | ((with_reducible apply Bx.grownS); assumption; (first | omega | exact Nat.ne_of_lt (Nat.lt_of_lt_of_le (Bx.lt (by assumption)) (by omega)))) | ((with_reducible apply Bx.below); assumption; omega) | ((with_reducible apply Bx.ex); assumption))); done)); exact rfl; exact rfl; refine ⟨_, rfl, ?_, (by repeat (first | assumption | exact Ex.refl _ | (refine Ex.trans ?_ (by assumption)) | (refine Ex.of_grown ?_ (by assumption) (by intro k hk; cases hk; omega))))⟩)
      | ((exfalso; omega)))
  all_goals first | rfl | (exfalso; omega)
theorem arrivals_any (co ti lo hi p g t : Int) (w : World) : Ret Try.prog 4 [.agg #[.int .i64 co, .int .i64 ti, .int .i64 lo, .int .i64 hi], .int .i64 p, .int .i64 g, .int .i64 t] w fun r _ => r = .bool true := by
  refine ret_of_c Try.func4 rfl Try.ntmps4 (Nat.le_of_ble_eq_true rfl) (by dsimp only [ini, Nat.reduceAdd] <;> exact rfl) ?_
  repeat' (first
      | ((first | ((with_reducible apply W_op); exact rfl; exact rfl)); (first | ((with_reducible apply r_move); ((conv => lhs; whnf) <;> exact rfl)) | ((with_reducible apply r_assign); ((conv => lhs; whnf) <;> exact rfl)) | ((with_reducible apply r_load); exact rfl; exact rfl; (first | assumption | exact (Bx.cell (by repeat (first | assumption | ((with_reducible apply Bx.grownS); assumption; (first | omega | exact Nat.ne_of_lt (Nat.lt_of_lt_of_le (Bx.lt (by assumption)) (by omega)))) | ((with_reducible apply Bx.below); assumption; omega) | ((with_reducible apply Bx.ex); assumption))) _).trans rfl | exact Ex.cell (by assumption) (by assumption))) | ((with_reducible apply r_loadF); exact rfl; (first | assumption | exact (Bx.cell (by repeat (first | assumption | ((with_reducible apply Bx.grownS); assumption; (first | omega | exact Nat.ne_of_lt (Nat.lt_of_lt_of_le (Bx.lt (by assumption)) (by omega)))) | ((with_reducible apply Bx.below); assumption; omega) | ((with_reducible apply Bx.ex); assumption))) _).trans rfl | exact Ex.cell (by assumption) (by assumption))) | ((with_reducible apply r_loadA); exact rfl; (first | assumption | exact Bx.cells (by repeat (first | assumption | ((with_reducible apply Bx.grownS); assumption; (first | omega | exact Nat.ne_of_lt (Nat.lt_of_lt_of_le (Bx.lt (by assumption)) (by omega)))) | ((with_reducible apply Bx.below); assumption; omega) | ((with_reducible apply Bx.ex); assumption))) | exact Cells.ex (by assumption) (by assumption)); exact rfl) | ((with_reducible apply r_eql); exact rfl; exact rfl) | ((with_reducible apply r_pick_true); exact rfl; ((conv => lhs; whnf) <;> exact rfl)) | ((with_reducible apply r_pick_false); exact rfl; ((conv => lhs; whnf) <;> exact rfl)) | ((with_reducible apply r_eqlb); exact rfl; exact rfl) | ((with_reducible apply r_extract); exact rfl; exact rfl) | ((with_reducible apply r_loadSub); exact rfl; (focus ((repeat (first | assumption | ((with_reducible apply Bx.grownS); assumption; (first | omega | exact Nat.ne_of_lt (Nat.lt_of_lt_of_le (Bx.lt (by assumption)) (by omega)))) | ((with_reducible apply Bx.below); assumption; omega) | ((with_reducible apply Bx.ex); assumption))); done)); ((simp only [Nat.add_zero, Nat.zero_add, Nat.reduceAdd, List.drop_zero, List.drop_succ_cons, List.take_succ_cons, List.take_zero]) <;> exact rfl); exact rfl)))
      | (refine W_callv (Arrival_any co ti lo hi p _) rfl (fun wq he => ?_); have hsz := he.size)
      | (refine W_callv (given_any co ti lo hi _) rfl (fun wq he => ?_); have hsz := he.size)
      | (refine W_callv (rArrival_any co ti lo hi p _) rfl (fun wq he => ?_); have hsz := he.size)
      | (refine W_callv (Drift_any co ti lo hi g t _) rfl (fun wq he => ?_); have hsz := he.size)
      | (refine W_callv (rDrift_any co ti lo hi g t _) rfl (fun wq he => ?_); have hsz := he.size)
      | ((with_reducible apply W_op); exact rfl; exact rfl; exact r_eqSame rfl rfl)
      | ((with_reducible apply WQ_op); exact rfl; exact rfl; (intro wq he; exact r_eqSame rfl rfl))
      | (refine WQ_callv (fun wq he => works_any _) rfl ?_)
      | (refine W_callv (works_any _) rfl (fun wq he => ?_); have hsz := he.size)
      | (with_reducible apply W_nil)
      | ((with_reducible apply W_box); exact rfl; exact rfl; intro bq wq hbq he hnq; have hltq := Bx.lt hbq; have hsz := he.size)
      | ((with_reducible apply W_alloc); exact rfl; intro bq wq hbq he hnq; have hltq := Bx.lt hbq; have hsz := he.size)
      | ((with_reducible apply W_storeA); exact rfl; (focus ((repeat (first | assumption | ((with_reducible apply Bx.grownS); assumption; (first | omega | exact Nat.ne_of_lt (Nat.lt_of_lt_of_le (Bx.lt (by assumption)) (by omega)))) | ((with_reducible apply Bx.below); assumption; omega) | ((with_reducible apply Bx.ex); assumption))); done)); exact rfl; exact rfl; exact rfl; (repeat' (first | exact trivial | (first | exact rfl | assumption | exact IntsK.one (by assumption) | exact Prs.one (by assumption) | exact OwnP.one (by assumption) | exact Own.one (by assumption)) | constructor)); intro wq hbq hgq; have he : Ex w wq := (by repeat (first | assumption | exact Ex.refl _ | (refine Ex.trans ?_ (by assumption)) | (refine Ex.of_grown ?_ (by assumption) (by intro k hk; cases hk; omega)))); have hsz := he.size; have hgz := hgq.size)
      | ((with_reducible apply W_store); exact rfl; (focus ((repeat (first | assumption | ((with_reducible apply Bx.grownS); assumption; (first | omega | exact Nat.ne_of_lt (Nat.lt_of_lt_of_le (Bx.lt (by assumption)) (by omega)))) | ((with_reducible apply Bx.below); assumption; omega) | ((with_reducible apply Bx.ex); assumption))); done)); exact Nat.le_of_ble_eq_true rfl; ((conv => lhs; whnf) <;> exact rfl); (first | exact rfl | assumption | exact IntsK.one (by assumption) | exact Prs.one (by assumption) | exact OwnP.one (by assumption) | exact Own.one (by assumption)); simp only [lset]; intro wq hbq hgq; have he : Ex w wq := (by repeat (first | assumption | exact Ex.refl _ | (refine Ex.trans ?_ (by assumption)) | (refine Ex.of_grown ?_ (by assumption) (by intro k hk; cases hk; omega)))); have hsz := he.size; have hgz := hgq.size)
      | ((with_reducible apply W_pass); exact rfl; exact rfl; exact rfl; exact rfl; exact rfl)
      | ((with_reducible apply W_take); exact rfl; exact rfl; exact rfl)
      | ((with_reducible apply W_passU); exact rfl; exact rfl; exact rfl; exact rfl)
      | ((with_reducible apply W_split); exact rfl; exact rfl; intro _; rotate_left 1; intro _)
      | (with_reducible apply c_seq)
      | (with_reducible apply c_region)
      | (with_reducible apply c_skip)
      | (with_reducible apply c_ret)
      | (with_reducible apply n_then)
      | (with_reducible apply e_then)
      | (with_reducible apply r_then)
      | ((with_reducible apply p_ret1); exact rfl; ((conv => lhs; whnf) <;> exact rfl); refine ⟨_, rfl, ?_, (by repeat (first | assumption | exact Ex.refl _ | (refine Ex.trans ?_ (by assumption)) | (refine Ex.of_grown ?_ (by assumption) (by intro k hk; cases hk; omega))))⟩)
      | ((with_reducible apply q_ret1); exact rfl; ((conv => lhs; whnf) <;> exact rfl); refine ⟨_, rfl, ?_, (by repeat (first | assumption | exact Ex.refl _ | (refine Ex.trans ?_ (by assumption)) | (refine Ex.of_grown ?_ (by assumption) (by intro k hk; cases hk; omega))))⟩)
      | ((with_reducible apply p_retct); exact rfl; exact inferInstance; exact inferInstance; exact rfl; (focus ((repeat (first | assumption | ((with_reducible apply Bx.grownS); assumption; (first | omega | exact Nat.ne_of_lt (Nat.lt_of_lt_of_le (Bx.lt (by assumption)) (by omega)))) | ((with_reducible apply Bx.below); assumption; omega) | ((with_reducible apply Bx.ex); assumption))); done)); exact rfl; exact rfl; refine ⟨_, rfl, ?_, (by repeat (first | assumption | exact Ex.refl _ | (refine Ex.trans ?_ (by assumption)) | (refine Ex.of_grown ?_ (by assumption) (by intro k hk; cases hk; omega))))⟩)
      | ((exfalso; omega)))
  all_goals first | rfl | (exfalso; omega)
end Go.Proofs.Ytnkahanapbfhkaa
