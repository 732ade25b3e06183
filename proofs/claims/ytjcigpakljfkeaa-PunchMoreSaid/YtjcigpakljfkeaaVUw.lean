/-
  What this text proves: the examples of the chapter hold. Conditions: none.
-/
import Derived.Test.YtjcigpakljfkeaaVUk
set_option linter.unusedVariables false
set_option linter.unusedSimpArgs false
namespace Go.Proofs.Ytjcigpakljfkeaa
open Go.Pv Go.RowKit
set_option maxHeartbeats 8000000
set_option maxRecDepth 20000
theorem works_any (w : World) : Ret Try.prog 15 [] w fun r _ => r = .bool true := by
  refine ret_of_c Try.func15 rfl Try.ntmps15 (Nat.le_of_ble_eq_true rfl) (by dsimp only [ini, Nat.reduceAdd] <;> exact rfl) ?_
  repeat' (first
      | ((with_reducible apply W_split); exact rfl; exact rfl; intro _; rotate_left 1; intro _; (all_goals (try (exfalso; (focus (omega; done))))))
      | (refine W_bsG (N := 5) (n := 1) (qs := [(0, .int .i64 0), (1, .int .i64 1), (2, .int .i64 0), (3, .int .i64 2), (4, .int .i64 0)]) (c := [.int .i64 0, .int .i64 1, .int .i64 0, .int .i64 2, .int .i64 0]) rfl rfl (by kernel_rfl) ?_; intro bS wq hbS he hnq; have hltq := Bx.lt hbS; have hsz := he.size)
      | (refine W_bsG (N := 5) (n := 1) (qs := [(0, .int .i64 0), (1, .int .i64 1), (2, .int .i64 2), (3, .int .i64 2), (4, .int .i64 0)]) (c := [.int .i64 0, .int .i64 1, .int .i64 2, .int .i64 2, .int .i64 0]) rfl rfl (by kernel_rfl) ?_; intro bS wq hbS he hnq; have hltq := Bx.lt hbS; have hsz := he.size)
      | (refine W_bsG (N := 3) (n := 1) (qs := [(0, .int .i64 1), (1, .int .i64 2), (2, .int .i64 3)]) (c := [.int .i64 1, .int .i64 2, .int .i64 3]) rfl rfl (by kernel_rfl) ?_; intro bS wq hbS he hnq; have hltq := Bx.lt hbS; have hsz := he.size)
      | (refine W_bsG (N := 2) (n := 2) (qs := [(0, .agg #[.int .i64 100, .int .i64 139]), (1, .agg #[.int .i64 150, .int .i64 151])]) (c := [.int .i64 100, .int .i64 139, .int .i64 150, .int .i64 151]) rfl rfl (by kernel_rfl) ?_; intro bS wq hbS he hnq; have hltq := Bx.lt hbS; have hsz := he.size)
      | (refine W_bsG (N := 2) (n := 2) (qs := [(0, .agg #[.int .i64 0, .int .i64 50]), (1, .agg #[.int .i64 70, .int .i64 120])]) (c := [.int .i64 0, .int .i64 50, .int .i64 70, .int .i64 120]) rfl rfl (by kernel_rfl) ?_; intro bS wq hbS he hnq; have hltq := Bx.lt hbS; have hsz := he.size)
      | (refine W_bsG (N := 2) (n := 2) (qs := [(0, .agg #[.int .i64 0, .int .i64 51]), (1, .agg #[.int .i64 70, .int .i64 120])]) (c := [.int .i64 0, .int .i64 51, .int .i64 70, .int .i64 120]) rfl rfl (by kernel_rfl) ?_; intro bS wq hbS he hnq; have hltq := Bx.lt hbS; have hsz := he.size)
      | ((with_reducible apply W_op); exact rfl; exact rfl; exact r_eqC (op := .eql) (T := 55) (.bool true) rfl rfl (by kernel_rfl) (by kernel_rfl))
      | ((first | ((with_reducible apply W_op); exact rfl; exact rfl)); (first | ((with_reducible apply r_move); ((conv => lhs; whnf) <;> exact rfl)) | ((with_reducible apply r_assign); ((conv => lhs; whnf) <;> exact rfl)) | ((with_reducible apply r_loadA); exact rfl; (first | assumption | exact Bx.cells (by repeat (first | assumption | ((with_reducible apply Bx.grownS); assumption; (first | omega | exact Bx.ne (by assumption) (by omega))) | ((with_reducible apply Bx.below); assumption; omega) | ((with_reducible apply Bx.ex); assumption))) | exact Cells.ex (by assumption) (by assumption)); exact rfl) | ((with_reducible apply r_eql); exact rfl; exact rfl) | ((with_reducible apply r_neq); exact rfl; exact rfl) | ((with_reducible apply r_pick_true); exact rfl; ((conv => lhs; whnf) <;> exact rfl)) | ((with_reducible apply r_pick_false); exact rfl; ((conv => lhs; whnf) <;> exact rfl)) | ((with_reducible apply r_extract); exact rfl; exact rfl) | ((with_reducible apply r_build2); ((conv => lhs; whnf) <;> exact rfl); ((conv => lhs; whnf) <;> exact rfl); (first | exact rfl | assumption | exact IntsK.one (by assumption) | exact Prs.one (by assumption) | exact Own.one (by assumption)); (first | exact rfl | assumption | exact IntsK.one (by assumption) | exact Prs.one (by assumption) | exact Own.one (by assumption)); exact rfl; exact rfl; ((simp only [lay, lset, List.replicate_succ, List.replicate_zero]) <;> exact rfl))))
      | (refine W_call (J_any _) rfl ?_; rintro vq wq ⟨vj, rfl, hvj⟩ he; have hsz := he.size; have hvj1 := hvj.one)
      | (refine W_callv (P_any _) rfl (fun wq he => ?_); have hsz := he.size)
      | (refine W_call (eJP _ _ (by assumption)) rfl ?_; rintro vq wq ⟨ua, rfl, hua⟩ he; have hsz := he.size; have hua1 := hua.one)
      | (refine W_call (eJC _ _ (by assumption)) rfl ?_; rintro vq wq ⟨ub, rfl, hub⟩ he; have hsz := he.size; have hub1 := hub.one)
      | (refine W_callv (eJM _ _ (by assumption)) rfl (fun wq he => ?_); have hsz := he.size)
      | (refine W_callv (eJA vj _ _ (Prs.ex (by repeat (first | assumption | exact Ex.refl _ | (refine Ex.trans ?_ (by assumption)) | (refine Ex.of_grown ?_ (by assumption) (by intro k hk; cases hk; omega)))) hvj) (IntsK.built (xs := [0, 1, 0, 2, 0]) hbS rfl (by simp))) rfl (fun wq he => ?_); have hsz := he.size)
      | (refine W_callv (eJV vj _ _ (Prs.ex (by repeat (first | assumption | exact Ex.refl _ | (refine Ex.trans ?_ (by assumption)) | (refine Ex.of_grown ?_ (by assumption) (by intro k hk; cases hk; omega)))) hvj) (IntsK.built (xs := [0, 1, 2, 2, 0]) hbS rfl (by simp))) rfl (fun wq he => ?_); have hsz := he.size)
      | (refine W_callv (ePB _) rfl (fun wq he => ?_); have hsz := he.size)
      | (refine W_call (ePR _) rfl ?_; rintro vq wq ⟨ul, rfl, hul⟩ he; have hsz := he.size; have hul1 := hul.one)
      | (refine W_callv (numbers_same _ _ [0, 1, 0, 2, 0] _ (IntsK.ex (by repeat (first | exact Ex.refl _ | assumption | (refine Ex.of_grown ?_ (by assumption) (by intro k hk; cases hk; omega)) | (refine Ex.trans ?_ (by assumption)))) hua) (IntsK.built (xs := [0, 1, 0, 2, 0]) hbS rfl (by simp))) rfl (fun wq he => ?_); have hsz := he.size)
      | (refine W_callv (numbers_same _ _ [1, 2, 3] _ (IntsK.ex (by repeat (first | exact Ex.refl _ | assumption | (refine Ex.of_grown ?_ (by assumption) (by intro k hk; cases hk; omega)) | (refine Ex.trans ?_ (by assumption)))) hub) (IntsK.built (xs := [1, 2, 3]) hbS rfl (by simp))) rfl (fun wq he => ?_); have hsz := he.size)
      | (refine W_callv (slots_same _ _ [(100, 139), (150, 151)] _ (Prs.ex (by repeat (first | exact Ex.refl _ | assumption | (refine Ex.of_grown ?_ (by assumption) (by intro k hk; cases hk; omega)) | (refine Ex.trans ?_ (by assumption)))) hul) (Prs.built (xs := [(100, 139), (150, 151)]) hbS rfl (by decide))) rfl (fun wq he => ?_); have hsz := he.size)
      | (refine W_callv (ePH1 _ _ (Prs.built (xs := [(0, 50), (70, 120)]) hbS rfl (by decide))) rfl (fun wq he => ?_); have hsz := he.size)
      | (refine W_callv (ePH2 _ _ (Prs.built (xs := [(0, 51), (70, 120)]) hbS rfl (by decide))) rfl (fun wq he => ?_); have hsz := he.size)
      | (with_reducible apply W_nil)
      | ((with_reducible apply W_alloc); exact rfl; intro bq wq hbq he hnq; have hltq := Bx.lt hbq; have hsz := he.size)
      | ((with_reducible apply W_storeA); exact rfl; (focus ((repeat (first | assumption | ((with_reducible apply Bx.grownS); assumption; (first | omega | exact Bx.ne (by assumption) (by omega))) | ((with_reducible apply Bx.below); assumption; omega) | ((with_reducible apply Bx.ex); assumption))); done)); exact rfl; exact rfl; exact rfl; (repeat' (first | exact trivial | (first | exact rfl | assumption | exact IntsK.one (by assumption) | exact Prs.one (by assumption) | exact Own.one (by assumption)) | constructor)); intro wq hbq hgq; have he : Ex w wq := (by repeat (first | assumption | exact Ex.refl _ | (refine Ex.trans ?_ (by assumption)) | (refine Ex.of_grown ?_ (by assumption) (by intro k hk; cases hk; omega)))); have hsz := he.size; have hgz := hgq.size)
      | ((with_reducible apply W_take); exact rfl; exact rfl; exact rfl)
      | (with_reducible apply c_seq)
      | ((with_reducible apply c_region); kernel_rfl)
      | (with_reducible apply n_nq)
      | (with_reducible apply c_skip)
      | (with_reducible apply c_ret)
      | ((with_reducible apply c_cond_false); exact rfl)
      | (with_reducible apply n_then)
      | ((with_reducible apply p_ret1); exact rfl; exact rfl; ((conv => lhs; whnf) <;> exact rfl); refine ⟨_, rfl, ?_, (by repeat (first | assumption | exact Ex.refl _ | (refine Ex.trans ?_ (by assumption)) | (refine Ex.of_grown ?_ (by assumption) (by intro k hk; cases hk; omega))))⟩))
  all_goals first | rfl | simp
end Go.Proofs.Ytjcigpakljfkeaa
