/-
  What this text proves: the law PunchKnown returns true. Conditions: the values read as lists.
-/
import Derived.Test.YtigknnepmhmiaaaVXa
set_option linter.unusedVariables false
set_option linter.unusedSimpArgs false
namespace Go.Proofs.Ytigknnepmhmiaaa
open Go.Pv Go.RowKit
set_option maxHeartbeats 8000000
set_option maxRecDepth 20000
theorem eK1 (v : Value) (w : World) (h : Prs w v JL) : Ret Try.prog 16 [.agg #[.int .i64 2, v], .int .i64 10] w fun r w' => ∃ u, r = .tuple #[u, .int .i64 0] ∧ Ints w' u [1, 4] := by
  have := Crowd_any 2 10 v JL w h
  rwa [eJ0, if_pos rfl, show crowdL 2 JL 10 = [1, 4] by decide] at this
theorem eK2 (w : World) : Ret Try.prog 32 [.agg #[.int .i64 980, .int .i64 1020, .int .i64 51, .int .i64 10, .int .i64 21], .agg #[.int .i64 0, .int .i64 120]] w fun r w' => ∃ u, r = .tuple #[u, .int .i64 0] ∧ Prs w' u [(0, 50), (70, 120)] := by
  have := bridge_any 980 1020 51 10 21 0 120 w
  rw [show bridgeErr 980 1020 51 10 21 (0, 120) = 0 by decide, show bridgeL 980 1020 51 10 21 (0, 120) = [(0, 50), (70, 120)] by decide] at this
  exact this.monoU fun r _ _ ⟨u, e, h⟩ => ⟨u, e, h.prs⟩
theorem eK3 (w : World) : Ret Try.prog 32 [.agg #[.int .i64 980, .int .i64 1020, .int .i64 51, .int .i64 10, .int .i64 21], .agg #[.int .i64 100, .int .i64 150]] w fun r w' => ∃ u, r = .tuple #[u, .int .i64 0] ∧ Prs w' u [(100, 150)] := by
  have := bridge_any 980 1020 51 10 21 100 150 w
  rw [show bridgeErr 980 1020 51 10 21 (100, 150) = 0 by decide, show bridgeL 980 1020 51 10 21 (100, 150) = [(100, 150)] by decide] at this
  exact this.monoU fun r _ _ ⟨u, e, h⟩ => ⟨u, e, h.prs⟩
theorem eK4 (v pv : Value) (w : World) (h : Prs w v JL) (hp : Ints w pv [0, 1, 0, 2, 0]) : Ret Try.prog 28 [.agg #[.int .i64 2, v], pv, .agg #[.int .i64 20, .int .i64 21]] w fun r _ => r = .tuple #[.int .i64 0, .int .i64 0] := by
  have := Add_any 2 20 21 v pv JL [0, 1, 0, 2, 0] w h hp
  rwa [show addErr 2 JL [0, 1, 0, 2, 0] (20, 21) = 0 by decide, if_pos rfl, show smallN 2 JL (fillP [0, 1, 0, 2, 0]) (20, 21) = 0 by decide] at this
theorem lawKnown_any (w : World) : Ret Try.prog 14 [] w fun r _ => r = .bool true := by
  refine ret_of_c Try.func14 rfl Try.ntmps14 (Nat.le_of_ble_eq_true rfl) (by dsimp only [ini, Nat.reduceAdd] <;> exact rfl) ?_
  repeat' (first
      | ((with_reducible apply W_split); exact rfl; exact rfl; intro _; rotate_left 1; intro _; (all_goals (try (exfalso; (focus (omega; done))))))
      | (refine W_bsG (N := 5) (n := 1) (qs := [(0, .int .i64 0), (1, .int .i64 1), (2, .int .i64 0), (3, .int .i64 2), (4, .int .i64 0)]) (c := [.int .i64 0, .int .i64 1, .int .i64 0, .int .i64 2, .int .i64 0]) rfl rfl (by kernel_rfl) ?_; intro bS wq hbS he hnq; have hltq := Bx.lt hbS; have hsz := he.size)
      | (refine W_bsG (N := 2) (n := 1) (qs := [(0, .int .i64 1), (1, .int .i64 4)]) (c := [.int .i64 1, .int .i64 4]) rfl rfl (by kernel_rfl) ?_; intro bS wq hbS he hnq; have hltq := Bx.lt hbS; have hsz := he.size)
      | (refine W_bsG (N := 2) (n := 2) (qs := [(0, .agg #[.int .i64 0, .int .i64 50]), (1, .agg #[.int .i64 70, .int .i64 120])]) (c := [.int .i64 0, .int .i64 50, .int .i64 70, .int .i64 120]) rfl rfl (by kernel_rfl) ?_; intro bS wq hbS he hnq; have hltq := Bx.lt hbS; have hsz := he.size)
      | (refine W_bsG (N := 1) (n := 2) (qs := [(0, .agg #[.int .i64 100, .int .i64 150])]) (c := [.int .i64 100, .int .i64 150]) rfl rfl (by kernel_rfl) ?_; intro bS wq hbS he hnq; have hltq := Bx.lt hbS; have hsz := he.size)
      | ((first | ((with_reducible apply W_op); exact rfl; exact rfl)); (first | ((with_reducible apply r_move); ((conv => lhs; whnf) <;> exact rfl)) | ((with_reducible apply r_assign); ((conv => lhs; whnf) <;> exact rfl)) | ((with_reducible apply r_eql); exact rfl; exact rfl) | ((with_reducible apply r_pick_true); exact rfl; ((conv => lhs; whnf) <;> exact rfl)) | ((with_reducible apply r_extract); exact rfl; exact rfl) | ((with_reducible apply r_build2); ((conv => lhs; whnf) <;> exact rfl); ((conv => lhs; whnf) <;> exact rfl); (first | exact rfl | assumption | exact IntsK.one (by assumption) | exact Prs.one (by assumption) | exact Own.one (by assumption)); (first | exact rfl | assumption | exact IntsK.one (by assumption) | exact Prs.one (by assumption) | exact Own.one (by assumption)); exact rfl; exact rfl; ((simp only [lay, lset, List.replicate_succ, List.replicate_zero]) <;> exact rfl))))
      | (refine W_call (J_any _) rfl ?_; rintro vq wq ⟨vj, rfl, hvj⟩ he; have hsz := he.size; have hvj1 := hvj.one)
      | (refine W_callv (P_any _) rfl (fun wq he => ?_); have hsz := he.size)
      | (refine W_call (eK1 _ _ (by assumption)) rfl ?_; rintro vq wq ⟨ua, rfl, hua⟩ he; have hsz := he.size; have hua1 := hua.one)
      | (refine W_call (eK2 _) rfl ?_; rintro vq wq ⟨ub, rfl, hub⟩ he; have hsz := he.size; have hub1 := hub.one)
      | (refine W_call (eK3 _) rfl ?_; rintro vq wq ⟨uc, rfl, huc⟩ he; have hsz := he.size; have huc1 := huc.one)
      | (refine W_callv (eK4 vj _ _ (Prs.ex (by repeat (first | assumption | exact Ex.refl _ | (refine Ex.trans ?_ (by assumption)) | (refine Ex.of_grown ?_ (by assumption) (by intro k hk; cases hk; omega)))) hvj) (IntsK.built (xs := [0, 1, 0, 2, 0]) hbS rfl (by simp))) rfl (fun wq he => ?_); have hsz := he.size)
      | (refine W_callv (numbers_same _ _ [1, 4] _ (IntsK.ex (by repeat (first | exact Ex.refl _ | assumption | (refine Ex.of_grown ?_ (by assumption) (by intro k hk; cases hk; omega)) | (refine Ex.trans ?_ (by assumption)))) hua) (IntsK.built (xs := [1, 4]) hbS rfl (by simp))) rfl (fun wq he => ?_); have hsz := he.size)
      | (refine W_callv (slots_same _ _ [(0, 50), (70, 120)] _ (Prs.ex (by repeat (first | exact Ex.refl _ | assumption | (refine Ex.of_grown ?_ (by assumption) (by intro k hk; cases hk; omega)) | (refine Ex.trans ?_ (by assumption)))) hub) (Prs.built (xs := [(0, 50), (70, 120)]) hbS rfl (by decide))) rfl (fun wq he => ?_); have hsz := he.size)
      | (refine W_callv (slots_same _ _ [(100, 150)] _ (Prs.ex (by repeat (first | exact Ex.refl _ | assumption | (refine Ex.of_grown ?_ (by assumption) (by intro k hk; cases hk; omega)) | (refine Ex.trans ?_ (by assumption)))) huc) (Prs.built (xs := [(100, 150)]) hbS rfl (by decide))) rfl (fun wq he => ?_); have hsz := he.size)
      | (refine W_callv (works_any _) rfl (fun wq he => ?_); have hsz := he.size)
      | (with_reducible apply W_nil)
      | ((with_reducible apply W_take); exact rfl; exact rfl; exact rfl)
      | (with_reducible apply c_seq)
      | ((with_reducible apply c_region); kernel_rfl)
      | (with_reducible apply n_nq)
      | (with_reducible apply c_ret)
      | (with_reducible apply n_then)
      | ((with_reducible apply p_ret1); exact rfl; exact rfl; ((conv => lhs; whnf) <;> exact rfl); refine ⟨_, rfl, ?_, (by repeat (first | assumption | exact Ex.refl _ | (refine Ex.trans ?_ (by assumption)) | (refine Ex.of_grown ?_ (by assumption) (by intro k hk; cases hk; omega))))⟩))
  all_goals rfl
end Go.Proofs.Ytigknnepmhmiaaa
