/-
  (rows) What this text proves: small functions of the reference: is, Least, good, Check. Conditions: as stated in each.
-/
import Derived.Test.YthckkgehdgnkoaaVLt
set_option linter.unusedVariables false
set_option linter.unusedSimpArgs false

namespace Go.Proofs.Ythckkgehdgnkoaa
open Go.Pv Go.RowKit
set_option maxHeartbeats 8000000
set_option maxRecDepth 20000

theorem ris_any (n lo hi : Int) (w : World) : Ret Try.prog 43 [.int .i64 n, .int .i64 lo, .int .i64 hi] w fun r _ => r = .bool (decide (lo ≤ n ∧ n ≤ hi)) := by
  refine ret_of_c Try.func43 rfl Try.ntmps43 (Nat.le_of_ble_eq_true rfl) (by dsimp only [ini, Nat.reduceAdd] <;> exact rfl) ?_
  repeat' (first
      | ((first | ((with_reducible apply W_op); exact rfl; exact rfl)); (first | ((with_reducible apply r_move); ((conv => lhs; whnf) <;> exact rfl)) | ((with_reducible apply r_assign); ((conv => lhs; whnf) <;> exact rfl)) | ((with_reducible apply r_leq); exact rfl; exact rfl) | ((with_reducible apply r_geq); exact rfl; exact rfl) | ((with_reducible apply r_pick_true); exact rfl; ((conv => lhs; whnf) <;> exact rfl)) | ((with_reducible apply r_pick_false); exact rfl; ((conv => lhs; whnf) <;> exact rfl))))
      | (with_reducible apply W_nil)
      | ((with_reducible apply W_pass); exact rfl; exact rfl; exact rfl; exact rfl; exact rfl)
      | ((with_reducible apply W_take); exact rfl; exact rfl; exact rfl)
      | ((with_reducible apply W_passU); exact rfl; exact rfl; exact rfl; exact rfl)
      | ((with_reducible apply W_split); exact rfl; exact rfl; intro _; rotate_left 1; intro _)
      | (with_reducible apply c_seq)
      | (with_reducible apply c_region)
      | (with_reducible apply c_skip)
      | (with_reducible apply c_ret)
      | (with_reducible apply n_then)
      | (with_reducible apply e_then)
      | (with_reducible apply r_then)
      | ((with_reducible apply p_ret1); exact rfl; ((conv => lhs; whnf) <;> exact rfl); refine ⟨_, rfl, ?_, (by repeat (first | assumption | exact Ex.refl _ | (refine Ex.trans ?_ (by assumption)) | (refine Ex.of_grown ?_ (by assumption) (by intro k hk; cases hk; omega))))⟩)
      | ((with_reducible apply q_ret1); exact rfl; ((conv => lhs; whnf) <;> exact rfl); refine ⟨_, rfl, ?_, (by repeat (first | assumption | exact Ex.refl _ | (refine Ex.trans ?_ (by assumption)) | (refine Ex.of_grown ?_ (by assumption) (by intro k hk; cases hk; omega))))⟩)
      | ((with_reducible apply p_retct); exact rfl; exact inferInstance; exact inferInstance; exact rfl; (focus ((repeat (first | assumption | ((with_reducible apply Bx.grownS); assumption; (first | omega | exact Nat.ne_of_lt (Nat.lt_of_lt_of_le (Bx.lt (by assumption)) (by omega)))) | ((with_reducible apply Bx.below); assumption; omega) | ((with_reducible apply Bx.ex); assumption))); done)); exact rfl; exact rfl; refine ⟨_, rfl, ?_, (by repeat (first | assumption | exact Ex.refl _ | (refine Ex.trans ?_ (by assumption)) | (refine Ex.of_grown ?_ (by assumption) (by intro k hk; cases hk; omega))))⟩)
      | ((exfalso; omega)))
  all_goals first
    | (apply bool_iff; omega)
    | (apply bool_ff; omega)
    | (apply bool_tt; omega)
theorem rgood_any (n d m : Int) (w : World) (hm : 0 ≤ m ∧ m ≤ 10000000000) : Ret Try.prog 40 [.agg #[.int .i64 n, .int .i64 d], .int .i64 m] w fun r _ => r = .bool (decide ((-m ≤ n ∧ n ≤ m) ∧ 1 ≤ d ∧ d ≤ 100000)) := by
  refine ret_of_c Try.func40 rfl Try.ntmps40 (Nat.le_of_ble_eq_true rfl) (by dsimp only [ini, Nat.reduceAdd] <;> exact rfl) ?_
  repeat' (first
      | ((first | ((with_reducible apply W_op); exact rfl; exact rfl)); (first | ((with_reducible apply r_move); ((conv => lhs; whnf) <;> exact rfl)) | ((with_reducible apply r_assign); ((conv => lhs; whnf) <;> exact rfl)) | ((with_reducible apply r_fieldAddr); exact rfl) | ((with_reducible apply r_load); exact rfl; exact rfl; (first | assumption | exact (Bx.cell (by repeat (first | assumption | ((with_reducible apply Bx.grownS); assumption; (first | omega | exact Nat.ne_of_lt (Nat.lt_of_lt_of_le (Bx.lt (by assumption)) (by omega)))) | ((with_reducible apply Bx.below); assumption; omega) | ((with_reducible apply Bx.ex); assumption))) _).trans rfl | exact Ex.cell (by assumption) (by assumption))) | ((with_reducible apply r_loadF); exact rfl; (first | assumption | exact (Bx.cell (by repeat (first | assumption | ((with_reducible apply Bx.grownS); assumption; (first | omega | exact Nat.ne_of_lt (Nat.lt_of_lt_of_le (Bx.lt (by assumption)) (by omega)))) | ((with_reducible apply Bx.below); assumption; omega) | ((with_reducible apply Bx.ex); assumption))) _).trans rfl | exact Ex.cell (by assumption) (by assumption))) | ((with_reducible apply r_loadA); exact rfl; (first | assumption | exact Bx.cells (by repeat (first | assumption | ((with_reducible apply Bx.grownS); assumption; (first | omega | exact Nat.ne_of_lt (Nat.lt_of_lt_of_le (Bx.lt (by assumption)) (by omega)))) | ((with_reducible apply Bx.below); assumption; omega) | ((with_reducible apply Bx.ex); assumption))) | exact Cells.ex (by assumption) (by assumption)); exact rfl) | ((with_reducible apply r_pick_true); exact rfl; ((conv => lhs; whnf) <;> exact rfl)) | ((with_reducible apply r_pick_false); exact rfl; ((conv => lhs; whnf) <;> exact rfl)) | ((with_reducible apply r_neg); exact rfl; omega) | ((with_reducible apply r_loadSub); exact rfl; (focus ((repeat (first | assumption | ((with_reducible apply Bx.grownS); assumption; (first | omega | exact Nat.ne_of_lt (Nat.lt_of_lt_of_le (Bx.lt (by assumption)) (by omega)))) | ((with_reducible apply Bx.below); assumption; omega) | ((with_reducible apply Bx.ex); assumption))); done)); ((simp only [Nat.add_zero, Nat.zero_add, Nat.reduceAdd, List.drop_zero, List.drop_succ_cons, List.take_succ_cons, List.take_zero]) <;> exact rfl); exact rfl)))
      | (refine W_callv (ris_any _ _ _ _) rfl (fun wq he => ?_); have hsz := he.size)
      | (with_reducible apply W_nil)
      | ((with_reducible apply W_box); exact rfl; exact rfl; intro bq wq hbq he hnq; have hltq := Bx.lt hbq; have hsz := he.size)
      | ((with_reducible apply W_pass); exact rfl; exact rfl; exact rfl; exact rfl; exact rfl)
      | ((with_reducible apply W_take); exact rfl; exact rfl; exact rfl)
      | ((with_reducible apply W_passU); exact rfl; exact rfl; exact rfl; exact rfl)
      | ((with_reducible apply W_split); exact rfl; exact rfl; intro _; rotate_left 1; intro _)
      | (with_reducible apply c_seq)
      | (with_reducible apply c_region)
      | (with_reducible apply c_skip)
      | (with_reducible apply c_ret)
      | (with_reducible apply n_then)
      | (with_reducible apply e_then)
      | (with_reducible apply r_then)
      | ((with_reducible apply p_ret1); exact rfl; ((conv => lhs; whnf) <;> exact rfl); refine ⟨_, rfl, ?_, (by repeat (first | assumption | exact Ex.refl _ | (refine Ex.trans ?_ (by assumption)) | (refine Ex.of_grown ?_ (by assumption) (by intro k hk; cases hk; omega))))⟩)
      | ((with_reducible apply q_ret1); exact rfl; ((conv => lhs; whnf) <;> exact rfl); refine ⟨_, rfl, ?_, (by repeat (first | assumption | exact Ex.refl _ | (refine Ex.trans ?_ (by assumption)) | (refine Ex.of_grown ?_ (by assumption) (by intro k hk; cases hk; omega))))⟩)
      | ((with_reducible apply p_retct); exact rfl; exact inferInstance; exact inferInstance; exact rfl; (focus ((repeat (first | assumption | ((with_reducible apply Bx.grownS); assumption; (first | omega | exact Nat.ne_of_lt (Nat.lt_of_lt_of_le (Bx.lt (by assumption)) (by omega)))) | ((with_reducible apply Bx.below); assumption; omega) | ((with_reducible apply Bx.ex); assumption))); done)); exact rfl; exact rfl; refine ⟨_, rfl, ?_, (by repeat (first | assumption | exact Ex.refl _ | (refine Ex.trans ?_ (by assumption)) | (refine Ex.of_grown ?_ (by assumption) (by intro k hk; cases hk; omega))))⟩)
      | ((exfalso; omega)))
  all_goals first
    | (apply bool_iff; omega)
    | (apply bool_ff; omega)
    | (apply bool_tt; omega)
theorem rLeast_any (n d : Int) (w : World) (hd : 1 ≤ d ∧ d ≤ 4000000000000000000) (hn : -4000000000000000000 ≤ n ∧ n ≤ 4000000000000000000) : Ret Try.prog 41 [.int .i64 n, .int .i64 d] w fun r _ => r = v2 (low (n, d)) := by
  have hgf := gcd_facts (n := n) hd.1
  refine ret_of_c Try.func41 rfl Try.ntmps41 (Nat.le_of_ble_eq_true rfl) (by dsimp only [ini, Nat.reduceAdd] <;> exact rfl) ?_
  repeat' (first
      | (refine c_mix (id := 4) [] [0, 1, 2, 3, 4, 5, 6] [7] [false, false, false, false, false, false, false, false] [true, true, true, true, true, true, true, false] [none, none, none, none, none, none, none, some true] (by kernel_rfl) (by kernel_rfl) (by kernel_rfl) (by kernel_rfl) (by kernel_rfl) (by kernel_rfl) (by dsimp only [sel] <;> exact rfl) (by dsimp only [sel] <;> exact rfl) (by dsimp only [selT] <;> exact rfl) ?_)
      | (clear tk; (have hms : 1 ≤ r → a % r < r ∧ 0 ≤ a % r := fun h => ⟨Int.emod_lt_of_pos a (by omega), Int.emod_nonneg a (by omega)⟩))
      | ((first | ((with_reducible apply W_op); exact rfl; exact rfl) | ((with_reducible apply WQ_op); exact rfl; exact rfl; intro wq he) | ((with_reducible apply WM_op); exact rfl; exact rfl; intro wq he) | ((with_reducible apply WB_op); exact rfl; exact rfl; intro wq)); (first | ((with_reducible apply r_remE); exact rfl; exact rfl; omega; omega) | ((with_reducible apply r_move); ((conv => lhs; whnf) <;> exact rfl)) | ((with_reducible apply r_assign); ((conv => lhs; whnf) <;> exact rfl)) | ((with_reducible apply r_gtr); exact rfl; exact rfl) | ((with_reducible apply r_quo); exact rfl; exact rfl; omega; omega) | ((with_reducible apply r_rem); exact rfl; exact rfl; omega) | ((with_reducible apply r_neg); exact rfl; omega) | ((with_reducible apply r_build2); ((conv => lhs; whnf) <;> exact rfl); ((conv => lhs; whnf) <;> exact rfl); (first | exact rfl | assumption | exact IntsK.one (by assumption) | exact Prs.one (by assumption) | exact Own.one (by assumption) | exact Row.one (by assumption) | exact OwnR.one (by assumption)); (first | exact rfl | assumption | exact IntsK.one (by assumption) | exact Prs.one (by assumption) | exact Own.one (by assumption) | exact Row.one (by assumption) | exact OwnR.one (by assumption)); exact rfl; exact rfl; ((simp only [lay, lset, List.replicate_succ, List.replicate_zero]) <;> exact rfl)) | ((with_reducible apply r_bldA); kernel_rfl; ((conv => lhs; whnf) <;> exact rfl); ((conv => lhs; whnf) <;> exact rfl); (first | exact rfl | assumption | exact IntsK.one (by assumption) | exact Prs.one (by assumption) | exact Own.one (by assumption) | exact Row.one (by assumption) | exact OwnR.one (by assumption))) | ((with_reducible apply r_max2); exact rfl; exact rfl) | ((with_reducible apply r_arr3); ((conv => lhs; whnf) <;> exact rfl); ((conv => lhs; whnf) <;> exact rfl); ((conv => lhs; whnf) <;> exact rfl); (first | exact rfl | assumption | exact IntsK.one (by assumption) | exact Prs.one (by assumption) | exact Own.one (by assumption) | exact Row.one (by assumption) | exact OwnR.one (by assumption)); (first | exact rfl | assumption | exact IntsK.one (by assumption) | exact Prs.one (by assumption) | exact Own.one (by assumption) | exact Row.one (by assumption) | exact OwnR.one (by assumption)); (first | exact rfl | assumption | exact IntsK.one (by assumption) | exact Prs.one (by assumption) | exact Own.one (by assumption) | exact Row.one (by assumption) | exact OwnR.one (by assumption)))))
      | (refine c_loopG (fun (k : Nat) ps wr => ∃ b4 : Nat, ∃ a : Int, ∃ r : Int, ps = [(0, .int .i64 n), (1, .int .i64 d), (4, .pointer (some ⟨b4, 0, none⟩)), (5, .int .i64 a), (6, .int .i64 r)] ∧ (0 ≤ a ∧ a ≤ 4000000000000000000) ∧ (0 ≤ r ∧ r ≤ 4000000000000000000) ∧ (1 ≤ a ∨ 1 ≤ r) ∧ r = (4000000000000000000 - k : Int) ∧ Int.gcd r a = Int.gcd n d ∧ w.heap.size ≤ b4 ∧ Bx wr b4 [.int .i64 0, .int .i64 0] 24 ∧ Ex w wr) (fun k => 4000000000000000000 - k) (4000000000000000000 - d).toNat _ ⟨_, _, _, rfl, by omega, by omega, by omega, by omega, (by rw [gcd_neg_max, Int.gcd_comm] <;> rfl), by omega, (by repeat (first | assumption | ((with_reducible apply OwnR.grownS); assumption; omega) | ((with_reducible apply Row.ex); assumption) | ((with_reducible apply OwnR.ex); assumption) | ((with_reducible apply Bx.grownS); assumption; (first | omega | exact Nat.ne_of_lt (Nat.lt_of_lt_of_le (Bx.lt (by assumption)) (by omega)))) | ((with_reducible apply Bx.below); assumption; omega) | ((with_reducible apply Own.grownS); assumption; omega) | ((with_reducible apply Bx.ex); assumption) | ((with_reducible apply IntsK.ex); assumption) | ((with_reducible apply Own.ex); assumption) | ((with_reducible apply Prs.ex); assumption))), (by repeat (first | assumption | exact Ex.refl _ | (refine Ex.trans ?_ (by assumption)) | (refine Ex.of_grown ?_ (by assumption) (by intro k hk; cases hk; omega))))⟩ ⟨rfl, rfl, rfl, rfl, rfl, trivial⟩ (by ((conv => lhs; whnf) <;> exact rfl)) ?_; rintro J hJ k u ps wr ⟨b4, a, r, rfl, ha, hr, har, hrk, hgc, hb4, hx4, he⟩; have hsz := he.size; have tk : True := trivial)
      | (refine n_roundG ((4000000000000000000 - a % r).toNat) (hJ _ _ _ _ ⟨_, _, _, rfl, by omega, by omega, by omega, by omega, (by rw [Int.gcd_comm, gcd_step (by omega) (by omega), Int.gcd_comm]; exact hgc), hb4, (by repeat (first | assumption | ((with_reducible apply OwnR.grownS); assumption; omega) | ((with_reducible apply Row.ex); assumption) | ((with_reducible apply OwnR.ex); assumption) | ((with_reducible apply Bx.grownS); assumption; (first | omega | exact Nat.ne_of_lt (Nat.lt_of_lt_of_le (Bx.lt (by assumption)) (by omega)))) | ((with_reducible apply Bx.below); assumption; omega) | ((with_reducible apply Own.grownS); assumption; omega) | ((with_reducible apply Bx.ex); assumption) | ((with_reducible apply IntsK.ex); assumption) | ((with_reducible apply Own.ex); assumption) | ((with_reducible apply Prs.ex); assumption))), (by repeat (first | assumption | exact Ex.refl _ | (refine Ex.trans ?_ (by assumption)) | (refine Ex.of_grown ?_ (by assumption) (by intro k hk; cases hk; omega))))⟩ ⟨rfl, rfl, rfl, rfl, rfl, trivial⟩ rfl) (by omega))
      | (with_reducible apply W_nil)
      | ((with_reducible apply WQ_nil); exact rfl; intro wq he; have hsz := he.size)
      | (with_reducible apply WM_nil; intro wq he; have hsz := he.size)
      | (with_reducible apply WB_nil)
      | (with_reducible apply WT_nil)
      | (with_reducible apply WT_cons)
      | (with_reducible apply t_sink)
      | ((with_reducible apply t_keep); (focus ((repeat (first | assumption | exact Ex.refl _ | (refine Ex.trans ?_ (by assumption)) | (refine Ex.of_grown ?_ (by assumption) (by intro k hk; cases hk; omega)))); done)); intro wq he; have hsz := he.size)
      | ((with_reducible apply W_alloc); exact rfl; intro bq wq hbq he hnq; have hltq := Bx.lt hbq; have hsz := he.size)
      | ((with_reducible apply W_storeA); exact rfl; (focus ((repeat (first | assumption | ((with_reducible apply Bx.grownS); assumption; (first | omega | exact Nat.ne_of_lt (Nat.lt_of_lt_of_le (Bx.lt (by assumption)) (by omega)))) | ((with_reducible apply Bx.below); assumption; omega) | ((with_reducible apply Bx.ex); assumption))); done)); exact rfl; exact rfl; exact rfl; (repeat' (first | exact trivial | (first | exact rfl | assumption | exact IntsK.one (by assumption) | exact Prs.one (by assumption) | exact Own.one (by assumption) | exact Row.one (by assumption) | exact OwnR.one (by assumption)) | constructor)); intro wq hbq hgq; have he : Ex w wq := (by repeat (first | assumption | exact Ex.refl _ | (refine Ex.trans ?_ (by assumption)) | (refine Ex.of_grown ?_ (by assumption) (by intro k hk; cases hk; omega)))); have hsz := he.size; have hgz := hgq.size)
      | ((with_reducible apply W_store); exact rfl; (focus ((repeat (first | assumption | ((with_reducible apply Bx.grownS); assumption; (first | omega | exact Nat.ne_of_lt (Nat.lt_of_lt_of_le (Bx.lt (by assumption)) (by omega)))) | ((with_reducible apply Bx.below); assumption; omega) | ((with_reducible apply Bx.ex); assumption))); done)); exact Nat.le_of_ble_eq_true rfl; ((conv => lhs; whnf) <;> exact rfl); (first | exact rfl | assumption | exact IntsK.one (by assumption) | exact Prs.one (by assumption) | exact Own.one (by assumption) | exact Row.one (by assumption) | exact OwnR.one (by assumption)); simp only [lset]; intro wq hbq hgq; have he : Ex w wq := (by repeat (first | assumption | exact Ex.refl _ | (refine Ex.trans ?_ (by assumption)) | (refine Ex.of_grown ?_ (by assumption) (by intro k hk; cases hk; omega)))); have hsz := he.size; have hgz := hgq.size)
      | ((with_reducible apply c_quiet); kernel_rfl)
      | (with_reducible apply c_seq)
      | (with_reducible apply c_region)
      | (with_reducible apply c_block)
      | (with_reducible apply c_skip)
      | (with_reducible apply c_ret)
      | (with_reducible apply c_exit)
      | ((with_reducible apply c_cond_true); exact rfl)
      | ((with_reducible apply c_cond_false); exact rfl)
      | ((with_reducible apply c_cond_dec); exact rfl; intro _; rotate_left 1; intro _)
      | ((with_reducible apply c_cond_bool); exact rfl; intro _; rotate_left 1; intro _)
      | (with_reducible apply n_then)
      | (with_reducible apply n_block)
      | (with_reducible apply e_then)
      | (with_reducible apply e_block)
      | (with_reducible apply r_then)
      | (with_reducible apply r_block)
      | ((with_reducible apply e_block'); decide)
      | ((with_reducible apply p_retc); exact rfl; exact inferInstance; exact inferInstance; exact rfl; (focus ((repeat (first | assumption | ((with_reducible apply Bx.grownS); assumption; (first | omega | exact Nat.ne_of_lt (Nat.lt_of_lt_of_le (Bx.lt (by assumption)) (by omega)))) | ((with_reducible apply Bx.below); assumption; omega) | ((with_reducible apply Bx.ex); assumption))); done)); exact rfl; refine ⟨_, rfl, ?_, (by repeat (first | assumption | exact Ex.refl _ | (refine Ex.trans ?_ (by assumption)) | (refine Ex.of_grown ?_ (by assumption) (by intro k hk; cases hk; omega))))⟩)
      | ((with_reducible apply p_retct); exact rfl; exact inferInstance; exact inferInstance; exact rfl; (focus ((repeat (first | assumption | ((with_reducible apply Bx.grownS); assumption; (first | omega | exact Nat.ne_of_lt (Nat.lt_of_lt_of_le (Bx.lt (by assumption)) (by omega)))) | ((with_reducible apply Bx.below); assumption; omega) | ((with_reducible apply Bx.ex); assumption))); done)); exact rfl; exact rfl; refine ⟨_, rfl, ?_, (by repeat (first | assumption | exact Ex.refl _ | (refine Ex.trans ?_ (by assumption)) | (refine Ex.of_grown ?_ (by assumption) (by intro k hk; cases hk; omega))))⟩)
      | ((exfalso; omega)))
  have hr0 : r = 0 := by omega
  rw [hr0, Int.gcd_comm, Int.gcd_zero_right] at hgc
  have hag : a = (Int.gcd n d : Int) := by omega
  subst hag
  rw [hgf.2.2.1, hgf.2.2.2]
  rfl
end Go.Proofs.Ythckkgehdgnkoaa
