/-
  (rows) What this text proves: the reference's small functions, its check of a coding, its best error. Conditions: the codes are a row.
-/
import Derived.Laws.Cover1
import Derived.Test.YtbmjigneekodnaaVLt
import Derived.Test.YtbmjigneekodnaaVNa
set_option linter.unusedVariables false
set_option linter.unusedSimpArgs false

namespace Go.Proofs.Ytbmjigneekodnaa
open Go.Pv Go.RowKit
set_option maxHeartbeats 8000000
set_option maxRecDepth 20000

theorem ris_any (n lo hi : Int) (w : World) : Ret Try.prog 43 [.int .i64 n, .int .i64 lo, .int .i64 hi] w fun r _ => r = .bool (decide (lo ≤ n ∧ n ≤ hi)) := by
  refine ret_of_c Try.func43 rfl Try.ntmps43 (Nat.le_of_ble_eq_true rfl) (by dsimp only [ini, Nat.reduceAdd] <;> exact rfl) ?_
  repeat' (first
      | ((first | ((with_reducible apply W_op); exact rfl; exact rfl)); (first | ((with_reducible apply r_move); ((conv => lhs; whnf) <;> exact rfl)) | ((with_reducible apply r_assign); ((conv => lhs; whnf) <;> exact rfl)) | ((with_reducible apply r_leq); exact rfl; exact rfl) | ((with_reducible apply r_geq); exact rfl; exact rfl) | ((with_reducible apply r_pick_true); exact rfl; ((conv => lhs; whnf) <;> exact rfl)) | ((with_reducible apply r_pick_false); exact rfl; ((conv => lhs; whnf) <;> exact rfl))))
      | (with_reducible apply W_nil)
      | ((with_reducible apply W_pass); exact rfl; exact rfl; exact rfl; exact rfl; exact rfl)
      | ((with_reducible apply W_take); exact rfl; exact rfl; exact rfl)
      | ((with_reducible apply W_split); exact rfl; exact rfl; intro _; rotate_left 1; intro _)
      | (with_reducible apply c_seq)
      | (with_reducible apply c_region)
      | (with_reducible apply c_ret)
      | (with_reducible apply n_then)
      | ((with_reducible apply p_ret1); exact rfl; ((conv => lhs; whnf) <;> exact rfl); refine ⟨_, rfl, ?_, (by repeat (first | assumption | exact Ex.refl _ | (refine Ex.trans ?_ (by assumption)) | (refine Ex.of_grown ?_ (by assumption) (by intro k hk; cases hk; omega))))⟩))
  all_goals first
    | (apply bool_iff; omega)
    | (apply bool_ff; omega)
    | (apply bool_tt; omega)
theorem rgood_any (n d m : Int) (w : World) (hm : 0 ≤ m ∧ m ≤ 10000000000) : Ret Try.prog 40 [.agg #[.int .i64 n, .int .i64 d], .int .i64 m] w fun r _ => r = .bool (decide ((-m ≤ n ∧ n ≤ m) ∧ 1 ≤ d ∧ d ≤ 100000)) := by
  refine ret_of_c Try.func40 rfl Try.ntmps40 (Nat.le_of_ble_eq_true rfl) (by dsimp only [ini, Nat.reduceAdd] <;> exact rfl) ?_
  repeat' (first
      | ((first | ((with_reducible apply W_op); exact rfl; exact rfl)); (first | ((with_reducible apply r_move); ((conv => lhs; whnf) <;> exact rfl)) | ((with_reducible apply r_assign); ((conv => lhs; whnf) <;> exact rfl)) | ((with_reducible apply r_fieldAddr); exact rfl) | ((with_reducible apply r_load); exact rfl; exact rfl; (first | assumption | exact (Bx.cell (by repeat (first | assumption | ((with_reducible apply Bx.grownS); assumption; (first | omega | exact Bx.ne (by assumption) (by omega))) | ((with_reducible apply Bx.below); assumption; omega) | ((with_reducible apply Bx.ex); assumption))) _).trans rfl | exact Ex.cell (by assumption) (by assumption))) | ((with_reducible apply r_pick_true); exact rfl; ((conv => lhs; whnf) <;> exact rfl)) | ((with_reducible apply r_pick_false); exact rfl; ((conv => lhs; whnf) <;> exact rfl)) | ((with_reducible apply r_neg); exact rfl; omega)))
      | (refine W_callv (ris_any _ _ _ _) rfl (fun wq he => ?_); have hsz := he.size)
      | (with_reducible apply W_nil)
      | ((with_reducible apply W_box); exact rfl; exact rfl; intro bq wq hbq he hnq; have hltq := Bx.lt hbq; have hsz := he.size)
      | ((with_reducible apply W_pass); exact rfl; exact rfl; exact rfl; exact rfl; exact rfl)
      | ((with_reducible apply W_take); exact rfl; exact rfl; exact rfl)
      | ((with_reducible apply W_split); exact rfl; exact rfl; intro _; rotate_left 1; intro _)
      | (with_reducible apply c_seq)
      | (with_reducible apply c_region)
      | (with_reducible apply c_ret)
      | (with_reducible apply n_then)
      | ((with_reducible apply p_ret1); exact rfl; ((conv => lhs; whnf) <;> exact rfl); refine ⟨_, rfl, ?_, (by repeat (first | assumption | exact Ex.refl _ | (refine Ex.trans ?_ (by assumption)) | (refine Ex.of_grown ?_ (by assumption) (by intro k hk; cases hk; omega))))⟩))
  all_goals first
    | (apply bool_iff; omega)
    | (apply bool_ff; omega)
    | (apply bool_tt; omega)
theorem rLeast_any (n d : Int) (w : World) (hd : 1 ≤ d ∧ d ≤ 4000000000000000000) (hn : -4000000000000000000 ≤ n ∧ n ≤ 4000000000000000000) : Ret Try.prog 41 [.int .i64 n, .int .i64 d] w fun r _ => r = v2 (low (n, d)) := by
  have hgf := gcd_facts (n := n) hd.1
  refine ret_of_c Try.func41 rfl Try.ntmps41 (Nat.le_of_ble_eq_true rfl) (by dsimp only [ini, Nat.reduceAdd] <;> exact rfl) ?_
  repeat' (first
      | (refine c_mix (id := 4) [] [0, 1, 2, 3, 4, 5, 6] [7] [false, false, false, false, false, false, false, false] [true, true, true, true, true, true, true, false] [none, none, none, none, none, none, none, some true] (by kernel_rfl) (by kernel_rfl) (by kernel_rfl) (by kernel_rfl) (by kernel_rfl) (by kernel_rfl) (by dsimp only [sel] <;> exact rfl) (by dsimp only [sel] <;> exact rfl) (by dsimp only [selT] <;> exact rfl) ?_)
      | (clear tk; (have hms : 1 ≤ r → a % r < r ∧ 0 ≤ a % r := fun h => ⟨Int.emod_lt_of_pos a (by omega), Int.emod_nonneg a (by omega)⟩))
      | ((first | ((with_reducible apply W_op); exact rfl; exact rfl) | ((with_reducible apply WQ_op); exact rfl; exact rfl; intro wq he) | ((with_reducible apply WM_op); exact rfl; exact rfl; intro wq he) | ((with_reducible apply WB_op); exact rfl; exact rfl; intro wq)); (first | ((with_reducible apply r_remE); exact rfl; exact rfl; omega; omega) | ((with_reducible apply r_move); ((conv => lhs; whnf) <;> exact rfl)) | ((with_reducible apply r_assign); ((conv => lhs; whnf) <;> exact rfl)) | ((with_reducible apply r_gtr); exact rfl; exact rfl) | ((with_reducible apply r_quo); exact rfl; exact rfl; omega; omega) | ((with_reducible apply r_neg); exact rfl; omega) | ((with_reducible apply r_build2); ((conv => lhs; whnf) <;> exact rfl); ((conv => lhs; whnf) <;> exact rfl); (first | exact rfl | assumption | exact IntsK.one (by assumption) | exact Prs.one (by assumption) | exact Own.one (by assumption) | exact Row.one (by assumption) | exact OwnR.one (by assumption)); (first | exact rfl | assumption | exact IntsK.one (by assumption) | exact Prs.one (by assumption) | exact Own.one (by assumption) | exact Row.one (by assumption) | exact OwnR.one (by assumption)); exact rfl; exact rfl; ((simp only [lay, lset, List.replicate_succ, List.replicate_zero]) <;> exact rfl)) | ((with_reducible apply r_max2); exact rfl; exact rfl)))
      | ((with_reducible (show C _ _ _ _ _)); refine c_loopG (fun (k : Nat) ps wr => ∃ b4 : Nat, ∃ a : Int, ∃ r : Int, ps = [(0, .int .i64 n), (1, .int .i64 d), (4, .pointer (some ⟨b4, 0, none⟩)), (5, .int .i64 a), (6, .int .i64 r)] ∧ (0 ≤ a ∧ a ≤ 4000000000000000000) ∧ (0 ≤ r ∧ r ≤ 4000000000000000000) ∧ (1 ≤ a ∨ 1 ≤ r) ∧ r = (4000000000000000000 - k : Int) ∧ Int.gcd r a = Int.gcd n d ∧ w.heap.size ≤ b4 ∧ Bx wr b4 [.int .i64 0, .int .i64 0] 24 ∧ Ex w wr) (fun k => 4000000000000000000 - k) (4000000000000000000 - d).toNat _ ⟨_, _, _, rfl, by omega, by omega, by omega, by omega, (by rw [gcd_neg_max, Int.gcd_comm] <;> rfl), by omega, (by repeat (first | assumption | ((with_reducible apply OwnR.grownS); assumption; omega) | ((with_reducible apply Row.ex); assumption) | ((with_reducible apply OwnR.ex); assumption) | ((with_reducible apply Bx.grownS); assumption; (first | omega | exact Bx.ne (by assumption) (by omega))) | ((with_reducible apply Bx.below); assumption; omega) | ((with_reducible apply Own.grownS); assumption; omega) | ((with_reducible apply Bx.ex); assumption) | ((with_reducible apply IntsK.ex); assumption) | ((with_reducible apply Own.ex); assumption) | ((with_reducible apply Prs.ex); assumption))), (by repeat (first | assumption | exact Ex.refl _ | (refine Ex.trans ?_ (by assumption)) | (refine Ex.of_grown ?_ (by assumption) (by intro k hk; cases hk; omega))))⟩ ⟨rfl, rfl, rfl, rfl, rfl, trivial⟩ (by ((conv => lhs; whnf) <;> exact rfl)) ?_; rintro J hJ k u ps wr ⟨b4, a, r, rfl, ha, hr, har, hrk, hgc, hb4, hx4, he⟩; have hsz := he.size; have tk : True := trivial)
      | ((with_reducible (show Exit.then _ _ _ _ _)); refine n_roundG ((4000000000000000000 - a % r).toNat) (hJ _ _ _ _ ⟨_, _, _, rfl, by omega, by omega, by omega, by omega, (by rw [Int.gcd_comm, gcd_step (by omega) (by omega), Int.gcd_comm]; exact hgc), hb4, (by repeat (first | assumption | ((with_reducible apply OwnR.grownS); assumption; omega) | ((with_reducible apply Row.ex); assumption) | ((with_reducible apply OwnR.ex); assumption) | ((with_reducible apply Bx.grownS); assumption; (first | omega | exact Bx.ne (by assumption) (by omega))) | ((with_reducible apply Bx.below); assumption; omega) | ((with_reducible apply Own.grownS); assumption; omega) | ((with_reducible apply Bx.ex); assumption) | ((with_reducible apply IntsK.ex); assumption) | ((with_reducible apply Own.ex); assumption) | ((with_reducible apply Prs.ex); assumption))), (by repeat (first | assumption | exact Ex.refl _ | (refine Ex.trans ?_ (by assumption)) | (refine Ex.of_grown ?_ (by assumption) (by intro k hk; cases hk; omega))))⟩ ⟨rfl, rfl, rfl, rfl, rfl, trivial⟩ rfl) (by omega))
      | (with_reducible apply W_nil)
      | ((with_reducible apply WQ_nil); exact rfl; intro wq he; have hsz := he.size)
      | (with_reducible apply WM_nil; intro wq he; have hsz := he.size)
      | (with_reducible apply WB_nil)
      | (with_reducible apply WT_nil)
      | (with_reducible apply WT_cons)
      | (with_reducible apply t_sink)
      | ((with_reducible apply W_alloc); exact rfl; intro bq wq hbq he hnq; have hltq := Bx.lt hbq; have hsz := he.size)
      | ((with_reducible apply W_storeA); exact rfl; (focus ((repeat (first | assumption | ((with_reducible apply Bx.grownS); assumption; (first | omega | exact Bx.ne (by assumption) (by omega))) | ((with_reducible apply Bx.below); assumption; omega) | ((with_reducible apply Bx.ex); assumption))); done)); exact rfl; exact rfl; exact rfl; (repeat' (first | exact trivial | (first | exact rfl | assumption | exact IntsK.one (by assumption) | exact Prs.one (by assumption) | exact Own.one (by assumption) | exact Row.one (by assumption) | exact OwnR.one (by assumption)) | constructor)); intro wq hbq hgq; have he : Ex w wq := (by repeat (first | assumption | exact Ex.refl _ | (refine Ex.trans ?_ (by assumption)) | (refine Ex.of_grown ?_ (by assumption) (by intro k hk; cases hk; omega)))); have hsz := he.size; have hgz := hgq.size)
      | ((with_reducible apply c_quiet); kernel_rfl)
      | (with_reducible apply c_seq)
      | (with_reducible apply c_region)
      | (with_reducible apply c_block)
      | (with_reducible apply c_skip)
      | (with_reducible apply c_ret)
      | (with_reducible apply c_exit)
      | ((with_reducible apply c_cond_dec); exact rfl; intro _; rotate_left 1; intro _)
      | (with_reducible apply n_then)
      | (with_reducible apply n_block)
      | (with_reducible apply e_then)
      | (with_reducible apply e_block)
      | ((with_reducible apply p_retc); exact rfl; exact inferInstance; exact inferInstance; exact rfl; (focus ((repeat (first | assumption | ((with_reducible apply Bx.grownS); assumption; (first | omega | exact Bx.ne (by assumption) (by omega))) | ((with_reducible apply Bx.below); assumption; omega) | ((with_reducible apply Bx.ex); assumption))); done)); exact rfl; refine ⟨_, rfl, ?_, (by repeat (first | assumption | exact Ex.refl _ | (refine Ex.trans ?_ (by assumption)) | (refine Ex.of_grown ?_ (by assumption) (by intro k hk; cases hk; omega))))⟩))
  have hr0 : r = 0 := by omega
  rw [hr0, Int.gcd_comm, Int.gcd_zero_right] at hgc
  have hag : a = (Int.gcd n d : Int) := by omega
  subst hag
  rw [hgf.2.2.1, hgf.2.2.2]
  rfl
end Go.Proofs.Ytbmjigneekodnaa

namespace Go.Pv
open Go.RowKit
theorem cells_tail {w : World} {b o : Nat} {a0 a1 a2 : Value} (h : Cells w ⟨b, o, none⟩ [a0, a1, a2]) : Cells w ⟨b, o + 1, none⟩ [a1, a2] := by
  obtain ⟨h0, h1, h2⟩ := cells3 h
  unfold Cells
  intro j v hj
  match j, hj with
  | 0, hj => simp at hj; subst hj; simpa [Addr.add] using h1
  | 1, hj => simp at hj; subst hj; simpa [Addr.add, Nat.add_assoc] using h2
  | n + 2, hj => simp at hj
end Go.Pv
namespace Go.Proofs.Ytbmjigneekodnaa
open Go.Pv Go.RowKit
set_option maxHeartbeats 8000000
set_option maxRecDepth 20000

theorem rCheck_any (v : Value) (l : List T3) (w : World) (h : Row cC 3 w v l) : Ret Try.prog 16 [v] w fun r _ => r = .int .i64 (cErr l) := by
  have hl := h.len
  have hv1 := h.one
  have tk1 : True := trivial
  refine ret_of_c Try.func16 rfl Try.ntmps16 (Nat.le_of_ble_eq_true rfl) (by dsimp only [ini, Nat.reduceAdd] <;> exact rfl) ?_
  repeat' (first
      | (((with_reducible apply W_split); exact rfl; exact rfl; (all_goals intro _); (all_goals (try (exfalso; (focus (omega; done)))))))
      | (clear tk; by_cases hkl : k < l.length; (have hcd := cs_drop hkl b); rotate_left 1)
      | (refine W_indexRw (f := cC) (n := 3) (v := v) (xs := l) (i := k) cD cC_len (by decide) rfl (by repeat (first | assumption | ((with_reducible apply OwnR.grownS); assumption; omega) | ((with_reducible apply Row.ex); assumption) | ((with_reducible apply OwnR.ex); assumption) | ((with_reducible apply Bx.grownS); assumption; (first | omega | exact Bx.ne (by assumption) (by omega))) | ((with_reducible apply Bx.below); assumption; omega) | ((with_reducible apply Own.grownS); assumption; omega) | ((with_reducible apply Bx.ex); assumption) | ((with_reducible apply IntsK.ex); assumption) | ((with_reducible apply Own.ex); assumption) | ((with_reducible apply Prs.ex); assumption))) rfl (by omega) ?_; intro pb po hpc; (have hpc3 : Cells _ ⟨pb, po, none⟩ [_, _, _] := hpc); (have hpt := cells_tail hpc3); obtain ⟨hp0, hp1, hp2⟩ := cells3 hpc3)
      | (refine WQ_indexRw (f := cC) (n := 3) (v := v) (xs := l) (i := k) cD cC_len (by decide) rfl (by repeat (first | assumption | ((with_reducible apply OwnR.grownS); assumption; omega) | ((with_reducible apply Row.ex); assumption) | ((with_reducible apply OwnR.ex); assumption) | ((with_reducible apply Bx.grownS); assumption; (first | omega | exact Bx.ne (by assumption) (by omega))) | ((with_reducible apply Bx.below); assumption; omega) | ((with_reducible apply Own.grownS); assumption; omega) | ((with_reducible apply Bx.ex); assumption) | ((with_reducible apply IntsK.ex); assumption) | ((with_reducible apply Own.ex); assumption) | ((with_reducible apply Prs.ex); assumption))) rfl (by omega) ?_; intro pb po hpc; (have hpc3 : Cells _ ⟨pb, po, none⟩ [_, _, _] := hpc); obtain ⟨hp0, hp1, hp2⟩ := cells3 hpc3)
      | (refine WQ_indexRw (f := cC) (n := 3) (v := v) (xs := l) (i := k - 1) cD cC_len (by decide) rfl (by repeat (first | assumption | ((with_reducible apply OwnR.grownS); assumption; omega) | ((with_reducible apply Row.ex); assumption) | ((with_reducible apply OwnR.ex); assumption) | ((with_reducible apply Bx.grownS); assumption; (first | omega | exact Bx.ne (by assumption) (by omega))) | ((with_reducible apply Bx.below); assumption; omega) | ((with_reducible apply Own.grownS); assumption; omega) | ((with_reducible apply Bx.ex); assumption) | ((with_reducible apply IntsK.ex); assumption) | ((with_reducible apply Own.ex); assumption) | ((with_reducible apply Prs.ex); assumption))) (Eq.trans (b := Value.int .i64 _) rfl (congrArg _ (by omega))) (by omega) ?_; intro pb po hpc; (have hpc3 : Cells _ ⟨pb, po, none⟩ [_, _, _] := hpc); obtain ⟨hq0, hq1, hq2⟩ := cells3 hpc3)
      | ((first | ((with_reducible apply W_op); exact rfl; exact rfl) | ((with_reducible apply WQ_op); exact rfl; exact rfl; intro wq he) | ((with_reducible apply WM_op); exact rfl; exact rfl; intro wq he) | ((with_reducible apply WB_op); exact rfl; exact rfl; intro wq)); (first | ((with_reducible apply r_move); ((conv => lhs; whnf) <;> exact rfl)) | ((with_reducible apply r_assign); ((conv => lhs; whnf) <;> exact rfl)) | ((with_reducible apply r_fieldAddr); exact rfl) | ((with_reducible apply r_load); exact rfl; exact rfl; (first | assumption | exact (Bx.cell (by repeat (first | assumption | ((with_reducible apply Bx.grownS); assumption; (first | omega | exact Bx.ne (by assumption) (by omega))) | ((with_reducible apply Bx.below); assumption; omega) | ((with_reducible apply Bx.ex); assumption))) _).trans rfl | exact Ex.cell (by assumption) (by assumption))) | ((with_reducible apply r_loadA); exact rfl; (first | assumption | exact Bx.cells (by repeat (first | assumption | ((with_reducible apply Bx.grownS); assumption; (first | omega | exact Bx.ne (by assumption) (by omega))) | ((with_reducible apply Bx.below); assumption; omega) | ((with_reducible apply Bx.ex); assumption))) | exact Cells.ex (by assumption) (by assumption)); exact rfl) | ((with_reducible apply r_lss); exact rfl; exact rfl) | ((with_reducible apply r_leq); exact rfl; exact rfl) | ((with_reducible apply r_gtr); exact rfl; exact rfl) | ((with_reducible apply r_eql); exact rfl; exact rfl) | ((with_reducible apply r_add); exact rfl; exact rfl; omega) | ((with_reducible apply r_sub); exact rfl; exact rfl; omega) | ((with_reducible apply r_pick_true); exact rfl; ((conv => lhs; whnf) <;> exact rfl)) | ((with_reducible apply r_pick_false); exact rfl; ((conv => lhs; whnf) <;> exact rfl)) | ((with_reducible apply r_not); exact rfl) | ((with_reducible apply r_lenR); ((conv => lhs; whnf) <;> exact rfl); (focus ((repeat (first | assumption | ((with_reducible apply OwnR.grownS); assumption; omega) | ((with_reducible apply Row.ex); assumption) | ((with_reducible apply OwnR.ex); assumption) | ((with_reducible apply Bx.grownS); assumption; (first | omega | exact Bx.ne (by assumption) (by omega))) | ((with_reducible apply Bx.below); assumption; omega) | ((with_reducible apply Own.grownS); assumption; omega) | ((with_reducible apply Bx.ex); assumption) | ((with_reducible apply IntsK.ex); assumption) | ((with_reducible apply Own.ex); assumption) | ((with_reducible apply Prs.ex); assumption))); done)))))
      | (refine W_callv (ris_any _ _ _ _) rfl (fun wq he => ?_); have hsz := he.size)
      | ((with_reducible (show C _ _ _ _ _)); clear tk1; refine c_loopG (fun (k : Nat) ps wr => ∃ i : Int, ∃ b : Int, ps = [(0, v), (3, .int .i64 i)] ∧ i = k ∧ k ≤ l.length ∧ (l.length ≠ 0 ∧ ¬ 24 < l.length) ∧ cStep (-10001) l = cStep b (l.drop k) ∧ ((k = 0 ∧ b = -10001) ∨ (0 < k ∧ b = (l.getD (k - 1) cD).1)) ∧ Ex w wr) (fun k => l.length - k) 0 _ ⟨_, _, rfl, rfl, Nat.zero_le _, (by omega), rfl, .inl ⟨rfl, rfl⟩, (by repeat (first | assumption | exact Ex.refl _ | (refine Ex.trans ?_ (by assumption)) | (refine Ex.of_grown ?_ (by assumption) (by intro k hk; cases hk; omega))))⟩ ⟨rfl, rfl, trivial⟩ (by ((conv => lhs; whnf) <;> exact rfl)) ?_; rintro J hJ k u ps wr ⟨i, b, rfl, rfl, hk, h2, hst, hb, he⟩; have hsz := he.size; have tk : True := trivial)
      | ((with_reducible (show Exit.then _ _ _ _ _)); refine n_roundG (k + 1) (hJ _ _ _ _ ⟨_, (l.getD k cD).1, rfl, by omega, by omega, h2, (by rw [hst, hcd, if_neg (by unfold codeOk; omega), if_neg (by unfold codeOk at *; omega)]), (by right; exact ⟨by omega, by simp⟩), (by repeat (first | assumption | exact Ex.refl _ | (refine Ex.trans ?_ (by assumption)) | (refine Ex.of_grown ?_ (by assumption) (by intro k hk; cases hk; omega))))⟩ ⟨rfl, rfl, trivial⟩ rfl) (by omega))
      | (with_reducible apply W_nil)
      | ((with_reducible apply WQ_nil); exact rfl; intro wq he; have hsz := he.size)
      | ((with_reducible apply W_alloc); exact rfl; intro bq wq hbq he hnq; have hltq := Bx.lt hbq; have hsz := he.size)
      | ((with_reducible apply W_storeA); exact rfl; (focus ((repeat (first | assumption | ((with_reducible apply Bx.grownS); assumption; (first | omega | exact Bx.ne (by assumption) (by omega))) | ((with_reducible apply Bx.below); assumption; omega) | ((with_reducible apply Bx.ex); assumption))); done)); exact rfl; exact rfl; exact rfl; (repeat' (first | exact trivial | (first | exact rfl | assumption | exact IntsK.one (by assumption) | exact Prs.one (by assumption) | exact Own.one (by assumption) | exact Row.one (by assumption) | exact OwnR.one (by assumption)) | constructor)); intro wq hbq hgq; have he : Ex w wq := (by repeat (first | assumption | exact Ex.refl _ | (refine Ex.trans ?_ (by assumption)) | (refine Ex.of_grown ?_ (by assumption) (by intro k hk; cases hk; omega)))); have hsz := he.size; have hgz := hgq.size)
      | ((with_reducible apply W_pass); exact rfl; exact rfl; exact rfl; exact rfl; exact rfl)
      | ((with_reducible apply W_take); exact rfl; exact rfl; exact rfl)
      | ((with_reducible apply WQ_pass); exact rfl; exact rfl; exact rfl; exact rfl; exact rfl)
      | ((with_reducible apply WQ_take); exact rfl; exact rfl; exact rfl)
      | ((with_reducible apply WQ_split); exact rfl; exact rfl; intro _; rotate_left 1; intro _)
      | ((with_reducible apply c_quiet); kernel_rfl)
      | (with_reducible apply c_seq)
      | (with_reducible apply c_region)
      | (with_reducible apply c_block)
      | (with_reducible apply c_skip)
      | (with_reducible apply c_ret)
      | (with_reducible apply c_exit)
      | ((with_reducible apply c_cond_true); exact rfl)
      | ((with_reducible apply c_cond_false); exact rfl)
      | ((with_reducible apply c_cond_dec); exact rfl; intro _; rotate_left 1; intro _)
      | (with_reducible apply n_then)
      | (with_reducible apply n_block)
      | (with_reducible apply e_then)
      | (with_reducible apply e_block)
      | (with_reducible apply r_then)
      | (with_reducible apply r_block)
      | ((with_reducible apply p_ret1); exact rfl; ((conv => lhs; whnf) <;> exact rfl); refine ⟨_, rfl, ?_, (by repeat (first | assumption | exact Ex.refl _ | (refine Ex.trans ?_ (by assumption)) | (refine Ex.of_grown ?_ (by assumption) (by intro k hk; cases hk; omega))))⟩)
      | ((exfalso; omega)))
  all_goals apply int_eq; symm; unfold cErr
  all_goals first
    | (rw [if_pos (by omega)]; done)
    | (rw [if_neg (by omega), if_pos (by omega)]; done)
    | (rw [if_neg (by omega), if_neg (by omega), hst, hcd, if_pos (by unfold codeOk; omega)]; done)
    | (rw [if_neg (by omega), if_neg (by omega), hst, hcd, if_neg (by unfold codeOk; omega), if_pos (by omega)]; done)
    | (rw [if_neg (by omega), if_neg (by omega), hst, List.drop_eq_nil_of_le (by omega)]; rfl)
end Go.Proofs.Ytbmjigneekodnaa

namespace Go.Pv
/-- Bounds of the products of a proof by three codes. -/
theorem rb_bd {a b c : T3} (ha : codeOk a) (hb : codeOk b) (hc : codeOk c) (h1 : a.1 < b.1) (h2 : b.1 < c.1) :
    (0 ≤ b.2.2 * (c.1 - a.1) ∧ b.2.2 * (c.1 - a.1) ≤ 200000000) ∧ (0 ≤ a.2.1 * (c.1 - b.1) ∧ a.2.1 * (c.1 - b.1) ≤ 200000000) ∧ (0 ≤ c.2.1 * (b.1 - a.1) ∧ c.2.1 * (b.1 - a.1) ≤ 200000000) ∧
    (0 ≤ a.2.2 * (c.1 - b.1) ∧ a.2.2 * (c.1 - b.1) ≤ 200000000) ∧ (0 ≤ c.2.2 * (b.1 - a.1) ∧ c.2.2 * (b.1 - a.1) ≤ 200000000) ∧ (0 ≤ b.2.1 * (c.1 - a.1) ∧ b.2.1 * (c.1 - a.1) ≤ 200000000) := by
  unfold codeOk at ha hb hc
  have f : ∀ {x y : Int}, 0 ≤ x ∧ x ≤ 10000 → 0 ≤ y ∧ y ≤ 20000 → 0 ≤ x * y ∧ x * y ≤ 200000000 := fun hx hy => by
    have := lmul_bd hx hy; omega
  exact ⟨f (by omega) (by omega), f (by omega) (by omega), f (by omega) (by omega), f (by omega) (by omega), f (by omega) (by omega), f (by omega) (by omega)⟩
theorem three_eq {a b c : T3} (ha : codeOk a) (hb : codeOk b) (hc : codeOk c) (h1 : a.1 < b.1) (h2 : b.1 < c.1) :
    (max (max 0 (b.2.2 * (c.1 - a.1) - a.2.1 * (c.1 - b.1) - c.2.1 * (b.1 - a.1))) (a.2.2 * (c.1 - b.1) + c.2.2 * (b.1 - a.1) - b.2.1 * (c.1 - a.1)), 2 * (c.1 - a.1)) = threeP a b c := by
  have e1 : b.2.2 * (c.1 - a.1) - a.2.1 * (c.1 - b.1) - c.2.1 * (b.1 - a.1) = abv a b c := by
    unfold abv
    grind
  have e2 : a.2.2 * (c.1 - b.1) + c.2.2 * (b.1 - a.1) - b.2.1 * (c.1 - a.1) = blw a b c := by
    unfold blw
    grind
  have e3 : abv a b c + blw a b c = (b.2.2 - b.2.1) * (c.1 - a.1) + (a.2.2 - a.2.1) * (c.1 - b.1) + (c.2.2 - c.2.1) * (b.1 - a.1) := by
    unfold abv blw
    grind
  unfold codeOk at ha hb hc
  have p1 := Int.mul_nonneg (show 0 ≤ b.2.2 - b.2.1 by omega) (show 0 ≤ c.1 - a.1 by omega)
  have p2 := Int.mul_nonneg (show 0 ≤ a.2.2 - a.2.1 by omega) (show 0 ≤ c.1 - b.1 by omega)
  have p3 := Int.mul_nonneg (show 0 ≤ c.2.2 - c.2.1 by omega) (show 0 ≤ b.1 - a.1 by omega)
  rw [e1, e2]
  unfold threeP
  rw [show 2 * (c.1 - a.1) = 2 * ((b.1 - a.1) + (c.1 - b.1)) by omega]
  congr 1
  omega
/-- A fraction in lowest terms is as small as the other one. -/
theorem low_fOk {f : Int × Int} (h : fOk f) : fOk (low f) := by
  have h1 := low_den h.2.1
  have h2 := h1.2 600000000 (by have := h.1; omega)
  have h3 := low_cross h.2.1
  exact ⟨by omega, h1.1.1, by have := h.2.2; have := h1.1.2; omega⟩
theorem fLt_lowQ {f g : Int × Int} (hf : 1 ≤ f.2) (hg : 1 ≤ g.2) : fLt (low f) (low g) ↔ fLt f g := by
  have a := low_cross hf
  have b := low_cross hg
  have a2 := (low_den hf).1.1
  have b2 := (low_den hg).1.1
  obtain ⟨n, d⟩ := f
  obtain ⟨m, e⟩ := g
  generalize low (n, d) = x at *
  generalize low (m, e) = y at *
  obtain ⟨xn, xd⟩ := x
  obtain ⟨yn, yd⟩ := y
  simp only at *
  unfold fLt
  simp only
  have e1 : xn * yd * (d * e) = (xn * d) * (yd * e) := by ac_rfl
  have e2 : yn * xd * (d * e) = (yn * e) * (xd * d) := by ac_rfl
  have e3 : n * e * (xd * yd) = (n * xd) * (yd * e) := by ac_rfl
  have e4 : m * d * (xd * yd) = (m * yd) * (xd * d) := by ac_rfl
  rw [← a] at e1
  rw [← b] at e2
  have p1 : 0 < d * e := Int.mul_pos (by omega) (by omega)
  have p2 : 0 < xd * yd := Int.mul_pos (by omega) (by omega)
  constructor
  · intro h
    have := Int.mul_lt_mul_of_pos_right h p1
    rw [e1, e2, ← e3, ← e4] at this
    exact Int.lt_of_mul_lt_mul_right this (by omega)
  · intro h
    have := Int.mul_lt_mul_of_pos_right h p2
    rw [e3, e4, ← e1, ← e2] at this
    exact Int.lt_of_mul_lt_mul_right this (by omega)
open Go.RowKit
section
variable {P : Program} {l : St} {w : World} {od : Option Nat} {ty : TypeId} {pos : String} {af : Array Edge}
theorem r_max3 {x y z : Operand} {ts : Array TypeId} {m n k : Int} (hx : ev l x = .int .i64 m) (hy : ev l y = .int .i64 n) (hz : ev l z = .int .i64 k) : Runs P ⟨od, .call { callee := .builtin .max, args := #[x, y, z], argTypes := ts }, ty, pos, af, none⟩ l w (.int .i64 (max (max m n) k)) := by
  have e1 : (if n > m then n else m) = max m n := by rw [Int.max_def]; split <;> split <;> omega
  have e2 : (if k > max m n then k else max m n) = max (max m n) k := by rw [Int.max_def (max m n) k]; split <;> split <;> omega
  simp [Runs, execOp, resolve, invoke, builtin, hx, hy, hz, run_max_int3, e1, e2]
end
/-- A code as a value. -/
def cV (c : T3) : Value := .agg #[.int .i64 c.1, .int .i64 c.2.1, .int .i64 c.2.2]
end Go.Pv
namespace Go.Proofs.Ytbmjigneekodnaa
open Go.Pv Go.RowKit
set_option maxHeartbeats 8000000
set_option maxRecDepth 20000

theorem rLess_any (a b : Int × Int) (w : World) (h1 : -9000000000000000000 ≤ a.1 * b.2 ∧ a.1 * b.2 ≤ 9000000000000000000) (h2 : -9000000000000000000 ≤ b.1 * a.2 ∧ b.1 * a.2 ≤ 9000000000000000000) : Ret Try.prog 48 [v2 a, v2 b] w fun r _ => r = .bool (decide (fLt a b)) := by
  unfold v2
  refine ret_of_c Try.func48 rfl Try.ntmps48 (Nat.le_of_ble_eq_true rfl) (by dsimp only [ini, Nat.reduceAdd] <;> exact rfl) ?_
  repeat' (first
      | ((first | ((with_reducible apply W_op); exact rfl; exact rfl)); (first | ((with_reducible apply r_assign); ((conv => lhs; whnf) <;> exact rfl)) | ((with_reducible apply r_fieldAddr); exact rfl) | ((with_reducible apply r_load); exact rfl; exact rfl; (first | assumption | exact (Bx.cell (by repeat (first | assumption | ((with_reducible apply Bx.grownS); assumption; (first | omega | exact Bx.ne (by assumption) (by omega))) | ((with_reducible apply Bx.below); assumption; omega) | ((with_reducible apply Bx.ex); assumption))) _).trans rfl | exact Ex.cell (by assumption) (by assumption))) | ((with_reducible apply r_lss); exact rfl; exact rfl) | ((with_reducible apply r_mul); exact rfl; exact rfl; omega)))
      | (with_reducible apply W_nil)
      | ((with_reducible apply W_box); exact rfl; exact rfl; intro bq wq hbq he hnq; have hltq := Bx.lt hbq; have hsz := he.size)
      | (with_reducible apply c_seq)
      | (with_reducible apply c_region)
      | (with_reducible apply c_ret)
      | (with_reducible apply n_then)
      | ((with_reducible apply p_ret1); exact rfl; ((conv => lhs; whnf) <;> exact rfl); refine ⟨_, rfl, ?_, (by repeat (first | assumption | exact Ex.refl _ | (refine Ex.trans ?_ (by assumption)) | (refine Ex.of_grown ?_ (by assumption) (by intro k hk; cases hk; omega))))⟩))
  all_goals exact bool_iff Iff.rfl
theorem rbounded_any (f : Int × Int) (w : World) : Ret Try.prog 46 [v2 f] w fun r _ => r = .bool (decide ((0 ≤ f.1 ∧ f.1 ≤ 1000000) ∧ 1 ≤ f.2 ∧ f.2 ≤ 100000)) := by
  unfold v2
  refine ret_of_c Try.func46 rfl Try.ntmps46 (Nat.le_of_ble_eq_true rfl) (by dsimp only [ini, Nat.reduceAdd] <;> exact rfl) ?_
  repeat' (first
      | ((first | ((with_reducible apply W_op); exact rfl; exact rfl)); (first | ((with_reducible apply r_move); ((conv => lhs; whnf) <;> exact rfl)) | ((with_reducible apply r_assign); ((conv => lhs; whnf) <;> exact rfl)) | ((with_reducible apply r_fieldAddr); exact rfl) | ((with_reducible apply r_load); exact rfl; exact rfl; (first | assumption | exact (Bx.cell (by repeat (first | assumption | ((with_reducible apply Bx.grownS); assumption; (first | omega | exact Bx.ne (by assumption) (by omega))) | ((with_reducible apply Bx.below); assumption; omega) | ((with_reducible apply Bx.ex); assumption))) _).trans rfl | exact Ex.cell (by assumption) (by assumption))) | ((with_reducible apply r_pick_true); exact rfl; ((conv => lhs; whnf) <;> exact rfl)) | ((with_reducible apply r_pick_false); exact rfl; ((conv => lhs; whnf) <;> exact rfl))))
      | (refine W_callv (ris_any _ _ _ _) rfl (fun wq he => ?_); have hsz := he.size)
      | (with_reducible apply W_nil)
      | ((with_reducible apply W_box); exact rfl; exact rfl; intro bq wq hbq he hnq; have hltq := Bx.lt hbq; have hsz := he.size)
      | ((with_reducible apply W_pass); exact rfl; exact rfl; exact rfl; exact rfl; exact rfl)
      | ((with_reducible apply W_take); exact rfl; exact rfl; exact rfl)
      | ((with_reducible apply W_split); exact rfl; exact rfl; intro _; rotate_left 1; intro _)
      | (with_reducible apply c_seq)
      | (with_reducible apply c_region)
      | (with_reducible apply c_ret)
      | (with_reducible apply n_then)
      | ((with_reducible apply p_ret1); exact rfl; ((conv => lhs; whnf) <;> exact rfl); refine ⟨_, rfl, ?_, (by repeat (first | assumption | exact Ex.refl _ | (refine Ex.trans ?_ (by assumption)) | (refine Ex.of_grown ?_ (by assumption) (by intro k hk; cases hk; omega))))⟩))
  all_goals first
    | (apply bool_iff; omega)
    | (apply bool_ff; omega)
    | (apply bool_tt; omega)
theorem rproved_any (c : T3) (w : World) (hc : codeOk c) : Ret Try.prog 53 [cV c] w fun r _ => r = v2 (low (oneP c)) := by
  unfold codeOk at hc
  unfold cV
  refine ret_of_c Try.func53 rfl Try.ntmps53 (Nat.le_of_ble_eq_true rfl) (by dsimp only [ini, Nat.reduceAdd] <;> exact rfl) ?_
  repeat' (first
      | ((first | ((with_reducible apply W_op); exact rfl; exact rfl)); (first | ((with_reducible apply r_fieldAddr); exact rfl) | ((with_reducible apply r_load); exact rfl; exact rfl; (first | assumption | exact (Bx.cell (by repeat (first | assumption | ((with_reducible apply Bx.grownS); assumption; (first | omega | exact Bx.ne (by assumption) (by omega))) | ((with_reducible apply Bx.below); assumption; omega) | ((with_reducible apply Bx.ex); assumption))) _).trans rfl | exact Ex.cell (by assumption) (by assumption))) | ((with_reducible apply r_sub); exact rfl; exact rfl; omega)))
      | (refine W_callv (rLeast_any _ _ _ (by omega) (by omega)) rfl (fun wq he => ?_); have hsz := he.size)
      | (with_reducible apply W_nil)
      | ((with_reducible apply W_box); exact rfl; exact rfl; intro bq wq hbq he hnq; have hltq := Bx.lt hbq; have hsz := he.size)
      | ((with_reducible apply W_alloc); exact rfl; intro bq wq hbq he hnq; have hltq := Bx.lt hbq; have hsz := he.size)
      | ((with_reducible apply W_storeA); exact rfl; (focus ((repeat (first | assumption | ((with_reducible apply Bx.grownS); assumption; (first | omega | exact Bx.ne (by assumption) (by omega))) | ((with_reducible apply Bx.below); assumption; omega) | ((with_reducible apply Bx.ex); assumption))); done)); exact rfl; exact rfl; exact rfl; (repeat' (first | exact trivial | (first | exact rfl | assumption | exact IntsK.one (by assumption) | exact Prs.one (by assumption) | exact Own.one (by assumption) | exact Row.one (by assumption) | exact OwnR.one (by assumption)) | constructor)); intro wq hbq hgq; have he : Ex w wq := (by repeat (first | assumption | exact Ex.refl _ | (refine Ex.trans ?_ (by assumption)) | (refine Ex.of_grown ?_ (by assumption) (by intro k hk; cases hk; omega)))); have hsz := he.size; have hgz := hgq.size)
      | (with_reducible apply c_seq)
      | (with_reducible apply c_region)
      | (with_reducible apply c_ret)
      | (with_reducible apply n_then)
      | ((with_reducible apply p_retc); exact rfl; exact inferInstance; exact inferInstance; exact rfl; (focus ((repeat (first | assumption | ((with_reducible apply Bx.grownS); assumption; (first | omega | exact Bx.ne (by assumption) (by omega))) | ((with_reducible apply Bx.below); assumption; omega) | ((with_reducible apply Bx.ex); assumption))); done)); exact rfl; refine ⟨_, rfl, ?_, (by repeat (first | assumption | exact Ex.refl _ | (refine Ex.trans ?_ (by assumption)) | (refine Ex.of_grown ?_ (by assumption) (by intro k hk; cases hk; omega))))⟩))
  all_goals rfl
theorem rproved3_any (a b c : T3) (w : World) (ha : codeOk a) (hb : codeOk b) (hc : codeOk c) (h1 : a.1 < b.1) (h2 : b.1 < c.1) : Ret Try.prog 54 [cV a, cV b, cV c] w fun r _ => r = v2 (low (threeP a b c)) := by
  have hbd := rb_bd ha hb hc h1 h2
  have heq := three_eq ha hb hc h1 h2
  unfold codeOk at ha hb hc
  unfold cV
  refine ret_of_c Try.func54 rfl Try.ntmps54 (Nat.le_of_ble_eq_true rfl) (by dsimp only [ini, Nat.reduceAdd] <;> exact rfl) ?_
  repeat' (first
      | ((with_reducible apply W_op); exact rfl; exact rfl; exact r_max3 rfl rfl rfl)
      | (refine c_mix (id := 1) [] [0, 1, 2, 3, 4, 5, 6, 7, 8, 9, 10, 11, 12, 13, 14] [15, 16, 17] [false, false, false, false, false, false, false, false, false, false, false, false, false, false, false, false, false, false] [true, true, true, true, true, true, true, true, true, true, true, true, true, true, true, false, false, false] [none, none, none, none, none, none, none, none, none, none, none, none, none, none, none, some false, some false, some true] (by kernel_rfl) (by kernel_rfl) (by kernel_rfl) (by kernel_rfl) (by kernel_rfl) (by kernel_rfl) (by dsimp only [sel] <;> exact rfl) (by dsimp only [sel] <;> exact rfl) (by dsimp only [selT] <;> exact rfl) ?_)
      | ((first | ((with_reducible apply W_op); exact rfl; exact rfl) | ((with_reducible apply WQ_op); exact rfl; exact rfl; intro wq he) | ((with_reducible apply WM_op); exact rfl; exact rfl; intro wq he) | ((with_reducible apply WB_op); exact rfl; exact rfl; intro wq)); (first | ((with_reducible apply r_move); ((conv => lhs; whnf) <;> exact rfl)) | ((with_reducible apply r_assign); ((conv => lhs; whnf) <;> exact rfl)) | ((with_reducible apply r_fieldAddr); exact rfl) | ((with_reducible apply r_load); exact rfl; exact rfl; (first | assumption | exact (Bx.cell (by repeat (first | assumption | ((with_reducible apply Bx.grownS); assumption; (first | omega | exact Bx.ne (by assumption) (by omega))) | ((with_reducible apply Bx.below); assumption; omega) | ((with_reducible apply Bx.ex); assumption))) _).trans rfl | exact Ex.cell (by assumption) (by assumption))) | ((with_reducible apply r_add); exact rfl; exact rfl; omega) | ((with_reducible apply r_sub); exact rfl; exact rfl; omega) | ((with_reducible apply r_mul); exact rfl; exact rfl; omega)))
      | (refine W_callv (rLeast_any _ _ _ (by omega) (by omega)) rfl (fun wq he => ?_); have hsz := he.size)
      | (with_reducible apply W_nil)
      | (with_reducible apply WM_nil; intro wq he; have hsz := he.size)
      | (with_reducible apply WB_nil)
      | (with_reducible apply WT_nil)
      | (with_reducible apply WT_cons)
      | (with_reducible apply t_sink)
      | ((with_reducible apply t_keep); (focus ((repeat (first | assumption | exact Ex.refl _ | (refine Ex.trans ?_ (by assumption)) | (refine Ex.of_grown ?_ (by assumption) (by intro k hk; cases hk; omega)))); done)); intro wq he; have hsz := he.size)
      | ((with_reducible apply W_box); exact rfl; exact rfl; intro bq wq hbq he hnq; have hltq := Bx.lt hbq; have hsz := he.size)
      | ((with_reducible apply W_alloc); exact rfl; intro bq wq hbq he hnq; have hltq := Bx.lt hbq; have hsz := he.size)
      | ((with_reducible apply W_storeA); exact rfl; (focus ((repeat (first | assumption | ((with_reducible apply Bx.grownS); assumption; (first | omega | exact Bx.ne (by assumption) (by omega))) | ((with_reducible apply Bx.below); assumption; omega) | ((with_reducible apply Bx.ex); assumption))); done)); exact rfl; exact rfl; exact rfl; (repeat' (first | exact trivial | (first | exact rfl | assumption | exact IntsK.one (by assumption) | exact Prs.one (by assumption) | exact Own.one (by assumption) | exact Row.one (by assumption) | exact OwnR.one (by assumption)) | constructor)); intro wq hbq hgq; have he : Ex w wq := (by repeat (first | assumption | exact Ex.refl _ | (refine Ex.trans ?_ (by assumption)) | (refine Ex.of_grown ?_ (by assumption) (by intro k hk; cases hk; omega)))); have hsz := he.size; have hgz := hgq.size)
      | (with_reducible apply c_seq)
      | (with_reducible apply c_region)
      | (with_reducible apply c_ret)
      | (with_reducible apply n_then)
      | ((with_reducible apply p_retc); exact rfl; exact inferInstance; exact inferInstance; exact rfl; (focus ((repeat (first | assumption | ((with_reducible apply Bx.grownS); assumption; (first | omega | exact Bx.ne (by assumption) (by omega))) | ((with_reducible apply Bx.below); assumption; omega) | ((with_reducible apply Bx.ex); assumption))); done)); exact rfl; refine ⟨_, rfl, ?_, (by repeat (first | assumption | exact Ex.refl _ | (refine Ex.trans ?_ (by assumption)) | (refine Ex.of_grown ?_ (by assumption) (by intro k hk; cases hk; omega))))⟩))
  all_goals first | (rw [← heq]; rfl) | skip
end Go.Proofs.Ytbmjigneekodnaa

namespace Go.Pv
open Go.RowKit
/-- Proofs that were seen before (i, j, k), and the greatest one of them in lowest terms. -/
def seenQ (i j k : Nat) (p : Nat × Nat × Nat) : Prop := p.1 < i ∨ (p.1 = i ∧ (p.2.1 < j ∨ (p.2.1 = j ∧ p.2.2 < k)))
def bestV (l : List T3) (i j k : Nat) (x : Int × Int) : Prop := (∃ p, isProof l.length p ∧ x = low (prvL l p)) ∧ ∀ p, isProof l.length p → seenQ i j k p → ¬ fLt x (low (prvL l p))
theorem prv_one (l : List T3) (i : Nat) : prvL l (i, i, i) = oneP (l.getD i cD) := by unfold prvL; simp
theorem prv_three (l : List T3) {i j k : Nat} (h : i < j) : prvL l (i, j, k) = threeP (l.getD i cD) (l.getD j cD) (l.getD k cD) := by
  unfold prvL
  rw [if_neg (by simp only; omega)]
theorem pr_one {n i : Nat} (h : i < n) : isProof n (i, i, i) := Or.inl ⟨rfl, rfl, h⟩
theorem bestV_ok {l : List T3} (hv : Valid l) {i j k : Nat} {x : Int × Int} (h : bestV l i j k x) : fOk x := by
  obtain ⟨⟨p, hp, rfl⟩, _⟩ := h
  exact low_fOk (prv_ok hv hp)
theorem bestV_start {l : List T3} (hv : Valid l) {x : Int × Int} (h : x = low (oneP (l.getD 0 cD))) : bestV l 0 0 0 x := by
  refine ⟨⟨(0, 0, 0), pr_one (by have := hv.1.1; omega), by rw [prv_one]; exact h⟩, fun p _ hs => ?_⟩
  unfold seenQ at hs
  omega
theorem bestV_mono {l : List T3} {i j k i' j' k' : Nat} {x : Int × Int} (h : bestV l i j k x) (hs : ∀ p, isProof l.length p → seenQ i' j' k' p → seenQ i j k p) : bestV l i' j' k' x :=
  ⟨h.1, fun p hp hs' => h.2 p hp (hs p hp hs')⟩
theorem bestV_keep {l : List T3} {i j k : Nat} {x : Int × Int} (h : bestV l i j k x) (hn : ¬ fLt x (low (prvL l (i, j, k)))) : bestV l i j (k + 1) x := by
  refine ⟨h.1, fun p hp hs => ?_⟩
  by_cases e : p = (i, j, k)
  · subst e; exact hn
  · refine h.2 p hp ?_
    obtain ⟨p1, p2, p3⟩ := p
    unfold seenQ at *
    simp only [Prod.mk.injEq] at *
    omega
theorem bestV_take {l : List T3} (hv : Valid l) {i j k : Nat} {x : Int × Int} (h : bestV l i j k x) (hp0 : isProof l.length (i, j, k)) (hn : fLt x (low (prvL l (i, j, k)))) : bestV l i j (k + 1) (low (prvL l (i, j, k))) := by
  have hx := bestV_ok hv h
  have h0 := low_fOk (prv_ok hv hp0)
  refine ⟨⟨_, hp0, rfl⟩, fun p hp hs => ?_⟩
  by_cases e : p = (i, j, k)
  · subst e; exact fLt_irr _
  · have hp1 := low_fOk (prv_ok hv hp)
    refine fLt_le hx.2.1 hp1.2.1 h0.2.1 hn (h.2 p hp ?_)
    obtain ⟨p1, p2, p3⟩ := p
    unfold seenQ at *
    simp only [Prod.mk.injEq] at *
    omega
theorem bestV_keep1 {l : List T3} {i : Nat} {x : Int × Int} (h : bestV l i i i x) (hn : ¬ fLt x (low (oneP (l.getD i cD)))) : bestV l i i (i + 1) x :=
  bestV_keep h (by rw [prv_one]; exact hn)
theorem bestV_take1 {l : List T3} (hv : Valid l) {i : Nat} {x : Int × Int} (h : bestV l i i i x) (hi : i < l.length) (hn : fLt x (low (oneP (l.getD i cD)))) : bestV l i i (i + 1) (low (oneP (l.getD i cD))) := by
  have := bestV_take hv h (pr_one hi) (by rw [prv_one]; exact hn)
  rwa [prv_one] at this
theorem bestV_keep3 {l : List T3} {i j k : Nat} {x : Int × Int} (h : bestV l i j k x) (h2 : j + 1 ≤ k) (h1 : i + 1 ≤ j) (hn : ¬ fLt x (low (threeP (l.getD i cD) (l.getD j cD) (l.getD k cD)))) : bestV l i j (k + 1) x :=
  bestV_keep h (by rw [prv_three l (by omega)]; exact hn)
theorem bestV_take3 {l : List T3} (hv : Valid l) {i j k : Nat} {x : Int × Int} (h : bestV l i j k x) (h2 : j + 1 ≤ k) (h1 : i + 1 ≤ j) (hk : k < l.length) (hn : fLt x (low (threeP (l.getD i cD) (l.getD j cD) (l.getD k cD)))) : bestV l i j (k + 1) (low (threeP (l.getD i cD) (l.getD j cD) (l.getD k cD))) := by
  have := bestV_take hv h (Or.inr ⟨by simp only; omega, by simp only; omega, hk⟩) (by rw [prv_three l (by omega)]; exact hn)
  rwa [prv_three l (by omega)] at this
theorem bestV_first {l : List T3} {i : Nat} {x : Int × Int} (h : bestV l i i (i + 1) x) : bestV l i (i + 1) (i + 1) x :=
  bestV_mono h fun p hp hs => by
    obtain ⟨p1, p2, p3⟩ := p
    unfold seenQ isProof at *
    simp only at *
    omega
theorem bestV_col {l : List T3} {i j : Nat} {x : Int × Int} (hij : i + 1 ≤ j) (h : bestV l i j j x) : bestV l i j (j + 1) x :=
  bestV_mono h fun p hp hs => by
    obtain ⟨p1, p2, p3⟩ := p
    unfold seenQ isProof at *
    simp only at *
    omega
theorem bestV_row {l : List T3} {i j : Nat} {x : Int × Int} (h : bestV l i j l.length x) : bestV l i (j + 1) (j + 1) x :=
  bestV_mono h fun p hp hs => by
    obtain ⟨p1, p2, p3⟩ := p
    unfold seenQ isProof at *
    simp only at *
    omega
theorem bestV_next {l : List T3} {i j : Nat} {x : Int × Int} (h : bestV l i l.length j x) : bestV l (i + 1) (i + 1) (i + 1) x :=
  bestV_mono h fun p hp hs => by
    obtain ⟨p1, p2, p3⟩ := p
    unfold seenQ isProof at *
    simp only at *
    omega
theorem bestV_end {l : List T3} (hv : Valid l) {j k : Nat} {x : Int × Int} (h : bestV l l.length j k x) : ∃ f, bestIs l f ∧ x = low f := by
  obtain ⟨⟨p, hp, rfl⟩, hall⟩ := h
  refine ⟨prvL l p, ⟨⟨p, hp, rfl⟩, fun q hq => ?_⟩, rfl⟩
  have := hall q hq (by unfold seenQ; unfold isProof at hq; omega)
  rwa [fLt_lowQ (prv_ok hv hp).2.1 (prv_ok hv hq).2.1] at this
theorem one_fOk {c : T3} (h : codeOk c) : fOk (oneP c) := by
  unfold codeOk at h
  unfold fOk oneP
  simp only
  omega
theorem three_fOk {a b c : T3} (ha : codeOk a) (hb : codeOk b) (hc : codeOk c) (k1 : a.1 < b.1) (k2 : b.1 < c.1) : fOk (threeP a b c) := by
  obtain ⟨b1, b2, b3, b4, b5, b6⟩ := three_bd ha hb hc k1 k2
  unfold codeOk at ha hb hc
  unfold fOk threeP abv blw
  simp only
  omega
section
variable {P : Program} {ol rest : List Oper} {R : Act → Prop} {l : St} {w : World} {α : Type} {f : α → List Value} {n : Nat} {ty : TypeId} {pos : String} {af : Array Edge} {T : TypeId}
theorem WM_indexRwQ {d : Nat} {x ix : Operand} {T e : TypeId} {v : Value} {i : Nat} {k : IntKind} {z : Value} {b : Nat} {xs : List α} (dv : α) (hf : ∀ x, (f x).length = n) (hn : 0 < n) [h : Und P T (.slice e)] [hs : Sz P e z n b] (hx : ev l x = v) (hv : Row f n w v xs) (hi : ev l ix = .int k (i : Int)) (hlt : i < xs.length)
    (K : ∀ b o, Cells w ⟨b, o, none⟩ (f (xs.getD i dv)) → WM P w ol R rest (upd l d (.pointer (some ⟨b, o, none⟩)))) : WM P w ol R (⟨some d, .indexAddr T x ix, ty, pos, af, none⟩ :: rest) l := by
  obtain ⟨a, m, c, b, o, rfl, h1, h2, h5⟩ := row_at dv hf hn hv hlt
  exact WM_op rfl rfl (fun w' _ => by have := r_indexAddr (P := P) (T := T) (od := some d) (ty := ty) (pos := pos) (af := af) (w := w') (e := e) hx hi h1; rwa [h2] at this) (K _ _ h5)
end
end Go.Pv
namespace Go.Proofs.Ytbmjigneekodnaa
open Go.Pv Go.RowKit
set_option maxHeartbeats 16000000
set_option maxRecDepth 20000

theorem rLessT (a b : Int × Int) (w : World) (ha : fOk a) (hb : fOk b) (h : fLt a b) : Ret Try.prog 48 [v2 a, v2 b] w fun r _ => r = .bool true := by
  have h1 := fOk_mul ha hb
  have h2 := fOk_mul hb ha
  have := rLess_any a b w (by omega) (by omega)
  rw [decide_eq_true h] at this
  exact this
theorem rLessF (a b : Int × Int) (w : World) (ha : fOk a) (hb : fOk b) (h : ¬ fLt a b) : Ret Try.prog 48 [v2 a, v2 b] w fun r _ => r = .bool false := by
  have h1 := fOk_mul ha hb
  have h2 := fOk_mul hb ha
  have := rLess_any a b w (by omega) (by omega)
  rw [decide_eq_false h] at this
  exact this
theorem rbest_any (v : Value) (l : List T3) (w : World) (h : Row cC 3 w v l) (hv : Valid l) : Ret Try.prog 47 [v] w fun r _ => ∃ f vp, r = .tuple #[v2 (low f), vp] ∧ bestIs l f := by
  have hl := h.len
  have hv1 := h.one
  have hn := hv.1
  refine ret_of_c Try.func47 rfl Try.ntmps47 (Nat.le_of_ble_eq_true rfl) (by dsimp only [ini, Nat.reduceAdd] <;> exact rfl) ?_
  repeat' (first
      | (((with_reducible apply c_cond_dec); exact rfl; (all_goals intro _); (all_goals (try (exfalso; (focus (omega; done)))))))
      | ((with_reducible (show C _ _ _ _ _)); refine c_cutG (x := .region 1 _ _) (n := 74) (fun ps wr => ∃ (b2 b4 : Nat) (who : Value) (x : Int × Int), ps = ([(0, v), (2, .pointer (some ⟨b2, 0, none⟩)), (4, .pointer (some ⟨b4, 0, none⟩)), (5, who)] : List (Nat × Value)) ∧ (w.heap.size ≤ b2 ∧ b2 < b4) ∧ x = (low (oneP (l.getD 0 cD))) ∧ Bx wr b2 [.int .i64 0, .int .i64 0] 24 ∧ Bx wr b4 [.int .i64 x.1, .int .i64 x.2] 24 ∧ Ex w wr) (fun J1 hJ1 => ?_) (fun u1 ps1 wr1 hI1 => ?_); rotate_left 1; obtain ⟨b2, b4, who, x, rfl, hbb, hxe, hx2, hx4, he⟩ := hI1; have hsz := he.size; (have hbs := bestV_start hv hxe); (have tkO : True := trivial); rotate_left 1)
      | (refine W_indexRw (f := cC) (n := 3) (v := v) (xs := l) (i := 0) cD cC_len (by decide) rfl (Row.ex (by repeat (first | exact Ex.refl _ | assumption | (refine Ex.of_grown ?_ (by assumption) (by intro k hk; cases hk; omega)) | (refine Ex.trans ?_ (by assumption)))) h) rfl (by omega) ?_; intro pb po hpc; (have hpc3 : Cells _ ⟨pb, po, none⟩ [_, _, _] := hpc))
      | (refine W_indexRw (f := cC) (n := 3) (v := v) (xs := l) (i := i) cD cC_len (by decide) rfl (Row.ex (by repeat (first | exact Ex.refl _ | assumption | (refine Ex.of_grown ?_ (by assumption) (by intro k hk; cases hk; omega)) | (refine Ex.trans ?_ (by assumption)))) h) rfl (by omega) ?_; intro pb po hpc; (have hpc3 : Cells _ ⟨pb, po, none⟩ [_, _, _] := hpc))
      | ((with_reducible (show C _ _ _ _ _)); clear tkA; (have hxo := bestV_ok hv hbv); by_cases hil : i < l.length; (have hci := hv.2.1 i hil); (have tkB : True := trivial); rotate_left 1; (have hie : i = l.length := (by omega)); subst hie; (obtain ⟨f, hf, hxf⟩ := bestV_end hv hbv); subst hxf; rotate_left 1)
      | ((with_reducible (show C _ _ _ _ _)); clear tkB; refine c_cutG (x := .seq (.region 5 _ _) (.cond _ _ _)) (n := 74) (fun ps wr => ∃ (who : Value) (x : Int × Int), ps = ([(0, v), (2, .pointer (some ⟨b2, 0, none⟩)), (4, .pointer (some ⟨b4, 0, none⟩)), (5, who), (6, .int .i64 i)] : List (Nat × Value)) ∧ bestV l i i (i + 1) x ∧ Bx wr b2 [.int .i64 0, .int .i64 0] 24 ∧ Bx wr b4 [.int .i64 x.1, .int .i64 x.2] 24 ∧ Ex w wr) (fun JB hJB => ?_) (fun uB psB wrB hIB => ?_); rotate_left 1; obtain ⟨whoB, xB, rfl, hbvB, hx2, hx4, he⟩ := hIB; have hsz := he.size; (have tkJ : True := trivial); rotate_left 1; by_cases hlt : fLt x (low (oneP (l.getD i cD))))
      | (refine c_mix (id := 5) [] [0, 1, 2, 3, 4, 5] [6] [false, false, false, false, false, false, false] [true, true, true, true, true, true, false] [none, none, none, none, none, none, some true] (by kernel_rfl) (by kernel_rfl) (by kernel_rfl) (by kernel_rfl) (by kernel_rfl) (by kernel_rfl) (by dsimp only [sel] <;> exact rfl) (by dsimp only [sel] <;> exact rfl) (by dsimp only [selT] <;> exact rfl) ?_)
      | (refine WM_indexRwQ (f := cC) (n := 3) (v := v) (xs := l) (i := i) cD cC_len (by decide) rfl (Row.ex (by repeat (first | exact Ex.refl _ | assumption | (refine Ex.of_grown ?_ (by assumption) (by intro k hk; cases hk; omega)) | (refine Ex.trans ?_ (by assumption)))) h) rfl (by omega) ?_; intro pb po hpc; (have hpci : Cells _ ⟨pb, po, none⟩ [_, _, _] := hpc))
      | (refine WM_indexRwQ (f := cC) (n := 3) (v := v) (xs := l) (i := j) cD cC_len (by decide) rfl (Row.ex (by repeat (first | exact Ex.refl _ | assumption | (refine Ex.of_grown ?_ (by assumption) (by intro k hk; cases hk; omega)) | (refine Ex.trans ?_ (by assumption)))) h) rfl (by omega) ?_; intro pb po hpc; (have hpcj : Cells _ ⟨pb, po, none⟩ [_, _, _] := hpc))
      | (refine WM_indexRwQ (f := cC) (n := 3) (v := v) (xs := l) (i := k) cD cC_len (by decide) rfl (Row.ex (by repeat (first | exact Ex.refl _ | assumption | (refine Ex.of_grown ?_ (by assumption) (by intro k hk; cases hk; omega)) | (refine Ex.trans ?_ (by assumption)))) h) rfl (by omega) ?_; intro pb po hpc; (have hpck : Cells _ ⟨pb, po, none⟩ [_, _, _] := hpc))
      | ((with_reducible (show C _ _ _ _ _)); clear tkC; by_cases hjl : j < l.length; (have hcj := hv.2.1 j hjl); (have s1 := hv.2.2 i j (by omega) hjl); (have tkK : True := trivial); rotate_left 1; (have hje : j = l.length := (by omega)); subst hje; rotate_left 1)
      | ((with_reducible (show C _ _ _ _ _)); clear tkD; (have hxoK := bestV_ok hv hbvK); by_cases hkl : k < l.length; (have hck := hv.2.1 k hkl); (have s2 := hv.2.2 j k (by omega) hkl); (have tkE : True := trivial); rotate_left 1; (have hke : k = l.length := (by omega)); subst hke; rotate_left 1)
      | ((with_reducible (show C _ _ _ _ _)); clear tkE; refine c_cutG (x := .region 13 _ _) (n := 74) (fun ps wr => ∃ (b9 : Nat), ps = ([(0, v), (2, .pointer (some ⟨b2, 0, none⟩)), (4, .pointer (some ⟨b4, 0, none⟩)), (5, whoK), (6, .int .i64 i), (7, .int .i64 j), (8, .int .i64 k), (9, .pointer (some ⟨b9, 0, none⟩))] : List (Nat × Value)) ∧ Bx wr b2 [.int .i64 0, .int .i64 0] 24 ∧ Bx wr b4 [.int .i64 xK.1, .int .i64 xK.2] 24 ∧ Bx wr b9 [.int .i64 (low (threeP (l.getD i cD) (l.getD j cD) (l.getD k cD))).1, .int .i64 (low (threeP (l.getD i cD) (l.getD j cD) (l.getD k cD))).2] 24 ∧ Ex w wr) (fun JD hJD => ?_) (fun uD psD wrD hID => ?_); rotate_left 1; obtain ⟨b9, rfl, hx2, hx4, hx9, he⟩ := hID; have hsz := he.size; by_cases hlt : fLt xK (low (threeP (l.getD i cD) (l.getD j cD) (l.getD k cD))); rotate_left 2)
      | (refine c_mixX (id := 13) [] [0, 1, 2, 3, 4, 5, 6, 7, 8, 9, 10, 11, 12] 2 #[true, true, true, true, true, true, true, true, true, true, true, true, true, false, false] [false, false, false, false, false, false, false, false, false, false, false, false, false, false, false] [true, true, true, true, true, true, true, true, true, true, true, true, true, false, false] (by kernel_rfl) (by kernel_rfl) (by kernel_rfl) (by dsimp only [sel] <;> exact rfl) (by dsimp only [sel] <;> exact rfl) ?_)
      | ((first | ((with_reducible apply W_op); exact rfl; exact rfl) | ((with_reducible apply WQ_op); exact rfl; exact rfl; intro wq he) | ((with_reducible apply WM_op); exact rfl; exact rfl; intro wq he) | ((with_reducible apply WB_op); exact rfl; exact rfl; intro wq)); (first | ((with_reducible apply r_move); ((conv => lhs; whnf) <;> exact rfl)) | ((with_reducible apply r_assign); ((conv => lhs; whnf) <;> exact rfl)) | ((with_reducible apply r_loadA); exact rfl; (first | assumption | exact Bx.cells (by repeat (first | assumption | ((with_reducible apply Bx.grownS); assumption; (first | omega | exact Bx.ne (by assumption) (by omega))) | ((with_reducible apply Bx.below); assumption; omega) | ((with_reducible apply Bx.ex); assumption))) | exact Cells.ex (by assumption) (by assumption)); exact rfl) | ((with_reducible apply r_lss); exact rfl; exact rfl) | ((with_reducible apply r_add); exact rfl; exact rfl; omega) | ((with_reducible apply r_lenR); ((conv => lhs; whnf) <;> exact rfl); (focus ((repeat (first | assumption | ((with_reducible apply OwnR.grownS); assumption; omega) | ((with_reducible apply Row.ex); assumption) | ((with_reducible apply OwnR.ex); assumption) | ((with_reducible apply Bx.grownS); assumption; (first | omega | exact Bx.ne (by assumption) (by omega))) | ((with_reducible apply Bx.below); assumption; omega) | ((with_reducible apply Own.grownS); assumption; omega) | ((with_reducible apply Bx.ex); assumption) | ((with_reducible apply IntsK.ex); assumption) | ((with_reducible apply Own.ex); assumption) | ((with_reducible apply Prs.ex); assumption))); done)))))
      | (refine W_callv (rproved_any (l.getD 0 cD) _ (hv.2.1 0 (by omega))) rfl (fun wq he => ?_); have hsz := he.size)
      | (refine W_callv (rproved_any (l.getD i cD) _ (hv.2.1 i (by omega))) rfl (fun wq he => ?_); have hsz := he.size)
      | ((with_reducible (show Exit.then _ _ _ _ _)); refine n_cutG (hJ1 _ _ _ ⟨_, _, _, (low (oneP (l.getD 0 cD))), rfl, (by omega), rfl, (by repeat (first | assumption | ((with_reducible apply Bx.grownS); assumption; (first | omega | exact Bx.ne (by assumption) (by omega))) | ((with_reducible apply Bx.below); assumption; omega) | ((with_reducible apply Bx.ex); assumption))), (by repeat (first | assumption | ((with_reducible apply Bx.grownS); assumption; (first | omega | exact Bx.ne (by assumption) (by omega))) | ((with_reducible apply Bx.below); assumption; omega) | ((with_reducible apply Bx.ex); assumption))), (by repeat (first | assumption | exact Ex.refl _ | (refine Ex.trans ?_ (by assumption)) | (refine Ex.of_grown ?_ (by assumption) (by intro k hk; cases hk; omega))))⟩ ⟨rfl, rfl, rfl, rfl, trivial⟩ rfl))
      | (refine WM_callv (fun wq he => rproved_any (l.getD i cD) wq hci) rfl ?_)
      | (refine W_callv (rLessT x (low (oneP (l.getD i cD))) _ hxo (low_fOk (one_fOk hci)) hlt) rfl (fun wq he => ?_); have hsz := he.size)
      | (refine W_callv (rLessF x (low (oneP (l.getD i cD))) _ hxo (low_fOk (one_fOk hci)) hlt) rfl (fun wq he => ?_); have hsz := he.size)
      | ((with_reducible (show Exit.then _ _ _ _ _)); refine n_cutG (hJB _ _ _ ⟨_, _, rfl, (by first | exact bestV_take1 hv hbv hil hlt | exact bestV_keep1 hbv hlt), (by repeat (first | assumption | ((with_reducible apply Bx.grownS); assumption; (first | omega | exact Bx.ne (by assumption) (by omega))) | ((with_reducible apply Bx.below); assumption; omega) | ((with_reducible apply Bx.ex); assumption))), (by repeat (first | assumption | ((with_reducible apply Bx.grownS); assumption; (first | omega | exact Bx.ne (by assumption) (by omega))) | ((with_reducible apply Bx.below); assumption; omega) | ((with_reducible apply Bx.ex); assumption))), (by repeat (first | assumption | exact Ex.refl _ | (refine Ex.trans ?_ (by assumption)) | (refine Ex.of_grown ?_ (by assumption) (by intro k hk; cases hk; omega))))⟩ ⟨rfl, rfl, rfl, rfl, rfl, trivial⟩ rfl))
      | (refine XT_one (t := 13) (s := false) (listed := #[true, true, true, true, true, true, true, true, true, true, true, true, true, false, false]) (listed' := #[true, true, true, true, true, true, true, true, true, true, true, true, true, true, false]) (by kernel_rfl) rfl (by kernel_rfl) (by kernel_rfl) ?_)
      | (refine XT_one (t := 14) (s := true) (listed := #[true, true, true, true, true, true, true, true, true, true, true, true, true, true, false]) (listed' := #[true, true, true, true, true, true, true, true, true, true, true, true, true, true, true]) (by kernel_rfl) rfl (by kernel_rfl) (by kernel_rfl) ?_)
      | (with_reducible apply XB_nil)
      | ((with_reducible apply XM_nil); intro wq he; have hsz := he.size)
      | ((with_reducible apply XT_nil); kernel_rfl)
      | (with_reducible apply x_sink)
      | ((with_reducible apply x_keep); (focus ((repeat (first | assumption | exact Ex.refl _ | (refine Ex.trans ?_ (by assumption)) | (refine Ex.of_grown ?_ (by assumption) (by intro k hk; cases hk; omega)))); done)); intro wq he; have hsz := he.size)
      | (refine WM_callv (fun wq he => rproved3_any (l.getD i cD) (l.getD j cD) (l.getD k cD) wq hci hcj hck s1 s2) rfl ?_)
      | ((with_reducible (show Exit.then _ _ _ _ _)); refine n_cutG (hJD _ _ _ ⟨_, rfl, (by repeat (first | assumption | ((with_reducible apply Bx.grownS); assumption; (first | omega | exact Bx.ne (by assumption) (by omega))) | ((with_reducible apply Bx.below); assumption; omega) | ((with_reducible apply Bx.ex); assumption))), (by repeat (first | assumption | ((with_reducible apply Bx.grownS); assumption; (first | omega | exact Bx.ne (by assumption) (by omega))) | ((with_reducible apply Bx.below); assumption; omega) | ((with_reducible apply Bx.ex); assumption))), (by repeat (first | assumption | ((with_reducible apply Bx.grownS); assumption; (first | omega | exact Bx.ne (by assumption) (by omega))) | ((with_reducible apply Bx.below); assumption; omega) | ((with_reducible apply Bx.ex); assumption))), (by repeat (first | assumption | exact Ex.refl _ | (refine Ex.trans ?_ (by assumption)) | (refine Ex.of_grown ?_ (by assumption) (by intro k hk; cases hk; omega))))⟩ ⟨rfl, rfl, rfl, rfl, rfl, rfl, rfl, rfl, trivial⟩ rfl))
      | (refine W_callv (rLessT xK (low (threeP (l.getD i cD) (l.getD j cD) (l.getD k cD))) _ hxoK (low_fOk (three_fOk hci hcj hck s1 s2)) hlt) rfl (fun wq he => ?_); have hsz := he.size)
      | (refine W_callv (rLessF xK (low (threeP (l.getD i cD) (l.getD j cD) (l.getD k cD))) _ hxoK (low_fOk (three_fOk hci hcj hck s1 s2)) hlt) rfl (fun wq he => ?_); have hsz := he.size)
      | ((with_reducible (show C _ _ _ _ _)); clear tkO; refine c_loopG (fun (i : Nat) ps wr => ∃ who : Value, ∃ ii : Int, ∃ x : Int × Int, ps = [(0, v), (2, .pointer (some ⟨b2, 0, none⟩)), (4, .pointer (some ⟨b4, 0, none⟩)), (5, who), (6, .int .i64 ii)] ∧ ii = i ∧ i ≤ l.length ∧ bestV l i i i x ∧ Bx wr b2 [.int .i64 0, .int .i64 0] 24 ∧ Bx wr b4 [.int .i64 x.1, .int .i64 x.2] 24 ∧ Ex w wr) (fun i => l.length - i) 0 _ ⟨_, _, x, rfl, rfl, Nat.zero_le _, hbs, (by repeat (first | assumption | ((with_reducible apply Bx.grownS); assumption; (first | omega | exact Bx.ne (by assumption) (by omega))) | ((with_reducible apply Bx.below); assumption; omega) | ((with_reducible apply Bx.ex); assumption))), (by repeat (first | assumption | ((with_reducible apply Bx.grownS); assumption; (first | omega | exact Bx.ne (by assumption) (by omega))) | ((with_reducible apply Bx.below); assumption; omega) | ((with_reducible apply Bx.ex); assumption))), (by repeat (first | assumption | exact Ex.refl _ | (refine Ex.trans ?_ (by assumption)) | (refine Ex.of_grown ?_ (by assumption) (by intro k hk; cases hk; omega))))⟩ ⟨rfl, rfl, rfl, rfl, rfl, trivial⟩ (by ((conv => lhs; whnf) <;> exact rfl)) ?_; rintro JI hJI i u ps wr ⟨who, ii, x, rfl, rfl, hi, hbv, hx2, hx4, he⟩; have hsz := he.size; have tkA : True := trivial)
      | ((with_reducible (show Exit.then _ _ _ _ _)); refine n_roundG (i + 1) (hJI _ _ _ _ ⟨_, _, _, rfl, by omega, by omega, bestV_next hbvJ, (by repeat (first | assumption | ((with_reducible apply Bx.grownS); assumption; (first | omega | exact Bx.ne (by assumption) (by omega))) | ((with_reducible apply Bx.below); assumption; omega) | ((with_reducible apply Bx.ex); assumption))), (by repeat (first | assumption | ((with_reducible apply Bx.grownS); assumption; (first | omega | exact Bx.ne (by assumption) (by omega))) | ((with_reducible apply Bx.below); assumption; omega) | ((with_reducible apply Bx.ex); assumption))), (by repeat (first | assumption | exact Ex.refl _ | (refine Ex.trans ?_ (by assumption)) | (refine Ex.of_grown ?_ (by assumption) (by intro k hk; cases hk; omega))))⟩ ⟨rfl, rfl, rfl, rfl, rfl, trivial⟩ rfl) (by omega))
      | ((with_reducible (show C _ _ _ _ _)); clear tkJ; refine c_loopG (fun (j : Nat) ps wr => ∃ whoJ : Value, ∃ jj : Int, ∃ xJ : Int × Int, ps = [(0, v), (2, .pointer (some ⟨b2, 0, none⟩)), (4, .pointer (some ⟨b4, 0, none⟩)), (5, whoJ), (6, .int .i64 i), (7, .int .i64 jj)] ∧ jj = j ∧ (i + 1 ≤ j ∧ j ≤ l.length) ∧ bestV l i j j xJ ∧ Bx wr b2 [.int .i64 0, .int .i64 0] 24 ∧ Bx wr b4 [.int .i64 xJ.1, .int .i64 xJ.2] 24 ∧ Ex w wr) (fun j => l.length - j) (i + 1) _ ⟨_, _, xB, rfl, (by omega), (by omega), bestV_first hbvB, (by repeat (first | assumption | ((with_reducible apply Bx.grownS); assumption; (first | omega | exact Bx.ne (by assumption) (by omega))) | ((with_reducible apply Bx.below); assumption; omega) | ((with_reducible apply Bx.ex); assumption))), (by repeat (first | assumption | ((with_reducible apply Bx.grownS); assumption; (first | omega | exact Bx.ne (by assumption) (by omega))) | ((with_reducible apply Bx.below); assumption; omega) | ((with_reducible apply Bx.ex); assumption))), (by repeat (first | assumption | exact Ex.refl _ | (refine Ex.trans ?_ (by assumption)) | (refine Ex.of_grown ?_ (by assumption) (by intro k hk; cases hk; omega))))⟩ ⟨rfl, rfl, rfl, rfl, rfl, rfl, trivial⟩ (by ((conv => lhs; whnf) <;> exact rfl)) ?_; rintro JJ hJJ j u ps wr ⟨whoJ, jj, xJ, rfl, rfl, hj, hbvJ, hx2, hx4, he⟩; have hsz := he.size; have tkC : True := trivial)
      | ((with_reducible (show Exit.then _ _ _ _ _)); refine n_roundG (j + 1) (hJJ _ _ _ _ ⟨_, _, _, rfl, by omega, by omega, bestV_row hbvK, (by repeat (first | assumption | ((with_reducible apply Bx.grownS); assumption; (first | omega | exact Bx.ne (by assumption) (by omega))) | ((with_reducible apply Bx.below); assumption; omega) | ((with_reducible apply Bx.ex); assumption))), (by repeat (first | assumption | ((with_reducible apply Bx.grownS); assumption; (first | omega | exact Bx.ne (by assumption) (by omega))) | ((with_reducible apply Bx.below); assumption; omega) | ((with_reducible apply Bx.ex); assumption))), (by repeat (first | assumption | exact Ex.refl _ | (refine Ex.trans ?_ (by assumption)) | (refine Ex.of_grown ?_ (by assumption) (by intro k hk; cases hk; omega))))⟩ ⟨rfl, rfl, rfl, rfl, rfl, rfl, trivial⟩ rfl) (by omega))
      | ((with_reducible (show C _ _ _ _ _)); clear tkK; refine c_loopG (fun (k : Nat) ps wr => ∃ whoK : Value, ∃ kk : Int, ∃ xK : Int × Int, ps = [(0, v), (2, .pointer (some ⟨b2, 0, none⟩)), (4, .pointer (some ⟨b4, 0, none⟩)), (5, whoK), (6, .int .i64 i), (7, .int .i64 j), (8, .int .i64 kk)] ∧ kk = k ∧ (j + 1 ≤ k ∧ k ≤ l.length) ∧ bestV l i j k xK ∧ Bx wr b2 [.int .i64 0, .int .i64 0] 24 ∧ Bx wr b4 [.int .i64 xK.1, .int .i64 xK.2] 24 ∧ Ex w wr) (fun k => l.length - k) (j + 1) _ ⟨_, _, xJ, rfl, (by omega), (by omega), bestV_col hj.1 hbvJ, (by repeat (first | assumption | ((with_reducible apply Bx.grownS); assumption; (first | omega | exact Bx.ne (by assumption) (by omega))) | ((with_reducible apply Bx.below); assumption; omega) | ((with_reducible apply Bx.ex); assumption))), (by repeat (first | assumption | ((with_reducible apply Bx.grownS); assumption; (first | omega | exact Bx.ne (by assumption) (by omega))) | ((with_reducible apply Bx.below); assumption; omega) | ((with_reducible apply Bx.ex); assumption))), (by repeat (first | assumption | exact Ex.refl _ | (refine Ex.trans ?_ (by assumption)) | (refine Ex.of_grown ?_ (by assumption) (by intro k hk; cases hk; omega))))⟩ ⟨rfl, rfl, rfl, rfl, rfl, rfl, rfl, trivial⟩ (by ((conv => lhs; whnf) <;> exact rfl)) ?_; rintro JK hJK k u ps wr ⟨whoK, kk, xK, rfl, rfl, hk, hbvK, hx2, hx4, he⟩; have hsz := he.size; have tkD : True := trivial)
      | ((with_reducible (show Exit.then _ _ _ _ _)); refine n_roundG (k + 1) (hJK _ _ _ _ ⟨_, _, _, rfl, by omega, by omega, (by first | exact bestV_take3 hv hbvK hk.1 hj.1 hkl hlt | exact bestV_keep3 hbvK hk.1 hj.1 hlt), (by repeat (first | assumption | ((with_reducible apply Bx.grownS); assumption; (first | omega | exact Bx.ne (by assumption) (by omega))) | ((with_reducible apply Bx.below); assumption; omega) | ((with_reducible apply Bx.ex); assumption))), (by repeat (first | assumption | ((with_reducible apply Bx.grownS); assumption; (first | omega | exact Bx.ne (by assumption) (by omega))) | ((with_reducible apply Bx.below); assumption; omega) | ((with_reducible apply Bx.ex); assumption))), (by repeat (first | assumption | exact Ex.refl _ | (refine Ex.trans ?_ (by assumption)) | (refine Ex.of_grown ?_ (by assumption) (by intro k hk; cases hk; omega))))⟩ ⟨rfl, rfl, rfl, rfl, rfl, rfl, rfl, trivial⟩ rfl) (by omega))
      | (with_reducible apply W_nil)
      | (with_reducible apply WM_nil; intro wq he; have hsz := he.size)
      | (with_reducible apply WB_nil)
      | (with_reducible apply WT_nil)
      | (with_reducible apply WT_cons)
      | (with_reducible apply t_sink)
      | ((with_reducible apply W_alloc); exact rfl; intro bq wq hbq he hnq; have hltq := Bx.lt hbq; have hsz := he.size)
      | ((with_reducible apply W_storeA); exact rfl; (focus ((repeat (first | assumption | ((with_reducible apply Bx.grownS); assumption; (first | omega | exact Bx.ne (by assumption) (by omega))) | ((with_reducible apply Bx.below); assumption; omega) | ((with_reducible apply Bx.ex); assumption))); done)); exact rfl; exact rfl; exact rfl; (repeat' (first | exact trivial | (first | exact rfl | assumption | exact IntsK.one (by assumption) | exact Prs.one (by assumption) | exact Own.one (by assumption) | exact Row.one (by assumption) | exact OwnR.one (by assumption)) | constructor)); intro wq hbq hgq; have he : Ex w wq := (by repeat (first | assumption | exact Ex.refl _ | (refine Ex.trans ?_ (by assumption)) | (refine Ex.of_grown ?_ (by assumption) (by intro k hk; cases hk; omega)))); have hsz := he.size; have hgz := hgq.size)
      | ((with_reducible apply W_bs1); ((conv => lhs; whnf) <;> exact rfl); (first | exact rfl | assumption | exact IntsK.one (by assumption) | exact Prs.one (by assumption) | exact Own.one (by assumption) | exact Row.one (by assumption) | exact OwnR.one (by assumption)); decide; decide; exact rfl; exact rfl; ((simp only [lay, lset, List.replicate_succ, List.replicate_zero]) <;> exact rfl); intro bq wq hbq he hnq; have hltq := Bx.lt hbq; have hsz := he.size)
      | ((with_reducible apply W_bs3); ((conv => lhs; whnf) <;> exact rfl); ((conv => lhs; whnf) <;> exact rfl); ((conv => lhs; whnf) <;> exact rfl); (first | exact rfl | assumption | exact IntsK.one (by assumption) | exact Prs.one (by assumption) | exact Own.one (by assumption) | exact Row.one (by assumption) | exact OwnR.one (by assumption)); (first | exact rfl | assumption | exact IntsK.one (by assumption) | exact Prs.one (by assumption) | exact Own.one (by assumption) | exact Row.one (by assumption) | exact OwnR.one (by assumption)); (first | exact rfl | assumption | exact IntsK.one (by assumption) | exact Prs.one (by assumption) | exact Own.one (by assumption) | exact Row.one (by assumption) | exact OwnR.one (by assumption)); decide; decide; exact rfl; exact rfl; ((simp only [lay, lset, List.replicate_succ, List.replicate_zero]) <;> exact rfl); intro bq wq hbq he hnq; have hltq := Bx.lt hbq; have hsz := he.size)
      | (with_reducible apply c_seq)
      | (with_reducible apply c_region)
      | (with_reducible apply c_block)
      | (with_reducible apply c_skip)
      | (with_reducible apply c_ret)
      | (with_reducible apply c_exit)
      | ((with_reducible apply c_cond_true); exact rfl)
      | ((with_reducible apply c_cond_false); exact rfl)
      | (with_reducible apply n_then)
      | (with_reducible apply n_block)
      | (with_reducible apply e_then)
      | (with_reducible apply e_block)
      | ((with_reducible apply p_retct); exact rfl; exact inferInstance; exact inferInstance; exact rfl; (focus ((repeat (first | assumption | ((with_reducible apply Bx.grownS); assumption; (first | omega | exact Bx.ne (by assumption) (by omega))) | ((with_reducible apply Bx.below); assumption; omega) | ((with_reducible apply Bx.ex); assumption))); done)); exact rfl; exact rfl; refine ⟨_, rfl, ?_, (by repeat (first | assumption | exact Ex.refl _ | (refine Ex.trans ?_ (by assumption)) | (refine Ex.of_grown ?_ (by assumption) (by intro k hk; cases hk; omega))))⟩))
  all_goals first | exact ⟨f, _, rfl, hf⟩ | skip
end Go.Proofs.Ytbmjigneekodnaa

