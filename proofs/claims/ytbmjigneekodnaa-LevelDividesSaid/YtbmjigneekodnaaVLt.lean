/-
  (rows) What this text proves: Best and Gains of the program answer as stated. Conditions: the codes are a row.
-/
import Derived.Test.YtbmjigneekodnaaVLq
set_option linter.unusedVariables false
set_option linter.unusedSimpArgs false

namespace Go.Pv
/-- Best's answer. -/
def bestR (l : List T3) (g o x : Int × Int) (e : Int) : Prop :=
  (cErr l ≠ 0 ∧ e = cErr l ∧ g = (0, 0) ∧ o = (0, 0) ∧ x = (0, 0)) ∨ (cErr l = 0 ∧ e = 0 ∧ ∃ f, bestIs l f ∧ x = low f ∧ lineR l f g o)
/-- Gains' answer. -/
def gainsE (l : List T3) (f x y : Int × Int) (e : Int) : Prop :=
  (x = (0, 0) ∧ y = (0, 0) ∧ ((cErr l ≠ 0 ∧ e = cErr l) ∨ (cErr l = 0 ∧ ¬ bOk f ∧ e = 3) ∨ (cErr l = 0 ∧ bOk f ∧ l.length = 1 ∧ e = 13) ∨
    (cErr l = 0 ∧ bOk f ∧ l.length ≠ 1 ∧ e = 11 ∧ ∃ a b, gainsR l f a b false))) ∨
  (cErr l = 0 ∧ bOk f ∧ l.length ≠ 1 ∧ e = 0 ∧ ∃ a b, gainsR l f a b true ∧ x = low a ∧ y = low b)
theorem bOk_gB {f : Int × Int} (h : bOk f) : gB f := by unfold bOk at h; unfold gB; omega
theorem gainsR_gF {l : List T3} {f a b : Int × Int} (hv : Valid l) (hf : gB f) (h : gainsR l f a b true) : ((1 ≤ a.2 ∧ a.2 ≤ 4000000000000000000) ∧ -4000000000000000000 ≤ a.1 ∧ a.1 ≤ 4000000000000000000) ∧ (1 ≤ b.2 ∧ b.2 ≤ 4000000000000000000) ∧ -4000000000000000000 ≤ b.1 ∧ b.1 ≤ 4000000000000000000 := by
  rcases h with ⟨_, h1, h2, _⟩ | ⟨h, _⟩
  · have ga : gF a := by
      rcases h1 with ⟨_, rfl⟩ | ⟨⟨p, q, hs, rfl⟩, _⟩
      · unfold gF; decide
      · unfold seenP at hs
        exact (pair_gF hv hf hs.1 (by omega)).1
    have gb : gF b := by
      rcases h2 with ⟨_, rfl⟩ | ⟨⟨p, q, hs, rfl⟩, _⟩
      · unfold gF; decide
      · unfold seenP at hs
        exact (pair_gF hv hf hs.1 (by omega)).2
    unfold gF at ga gb
    omega
  · cases h
end Go.Pv
namespace Go.Proofs.Ytbmjigneekodnaa
open Go.Pv Go.RowKit
set_option maxHeartbeats 8000000
set_option maxRecDepth 20000

theorem Best_any (v : Value) (l : List T3) (w : World) (h : Row cC 3 w v l) : Ret Try.prog 25 [v] w fun r _ => ∃ g o x e, r = .tuple #[vL g.1 g.2 o.1 o.2, v2 x, .int .i64 e] ∧ bestR l g o x e := by
  have hv1 := h.one
  refine ret_of_c Try.func25 rfl Try.ntmps25 (Nat.le_of_ble_eq_true rfl) (by dsimp only [ini, Nat.reduceAdd] <;> exact rfl) ?_
  repeat' (first
      | ((with_reducible apply W_op); exact rfl; exact rfl; exact r_bld0 (pl := [(0, 2), (2, 2)]) (zs := [.int .i64 0, .int .i64 0, .int .i64 0, .int .i64 0]) (T := 26) (by kernel_rfl))
      | ((first | ((with_reducible apply W_op); exact rfl; exact rfl) | ((with_reducible apply WQ_op); exact rfl; exact rfl; intro wq he) | ((with_reducible apply WM_op); exact rfl; exact rfl; intro wq he) | ((with_reducible apply WB_op); exact rfl; exact rfl; intro wq)); (first | ((with_reducible apply r_move); ((conv => lhs; whnf) <;> exact rfl)) | ((with_reducible apply r_assign); ((conv => lhs; whnf) <;> exact rfl)) | ((with_reducible apply r_loadA); exact rfl; (first | assumption | exact Bx.cells (by repeat (first | assumption | ((with_reducible apply Bx.grownS); assumption; (first | omega | exact Bx.ne (by assumption) (by omega))) | ((with_reducible apply Bx.below); assumption; omega) | ((with_reducible apply Bx.ex); assumption))) | exact Cells.ex (by assumption) (by assumption)); exact rfl) | ((with_reducible apply r_neq); exact rfl; exact rfl) | ((with_reducible apply r_build0); exact rfl)))
      | (refine W_callv (Check_any v l _ (by repeat (first | assumption | ((with_reducible apply OwnR.grownS); assumption; omega) | ((with_reducible apply Row.ex); assumption) | ((with_reducible apply OwnR.ex); assumption) | ((with_reducible apply Bx.grownS); assumption; (first | omega | exact Bx.ne (by assumption) (by omega))) | ((with_reducible apply Bx.below); assumption; omega) | ((with_reducible apply Own.grownS); assumption; omega) | ((with_reducible apply Bx.ex); assumption) | ((with_reducible apply IntsK.ex); assumption) | ((with_reducible apply Own.ex); assumption) | ((with_reducible apply Prs.ex); assumption)))) rfl (fun wq he => ?_); have hsz := he.size)
      | ((have hv := valid_of (l := l) (Classical.not_not.mp (by assumption))); refine W_call (bestError_any v l _ (by repeat (first | assumption | ((with_reducible apply OwnR.grownS); assumption; omega) | ((with_reducible apply Row.ex); assumption) | ((with_reducible apply OwnR.ex); assumption) | ((with_reducible apply Bx.grownS); assumption; (first | omega | exact Bx.ne (by assumption) (by omega))) | ((with_reducible apply Bx.below); assumption; omega) | ((with_reducible apply Own.grownS); assumption; omega) | ((with_reducible apply Bx.ex); assumption) | ((with_reducible apply IntsK.ex); assumption) | ((with_reducible apply Own.ex); assumption) | ((with_reducible apply Prs.ex); assumption))) hv) rfl ?_; rintro vq wq ⟨f, hbf, rfl⟩ he; have hsz := he.size; (have hfo := best_ok hv hbf); unfold fOk at hfo)
      | (refine W_call (bestLine_any v l f _ (by repeat (first | assumption | ((with_reducible apply OwnR.grownS); assumption; omega) | ((with_reducible apply Row.ex); assumption) | ((with_reducible apply OwnR.ex); assumption) | ((with_reducible apply Bx.grownS); assumption; (first | omega | exact Bx.ne (by assumption) (by omega))) | ((with_reducible apply Bx.below); assumption; omega) | ((with_reducible apply Own.grownS); assumption; omega) | ((with_reducible apply Bx.ex); assumption) | ((with_reducible apply IntsK.ex); assumption) | ((with_reducible apply Own.ex); assumption) | ((with_reducible apply Prs.ex); assumption))) hv hbf) rfl ?_; rintro vq wq ⟨g, o, rfl, hlr⟩ he; have hsz := he.size)
      | (refine W_callv (lowest_any f _ (by omega) (by omega)) rfl (fun wq he => ?_); have hsz := he.size)
      | (refine c_mixX (id := 6) [] [] 8 #[false, false, false, false, false, false, false, false] [false, false, false, false, false, false, false, false] [false, false, false, false, false, false, false, false] (by kernel_rfl) (by kernel_rfl) (by kernel_rfl) (by dsimp only [sel] <;> exact rfl) (by dsimp only [sel] <;> exact rfl) ?_)
      | (refine XT_pure (t := 0) (listed := #[false, false, false, false, false, false, false, false]) (listed' := #[true, false, false, false, false, false, false, false]) (by kernel_rfl) rfl rfl rfl (by kernel_rfl) (by intro wq; ((with_reducible apply r_move); ((conv => lhs; whnf) <;> exact rfl))) ?_)
      | (refine XT_two (t := 1) (t' := 3) (s := true) (s' := true) (listed := #[true, false, false, false, false, false, false, false]) (l1 := #[true, true, false, false, false, false, false, false]) (l1' := #[true, false, false, true, false, false, false, false]) (by kernel_rfl) rfl rfl (by kernel_rfl) (by kernel_rfl) (by kernel_rfl) (by kernel_rfl) ?_ ?_)
      | (refine XT_two (t := 2) (t' := 3) (s := true) (s' := true) (listed := #[true, true, false, false, false, false, false, false]) (l1 := #[true, true, true, false, false, false, false, false]) (l1' := #[true, true, false, true, false, false, false, false]) (by kernel_rfl) rfl rfl (by kernel_rfl) (by kernel_rfl) (by kernel_rfl) (by kernel_rfl) ?_ ?_)
      | (refine XT_one (t := 1) (s := true) (listed := #[true, false, false, true, false, false, false, false]) (listed' := #[true, true, false, true, false, false, false, false]) (by kernel_rfl) rfl (by kernel_rfl) (by kernel_rfl) ?_)
      | (refine XT_one (t := 3) (s := true) (listed := #[true, true, true, false, false, false, false, false]) (listed' := #[true, true, true, true, false, false, false, false]) (by kernel_rfl) rfl (by kernel_rfl) (by kernel_rfl) ?_)
      | (refine XT_one (t := 2) (s := true) (listed := #[true, true, false, true, false, false, false, false]) (listed' := #[true, true, true, true, false, false, false, false]) (by kernel_rfl) rfl (by kernel_rfl) (by kernel_rfl) ?_)
      | (refine XT_one (t := 4) (s := true) (listed := #[true, true, true, true, false, false, false, false]) (listed' := #[true, true, true, true, true, false, false, false]) (by kernel_rfl) rfl (by kernel_rfl) (by kernel_rfl) ?_)
      | (refine XT_one (t := 5) (s := true) (listed := #[true, true, true, true, true, false, false, false]) (listed' := #[true, true, true, true, true, true, false, false]) (by kernel_rfl) rfl (by kernel_rfl) (by kernel_rfl) ?_)
      | (refine XT_one (t := 6) (s := true) (listed := #[true, true, true, true, true, true, false, false]) (listed' := #[true, true, true, true, true, true, true, false]) (by kernel_rfl) rfl (by kernel_rfl) (by kernel_rfl) ?_)
      | (refine XT_pure (t := 7) (listed := #[true, true, true, true, true, true, true, false]) (listed' := #[true, true, true, true, true, true, true, true]) (by kernel_rfl) rfl rfl rfl (by kernel_rfl) (by intro wq; ((with_reducible apply r_assign); ((conv => lhs; whnf) <;> exact rfl))) ?_)
      | (with_reducible apply XB_nil)
      | ((with_reducible apply XM_nil); intro wq he; have hsz := he.size)
      | ((with_reducible apply XT_nil); kernel_rfl)
      | (with_reducible apply x_sink)
      | ((with_reducible apply p_retcct); exact rfl; exact inferInstance; exact inferInstance; exact inferInstance; exact inferInstance; exact rfl; exact (by repeat (first | assumption | ((with_reducible apply OwnR.grownS); assumption; omega) | ((with_reducible apply Row.ex); assumption) | ((with_reducible apply OwnR.ex); assumption) | ((with_reducible apply Bx.grownS); assumption; (first | omega | exact Bx.ne (by assumption) (by omega))) | ((with_reducible apply Bx.below); assumption; omega) | ((with_reducible apply Own.grownS); assumption; omega) | ((with_reducible apply Bx.ex); assumption) | ((with_reducible apply IntsK.ex); assumption) | ((with_reducible apply Own.ex); assumption) | ((with_reducible apply Prs.ex); assumption))); exact rfl; exact rfl; exact (by repeat (first | assumption | ((with_reducible apply OwnR.grownS); assumption; omega) | ((with_reducible apply Row.ex); assumption) | ((with_reducible apply OwnR.ex); assumption) | ((with_reducible apply Bx.grownS); assumption; (first | omega | exact Bx.ne (by assumption) (by omega))) | ((with_reducible apply Bx.below); assumption; omega) | ((with_reducible apply Own.grownS); assumption; omega) | ((with_reducible apply Bx.ex); assumption) | ((with_reducible apply IntsK.ex); assumption) | ((with_reducible apply Own.ex); assumption) | ((with_reducible apply Prs.ex); assumption))); exact rfl; exact rfl; refine ⟨_, rfl, ?_, (by repeat (first | assumption | exact Ex.refl _ | (refine Ex.trans ?_ (by assumption)) | (refine Ex.of_grown ?_ (by assumption) (by intro k hk; cases hk; omega))))⟩)
      | (with_reducible apply W_nil)
      | ((with_reducible apply W_alloc); exact rfl; intro bq wq hbq he hnq; have hltq := Bx.lt hbq; have hsz := he.size)
      | ((with_reducible apply W_storeA); exact rfl; (focus ((repeat (first | assumption | ((with_reducible apply Bx.grownS); assumption; (first | omega | exact Bx.ne (by assumption) (by omega))) | ((with_reducible apply Bx.below); assumption; omega) | ((with_reducible apply Bx.ex); assumption))); done)); exact rfl; exact rfl; exact rfl; (repeat' (first | exact trivial | (first | exact rfl | assumption | exact IntsK.one (by assumption) | exact Prs.one (by assumption) | exact Own.one (by assumption) | exact Row.one (by assumption) | exact OwnR.one (by assumption)) | constructor)); intro wq hbq hgq; have he : Ex w wq := (by repeat (first | assumption | exact Ex.refl _ | (refine Ex.trans ?_ (by assumption)) | (refine Ex.of_grown ?_ (by assumption) (by intro k hk; cases hk; omega)))); have hsz := he.size; have hgz := hgq.size)
      | (with_reducible apply c_seq)
      | (with_reducible apply c_region)
      | (with_reducible apply c_skip)
      | (with_reducible apply c_ret)
      | ((with_reducible apply c_cond_dec); exact rfl; intro _; rotate_left 1; intro _)
      | (with_reducible apply n_then)
      | (with_reducible apply r_then))
  all_goals first
    | exact ⟨(0, 0), (0, 0), (0, 0), _, rfl, Or.inl ⟨by assumption, rfl, rfl, rfl, rfl⟩⟩
    | exact ⟨g, o, low f, 0, rfl, Or.inr ⟨Classical.not_not.mp (by assumption), rfl, f, hbf, rfl, hlr⟩⟩
    | skip
theorem Gains_any (v : Value) (l : List T3) (f : Int × Int) (w : World) (h : Row cC 3 w v l) : Ret Try.prog 17 [v, .agg #[.int .i64 f.1, .int .i64 f.2]] w fun r _ => ∃ x y e, r = .tuple #[v2 x, v2 y, .int .i64 e] ∧ gainsE l f x y e := by
  have hv1 := h.one
  refine ret_of_c Try.func17 rfl Try.ntmps17 (Nat.le_of_ble_eq_true rfl) (by dsimp only [ini, Nat.reduceAdd] <;> exact rfl) ?_
  repeat' (first
      | (((with_reducible apply c_cond_dec); exact rfl; (all_goals intro _); (all_goals (try (exfalso; (focus (omega; done)))))))
      | ((first | ((with_reducible apply W_op); exact rfl; exact rfl) | ((with_reducible apply WQ_op); exact rfl; exact rfl; intro wq he) | ((with_reducible apply WM_op); exact rfl; exact rfl; intro wq he) | ((with_reducible apply WB_op); exact rfl; exact rfl; intro wq)); (first | ((with_reducible apply r_move); ((conv => lhs; whnf) <;> exact rfl)) | ((with_reducible apply r_assign); ((conv => lhs; whnf) <;> exact rfl)) | ((with_reducible apply r_loadA); exact rfl; (first | assumption | exact Bx.cells (by repeat (first | assumption | ((with_reducible apply Bx.grownS); assumption; (first | omega | exact Bx.ne (by assumption) (by omega))) | ((with_reducible apply Bx.below); assumption; omega) | ((with_reducible apply Bx.ex); assumption))) | exact Cells.ex (by assumption) (by assumption)); exact rfl) | ((with_reducible apply r_eql); exact rfl; exact rfl) | ((with_reducible apply r_neq); exact rfl; exact rfl) | ((with_reducible apply r_not); exact rfl) | ((with_reducible apply r_notb); exact rfl) | ((with_reducible apply r_extract); exact rfl; exact rfl) | ((with_reducible apply r_build0); exact rfl) | ((with_reducible apply r_lenR); ((conv => lhs; whnf) <;> exact rfl); (focus ((repeat (first | assumption | ((with_reducible apply OwnR.grownS); assumption; omega) | ((with_reducible apply Row.ex); assumption) | ((with_reducible apply OwnR.ex); assumption) | ((with_reducible apply Bx.grownS); assumption; (first | omega | exact Bx.ne (by assumption) (by omega))) | ((with_reducible apply Bx.below); assumption; omega) | ((with_reducible apply Own.grownS); assumption; omega) | ((with_reducible apply Bx.ex); assumption) | ((with_reducible apply IntsK.ex); assumption) | ((with_reducible apply Own.ex); assumption) | ((with_reducible apply Prs.ex); assumption))); done)))))
      | (refine W_callv (Check_any v l _ (by repeat (first | assumption | ((with_reducible apply OwnR.grownS); assumption; omega) | ((with_reducible apply Row.ex); assumption) | ((with_reducible apply OwnR.ex); assumption) | ((with_reducible apply Bx.grownS); assumption; (first | omega | exact Bx.ne (by assumption) (by omega))) | ((with_reducible apply Bx.below); assumption; omega) | ((with_reducible apply Own.grownS); assumption; omega) | ((with_reducible apply Bx.ex); assumption) | ((with_reducible apply IntsK.ex); assumption) | ((with_reducible apply Own.ex); assumption) | ((with_reducible apply Prs.ex); assumption)))) rfl (fun wq he => ?_); have hsz := he.size)
      | (refine W_callv (isBound_any _ _ _) rfl (fun wq he => ?_); have hsz := he.size)
      | ((have hv := valid_of (l := l) (Classical.not_not.mp (by assumption))); (have hbo : bOk f := by unfold bOk; omega); (have hgb := bOk_gB hbo); refine W_call (gains_any v l f _ (by repeat (first | assumption | ((with_reducible apply OwnR.grownS); assumption; omega) | ((with_reducible apply Row.ex); assumption) | ((with_reducible apply OwnR.ex); assumption) | ((with_reducible apply Bx.grownS); assumption; (first | omega | exact Bx.ne (by assumption) (by omega))) | ((with_reducible apply Bx.below); assumption; omega) | ((with_reducible apply Own.grownS); assumption; omega) | ((with_reducible apply Bx.ex); assumption) | ((with_reducible apply IntsK.ex); assumption) | ((with_reducible apply Own.ex); assumption) | ((with_reducible apply Prs.ex); assumption))) hv hgb) rfl ?_; rintro vq wq ⟨a, b, ok, rfl, hgr⟩ he; have hsz := he.size)
      | ((cases ok))
      | ((have hgf := gainsR_gF hv hgb hgr); refine W_callv (lowest_any a _ hgf.1.1 hgf.1.2) rfl (fun wq he => ?_); have hsz := he.size)
      | ((have hgf := gainsR_gF hv hgb hgr); refine W_callv (lowest_any b _ hgf.2.1 hgf.2.2) rfl (fun wq he => ?_); have hsz := he.size)
      | (refine c_mixX (id := 11) [] [] 7 #[false, false, false, false, false, false, false] [false, false, false, false, false, false, false] [false, false, false, false, false, false, false] (by kernel_rfl) (by kernel_rfl) (by kernel_rfl) (by dsimp only [sel] <;> exact rfl) (by dsimp only [sel] <;> exact rfl) ?_)
      | (refine XT_two (t := 0) (t' := 2) (s := true) (s' := true) (listed := #[false, false, false, false, false, false, false]) (l1 := #[true, false, false, false, false, false, false]) (l1' := #[false, false, true, false, false, false, false]) (by kernel_rfl) rfl rfl (by kernel_rfl) (by kernel_rfl) (by kernel_rfl) (by kernel_rfl) ?_ ?_)
      | (refine XT_two (t := 1) (t' := 2) (s := true) (s' := true) (listed := #[true, false, false, false, false, false, false]) (l1 := #[true, true, false, false, false, false, false]) (l1' := #[true, false, true, false, false, false, false]) (by kernel_rfl) rfl rfl (by kernel_rfl) (by kernel_rfl) (by kernel_rfl) (by kernel_rfl) ?_ ?_)
      | (refine XT_one (t := 0) (s := true) (listed := #[false, false, true, false, false, false, false]) (listed' := #[true, false, true, false, false, false, false]) (by kernel_rfl) rfl (by kernel_rfl) (by kernel_rfl) ?_)
      | (refine XT_one (t := 2) (s := true) (listed := #[true, true, false, false, false, false, false]) (listed' := #[true, true, true, false, false, false, false]) (by kernel_rfl) rfl (by kernel_rfl) (by kernel_rfl) ?_)
      | (refine XT_one (t := 1) (s := true) (listed := #[true, false, true, false, false, false, false]) (listed' := #[true, true, true, false, false, false, false]) (by kernel_rfl) rfl (by kernel_rfl) (by kernel_rfl) ?_)
      | (refine XT_one (t := 3) (s := true) (listed := #[true, true, true, false, false, false, false]) (listed' := #[true, true, true, true, false, false, false]) (by kernel_rfl) rfl (by kernel_rfl) (by kernel_rfl) ?_)
      | (refine XT_one (t := 4) (s := true) (listed := #[true, true, true, true, false, false, false]) (listed' := #[true, true, true, true, true, false, false]) (by kernel_rfl) rfl (by kernel_rfl) (by kernel_rfl) ?_)
      | (refine XT_one (t := 5) (s := true) (listed := #[true, true, true, true, true, false, false]) (listed' := #[true, true, true, true, true, true, false]) (by kernel_rfl) rfl (by kernel_rfl) (by kernel_rfl) ?_)
      | (refine XT_pure (t := 6) (listed := #[true, true, true, true, true, true, false]) (listed' := #[true, true, true, true, true, true, true]) (by kernel_rfl) rfl rfl rfl (by kernel_rfl) (by intro wq; ((with_reducible apply r_assign); ((conv => lhs; whnf) <;> exact rfl))) ?_)
      | (with_reducible apply XB_nil)
      | ((with_reducible apply XM_nil); intro wq he; have hsz := he.size)
      | ((with_reducible apply XT_nil); kernel_rfl)
      | (with_reducible apply x_sink)
      | ((with_reducible apply p_retcct); exact rfl; exact inferInstance; exact inferInstance; exact inferInstance; exact inferInstance; exact rfl; exact (by repeat (first | assumption | ((with_reducible apply OwnR.grownS); assumption; omega) | ((with_reducible apply Row.ex); assumption) | ((with_reducible apply OwnR.ex); assumption) | ((with_reducible apply Bx.grownS); assumption; (first | omega | exact Bx.ne (by assumption) (by omega))) | ((with_reducible apply Bx.below); assumption; omega) | ((with_reducible apply Own.grownS); assumption; omega) | ((with_reducible apply Bx.ex); assumption) | ((with_reducible apply IntsK.ex); assumption) | ((with_reducible apply Own.ex); assumption) | ((with_reducible apply Prs.ex); assumption))); exact rfl; exact rfl; exact (by repeat (first | assumption | ((with_reducible apply OwnR.grownS); assumption; omega) | ((with_reducible apply Row.ex); assumption) | ((with_reducible apply OwnR.ex); assumption) | ((with_reducible apply Bx.grownS); assumption; (first | omega | exact Bx.ne (by assumption) (by omega))) | ((with_reducible apply Bx.below); assumption; omega) | ((with_reducible apply Own.grownS); assumption; omega) | ((with_reducible apply Bx.ex); assumption) | ((with_reducible apply IntsK.ex); assumption) | ((with_reducible apply Own.ex); assumption) | ((with_reducible apply Prs.ex); assumption))); exact rfl; exact rfl; refine ⟨_, rfl, ?_, (by repeat (first | assumption | exact Ex.refl _ | (refine Ex.trans ?_ (by assumption)) | (refine Ex.of_grown ?_ (by assumption) (by intro k hk; cases hk; omega))))⟩)
      | (with_reducible apply W_nil)
      | ((with_reducible apply W_box); exact rfl; exact rfl; intro bq wq hbq he hnq; have hltq := Bx.lt hbq; have hsz := he.size)
      | ((with_reducible apply W_alloc); exact rfl; intro bq wq hbq he hnq; have hltq := Bx.lt hbq; have hsz := he.size)
      | ((with_reducible apply W_storeA); exact rfl; (focus ((repeat (first | assumption | ((with_reducible apply Bx.grownS); assumption; (first | omega | exact Bx.ne (by assumption) (by omega))) | ((with_reducible apply Bx.below); assumption; omega) | ((with_reducible apply Bx.ex); assumption))); done)); exact rfl; exact rfl; exact rfl; (repeat' (first | exact trivial | (first | exact rfl | assumption | exact IntsK.one (by assumption) | exact Prs.one (by assumption) | exact Own.one (by assumption) | exact Row.one (by assumption) | exact OwnR.one (by assumption)) | constructor)); intro wq hbq hgq; have he : Ex w wq := (by repeat (first | assumption | exact Ex.refl _ | (refine Ex.trans ?_ (by assumption)) | (refine Ex.of_grown ?_ (by assumption) (by intro k hk; cases hk; omega)))); have hsz := he.size; have hgz := hgq.size)
      | (with_reducible apply c_seq)
      | (with_reducible apply c_region)
      | (with_reducible apply c_skip)
      | (with_reducible apply c_ret)
      | ((with_reducible apply c_cond_true); exact rfl)
      | ((with_reducible apply c_cond_false); exact rfl)
      | (with_reducible apply n_then)
      | (with_reducible apply r_then))
  all_goals first
    | exact ⟨(0, 0), (0, 0), _, rfl, Or.inl ⟨rfl, rfl, Or.inl ⟨by assumption, rfl⟩⟩⟩
    | exact ⟨(0, 0), (0, 0), _, rfl, Or.inl ⟨rfl, rfl, Or.inr (Or.inl ⟨Classical.not_not.mp (by assumption), by unfold bOk; assumption, rfl⟩)⟩⟩
    | exact ⟨(0, 0), (0, 0), _, rfl, Or.inl ⟨rfl, rfl, Or.inr (Or.inr (Or.inl ⟨Classical.not_not.mp (by assumption), by unfold bOk; omega, by omega, rfl⟩))⟩⟩
    | exact ⟨(0, 0), (0, 0), _, rfl, Or.inl ⟨rfl, rfl, Or.inr (Or.inr (Or.inr ⟨Classical.not_not.mp (by assumption), hbo, by omega, rfl, a, b, hgr⟩))⟩⟩
    | exact ⟨low a, low b, _, rfl, Or.inr ⟨Classical.not_not.mp (by assumption), hbo, by omega, rfl, a, b, hgr, rfl, rfl⟩⟩
    | skip
end Go.Proofs.Ytbmjigneekodnaa
