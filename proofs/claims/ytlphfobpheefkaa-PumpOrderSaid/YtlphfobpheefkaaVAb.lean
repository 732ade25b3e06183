/-
  (heavy) (rows) What this text proves: the first least one of some picks, the covers and packings of one more tick, and the best picks for each number of ticks are as the plain functions say. Conditions: the values read as lists.
-/
import Derived.Test.YtlphfobpheefkaaVAa
import Derived.Test.YtlphfobpheefkaaFam
import Derived.Test.YtlphfobpheefkaaVg
import Derived.Test.YtlphfobpheefkaaMml
set_option linter.unusedVariables false
set_option linter.unusedSimpArgs false
namespace Go.Pv
open Go.RowKit
theorem p3_len : ∀ x : Pk, (p3 x).length = 3 := fun _ => rfl
theorem Bx.asP3 {w : World} {b : Nat} {T : TypeId} {x : Pk} (h : Bx w b [.int .i64 x.1, .int .i64 x.2.1, .int .i64 x.2.2] T) : Bx w b (p3 x) T := h
theorem sgn_lt {a b : Int} (h : a < b) : sgn a b = -1 := by unfold sgn; rw [if_pos h]
theorem sgn_gt {a b : Int} (h1 : ¬ a < b) (h : b < a) : sgn a b = 1 := by unfold sgn; rw [if_neg h1, if_pos h]
theorem sgn_eq {a b : Int} (h1 : ¬ a < b) (h : ¬ b < a) : sgn a b = 0 := by unfold sgn; rw [if_neg h1, if_neg h]
end Go.Pv
namespace Go.Proofs.Ytlphfobpheefkaa
open Go.Pv Go.RowKit
set_option maxHeartbeats 8000000
set_option maxRecDepth 20000
theorem isNaN_any (a : Int) (w : World) : Ret Try.prog 99 [.int .i64 a] w fun r _ => r = .bool false := by
  refine ret_of_c Try.func99 rfl Try.ntmps99 (Nat.le_of_ble_eq_true rfl) (by dsimp only [ini, Nat.reduceAdd] <;> exact rfl) ?_
  repeat' (first
      | ((first | ((with_reducible apply W_op); exact rfl; exact rfl)); (first | ((with_reducible apply r_move); ((conv => lhs; whnf) <;> exact rfl)) | ((with_reducible apply r_assign); ((conv => lhs; whnf) <;> exact rfl)) | ((with_reducible apply r_neq); exact rfl; exact rfl)))
      | (with_reducible apply W_nil)
      | (with_reducible apply c_seq)
      | ((with_reducible apply c_region); kernel_rfl)
      | (with_reducible apply n_nq)
      | (with_reducible apply c_ret)
      | (with_reducible apply n_then)
      | ((with_reducible apply p_ret1); exact rfl; exact rfl; ((conv => lhs; whnf) <;> exact rfl); refine ⟨_, rfl, ?_, (by repeat (first | assumption | exact Ex.refl _ | (refine Ex.trans ?_ (by assumption)) | (refine Ex.of_grown ?_ (by assumption) (by intro k hk; cases hk; omega))))⟩))
  all_goals first | (simp; done) | trace_state
theorem compare_any (a b : Int) (w : World) : Ret Try.prog 87 [.int .i64 a, .int .i64 b] w fun r _ => r = .int .i64 (sgn a b) := by
  refine ret_of_c Try.func87 rfl Try.ntmps87 (Nat.le_of_ble_eq_true rfl) (by dsimp only [ini, Nat.reduceAdd] <;> exact rfl) ?_
  repeat' (first
      | ((first | ((with_reducible apply W_op); exact rfl; exact rfl)); (first | ((with_reducible apply r_move); ((conv => lhs; whnf) <;> exact rfl)) | ((with_reducible apply r_assign); ((conv => lhs; whnf) <;> exact rfl)) | ((with_reducible apply r_lss); exact rfl; exact rfl) | ((with_reducible apply r_gtr); exact rfl; exact rfl)))
      | (refine W_callv (isNaN_any a _) rfl (fun wq he => ?_); have hsz := he.size)
      | (refine W_callv (isNaN_any b _) rfl (fun wq he => ?_); have hsz := he.size)
      | (with_reducible apply W_nil)
      | (with_reducible apply c_seq)
      | ((with_reducible apply c_region); kernel_rfl)
      | (with_reducible apply n_nq)
      | (with_reducible apply c_skip)
      | (with_reducible apply c_ret)
      | ((with_reducible apply c_cond_false); exact rfl)
      | ((with_reducible apply c_cond_dec); exact rfl; intro _; rotate_left 1; intro _)
      | (with_reducible apply n_then)
      | (with_reducible apply r_then)
      | ((with_reducible apply p_ret1); exact rfl; exact rfl; ((conv => lhs; whnf) <;> exact rfl); refine ⟨_, rfl, ?_, (by repeat (first | assumption | exact Ex.refl _ | (refine Ex.trans ?_ (by assumption)) | (refine Ex.of_grown ?_ (by assumption) (by intro k hk; cases hk; omega))))⟩))
  all_goals first | (rw [sgn_lt (by omega)]; done) | (rw [sgn_gt (by omega) (by omega)]; done) | (rw [sgn_eq (by omega) (by omega)]; done) | trace_state
theorem lowFirst_any (x0 x1 x2 y0 y1 y2 : Int) (w : World) : Ret Try.prog 64 [.agg #[.int .i64 x0, .int .i64 x1, .int .i64 x2], .agg #[.int .i64 y0, .int .i64 y1, .int .i64 y2]] w fun r _ => r = .int .i64 (sgn x0 y0) := by
  refine ret_of_c Try.func64 rfl Try.ntmps64 (Nat.le_of_ble_eq_true rfl) (by dsimp only [ini, Nat.reduceAdd] <;> exact rfl) ?_
  repeat' (first
      | ((first | ((with_reducible apply W_op); exact rfl; exact rfl)); (first | ((with_reducible apply r_assign); ((conv => lhs; whnf) <;> exact rfl)) | ((with_reducible apply r_fieldAddr); exact rfl) | ((with_reducible apply r_load); exact rfl; exact rfl; (first | assumption | exact (Bx.cell (by repeat (first | assumption | ((with_reducible apply Bx.grownS); assumption; (first | omega | exact Bx.ne (by assumption) (by omega))) | ((with_reducible apply Bx.below); assumption; omega) | ((with_reducible apply Bx.ex); assumption))) _).trans rfl | exact Ex.cell (by assumption) (by assumption)))))
      | (refine W_callv (compare_any x0 y0 _) rfl (fun wq he => ?_); have hsz := he.size)
      | (with_reducible apply W_nil)
      | ((with_reducible apply W_box); exact rfl; exact rfl; intro bq wq hbq he hnq; have hltq := Bx.lt hbq; have hsz := he.size)
      | (with_reducible apply c_seq)
      | ((with_reducible apply c_region); kernel_rfl)
      | (with_reducible apply n_nq)
      | (with_reducible apply c_ret)
      | (with_reducible apply n_then)
      | ((with_reducible apply p_ret1); exact rfl; exact rfl; ((conv => lhs; whnf) <;> exact rfl); refine ⟨_, rfl, ?_, (by repeat (first | assumption | exact Ex.refl _ | (refine Ex.trans ?_ (by assumption)) | (refine Ex.of_grown ?_ (by assumption) (by intro k hk; cases hk; omega))))⟩))
  all_goals first | rfl | trace_state
theorem highFirst_any (x0 x1 x2 y0 y1 y2 : Int) (w : World) : Ret Try.prog 66 [.agg #[.int .i64 x0, .int .i64 x1, .int .i64 x2], .agg #[.int .i64 y0, .int .i64 y1, .int .i64 y2]] w fun r _ => r = .int .i64 (sgn y0 x0) := by
  refine ret_of_c Try.func66 rfl Try.ntmps66 (Nat.le_of_ble_eq_true rfl) (by dsimp only [ini, Nat.reduceAdd] <;> exact rfl) ?_
  repeat' (first
      | ((first | ((with_reducible apply W_op); exact rfl; exact rfl)); (first | ((with_reducible apply r_assign); ((conv => lhs; whnf) <;> exact rfl)) | ((with_reducible apply r_fieldAddr); exact rfl) | ((with_reducible apply r_load); exact rfl; exact rfl; (first | assumption | exact (Bx.cell (by repeat (first | assumption | ((with_reducible apply Bx.grownS); assumption; (first | omega | exact Bx.ne (by assumption) (by omega))) | ((with_reducible apply Bx.below); assumption; omega) | ((with_reducible apply Bx.ex); assumption))) _).trans rfl | exact Ex.cell (by assumption) (by assumption)))))
      | (refine W_callv (compare_any y0 x0 _) rfl (fun wq he => ?_); have hsz := he.size)
      | (with_reducible apply W_nil)
      | ((with_reducible apply W_box); exact rfl; exact rfl; intro bq wq hbq he hnq; have hltq := Bx.lt hbq; have hsz := he.size)
      | (with_reducible apply c_seq)
      | ((with_reducible apply c_region); kernel_rfl)
      | (with_reducible apply n_nq)
      | (with_reducible apply c_ret)
      | (with_reducible apply n_then)
      | ((with_reducible apply p_ret1); exact rfl; exact rfl; ((conv => lhs; whnf) <;> exact rfl); refine ⟨_, rfl, ?_, (by repeat (first | assumption | exact Ex.refl _ | (refine Ex.trans ?_ (by assumption)) | (refine Ex.of_grown ?_ (by assumption) (by intro k hk; cases hk; omega))))⟩))
  all_goals first | rfl | trace_state
theorem minFunc_any {f : FuncId} [Fun Try.prog f] (c : Pk → Pk → Int) (hc : ∀ (x y : Pk) (w2 : World), Ret Try.prog f [vk x, vk y] w2 fun r _ => r = .int .i64 (c x y)) (v : Value) (xs : List Pk) (w : World) (h : Row p3 3 w v xs) (hne : 0 < xs.length) (hl : xs.length ≤ 1000) :
    Ret Try.prog 86 [v, .func (.func f) #[] #[]] w fun r _ => r = vk (minOf c xs) := by
  have hv1 := h.one
  have tkA : True := trivial
  refine ret_of_c Try.func86 rfl Try.ntmps86 (Nat.le_of_ble_eq_true rfl) (by dsimp only [ini, Nat.reduceAdd] <;> exact rfl) ?_
  repeat' (first
      | ((with_reducible apply W_op); exact rfl; exact rfl; exact r_lenR rfl (Row.ex (show Ex w _ from (by repeat (first | exact Ex.refl _ | assumption | (refine Ex.of_grown ?_ (by assumption) (by intro k hk; cases hk; omega)) | (refine Ex.trans ?_ (by assumption))))) h))
      | ((with_reducible apply c_cond_dec); exact rfl; intro hsy; rotate_left 1; intro hsx; (all_goals (try (exfalso; (focus (first | exact hsx hlt | exact hnl hsy | omega; done))))))
      | (refine W_indexRw (f := p3) (n := 3) (v := v) (xs := xs) (i := 0) pk0 p3_len (by decide) rfl (Row.ex (show Ex w _ from (by repeat (first | exact Ex.refl _ | assumption | (refine Ex.of_grown ?_ (by assumption) (by intro k hk; cases hk; omega)) | (refine Ex.trans ?_ (by assumption))))) h) rfl (by omega) ?_; intro pb po hpc)
      | ((with_reducible apply W_op); exact rfl; exact rfl; exact r_loadA rfl hpc rfl)
      | (clear tkA; (with_reducible apply W_alloc); exact rfl; intro b4 wq hbq he hnq; have hltq := Bx.lt hbq; have hsz := he.size; have hb4 := hbq; have tkB : True := trivial)
      | (clear tkB; (with_reducible apply W_alloc); exact rfl; intro b5 wq hbq he hnq; have hltq := Bx.lt hbq; have hsz := he.size; have tkC : True := trivial)
      | (clear tkC; have tkD : True := trivial; clear tkD; refine c_loopG (fun (k : Nat) ps wr => ∃ i : Int, ps = [(0, v), (1, .func (.func f) #[] #[]), (4, .pointer (some ⟨b4, 0, none⟩)), (5, .pointer (some ⟨b5, 0, none⟩)), (6, .int .i64 i)] ∧ i = (k : Int) + 1 ∧ k + 1 ≤ xs.length ∧ Bx wr b4 [.int .i64 0, .int .i64 0, .int .i64 0] 80 ∧ Bx wr b5 (p3 (minTo c xs k)) 80 ∧ Ex w wr) (fun k => xs.length - k) 0 _ ⟨_, rfl, rfl, by omega, (by repeat (first | assumption | ((with_reducible apply Bx.grownS); assumption; (first | omega | exact Bx.ne (by assumption) (by omega))) | ((with_reducible apply Bx.below); assumption; omega) | ((with_reducible apply Bx.ex); assumption))), (by repeat (first | assumption | ((with_reducible apply Bx.grownS); assumption; (first | omega | exact Bx.ne (by assumption) (by omega))) | ((with_reducible apply Bx.below); assumption; omega) | ((with_reducible apply Bx.ex); assumption))), (by repeat (first | assumption | exact Ex.refl _ | (refine Ex.trans ?_ (by assumption)) | (refine Ex.of_grown ?_ (by assumption) (by intro k hk; cases hk; omega))))⟩ ⟨rfl, rfl, rfl, rfl, rfl, trivial⟩ (by ((conv => lhs; whnf) <;> exact rfl)) (by ((conv => lhs; whnf) <;> exact rfl)) ?_; rintro J hJ k u ps wr ⟨i, rfl, rfl, hk, hb4, hb5, he⟩; have hsz := he.size; have tkE : True := trivial)
      | (clear tkE; have hlt5 := Bx.lt hb5; (by_cases hki : k + 1 < xs.length; by_cases hlt : c (xs.getD (k + 1) pk0) (minTo c xs k) < 0; rotate_left 1; have hnl := hlt); all_goals (have tkF : True := trivial))
      | (have _ := tkF; refine WQ_indexRw (f := p3) (n := 3) (v := v) (xs := xs) (i := k + 1) pk0 p3_len (by decide) rfl (Row.ex (show Ex w _ from (by repeat (first | exact Ex.refl _ | assumption | (refine Ex.of_grown ?_ (by assumption) (by intro k hk; cases hk; omega)) | (refine Ex.trans ?_ (by assumption))))) h) rfl (by omega) ?_; intro pb po hpc)
      | (have _ := tkF; (with_reducible apply WQ_op); exact rfl; exact rfl; (intro wq he; exact r_loadA rfl (Cells.ex he hpc) rfl))
      | (have _ := tkF; (with_reducible apply WQ_op); exact rfl; exact rfl; (intro wq he; exact r_loadA rfl (Bx.cells (Bx.ex he hb5)) rfl))
      | (have _ := tkF; refine WQ_callfv (f := f) (first := []) (captured := []) (vs := [vk (xs.getD (k + 1) pk0), vk (minTo c xs k)]) (u := .int .i64 (c (xs.getD (k + 1) pk0) (minTo c xs k))) rfl (fun wq he => hc _ _ wq) rfl ?_)
      | (have _ := tkF; refine W_indexRw (f := p3) (n := 3) (v := v) (xs := xs) (i := k + 1) pk0 p3_len (by decide) rfl (Row.ex (show Ex w _ from (by repeat (first | exact Ex.refl _ | assumption | (refine Ex.of_grown ?_ (by assumption) (by intro k hk; cases hk; omega)) | (refine Ex.trans ?_ (by assumption))))) h) rfl (by omega) ?_; intro pb po hpc)
      | ((first | ((with_reducible apply W_op); exact rfl; exact rfl) | ((with_reducible apply WQ_op); exact rfl; exact rfl; intro wq he) | ((with_reducible apply WM_op); exact rfl; exact rfl; intro wq he) | ((with_reducible apply WB_op); exact rfl; exact rfl; intro wq)); (first | ((with_reducible apply r_move); ((conv => lhs; whnf) <;> exact rfl)) | ((with_reducible apply r_assign); ((conv => lhs; whnf) <;> exact rfl)) | ((with_reducible apply r_loadA); exact rfl; (first | assumption | exact Bx.cells (by repeat (first | assumption | ((with_reducible apply Bx.grownS); assumption; (first | omega | exact Bx.ne (by assumption) (by omega))) | ((with_reducible apply Bx.below); assumption; omega) | ((with_reducible apply Bx.ex); assumption))) | exact Cells.ex (by assumption) (by assumption)); exact rfl) | ((with_reducible apply r_lss); exact rfl; exact rfl) | ((with_reducible apply r_add); exact rfl; exact rfl; omega)))
      | ((with_reducible (show Exit.then _ _ _ _ _)); refine n_roundG (k + 1) (hJ _ _ _ _ ⟨_, rfl, by omega, by omega, (by repeat (first | assumption | ((with_reducible apply Bx.grownS); assumption; (first | omega | exact Bx.ne (by assumption) (by omega))) | ((with_reducible apply Bx.below); assumption; omega) | ((with_reducible apply Bx.ex); assumption))), (by rw [minTo_yes hlt]; exact (by repeat (first | assumption | ((with_reducible apply Bx.grownS); assumption; (first | omega | exact Bx.ne (by assumption) (by omega))) | ((with_reducible apply Bx.below); assumption; omega) | ((with_reducible apply Bx.ex); assumption)))), (by repeat (first | assumption | exact Ex.refl _ | (refine Ex.trans ?_ (by assumption)) | (refine Ex.of_grown ?_ (by assumption) (by intro k hk; cases hk; omega))))⟩ ⟨rfl, rfl, rfl, rfl, rfl, trivial⟩ rfl) (by omega))
      | ((with_reducible (show Exit.then _ _ _ _ _)); refine n_roundG (k + 1) (hJ _ _ _ _ ⟨_, rfl, by omega, by omega, (by repeat (first | assumption | ((with_reducible apply Bx.grownS); assumption; (first | omega | exact Bx.ne (by assumption) (by omega))) | ((with_reducible apply Bx.below); assumption; omega) | ((with_reducible apply Bx.ex); assumption))), (by rw [minTo_no hnl]; exact (by repeat (first | assumption | ((with_reducible apply Bx.grownS); assumption; (first | omega | exact Bx.ne (by assumption) (by omega))) | ((with_reducible apply Bx.below); assumption; omega) | ((with_reducible apply Bx.ex); assumption)))), (by repeat (first | assumption | exact Ex.refl _ | (refine Ex.trans ?_ (by assumption)) | (refine Ex.of_grown ?_ (by assumption) (by intro k hk; cases hk; omega))))⟩ ⟨rfl, rfl, rfl, rfl, rfl, trivial⟩ rfl) (by omega))
      | (with_reducible apply W_nil)
      | ((with_reducible apply WQ_nil); exact rfl; intro wq he; have hsz := he.size)
      | ((with_reducible apply W_storeA); exact rfl; (focus ((repeat (first | assumption | ((with_reducible apply Bx.grownS); assumption; (first | omega | exact Bx.ne (by assumption) (by omega))) | ((with_reducible apply Bx.below); assumption; omega) | ((with_reducible apply Bx.ex); assumption))); done)); exact rfl; exact rfl; exact rfl; (repeat' (first | exact trivial | (first | exact rfl | assumption | exact IntsK.one (by assumption) | exact Prs.one (by assumption) | exact OwnP.one (by assumption) | exact Own.one (by assumption) | exact Row.one (by assumption) | exact OwnR.one (by assumption)) | constructor)); intro wq hbq hgq; have he : Ex w wq := (by repeat (first | assumption | exact Ex.refl _ | (refine Ex.trans ?_ (by assumption)) | (refine Ex.of_grown ?_ (by assumption) (by intro k hk; cases hk; omega)))); have hsz := he.size; have hgz := hgq.size)
      | ((with_reducible apply c_quiet); kernel_rfl)
      | (with_reducible apply c_seq)
      | ((with_reducible apply c_region); kernel_rfl)
      | (with_reducible apply n_nq)
      | (with_reducible apply c_block)
      | (with_reducible apply c_skip)
      | (with_reducible apply c_ret)
      | (with_reducible apply c_exit)
      | (with_reducible apply n_then)
      | (with_reducible apply n_block)
      | (with_reducible apply e_then)
      | (with_reducible apply e_block)
      | ((with_reducible apply p_retc); exact rfl; exact rfl; exact inferInstance; exact inferInstance; exact rfl; (focus ((repeat (first | assumption | ((with_reducible apply Bx.grownS); assumption; (first | omega | exact Bx.ne (by assumption) (by omega))) | ((with_reducible apply Bx.below); assumption; omega) | ((with_reducible apply Bx.ex); assumption))); done)); exact rfl; refine ⟨_, rfl, ?_, (by repeat (first | assumption | exact Ex.refl _ | (refine Ex.trans ?_ (by assumption)) | (refine Ex.of_grown ?_ (by assumption) (by intro k hk; cases hk; omega))))⟩))
  all_goals first
    | (rw [show k = xs.length - 1 by omega]; rfl)
    | (unfold minOf; rw [show xs.length - 1 = k by omega]; done)
    | trace_state
end Go.Proofs.Ytlphfobpheefkaa
