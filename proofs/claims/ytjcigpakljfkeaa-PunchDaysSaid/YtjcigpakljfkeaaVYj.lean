/-
  What this text proves: the two questions of the law on days are answered as stated, and the bridged slot that is returned holds. Conditions: the lengths are small.
-/
import Derived.Test.YtjcigpakljfkeaaVYi
import Derived.Test.YtjcigpakljfkeaaVg
set_option linter.unusedVariables false
set_option linter.unusedSimpArgs false
namespace Go.Pv
open Go.RowKit
theorem mul_days {n g : Int} (hn : 0 ≤ n ∧ n ≤ 1000) (hg : 900 ≤ g ∧ g ≤ 1100) : 0 ≤ n * g ∧ n * g ≤ 1000 * 1100 :=
  ⟨Int.mul_nonneg hn.1 (by omega), Int.mul_le_mul hn.2 hg.2 (by omega) (by omega)⟩
theorem days_few {gl gh lo na sh a2 B1 B2 n A to : Int} (h0 : barsErr gl gh lo na sh = 0) (hA : barsA gl gh lo na sh = (1, a2)) (hB : barsB gl gh lo na sh = (B1, B2)) (ha : 1 ≤ a2) (hb : (B1 = 0 ∧ B2 = 0) ∨ (1 ≤ B1 ∧ B1 ≤ B2)) (hs : slotOk (A, to)) (hn2 : to - A ≤ 1000) :
    (∃ L, bridgeErr gl gh lo na sh (A, to) = 0 ∧ bridgeL gl gh lo na sh (A, to) = L ∧ GoodL a2 B1 B2 A to L ∧ holdsErr gl gh lo na sh (A, to) L = 0 ∧ 0 < L.length ∧ L.length ≤ 200) ∨
    (bridgeErr gl gh lo na sh (A, to) = 20 ∧ bridgeL gl gh lo na sh (A, to) = []) := by
  have e0 : ¬ (barsErr gl gh lo na sh ≠ 0) := by simp [h0]
  have e1 : ¬ (¬ slotOk (A, to) ∨ 10000 < (A, to).2 - (A, to).1) := by simp only; simp [hs]; omega
  unfold bridgeErr bridgeL
  rw [if_neg e0, if_neg e0, if_neg e1, if_neg e1, hA, hB]
  simp only
  cases hf : fewK (1, a2) (B1, B2) (to - A) 200 0 with
  | some k =>
    obtain ⟨h1, h2, h3, h4⟩ := few_some _ _ _ hf
    have hk : k = 0 ∨ 1 ≤ B1 := by
      rcases hb with ⟨r1, r2⟩ | hb
      · exact .inl (h4 (by rw [r1, r2]))
      · exact .inr hb.1
    obtain ⟨g1, g2⟩ := lay_good (to := to) ha (show B1 ≤ B2 by omega) (show 0 ≤ B1 by omega) k A h1
    refine .inl ⟨layP to (altL (1, a2) (B1, B2) k) true A, rfl, rfl, g1, holds_ok h0 hA hB hs g1 (by omega) (by rcases hk with h | h; (· left; omega); exact .inr h), by omega, by omega⟩
  | none => exact .inr ⟨rfl, rfl⟩
end Go.Pv
namespace Go.Pv
open Go.RowKit
section
variable {P : Program} {l : St} {w : World} {od : Option Nat} {ty : TypeId} {pos : String} {af : Array Edge}
theorem r_neqT {x y : Operand} {T T2 : TypeId} {p : Prop} {_ : Decidable p} [Und P T .bool] (hx : ev l x = .bool true) (hy : ev l y = .bool (decide p)) : Runs P ⟨od, .binOp .neq T x y T2, ty, pos, af, none⟩ l w (.bool (decide (¬ p))) := by
  have := r_neqb (P := P) (l := l) (w := w) (od := od) (ty := ty) (pos := pos) (af := af) (T := T) (T2 := T2) hx hy
  have e : (true != decide p) = decide (¬ p) := by by_cases h : p <;> simp [h]
  rwa [e] at this
theorem r_neqF {x y : Operand} {T T2 : TypeId} {p : Prop} {_ : Decidable p} [Und P T .bool] (hx : ev l x = .bool false) (hy : ev l y = .bool (decide p)) : Runs P ⟨od, .binOp .neq T x y T2, ty, pos, af, none⟩ l w (.bool (decide p)) := by
  have := r_neqb (P := P) (l := l) (w := w) (od := od) (ty := ty) (pos := pos) (af := af) (T := T) (T2 := T2) hx hy
  have e : (false != decide p) = decide p := by by_cases h : p <;> simp [h]
  rwa [e] at this
end
end Go.Pv
namespace Go.Proofs.Ytjcigpakljfkeaa
open Go.Pv Go.RowKit
set_option maxHeartbeats 8000000
set_option maxRecDepth 20000
theorem dHole_any (n g gl gh lo na sh : Int) (b : Nat) (w : World) (hb : Bx w b [.int .i64 gl, .int .i64 gh, .int .i64 lo, .int .i64 na, .int .i64 sh] 57) (hn : n ≤ 1000) (hg : 900 ≤ g ∧ g ≤ 1100) (hl : 1 ≤ lo ∧ lo ≤ 12) : Ret Try.prog 43 [.int .i64 n, .int .i64 g, .pointer (some ⟨b, 0, none⟩)] w fun r _ => r = .bool (decide (1 ≤ n ∧ n * g ≤ 1000 * lo)) := by
  have hm : 1 ≤ n → (0 ≤ n * g ∧ n * g ≤ 1000 * 1100) := fun h => mul_days (by omega) hg
  refine ret_of_c Try.func43 rfl Try.ntmps43 (Nat.le_of_ble_eq_true rfl) (by dsimp only [ini, Nat.reduceAdd] <;> exact rfl) ?_
  repeat' (first
      | ((first | ((with_reducible apply W_op); exact rfl; exact rfl)); (first | ((with_reducible apply r_move); ((conv => lhs; whnf) <;> exact rfl)) | ((with_reducible apply r_assign); ((conv => lhs; whnf) <;> exact rfl)) | ((with_reducible apply r_fieldAddr); exact rfl) | ((with_reducible apply r_load); exact rfl; exact rfl; (first | assumption | exact (Bx.cell (by repeat (first | assumption | ((with_reducible apply Bx.grownS); assumption; (first | omega | exact Bx.ne (by assumption) (by omega))) | ((with_reducible apply Bx.below); assumption; omega) | ((with_reducible apply Bx.ex); assumption))) _).trans rfl | exact Ex.cell (by assumption) (by assumption))) | ((with_reducible apply r_loadF); exact rfl; (first | assumption | exact (Bx.cell (by repeat (first | assumption | ((with_reducible apply Bx.grownS); assumption; (first | omega | exact Bx.ne (by assumption) (by omega))) | ((with_reducible apply Bx.below); assumption; omega) | ((with_reducible apply Bx.ex); assumption))) _).trans rfl | exact Ex.cell (by assumption) (by assumption))) | ((with_reducible apply r_loadA); exact rfl; (first | assumption | exact Bx.cells (by repeat (first | assumption | ((with_reducible apply Bx.grownS); assumption; (first | omega | exact Bx.ne (by assumption) (by omega))) | ((with_reducible apply Bx.below); assumption; omega) | ((with_reducible apply Bx.ex); assumption))) | exact Cells.ex (by assumption) (by assumption)); exact rfl) | ((with_reducible apply r_leq); exact rfl; exact rfl) | ((with_reducible apply r_geq); exact rfl; exact rfl) | ((with_reducible apply r_pick_true); exact rfl; ((conv => lhs; whnf) <;> exact rfl)) | ((with_reducible apply r_pick_false); exact rfl; ((conv => lhs; whnf) <;> exact rfl)) | ((with_reducible apply r_mul); exact rfl; exact rfl; omega) | ((with_reducible apply r_loadSub); exact rfl; (focus ((repeat (first | assumption | ((with_reducible apply Bx.grownS); assumption; (first | omega | exact Bx.ne (by assumption) (by omega))) | ((with_reducible apply Bx.below); assumption; omega) | ((with_reducible apply Bx.ex); assumption))); done)); ((simp only [Nat.add_zero, Nat.zero_add, Nat.reduceAdd, List.drop_zero, List.drop_succ_cons, List.take_succ_cons, List.take_zero]) <;> exact rfl); exact rfl)))
      | (with_reducible apply W_nil)
      | ((with_reducible apply W_pass); exact rfl; exact rfl; exact rfl; exact rfl; exact rfl)
      | ((with_reducible apply W_take); exact rfl; exact rfl; exact rfl)
      | ((with_reducible apply W_passU); exact rfl; exact rfl; exact rfl; exact rfl)
      | ((with_reducible apply W_split); exact rfl; exact rfl; intro _; rotate_left 1; intro _)
      | (with_reducible apply c_seq)
      | ((with_reducible apply c_region); kernel_rfl)
      | (with_reducible apply n_nq)
      | (with_reducible apply c_skip)
      | (with_reducible apply c_ret)
      | (with_reducible apply n_then)
      | (with_reducible apply e_then)
      | (with_reducible apply r_then)
      | ((with_reducible apply p_ret1); exact rfl; exact rfl; ((conv => lhs; whnf) <;> exact rfl); refine ⟨_, rfl, ?_, (by repeat (first | assumption | exact Ex.refl _ | (refine Ex.trans ?_ (by assumption)) | (refine Ex.of_grown ?_ (by assumption) (by intro k hk; cases hk; omega))))⟩)
      | ((with_reducible apply m_ret1); (focus ((repeat (first | assumption | exact Al.nil _ _ | ((with_reducible apply Al.grownS); assumption; (focus ((repeat (first | assumption | ((with_reducible apply Bx.grownS); assumption; (first | omega | exact Bx.ne (by assumption) (by omega))) | ((with_reducible apply Bx.below); assumption; omega) | ((with_reducible apply Bx.ex); assumption))); done))) | (refine Al.ex (by assumption) ?_))); done)); exact rfl; ((conv => lhs; whnf) <;> exact rfl); refine ⟨_, rfl, ?_, (shut_grown _ _ (by repeat (first | assumption | exact Al.nil _ _ | ((with_reducible apply Al.grownS); assumption; (focus ((repeat (first | assumption | ((with_reducible apply Bx.grownS); assumption; (first | omega | exact Bx.ne (by assumption) (by omega))) | ((with_reducible apply Bx.below); assumption; omega) | ((with_reducible apply Bx.ex); assumption))); done))) | (refine Al.ex (by assumption) ?_))) (by repeat (first | assumption | exact Ex.refl _ | (refine Ex.trans ?_ (by assumption)) | (refine Ex.of_grown ?_ (by assumption) (by intro k hk; cases hk; omega)))) (Nat.le_refl _))⟩)
      | ((with_reducible apply p_retct); exact rfl; exact rfl; exact inferInstance; exact inferInstance; exact rfl; (focus ((repeat (first | assumption | ((with_reducible apply Bx.grownS); assumption; (first | omega | exact Bx.ne (by assumption) (by omega))) | ((with_reducible apply Bx.below); assumption; omega) | ((with_reducible apply Bx.ex); assumption))); done)); exact rfl; exact rfl; refine ⟨_, rfl, ?_, (by repeat (first | assumption | exact Ex.refl _ | (refine Ex.trans ?_ (by assumption)) | (refine Ex.of_grown ?_ (by assumption) (by intro k hk; cases hk; omega))))⟩)
      | ((exfalso; omega)))
  all_goals first
    | exact congrArg Value.bool (decide_eq_decide.2 (by omega))
    | (apply bool_ff; omega)
    | (apply bool_tt; omega)
    | trace_state
theorem dBridge_any (n g gl gh lo na sh : Int) (b : Nat) (w : World) (hb : Bx w b [.int .i64 gl, .int .i64 gh, .int .i64 lo, .int .i64 na, .int .i64 sh] 57) (hn : n ≤ 1000) (hg : 900 ≤ g ∧ g ≤ 1100) (hl : 1 ≤ na ∧ na ≤ 6) (hs : 1 ≤ sh ∧ sh ≤ 14) : Ret Try.prog 44 [.int .i64 n, .int .i64 g, .pointer (some ⟨b, 0, none⟩)] w fun r _ => r = .bool (decide (1 ≤ n ∧ 1000 * na ≤ n * g ∧ n * g < 1000 * sh)) := by
  have hm : 1 ≤ n → (0 ≤ n * g ∧ n * g ≤ 1000 * 1100) := fun h => mul_days (by omega) hg
  refine ret_of_c Try.func44 rfl Try.ntmps44 (Nat.le_of_ble_eq_true rfl) (by dsimp only [ini, Nat.reduceAdd] <;> exact rfl) ?_
  repeat' (first
      | ((first | ((with_reducible apply W_op); exact rfl; exact rfl)); (first | ((with_reducible apply r_move); ((conv => lhs; whnf) <;> exact rfl)) | ((with_reducible apply r_assign); ((conv => lhs; whnf) <;> exact rfl)) | ((with_reducible apply r_fieldAddr); exact rfl) | ((with_reducible apply r_load); exact rfl; exact rfl; (first | assumption | exact (Bx.cell (by repeat (first | assumption | ((with_reducible apply Bx.grownS); assumption; (first | omega | exact Bx.ne (by assumption) (by omega))) | ((with_reducible apply Bx.below); assumption; omega) | ((with_reducible apply Bx.ex); assumption))) _).trans rfl | exact Ex.cell (by assumption) (by assumption))) | ((with_reducible apply r_loadF); exact rfl; (first | assumption | exact (Bx.cell (by repeat (first | assumption | ((with_reducible apply Bx.grownS); assumption; (first | omega | exact Bx.ne (by assumption) (by omega))) | ((with_reducible apply Bx.below); assumption; omega) | ((with_reducible apply Bx.ex); assumption))) _).trans rfl | exact Ex.cell (by assumption) (by assumption))) | ((with_reducible apply r_loadA); exact rfl; (first | assumption | exact Bx.cells (by repeat (first | assumption | ((with_reducible apply Bx.grownS); assumption; (first | omega | exact Bx.ne (by assumption) (by omega))) | ((with_reducible apply Bx.below); assumption; omega) | ((with_reducible apply Bx.ex); assumption))) | exact Cells.ex (by assumption) (by assumption)); exact rfl) | ((with_reducible apply r_lss); exact rfl; exact rfl) | ((with_reducible apply r_geq); exact rfl; exact rfl) | ((with_reducible apply r_pick_true); exact rfl; ((conv => lhs; whnf) <;> exact rfl)) | ((with_reducible apply r_pick_false); exact rfl; ((conv => lhs; whnf) <;> exact rfl)) | ((with_reducible apply r_mul); exact rfl; exact rfl; omega) | ((with_reducible apply r_loadSub); exact rfl; (focus ((repeat (first | assumption | ((with_reducible apply Bx.grownS); assumption; (first | omega | exact Bx.ne (by assumption) (by omega))) | ((with_reducible apply Bx.below); assumption; omega) | ((with_reducible apply Bx.ex); assumption))); done)); ((simp only [Nat.add_zero, Nat.zero_add, Nat.reduceAdd, List.drop_zero, List.drop_succ_cons, List.take_succ_cons, List.take_zero]) <;> exact rfl); exact rfl)))
      | (with_reducible apply W_nil)
      | ((with_reducible apply W_pass); exact rfl; exact rfl; exact rfl; exact rfl; exact rfl)
      | ((with_reducible apply W_take); exact rfl; exact rfl; exact rfl)
      | ((with_reducible apply W_passU); exact rfl; exact rfl; exact rfl; exact rfl)
      | ((with_reducible apply W_split); exact rfl; exact rfl; intro _; rotate_left 1; intro _)
      | (with_reducible apply c_seq)
      | ((with_reducible apply c_region); kernel_rfl)
      | (with_reducible apply n_nq)
      | (with_reducible apply c_skip)
      | (with_reducible apply c_ret)
      | (with_reducible apply n_then)
      | (with_reducible apply e_then)
      | (with_reducible apply r_then)
      | ((with_reducible apply p_ret1); exact rfl; exact rfl; ((conv => lhs; whnf) <;> exact rfl); refine ⟨_, rfl, ?_, (by repeat (first | assumption | exact Ex.refl _ | (refine Ex.trans ?_ (by assumption)) | (refine Ex.of_grown ?_ (by assumption) (by intro k hk; cases hk; omega))))⟩)
      | ((with_reducible apply m_ret1); (focus ((repeat (first | assumption | exact Al.nil _ _ | ((with_reducible apply Al.grownS); assumption; (focus ((repeat (first | assumption | ((with_reducible apply Bx.grownS); assumption; (first | omega | exact Bx.ne (by assumption) (by omega))) | ((with_reducible apply Bx.below); assumption; omega) | ((with_reducible apply Bx.ex); assumption))); done))) | (refine Al.ex (by assumption) ?_))); done)); exact rfl; ((conv => lhs; whnf) <;> exact rfl); refine ⟨_, rfl, ?_, (shut_grown _ _ (by repeat (first | assumption | exact Al.nil _ _ | ((with_reducible apply Al.grownS); assumption; (focus ((repeat (first | assumption | ((with_reducible apply Bx.grownS); assumption; (first | omega | exact Bx.ne (by assumption) (by omega))) | ((with_reducible apply Bx.below); assumption; omega) | ((with_reducible apply Bx.ex); assumption))); done))) | (refine Al.ex (by assumption) ?_))) (by repeat (first | assumption | exact Ex.refl _ | (refine Ex.trans ?_ (by assumption)) | (refine Ex.of_grown ?_ (by assumption) (by intro k hk; cases hk; omega)))) (Nat.le_refl _))⟩)
      | ((with_reducible apply p_retct); exact rfl; exact rfl; exact inferInstance; exact inferInstance; exact rfl; (focus ((repeat (first | assumption | ((with_reducible apply Bx.grownS); assumption; (first | omega | exact Bx.ne (by assumption) (by omega))) | ((with_reducible apply Bx.below); assumption; omega) | ((with_reducible apply Bx.ex); assumption))); done)); exact rfl; exact rfl; refine ⟨_, rfl, ?_, (by repeat (first | assumption | exact Ex.refl _ | (refine Ex.trans ?_ (by assumption)) | (refine Ex.of_grown ?_ (by assumption) (by intro k hk; cases hk; omega))))⟩)
      | ((exfalso; omega)))
  all_goals first
    | exact congrArg Value.bool (decide_eq_decide.2 (by omega))
    | (apply bool_ff; omega)
    | (apply bool_tt; omega)
    | trace_state
end Go.Proofs.Ytjcigpakljfkeaa
