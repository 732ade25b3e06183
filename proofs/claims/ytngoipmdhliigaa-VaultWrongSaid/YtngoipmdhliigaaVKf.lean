/-
  (heavy) What this text proves: what is asked of a curve through its interface: its value, whether a share lies on it. Conditions: as stated.
-/
import Derived.Test.YtngoipmdhliigaaVKe
set_option linter.unusedVariables false
set_option linter.unusedSimpArgs false
namespace Go.Pv
open Go.RowKit Go.Instr
/-- An interface value whose method at gives F. -/
def CurveOf (P : Program) (w0 : World) (c : Value) (F : Int → Int) : Prop := ∃ T v f, c = .iface T v ∧ (∀ args w, (callMethod (.iface T v) "pianola/vault.at" args).run P w = .ok (.enter f (#[v] ++ args)) w) ∧
  (∀ w, (nilAhead (P.types.size + Made.depth) T v "pianola/vault.at").run P w = .ok (some false) w) ∧ ∀ x w2, nb x → Ex w0 w2 → Ret P f [v, .int .i64 x] w2 fun r _ => r = .int .i64 (F x)
section
variable {P : Program} {Q : Exit → Act → World → Prop} {ol rest : List Oper} {l : St} {w w0 : World} {od : Option Nat} {T : TypeId} {pos : String} {af : Array Edge} {R : Act → Prop}
theorem CurveOf.one {c : Value} {F : Int → Int} (h : CurveOf P w0 c F) : c.oneCell' = true := by obtain ⟨T, v, f, rfl, _⟩ := h; rfl
theorem CurveOf.ex {c : Value} {F : Int → Int} {w1 : World} (h : CurveOf P w0 c F) (e : Ex w0 w1) : CurveOf P w1 c F := by
  obtain ⟨T, v, f, h1, h2, h3, h4⟩ := h
  exact ⟨T, v, f, h1, h2, h3, fun x w2 hx e2 => h4 x w2 hx (e.trans e2)⟩
theorem run_invoke {c : Value} {F : Int → Int} {r x : Operand} {n : Int} {tys : Array TypeId} (h : CurveOf P w0 c F) (hr : ev l r = c) (hx : ev l x = .int .i64 n) : ∃ f v, (∀ w, (execOp (ev l) ⟨od, .call { callee := .invoke r "pianola/vault.at", args := #[x], argTypes := tys }, T, pos, af, none⟩).run P w = .ok (.enter f #[v, .int .i64 n]) w) ∧ ∀ w2, nb n → Ex w0 w2 → Ret P f [v, .int .i64 n] w2 fun r _ => r = .int .i64 (F n) := by
  obtain ⟨T, v, f, rfl, h2, h3, h4⟩ := h
  refine ⟨f, v, fun w => ?_, fun w2 hn e => h4 n w2 hn e⟩
  have := h2 #[.int .i64 n] w
  simp [execOp, resolve, invoke, hr, hx]
  simpa using this
theorem W_invoke {d : Nat} {r x : Operand} {c : Value} {n : Int} {F : Int → Int} {tys : Array TypeId} (h : CurveOf P w0 c F) (hr : ev l r = c) (hx : ev l x = .int .i64 n) (hn : nb n) (he : Ex w0 w)
    (k : ∀ w', Ex w w' → W P ol Q rest (upd l d (.int .i64 (F n))) w') :
    W P ol Q (⟨some d, .call { callee := .invoke r "pianola/vault.at", args := #[x], argTypes := tys }, T, pos, af, none⟩ :: rest) l w := by
  obtain ⟨f, v, h1, h2⟩ := run_invoke (od := some d) (T := T) (pos := pos) (af := af) (tys := tys) h hr hx
  unfold W at k ⊢
  refine wpList_plain rfl fun K hK => ?_
  simp only [Oper.wp, eval_act, h1 w, Oper.upon_enter]
  have hR := h2 w hn he
  unfold Ret at hR
  refine Calls.mono hR ?_
  rintro e w' ⟨u, rfl, rfl, h5⟩
  show K ((act l).put (some d) (.int .i64 (F n))) w'
  rw [put_act]
  exact hK _ _ (k w' h5)
theorem WM_invoke {d : Nat} {r x : Operand} {c : Value} {n : Int} {F : Int → Int} {tys : Array TypeId} (h : CurveOf P w0 c F) (hr : ev l r = c) (hx : ev l x = .int .i64 n) (hn : nb n) (he : Ex w0 w)
    (k : WM P w ol R rest (upd l d (.int .i64 (F n)))) : WM P w ol R (⟨some d, .call { callee := .invoke r "pianola/vault.at", args := #[x], argTypes := tys }, T, pos, af, none⟩ :: rest) l := by
  obtain ⟨f, v, h1, h2⟩ := run_invoke (od := some d) (T := T) (pos := pos) (af := af) (tys := tys) h hr hx
  unfold WM wpM
  rw [if_pos (show Region.wanted _ _ = true from rfl)]
  refine ⟨.int .i64 (F n), fun w' hw' => ?_, ?_⟩
  · rw [eval_act, h1 w']
    have hR := h2 w' hn (he.trans hw')
    unfold Ret at hR
    refine ⟨rfl, Calls.mono hR ?_⟩
    rintro e w2 ⟨u, rfl, rfl, h3⟩
    exact ⟨rfl, h3⟩
  · unfold WM at k
    show wpM P ol.toArray w R rest ((act l).put (some d) (.int .i64 (F n)))
    rw [put_act]; exact k
theorem r_mkIface {x : Operand} {T2 e : TypeId} {v : Value} [h : Und P T2 (.slice e)] (hx : ev l x = v) : Runs P ⟨od, .makeInterface T2 x, T, pos, af, none⟩ l w (.iface T2 v) := by
  simp [Runs, execOp, hx, Instr.makeInterface, h.run]
theorem r_mkMeth {x : Operand} {name : String} {v : Value} (hx : ev l x = v) : Runs P ⟨od, .makeFunc (Fn.method name) #[x] #[], T, pos, af, none⟩ l w (.func (.method name) #[v] #[]) := by
  simp [Runs, execOp, hx, Instr.makeFunc]
theorem r_nilMeth {x : Operand} {c : Value} {F : Int → Int} (hc : CurveOf P w0 c F) (hx : ev l x = .func (.method "pianola/vault.at") #[c] #[]) : Runs P ⟨od, .nilCheck x, T, pos, af, none⟩ l w (.func (.method "pianola/vault.at") #[c] #[]) := by
  obtain ⟨T, v, f, rfl, h2, h3, h4⟩ := hc
  simp [Runs, execOp, hx, h3]
end
end Go.Pv
namespace Go.Proofs.Ytngoipmdhliigaa
open Go.Pv Go.RowKit
set_option maxHeartbeats 8000000
set_option maxRecDepth 20000
theorem curve_poly {w0 : World} {v : Value} {xs : List Int} (h : Ints w0 v xs) (hx : nbL xs) : CurveOf Try.prog w0 (.iface 78 v) (atP xs) :=
  ⟨_, v, 48, rfl, fun args w => by kernel_rfl, fun w => by kernel_rfl, fun x w2 hn e => at_any v xs x w2 (IntsK.ex e h) hx hn⟩
theorem curve_through {w0 : World} {v : Value} {sh : List (Int × Int)} (h : Prs w0 v sh) (hs : okS sh) : CurveOf Try.prog w0 (.iface 89 v) (lgA (kS sh) (vS sh)) :=
  ⟨_, v, 130, rfl, fun args w => by kernel_rfl, fun w => by kernel_rfl, fun x w2 hn e => tat_any v sh x w2 (Prs.ex e h) hs hn⟩
theorem liesOn_any (c : Value) (F : Int → Int) (k v : Int) (w : World) (hc : CurveOf Try.prog w c F) (hk : nb k) : Ret Try.prog 90 [.agg #[.int .i64 k, .int .i64 v], c] w fun r _ => r = .bool (decide (F k = v)) := by
  have hc1 := hc.one
  refine ret_of_c Try.func90 rfl Try.ntmps90 (Nat.le_of_ble_eq_true rfl) (by dsimp only [ini, Nat.reduceAdd] <;> exact rfl) ?_
  repeat' (first
      | (refine c_mix (id := 1) [] [0, 1, 2, 3, 4, 5, 6, 7, 8, 9] [10] [false, false, false, false, false, false, false, false, false, false, false] [true, true, true, true, true, true, true, true, true, true, false] [none, none, none, none, none, none, none, none, none, none, some true] (by kernel_rfl) (by kernel_rfl) (by kernel_rfl) (by kernel_rfl) (by kernel_rfl) (by kernel_rfl) (by dsimp only [sel] <;> exact rfl) (by dsimp only [sel] <;> exact rfl) (by dsimp only [selT] <;> exact rfl) ?_)
      | ((first | ((with_reducible apply W_op); exact rfl; exact rfl) | ((with_reducible apply WQ_op); exact rfl; exact rfl; intro wq he) | ((with_reducible apply WM_op); exact rfl; exact rfl; intro wq he) | ((with_reducible apply WB_op); exact rfl; exact rfl; intro wq)); (first | ((with_reducible apply r_move); ((conv => lhs; whnf) <;> exact rfl)) | ((with_reducible apply r_assign); ((conv => lhs; whnf) <;> exact rfl)) | ((with_reducible apply r_loadA); exact rfl; (first | assumption | exact Bx.cells (by repeat (first | assumption | ((with_reducible apply Bx.grownS); assumption; (first | omega | exact Bx.ne (by assumption) (by omega))) | ((with_reducible apply Bx.below); assumption; omega) | ((with_reducible apply Bx.ex); assumption))) | exact Cells.ex (by assumption) (by assumption)); exact rfl) | ((with_reducible apply r_eql); exact rfl; exact rfl) | ((with_reducible apply r_mf1); ((conv => lhs; whnf) <;> exact rfl))))
      | (refine WM_callv (fun wq he => place_any k v _) rfl ?_)
      | (refine WM_callv (fun wq he => value_any k v _) rfl ?_)
      | ((with_reducible apply WM_op); exact rfl; exact rfl; (intro wq he; exact r_nilMeth hc rfl))
      | (refine WM_invoke hc rfl rfl hk (by repeat (first | assumption | exact Ex.refl _ | (refine Ex.trans ?_ (by assumption)) | (refine Ex.of_grown ?_ (by assumption) (by intro k hk; cases hk; omega)))) ?_)
      | (with_reducible apply W_nil)
      | (with_reducible apply WM_nil; intro wq he; have hsz := he.size)
      | (with_reducible apply WB_nil)
      | (with_reducible apply WT_nil)
      | (with_reducible apply WT_cons)
      | (with_reducible apply t_sink)
      | ((with_reducible apply W_box); exact rfl; exact rfl; intro bq wq hbq he hnq; have hltq := Bx.lt hbq; have hsz := he.size)
      | (with_reducible apply c_seq)
      | ((with_reducible apply c_region); kernel_rfl)
      | (with_reducible apply n_nq)
      | (with_reducible apply c_ret)
      | (with_reducible apply n_then)
      | ((with_reducible apply p_ret1); exact rfl; exact rfl; ((conv => lhs; whnf) <;> exact rfl); refine ⟨_, rfl, ?_, (by repeat (first | assumption | exact Ex.refl _ | (refine Ex.trans ?_ (by assumption)) | (refine Ex.of_grown ?_ (by assumption) (by intro k hk; cases hk; omega))))⟩))
  all_goals first | rfl | trace_state
theorem secretOf_any (c : Value) (F : Int → Int) (w : World) (hc : CurveOf Try.prog w c F) : Ret Try.prog 64 [c] w fun r _ => r = .int .i64 (F 0) := by
  have hc1 := hc.one
  have h0 : nb 0 := by unfold nb; decide
  refine ret_of_c Try.func64 rfl Try.ntmps64 (Nat.le_of_ble_eq_true rfl) (by dsimp only [ini, Nat.reduceAdd] <;> exact rfl) ?_
  repeat' (first
      | ((first | ((with_reducible apply W_op); exact rfl; exact rfl)); (first | ((with_reducible apply r_move); ((conv => lhs; whnf) <;> exact rfl)) | ((with_reducible apply r_assign); ((conv => lhs; whnf) <;> exact rfl))))
      | (refine W_invoke hc rfl rfl h0 (by repeat (first | assumption | exact Ex.refl _ | (refine Ex.trans ?_ (by assumption)) | (refine Ex.of_grown ?_ (by assumption) (by intro k hk; cases hk; omega)))) ?_; intro wq he; have hsz := he.size)
      | (with_reducible apply W_nil)
      | (with_reducible apply c_seq)
      | ((with_reducible apply c_region); kernel_rfl)
      | (with_reducible apply n_nq)
      | (with_reducible apply c_ret)
      | (with_reducible apply n_then)
      | ((with_reducible apply p_ret1); exact rfl; exact rfl; ((conv => lhs; whnf) <;> exact rfl); refine ⟨_, rfl, ?_, (by repeat (first | assumption | exact Ex.refl _ | (refine Ex.trans ?_ (by assumption)) | (refine Ex.of_grown ?_ (by assumption) (by intro k hk; cases hk; omega))))⟩))
  all_goals first | rfl | trace_state
theorem shareOf_any (k v : Int) (w : World) : Ret Try.prog 75 [.int .i64 k, .int .i64 v] w fun r _ => r = .agg #[.int .i64 k, .int .i64 v] := by
  refine ret_of_c Try.func75 rfl Try.ntmps75 (Nat.le_of_ble_eq_true rfl) (by dsimp only [ini, Nat.reduceAdd] <;> exact rfl) ?_
  repeat' (first
      | ((first | ((with_reducible apply W_op); exact rfl; exact rfl)); (first | ((with_reducible apply r_move); ((conv => lhs; whnf) <;> exact rfl)) | ((with_reducible apply r_build2); ((conv => lhs; whnf) <;> exact rfl); ((conv => lhs; whnf) <;> exact rfl); (first | exact rfl | assumption | exact IntsK.one (by assumption) | exact Prs.one (by assumption) | exact OwnP.one (by assumption) | exact Own.one (by assumption)); (first | exact rfl | assumption | exact IntsK.one (by assumption) | exact Prs.one (by assumption) | exact OwnP.one (by assumption) | exact Own.one (by assumption)); exact rfl; exact rfl; ((simp only [lay, lset, List.replicate_succ, List.replicate_zero]) <;> exact rfl))))
      | (with_reducible apply W_nil)
      | ((with_reducible apply W_alloc); exact rfl; intro bq wq hbq he hnq; have hltq := Bx.lt hbq; have hsz := he.size)
      | ((with_reducible apply W_storeA); exact rfl; (focus ((repeat (first | assumption | ((with_reducible apply Bx.grownS); assumption; (first | omega | exact Bx.ne (by assumption) (by omega))) | ((with_reducible apply Bx.below); assumption; omega) | ((with_reducible apply Bx.ex); assumption))); done)); exact rfl; exact rfl; exact rfl; (repeat' (first | exact trivial | (first | exact rfl | assumption | exact IntsK.one (by assumption) | exact Prs.one (by assumption) | exact OwnP.one (by assumption) | exact Own.one (by assumption)) | constructor)); intro wq hbq hgq; have he : Ex w wq := (by repeat (first | assumption | exact Ex.refl _ | (refine Ex.trans ?_ (by assumption)) | (refine Ex.of_grown ?_ (by assumption) (by intro k hk; cases hk; omega)))); have hsz := he.size; have hgz := hgq.size)
      | (with_reducible apply c_seq)
      | ((with_reducible apply c_region); kernel_rfl)
      | (with_reducible apply n_nq)
      | (with_reducible apply c_ret)
      | (with_reducible apply n_then)
      | ((with_reducible apply p_retc); exact rfl; exact rfl; exact inferInstance; exact inferInstance; exact rfl; (focus ((repeat (first | assumption | ((with_reducible apply Bx.grownS); assumption; (first | omega | exact Bx.ne (by assumption) (by omega))) | ((with_reducible apply Bx.below); assumption; omega) | ((with_reducible apply Bx.ex); assumption))); done)); exact rfl; refine ⟨_, rfl, ?_, (by repeat (first | assumption | exact Ex.refl _ | (refine Ex.trans ?_ (by assumption)) | (refine Ex.of_grown ?_ (by assumption) (by intro k hk; cases hk; omega))))⟩))
  all_goals first | rfl | trace_state
/-- The shares that a curve deals. -/
theorem deal_any (c : Value) (F : Int → Int) (n : Nat) (w : World) (hc : CurveOf Try.prog w c F) (hn : n ≤ 20) : Ret Try.prog 55 [c, .int .i64 (n : Int)] w fun r w' => OwnP 61 w.heap.size w' r ((List.range n).map fun (k : Nat) => ((k : Int) + 1, F ((k : Int) + 1))) := by
  have hc1 := hc.one
  refine ret_of_c Try.func55 rfl Try.ntmps55 (Nat.le_of_ble_eq_true rfl) (by dsimp only [ini, Nat.reduceAdd] <;> exact rfl) ?_
  repeat' (first
      | ((with_reducible apply W_appendP); ((conv => lhs; whnf) <;> exact rfl); (focus ((repeat (first | assumption | ((refine IntsK.exH (by assumption) ?_); (focus ((repeat (first | exact Ex.refl _ | assumption | (refine Ex.of_grown ?_ (by assumption) (by intro k hk; cases hk; omega)) | (refine Ex.trans ?_ (by assumption)))); done))) | ((refine Prs.exH (by assumption) ?_); (focus ((repeat (first | exact Ex.refl _ | assumption | (refine Ex.of_grown ?_ (by assumption) (by intro k hk; cases hk; omega)) | (refine Ex.trans ?_ (by assumption)))); done))) | ((with_reducible apply Bx.grownS); assumption; (first | omega | exact Bx.ne (by assumption) (by omega))) | ((with_reducible apply Bx.below); assumption; omega) | ((with_reducible apply OwnP.grownS); assumption; omega) | ((with_reducible apply Own.grownS); assumption; omega) | ((with_reducible apply Bx.ex); assumption) | ((with_reducible apply IntsK.ex); assumption) | ((with_reducible apply Own.ex); assumption) | ((with_reducible apply Prs.ex); assumption) | ((with_reducible apply OwnP.ex); assumption))); done)); exact rfl; (focus ((repeat (first | assumption | ((refine IntsK.exH (by assumption) ?_); (focus ((repeat (first | exact Ex.refl _ | assumption | (refine Ex.of_grown ?_ (by assumption) (by intro k hk; cases hk; omega)) | (refine Ex.trans ?_ (by assumption)))); done))) | ((refine Prs.exH (by assumption) ?_); (focus ((repeat (first | exact Ex.refl _ | assumption | (refine Ex.of_grown ?_ (by assumption) (by intro k hk; cases hk; omega)) | (refine Ex.trans ?_ (by assumption)))); done))) | ((with_reducible apply Bx.grownS); assumption; (first | omega | exact Bx.ne (by assumption) (by omega))) | ((with_reducible apply Bx.below); assumption; omega) | ((with_reducible apply OwnP.grownS); assumption; omega) | ((with_reducible apply Own.grownS); assumption; omega) | ((with_reducible apply Bx.ex); assumption) | ((with_reducible apply IntsK.ex); assumption) | ((with_reducible apply Own.ex); assumption) | ((with_reducible apply Prs.ex); assumption) | ((with_reducible apply OwnP.ex); assumption))); done)); ((simp only [List.length_map, List.length_range]; omega)); (focus ((show Ex w _); (repeat (first | assumption | exact Ex.refl _ | (refine Ex.trans ?_ (by assumption)) | (refine Ex.of_grown ?_ (by assumption) (by intro k hk; cases hk; omega)))); done)); omega; (first | omega | exact Bx.lt (by repeat (first | assumption | ((refine IntsK.exH (by assumption) ?_); (focus ((repeat (first | exact Ex.refl _ | assumption | (refine Ex.of_grown ?_ (by assumption) (by intro k hk; cases hk; omega)) | (refine Ex.trans ?_ (by assumption)))); done))) | ((refine Prs.exH (by assumption) ?_); (focus ((repeat (first | exact Ex.refl _ | assumption | (refine Ex.of_grown ?_ (by assumption) (by intro k hk; cases hk; omega)) | (refine Ex.trans ?_ (by assumption)))); done))) | ((with_reducible apply Bx.grownS); assumption; (first | omega | exact Bx.ne (by assumption) (by omega))) | ((with_reducible apply Bx.below); assumption; omega) | ((with_reducible apply OwnP.grownS); assumption; omega) | ((with_reducible apply Own.grownS); assumption; omega) | ((with_reducible apply Bx.ex); assumption) | ((with_reducible apply IntsK.ex); assumption) | ((with_reducible apply Own.ex); assumption) | ((with_reducible apply Prs.ex); assumption) | ((with_reducible apply OwnP.ex); assumption)))); intro vq wq hown he hkq hgq; have hsz := he.size)
      | ((first | ((with_reducible apply W_op); exact rfl; exact rfl)); (first | ((with_reducible apply r_move); ((conv => lhs; whnf) <;> exact rfl)) | ((with_reducible apply r_assign); ((conv => lhs; whnf) <;> exact rfl)) | ((with_reducible apply r_leq); exact rfl; exact rfl) | ((with_reducible apply r_add); exact rfl; exact rfl; omega)))
      | (refine W_invoke hc rfl rfl (by unfold nb; omega) (by repeat (first | assumption | exact Ex.refl _ | (refine Ex.trans ?_ (by assumption)) | (refine Ex.of_grown ?_ (by assumption) (by intro k hk; cases hk; omega)))) ?_; intro wq he; have hsz := he.size)
      | (refine W_callv (shareOf_any _ _ _) rfl (fun wq he => ?_); have hsz := he.size)
      | ((with_reducible (show C _ _ _ _ _ _)); refine c_loopG (fun (k : Nat) ps wr => ∃ v : Value, ∃ i : Int, ps = [(0, c), (1, .int .i64 (n : Int)), (5, v), (6, .int .i64 i)] ∧ i = k + 1 ∧ k ≤ n ∧ OwnP 61 w.heap.size wr v ((List.range k).map fun (k : Nat) => ((k : Int) + 1, F ((k : Int) + 1))) ∧ Ex w wr) (fun k => n - k) 0 _ ⟨_, _, rfl, rfl, Nat.zero_le _, OwnP.nil _ _ _, (by repeat (first | assumption | exact Ex.refl _ | (refine Ex.trans ?_ (by assumption)) | (refine Ex.of_grown ?_ (by assumption) (by intro k hk; cases hk; omega))))⟩ ⟨rfl, rfl, rfl, rfl, trivial⟩ (by ((conv => lhs; whnf) <;> exact rfl)) (by ((conv => lhs; whnf) <;> exact rfl)) ?_; rintro J hJ k u ps wr ⟨v, i, rfl, rfl, hk, hown, he⟩; have hsz := he.size)
      | ((with_reducible (show Exit.then _ _ _ _ _)); refine n_roundG (k + 1) (hJ _ _ _ _ ⟨_, _, rfl, by omega, by omega, (by rw [List.range_succ, List.map_append]; exact hown), (by repeat (first | assumption | exact Ex.refl _ | (refine Ex.trans ?_ (by assumption)) | (refine Ex.of_grown ?_ (by assumption) (by intro k hk; cases hk; omega))))⟩ ⟨rfl, rfl, rfl, rfl, trivial⟩ rfl) (by omega))
      | (with_reducible apply W_nil)
      | ((with_reducible apply W_bsP); exact rfl; exact rfl; intro bq wq hbq he hnq; have hltq := Bx.lt hbq; have hsz := he.size)
      | (with_reducible apply c_seq)
      | ((with_reducible apply c_region); kernel_rfl)
      | (with_reducible apply n_nq)
      | (with_reducible apply c_block)
      | (with_reducible apply c_skip)
      | (with_reducible apply c_ret)
      | (with_reducible apply c_exit)
      | ((with_reducible apply c_cond_dec); exact rfl; intro _; rotate_left 1; intro _)
      | (with_reducible apply n_then)
      | (with_reducible apply n_block)
      | (with_reducible apply e_then)
      | (with_reducible apply e_block)
      | ((with_reducible apply p_ret1); exact rfl; exact rfl; ((conv => lhs; whnf) <;> exact rfl); refine ⟨_, rfl, ?_, (by repeat (first | assumption | exact Ex.refl _ | (refine Ex.trans ?_ (by assumption)) | (refine Ex.of_grown ?_ (by assumption) (by intro k hk; cases hk; omega))))⟩))
  all_goals first
    | (have hkn : k = n := (by omega); subst hkn; exact OwnP.ex (by repeat (first | exact Ex.refl _ | assumption | (refine Ex.of_grown ?_ (by assumption) (by intro k hk; cases hk; omega)) | (refine Ex.trans ?_ (by assumption)))) hown)
    | trace_state
end Go.Proofs.Ytngoipmdhliigaa
