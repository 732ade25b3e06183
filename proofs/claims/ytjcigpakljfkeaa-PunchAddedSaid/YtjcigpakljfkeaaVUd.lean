/-
  What this text proves: slots in the order in which they get their passes, and jobs of which no slot, or each one, has a pass. (rows)
-/
import Derived.Test.YtjcigpakljfkeaaVUc
import Derived.Test.YtjcigpakljfkeaaDr
import Derived.Test.YtjcigpakljfkeaaOpr
set_option linter.unusedVariables false
set_option linter.unusedSimpArgs false
namespace Go.Pv
open Go.RowKit
section
variable {P : Program} {Q : Exit → Act → World → Prop} {ol rest : List Oper} {l : St} {w : World} {od : Option Nat} {ty : TypeId} {pos : String} {af : Array Edge}
/-- A struct of a struct of two cells and one more. -/
theorem r_bldS {n m : Nat} {z0 z1 z2 v0 v1 u : Value} {x0 x1 : Operand} {T : TypeId} [hz : Sz P T (.agg #[z0, z1, z2]) n m] (hp : plcs P T = some [(0, 2), (2, 1)]) (h0 : ev l x0 = .agg #[v0, v1]) (h1 : ev l x1 = u) (hu : u.oneCell' = true) :
    Runs P ⟨od, .build T #[(0, x0), (1, x1)], ty, pos, af, none⟩ l w (.agg #[v0, v1, u]) := by
  have := r_buildN (P := P) (l := l) (w := w) (od := od) (ty := ty) (pos := pos) (af := af) (zs := [z0, z1, z2]) (ps := [(0, x0), (1, x1)]) (qs := [(0, .agg #[v0, v1]), (1, u)]) (c := [v0, v1, u]) (T := T) hp (by simp [evps, h0, h1]) ?_
  · exact this
  · have hc := cells_one hu
    have ha : (Value.agg #[v0, v1]).cells = #[v0, v1] := rfl
    simp [Instr.fill, hc, ha]
theorem OwnR.block {α : Type} {f : α → List Value} {n : Nat} {E : TypeId} {base : Nat} {v : Value} {xs : List α} (h : OwnR f n E base w v xs) : ∀ k, v.ownBlock = some k → base ≤ k ∧ k < w.heap.size := by
  unfold OwnR at h
  exact h.2.lt
/-- A call whose contract says all of the world. -/
theorem W_callR {d : Nat} {f : FuncId} {xs : List Operand} {vs : List Value} {tys : Array TypeId} {T : TypeId} {φ : Value → World → Prop} [Fun P f]
    (hc : Calls P f vs.toArray w fun e w' => ∃ v, e = .returned v ∧ φ v w') (hx : evs l xs = vs)
    (k : ∀ v w', φ v w' → W P ol Q rest (upd l d v) w') :
    W P ol Q (⟨some d, .call { callee := .value (.func f), args := xs.toArray, argTypes := tys }, T, pos, af, none⟩ :: rest) l w := by
  unfold W
  refine wpList_plain rfl fun K hK => ?_
  have hrun : (execOp (ev l) ⟨some d, .call { callee := .value (.func f), args := xs.toArray, argTypes := tys }, T, pos, af, none⟩).run P w = .ok (.enter f vs.toArray) w := by
    have := run_call (P := P) (f := f) (vs := vs) (w := w) (first := #[]) (captured := #[])
    simp only [execOp, resolve, List.map_toArray, map_evs, hx, ev]
    simpa using this
  simp only [Oper.wp, eval_act, hrun, Oper.upon]
  refine Calls.mono hc ?_
  rintro e w' ⟨v, rfl, hφ⟩
  show K ((act l).put (some d) v) w'
  rw [put_act]
  have := k v w' hφ
  unfold W at this
  exact hK _ _ this
theorem W_callR0 {f : FuncId} {xs : List Operand} {vs : List Value} {tys : Array TypeId} {T : TypeId} {φ : Value → World → Prop} [Fun P f]
    (hc : Calls P f vs.toArray w fun e w' => ∃ v, e = .returned v ∧ φ v w') (hx : evs l xs = vs)
    (k : ∀ w', (∃ v, φ v w') → W P ol Q rest l w') :
    W P ol Q (⟨none, .call { callee := .value (.func f), args := xs.toArray, argTypes := tys }, T, pos, af, none⟩ :: rest) l w := by
  unfold W
  refine wpList_plain rfl fun K hK => ?_
  have hrun : (execOp (ev l) ⟨none, .call { callee := .value (.func f), args := xs.toArray, argTypes := tys }, T, pos, af, none⟩).run P w = .ok (.enter f vs.toArray) w := by
    have := run_call (P := P) (f := f) (vs := vs) (w := w) (first := #[]) (captured := #[])
    simp only [execOp, resolve, List.map_toArray, map_evs, hx, ev]
    simpa using this
  simp only [Oper.wp, eval_act, hrun, Oper.upon]
  refine Calls.mono hc ?_
  rintro e w' ⟨v, rfl, hφ⟩
  have := k w' ⟨v, hφ⟩
  unfold W at this
  exact hK _ _ this
end
end Go.Pv
namespace Go.Proofs.Ytjcigpakljfkeaa
open Go.Pv Go.RowKit
set_option maxHeartbeats 8000000
theorem inOrder_any (rest : Int) (v : Value) (sl : List (Int × Int)) (w : World) (h : Prs w v sl) (hl : sl.length ≤ 1000) : Ret Try.prog 56 [.agg #[.int .i64 rest, v]] w fun r w' => OwnR (encN sl) 3 107 w.heap.size w' r (ordL sl) := by
  have hv1 := h.one
  have kA : True := trivial
  refine ret_of_c Try.func56 rfl Try.ntmps56 (Nat.le_of_ble_eq_true rfl) (by dsimp only [ini, Nat.reduceAdd] <;> exact rfl) ?_
  repeat' (first
      | ((with_reducible apply W_op); exact rfl; exact rfl; exact r_bldS (by kernel_rfl) rfl rfl rfl)
      | (refine W_bsR3 rfl ?_; intro bq wq hbq he hnq; have hltq := Bx.lt hbq; have hsz := he.size)
      | ((with_reducible apply W_appendR (f := encN sl) (n := 3) (m := k)); exact fun _ => rfl; decide; exact rfl; ((conv => lhs; whnf) <;> exact rfl); (focus ((repeat (first | assumption | ((with_reducible apply OwnR.grownS); assumption; omega) | ((with_reducible apply Row.ex); assumption) | ((with_reducible apply OwnR.ex); assumption) | ((with_reducible apply Bx.grownS); assumption; (first | omega | exact Bx.ne (by assumption) (by omega))) | ((with_reducible apply Bx.below); assumption; omega) | ((with_reducible apply Own.grownS); assumption; omega) | ((with_reducible apply Bx.ex); assumption) | ((with_reducible apply IntsK.ex); assumption) | ((with_reducible apply Own.ex); assumption) | ((with_reducible apply Prs.ex); assumption))); done)); exact rfl; (show Bx _ _ [_, _, _] _); (focus ((repeat (first | assumption | ((with_reducible apply OwnR.grownS); assumption; omega) | ((with_reducible apply Row.ex); assumption) | ((with_reducible apply OwnR.ex); assumption) | ((with_reducible apply Bx.grownS); assumption; (first | omega | exact Bx.ne (by assumption) (by omega))) | ((with_reducible apply Bx.below); assumption; omega) | ((with_reducible apply Own.grownS); assumption; omega) | ((with_reducible apply Bx.ex); assumption) | ((with_reducible apply IntsK.ex); assumption) | ((with_reducible apply Own.ex); assumption) | ((with_reducible apply Prs.ex); assumption))); done)); exact rfl; (simp only [List.length_range]; omega); (focus ((show Ex w _); (repeat (first | assumption | exact Ex.refl _ | (refine Ex.trans ?_ (by assumption)) | (refine Ex.of_grown ?_ (by assumption) (by intro k hk; cases hk; omega)))); done)); omega; (first | omega | exact Bx.lt (by repeat (first | assumption | ((with_reducible apply OwnR.grownS); assumption; omega) | ((with_reducible apply Row.ex); assumption) | ((with_reducible apply OwnR.ex); assumption) | ((with_reducible apply Bx.grownS); assumption; (first | omega | exact Bx.ne (by assumption) (by omega))) | ((with_reducible apply Bx.below); assumption; omega) | ((with_reducible apply Own.grownS); assumption; omega) | ((with_reducible apply Bx.ex); assumption) | ((with_reducible apply IntsK.ex); assumption) | ((with_reducible apply Own.ex); assumption) | ((with_reducible apply Prs.ex); assumption)))); intro vq wq hown he hkq hgq; have hsz := he.size)
      | ((with_reducible apply W_storeA); exact rfl; (focus ((repeat (first | assumption | ((with_reducible apply OwnR.grownS); assumption; omega) | ((with_reducible apply Row.ex); assumption) | ((with_reducible apply OwnR.ex); assumption) | ((with_reducible apply Bx.grownS); assumption; (first | omega | exact Bx.ne (by assumption) (by omega))) | ((with_reducible apply Bx.below); assumption; omega) | ((with_reducible apply Own.grownS); assumption; omega) | ((with_reducible apply Bx.ex); assumption) | ((with_reducible apply IntsK.ex); assumption) | ((with_reducible apply Own.ex); assumption) | ((with_reducible apply Prs.ex); assumption))); done)); exact rfl; exact rfl; exact rfl; (repeat' (first | exact trivial | (first | exact rfl | assumption | exact IntsK.one (by assumption) | exact Prs.one (by assumption) | exact Own.one (by assumption) | exact Row.one (by assumption) | exact OwnR.one (by assumption)) | constructor)); intro wq hbq hgq; have hown := OwnR.ex (Ex.of_grown he hgq (by intro k hk; cases hk; omega)) hown; have he : Ex w wq := (by repeat (first | assumption | exact Ex.refl _ | (refine Ex.trans ?_ (by assumption)) | (refine Ex.of_grown ?_ (by assumption) (by intro k hk; cases hk; omega)))); have hsz := he.size)
      | ((first | ((with_reducible apply W_op); exact rfl; exact rfl)); (first | ((with_reducible apply r_move); ((conv => lhs; whnf) <;> exact rfl)) | ((with_reducible apply r_assign); ((conv => lhs; whnf) <;> exact rfl)) | ((with_reducible apply r_fieldAddr); exact rfl) | ((with_reducible apply r_load); exact rfl; exact rfl; (first | assumption | exact (Bx.cell (by repeat (first | assumption | ((with_reducible apply Bx.grownS); assumption; (first | omega | exact Bx.ne (by assumption) (by omega))) | ((with_reducible apply Bx.below); assumption; omega) | ((with_reducible apply Bx.ex); assumption))) _).trans rfl | exact Ex.cell (by assumption) (by assumption))) | ((with_reducible apply r_loadA); exact rfl; (first | assumption | exact Bx.cells (by repeat (first | assumption | ((with_reducible apply Bx.grownS); assumption; (first | omega | exact Bx.ne (by assumption) (by omega))) | ((with_reducible apply Bx.below); assumption; omega) | ((with_reducible apply Bx.ex); assumption))) | exact Cells.ex (by assumption) (by assumption)); exact rfl) | ((with_reducible apply r_lss); exact rfl; exact rfl) | ((with_reducible apply r_add); exact rfl; exact rfl; omega) | ((with_reducible apply r_lenPrs); ((conv => lhs; whnf) <;> exact rfl); (focus ((repeat (first | assumption | ((with_reducible apply OwnR.grownS); assumption; omega) | ((with_reducible apply Row.ex); assumption) | ((with_reducible apply OwnR.ex); assumption) | ((with_reducible apply Bx.grownS); assumption; (first | omega | exact Bx.ne (by assumption) (by omega))) | ((with_reducible apply Bx.below); assumption; omega) | ((with_reducible apply Own.grownS); assumption; omega) | ((with_reducible apply Bx.ex); assumption) | ((with_reducible apply IntsK.ex); assumption) | ((with_reducible apply Own.ex); assumption) | ((with_reducible apply Prs.ex); assumption))); done)))))
      | (clear kA; refine W_callR (sortFuncN sl _ _ _ _ _ (by simp; omega) hown) rfl ?_; rintro uq wq ⟨hown2, hgo⟩; have he : Ex w wq := Ex.of_grown (by assumption) hgo (by intro k hk; have := hown.block k hk; omega))
      | ((with_reducible (show C _ _ _ _ _ _)); refine c_loopG (fun (k : Nat) ps wr => ∃ b1 : Nat, ∃ r : Value, ∃ i : Int, ps = [(1, .pointer (some ⟨b1, 0, none⟩)), (3, r), (7, v), (8, .int .i64 sl.length), (9, .int .i64 i)] ∧ i = k ∧ k ≤ sl.length ∧ OwnR (encN sl) 3 107 (b1 + 1) wr r (List.range k) ∧ w.heap.size ≤ b1 ∧ Bx wr b1 [.int .i64 rest, v] 24 ∧ Ex w wr) (fun k => sl.length - k) 0 _ ⟨_, _, _, rfl, rfl, Nat.zero_le _, OwnR.nil _ _ _, by omega, (by repeat (first | assumption | ((with_reducible apply OwnR.grownS); assumption; omega) | ((with_reducible apply Row.ex); assumption) | ((with_reducible apply OwnR.ex); assumption) | ((with_reducible apply Bx.grownS); assumption; (first | omega | exact Bx.ne (by assumption) (by omega))) | ((with_reducible apply Bx.below); assumption; omega) | ((with_reducible apply Own.grownS); assumption; omega) | ((with_reducible apply Bx.ex); assumption) | ((with_reducible apply IntsK.ex); assumption) | ((with_reducible apply Own.ex); assumption) | ((with_reducible apply Prs.ex); assumption))), (by repeat (first | assumption | exact Ex.refl _ | (refine Ex.trans ?_ (by assumption)) | (refine Ex.of_grown ?_ (by assumption) (by intro k hk; cases hk; omega))))⟩ ⟨rfl, rfl, rfl, rfl, rfl, trivial⟩ (by ((conv => lhs; whnf) <;> exact rfl)) (by ((conv => lhs; whnf) <;> exact rfl)) ?_; rintro J hJ k u ps wr ⟨b1, r, i, rfl, rfl, hk, hown, hb1, hx1, he⟩; have hsz := he.size)
      | ((with_reducible (show Exit.then _ _ _ _ _)); refine n_roundG (k + 1) (hJ _ _ _ _ ⟨_, _, _, rfl, by omega, by omega, (by rw [List.range_succ]; exact (by repeat (first | assumption | ((with_reducible apply OwnR.grownS); assumption; omega) | ((with_reducible apply Row.ex); assumption) | ((with_reducible apply OwnR.ex); assumption) | ((with_reducible apply Bx.grownS); assumption; (first | omega | exact Bx.ne (by assumption) (by omega))) | ((with_reducible apply Bx.below); assumption; omega) | ((with_reducible apply Own.grownS); assumption; omega) | ((with_reducible apply Bx.ex); assumption) | ((with_reducible apply IntsK.ex); assumption) | ((with_reducible apply Own.ex); assumption) | ((with_reducible apply Prs.ex); assumption)))), hb1, (by repeat (first | assumption | ((with_reducible apply OwnR.grownS); assumption; omega) | ((with_reducible apply Row.ex); assumption) | ((with_reducible apply OwnR.ex); assumption) | ((with_reducible apply Bx.grownS); assumption; (first | omega | exact Bx.ne (by assumption) (by omega))) | ((with_reducible apply Bx.below); assumption; omega) | ((with_reducible apply Own.grownS); assumption; omega) | ((with_reducible apply Bx.ex); assumption) | ((with_reducible apply IntsK.ex); assumption) | ((with_reducible apply Own.ex); assumption) | ((with_reducible apply Prs.ex); assumption))), (by repeat (first | assumption | exact Ex.refl _ | (refine Ex.trans ?_ (by assumption)) | (refine Ex.of_grown ?_ (by assumption) (by intro k hk; cases hk; omega))))⟩ ⟨rfl, rfl, rfl, rfl, rfl, trivial⟩ rfl) (by omega))
      | (with_reducible apply W_nil)
      | ((with_reducible apply W_box); exact rfl; exact rfl; intro bq wq hbq he hnq; have hltq := Bx.lt hbq; have hsz := he.size)
      | ((with_reducible apply W_alloc); exact rfl; intro bq wq hbq he hnq; have hltq := Bx.lt hbq; have hsz := he.size)
      | ((with_reducible apply W_indexPr); ((conv => lhs; whnf) <;> exact rfl); (focus ((repeat (first | assumption | ((with_reducible apply OwnR.grownS); assumption; omega) | ((with_reducible apply Row.ex); assumption) | ((with_reducible apply OwnR.ex); assumption) | ((with_reducible apply Bx.grownS); assumption; (first | omega | exact Bx.ne (by assumption) (by omega))) | ((with_reducible apply Bx.below); assumption; omega) | ((with_reducible apply Own.grownS); assumption; omega) | ((with_reducible apply Bx.ex); assumption) | ((with_reducible apply IntsK.ex); assumption) | ((with_reducible apply Own.ex); assumption) | ((with_reducible apply Prs.ex); assumption))); done)); exact rfl; omega; intro pq hpq)
      | (with_reducible apply c_seq)
      | ((with_reducible apply c_region); kernel_rfl)
      | (with_reducible apply n_nq)
      | (with_reducible apply c_block)
      | (with_reducible apply c_skip)
      | (with_reducible apply c_ret)
      | (with_reducible apply c_exit)
      | ((with_reducible apply c_cond_dec); exact rfl; intro _; rotate_left 1; intro _)
      | (with_reducible apply n_then)
      | (with_reducible apply n_block)
      | (with_reducible apply e_then)
      | (with_reducible apply e_block)
      | ((with_reducible apply p_ret1); exact rfl; exact rfl; ((conv => lhs; whnf) <;> exact rfl); refine ⟨_, rfl, ?_, (by repeat (first | assumption | exact Ex.refl _ | (refine Ex.trans ?_ (by assumption)) | (refine Ex.of_grown ?_ (by assumption) (by intro k hk; cases hk; omega))))⟩))
  have e : k = sl.length := by omega
  subst e
  rw [sortN_ord] at hown2
  exact OwnR.mono hown2 (by omega)
/-! ### Jobs with passes -/
theorem rep_set {k N : Nat} (h : k < N) (a b : Int) : (List.replicate k a ++ List.replicate (N - k) b).set k a = List.replicate (k + 1) a ++ List.replicate (N - (k + 1)) b := by
  have e : N - k = (N - (k + 1)) + 1 := by omega
  rw [List.set_append_right _ _ (by simp), e]
  simp only [List.length_replicate, Nat.sub_self, List.replicate_succ, List.set_cons_zero]
  rw [← List.replicate_succ, List.replicate_succ', List.append_assoc]
  rfl
theorem unplanned_any (rest : Int) (v : Value) (w : World) (hv1 : v.oneCell' = true) : Ret Try.prog 55 [.agg #[.int .i64 rest, v]] w fun r w' => r = .agg (plC (.int .i64 rest) v (List.replicate 40 (-1))).toArray := by
  have tA : True := trivial
  refine ret_of_c Try.func55 rfl Try.ntmps55 (Nat.le_of_ble_eq_true rfl) (by dsimp only [ini, Nat.reduceAdd] <;> exact rfl) ?_
  repeat' (first
      | ((with_reducible apply W_op); exact rfl; exact rfl; exact r_bldP (N := 40) (by kernel_rfl) rfl)
      | ((with_reducible apply W_storeA); exact rfl; (focus ((first | assumption | exact (by repeat (first | assumption | ((with_reducible apply Bx.grownS); assumption; (first | omega | exact Bx.ne (by assumption) (by omega))) | ((with_reducible apply Bx.below); assumption; omega) | ((with_reducible apply Bx.ex); assumption)))); done)); exact rfl; exact rfl; exact rfl; (first | exact plC_ones rfl hv1 | exact plC_ones rfl (by assumption)); intro wq hbq hgq; have he : Ex w wq := (by repeat (first | assumption | exact Ex.refl _ | (refine Ex.trans ?_ (by assumption)) | (refine Ex.of_grown ?_ (by assumption) (by intro k hk; cases hk; omega)))); have hsz := he.size)
      | (refine W_op rfl rfl (r_indexArr (i := k) rfl rfl (by omega)) ?_)
      | (refine W_store (v := .int .i64 (-1)) rfl hx3 (plC_lt (by simp; omega)) rfl rfl ?_; intro wq hbq hgq; rw [plC_set, rep_set (by omega)] at hbq; have he : Ex w wq := (by repeat (first | assumption | exact Ex.refl _ | (refine Ex.trans ?_ (by assumption)) | (refine Ex.of_grown ?_ (by assumption) (by intro k hk; cases hk; omega)))); have hsz := he.size)
      | (refine W_op rfl rfl (r_loadA rfl (Bx.cells hx3) (by rw [plC_len]; simp; omega)) ?_)
      | ((with_reducible apply W_storeA); exact rfl; exact hx2; exact rfl; (rw [hc2, plC_len]; simp; omega); (rw [plC_len]; simp; omega); exact plC_ones rfl hv1; intro wq hbq hgq; have he : Ex w wq := (by repeat (first | assumption | exact Ex.refl _ | (refine Ex.trans ?_ (by assumption)) | (refine Ex.of_grown ?_ (by assumption) (by intro k hk; cases hk; omega)))); have hsz := he.size)
      | ((with_reducible apply p_retc); exact rfl; exact rfl; exact inferInstance; exact inferInstance; exact rfl; exact hbq; (rw [plC_len]; simp; omega); refine ⟨_, rfl, ?_, (by repeat (first | assumption | exact Ex.refl _ | (refine Ex.trans ?_ (by assumption)) | (refine Ex.of_grown ?_ (by assumption) (by intro k hk; cases hk; omega))))⟩)
      | ((first | ((with_reducible apply W_op); exact rfl; exact rfl)); (first | ((with_reducible apply r_move); ((conv => lhs; whnf) <;> exact rfl)) | ((with_reducible apply r_assign); ((conv => lhs; whnf) <;> exact rfl)) | ((with_reducible apply r_fieldAddr); exact rfl) | ((with_reducible apply r_loadA); exact rfl; (first | assumption | exact Bx.cells (by repeat (first | assumption | ((with_reducible apply Bx.grownS); assumption; (first | omega | exact Bx.ne (by assumption) (by omega))) | ((with_reducible apply Bx.below); assumption; omega) | ((with_reducible apply Bx.ex); assumption))) | exact Cells.ex (by assumption) (by assumption)); exact rfl) | ((with_reducible apply r_lss); exact rfl; exact rfl) | ((with_reducible apply r_add); exact rfl; exact rfl; omega)))
      | ((with_reducible (show C _ _ _ _ _ _)); refine c_loopG (fun (k : Nat) ps wr => ∃ b2 b3 : Nat, ∃ i : Int, ps = [(2, .pointer (some ⟨b2, 0, none⟩)), (3, .pointer (some ⟨b3, 0, none⟩)), (7, .int .i64 i)] ∧ i = k ∧ k ≤ 40 ∧ w.heap.size ≤ b2 ∧ w.heap.size ≤ b3 ∧ b2 ≠ b3 ∧ Bx wr b3 (plC (.int .i64 rest) v (List.replicate k (-1) ++ List.replicate (40 - k) 0)) 102 ∧ (∃ c2, Bx wr b2 c2 102 ∧ c2.length = 42) ∧ Ex w wr) (fun k => 40 - k) 0 _ ⟨_, _, _, rfl, rfl, Nat.zero_le _, by omega, by omega, by omega, by assumption, ⟨_, (by repeat (first | assumption | ((with_reducible apply Bx.grownS); assumption; (first | omega | exact Bx.ne (by assumption) (by omega))) | ((with_reducible apply Bx.below); assumption; omega) | ((with_reducible apply Bx.ex); assumption))), rfl⟩, (by repeat (first | assumption | exact Ex.refl _ | (refine Ex.trans ?_ (by assumption)) | (refine Ex.of_grown ?_ (by assumption) (by intro k hk; cases hk; omega))))⟩ ⟨rfl, rfl, rfl, trivial⟩ (by ((conv => lhs; whnf) <;> exact rfl)) (by ((conv => lhs; whnf) <;> exact rfl)) ?_; rintro J hJ k u ps wr ⟨b2, b3, i, rfl, rfl, hk, hb2, hb3, hne, hx3, ⟨c2, hx2, hc2⟩, he⟩; have hsz := he.size)
      | ((with_reducible (show Exit.then _ _ _ _ _)); refine n_roundG (k + 1) (hJ _ _ _ _ ⟨_, _, _, rfl, by omega, by omega, hb2, hb3, hne, (by assumption), ⟨c2, (by repeat (first | assumption | ((with_reducible apply Bx.grownS); assumption; (first | omega | exact Bx.ne (by assumption) (by omega))) | ((with_reducible apply Bx.below); assumption; omega) | ((with_reducible apply Bx.ex); assumption))), hc2⟩, (by repeat (first | assumption | exact Ex.refl _ | (refine Ex.trans ?_ (by assumption)) | (refine Ex.of_grown ?_ (by assumption) (by intro k hk; cases hk; omega))))⟩ ⟨rfl, rfl, rfl, trivial⟩ rfl) (by omega))
      | (with_reducible apply W_nil)
      | ((with_reducible apply W_box); exact rfl; exact rfl; intro bq wq hbq he hnq; have hltq := Bx.lt hbq; have hsz := he.size)
      | ((with_reducible apply W_alloc); exact rfl; intro bq wq hbq he hnq; have hltq := Bx.lt hbq; have hsz := he.size)
      | (with_reducible apply c_seq)
      | ((with_reducible apply c_region); kernel_rfl)
      | (with_reducible apply n_nq)
      | (with_reducible apply c_block)
      | (with_reducible apply c_skip)
      | (with_reducible apply c_ret)
      | (with_reducible apply c_exit)
      | ((with_reducible apply c_cond_dec); exact rfl; intro _; rotate_left 1; intro _)
      | (with_reducible apply n_then)
      | (with_reducible apply n_block)
      | (with_reducible apply e_then)
      | (with_reducible apply e_block))
  have e : k = 40 := by omega
  subst e
  simp
end Go.Proofs.Ytjcigpakljfkeaa
