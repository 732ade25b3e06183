/-
  What this text proves: pairs that lie somewhere are appended; a copy of shares. Conditions: the value reads as a list.
-/
import Derived.Test.YtngoipmdhliigaaVKp
import Derived.Test.YtngoipmdhliigaaFam
import Derived.Test.YtngoipmdhliigaaMml
import Derived.Laws.AppendOwnNone
set_option linter.unusedVariables false
set_option linter.unusedSimpArgs false
namespace Go.Pv
open Go.RowKit
theorem one_pc (x : Int × Int) : ∀ u ∈ pc x, u.oneCell' = true := by
  intro u hu
  unfold pc at hu
  simp at hu
  rcases hu with rfl | rfl <;> rfl
def Nn (v : Value) : Prop := v = .slice none 0 0 ∨ ∃ a n c, v = .slice (some a) n c
theorem OwnP.lt {E : TypeId} {base : Nat} {w : World} {v : Value} {xs : List (Int × Int)} (h : OwnP E base w v xs) : ∀ k, v.ownBlock = some k → base ≤ k ∧ k < w.heap.size := by unfold OwnP at h; exact h.2.lt
theorem OwnP.ofV0 {E : TypeId} {base b : Nat} {w : World} (h : OwnV E base w (.slice (some ⟨b, 0, none⟩) 0 0) []) : OwnP E base w (.slice (some ⟨b, 0, none⟩) 0 0) [] := by
  unfold OwnV at h
  unfold OwnP
  obtain ⟨h0, h1, h2⟩ := h
  refine ⟨h0, rfl, ?_⟩
  rcases h2 with ⟨h2, _⟩ | ⟨g, cap, cur, h3, h4, h5, h6, h7, h8, h9⟩
  · cases h2
  · cases h3
    exact .inr ⟨_, 0, cur, rfl, h4, h5, Nat.le_refl _, h7, by simpa using h8, by simp⟩
theorem OwnP.nn {E : TypeId} {base : Nat} {w : World} {v : Value} {xs : List (Int × Int)} (h : OwnP E base w v xs) : Nn v := by
  unfold OwnP at h
  obtain ⟨_, _, h2⟩ := h
  rcases h2 with ⟨e, -⟩ | ⟨g, cap, cur, e, -⟩
  · exact .inl e
  · exact .inr ⟨_, _, _, e⟩
section
variable {P : Program} {Q : Exit → Act → World → Prop} {ol rest : List Oper} {l : St} {w : World} {od : Option Nat} {ty : TypeId} {pos : String} {af : Array Edge}
theorem W_appendPs {d : Nat} {x y : Operand} {T e : TypeId} {bytes base : Nat} {v u : Value} {zs : Array Value} {xs ys : List (Int × Int)} {w0 : World} [hT : Und P T (.slice e)] [hz : Sz P e (.agg zs) 2 bytes] (hzn : zs.size = 2)
    (hx : ev l x = v) (hown : OwnP e base w v xs) (hy : ev l y = u) (hu : Prs w u ys) (hnn : Nn u) (hlen : (xs.length + ys.length) * bytes ≤ 140737488355328 ∧ xs.length + ys.length ≤ 1000000) (h0 : Ex w0 w) (hb0 : w0.heap.size ≤ base) (hbase : base ≤ w.heap.size)
    (K : ∀ v' w', OwnP e base w' v' (xs ++ ys) → Ex w0 w' → Below base w w' → w.grownBy w' v.ownBlock → W P ol Q rest (upd l d v') w') :
    W P ol Q (⟨some d, .call { callee := .builtin .append, args := #[x, y], argTypes := #[T, T] }, ty, pos, af, none⟩ :: rest) l w := by
  unfold Prs at hu
  obtain ⟨_, oa, cap, hue, hc, hm, hall⟩ := hu
  obtain ⟨i, h1, h2, h3, h4⟩ := hz.parts
  subst hue
  have hpl : ∀ l : List (Int × Int), (l.flatMap pc).length = l.length * 2 := by
    intro l
    induction l with
    | nil => rfl
    | cons a r ih => simp [List.flatMap_cons, ih, pc]; omega
  have hlt := hown.lt
  have hown2 := hown
  unfold OwnP at hown2
  cases oa with
  | none =>
    have hn : ys = [] := by
      cases ys with
      | nil => rfl
      | cons a r => obtain ⟨p, e1, _⟩ := hall 0 (by simp); cases e1
    subst hn
    have hcap : cap = 0 := by
      rcases hnn with e | ⟨_, _, _, e⟩ <;> simp at e
      exact e
    subst hcap
    have hk := K v w (by simpa using hown) h0 (Below.refl _ _) (World.grownBy_refl' _ _)
    unfold W at hk ⊢
    refine wpList_append_own_none rfl x y T rfl base e i 2 hT.out h1 v xs.length (xs.flatMap pc) (by rw [eval_act]; exact hx) hown2.2 (by rw [eval_act]; exact hy) ?_
    rw [put_act]
    exact hk
  | some a =>
    have hcell : ∀ j q, (ys.flatMap pc)[j]? = some q → w.cell? (a.add j) = some q := by
      intro j q hj
      have hj' : j < ys.length * 2 := by
        rcases Nat.lt_or_ge j (ys.length * 2) with h | h
        · exact h
        · rw [List.getElem?_eq_none (by rw [hpl]; exact h)] at hj; cases hj
      obtain ⟨p, hp, hq1⟩ := hall (j / 2) (by omega)
      cases hp
      unfold Cells at hq1
      have hgj : (pc ys[j / 2])[j % 2]? = some q := by
        have hv : ∃ v, (pc ys[j / 2])[j % 2]? = some v := by
          have : j % 2 < (pc ys[j / 2]).length := by simp [pc]; omega
          exact ⟨_, List.getElem?_eq_getElem this⟩
        obtain ⟨v, hv⟩ := hv
        have := pc_flat_get ys (j / 2) (by omega) (j % 2) v hv
        rw [show j / 2 * 2 + j % 2 = j by omega, hj] at this
        rw [hv]; exact this.symm
      have h5 := hq1 (j % 2) q hgj
      have e5 : (a.add (j / 2 * 2)).add (j % 2) = a.add j := by
        rw [Addr.add_add, show j / 2 * 2 + j % 2 = j by omega]
      rwa [e5] at h5
    have hml : xs.length + ys.length ≤ maxLen := by unfold maxLen; omega
    have hone : ∀ q ∈ ys.flatMap pc, q.oneCell' = true := by
      intro q hq
      obtain ⟨p, _, hp⟩ := List.mem_flatMap.1 hq
      exact one_pc p q hp
    obtain ⟨v', w', hr, g1, g2, g3⟩ := run_append_own (P := P) w base T ty e i (.agg zs) 2 bytes hT.out h1 h2 h3 h4 (by simp [Value.cells, hzn]) (by decide) v xs.length (xs.flatMap pc) hown2.2 a ys.length cap (ys.flatMap pc) (hpl ys) hcell (by simpa using hone) hml hlen.1 hbase
    refine W_run (w' := w') rfl rfl ?_ (K v' w' (by unfold OwnP; exact ⟨by simpa using hml, by simpa using g1⟩) (h0.of_grown g2 fun k hk => by have := hlt k hk; omega) ((Below.refl base w).grown g2 hbase fun k hk => (hlt k hk).1) g2)
    simp only [execOp, resolve, invoke, builtin, Sem.run_bind, Sem.run_pure, Result.andThen_ok, List.map_toArray, List.map_cons, List.map_nil, hx, hy, hr]
theorem r_eqNil {x : Operand} {T T2 e : TypeId} {a : Addr} {n c : Nat} [h : Und P T (.slice e)] (hx : ev l x = .slice (some a) n c) : Runs P ⟨od, .binOp .eql T x (.const (.slice none 0 0)) T2, ty, pos, af, none⟩ l w (.bool false) := by
  have h0 : ev l (.const (.slice none 0 0)) = .slice none 0 0 := rfl
  have h1 : (eqGuard .eql T x (.const (.slice none 0 0)) (.slice (some a) n c) (.slice none 0 0)).run P w = .ok () w := by unfold eqGuard; rfl
  have h2 : (Op.equal T (.slice (some a) n c) (.slice none 0 0)).run P w = .ok false w := by
    unfold Op.equal Op.maxDepth Op.equalIn
    simp [h.run]
  simp only [Runs, execOp, hx, h0, Sem.run_bind, h1, Result.andThen_ok, binOp, h2, Sem.run_pure]
theorem r_nilNil {x : Operand} {T T2 e : TypeId} [h : Und P T (.slice e)] (hx : ev l x = .slice none 0 0) : Runs P ⟨od, .binOp .eql T x (.const (.slice none 0 0)) T2, ty, pos, af, none⟩ l w (.bool true) := by
  have h0 : ev l (.const (.slice none 0 0)) = .slice none 0 0 := rfl
  have h1 : (eqGuard .eql T x (.const (.slice none 0 0)) (.slice none 0 0) (.slice none 0 0)).run P w = .ok () w := by unfold eqGuard; rfl
  have h2 : (Op.equal T (.slice none 0 0) (.slice none 0 0)).run P w = .ok true w := by
    unfold Op.equal Op.maxDepth Op.equalIn
    simp [h.run]
  simp only [Runs, execOp, hx, h0, Sem.run_bind, h1, Result.andThen_ok, binOp, h2, Sem.run_pure]
end
theorem Prs.none {w : World} {n c : Nat} {xs : List (Int × Int)} (h : Prs w (.slice none n c) xs) : xs = [] := by
  unfold Prs at h
  obtain ⟨_, a, cap, h1, h2, h3, h4⟩ := h
  cases h1
  cases xs with
  | nil => rfl
  | cons a r => obtain ⟨p, e1, _⟩ := h4 0 (by simp); cases e1
end Go.Pv
namespace Go.Proofs.Ytngoipmdhliigaa
open Go.Pv Go.RowKit Go.Sort
set_option maxHeartbeats 8000000
set_option maxRecDepth 20000
theorem clone_any (v : Value) (xs : List (Int × Int)) (w : World) (h : Prs w v xs) (hn : Nn v) (hl : xs.length ≤ 1000) : Ret Try.prog 96 [v] w fun r w' => OwnP 61 w.heap.size w' r xs := by
  have hv1 := h.one
  rcases hn with hv | ⟨a, n, c, hv⟩
  · subst hv
    have hx := Prs.none h
    subst hx
    refine ret_of_c Try.func96 rfl Try.ntmps96 (Nat.le_of_ble_eq_true rfl) (by dsimp only [ini, Nat.reduceAdd] <;> exact rfl) ?_
    repeat' (first
        | ((with_reducible apply W_op); exact rfl; exact rfl; exact r_nilNil rfl)
        | ((first | ((with_reducible apply W_op); exact rfl; exact rfl)); (first | ((with_reducible apply r_move); ((conv => lhs; whnf) <;> exact rfl)) | ((with_reducible apply r_assign); ((conv => lhs; whnf) <;> exact rfl)) | ((with_reducible apply r_eql); exact rfl; exact rfl) | ((with_reducible apply r_eqlb); exact rfl; exact rfl)))
        | (with_reducible apply W_nil)
        | ((with_reducible apply W_bsP); exact rfl; exact rfl; intro bq wq hbq he hnq; have hltq := Bx.lt hbq; have hsz := he.size)
        | (with_reducible apply c_seq)
        | ((with_reducible apply c_region); kernel_rfl)
        | (with_reducible apply n_nq)
        | (with_reducible apply c_skip)
        | (with_reducible apply c_ret)
        | ((with_reducible apply c_cond_true); exact rfl)
        | ((with_reducible apply c_cond_false); exact rfl)
        | ((with_reducible apply c_cond_dec); exact rfl; intro _; rotate_left 1; intro _)
        | ((with_reducible apply c_cond_bool); exact rfl; intro _; rotate_left 1; intro _)
        | (with_reducible apply n_then)
        | (with_reducible apply e_then)
        | (with_reducible apply r_then)
        | ((with_reducible apply p_ret1); exact rfl; exact rfl; ((conv => lhs; whnf) <;> exact rfl); refine ⟨_, rfl, ?_, (by repeat (first | assumption | exact Ex.refl _ | (refine Ex.trans ?_ (by assumption)) | (refine Ex.of_grown ?_ (by assumption) (by intro k hk; cases hk; omega))))⟩)
        | ((with_reducible apply m_ret1); (focus ((repeat (first | assumption | exact Al.nil _ _ | ((with_reducible apply Al.grownS); assumption; (focus ((repeat (first | assumption | ((with_reducible apply Bx.grownS); assumption; (first | omega | exact Bx.ne (by assumption) (by omega))) | ((with_reducible apply Bx.below); assumption; omega) | ((with_reducible apply Bx.ex); assumption))); done))) | (refine Al.ex (by assumption) ?_))); done)); exact rfl; ((conv => lhs; whnf) <;> exact rfl); refine ⟨_, rfl, ?_, (shut_grown _ _ (by repeat (first | assumption | exact Al.nil _ _ | ((with_reducible apply Al.grownS); assumption; (focus ((repeat (first | assumption | ((with_reducible apply Bx.grownS); assumption; (first | omega | exact Bx.ne (by assumption) (by omega))) | ((with_reducible apply Bx.below); assumption; omega) | ((with_reducible apply Bx.ex); assumption))); done))) | (refine Al.ex (by assumption) ?_))) (by repeat (first | assumption | exact Ex.refl _ | (refine Ex.trans ?_ (by assumption)) | (refine Ex.of_grown ?_ (by assumption) (by intro k hk; cases hk; omega)))) (Nat.le_refl _))⟩)
        | ((with_reducible apply p_retct); exact rfl; exact rfl; exact inferInstance; exact inferInstance; exact rfl; (focus ((repeat (first | assumption | ((with_reducible apply Bx.grownS); assumption; (first | omega | exact Bx.ne (by assumption) (by omega))) | ((with_reducible apply Bx.below); assumption; omega) | ((with_reducible apply Bx.ex); assumption))); done)); exact rfl; exact rfl; refine ⟨_, rfl, ?_, (by repeat (first | assumption | exact Ex.refl _ | (refine Ex.trans ?_ (by assumption)) | (refine Ex.of_grown ?_ (by assumption) (by intro k hk; cases hk; omega))))⟩)
        | ((exfalso; omega)))
    all_goals first | exact OwnP.nil _ _ _ | trace_state
  · have kA : True := trivial
    refine ret_of_c Try.func96 rfl Try.ntmps96 (Nat.le_of_ble_eq_true rfl) (by dsimp only [ini, Nat.reduceAdd] <;> exact rfl) ?_
    repeat' (first
        | ((with_reducible apply W_op); exact rfl; exact rfl; exact r_eqNil hv)
        | ((first | ((with_reducible apply W_op); exact rfl; exact rfl)); (first | ((with_reducible apply r_move); ((conv => lhs; whnf) <;> exact rfl)) | ((with_reducible apply r_assign); ((conv => lhs; whnf) <;> exact rfl)) | ((with_reducible apply r_eql); exact rfl; exact rfl) | ((with_reducible apply r_eqlb); exact rfl; exact rfl)))
        | (clear kA; (with_reducible apply W_bs0); intro b0c wq hbc he hnq; have hsz := he.size; rw [← hnq] at hbc; have hltb := (OwnV.lt hbc b0c rfl).2; have kC1 : True := trivial)
        | (clear kC1; refine W_appendPs (w0 := w) (v := .slice (some ⟨b0c, 0, none⟩) 0 0) (base := b0c) (xs := []) (ys := xs) rfl rfl (OwnP.ofV0 hbc) rfl (Prs.ex (by repeat (first | assumption | exact Ex.refl _ | (refine Ex.trans ?_ (by assumption)) | (refine Ex.of_grown ?_ (by assumption) (by intro k hk; cases hk; omega)))) h) (.inr ⟨a, n, c, hv⟩) (by simp only [List.length_nil]; omega) (by repeat (first | assumption | exact Ex.refl _ | (refine Ex.trans ?_ (by assumption)) | (refine Ex.of_grown ?_ (by assumption) (by intro k hk; cases hk; omega)))) (by omega) (by omega) ?_; intro va wq hoa hel hbw hg2; rw [List.nil_append] at hoa; have he : Ex w wq := hel; have hsz := he.size; have hva1 := OwnP.one hoa)
        | (with_reducible apply W_nil)
        | ((with_reducible apply W_bsP); exact rfl; exact rfl; intro bq wq hbq he hnq; have hltq := Bx.lt hbq; have hsz := he.size)
        | (with_reducible apply c_seq)
        | ((with_reducible apply c_region); kernel_rfl)
        | (with_reducible apply n_nq)
        | (with_reducible apply c_skip)
        | (with_reducible apply c_ret)
        | ((with_reducible apply c_cond_true); exact rfl)
        | ((with_reducible apply c_cond_false); exact rfl)
        | ((with_reducible apply c_cond_dec); exact rfl; intro _; rotate_left 1; intro _)
        | ((with_reducible apply c_cond_bool); exact rfl; intro _; rotate_left 1; intro _)
        | (with_reducible apply n_then)
        | (with_reducible apply e_then)
        | (with_reducible apply r_then)
        | ((with_reducible apply p_ret1); exact rfl; exact rfl; ((conv => lhs; whnf) <;> exact rfl); refine ⟨_, rfl, ?_, (by repeat (first | assumption | exact Ex.refl _ | (refine Ex.trans ?_ (by assumption)) | (refine Ex.of_grown ?_ (by assumption) (by intro k hk; cases hk; omega))))⟩)
        | ((with_reducible apply m_ret1); (focus ((repeat (first | assumption | exact Al.nil _ _ | ((with_reducible apply Al.grownS); assumption; (focus ((repeat (first | assumption | ((with_reducible apply Bx.grownS); assumption; (first | omega | exact Bx.ne (by assumption) (by omega))) | ((with_reducible apply Bx.below); assumption; omega) | ((with_reducible apply Bx.ex); assumption))); done))) | (refine Al.ex (by assumption) ?_))); done)); exact rfl; ((conv => lhs; whnf) <;> exact rfl); refine ⟨_, rfl, ?_, (shut_grown _ _ (by repeat (first | assumption | exact Al.nil _ _ | ((with_reducible apply Al.grownS); assumption; (focus ((repeat (first | assumption | ((with_reducible apply Bx.grownS); assumption; (first | omega | exact Bx.ne (by assumption) (by omega))) | ((with_reducible apply Bx.below); assumption; omega) | ((with_reducible apply Bx.ex); assumption))); done))) | (refine Al.ex (by assumption) ?_))) (by repeat (first | assumption | exact Ex.refl _ | (refine Ex.trans ?_ (by assumption)) | (refine Ex.of_grown ?_ (by assumption) (by intro k hk; cases hk; omega)))) (Nat.le_refl _))⟩)
        | ((with_reducible apply p_retct); exact rfl; exact rfl; exact inferInstance; exact inferInstance; exact rfl; (focus ((repeat (first | assumption | ((with_reducible apply Bx.grownS); assumption; (first | omega | exact Bx.ne (by assumption) (by omega))) | ((with_reducible apply Bx.below); assumption; omega) | ((with_reducible apply Bx.ex); assumption))); done)); exact rfl; exact rfl; refine ⟨_, rfl, ?_, (by repeat (first | assumption | exact Ex.refl _ | (refine Ex.trans ?_ (by assumption)) | (refine Ex.of_grown ?_ (by assumption) (by intro k hk; cases hk; omega))))⟩)
        | ((exfalso; omega)))
    all_goals first | exact OwnP.lower (OwnP.ex (by repeat (first | assumption | exact Ex.refl _ | (refine Ex.trans ?_ (by assumption)) | (refine Ex.of_grown ?_ (by assumption) (by intro k hk; cases hk; omega)))) hoa) (by omega) | trace_state
end Go.Proofs.Ytngoipmdhliigaa
