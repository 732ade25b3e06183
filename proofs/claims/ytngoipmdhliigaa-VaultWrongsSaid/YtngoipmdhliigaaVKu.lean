/-
  (heavy) What this text proves: the iterator of choices yields every choice of a size. Conditions: the values read as lists.
-/
import Derived.Test.YtngoipmdhliigaaVKr
set_option linter.unusedVariables false
set_option linter.unusedSimpArgs false
namespace Go.Proofs.Ytngoipmdhliigaa
open Go.Pv Go.RowKit Go.Sort
set_option maxHeartbeats 8000000
set_option maxRecDepth 20000
theorem choices_any (k : Nat) (v : Value) (sh : List (Int × Int)) (w : World) (h : Prs w v sh) : Ret Try.prog 89 [v, .int .i64 (k : Int)] w fun r w' =>
    ∃ b1 b2, r = .func (.func 92) #[] #[.pointer (some ⟨b1, 0, none⟩), .pointer (some ⟨b2, 0, none⟩)] ∧ Bx w' b1 [v] 28 ∧ Bx w' b2 [.int .i64 (k : Int)] 3 ∧ w.heap.size ≤ b1 ∧ w.heap.size ≤ b2 := by
  obtain ⟨a, n, c, rfl⟩ : ∃ a n c, v = .slice a n c := by unfold Prs at h; obtain ⟨_, a, c, e, _⟩ := h; exact ⟨_, _, _, e⟩
  clear h
  refine ret_of_c Try.func89 rfl Try.ntmps89 (Nat.le_of_ble_eq_true rfl) (by dsimp only [ini, Nat.reduceAdd] <;> exact rfl) ?_
  repeat' (first
      | ((with_reducible apply W_op); exact rfl; exact rfl; exact r_makeFunc rfl rfl)
      | ((first | ((with_reducible apply W_op); exact rfl; exact rfl)); (first | ((with_reducible apply r_assign); ((conv => lhs; whnf) <;> exact rfl)) | ((with_reducible apply r_mf1); ((conv => lhs; whnf) <;> exact rfl)) | ((with_reducible apply r_mfc); ((conv => lhs; whnf) <;> exact rfl)) | ((with_reducible apply r_makeFunc); exact rfl; exact rfl)))
      | (with_reducible apply W_nil)
      | ((with_reducible apply W_box); exact rfl; exact rfl; intro bq wq hbq he hnq; have hltq := Bx.lt hbq; have hsz := he.size)
      | (with_reducible apply c_seq)
      | ((with_reducible apply c_region); kernel_rfl)
      | (with_reducible apply n_nq)
      | (with_reducible apply c_skip)
      | (with_reducible apply c_ret)
      | (with_reducible apply n_then)
      | (with_reducible apply e_then)
      | (with_reducible apply r_then)
      | ((with_reducible apply p_ret1); exact rfl; exact rfl; ((conv => lhs; whnf) <;> exact rfl); refine ⟨_, rfl, ?_, (by repeat (first | assumption | exact Ex.refl _ | (refine Ex.trans ?_ (by assumption)) | (refine Ex.of_grown ?_ (by assumption) (by intro k hk; cases hk; omega))))⟩)
      | ((with_reducible apply m_ret1); (focus ((repeat (first | assumption | exact Al.nil _ _ | ((with_reducible apply Al.grownS); assumption; (focus ((repeat (first | assumption | ((with_reducible apply Bx.grownS); assumption; (first | omega | exact Bx.ne (by assumption) (by omega))) | ((with_reducible apply Bx.below); assumption; omega) | ((with_reducible apply Bx.ex); assumption))); done))) | (refine Al.ex (by assumption) ?_))); done)); exact rfl; ((conv => lhs; whnf) <;> exact rfl); refine ⟨_, rfl, ?_, (shut_grown _ _ (by repeat (first | assumption | exact Al.nil _ _ | ((with_reducible apply Al.grownS); assumption; (focus ((repeat (first | assumption | ((with_reducible apply Bx.grownS); assumption; (first | omega | exact Bx.ne (by assumption) (by omega))) | ((with_reducible apply Bx.below); assumption; omega) | ((with_reducible apply Bx.ex); assumption))); done))) | (refine Al.ex (by assumption) ?_))) (by repeat (first | assumption | exact Ex.refl _ | (refine Ex.trans ?_ (by assumption)) | (refine Ex.of_grown ?_ (by assumption) (by intro k hk; cases hk; omega)))) (Nat.le_refl _))⟩)
      | ((with_reducible apply p_retct); exact rfl; exact rfl; exact inferInstance; exact inferInstance; exact rfl; (focus ((repeat (first | assumption | ((with_reducible apply Bx.grownS); assumption; (first | omega | exact Bx.ne (by assumption) (by omega))) | ((with_reducible apply Bx.below); assumption; omega) | ((with_reducible apply Bx.ex); assumption))); done)); exact rfl; exact rfl; refine ⟨_, rfl, ?_, (by repeat (first | assumption | exact Ex.refl _ | (refine Ex.trans ?_ (by assumption)) | (refine Ex.of_grown ?_ (by assumption) (by intro k hk; cases hk; omega))))⟩)
      | ((exfalso; omega)))
  all_goals first
    | exact ⟨_, _, rfl, (by repeat (first | assumption | ((with_reducible apply Bx.grownS); assumption; (first | omega | exact Bx.ne (by assumption) (by omega))) | ((with_reducible apply Bx.below); assumption; omega) | ((with_reducible apply Bx.ex); assumption))), (by repeat (first | assumption | ((with_reducible apply Bx.grownS); assumption; (first | omega | exact Bx.ne (by assumption) (by omega))) | ((with_reducible apply Bx.below); assumption; omega) | ((with_reducible apply Bx.ex); assumption))), by omega, by omega⟩
    | trace_state
theorem choices1_seq (k : Nat) (v : Value) (sh : List (Int × Int)) (b1 b2 : Nat) (w1 : World) (h : Prs w1 v sh) (hk : k ≤ sh.length) (hsl : sh.length ≤ 20) (hx1 : Bx w1 b1 [v] 28) (hx2 : Bx w1 b2 [.int .i64 (k : Int)] 3) :
    SeqT Try.prog 92 #[.pointer (some ⟨b1, 0, none⟩), .pointer (some ⟨b2, 0, none⟩)] (fun x : CV => [x.2].toArray) KC (TC k sh) (fun xs => ∀ s, s.Sublist sh → s.length = k → ∃ u, (s, u) ∈ xs) (fun _ => True) w1 := by
  intro y JJ JX w hW hJ hX hY h0
  have hW2 : Ex w1 w := by unfold Ex; exact hW
  have hv1 := h.one
  have hx1w := hx1.ex hW2
  have hx2w := hx2.ex hW2
  have hpw : Prs w v sh := Prs.ex hW2 h
  refine callsIn_wide.2 ?_
  show Calls Try.prog _ (List.toArray [.func (.yield y) #[] #[], .pointer (some ⟨b1, 0, none⟩), .pointer (some ⟨b2, 0, none⟩)]) w _
  refine calls_of_c Try.func92 rfl Try.ntmps92 (Nat.le_of_ble_eq_true rfl) (by dsimp only [ini, Nat.reduceAdd] <;> exact rfl) ?_
  repeat' (first
      | (refine W_callE (w0 := w) (by repeat (first | assumption | exact Ex.refl _ | (refine Ex.trans ?_ (by assumption)) | (refine Ex.of_grown ?_ (by assumption) (by intro k hk; cases hk; omega)))) (choose_any y k sh w.heap.size JJ JX hJ hX hsl hY k (.slice none 0 0) v [] sh [] w (OwnP.prs (OwnP.nil 0 0 w)) (.inl rfl) hpw (by simp) hk (List.Sublist.refl _) h0) rfl ?_; rintro vq wq hex (⟨rfl, zs, hjz, hkz, hallz⟩ | ⟨rfl, q, hjq⟩))
      | ((first | ((with_reducible apply W_op); exact rfl; exact rfl)); (first | ((with_reducible apply r_move); ((conv => lhs; whnf) <;> exact rfl)) | ((with_reducible apply r_load); exact rfl; exact rfl; (first | assumption | exact (Bx.cell (by repeat (first | assumption | ((with_reducible apply Bx.grownS); assumption; (first | omega | exact Bx.ne (by assumption) (by omega))) | ((with_reducible apply Bx.below); assumption; omega) | ((with_reducible apply Bx.ex); assumption))) _).trans rfl | exact Ex.cell (by assumption) (by assumption))) | ((with_reducible apply r_loadF); exact rfl; (first | assumption | exact (Bx.cell (by repeat (first | assumption | ((with_reducible apply Bx.grownS); assumption; (first | omega | exact Bx.ne (by assumption) (by omega))) | ((with_reducible apply Bx.below); assumption; omega) | ((with_reducible apply Bx.ex); assumption))) _).trans rfl | exact Ex.cell (by assumption) (by assumption))) | ((with_reducible apply r_loadA); exact rfl; (first | assumption | exact Bx.cells (by repeat (first | assumption | ((with_reducible apply Bx.grownS); assumption; (first | omega | exact Bx.ne (by assumption) (by omega))) | ((with_reducible apply Bx.below); assumption; omega) | ((with_reducible apply Bx.ex); assumption))) | exact Cells.ex (by assumption) (by assumption)); exact rfl) | ((with_reducible apply r_loadSub); exact rfl; (focus ((repeat (first | assumption | ((with_reducible apply Bx.grownS); assumption; (first | omega | exact Bx.ne (by assumption) (by omega))) | ((with_reducible apply Bx.below); assumption; omega) | ((with_reducible apply Bx.ex); assumption))); done)); ((simp only [Nat.add_zero, Nat.zero_add, Nat.reduceAdd, List.drop_zero, List.drop_succ_cons, List.take_succ_cons, List.take_zero]) <;> exact rfl); exact rfl)))
      | (with_reducible apply W_nil)
      | (with_reducible apply c_seq)
      | ((with_reducible apply c_region); kernel_rfl)
      | (with_reducible apply n_nq)
      | (with_reducible apply c_skip)
      | (with_reducible apply c_ret)
      | (with_reducible apply n_then)
      | (with_reducible apply e_then)
      | (with_reducible apply r_then)
      | ((with_reducible apply p_retct); exact rfl; exact rfl; exact inferInstance; exact inferInstance; exact rfl; (focus ((repeat (first | assumption | ((with_reducible apply Bx.grownS); assumption; (first | omega | exact Bx.ne (by assumption) (by omega))) | ((with_reducible apply Bx.below); assumption; omega) | ((with_reducible apply Bx.ex); assumption))); done)); exact rfl; exact rfl; refine ⟨_, rfl, ?_, (by repeat (first | assumption | exact Ex.refl _ | (refine Ex.trans ?_ (by assumption)) | (refine Ex.of_grown ?_ (by assumption) (by intro k hk; cases hk; omega))))⟩)
      | ((exfalso; omega)))
  all_goals first
    | exact p_end0 rfl rfl ⟨⟨_, rfl⟩, .inl ⟨zs, hallz, hjz⟩⟩
    | exact p_end0 rfl rfl ⟨⟨_, rfl⟩, .inr ⟨q, trivial, hjq⟩⟩
    | trace_state
end Go.Proofs.Ytngoipmdhliigaa
