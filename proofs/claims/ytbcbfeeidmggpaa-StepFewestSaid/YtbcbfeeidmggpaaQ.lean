/-
  What this text proves: the sheets of the examples, and what is reckoned of them.
-/
import Derived.Test.YtbcbfeeidmggpaaO
import Derived.Test.YtbcbfeeidmggpaaI
import Derived.Test.YtbcbfeeidmggpaaB2
set_option linter.unusedVariables false
set_option linter.unusedSimpArgs false

namespace Go.Pv
theorem IntsK.built {k : IntKind} {w : World} {b : Nat} {E : TypeId} {xs : List Int} {n : Nat} (h : Bx w b (xs.map (Value.int k)) E) (hn : n = xs.length) (hm : xs.length ≤ 1000) : IntsK k w (.slice (some ⟨b, 0, none⟩) n n) xs := by
  subst hn
  unfold IntsK Sl
  refine ⟨by unfold maxLen; omega, some ⟨b, 0, none⟩, xs.length, rfl, Nat.le_refl _, by unfold maxLen; omega, fun i hi => ⟨⟨b, 0, none⟩, Value.int k xs[i], rfl, ?_, rfl⟩⟩
  have := Bx.cells h
  unfold Cells at this
  exact this i (.int k xs[i]) (by simp [hi])
theorem Intss.built {w : World} {b : Nat} {E : TypeId} {us : List Value} {xss : List (List Int)} {n : Nat} (h : Bx w b us E) (hn : n = xss.length) (hl : us.length = xss.length) (hm : xss.length ≤ 1000) (hall : ∀ j, j < xss.length → Ints w (us.getD j undef) (xss.getD j [])) : Intss w (.slice (some ⟨b, 0, none⟩) n n) xss := by
  subst hn
  unfold Intss Sl
  refine ⟨by unfold maxLen; omega, some ⟨b, 0, none⟩, xss.length, rfl, Nat.le_refl _, by unfold maxLen; omega, fun i hi => ⟨⟨b, 0, none⟩, us.getD i undef, rfl, ?_, ?_⟩⟩
  · have := Bx.cells h
    unfold Cells at this
    exact this i (us.getD i undef) (by simp [hl, hi])
  · have := hall i hi
    simpa [hi] using this
end Go.Pv
namespace Go.Proofs.Ytbcbfeeidmggpaa
open Go.Pv Go.RowKit Go.Shelf
set_option maxHeartbeats 8000000
set_option linter.unusedVariables false
set_option linter.unusedSimpArgs false

theorem sheetX_any (w : World) : Ret Try.prog 18 [] w fun r w' => ∃ v, r = .agg #[.int .i64 1, v] ∧ Intss w' v [[10, 24, 31, 45], [3, 17]] := by
  refine ret_of_c Try.func18 rfl Try.ntmps18 (Nat.le_of_ble_eq_true rfl) (by dsimp only [ini, Nat.reduceAdd] <;> exact rfl) ?_
  repeat' (first
      | ((first | ((with_reducible apply W_op); exact rfl; exact rfl)); (first | ((with_reducible apply r_build1); ((conv => lhs; whnf) <;> exact rfl); (first | exact rfl | assumption | exact IntsK.one (by assumption) | exact Intss.one (by assumption) | exact Prs.one (by assumption) | exact OwnP.one (by assumption) | exact OwnV.one (by assumption) | exact Vals.one (by assumption) | exact Own.one (by assumption)); exact rfl; exact rfl; ((simp only [lay, lset, List.replicate_succ, List.replicate_zero]) <;> exact rfl)) | ((with_reducible apply r_build2); ((conv => lhs; whnf) <;> exact rfl); ((conv => lhs; whnf) <;> exact rfl); (first | exact rfl | assumption | exact IntsK.one (by assumption) | exact Intss.one (by assumption) | exact Prs.one (by assumption) | exact OwnP.one (by assumption) | exact OwnV.one (by assumption) | exact Vals.one (by assumption) | exact Own.one (by assumption)); (first | exact rfl | assumption | exact IntsK.one (by assumption) | exact Intss.one (by assumption) | exact Prs.one (by assumption) | exact OwnP.one (by assumption) | exact OwnV.one (by assumption) | exact Vals.one (by assumption) | exact Own.one (by assumption)); exact rfl; exact rfl; ((simp only [lay, lset, List.replicate_succ, List.replicate_zero]) <;> exact rfl)) | ((with_reducible apply r_build3); ((conv => lhs; whnf) <;> exact rfl); ((conv => lhs; whnf) <;> exact rfl); ((conv => lhs; whnf) <;> exact rfl); (first | exact rfl | assumption | exact IntsK.one (by assumption) | exact Intss.one (by assumption) | exact Prs.one (by assumption) | exact OwnP.one (by assumption) | exact OwnV.one (by assumption) | exact Vals.one (by assumption) | exact Own.one (by assumption)); (first | exact rfl | assumption | exact IntsK.one (by assumption) | exact Intss.one (by assumption) | exact Prs.one (by assumption) | exact OwnP.one (by assumption) | exact OwnV.one (by assumption) | exact Vals.one (by assumption) | exact Own.one (by assumption)); (first | exact rfl | assumption | exact IntsK.one (by assumption) | exact Intss.one (by assumption) | exact Prs.one (by assumption) | exact OwnP.one (by assumption) | exact OwnV.one (by assumption) | exact Vals.one (by assumption) | exact Own.one (by assumption)); exact rfl; exact rfl; ((simp only [lay, lset, List.replicate_succ, List.replicate_zero]) <;> exact rfl)) | ((with_reducible apply r_build4); ((conv => lhs; whnf) <;> exact rfl); ((conv => lhs; whnf) <;> exact rfl); ((conv => lhs; whnf) <;> exact rfl); ((conv => lhs; whnf) <;> exact rfl); (first | exact rfl | assumption | exact IntsK.one (by assumption) | exact Intss.one (by assumption) | exact Prs.one (by assumption) | exact OwnP.one (by assumption) | exact OwnV.one (by assumption) | exact Vals.one (by assumption) | exact Own.one (by assumption)); (first | exact rfl | assumption | exact IntsK.one (by assumption) | exact Intss.one (by assumption) | exact Prs.one (by assumption) | exact OwnP.one (by assumption) | exact OwnV.one (by assumption) | exact Vals.one (by assumption) | exact Own.one (by assumption)); (first | exact rfl | assumption | exact IntsK.one (by assumption) | exact Intss.one (by assumption) | exact Prs.one (by assumption) | exact OwnP.one (by assumption) | exact OwnV.one (by assumption) | exact Vals.one (by assumption) | exact Own.one (by assumption)); (first | exact rfl | assumption | exact IntsK.one (by assumption) | exact Intss.one (by assumption) | exact Prs.one (by assumption) | exact OwnP.one (by assumption) | exact OwnV.one (by assumption) | exact Vals.one (by assumption) | exact Own.one (by assumption)); exact rfl; exact rfl; ((simp only [lay, lset, List.replicate_succ, List.replicate_zero]) <;> exact rfl))))
      | (with_reducible apply W_nil)
      | ((with_reducible apply W_alloc); exact rfl; intro bq wq hbq he hnq; have hltq := Bx.lt hbq; have hsz := he.size)
      | ((with_reducible apply W_bsP); exact rfl; exact rfl; intro bq wq hbq he hnq; have hltq := Bx.lt hbq; have hsz := he.size)
      | ((with_reducible apply W_storeA); exact rfl; (focus ((repeat (first | assumption | ((with_reducible apply Bx.grownS); assumption; (first | omega | exact Nat.ne_of_lt (Nat.lt_of_lt_of_le (Bx.lt (by assumption)) (by omega)))) | ((with_reducible apply Bx.below); assumption; omega) | ((with_reducible apply OwnP.grownS); assumption; omega) | ((with_reducible apply Own.grownS); assumption; omega) | ((with_reducible apply OwnV.grownS); assumption; omega) | ((with_reducible apply OwnV.ex); assumption) | ((with_reducible apply Vals.ex); assumption) | ((with_reducible apply Bx.ex); assumption) | ((with_reducible apply IntsK.ex); assumption) | ((with_reducible apply Intss.ex); assumption) | ((with_reducible apply Own.ex); assumption) | ((with_reducible apply Prs.ex); assumption) | ((with_reducible apply OwnP.ex); assumption))); done)); exact rfl; exact rfl; exact rfl; (repeat' (first | exact trivial | (first | exact rfl | assumption | exact IntsK.one (by assumption) | exact Intss.one (by assumption) | exact Prs.one (by assumption) | exact OwnP.one (by assumption) | exact OwnV.one (by assumption) | exact Vals.one (by assumption) | exact Own.one (by assumption)) | constructor)); intro wq hbq hgq; have he : Ex w wq := (by repeat (first | assumption | exact Ex.refl _ | (refine Ex.trans ?_ (by assumption)) | (refine Ex.of_grown ?_ (by assumption) (by intro k hk; cases hk; omega)))); have hsz := he.size)
      | ((with_reducible apply W_store); exact rfl; (focus ((repeat (first | assumption | ((with_reducible apply Bx.grownS); assumption; (first | omega | exact Nat.ne_of_lt (Nat.lt_of_lt_of_le (Bx.lt (by assumption)) (by omega)))) | ((with_reducible apply Bx.below); assumption; omega) | ((with_reducible apply OwnP.grownS); assumption; omega) | ((with_reducible apply Own.grownS); assumption; omega) | ((with_reducible apply OwnV.grownS); assumption; omega) | ((with_reducible apply OwnV.ex); assumption) | ((with_reducible apply Vals.ex); assumption) | ((with_reducible apply Bx.ex); assumption) | ((with_reducible apply IntsK.ex); assumption) | ((with_reducible apply Intss.ex); assumption) | ((with_reducible apply Own.ex); assumption) | ((with_reducible apply Prs.ex); assumption) | ((with_reducible apply OwnP.ex); assumption))); done)); exact Nat.le_of_ble_eq_true rfl; ((conv => lhs; whnf) <;> exact rfl); (first | exact rfl | assumption | exact IntsK.one (by assumption) | exact Intss.one (by assumption) | exact Prs.one (by assumption) | exact OwnP.one (by assumption) | exact OwnV.one (by assumption) | exact Vals.one (by assumption) | exact Own.one (by assumption)); simp only [lset]; intro wq hbq hgq; have he : Ex w wq := (by repeat (first | assumption | exact Ex.refl _ | (refine Ex.trans ?_ (by assumption)) | (refine Ex.of_grown ?_ (by assumption) (by intro k hk; cases hk; omega)))); have hsz := he.size)
      | ((with_reducible apply W_bs2); ((conv => lhs; whnf) <;> exact rfl); ((conv => lhs; whnf) <;> exact rfl); (first | exact rfl | assumption | exact IntsK.one (by assumption) | exact Intss.one (by assumption) | exact Prs.one (by assumption) | exact OwnP.one (by assumption) | exact OwnV.one (by assumption) | exact Vals.one (by assumption) | exact Own.one (by assumption)); (first | exact rfl | assumption | exact IntsK.one (by assumption) | exact Intss.one (by assumption) | exact Prs.one (by assumption) | exact OwnP.one (by assumption) | exact OwnV.one (by assumption) | exact Vals.one (by assumption) | exact Own.one (by assumption)); decide; decide; exact rfl; exact rfl; ((simp only [lay, lset, List.replicate_succ, List.replicate_zero]) <;> exact rfl); intro bq wq hbq he hnq; have hltq := Bx.lt hbq; have hsz := he.size)
      | ((with_reducible apply W_bs4); ((conv => lhs; whnf) <;> exact rfl); ((conv => lhs; whnf) <;> exact rfl); ((conv => lhs; whnf) <;> exact rfl); ((conv => lhs; whnf) <;> exact rfl); (first | exact rfl | assumption | exact IntsK.one (by assumption) | exact Intss.one (by assumption) | exact Prs.one (by assumption) | exact OwnP.one (by assumption) | exact OwnV.one (by assumption) | exact Vals.one (by assumption) | exact Own.one (by assumption)); (first | exact rfl | assumption | exact IntsK.one (by assumption) | exact Intss.one (by assumption) | exact Prs.one (by assumption) | exact OwnP.one (by assumption) | exact OwnV.one (by assumption) | exact Vals.one (by assumption) | exact Own.one (by assumption)); (first | exact rfl | assumption | exact IntsK.one (by assumption) | exact Intss.one (by assumption) | exact Prs.one (by assumption) | exact OwnP.one (by assumption) | exact OwnV.one (by assumption) | exact Vals.one (by assumption) | exact Own.one (by assumption)); (first | exact rfl | assumption | exact IntsK.one (by assumption) | exact Intss.one (by assumption) | exact Prs.one (by assumption) | exact OwnP.one (by assumption) | exact OwnV.one (by assumption) | exact Vals.one (by assumption) | exact Own.one (by assumption)); decide; decide; exact rfl; exact rfl; ((simp only [lay, lset, List.replicate_succ, List.replicate_zero]) <;> exact rfl); intro bq wq hbq he hnq; have hltq := Bx.lt hbq; have hsz := he.size)
      | (with_reducible apply c_seq)
      | (with_reducible apply c_region)
      | (with_reducible apply c_skip)
      | (with_reducible apply c_ret)
      | (with_reducible apply n_then)
      | (with_reducible apply e_then)
      | (with_reducible apply r_then)
      | ((with_reducible apply p_retc); exact rfl; exact inferInstance; exact inferInstance; exact rfl; (focus ((repeat (first | assumption | ((with_reducible apply Bx.grownS); assumption; (first | omega | exact Nat.ne_of_lt (Nat.lt_of_lt_of_le (Bx.lt (by assumption)) (by omega)))) | ((with_reducible apply Bx.below); assumption; omega) | ((with_reducible apply OwnP.grownS); assumption; omega) | ((with_reducible apply Own.grownS); assumption; omega) | ((with_reducible apply OwnV.grownS); assumption; omega) | ((with_reducible apply OwnV.ex); assumption) | ((with_reducible apply Vals.ex); assumption) | ((with_reducible apply Bx.ex); assumption) | ((with_reducible apply IntsK.ex); assumption) | ((with_reducible apply Intss.ex); assumption) | ((with_reducible apply Own.ex); assumption) | ((with_reducible apply Prs.ex); assumption) | ((with_reducible apply OwnP.ex); assumption))); done)); exact rfl; refine ⟨_, rfl, ?_, (by repeat (first | assumption | exact Ex.refl _ | (refine Ex.trans ?_ (by assumption)) | (refine Ex.of_grown ?_ (by assumption) (by intro k hk; cases hk; omega))))⟩)
      | ((exfalso; omega)))
  refine ⟨_, rfl, Intss.built (by repeat (first | assumption | ((with_reducible apply Bx.grownS); assumption; (first | omega | exact Nat.ne_of_lt (Nat.lt_of_lt_of_le (Bx.lt (by assumption)) (by omega)))) | ((with_reducible apply Bx.below); assumption; omega) | ((with_reducible apply OwnP.grownS); assumption; omega) | ((with_reducible apply Own.grownS); assumption; omega) | ((with_reducible apply OwnV.grownS); assumption; omega) | ((with_reducible apply OwnV.ex); assumption) | ((with_reducible apply Vals.ex); assumption) | ((with_reducible apply Bx.ex); assumption) | ((with_reducible apply IntsK.ex); assumption) | ((with_reducible apply Intss.ex); assumption) | ((with_reducible apply Own.ex); assumption) | ((with_reducible apply Prs.ex); assumption) | ((with_reducible apply OwnP.ex); assumption))) rfl rfl (by decide) ?_⟩
  intro j hj
  rcases (show j = 0 ∨ j = 1 from by simp at hj; omega) with rfl | rfl
  · exact IntsK.built (xs := [10, 24, 31, 45]) (show Bx _ _ [.int .i64 10, .int .i64 24, .int .i64 31, .int .i64 45] _ from (by repeat (first | assumption | ((with_reducible apply Bx.grownS); assumption; (first | omega | exact Nat.ne_of_lt (Nat.lt_of_lt_of_le (Bx.lt (by assumption)) (by omega)))) | ((with_reducible apply Bx.below); assumption; omega) | ((with_reducible apply OwnP.grownS); assumption; omega) | ((with_reducible apply Own.grownS); assumption; omega) | ((with_reducible apply OwnV.grownS); assumption; omega) | ((with_reducible apply OwnV.ex); assumption) | ((with_reducible apply Vals.ex); assumption) | ((with_reducible apply Bx.ex); assumption) | ((with_reducible apply IntsK.ex); assumption) | ((with_reducible apply Intss.ex); assumption) | ((with_reducible apply Own.ex); assumption) | ((with_reducible apply Prs.ex); assumption) | ((with_reducible apply OwnP.ex); assumption)))) rfl (by decide)
  · exact IntsK.built (xs := [3, 17]) (show Bx _ _ [.int .i64 3, .int .i64 17] _ from (by repeat (first | assumption | ((with_reducible apply Bx.grownS); assumption; (first | omega | exact Nat.ne_of_lt (Nat.lt_of_lt_of_le (Bx.lt (by assumption)) (by omega)))) | ((with_reducible apply Bx.below); assumption; omega) | ((with_reducible apply OwnP.grownS); assumption; omega) | ((with_reducible apply Own.grownS); assumption; omega) | ((with_reducible apply OwnV.grownS); assumption; omega) | ((with_reducible apply OwnV.ex); assumption) | ((with_reducible apply Vals.ex); assumption) | ((with_reducible apply Bx.ex); assumption) | ((with_reducible apply IntsK.ex); assumption) | ((with_reducible apply Intss.ex); assumption) | ((with_reducible apply Own.ex); assumption) | ((with_reducible apply Prs.ex); assumption) | ((with_reducible apply OwnP.ex); assumption)))) rfl (by decide)
theorem sheetW_any (w : World) : Ret Try.prog 21 [] w fun r w' => ∃ v, r = .agg #[.int .i64 1, v] ∧ Intss w' v [[0, 2, 4]] := by
  refine ret_of_c Try.func21 rfl Try.ntmps21 (Nat.le_of_ble_eq_true rfl) (by dsimp only [ini, Nat.reduceAdd] <;> exact rfl) ?_
  repeat' (first
      | ((first | ((with_reducible apply W_op); exact rfl; exact rfl)); (first | ((with_reducible apply r_build1); ((conv => lhs; whnf) <;> exact rfl); (first | exact rfl | assumption | exact IntsK.one (by assumption) | exact Intss.one (by assumption) | exact Prs.one (by assumption) | exact OwnP.one (by assumption) | exact OwnV.one (by assumption) | exact Vals.one (by assumption) | exact Own.one (by assumption)); exact rfl; exact rfl; ((simp only [lay, lset, List.replicate_succ, List.replicate_zero]) <;> exact rfl)) | ((with_reducible apply r_build2); ((conv => lhs; whnf) <;> exact rfl); ((conv => lhs; whnf) <;> exact rfl); (first | exact rfl | assumption | exact IntsK.one (by assumption) | exact Intss.one (by assumption) | exact Prs.one (by assumption) | exact OwnP.one (by assumption) | exact OwnV.one (by assumption) | exact Vals.one (by assumption) | exact Own.one (by assumption)); (first | exact rfl | assumption | exact IntsK.one (by assumption) | exact Intss.one (by assumption) | exact Prs.one (by assumption) | exact OwnP.one (by assumption) | exact OwnV.one (by assumption) | exact Vals.one (by assumption) | exact Own.one (by assumption)); exact rfl; exact rfl; ((simp only [lay, lset, List.replicate_succ, List.replicate_zero]) <;> exact rfl)) | ((with_reducible apply r_build3); ((conv => lhs; whnf) <;> exact rfl); ((conv => lhs; whnf) <;> exact rfl); ((conv => lhs; whnf) <;> exact rfl); (first | exact rfl | assumption | exact IntsK.one (by assumption) | exact Intss.one (by assumption) | exact Prs.one (by assumption) | exact OwnP.one (by assumption) | exact OwnV.one (by assumption) | exact Vals.one (by assumption) | exact Own.one (by assumption)); (first | exact rfl | assumption | exact IntsK.one (by assumption) | exact Intss.one (by assumption) | exact Prs.one (by assumption) | exact OwnP.one (by assumption) | exact OwnV.one (by assumption) | exact Vals.one (by assumption) | exact Own.one (by assumption)); (first | exact rfl | assumption | exact IntsK.one (by assumption) | exact Intss.one (by assumption) | exact Prs.one (by assumption) | exact OwnP.one (by assumption) | exact OwnV.one (by assumption) | exact Vals.one (by assumption) | exact Own.one (by assumption)); exact rfl; exact rfl; ((simp only [lay, lset, List.replicate_succ, List.replicate_zero]) <;> exact rfl)) | ((with_reducible apply r_build4); ((conv => lhs; whnf) <;> exact rfl); ((conv => lhs; whnf) <;> exact rfl); ((conv => lhs; whnf) <;> exact rfl); ((conv => lhs; whnf) <;> exact rfl); (first | exact rfl | assumption | exact IntsK.one (by assumption) | exact Intss.one (by assumption) | exact Prs.one (by assumption) | exact OwnP.one (by assumption) | exact OwnV.one (by assumption) | exact Vals.one (by assumption) | exact Own.one (by assumption)); (first | exact rfl | assumption | exact IntsK.one (by assumption) | exact Intss.one (by assumption) | exact Prs.one (by assumption) | exact OwnP.one (by assumption) | exact OwnV.one (by assumption) | exact Vals.one (by assumption) | exact Own.one (by assumption)); (first | exact rfl | assumption | exact IntsK.one (by assumption) | exact Intss.one (by assumption) | exact Prs.one (by assumption) | exact OwnP.one (by assumption) | exact OwnV.one (by assumption) | exact Vals.one (by assumption) | exact Own.one (by assumption)); (first | exact rfl | assumption | exact IntsK.one (by assumption) | exact Intss.one (by assumption) | exact Prs.one (by assumption) | exact OwnP.one (by assumption) | exact OwnV.one (by assumption) | exact Vals.one (by assumption) | exact Own.one (by assumption)); exact rfl; exact rfl; ((simp only [lay, lset, List.replicate_succ, List.replicate_zero]) <;> exact rfl))))
      | (with_reducible apply W_nil)
      | ((with_reducible apply W_alloc); exact rfl; intro bq wq hbq he hnq; have hltq := Bx.lt hbq; have hsz := he.size)
      | ((with_reducible apply W_bsP); exact rfl; exact rfl; intro bq wq hbq he hnq; have hltq := Bx.lt hbq; have hsz := he.size)
      | ((with_reducible apply W_storeA); exact rfl; (focus ((repeat (first | assumption | ((with_reducible apply Bx.grownS); assumption; (first | omega | exact Nat.ne_of_lt (Nat.lt_of_lt_of_le (Bx.lt (by assumption)) (by omega)))) | ((with_reducible apply Bx.below); assumption; omega) | ((with_reducible apply OwnP.grownS); assumption; omega) | ((with_reducible apply Own.grownS); assumption; omega) | ((with_reducible apply OwnV.grownS); assumption; omega) | ((with_reducible apply OwnV.ex); assumption) | ((with_reducible apply Vals.ex); assumption) | ((with_reducible apply Bx.ex); assumption) | ((with_reducible apply IntsK.ex); assumption) | ((with_reducible apply Intss.ex); assumption) | ((with_reducible apply Own.ex); assumption) | ((with_reducible apply Prs.ex); assumption) | ((with_reducible apply OwnP.ex); assumption))); done)); exact rfl; exact rfl; exact rfl; (repeat' (first | exact trivial | (first | exact rfl | assumption | exact IntsK.one (by assumption) | exact Intss.one (by assumption) | exact Prs.one (by assumption) | exact OwnP.one (by assumption) | exact OwnV.one (by assumption) | exact Vals.one (by assumption) | exact Own.one (by assumption)) | constructor)); intro wq hbq hgq; have he : Ex w wq := (by repeat (first | assumption | exact Ex.refl _ | (refine Ex.trans ?_ (by assumption)) | (refine Ex.of_grown ?_ (by assumption) (by intro k hk; cases hk; omega)))); have hsz := he.size)
      | ((with_reducible apply W_store); exact rfl; (focus ((repeat (first | assumption | ((with_reducible apply Bx.grownS); assumption; (first | omega | exact Nat.ne_of_lt (Nat.lt_of_lt_of_le (Bx.lt (by assumption)) (by omega)))) | ((with_reducible apply Bx.below); assumption; omega) | ((with_reducible apply OwnP.grownS); assumption; omega) | ((with_reducible apply Own.grownS); assumption; omega) | ((with_reducible apply OwnV.grownS); assumption; omega) | ((with_reducible apply OwnV.ex); assumption) | ((with_reducible apply Vals.ex); assumption) | ((with_reducible apply Bx.ex); assumption) | ((with_reducible apply IntsK.ex); assumption) | ((with_reducible apply Intss.ex); assumption) | ((with_reducible apply Own.ex); assumption) | ((with_reducible apply Prs.ex); assumption) | ((with_reducible apply OwnP.ex); assumption))); done)); exact Nat.le_of_ble_eq_true rfl; ((conv => lhs; whnf) <;> exact rfl); (first | exact rfl | assumption | exact IntsK.one (by assumption) | exact Intss.one (by assumption) | exact Prs.one (by assumption) | exact OwnP.one (by assumption) | exact OwnV.one (by assumption) | exact Vals.one (by assumption) | exact Own.one (by assumption)); simp only [lset]; intro wq hbq hgq; have he : Ex w wq := (by repeat (first | assumption | exact Ex.refl _ | (refine Ex.trans ?_ (by assumption)) | (refine Ex.of_grown ?_ (by assumption) (by intro k hk; cases hk; omega)))); have hsz := he.size)
      | ((with_reducible apply W_bs1); ((conv => lhs; whnf) <;> exact rfl); (first | exact rfl | assumption | exact IntsK.one (by assumption) | exact Intss.one (by assumption) | exact Prs.one (by assumption) | exact OwnP.one (by assumption) | exact OwnV.one (by assumption) | exact Vals.one (by assumption) | exact Own.one (by assumption)); decide; decide; exact rfl; exact rfl; ((simp only [lay, lset, List.replicate_succ, List.replicate_zero]) <;> exact rfl); intro bq wq hbq he hnq; have hltq := Bx.lt hbq; have hsz := he.size)
      | ((with_reducible apply W_bs3); ((conv => lhs; whnf) <;> exact rfl); ((conv => lhs; whnf) <;> exact rfl); ((conv => lhs; whnf) <;> exact rfl); (first | exact rfl | assumption | exact IntsK.one (by assumption) | exact Intss.one (by assumption) | exact Prs.one (by assumption) | exact OwnP.one (by assumption) | exact OwnV.one (by assumption) | exact Vals.one (by assumption) | exact Own.one (by assumption)); (first | exact rfl | assumption | exact IntsK.one (by assumption) | exact Intss.one (by assumption) | exact Prs.one (by assumption) | exact OwnP.one (by assumption) | exact OwnV.one (by assumption) | exact Vals.one (by assumption) | exact Own.one (by assumption)); (first | exact rfl | assumption | exact IntsK.one (by assumption) | exact Intss.one (by assumption) | exact Prs.one (by assumption) | exact OwnP.one (by assumption) | exact OwnV.one (by assumption) | exact Vals.one (by assumption) | exact Own.one (by assumption)); decide; decide; exact rfl; exact rfl; ((simp only [lay, lset, List.replicate_succ, List.replicate_zero]) <;> exact rfl); intro bq wq hbq he hnq; have hltq := Bx.lt hbq; have hsz := he.size)
      | (with_reducible apply c_seq)
      | (with_reducible apply c_region)
      | (with_reducible apply c_skip)
      | (with_reducible apply c_ret)
      | (with_reducible apply n_then)
      | (with_reducible apply e_then)
      | (with_reducible apply r_then)
      | ((with_reducible apply p_retc); exact rfl; exact inferInstance; exact inferInstance; exact rfl; (focus ((repeat (first | assumption | ((with_reducible apply Bx.grownS); assumption; (first | omega | exact Nat.ne_of_lt (Nat.lt_of_lt_of_le (Bx.lt (by assumption)) (by omega)))) | ((with_reducible apply Bx.below); assumption; omega) | ((with_reducible apply OwnP.grownS); assumption; omega) | ((with_reducible apply Own.grownS); assumption; omega) | ((with_reducible apply OwnV.grownS); assumption; omega) | ((with_reducible apply OwnV.ex); assumption) | ((with_reducible apply Vals.ex); assumption) | ((with_reducible apply Bx.ex); assumption) | ((with_reducible apply IntsK.ex); assumption) | ((with_reducible apply Intss.ex); assumption) | ((with_reducible apply Own.ex); assumption) | ((with_reducible apply Prs.ex); assumption) | ((with_reducible apply OwnP.ex); assumption))); done)); exact rfl; refine ⟨_, rfl, ?_, (by repeat (first | assumption | exact Ex.refl _ | (refine Ex.trans ?_ (by assumption)) | (refine Ex.of_grown ?_ (by assumption) (by intro k hk; cases hk; omega))))⟩)
      | ((exfalso; omega)))
  refine ⟨_, rfl, Intss.built (by repeat (first | assumption | ((with_reducible apply Bx.grownS); assumption; (first | omega | exact Nat.ne_of_lt (Nat.lt_of_lt_of_le (Bx.lt (by assumption)) (by omega)))) | ((with_reducible apply Bx.below); assumption; omega) | ((with_reducible apply OwnP.grownS); assumption; omega) | ((with_reducible apply Own.grownS); assumption; omega) | ((with_reducible apply OwnV.grownS); assumption; omega) | ((with_reducible apply OwnV.ex); assumption) | ((with_reducible apply Vals.ex); assumption) | ((with_reducible apply Bx.ex); assumption) | ((with_reducible apply IntsK.ex); assumption) | ((with_reducible apply Intss.ex); assumption) | ((with_reducible apply Own.ex); assumption) | ((with_reducible apply Prs.ex); assumption) | ((with_reducible apply OwnP.ex); assumption))) rfl rfl (by decide) ?_⟩
  intro j hj
  rcases (show j = 0 from by simp at hj; omega) with rfl
  exact IntsK.built (xs := [0, 2, 4]) (show Bx _ _ [.int .i64 0, .int .i64 2, .int .i64 4] _ from (by repeat (first | assumption | ((with_reducible apply Bx.grownS); assumption; (first | omega | exact Nat.ne_of_lt (Nat.lt_of_lt_of_le (Bx.lt (by assumption)) (by omega)))) | ((with_reducible apply Bx.below); assumption; omega) | ((with_reducible apply OwnP.grownS); assumption; omega) | ((with_reducible apply Own.grownS); assumption; omega) | ((with_reducible apply OwnV.grownS); assumption; omega) | ((with_reducible apply OwnV.ex); assumption) | ((with_reducible apply Vals.ex); assumption) | ((with_reducible apply Bx.ex); assumption) | ((with_reducible apply IntsK.ex); assumption) | ((with_reducible apply Intss.ex); assumption) | ((with_reducible apply Own.ex); assumption) | ((with_reducible apply Prs.ex); assumption) | ((with_reducible apply OwnP.ex); assumption)))) rfl (by decide)
/-- The positions of the examples' sheets. -/
def shX : List (List Int) := [[10, 24, 31, 45], [3, 17]]
def shW : List (List Int) := [[0, 2, 4]]
def shZ : List (List Int) := [[0, 4, 6]]
theorem ch_of {xs : List (Int × Int)} {s : Int} {g : Nat} {l m : List Int} (h : chainOf xs s g = some l) (hs : sortL l = m) : chainS xs s (g : Int) = m := by
  unfold chainS; rw [Int.toNat_natCast, h]; exact hs
theorem cl_W6 : clashL (ringL 1 6 [0, 2, 4]) 6 = [0, 1, 2] := by
  have h0 : chainS (ringL 1 6 [0, 2, 4]) 6 0 = [0, 1, 2] := ch_of (g := 0) (l := [0, 1, 2]) (by decide) (by simp [sortL, List.mergeSort])
  have h1 : chainS (ringL 1 6 [0, 2, 4]) 6 1 = [0, 1, 2] := ch_of (g := 1) (l := [1, 2, 0]) (by decide) (by simp [sortL, List.mergeSort])
  have h2 : chainS (ringL 1 6 [0, 2, 4]) 6 2 = [0, 1, 2] := ch_of (g := 2) (l := [2, 0, 1]) (by decide) (by simp [sortL, List.mergeSort])
  have hd : distTo (ringL 1 6 [0, 2, 4]) (ringL 1 6 [0, 2, 4]).length = [0, 1, 2] := by decide
  unfold clashL
  rw [hd]
  simp [bestTo, h0, h1, h2]
theorem cl_X8 : clashL (ringL 1 8 [10, 24, 31, 45]) 8 = [0, 2] := by
  have h0 : chainS (ringL 1 8 [10, 24, 31, 45]) 8 0 = [0, 2] := ch_of (g := 0) (l := [0, 2]) (by decide) (by simp [sortL, List.mergeSort])
  have h1 : chainS (ringL 1 8 [10, 24, 31, 45]) 8 1 = [1, 3] := ch_of (g := 1) (l := [1, 3]) (by decide) (by simp [sortL, List.mergeSort])
  have h2 : chainS (ringL 1 8 [10, 24, 31, 45]) 8 2 = [0, 2] := ch_of (g := 2) (l := [2, 0]) (by decide) (by simp [sortL, List.mergeSort])
  have h3 : chainS (ringL 1 8 [10, 24, 31, 45]) 8 3 = [0, 3] := ch_of (g := 3) (l := [3, 0]) (by decide) (by simp [sortL, List.mergeSort])
  have hd : distTo (ringL 1 8 [10, 24, 31, 45]) (ringL 1 8 [10, 24, 31, 45]).length = [0, 1, 2, 3] := by decide
  unfold clashL
  rw [hd]
  simp [bestTo, h0, h1, h2, h3]
theorem cl_Z4 : clashL (ringL 0 4 [0, 4, 6]) 4 = [0, 2] := by
  have h0 : chainS (ringL 0 4 [0, 4, 6]) 4 0 = [0, 2] := ch_of (g := 0) (l := [0, 2]) (by decide) (by simp [sortL, List.mergeSort])
  have h2 : chainS (ringL 0 4 [0, 4, 6]) 4 2 = [0, 2] := ch_of (g := 2) (l := [2, 0]) (by decide) (by simp [sortL, List.mergeSort])
  have hd : distTo (ringL 0 4 [0, 4, 6]) (ringL 0 4 [0, 4, 6]).length = [0, 2] := by decide
  unfold clashL
  rw [hd]
  simp [bestTo, h0, h2]
theorem w_steps (v : Value) (w : World) (h : Intss w v [[10, 24, 31, 45], [3, 17]]) : Ret Try.prog 16 [.agg #[.int .i64 1, v], .agg #[.int .i64 5, .int .i64 8]] w fun r w' => ∃ u, r = .tuple #[u, .int .i64 0] ∧ Ints w' u [5, 7] := by
  have h2 := steps_any 1 5 8 v _ w h
  rw [show (if spanErr 1 [[10, 24, 31, 45], [3, 17]] 5 8 = 0 then stepL 1 [[10, 24, 31, 45], [3, 17]] 5 (8 - 5 + 1 : Int).toNat else []) = [5, 7] by decide, show spanErr 1 [[10, 24, 31, 45], [3, 17]] 5 8 = 0 by decide] at h2
  exact h2
theorem w_gr (v : Value) (w : World) (h : Intss w v [[10, 24, 31, 45], [3, 17]]) : Ret Try.prog 19 [.agg #[.int .i64 1, v], .agg #[.int .i64 1, .int .i64 20]] w fun r _ => r = .tuple #[.int .i64 7, .int .i64 0] := by
  have h2 := greatest_any 1 1 20 v _ w h
  rw [show gr 1 [[10, 24, 31, 45], [3, 17]] 1 20 = (7, 0) by decide] at h2
  exact h2
theorem w_off (v : Value) (w : World) (h : Intss w v [[10, 24, 31, 45], [3, 17]]) : Ret Try.prog 14 [.agg #[.int .i64 1, v], .int .i64 0, .int .i64 7] w fun r w' => ∃ u, r = .tuple #[u, .int .i64 0] ∧ Ints w' u [2, 3, 4] := by
  have h2 := stepOffsets_any 1 0 7 v _ w h
  rw [show (if askErr 1 [[10, 24, 31, 45], [3, 17]] 0 7 = 0 then offL 1 7 ([[10, 24, 31, 45], [3, 17]].getD (0 : Int).toNat []) else []) = [2, 3, 4] by decide, show askErr 1 [[10, 24, 31, 45], [3, 17]] 0 7 = 0 by decide] at h2
  exact h2
theorem w_rows (v : Value) (w : World) (h : Intss w v [[0, 2, 4]]) : Ret Try.prog 20 [.agg #[.int .i64 1, v], .int .i64 0, .int .i64 2, .int .i64 1] w fun r w' => ∃ u, r = .tuple #[u, .int .i64 0] ∧ Prs w' u [(-1, 0), (0, 1), (1, 2)] := by
  have h2 := rows_any 1 0 2 1 v _ w h
  rw [show (if rowErr 1 [[0, 2, 4]] 0 2 1 = 0 then rowsL 1 2 1 ([[0, 2, 4]].getD (0 : Int).toNat []) else []) = [(-1, 0), (0, 1), (1, 2)] by decide, show rowErr 1 [[0, 2, 4]] 0 2 1 = 0 by decide] at h2
  exact h2
theorem w_cl1 (v : Value) (w : World) (h : Intss w v [[0, 2, 4]]) : Ret Try.prog 9 [.agg #[.int .i64 1, v], .int .i64 0, .int .i64 6] w fun r w' => ∃ u, r = .tuple #[u, .int .i64 0] ∧ Ints w' u [0, 1, 2] := by
  have h2 := stepClash_any 1 0 6 v _ w h (fun _ j hj => by
    have hj : j < 3 := hj
    rcases (show j = 0 ∨ j = 1 ∨ j = 2 by omega) with rfl | rfl | rfl
    · exact ⟨[0, 1, 2], by decide⟩
    · exact ⟨[1, 2, 0], by decide⟩
    · exact ⟨[2, 0, 1], by decide⟩)
  rw [show clErr 1 [[0, 2, 4]] 0 6 = 0 by decide, if_pos rfl] at h2
  rw [show ringL 1 6 ([[0, 2, 4]].getD (0 : Int).toNat []) = ringL 1 6 [0, 2, 4] from rfl, cl_W6] at h2
  exact h2
theorem w_cl2 (v : Value) (w : World) (h : Intss w v [[10, 24, 31, 45], [3, 17]]) : Ret Try.prog 9 [.agg #[.int .i64 1, v], .int .i64 0, .int .i64 8] w fun r w' => ∃ u, r = .tuple #[u, .int .i64 0] ∧ Ints w' u [0, 2] := by
  have h2 := stepClash_any 1 0 8 v _ w h (fun _ j hj => by
    have hj : j < 4 := hj
    rcases (show j = 0 ∨ j = 1 ∨ j = 2 ∨ j = 3 by omega) with rfl | rfl | rfl | rfl
    · exact ⟨[0, 2], by decide⟩
    · exact ⟨[1, 3], by decide⟩
    · exact ⟨[2, 0], by decide⟩
    · exact ⟨[3, 0], by decide⟩)
  rw [show clErr 1 [[10, 24, 31, 45], [3, 17]] 0 8 = 0 by decide, if_pos rfl] at h2
  rw [show ringL 1 8 ([[10, 24, 31, 45], [3, 17]].getD (0 : Int).toNat []) = ringL 1 8 [10, 24, 31, 45] from rfl, cl_X8] at h2
  exact h2
theorem w_cl3 (v : Value) (w : World) (h : Intss w v [[0, 4, 6]]) : Ret Try.prog 9 [.agg #[.int .i64 0, v], .int .i64 0, .int .i64 4] w fun r w' => ∃ u, r = .tuple #[u, .int .i64 0] ∧ Ints w' u [0, 2] := by
  have h2 := stepClash_any 0 0 4 v _ w h (fun _ j hj => by
    have hj : j < 3 := hj
    rcases (show j = 0 ∨ j = 1 ∨ j = 2 by omega) with rfl | rfl | rfl
    · exact ⟨[0, 2], by decide⟩
    · exact ⟨[1, 2], by decide⟩
    · exact ⟨[2, 0], by decide⟩)
  rw [show clErr 0 [[0, 4, 6]] 0 4 = 0 by decide, if_pos rfl] at h2
  rw [show ringL 0 4 ([[0, 4, 6]].getD (0 : Int).toNat []) = ringL 0 4 [0, 4, 6] from rfl, cl_Z4] at h2
  exact h2
theorem w_ver1 (v u : Value) (w : World) (h : Intss w v [[10, 24, 31, 45], [3, 17]]) (hu : Ints w u [0, 2]) : Ret Try.prog 12 [.agg #[.int .i64 1, v], .int .i64 0, .int .i64 8, u] w fun r _ => r = .int .i64 0 := by
  have h2 := verify_any 1 0 8 v u _ _ w h hu
  rw [show verErr 1 [[10, 24, 31, 45], [3, 17]] 0 8 [0, 2] = 0 by decide] at h2
  exact h2
theorem w_ver2 (v : Value) (b : Nat) (w : World) (h : Intss w v [[0, 2, 4]]) (hu : Bx w b [.int .i64 0, .int .i64 1] 3) : Ret Try.prog 12 [.agg #[.int .i64 1, v], .int .i64 0, .int .i64 6, .slice (some ⟨b, 0, none⟩) 2 2] w fun r _ => r = .int .i64 14 := by
  have h2 := verify_any 1 0 6 v _ _ [0, 1] w h (IntsK.built (xs := [0, 1]) hu rfl (by decide))
  rw [show verErr 1 [[0, 2, 4]] 0 6 [0, 1] = 14 by decide] at h2
  exact h2
theorem w_num2 (va : Value) (b : Nat) (w : World) (x y : Int) (ha : Ints w va [x, y]) (hb : Bx w b [.int .i64 x, .int .i64 y] 3) : Ret Try.prog 22 [va, .slice (some ⟨b, 0, none⟩) 2 2] w fun r _ => r = .bool true := by
  have h2 := numbers_any va _ [x, y] [x, y] w ha (IntsK.built (xs := [x, y]) hb rfl (by simp))
  rw [decide_eq_true rfl] at h2
  exact h2
theorem w_num3 (va : Value) (b : Nat) (w : World) (x y z : Int) (ha : Ints w va [x, y, z]) (hb : Bx w b [.int .i64 x, .int .i64 y, .int .i64 z] 3) : Ret Try.prog 22 [va, .slice (some ⟨b, 0, none⟩) 3 3] w fun r _ => r = .bool true := by
  have h2 := numbers_any va _ [x, y, z] [x, y, z] w ha (IntsK.built (xs := [x, y, z]) hb rfl (by simp))
  rw [decide_eq_true rfl] at h2
  exact h2
theorem Prs.built {w : World} {b : Nat} {E : TypeId} {xs : List (Int × Int)} {n : Nat} (h : Bx w b (xs.flatMap pc) E) (hn : n = xs.length) (hm : xs.length ≤ 1000) : Prs w (.slice (some ⟨b, 0, none⟩) n n) xs := by
  subst hn
  unfold Prs
  refine ⟨by unfold maxLen; omega, some ⟨b, 0, none⟩, xs.length, rfl, Nat.le_refl _, by unfold maxLen; omega, fun i hi => ⟨_, rfl, ?_⟩⟩
  have := Bx.cells h
  unfold Cells at this ⊢
  intro j v hj
  have h2 := this (i * 2 + j) v (pc_flat_get xs i hi j v hj)
  have e : ((⟨b, 0, none⟩ : Addr).add (i * 2)).add j = (⟨b, 0, none⟩ : Addr).add (i * 2 + j) := by
    rw [add_mk, add_mk, add_mk]; congr 1; omega
  rw [e]; exact h2
theorem w_spans3 (va : Value) (b : Nat) (w : World) (ha : Prs w va [(-1, 0), (0, 1), (1, 2)]) (hb : Bx w b [.int .i64 (-1), .int .i64 0, .int .i64 0, .int .i64 1, .int .i64 1, .int .i64 2] 48) : Ret Try.prog 23 [va, .slice (some ⟨b, 0, none⟩) 3 3] w fun r _ => r = .bool true := by
  have h2 := spans_any va _ _ [(-1, 0), (0, 1), (1, 2)] w ha (Prs.built (xs := [(-1, 0), (0, 1), (1, 2)]) hb rfl (by simp))
  rw [decide_eq_true rfl] at h2
  exact h2
theorem w_spans4 (va : Value) (b : Nat) (w : World) (ha : Prs w va [(1, 1), (3, 3), (4, 4), (6, 6)]) (hb : Bx w b [.int .i64 1, .int .i64 1, .int .i64 3, .int .i64 3, .int .i64 4, .int .i64 4, .int .i64 6, .int .i64 6] 48) : Ret Try.prog 23 [va, .slice (some ⟨b, 0, none⟩) 4 4] w fun r _ => r = .bool true := by
  have h2 := spans_any va _ _ [(1, 1), (3, 3), (4, 4), (6, 6)] w ha (Prs.built (xs := [(1, 1), (3, 3), (4, 4), (6, 6)]) hb rfl (by simp))
  rw [decide_eq_true rfl] at h2
  exact h2
theorem w_name1 (w : World) : Ret Try.prog 24 [.string { data := #[114, 111, 108, 108] }] w fun r _ => r = .bool true := by
  have h2 := name_any { data := #[114, 111, 108, 108] } w (by unfold maxLen; decide)
  rw [decide_eq_true (by decide)] at h2
  exact h2
theorem w_name2 (w : World) : Ret Try.prog 24 [.string { data := #[82, 111, 108, 108] }] w fun r _ => r = .bool false := by
  have h2 := name_any { data := #[82, 111, 108, 108] } w (by unfold maxLen; decide)
  rw [decide_eq_false (by decide)] at h2
  exact h2
theorem w_name3 (w : World) : Ret Try.prog 24 [.string { data := #[97, 98, 99, 100, 101, 102, 103, 104, 105] }] w fun r _ => r = .bool false := by
  have h2 := name_any { data := #[97, 98, 99, 100, 101, 102, 103, 104, 105] } w (by unfold maxLen; decide)
  rw [decide_eq_false (by decide)] at h2
  exact h2
section
variable {ol : List Oper} {Q : Exit → Act → World → Prop} {rest : List Oper} {l : St} {w : World} {ty : TypeId} {pos : String} {af : Array Edge} {P : Program} {T : TypeId}
theorem W_bsP3 {d b : Nat} {x0 x1 x2 : Operand} {e : TypeId} {z0 z1 a0 a1 b0 b1 c0 c1 : Value} [hT : Und P T (.slice e)] [hz : Sz P e (.agg #[z0, z1]) 2 b] (h0 : ev l x0 = .agg #[a0, a1]) (h1 : ev l x1 = .agg #[b0, b1]) (h2 : ev l x2 = .agg #[c0, c1])
    (K : ∀ b w', Bx w' b [a0, a1, b0, b1, c0, c1] e → Ex w w' → b = w.heap.size → W P ol Q rest (upd l d (.slice (some ⟨b, 0, none⟩) 3 3)) w') : W P ol Q (⟨some d, .buildSlice T 3 #[(0, x0), (1, x1), (2, x2)], ty, pos, af, none⟩ :: rest) l w := by
  refine W_run (w' := w.alloc (.cells #[a0, a1, b0, b1, c0, c1] e)) rfl rfl ?_ (K w.heap.size _ (Bx.new w [a0, a1, b0, b1, c0, c1] e) (Ex.alloc _ _) rfl)
  have hfill : Instr.fill (fun i => some (i * 2, 2)) ((Array.range (3 * 2)).map ((#[z0, z1] : Array Value)[· % (#[z0, z1] : Array Value).size]!)) [(0, .agg #[a0, a1]), (1, .agg #[b0, b1]), (2, .agg #[c0, c1])] = some #[a0, a1, b0, b1, c0, c1] := by
    have hr : Array.range (3 * 2) = #[0, 1, 2, 3, 4, 5] := by decide
    simp [hr, Instr.fill, Value.cells]
  have h1' : ¬ (3 * 2 > 2 ^ 24) := by decide
  have h2' : ¬ (3 * 2 = 0) := by decide
  simp only [execOp, Instr.buildSlice, Sem.run_bind, hT.run, hz.run, Result.andThen_ok, h1', h2', if_false, hz.zero, Sem.run_pure, List.map_toArray, List.map_cons, List.map_nil, h0, h1, h2, Value.cells]
  rw [hfill]
  rfl
theorem W_bsP4 {d b : Nat} {x0 x1 x2 x3 : Operand} {e : TypeId} {z0 z1 a0 a1 b0 b1 c0 c1 e0 e1 : Value} [hT : Und P T (.slice e)] [hz : Sz P e (.agg #[z0, z1]) 2 b] (h0 : ev l x0 = .agg #[a0, a1]) (h1 : ev l x1 = .agg #[b0, b1]) (h2 : ev l x2 = .agg #[c0, c1]) (h3 : ev l x3 = .agg #[e0, e1])
    (K : ∀ b w', Bx w' b [a0, a1, b0, b1, c0, c1, e0, e1] e → Ex w w' → b = w.heap.size → W P ol Q rest (upd l d (.slice (some ⟨b, 0, none⟩) 4 4)) w') : W P ol Q (⟨some d, .buildSlice T 4 #[(0, x0), (1, x1), (2, x2), (3, x3)], ty, pos, af, none⟩ :: rest) l w := by
  refine W_run (w' := w.alloc (.cells #[a0, a1, b0, b1, c0, c1, e0, e1] e)) rfl rfl ?_ (K w.heap.size _ (Bx.new w [a0, a1, b0, b1, c0, c1, e0, e1] e) (Ex.alloc _ _) rfl)
  have hfill : Instr.fill (fun i => some (i * 2, 2)) ((Array.range (4 * 2)).map ((#[z0, z1] : Array Value)[· % (#[z0, z1] : Array Value).size]!)) [(0, .agg #[a0, a1]), (1, .agg #[b0, b1]), (2, .agg #[c0, c1]), (3, .agg #[e0, e1])] = some #[a0, a1, b0, b1, c0, c1, e0, e1] := by
    have hr : Array.range (4 * 2) = #[0, 1, 2, 3, 4, 5, 6, 7] := by decide
    simp [hr, Instr.fill, Value.cells]
  have h1' : ¬ (4 * 2 > 2 ^ 24) := by decide
  have h2' : ¬ (4 * 2 = 0) := by decide
  simp only [execOp, Instr.buildSlice, Sem.run_bind, hT.run, hz.run, Result.andThen_ok, h1', h2', if_false, hz.zero, Sem.run_pure, List.map_toArray, List.map_cons, List.map_nil, h0, h1, h2, h3, Value.cells]
  rw [hfill]
  rfl
end
end Go.Proofs.Ytbcbfeeidmggpaa
