/-
  (heavy) What this text proves: Wrong says which keepers' shares are wrong, as the plain definitions say. Conditions: the value reads as a list.
-/
import Derived.Test.YtngoipmdhliigaaVKv
set_option linter.unusedVariables false
set_option linter.unusedSimpArgs false
namespace Go.Pv
open Go.RowKit
/-- What Wrong answers: the error and the keepers. -/
def WrongP (need most : Int) (sh : List (Int × Int)) (e : Int) (xs : List Int) : Prop :=
  (chk need sh ≠ 0 ∧ e = chk need sh ∧ xs = []) ∨ (chk need sh = 0 ∧ ((¬ (0 ≤ most ∧ most ≤ 3) ∧ e = 3 ∧ xs = []) ∨ ((0 ≤ most ∧ most ≤ 3) ∧ (((sh.length : Int) < need + 2 * most ∧ e = 8 ∧ xs = []) ∨ (¬ (sh.length : Int) < need + 2 * most ∧
    (((∀ c, ¬ FoundC need.toNat (sh.length - most.toNat) sh c) ∧ e = 15 ∧ xs = []) ∨ (∃ c, FoundC need.toNat (sh.length - most.toNat) sh c ∧ e = 0 ∧ xs = sortL (offTo (atP (nwS need.toNat c)) sh sh.length))))))))
end Go.Pv
namespace Go.Proofs.Ytngoipmdhliigaa
open Go.Pv Go.RowKit Go.Sort
set_option maxHeartbeats 8000000
set_option maxRecDepth 20000
theorem Wrong_any (need most : Int) (v : Value) (sh : List (Int × Int)) (w : World) (h : Prs w v sh) : Ret Try.prog 36 [.int .i64 need, .int .i64 most, v] w fun r w' => ∃ u e xs, r = .tuple #[u, .int .i64 e] ∧ WrongP need most sh e xs ∧ Pv.Own 3 w.heap.size w' u xs := by
  have hv1 := h.one
  have hck := fun w2 (e : Ex w w2) => check_any need v sh w2 (Prs.ex e h)
  by_cases hc : chk need sh = 0
  · have hi := chk_inv hc
    have hsd := sh_ok hi.2.2
    rw [hc] at hck
    by_cases hm : 0 ≤ most ∧ most ≤ 3
    · obtain ⟨n, hn⟩ : ∃ n : Nat, need = n := ⟨need.toNat, by omega⟩
      subst hn
      obtain ⟨m, hmm⟩ : ∃ m : Nat, most = m := ⟨most.toNat, by omega⟩
      subst hmm
      by_cases hl : (sh.length : Int) < n + 2 * m
      · refine ret_of_c Try.func36 rfl Try.ntmps36 (Nat.le_of_ble_eq_true rfl) (by dsimp only [ini, Nat.reduceAdd] <;> exact rfl) ?_
        repeat' (first
            | ((with_reducible apply W_op); exact rfl; exact rfl; exact r_lenPrs rfl (Prs.ex (show Ex w _ from (by repeat (first | exact Ex.refl _ | assumption | (refine Ex.of_grown ?_ (by assumption) (by intro k hk; cases hk; omega)) | (refine Ex.trans ?_ (by assumption))))) h))
            | ((with_reducible apply c_cond_dec); exact rfl; intro _; rotate_left 1; intro _; (all_goals (try (exfalso; (focus (omega; done))))))
            | ((first | ((with_reducible apply W_op); exact rfl; exact rfl)); (first | ((with_reducible apply r_move); ((conv => lhs; whnf) <;> exact rfl)) | ((with_reducible apply r_assign); ((conv => lhs; whnf) <;> exact rfl)) | ((with_reducible apply r_lss); exact rfl; exact rfl) | ((with_reducible apply r_neq); exact rfl; exact rfl) | ((with_reducible apply r_add); exact rfl; exact rfl; omega) | ((with_reducible apply r_not); exact rfl) | ((with_reducible apply r_mul); exact rfl; exact rfl; omega)))
            | (refine W_callv (hck _ (by repeat (first | assumption | exact Ex.refl _ | (refine Ex.trans ?_ (by assumption)) | (refine Ex.of_grown ?_ (by assumption) (by intro k hk; cases hk; omega))))) rfl (fun wq he => ?_); have hsz := he.size)
            | (refine W_callv (within_any (m : Int) 0 3 _) rfl (fun wq he => ?_); have hsz := he.size)
            | (with_reducible apply W_nil)
            | (with_reducible apply c_seq)
            | ((with_reducible apply c_region); kernel_rfl)
            | (with_reducible apply n_nq)
            | (with_reducible apply c_block)
            | (with_reducible apply c_skip)
            | (with_reducible apply c_ret)
            | (with_reducible apply n_then)
            | (with_reducible apply r_then)
            | (with_reducible apply r_block)
            | ((with_reducible apply p_ret2); exact rfl; exact rfl; ((conv => lhs; whnf) <;> exact rfl); ((conv => lhs; whnf) <;> exact rfl); refine ⟨_, rfl, ?_, (by repeat (first | assumption | exact Ex.refl _ | (refine Ex.trans ?_ (by assumption)) | (refine Ex.of_grown ?_ (by assumption) (by intro k hk; cases hk; omega))))⟩))
        all_goals first
          | exact ⟨_, _, [], rfl, .inr ⟨hc, .inr ⟨hm, .inl ⟨hl, rfl, rfl⟩⟩⟩, Pv.Own.nil _ _ _⟩
          | trace_state
      · have hse := fun w2 (e : Ex w w2) => search_any n m v sh w2 (Prs.ex e h) hsd.1 hsd.2 (by omega) (by omega) (by omega)
        refine ret_of_c Try.func36 rfl Try.ntmps36 (Nat.le_of_ble_eq_true rfl) (by dsimp only [ini, Nat.reduceAdd] <;> exact rfl) ?_
        repeat' (first
            | ((with_reducible apply W_op); exact rfl; exact rfl; exact r_lenPrs rfl (Prs.ex (show Ex w _ from (by repeat (first | exact Ex.refl _ | assumption | (refine Ex.of_grown ?_ (by assumption) (by intro k hk; cases hk; omega)) | (refine Ex.trans ?_ (by assumption))))) h))
            | ((with_reducible apply c_cond_dec); exact rfl; intro _; rotate_left 1; intro _; (all_goals (try (exfalso; (focus (omega; done))))))
            | ((with_reducible apply W_op); exact rfl; exact rfl; exact r_mkIface rfl)
            | ((first | ((with_reducible apply W_op); exact rfl; exact rfl)); (first | ((with_reducible apply r_move); ((conv => lhs; whnf) <;> exact rfl)) | ((with_reducible apply r_assign); ((conv => lhs; whnf) <;> exact rfl)) | ((with_reducible apply r_lss); exact rfl; exact rfl) | ((with_reducible apply r_neq); exact rfl; exact rfl) | ((with_reducible apply r_add); exact rfl; exact rfl; omega) | ((with_reducible apply r_not); exact rfl) | ((with_reducible apply r_notb); exact rfl) | ((with_reducible apply r_mul); exact rfl; exact rfl; omega) | ((with_reducible apply r_extract); exact rfl; exact rfl)))
            | (refine W_callv (hck _ (by repeat (first | assumption | exact Ex.refl _ | (refine Ex.trans ?_ (by assumption)) | (refine Ex.of_grown ?_ (by assumption) (by intro k hk; cases hk; omega))))) rfl (fun wq he => ?_); have hsz := he.size)
            | (refine W_callv (within_any (m : Int) 0 3 _) rfl (fun wq he => ?_); have hsz := he.size)
            | (refine W_call (hse _ (by repeat (first | assumption | exact Ex.refl _ | (refine Ex.trans ?_ (by assumption)) | (refine Ex.of_grown ?_ (by assumption) (by intro k hk; cases hk; omega))))) rfl ?_; rintro vq wq ⟨us, bs, rfl, (⟨rfl, c, hfc, hiu⟩ | ⟨rfl, hnf⟩)⟩ he; have hsz := he.size; (try (have hiu1 := hiu.one)))
            | (refine W_call (keepersOff_any (.iface 78 us) v (atP (nwS n c)) sh _ (curve_poly (IntsK.ex (by repeat (first | exact Ex.refl _ | assumption | (refine Ex.of_grown ?_ (by assumption) (by intro k hk; cases hk; omega)) | (refine Ex.trans ?_ (by assumption)))) hiu) (by unfold nwS newtonL; exact nsm_nb _ _ _)) (Prs.ex (show Ex w _ from (by repeat (first | exact Ex.refl _ | assumption | (refine Ex.of_grown ?_ (by assumption) (by intro k hk; cases hk; omega)) | (refine Ex.trans ?_ (by assumption))))) h) hsd.1 (by omega)) rfl ?_; rintro vq wq hown he; have hsz := he.size; have hown1 := hown.one)
            | (with_reducible apply W_nil)
            | (with_reducible apply c_seq)
            | ((with_reducible apply c_region); kernel_rfl)
            | (with_reducible apply n_nq)
            | (with_reducible apply c_block)
            | (with_reducible apply c_skip)
            | (with_reducible apply c_ret)
            | ((with_reducible apply c_cond_true); exact rfl)
            | ((with_reducible apply c_cond_false); exact rfl)
            | (with_reducible apply n_then)
            | (with_reducible apply n_block)
            | (with_reducible apply r_then)
            | ((with_reducible apply p_ret2); exact rfl; exact rfl; ((conv => lhs; whnf) <;> exact rfl); ((conv => lhs; whnf) <;> exact rfl); refine ⟨_, rfl, ?_, (by repeat (first | assumption | exact Ex.refl _ | (refine Ex.trans ?_ (by assumption)) | (refine Ex.of_grown ?_ (by assumption) (by intro k hk; cases hk; omega))))⟩))
        all_goals first
          | exact ⟨_, _, _, rfl, .inr ⟨hc, .inr ⟨hm, .inr ⟨hl, .inr ⟨c, hfc, rfl, rfl⟩⟩⟩⟩, Pv.Own.lower hown (by omega)⟩
          | exact ⟨_, _, [], rfl, .inr ⟨hc, .inr ⟨hm, .inr ⟨hl, .inl ⟨hnf, rfl, rfl⟩⟩⟩⟩, Pv.Own.nil _ _ _⟩
          | trace_state
    · refine ret_of_c Try.func36 rfl Try.ntmps36 (Nat.le_of_ble_eq_true rfl) (by dsimp only [ini, Nat.reduceAdd] <;> exact rfl) ?_
      repeat' (first
          | ((with_reducible apply c_cond_dec); exact rfl; intro _; rotate_left 1; intro _; (all_goals (try (exfalso; (focus (omega; done))))))
          | ((first | ((with_reducible apply W_op); exact rfl; exact rfl)); (first | ((with_reducible apply r_move); ((conv => lhs; whnf) <;> exact rfl)) | ((with_reducible apply r_assign); ((conv => lhs; whnf) <;> exact rfl)) | ((with_reducible apply r_neq); exact rfl; exact rfl) | ((with_reducible apply r_not); exact rfl)))
          | (refine W_callv (hck _ (by repeat (first | assumption | exact Ex.refl _ | (refine Ex.trans ?_ (by assumption)) | (refine Ex.of_grown ?_ (by assumption) (by intro k hk; cases hk; omega))))) rfl (fun wq he => ?_); have hsz := he.size)
          | (refine W_callv (within_any most 0 3 _) rfl (fun wq he => ?_); have hsz := he.size)
          | (with_reducible apply W_nil)
          | (with_reducible apply c_seq)
          | ((with_reducible apply c_region); kernel_rfl)
          | (with_reducible apply n_nq)
          | (with_reducible apply c_block)
          | (with_reducible apply c_skip)
          | (with_reducible apply c_ret)
          | (with_reducible apply n_then)
          | (with_reducible apply r_then)
          | (with_reducible apply r_block)
          | ((with_reducible apply p_ret2); exact rfl; exact rfl; ((conv => lhs; whnf) <;> exact rfl); ((conv => lhs; whnf) <;> exact rfl); refine ⟨_, rfl, ?_, (by repeat (first | assumption | exact Ex.refl _ | (refine Ex.trans ?_ (by assumption)) | (refine Ex.of_grown ?_ (by assumption) (by intro k hk; cases hk; omega))))⟩))
      all_goals first
        | exact ⟨_, _, [], rfl, .inr ⟨hc, .inl ⟨hm, rfl, rfl⟩⟩, Pv.Own.nil _ _ _⟩
        | trace_state
  · obtain ⟨e, hee⟩ : ∃ e, e = chk need sh := ⟨_, rfl⟩
    rw [← hee] at hck
    have he0 : e ≠ 0 := by omega
    refine ret_of_c Try.func36 rfl Try.ntmps36 (Nat.le_of_ble_eq_true rfl) (by dsimp only [ini, Nat.reduceAdd] <;> exact rfl) ?_
    repeat' (first
        | ((with_reducible apply c_cond_dec); exact rfl; intro _; rotate_left 1; intro _; (all_goals (try (exfalso; (focus (omega; done))))))
        | ((first | ((with_reducible apply W_op); exact rfl; exact rfl)); (first | ((with_reducible apply r_move); ((conv => lhs; whnf) <;> exact rfl)) | ((with_reducible apply r_assign); ((conv => lhs; whnf) <;> exact rfl)) | ((with_reducible apply r_neq); exact rfl; exact rfl)))
        | (refine W_callv (hck _ (by repeat (first | assumption | exact Ex.refl _ | (refine Ex.trans ?_ (by assumption)) | (refine Ex.of_grown ?_ (by assumption) (by intro k hk; cases hk; omega))))) rfl (fun wq he => ?_); have hsz := he.size)
        | (with_reducible apply W_nil)
        | (with_reducible apply c_seq)
        | ((with_reducible apply c_region); kernel_rfl)
        | (with_reducible apply n_nq)
        | (with_reducible apply c_ret)
        | (with_reducible apply n_then)
        | (with_reducible apply r_then)
        | ((with_reducible apply p_ret2); exact rfl; exact rfl; ((conv => lhs; whnf) <;> exact rfl); ((conv => lhs; whnf) <;> exact rfl); refine ⟨_, rfl, ?_, (by repeat (first | assumption | exact Ex.refl _ | (refine Ex.trans ?_ (by assumption)) | (refine Ex.of_grown ?_ (by assumption) (by intro k hk; cases hk; omega))))⟩))
    all_goals first
      | exact ⟨_, e, [], rfl, .inl ⟨hc, hee, rfl⟩, Pv.Own.nil _ _ _⟩
      | trace_state
end Go.Proofs.Ytngoipmdhliigaa
