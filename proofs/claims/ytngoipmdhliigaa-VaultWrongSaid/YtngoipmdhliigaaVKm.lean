/-
  (heavy) What this text proves: Value, Inverse, Deal, Possible and Count, as the plain functions say. Conditions: the values read as lists.
-/
import Derived.Test.YtngoipmdhliigaaVKl
import Derived.Deep.Onto
set_option linter.unusedVariables false
set_option linter.unusedSimpArgs false
namespace Go.Pv
open Go.RowKit
theorem Own.lower {E : TypeId} {base b2 : Nat} {w : World} {v : Value} {xs : List Int} (h : Own E base w v xs) (hb : b2 ≤ base) : Own E b2 w v xs := by unfold Own at *; exact ⟨h.1, h.2.mono hb⟩
theorem OwnP.lower {E : TypeId} {base b2 : Nat} {w : World} {v : Value} {xs : List (Int × Int)} (h : OwnP E base w v xs) (hb : b2 ≤ base) : OwnP E b2 w v xs := by unfold OwnP at *; exact ⟨h.1, h.2.mono hb⟩
def valErr (l : List Int) (x : Int) : Int := if polErr l ≠ 0 then polErr l else if 0 ≤ x ∧ x ≤ 250 then 0 else 3
def invErr (n : Int) : Int := if ¬ (0 ≤ n ∧ n ≤ 250) then 3 else if n = 0 then 8 else 0
def dealErr (l : List Int) (n : Int) : Int := if polErr l ≠ 0 then polErr l else if 1 ≤ n ∧ n ≤ 20 then 0 else 3
def dealL (l : List Int) (n : Nat) : List (Int × Int) := (List.range n).map fun (k : Nat) => ((k : Int) + 1, atP l ((k : Int) + 1))
def cntErr (need : Int) (sh : List (Int × Int)) (s : Int) : Int := if chk need sh ≠ 0 then chk need sh else if 0 ≤ s ∧ s ≤ 250 then 0 else 3
end Go.Pv
namespace Go.Proofs.Ytngoipmdhliigaa
open Go.Pv Go.RowKit Go.Sort
set_option maxHeartbeats 8000000
set_option maxRecDepth 20000
theorem Value_any (v : Value) (l : List Int) (x : Int) (w : World) (h : Ints w v l) : Ret Try.prog 17 [v, .int .i64 x] w fun r _ => r = .tuple #[.int .i64 (if valErr l x = 0 then atP l x else 0), .int .i64 (valErr l x)] := by
  have hv1 := h.one
  have hck := fun w2 (e : Ex w w2) => checkCo_any v l w2 (IntsK.ex e h)
  by_cases hc : polErr l = 0
  · have hi := pol_inv hc
    rw [hc] at hck
    refine ret_of_c Try.func17 rfl Try.ntmps17 (Nat.le_of_ble_eq_true rfl) (by dsimp only [ini, Nat.reduceAdd] <;> exact rfl) ?_
    repeat' (first
        | ((with_reducible apply c_cond_dec); exact rfl; intro _; rotate_left 1; intro _; (all_goals (try (exfalso; (focus (omega; done))))))
        | ((first | ((with_reducible apply W_op); exact rfl; exact rfl)); (first | ((with_reducible apply r_move); ((conv => lhs; whnf) <;> exact rfl)) | ((with_reducible apply r_assign); ((conv => lhs; whnf) <;> exact rfl)) | ((with_reducible apply r_neq); exact rfl; exact rfl) | ((with_reducible apply r_not); exact rfl)))
        | (refine W_callv (hck _ (by repeat (first | assumption | exact Ex.refl _ | (refine Ex.trans ?_ (by assumption)) | (refine Ex.of_grown ?_ (by assumption) (by intro k hk; cases hk; omega))))) rfl (fun wq he => ?_); have hsz := he.size)
        | (refine W_callv (isNumber_any x _) rfl (fun wq he => ?_); have hsz := he.size)
        | (refine W_call (polynomialOf_any v l _ (IntsK.ex (by repeat (first | exact Ex.refl _ | assumption | (refine Ex.of_grown ?_ (by assumption) (by intro k hk; cases hk; omega)) | (refine Ex.trans ?_ (by assumption)))) h) (by omega)) rfl ?_; rintro vq wq hown he; have hsz := he.size; have hown1 := hown.one)
        | (refine W_callv (at_any _ l x _ (Pv.Own.ints hown) hi.2.2 (by unfold nb; omega)) rfl (fun wq he => ?_); have hsz := he.size)
        | (with_reducible apply W_nil)
        | (with_reducible apply c_seq)
        | ((with_reducible apply c_region); kernel_rfl)
        | (with_reducible apply n_nq)
        | (with_reducible apply c_skip)
        | (with_reducible apply c_ret)
        | (with_reducible apply n_then)
        | (with_reducible apply r_then)
        | ((with_reducible apply p_ret2); exact rfl; exact rfl; ((conv => lhs; whnf) <;> exact rfl); ((conv => lhs; whnf) <;> exact rfl); refine ⟨_, rfl, ?_, (by repeat (first | assumption | exact Ex.refl _ | (refine Ex.trans ?_ (by assumption)) | (refine Ex.of_grown ?_ (by assumption) (by intro k hk; cases hk; omega))))⟩))
    all_goals first
      | (rw [show valErr l x = 3 by unfold valErr; rw [if_neg (Classical.not_not.2 hc), if_neg (by omega)]]; rfl)
      | (rw [show valErr l x = 0 by unfold valErr; rw [if_neg (Classical.not_not.2 hc), if_pos (by omega)]]; rfl)
      | trace_state
  · have he : valErr l x = polErr l := by unfold valErr; rw [if_pos hc]
    rw [he]
    obtain ⟨e, hee⟩ : ∃ e, e = polErr l := ⟨_, rfl⟩
    rw [← hee] at hck hc ⊢
    rw [if_neg hc]
    refine ret_of_c Try.func17 rfl Try.ntmps17 (Nat.le_of_ble_eq_true rfl) (by dsimp only [ini, Nat.reduceAdd] <;> exact rfl) ?_
    repeat' (first
        | ((with_reducible apply c_cond_dec); exact rfl; intro _; rotate_left 1; intro _; (all_goals (try (exfalso; (focus (omega; done))))))
        | ((first | ((with_reducible apply W_op); exact rfl; exact rfl)); (first | ((with_reducible apply r_move); ((conv => lhs; whnf) <;> exact rfl)) | ((with_reducible apply r_assign); ((conv => lhs; whnf) <;> exact rfl)) | ((with_reducible apply r_neq); exact rfl; exact rfl)))
        | (refine W_callv (hck _ (by repeat (first | assumption | exact Ex.refl _ | (refine Ex.trans ?_ (by assumption)) | (refine Ex.of_grown ?_ (by assumption) (by intro k hk; cases hk; omega))))) rfl (fun wq he => ?_); have hsz := he.size)
        | (with_reducible apply W_nil)
        | (with_reducible apply c_seq)
        | ((with_reducible apply c_region); kernel_rfl)
        | (with_reducible apply n_nq)
        | (with_reducible apply c_ret)
        | (with_reducible apply n_then)
        | (with_reducible apply r_then)
        | ((with_reducible apply p_ret2); exact rfl; exact rfl; ((conv => lhs; whnf) <;> exact rfl); ((conv => lhs; whnf) <;> exact rfl); refine ⟨_, rfl, ?_, (by repeat (first | assumption | exact Ex.refl _ | (refine Ex.trans ?_ (by assumption)) | (refine Ex.of_grown ?_ (by assumption) (by intro k hk; cases hk; omega))))⟩))
    all_goals first | rfl | trace_state
theorem Inverse_any (n : Int) (w : World) : Ret Try.prog 19 [.int .i64 n] w fun r _ => r = .tuple #[.int .i64 (if invErr n = 0 then invN n else 0), .int .i64 (invErr n)] := by
  refine ret_of_c Try.func19 rfl Try.ntmps19 (Nat.le_of_ble_eq_true rfl) (by dsimp only [ini, Nat.reduceAdd] <;> exact rfl) ?_
  repeat' (first
      | ((first | ((with_reducible apply W_op); exact rfl; exact rfl)); (first | ((with_reducible apply r_move); ((conv => lhs; whnf) <;> exact rfl)) | ((with_reducible apply r_assign); ((conv => lhs; whnf) <;> exact rfl)) | ((with_reducible apply r_eql); exact rfl; exact rfl) | ((with_reducible apply r_not); exact rfl)))
      | (refine W_callv (isNumber_any n _) rfl (fun wq he => ?_); have hsz := he.size)
      | (refine W_callv (inverse_any n _ (by unfold nb; omega)) rfl (fun wq he => ?_); have hsz := he.size)
      | (with_reducible apply W_nil)
      | (with_reducible apply c_seq)
      | ((with_reducible apply c_region); kernel_rfl)
      | (with_reducible apply n_nq)
      | (with_reducible apply c_block)
      | (with_reducible apply c_skip)
      | (with_reducible apply c_ret)
      | ((with_reducible apply c_cond_dec); exact rfl; intro _; rotate_left 1; intro _)
      | (with_reducible apply n_then)
      | (with_reducible apply n_block)
      | (with_reducible apply r_then)
      | (with_reducible apply r_block)
      | ((with_reducible apply p_ret2); exact rfl; exact rfl; ((conv => lhs; whnf) <;> exact rfl); ((conv => lhs; whnf) <;> exact rfl); refine ⟨_, rfl, ?_, (by repeat (first | assumption | exact Ex.refl _ | (refine Ex.trans ?_ (by assumption)) | (refine Ex.of_grown ?_ (by assumption) (by intro k hk; cases hk; omega))))⟩))
  all_goals first
    | (rw [show invErr n = 3 by unfold invErr; rw [if_pos (by omega)]]; rfl)
    | (rw [show invErr n = 8 by unfold invErr; rw [if_neg (by omega), if_pos (by omega)]]; rfl)
    | (rw [show invErr n = 0 by unfold invErr; rw [if_neg (by omega), if_neg (by omega)]]; rfl)
    | trace_state
theorem Deal_any (v : Value) (l : List Int) (n : Int) (w : World) (h : Ints w v l) : Ret Try.prog 21 [v, .int .i64 n] w fun r w' => ∃ u, r = .tuple #[u, .int .i64 (dealErr l n)] ∧ OwnP 61 w.heap.size w' u (if dealErr l n = 0 then dealL l n.toNat else []) := by
  have hv1 := h.one
  have hck := fun w2 (e : Ex w w2) => checkCo_any v l w2 (IntsK.ex e h)
  by_cases hc : polErr l = 0
  · have hi := pol_inv hc
    rw [hc] at hck
    by_cases hn : 1 ≤ n ∧ n ≤ 20
    · obtain ⟨m, hm⟩ : ∃ m : Nat, n = m := ⟨n.toNat, by omega⟩
      subst hm
      rw [show dealErr l m = 0 by unfold dealErr; rw [if_neg (Classical.not_not.2 hc), if_pos hn], if_pos rfl]
      refine ret_of_c Try.func21 rfl Try.ntmps21 (Nat.le_of_ble_eq_true rfl) (by dsimp only [ini, Nat.reduceAdd] <;> exact rfl) ?_
      repeat' (first
          | ((with_reducible apply c_cond_dec); exact rfl; intro _; rotate_left 1; intro _; (all_goals (try (exfalso; (focus (omega; done))))))
          | ((first | ((with_reducible apply W_op); exact rfl; exact rfl)); (first | ((with_reducible apply r_move); ((conv => lhs; whnf) <;> exact rfl)) | ((with_reducible apply r_assign); ((conv => lhs; whnf) <;> exact rfl)) | ((with_reducible apply r_neq); exact rfl; exact rfl) | ((with_reducible apply r_not); exact rfl)))
          | (refine W_callv (hck _ (by repeat (first | assumption | exact Ex.refl _ | (refine Ex.trans ?_ (by assumption)) | (refine Ex.of_grown ?_ (by assumption) (by intro k hk; cases hk; omega))))) rfl (fun wq he => ?_); have hsz := he.size)
          | (refine W_callv (within_any (m : Int) 1 20 _) rfl (fun wq he => ?_); have hsz := he.size)
          | ((with_reducible apply W_op); exact rfl; exact rfl; exact r_mkIface rfl)
          | (refine W_call (polynomialOf_any v l _ (IntsK.ex (by repeat (first | exact Ex.refl _ | assumption | (refine Ex.of_grown ?_ (by assumption) (by intro k hk; cases hk; omega)) | (refine Ex.trans ?_ (by assumption)))) h) (by omega)) rfl ?_; rintro vq wq hown he; have hsz := he.size; have hown1 := hown.one)
          | (refine W_call (deal_any _ (atP l) m _ (curve_poly (Pv.Own.ints hown) hi.2.2) (by omega)) rfl ?_; rintro vq wq hsp he; have hsz := he.size; have hsp1 := hsp.one)
          | (with_reducible apply W_nil)
          | (with_reducible apply c_seq)
          | ((with_reducible apply c_region); kernel_rfl)
          | (with_reducible apply n_nq)
          | (with_reducible apply c_skip)
          | (with_reducible apply c_ret)
          | (with_reducible apply n_then)
          | ((with_reducible apply p_ret2); exact rfl; exact rfl; ((conv => lhs; whnf) <;> exact rfl); ((conv => lhs; whnf) <;> exact rfl); refine ⟨_, rfl, ?_, (by repeat (first | assumption | exact Ex.refl _ | (refine Ex.trans ?_ (by assumption)) | (refine Ex.of_grown ?_ (by assumption) (by intro k hk; cases hk; omega))))⟩))
      all_goals first
        | exact ⟨_, rfl, by rw [Int.toNat_natCast]; exact OwnP.lower hsp (by omega)⟩
        | trace_state
    · rw [show dealErr l n = 3 by unfold dealErr; rw [if_neg (Classical.not_not.2 hc), if_neg hn]]
      refine ret_of_c Try.func21 rfl Try.ntmps21 (Nat.le_of_ble_eq_true rfl) (by dsimp only [ini, Nat.reduceAdd] <;> exact rfl) ?_
      repeat' (first
          | ((with_reducible apply c_cond_dec); exact rfl; intro _; rotate_left 1; intro _; (all_goals (try (exfalso; (focus (omega; done))))))
          | ((first | ((with_reducible apply W_op); exact rfl; exact rfl)); (first | ((with_reducible apply r_move); ((conv => lhs; whnf) <;> exact rfl)) | ((with_reducible apply r_assign); ((conv => lhs; whnf) <;> exact rfl)) | ((with_reducible apply r_neq); exact rfl; exact rfl) | ((with_reducible apply r_not); exact rfl)))
          | (refine W_callv (hck _ (by repeat (first | assumption | exact Ex.refl _ | (refine Ex.trans ?_ (by assumption)) | (refine Ex.of_grown ?_ (by assumption) (by intro k hk; cases hk; omega))))) rfl (fun wq he => ?_); have hsz := he.size)
          | (refine W_callv (within_any n 1 20 _) rfl (fun wq he => ?_); have hsz := he.size)
          | (with_reducible apply W_nil)
          | (with_reducible apply c_seq)
          | ((with_reducible apply c_region); kernel_rfl)
          | (with_reducible apply n_nq)
          | (with_reducible apply c_skip)
          | (with_reducible apply c_ret)
          | (with_reducible apply n_then)
          | (with_reducible apply r_then)
          | ((with_reducible apply p_ret2); exact rfl; exact rfl; ((conv => lhs; whnf) <;> exact rfl); ((conv => lhs; whnf) <;> exact rfl); refine ⟨_, rfl, ?_, (by repeat (first | assumption | exact Ex.refl _ | (refine Ex.trans ?_ (by assumption)) | (refine Ex.of_grown ?_ (by assumption) (by intro k hk; cases hk; omega))))⟩))
      all_goals first
        | exact ⟨_, rfl, OwnP.nil _ _ _⟩
        | trace_state
  · have he : dealErr l n = polErr l := by unfold dealErr; rw [if_pos hc]
    rw [he]
    obtain ⟨e, hee⟩ : ∃ e, e = polErr l := ⟨_, rfl⟩
    rw [← hee] at hck hc ⊢
    rw [if_neg hc]
    refine ret_of_c Try.func21 rfl Try.ntmps21 (Nat.le_of_ble_eq_true rfl) (by dsimp only [ini, Nat.reduceAdd] <;> exact rfl) ?_
    repeat' (first
        | ((with_reducible apply c_cond_dec); exact rfl; intro _; rotate_left 1; intro _; (all_goals (try (exfalso; (focus (omega; done))))))
        | ((first | ((with_reducible apply W_op); exact rfl; exact rfl)); (first | ((with_reducible apply r_move); ((conv => lhs; whnf) <;> exact rfl)) | ((with_reducible apply r_assign); ((conv => lhs; whnf) <;> exact rfl)) | ((with_reducible apply r_neq); exact rfl; exact rfl)))
        | (refine W_callv (hck _ (by repeat (first | assumption | exact Ex.refl _ | (refine Ex.trans ?_ (by assumption)) | (refine Ex.of_grown ?_ (by assumption) (by intro k hk; cases hk; omega))))) rfl (fun wq he => ?_); have hsz := he.size)
        | (with_reducible apply W_nil)
        | (with_reducible apply c_seq)
        | ((with_reducible apply c_region); kernel_rfl)
        | (with_reducible apply n_nq)
        | (with_reducible apply c_ret)
        | (with_reducible apply n_then)
        | (with_reducible apply r_then)
        | ((with_reducible apply p_ret2); exact rfl; exact rfl; ((conv => lhs; whnf) <;> exact rfl); ((conv => lhs; whnf) <;> exact rfl); refine ⟨_, rfl, ?_, (by repeat (first | assumption | exact Ex.refl _ | (refine Ex.trans ?_ (by assumption)) | (refine Ex.of_grown ?_ (by assumption) (by intro k hk; cases hk; omega))))⟩))
    all_goals first
      | exact ⟨_, rfl, OwnP.nil _ _ _⟩
      | trace_state
theorem Possible_any (need : Int) (v : Value) (sh : List (Int × Int)) (w : World) (h : Prs w v sh) : Ret Try.prog 32 [.int .i64 need, v] w fun r w' => ∃ u, r = .tuple #[u, .int .i64 (chk need sh)] ∧ Pv.Own 3 w.heap.size w' u (if chk need sh = 0 then possL need.toNat sh else []) := by
  have hv1 := h.one
  have hck := fun w2 (e : Ex w w2) => check_any need v sh w2 (Prs.ex e h)
  by_cases hc : chk need sh = 0
  · have hi := chk_inv hc
    obtain ⟨m, hm⟩ : ∃ m : Nat, need = m := ⟨need.toNat, by omega⟩
    subst hm
    have hs := sh_ok hi.2.2
    rw [hc] at hck ⊢
    rw [if_pos rfl]
    refine ret_of_c Try.func32 rfl Try.ntmps32 (Nat.le_of_ble_eq_true rfl) (by dsimp only [ini, Nat.reduceAdd] <;> exact rfl) ?_
    repeat' (first
        | ((with_reducible apply c_cond_dec); exact rfl; intro _; rotate_left 1; intro _; (all_goals (try (exfalso; (focus (omega; done))))))
        | ((first | ((with_reducible apply W_op); exact rfl; exact rfl)); (first | ((with_reducible apply r_move); ((conv => lhs; whnf) <;> exact rfl)) | ((with_reducible apply r_assign); ((conv => lhs; whnf) <;> exact rfl)) | ((with_reducible apply r_neq); exact rfl; exact rfl)))
        | (refine W_callv (hck _ (by repeat (first | assumption | exact Ex.refl _ | (refine Ex.trans ?_ (by assumption)) | (refine Ex.of_grown ?_ (by assumption) (by intro k hk; cases hk; omega))))) rfl (fun wq he => ?_); have hsz := he.size)
        | (refine W_call (possible_any m v sh _ (Prs.ex (by repeat (first | exact Ex.refl _ | assumption | (refine Ex.of_grown ?_ (by assumption) (by intro k hk; cases hk; omega)) | (refine Ex.trans ?_ (by assumption)))) h) hs.1 (by omega) (by omega)) rfl ?_; rintro vq wq hown he; have hsz := he.size; have hown1 := hown.one)
        | (with_reducible apply W_nil)
        | (with_reducible apply c_seq)
        | ((with_reducible apply c_region); kernel_rfl)
        | (with_reducible apply n_nq)
        | (with_reducible apply c_skip)
        | (with_reducible apply c_ret)
        | (with_reducible apply n_then)
        | ((with_reducible apply p_ret2); exact rfl; exact rfl; ((conv => lhs; whnf) <;> exact rfl); ((conv => lhs; whnf) <;> exact rfl); refine ⟨_, rfl, ?_, (by repeat (first | assumption | exact Ex.refl _ | (refine Ex.trans ?_ (by assumption)) | (refine Ex.of_grown ?_ (by assumption) (by intro k hk; cases hk; omega))))⟩))
    all_goals first
      | exact ⟨_, rfl, by rw [Int.toNat_natCast]; exact Pv.Own.lower hown (by omega)⟩
      | trace_state
  · obtain ⟨e, hee⟩ : ∃ e, e = chk need sh := ⟨_, rfl⟩
    rw [← hee] at hck hc ⊢
    rw [if_neg hc]
    refine ret_of_c Try.func32 rfl Try.ntmps32 (Nat.le_of_ble_eq_true rfl) (by dsimp only [ini, Nat.reduceAdd] <;> exact rfl) ?_
    repeat' (first
        | ((with_reducible apply c_cond_dec); exact rfl; intro _; rotate_left 1; intro _; (all_goals (try (exfalso; (focus (omega; done))))))
        | ((first | ((with_reducible apply W_op); exact rfl; exact rfl)); (first | ((with_reducible apply r_move); ((conv => lhs; whnf) <;> exact rfl)) | ((with_reducible apply r_assign); ((conv => lhs; whnf) <;> exact rfl)) | ((with_reducible apply r_neq); exact rfl; exact rfl)))
        | (refine W_callv (hck _ (by repeat (first | assumption | exact Ex.refl _ | (refine Ex.trans ?_ (by assumption)) | (refine Ex.of_grown ?_ (by assumption) (by intro k hk; cases hk; omega))))) rfl (fun wq he => ?_); have hsz := he.size)
        | (with_reducible apply W_nil)
        | (with_reducible apply c_seq)
        | ((with_reducible apply c_region); kernel_rfl)
        | (with_reducible apply n_nq)
        | (with_reducible apply c_ret)
        | (with_reducible apply n_then)
        | (with_reducible apply r_then)
        | ((with_reducible apply p_ret2); exact rfl; exact rfl; ((conv => lhs; whnf) <;> exact rfl); ((conv => lhs; whnf) <;> exact rfl); refine ⟨_, rfl, ?_, (by repeat (first | assumption | exact Ex.refl _ | (refine Ex.trans ?_ (by assumption)) | (refine Ex.of_grown ?_ (by assumption) (by intro k hk; cases hk; omega))))⟩))
    all_goals first
      | exact ⟨_, rfl, Pv.Own.nil _ _ _⟩
      | trace_state
theorem Count_any (need : Int) (v : Value) (sh : List (Int × Int)) (s : Int) (w : World) (h : Prs w v sh) : Ret Try.prog 34 [.int .i64 need, v, .int .i64 s] w fun r _ => r = .tuple #[.int .i64 (if cntErr need sh s = 0 then cntN need.toNat sh s else 0), .int .i64 (cntErr need sh s)] := by
  have hv1 := h.one
  have hck := fun w2 (e : Ex w w2) => check_any need v sh w2 (Prs.ex e h)
  by_cases hc : chk need sh = 0
  · have hi := chk_inv hc
    obtain ⟨m, hm⟩ : ∃ m : Nat, need = m := ⟨need.toNat, by omega⟩
    subst hm
    have hs := sh_ok hi.2.2
    rw [hc] at hck
    have hco := fun w2 (e : Ex w w2) => count_any m v sh s w2 (Prs.ex e h) hs.1 (by omega) (by omega)
    refine ret_of_c Try.func34 rfl Try.ntmps34 (Nat.le_of_ble_eq_true rfl) (by dsimp only [ini, Nat.reduceAdd] <;> exact rfl) ?_
    repeat' (first
        | ((with_reducible apply c_cond_dec); exact rfl; intro _; rotate_left 1; intro _; (all_goals (try (exfalso; (focus (omega; done))))))
        | ((first | ((with_reducible apply W_op); exact rfl; exact rfl)); (first | ((with_reducible apply r_move); ((conv => lhs; whnf) <;> exact rfl)) | ((with_reducible apply r_assign); ((conv => lhs; whnf) <;> exact rfl)) | ((with_reducible apply r_neq); exact rfl; exact rfl) | ((with_reducible apply r_not); exact rfl)))
        | (refine W_callv (hck _ (by repeat (first | assumption | exact Ex.refl _ | (refine Ex.trans ?_ (by assumption)) | (refine Ex.of_grown ?_ (by assumption) (by intro k hk; cases hk; omega))))) rfl (fun wq he => ?_); have hsz := he.size)
        | (refine W_callv (isNumber_any s _) rfl (fun wq he => ?_); have hsz := he.size)
        | (refine W_callv (hco _ (by repeat (first | assumption | exact Ex.refl _ | (refine Ex.trans ?_ (by assumption)) | (refine Ex.of_grown ?_ (by assumption) (by intro k hk; cases hk; omega))))) rfl (fun wq he => ?_); have hsz := he.size)
        | (with_reducible apply W_nil)
        | (with_reducible apply c_seq)
        | ((with_reducible apply c_region); kernel_rfl)
        | (with_reducible apply n_nq)
        | (with_reducible apply c_skip)
        | (with_reducible apply c_ret)
        | (with_reducible apply n_then)
        | (with_reducible apply r_then)
        | ((with_reducible apply p_ret2); exact rfl; exact rfl; ((conv => lhs; whnf) <;> exact rfl); ((conv => lhs; whnf) <;> exact rfl); refine ⟨_, rfl, ?_, (by repeat (first | assumption | exact Ex.refl _ | (refine Ex.trans ?_ (by assumption)) | (refine Ex.of_grown ?_ (by assumption) (by intro k hk; cases hk; omega))))⟩))
    all_goals first
      | (rw [show cntErr (m : Int) sh s = 3 by unfold cntErr; rw [if_neg (Classical.not_not.2 hc), if_neg (by omega)]]; rfl)
      | (rw [show cntErr (m : Int) sh s = 0 by unfold cntErr; rw [if_neg (Classical.not_not.2 hc), if_pos (by omega)], Int.toNat_natCast]; rfl)
      | trace_state
  · have he : cntErr need sh s = chk need sh := by unfold cntErr; rw [if_pos hc]
    rw [he]
    obtain ⟨e, hee⟩ : ∃ e, e = chk need sh := ⟨_, rfl⟩
    rw [← hee] at hck hc ⊢
    rw [if_neg hc]
    refine ret_of_c Try.func34 rfl Try.ntmps34 (Nat.le_of_ble_eq_true rfl) (by dsimp only [ini, Nat.reduceAdd] <;> exact rfl) ?_
    repeat' (first
        | ((with_reducible apply c_cond_dec); exact rfl; intro _; rotate_left 1; intro _; (all_goals (try (exfalso; (focus (omega; done))))))
        | ((first | ((with_reducible apply W_op); exact rfl; exact rfl)); (first | ((with_reducible apply r_move); ((conv => lhs; whnf) <;> exact rfl)) | ((with_reducible apply r_assign); ((conv => lhs; whnf) <;> exact rfl)) | ((with_reducible apply r_neq); exact rfl; exact rfl)))
        | (refine W_callv (hck _ (by repeat (first | assumption | exact Ex.refl _ | (refine Ex.trans ?_ (by assumption)) | (refine Ex.of_grown ?_ (by assumption) (by intro k hk; cases hk; omega))))) rfl (fun wq he => ?_); have hsz := he.size)
        | (with_reducible apply W_nil)
        | (with_reducible apply c_seq)
        | ((with_reducible apply c_region); kernel_rfl)
        | (with_reducible apply n_nq)
        | (with_reducible apply c_ret)
        | (with_reducible apply n_then)
        | (with_reducible apply r_then)
        | ((with_reducible apply p_ret2); exact rfl; exact rfl; ((conv => lhs; whnf) <;> exact rfl); ((conv => lhs; whnf) <;> exact rfl); refine ⟨_, rfl, ?_, (by repeat (first | assumption | exact Ex.refl _ | (refine Ex.trans ?_ (by assumption)) | (refine Ex.of_grown ?_ (by assumption) (by intro k hk; cases hk; omega))))⟩))
    all_goals first | rfl | trace_state
end Go.Proofs.Ytngoipmdhliigaa
