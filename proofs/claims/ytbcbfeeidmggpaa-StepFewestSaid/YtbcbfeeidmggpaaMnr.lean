/-
  What this text proves: near says whether a position fits: some row is near. Condition: positions, offsets, errors and steps within the bounds that sheets have.
-/
import Derived.Test.YtbcbfeeidmggpaaMq
set_option linter.unusedVariables false
set_option linter.unusedSimpArgs false

namespace Go.Pv
theorem mul_abs {a b k s : Int} (hk : -a ≤ k ∧ k ≤ a) (hs : 1 ≤ s ∧ s ≤ b) (ha : 0 ≤ a) : -(a * b) ≤ k * s ∧ k * s ≤ a * b := by
  have h1 : k * s ≤ a * s := Int.mul_le_mul_of_nonneg_right hk.2 (by omega)
  have h2 : a * s ≤ a * b := Int.mul_le_mul_of_nonneg_left hs.2 ha
  have h3 : -a * s ≤ k * s := Int.mul_le_mul_of_nonneg_right hk.1 (by omega)
  rw [Int.neg_mul] at h3
  omega
theorem tdiv_abs (n s b : Int) (hs : 1 ≤ s) (h : -b ≤ n ∧ n ≤ b) : -b - 1 ≤ n.tdiv s ∧ n.tdiv s ≤ b + 1 := by
  have h1 := tdiv_floor n s hs
  have h2 := ediv_bd n s hs b h
  by_cases e : n.tmod s < 0
  · have := h1.1 e; omega
  · have := h1.2 e; omega
theorem near_lo {off s o p r : Int} (hs : 1 ≤ s) (h : -off ≤ p - o - r * s ∧ p - o - r * s ≤ off) : (p - o - off).tdiv s - 2 ≤ r ∧ r ≤ (p - o + off).tdiv s + 2 := by
  have h1 := row_of hs h
  have h2 := tdiv_floor (-(p - o - off)) s hs
  have h3 := tdiv_floor (p - o + off) s hs
  have h4 : (-(p - o - off)).tdiv s = -((p - o - off).tdiv s) := Int.neg_tdiv ..
  by_cases e : (-(p - o - off)).tmod s < 0
  · have := h2.1 e
    by_cases e3 : (p - o + off).tmod s < 0
    · have := h3.1 e3; omega
    · have := h3.2 e3; omega
  · have := h2.2 e
    by_cases e3 : (p - o + off).tmod s < 0
    · have := h3.1 e3; omega
    · have := h3.2 e3; omega
end Go.Pv
namespace Go.Proofs.Ytbcbfeeidmggpaa
open Go.Pv Go.RowKit
set_option maxHeartbeats 8000000

theorem near_any (p s o off : Int) (w : World) (hp : 0 ≤ p ∧ p ≤ 1000000) (hs : 1 ≤ s ∧ s ≤ 1000) (ho : 0 ≤ o ∧ o ≤ 1000) (hoff : 0 ≤ off ∧ off ≤ 50) : Ret Try.prog 15 [.int .i64 p, .int .i64 s, .int .i64 o, .int .i64 off] w fun r _ => r = .bool (decide (fits1 off s o p)) := by
  have hb1 := tdiv_abs (p - o - off) s 2000000 hs.1 (by omega)
  have hb2 := tdiv_abs (p - o + off) s 2000000 hs.1 (by omega)
  have h12 : (p - o - off).tdiv s ≤ (p - o + off).tdiv s + 2 := by
    have h1 := tdiv_floor (p - o - off) s hs.1
    have h2 := tdiv_floor (p - o + off) s hs.1
    have h3 := Int.ediv_le_ediv (c := s) (by omega) (show p - o - off ≤ p - o + off by omega)
    by_cases e : (p - o - off).tmod s < 0
    · have := h1.1 e
      by_cases e3 : (p - o + off).tmod s < 0
      · have := h2.1 e3; omega
      · have := h2.2 e3; omega
    · have := h1.2 e
      by_cases e3 : (p - o + off).tmod s < 0
      · have := h2.1 e3; omega
      · have := h2.2 e3; omega
  obtain ⟨t1, ht1⟩ : ∃ t1, t1 = (p - o - off).tdiv s := ⟨_, rfl⟩
  obtain ⟨t2, ht2⟩ : ∃ t2, t2 = (p - o + off).tdiv s := ⟨_, rfl⟩
  rw [← ht1, ← ht2] at h12
  rw [← ht1] at hb1
  rw [← ht2] at hb2
  refine ret_of_c Try.func15 rfl Try.ntmps15 (Nat.le_of_ble_eq_true rfl) (by dsimp only [ini, Nat.reduceAdd] <;> exact rfl) ?_
  repeat' (first
      | ((with_reducible apply W_op); exact rfl; exact rfl; exact ht1 ▸ r_quo (m := p - o - off) (n := s) rfl rfl (by omega) (by rw [← ht1]; omega))
      | ((with_reducible apply W_op); exact rfl; exact rfl; exact ht2 ▸ r_quo (m := p - o + off) (n := s) rfl rfl (by omega) (by rw [← ht2]; omega))
      | ((first | ((with_reducible apply W_op); exact rfl; exact rfl)); (first | ((with_reducible apply r_move); ((conv => lhs; whnf) <;> exact rfl)) | ((with_reducible apply r_assign); ((conv => lhs; whnf) <;> exact rfl)) | ((with_reducible apply r_leq); exact rfl; exact rfl) | ((with_reducible apply r_add); exact rfl; exact rfl; omega) | ((with_reducible apply r_sub); exact rfl; exact rfl; omega) | ((with_reducible apply r_pick_true); exact rfl; ((conv => lhs; whnf) <;> exact rfl)) | ((with_reducible apply r_pick_false); exact rfl; ((conv => lhs; whnf) <;> exact rfl)) | ((with_reducible apply r_quo); exact rfl; exact rfl; omega; omega) | ((with_reducible apply r_mul); exact rfl; exact rfl; omega) | ((with_reducible apply r_neg); exact rfl; omega)))
      | (have hks := mul_abs (a := 3000000) (b := 1000) (k := k) (s := s) (by omega) hs (by omega); (with_reducible apply W_op); exact rfl; exact rfl; exact r_mul rfl rfl (by omega))
      | (refine c_loopG (fun (j : Nat) ps wr => ∃ k : Int, ps = [(0, .int .i64 p), (1, .int .i64 s), (2, .int .i64 o), (3, .int .i64 off), (9, .int .i64 k)] ∧ k = t1 - 2 + j ∧ k ≤ t2 + 3 + 2 ∧ (∀ r : Int, t1 - 2 ≤ r → r < k → ¬ (-off ≤ p - o - r * s ∧ p - o - r * s ≤ off)) ∧ Ex w wr) (fun j => (t2 + 10 - t1).toNat - j) 0 _ ⟨_, rfl, by omega, by omega, (fun r h1 h2 => by omega), (by repeat (first | assumption | exact Ex.refl _ | (refine Ex.trans ?_ (by assumption)) | (refine Ex.of_grown ?_ (by assumption) (by intro k hk; cases hk; omega))))⟩ ⟨rfl, rfl, rfl, rfl, rfl, trivial⟩ (by ((conv => lhs; whnf) <;> exact rfl)) ?_; rintro J hJ j u ps wr ⟨k, rfl, hkj, hk2, hall, he⟩; have hsz := he.size)
      | (refine n_roundG (j + 1) (hJ _ _ _ _ ⟨_, rfl, by omega, by omega, (fun r h1 h2 => by by_cases e : r = k; (subst e; omega); exact hall r h1 (by omega)), (by repeat (first | assumption | exact Ex.refl _ | (refine Ex.trans ?_ (by assumption)) | (refine Ex.of_grown ?_ (by assumption) (by intro k hk; cases hk; omega))))⟩ ⟨rfl, rfl, rfl, rfl, rfl, trivial⟩ rfl) (by omega))
      | (with_reducible apply W_nil)
      | ((with_reducible apply W_pass); exact rfl; exact rfl; exact rfl; exact rfl; exact rfl)
      | ((with_reducible apply W_take); exact rfl; exact rfl; exact rfl)
      | ((with_reducible apply W_passU); exact rfl; exact rfl; exact rfl; exact rfl)
      | ((with_reducible apply W_split); exact rfl; exact rfl; intro _; rotate_left 1; intro _)
      | (with_reducible apply c_seq)
      | (with_reducible apply c_region)
      | (with_reducible apply c_block)
      | (with_reducible apply c_skip)
      | (with_reducible apply c_ret)
      | (with_reducible apply c_exit)
      | ((with_reducible apply c_cond_true); exact rfl)
      | ((with_reducible apply c_cond_false); exact rfl)
      | ((with_reducible apply c_cond_dec); exact rfl; intro _; rotate_left 1; intro _)
      | ((with_reducible apply c_cond_bool); exact rfl; intro _; rotate_left 1; intro _)
      | (with_reducible apply n_then)
      | (with_reducible apply n_block)
      | (with_reducible apply e_then)
      | (with_reducible apply e_block)
      | (with_reducible apply r_then)
      | (with_reducible apply r_block)
      | ((with_reducible apply e_block'); decide)
      | ((with_reducible apply p_ret1); exact rfl; ((conv => lhs; whnf) <;> exact rfl); refine ⟨_, rfl, ?_, (by repeat (first | assumption | exact Ex.refl _ | (refine Ex.trans ?_ (by assumption)) | (refine Ex.of_grown ?_ (by assumption) (by intro k hk; cases hk; omega))))⟩)
      | ((with_reducible apply q_ret1); exact rfl; ((conv => lhs; whnf) <;> exact rfl); refine ⟨_, rfl, ?_, (by repeat (first | assumption | exact Ex.refl _ | (refine Ex.trans ?_ (by assumption)) | (refine Ex.of_grown ?_ (by assumption) (by intro k hk; cases hk; omega))))⟩)
      | ((exfalso; omega)))
  · refine bool_ff fun hf => ?_
    obtain ⟨r, hr⟩ := (fits1_row hs.1).1 hf
    have := near_lo hs.1 hr
    exact hall r (by omega) (by omega) hr
  · exact bool_tt ((fits1_row hs.1).2 ⟨k, by omega⟩)
end Go.Proofs.Ytbcbfeeidmggpaa
