/-
  (heavy) What this text proves: the laws VaultDeals, VaultAdds and VaultKnown return true. Conditions: the values read as lists.
-/
import Derived.Test.YtmicpjholmigeaaVJx
import Derived.Test.YtmicpjholmigeaaVJf
import Derived.Test.YtmicpjholmigeaaVJc
set_option linter.unusedVariables false
set_option linter.unusedSimpArgs false
namespace Go.Proofs.Ytmicpjholmigeaa
open Go.Pv Go.RowKit Go.Sort
set_option maxHeartbeats 8000000
set_option maxRecDepth 20000
theorem same_same (va vb : Value) (a : List (Int × Int)) (w : World) (ha : Prs w va a) (hb : Prs w vb a) : Ret Try.prog 23 [va, vb] w fun r _ => r = .bool true := by
  have h := same_any va vb a a w ha hb
  rwa [decide_eq_true rfl] at h
theorem lawDeals_any (v : Value) (l : List Int) (x n : Int) (w : World) (h : Ints w v l) : Ret Try.prog 3 [v, .int .i64 x, .int .i64 n] w fun r _ => r = .bool true := by
  have hv1 := h.one
  have hln := h.len
  have hV := fun w2 (e : Ex w w2) => Value_any v l x w2 (IntsK.ex e h)
  have hR := fun w2 (e : Ex w w2) => rValue_any v l x w2 (IntsK.ex e h)
  obtain ⟨a, ha⟩ : ∃ a, a = (if valErr l x = 0 then atP l x else 0) := ⟨_, rfl⟩
  simp only [← ha] at hV hR
  obtain ⟨ea, hea⟩ : ∃ a, a = valErr l x := ⟨_, rfl⟩
  simp only [← hea] at hV hR
  have hI := fun w2 => Inverse_any x w2
  have hJ2 := fun w2 => rInverse_any x w2
  obtain ⟨c, hc⟩ : ∃ a, a = (if invErr x = 0 then invN x else 0) := ⟨_, rfl⟩
  simp only [← hc] at hI hJ2
  obtain ⟨ec, hec⟩ : ∃ a, a = invErr x := ⟨_, rfl⟩
  simp only [← hec] at hI hJ2
  have hD := fun w2 (e : Ex w w2) => Deal_any v l n w2 (IntsK.ex e h)
  have hE := fun w2 (e : Ex w w2) => rDeal_any v l n w2 (IntsK.ex e h)
  obtain ⟨dl, hdl⟩ : ∃ a, a = (if dealErr l n = 0 then dealL l n.toNat else []) := ⟨_, rfl⟩
  simp only [← hdl] at hD hE
  obtain ⟨ed, hed⟩ : ∃ a, a = dealErr l n := ⟨_, rfl⟩
  simp only [← hed] at hD hE
  clear ha hea hc hec hdl hed
  refine ret_of_c Try.func3 rfl Try.ntmps3 (Nat.le_of_ble_eq_true rfl) (by dsimp only [ini, Nat.reduceAdd] <;> exact rfl) ?_
  repeat' (first
      | ((with_reducible apply W_split); exact rfl; exact rfl; intro _; rotate_left 1; intro hsx; (all_goals (try (exfalso; (focus (first | exact hsx rfl | omega; done))))))
      | ((first | ((with_reducible apply W_op); exact rfl; exact rfl)); (first | ((with_reducible apply r_move); ((conv => lhs; whnf) <;> exact rfl)) | ((with_reducible apply r_assign); ((conv => lhs; whnf) <;> exact rfl)) | ((with_reducible apply r_gtr); exact rfl; exact rfl) | ((with_reducible apply r_eql); exact rfl; exact rfl) | ((with_reducible apply r_len); exact rfl) | ((with_reducible apply r_lenStr); exact rfl) | ((with_reducible apply r_lenInts); ((conv => lhs; whnf) <;> exact rfl); (focus ((repeat (first | assumption | ((refine IntsK.exH (by assumption) ?_); (focus ((repeat (first | exact Ex.refl _ | assumption | (refine Ex.of_grown ?_ (by assumption) (by intro k hk; cases hk; omega)) | (refine Ex.trans ?_ (by assumption)))); done))) | ((refine Prs.exH (by assumption) ?_); (focus ((repeat (first | exact Ex.refl _ | assumption | (refine Ex.of_grown ?_ (by assumption) (by intro k hk; cases hk; omega)) | (refine Ex.trans ?_ (by assumption)))); done))) | ((with_reducible apply Bx.grownS); assumption; (first | omega | exact Bx.ne (by assumption) (by omega))) | ((with_reducible apply Bx.below); assumption; omega) | ((with_reducible apply OwnP.grownS); assumption; omega) | ((with_reducible apply Own.grownS); assumption; omega) | ((with_reducible apply Bx.ex); assumption) | ((with_reducible apply IntsK.ex); assumption) | ((with_reducible apply Own.ex); assumption) | ((with_reducible apply Prs.ex); assumption) | ((with_reducible apply OwnP.ex); assumption))); done))) | ((with_reducible apply r_lenPrs); ((conv => lhs; whnf) <;> exact rfl); (focus ((repeat (first | assumption | ((refine IntsK.exH (by assumption) ?_); (focus ((repeat (first | exact Ex.refl _ | assumption | (refine Ex.of_grown ?_ (by assumption) (by intro k hk; cases hk; omega)) | (refine Ex.trans ?_ (by assumption)))); done))) | ((refine Prs.exH (by assumption) ?_); (focus ((repeat (first | exact Ex.refl _ | assumption | (refine Ex.of_grown ?_ (by assumption) (by intro k hk; cases hk; omega)) | (refine Ex.trans ?_ (by assumption)))); done))) | ((with_reducible apply Bx.grownS); assumption; (first | omega | exact Bx.ne (by assumption) (by omega))) | ((with_reducible apply Bx.below); assumption; omega) | ((with_reducible apply OwnP.grownS); assumption; omega) | ((with_reducible apply Own.grownS); assumption; omega) | ((with_reducible apply Bx.ex); assumption) | ((with_reducible apply IntsK.ex); assumption) | ((with_reducible apply Own.ex); assumption) | ((with_reducible apply Prs.ex); assumption) | ((with_reducible apply OwnP.ex); assumption))); done))) | ((with_reducible apply r_pick_true); exact rfl; ((conv => lhs; whnf) <;> exact rfl)) | ((with_reducible apply r_pick_false); exact rfl; ((conv => lhs; whnf) <;> exact rfl)) | ((with_reducible apply r_eqlb); exact rfl; exact rfl) | ((with_reducible apply r_extract); exact rfl; exact rfl)))
      | (refine W_callv (hV _ (by repeat (first | assumption | exact Ex.refl _ | (refine Ex.trans ?_ (by assumption)) | (refine Ex.of_grown ?_ (by assumption) (by intro k hk; cases hk; omega))))) rfl (fun wq he => ?_); have hsz := he.size)
      | (refine W_callv (hR _ (by repeat (first | assumption | exact Ex.refl _ | (refine Ex.trans ?_ (by assumption)) | (refine Ex.of_grown ?_ (by assumption) (by intro k hk; cases hk; omega))))) rfl (fun wq he => ?_); have hsz := he.size)
      | (refine W_callv (hI _) rfl (fun wq he => ?_); have hsz := he.size)
      | (refine W_callv (hJ2 _) rfl (fun wq he => ?_); have hsz := he.size)
      | (refine W_call (hD _ (by repeat (first | assumption | exact Ex.refl _ | (refine Ex.trans ?_ (by assumption)) | (refine Ex.of_grown ?_ (by assumption) (by intro k hk; cases hk; omega))))) rfl ?_; rintro vq wq ⟨u1, rfl, ho1⟩ he; have hsz := he.size; have hu1 := ho1.one; have hp1 := ho1.prs)
      | (refine W_call (hE _ (by repeat (first | assumption | exact Ex.refl _ | (refine Ex.trans ?_ (by assumption)) | (refine Ex.of_grown ?_ (by assumption) (by intro k hk; cases hk; omega))))) rfl ?_; rintro vq wq ⟨u2, rfl, ho2⟩ he; have hsz := he.size; have hu2 := ho2.one; have hp2 := ho2.prs)
      | (refine W_callv (same_same _ _ dl _ (Prs.ex (by repeat (first | exact Ex.refl _ | assumption | (refine Ex.of_grown ?_ (by assumption) (by intro k hk; cases hk; omega)) | (refine Ex.trans ?_ (by assumption)))) hp1) (Prs.ex (by repeat (first | exact Ex.refl _ | assumption | (refine Ex.of_grown ?_ (by assumption) (by intro k hk; cases hk; omega)) | (refine Ex.trans ?_ (by assumption)))) hp2)) rfl (fun wq he => ?_); have hsz := he.size)
      | (refine W_callv (works_any _) rfl (fun wq he => ?_); have hsz := he.size)
      | (with_reducible apply W_nil)
      | ((with_reducible apply W_pass); exact rfl; exact rfl; exact rfl; exact rfl; exact rfl)
      | ((with_reducible apply W_take); exact rfl; exact rfl; exact rfl)
      | ((with_reducible apply W_passU); exact rfl; exact rfl; exact rfl; exact rfl)
      | ((with_reducible apply W_split); exact rfl; exact rfl; intro _; rotate_left 1; intro _)
      | (with_reducible apply c_seq)
      | ((with_reducible apply c_region); kernel_rfl)
      | (with_reducible apply n_nq)
      | (with_reducible apply c_skip)
      | (with_reducible apply c_ret)
      | ((with_reducible apply c_cond_true); exact rfl)
      | ((with_reducible apply c_cond_false); exact rfl)
      | ((with_reducible apply c_cond_dec); exact rfl; intro _; rotate_left 1; intro _)
      | ((with_reducible apply c_cond_bool); exact rfl; intro _; rotate_left 1; intro _)
      | (with_reducible apply n_then)
      | (with_reducible apply e_then)
      | (with_reducible apply r_then)
      | ((with_reducible apply p_ret1); exact rfl; exact rfl; ((conv => lhs; whnf) <;> exact rfl); refine ⟨_, rfl, ?_, (by repeat (first | assumption | exact Ex.refl _ | (refine Ex.trans ?_ (by assumption)) | (refine Ex.of_grown ?_ (by assumption) (by intro k hk; cases hk; omega))))⟩)
      | ((with_reducible apply m_ret1); (focus ((repeat (first | assumption | exact Al.nil _ _ | ((with_reducible apply Al.grownS); assumption; (focus ((repeat (first | assumption | ((with_reducible apply Bx.grownS); assumption; (first | omega | exact Bx.ne (by assumption) (by omega))) | ((with_reducible apply Bx.below); assumption; omega) | ((with_reducible apply Bx.ex); assumption))); done))) | (refine Al.ex (by assumption) ?_))); done)); exact rfl; ((conv => lhs; whnf) <;> exact rfl); refine ⟨_, rfl, ?_, (shut_grown _ _ (by repeat (first | assumption | exact Al.nil _ _ | ((with_reducible apply Al.grownS); assumption; (focus ((repeat (first | assumption | ((with_reducible apply Bx.grownS); assumption; (first | omega | exact Bx.ne (by assumption) (by omega))) | ((with_reducible apply Bx.below); assumption; omega) | ((with_reducible apply Bx.ex); assumption))); done))) | (refine Al.ex (by assumption) ?_))) (by repeat (first | assumption | exact Ex.refl _ | (refine Ex.trans ?_ (by assumption)) | (refine Ex.of_grown ?_ (by assumption) (by intro k hk; cases hk; omega)))) (Nat.le_refl _))⟩)
      | ((with_reducible apply p_retct); exact rfl; exact rfl; exact inferInstance; exact inferInstance; exact rfl; (focus ((repeat (first | assumption | ((with_reducible apply Bx.grownS); assumption; (first | omega | exact Bx.ne (by assumption) (by omega))) | ((with_reducible apply Bx.below); assumption; omega) | ((with_reducible apply Bx.ex); assumption))); done)); exact rfl; exact rfl; refine ⟨_, rfl, ?_, (by repeat (first | assumption | exact Ex.refl _ | (refine Ex.trans ?_ (by assumption)) | (refine Ex.of_grown ?_ (by assumption) (by intro k hk; cases hk; omega))))⟩)
      | ((exfalso; omega)))
  all_goals first | rfl | trace_state
theorem lawAdds_any (va vb : Value) (a b : List (Int × Int)) (w : World) (h : Prs w va a) (k2 : Prs w vb b) : Ret Try.prog 7 [va, vb] w fun r _ => r = .bool true := by
  have hv1 := h.one
  have hv2 := k2.one
  have hln := h.len
  have hln2 := k2.len
  have hD := fun w2 (e : Ex w w2) => Add_any va vb a b w2 (Prs.ex e h) (Prs.ex e k2)
  have hE := fun g1 g2 w2 (e1 : Prs w2 g1 a) (e2 : Prs w2 g2 b) => rAdd_any g1 g2 a b w2 e1 e2
  obtain ⟨dl, hdl⟩ : ∃ q, q = (if addErr a b = 0 then addS a b else []) := ⟨_, rfl⟩
  simp only [← hdl] at hD hE
  obtain ⟨ed, hed⟩ : ∃ q, q = addErr a b := ⟨_, rfl⟩
  simp only [← hed] at hD hE
  clear hdl hed
  refine ret_of_c Try.func7 rfl Try.ntmps7 (Nat.le_of_ble_eq_true rfl) (by dsimp only [ini, Nat.reduceAdd] <;> exact rfl) ?_
  repeat' (first
      | ((with_reducible apply W_split); exact rfl; exact rfl; intro _; rotate_left 1; intro hsx; (all_goals (try (exfalso; (focus (first | exact hsx rfl | omega; done))))))
      | ((with_reducible apply W_op); exact rfl; exact rfl; exact r_lenPrs rfl (Prs.ex (show Ex w _ from (by repeat (first | exact Ex.refl _ | assumption | (refine Ex.of_grown ?_ (by assumption) (by intro k hk; cases hk; omega)) | (refine Ex.trans ?_ (by assumption))))) h))
      | ((with_reducible apply W_op); exact rfl; exact rfl; exact r_lenPrs rfl (Prs.ex (show Ex w _ from (by repeat (first | exact Ex.refl _ | assumption | (refine Ex.of_grown ?_ (by assumption) (by intro k hk; cases hk; omega)) | (refine Ex.trans ?_ (by assumption))))) k2))
      | (clear tkA; refine W_call (given_any va a _ (Prs.ex (show Ex w _ from (by repeat (first | exact Ex.refl _ | assumption | (refine Ex.of_grown ?_ (by assumption) (by intro k hk; cases hk; omega)) | (refine Ex.trans ?_ (by assumption))))) h) (by omega)) rfl ?_; rintro vq wq og1 he; have hsz := he.size; have hg1 := og1.one; have pg1 := og1.prs; have tkB : True := trivial)
      | (clear tkB; refine W_call (given_any vb b _ (Prs.ex (show Ex w _ from (by repeat (first | exact Ex.refl _ | assumption | (refine Ex.of_grown ?_ (by assumption) (by intro k hk; cases hk; omega)) | (refine Ex.trans ?_ (by assumption))))) k2) (by omega)) rfl ?_; rintro vq wq og2 he; have hsz := he.size; have hg2 := og2.one; have pg2 := og2.prs)
      | ((first | ((with_reducible apply W_op); exact rfl; exact rfl)); (first | ((with_reducible apply r_move); ((conv => lhs; whnf) <;> exact rfl)) | ((with_reducible apply r_assign); ((conv => lhs; whnf) <;> exact rfl)) | ((with_reducible apply r_gtr); exact rfl; exact rfl) | ((with_reducible apply r_eql); exact rfl; exact rfl) | ((with_reducible apply r_len); exact rfl) | ((with_reducible apply r_lenStr); exact rfl) | ((with_reducible apply r_lenInts); ((conv => lhs; whnf) <;> exact rfl); (focus ((repeat (first | assumption | ((refine IntsK.exH (by assumption) ?_); (focus ((repeat (first | exact Ex.refl _ | assumption | (refine Ex.of_grown ?_ (by assumption) (by intro k hk; cases hk; omega)) | (refine Ex.trans ?_ (by assumption)))); done))) | ((refine Prs.exH (by assumption) ?_); (focus ((repeat (first | exact Ex.refl _ | assumption | (refine Ex.of_grown ?_ (by assumption) (by intro k hk; cases hk; omega)) | (refine Ex.trans ?_ (by assumption)))); done))) | ((with_reducible apply Bx.grownS); assumption; (first | omega | exact Bx.ne (by assumption) (by omega))) | ((with_reducible apply Bx.below); assumption; omega) | ((with_reducible apply OwnP.grownS); assumption; omega) | ((with_reducible apply Own.grownS); assumption; omega) | ((with_reducible apply Bx.ex); assumption) | ((with_reducible apply IntsK.ex); assumption) | ((with_reducible apply Own.ex); assumption) | ((with_reducible apply Prs.ex); assumption) | ((with_reducible apply OwnP.ex); assumption))); done))) | ((with_reducible apply r_lenPrs); ((conv => lhs; whnf) <;> exact rfl); (focus ((repeat (first | assumption | ((refine IntsK.exH (by assumption) ?_); (focus ((repeat (first | exact Ex.refl _ | assumption | (refine Ex.of_grown ?_ (by assumption) (by intro k hk; cases hk; omega)) | (refine Ex.trans ?_ (by assumption)))); done))) | ((refine Prs.exH (by assumption) ?_); (focus ((repeat (first | exact Ex.refl _ | assumption | (refine Ex.of_grown ?_ (by assumption) (by intro k hk; cases hk; omega)) | (refine Ex.trans ?_ (by assumption)))); done))) | ((with_reducible apply Bx.grownS); assumption; (first | omega | exact Bx.ne (by assumption) (by omega))) | ((with_reducible apply Bx.below); assumption; omega) | ((with_reducible apply OwnP.grownS); assumption; omega) | ((with_reducible apply Own.grownS); assumption; omega) | ((with_reducible apply Bx.ex); assumption) | ((with_reducible apply IntsK.ex); assumption) | ((with_reducible apply Own.ex); assumption) | ((with_reducible apply Prs.ex); assumption) | ((with_reducible apply OwnP.ex); assumption))); done))) | ((with_reducible apply r_pick_true); exact rfl; ((conv => lhs; whnf) <;> exact rfl)) | ((with_reducible apply r_pick_false); exact rfl; ((conv => lhs; whnf) <;> exact rfl)) | ((with_reducible apply r_eqlb); exact rfl; exact rfl) | ((with_reducible apply r_extract); exact rfl; exact rfl)))
      | (refine W_call (hD _ (by repeat (first | assumption | exact Ex.refl _ | (refine Ex.trans ?_ (by assumption)) | (refine Ex.of_grown ?_ (by assumption) (by intro k hk; cases hk; omega))))) rfl ?_; rintro vq wq ⟨u1, rfl, ho1⟩ he; have hsz := he.size; have hu1 := ho1.one; have hp1 := ho1.prs; have tkA : True := trivial)
      | (refine W_call (hE _ _ _ (Prs.ex (by repeat (first | exact Ex.refl _ | assumption | (refine Ex.of_grown ?_ (by assumption) (by intro k hk; cases hk; omega)) | (refine Ex.trans ?_ (by assumption)))) pg1) pg2) rfl ?_; rintro vq wq ⟨u2, rfl, ho2⟩ he; have hsz := he.size; have hu2 := ho2.one; have hp2 := ho2.prs)
      | (refine W_callv (same_same _ _ dl _ (Prs.ex (by repeat (first | exact Ex.refl _ | assumption | (refine Ex.of_grown ?_ (by assumption) (by intro k hk; cases hk; omega)) | (refine Ex.trans ?_ (by assumption)))) hp1) (Prs.ex (by repeat (first | exact Ex.refl _ | assumption | (refine Ex.of_grown ?_ (by assumption) (by intro k hk; cases hk; omega)) | (refine Ex.trans ?_ (by assumption)))) hp2)) rfl (fun wq he => ?_); have hsz := he.size)
      | (refine W_callv (works_any _) rfl (fun wq he => ?_); have hsz := he.size)
      | (with_reducible apply W_nil)
      | ((with_reducible apply W_pass); exact rfl; exact rfl; exact rfl; exact rfl; exact rfl)
      | ((with_reducible apply W_take); exact rfl; exact rfl; exact rfl)
      | ((with_reducible apply W_passU); exact rfl; exact rfl; exact rfl; exact rfl)
      | ((with_reducible apply W_split); exact rfl; exact rfl; intro _; rotate_left 1; intro _)
      | (with_reducible apply c_seq)
      | ((with_reducible apply c_region); kernel_rfl)
      | (with_reducible apply n_nq)
      | (with_reducible apply c_skip)
      | (with_reducible apply c_ret)
      | ((with_reducible apply c_cond_true); exact rfl)
      | ((with_reducible apply c_cond_false); exact rfl)
      | ((with_reducible apply c_cond_dec); exact rfl; intro _; rotate_left 1; intro _)
      | ((with_reducible apply c_cond_bool); exact rfl; intro _; rotate_left 1; intro _)
      | (with_reducible apply n_then)
      | (with_reducible apply e_then)
      | (with_reducible apply r_then)
      | ((with_reducible apply p_ret1); exact rfl; exact rfl; ((conv => lhs; whnf) <;> exact rfl); refine ⟨_, rfl, ?_, (by repeat (first | assumption | exact Ex.refl _ | (refine Ex.trans ?_ (by assumption)) | (refine Ex.of_grown ?_ (by assumption) (by intro k hk; cases hk; omega))))⟩)
      | ((with_reducible apply m_ret1); (focus ((repeat (first | assumption | exact Al.nil _ _ | ((with_reducible apply Al.grownS); assumption; (focus ((repeat (first | assumption | ((with_reducible apply Bx.grownS); assumption; (first | omega | exact Bx.ne (by assumption) (by omega))) | ((with_reducible apply Bx.below); assumption; omega) | ((with_reducible apply Bx.ex); assumption))); done))) | (refine Al.ex (by assumption) ?_))); done)); exact rfl; ((conv => lhs; whnf) <;> exact rfl); refine ⟨_, rfl, ?_, (shut_grown _ _ (by repeat (first | assumption | exact Al.nil _ _ | ((with_reducible apply Al.grownS); assumption; (focus ((repeat (first | assumption | ((with_reducible apply Bx.grownS); assumption; (first | omega | exact Bx.ne (by assumption) (by omega))) | ((with_reducible apply Bx.below); assumption; omega) | ((with_reducible apply Bx.ex); assumption))); done))) | (refine Al.ex (by assumption) ?_))) (by repeat (first | assumption | exact Ex.refl _ | (refine Ex.trans ?_ (by assumption)) | (refine Ex.of_grown ?_ (by assumption) (by intro k hk; cases hk; omega)))) (Nat.le_refl _))⟩)
      | ((with_reducible apply p_retct); exact rfl; exact rfl; exact inferInstance; exact inferInstance; exact rfl; (focus ((repeat (first | assumption | ((with_reducible apply Bx.grownS); assumption; (first | omega | exact Bx.ne (by assumption) (by omega))) | ((with_reducible apply Bx.below); assumption; omega) | ((with_reducible apply Bx.ex); assumption))); done)); exact rfl; exact rfl; refine ⟨_, rfl, ?_, (by repeat (first | assumption | exact Ex.refl _ | (refine Ex.trans ?_ (by assumption)) | (refine Ex.of_grown ?_ (by assumption) (by intro k hk; cases hk; omega))))⟩)
      | ((exfalso; omega)))
  all_goals first | rfl | trace_state
theorem kInv (k : Nat) (hk : k < 250) (w : World) : Ret Try.prog 19 [.int .i64 ((k : Int) + 1)] w fun r _ => ∃ m, r = .tuple #[.int .i64 m, .int .i64 0] ∧ 1 ≤ m ∧ m < 251 ∧ ((k : Int) + 1) * m % 251 = 1 ∧ 0 ≤ ((k : Int) + 1) * m ∧ ((k : Int) + 1) * m ≤ 62500 := by
  have h := Inverse_any ((k : Int) + 1) w
  have e : invErr ((k : Int) + 1) = 0 := by unfold invErr; rw [if_neg (by omega), if_neg (by omega)]
  rw [e, if_pos rfl] at h
  refine h.monoU fun r _ _ hr => ?_
  have hi := inv_ok (n := (k : Int) + 1) (by omega)
  have h1 : ((k : Int) + 1) * invN ((k : Int) + 1) % 251 = 1 := by have := hi.1; unfold Cg at this; rw [Int.mul_comm]; exact this
  have h2 : invN ((k : Int) + 1) ≠ 0 := by intro e2; rw [e2, Int.mul_zero] at h1; exact absurd h1 (by decide)
  have h3 := mul_bd (a := (k : Int) + 1) (b := invN ((k : Int) + 1)) (by unfold nb; omega) (by unfold nb; omega)
  exact ⟨_, hr, by omega, hi.2.2, h1, h3.1, h3.2⟩
theorem kInv0 (w : World) : Ret Try.prog 19 [.int .i64 0] w fun r _ => r = .tuple #[.int .i64 0, .int .i64 8] := by
  have h := Inverse_any 0 w
  rwa [show invErr 0 = 8 by decide, if_neg (by decide)] at h
theorem kPos (v : Value) (w : World) (h : Prs w v [(1, 12), (2, 21)]) : Ret Try.prog 32 [.int .i64 3, v] w fun r w' => ∃ u, r = .tuple #[u, .int .i64 0] ∧ ∃ l : List Int, l.length = 251 ∧ Ints w' u l := by
  have := Possible_any 3 v _ w h
  rw [show chk 3 [(1, 12), (2, 21)] = 0 by decide, if_pos rfl] at this
  exact this.monoU fun r _ _ ⟨u, e, h⟩ => ⟨u, e, _, by unfold possL; rw [if_pos (by decide)]; simp, Pv.Own.ints h⟩
theorem lawKnown_any (w : World) : Ret Try.prog 15 [] w fun r _ => r = .bool true := by
  have tkL : True := trivial
  refine ret_of_c Try.func15 rfl Try.ntmps15 (Nat.le_of_ble_eq_true rfl) (by dsimp only [ini, Nat.reduceAdd] <;> exact rfl) ?_
  repeat' (first
      | ((with_reducible apply W_split); exact rfl; exact rfl; intro _; rotate_left 1; intro hsx; (all_goals (try (exfalso; (focus (first | exact hsx rfl | omega; done))))))
      | ((with_reducible apply c_cond_dec); exact rfl; intro _; rotate_left 1; intro _; (all_goals (try (exfalso; (focus (omega; done))))))
      | ((with_reducible apply W_op); exact rfl; exact rfl; exact r_lenInts rfl (IntsK.ex (show Ex _ _ from (by repeat (first | exact Ex.refl _ | assumption | (refine Ex.of_grown ?_ (by assumption) (by intro k hk; cases hk; omega)) | (refine Ex.trans ?_ (by assumption))))) hup))
      | (refine W_bsG (N := 4) (n := 1) (qs := [(0, .int .i64 1), (1, .int .i64 12), (2, .int .i64 2), (3, .int .i64 21)]) (c := [.int .i64 1, .int .i64 12, .int .i64 2, .int .i64 21]) rfl rfl (by kernel_rfl) ?_; intro bS wq hbS he hnq; have hltq := Bx.lt hbS; have hsz := he.size)
      | ((with_reducible apply W_op); exact rfl; exact rfl; exact r_remE (m := ((k : Int) + 1) * mv) rfl rfl (by omega) (by omega))
      | ((with_reducible (show C _ _ _ _ _ _)); clear tkL; refine c_loopG (fun (k : Nat) ps wr => ∃ i : Int, ps = [(1, .int .i64 i)] ∧ i = (k : Int) + 1 ∧ k ≤ 250 ∧ Ex w wr) (fun k => 250 - k) 0 _ ⟨_, rfl, rfl, Nat.zero_le _, (by repeat (first | assumption | exact Ex.refl _ | (refine Ex.trans ?_ (by assumption)) | (refine Ex.of_grown ?_ (by assumption) (by intro k hk; cases hk; omega))))⟩ ⟨rfl, trivial⟩ (by ((conv => lhs; whnf) <;> exact rfl)) (by ((conv => lhs; whnf) <;> exact rfl)) ?_; rintro J hJ k u ps wr ⟨i, rfl, rfl, hk, he⟩; have hsz := he.size)
      | ((first | ((with_reducible apply W_op); exact rfl; exact rfl)); (first | ((with_reducible apply r_remE); exact rfl; exact rfl; omega; omega) | ((with_reducible apply r_move); ((conv => lhs; whnf) <;> exact rfl)) | ((with_reducible apply r_assign); ((conv => lhs; whnf) <;> exact rfl)) | ((with_reducible apply r_lss); exact rfl; exact rfl) | ((with_reducible apply r_geq); exact rfl; exact rfl) | ((with_reducible apply r_eql); exact rfl; exact rfl) | ((with_reducible apply r_neq); exact rfl; exact rfl) | ((with_reducible apply r_add); exact rfl; exact rfl; omega) | ((with_reducible apply r_len); exact rfl) | ((with_reducible apply r_lenStr); exact rfl) | ((with_reducible apply r_lenInts); ((conv => lhs; whnf) <;> exact rfl); (focus ((repeat (first | assumption | ((refine IntsK.exH (by assumption) ?_); (focus ((repeat (first | exact Ex.refl _ | assumption | (refine Ex.of_grown ?_ (by assumption) (by intro k hk; cases hk; omega)) | (refine Ex.trans ?_ (by assumption)))); done))) | ((refine Prs.exH (by assumption) ?_); (focus ((repeat (first | exact Ex.refl _ | assumption | (refine Ex.of_grown ?_ (by assumption) (by intro k hk; cases hk; omega)) | (refine Ex.trans ?_ (by assumption)))); done))) | ((with_reducible apply Bx.grownS); assumption; (first | omega | exact Bx.ne (by assumption) (by omega))) | ((with_reducible apply Bx.below); assumption; omega) | ((with_reducible apply OwnP.grownS); assumption; omega) | ((with_reducible apply Own.grownS); assumption; omega) | ((with_reducible apply Bx.ex); assumption) | ((with_reducible apply IntsK.ex); assumption) | ((with_reducible apply Own.ex); assumption) | ((with_reducible apply Prs.ex); assumption) | ((with_reducible apply OwnP.ex); assumption))); done))) | ((with_reducible apply r_lenPrs); ((conv => lhs; whnf) <;> exact rfl); (focus ((repeat (first | assumption | ((refine IntsK.exH (by assumption) ?_); (focus ((repeat (first | exact Ex.refl _ | assumption | (refine Ex.of_grown ?_ (by assumption) (by intro k hk; cases hk; omega)) | (refine Ex.trans ?_ (by assumption)))); done))) | ((refine Prs.exH (by assumption) ?_); (focus ((repeat (first | exact Ex.refl _ | assumption | (refine Ex.of_grown ?_ (by assumption) (by intro k hk; cases hk; omega)) | (refine Ex.trans ?_ (by assumption)))); done))) | ((with_reducible apply Bx.grownS); assumption; (first | omega | exact Bx.ne (by assumption) (by omega))) | ((with_reducible apply Bx.below); assumption; omega) | ((with_reducible apply OwnP.grownS); assumption; omega) | ((with_reducible apply Own.grownS); assumption; omega) | ((with_reducible apply Bx.ex); assumption) | ((with_reducible apply IntsK.ex); assumption) | ((with_reducible apply Own.ex); assumption) | ((with_reducible apply Prs.ex); assumption) | ((with_reducible apply OwnP.ex); assumption))); done))) | ((with_reducible apply r_pick_true); exact rfl; ((conv => lhs; whnf) <;> exact rfl)) | ((with_reducible apply r_pick_false); exact rfl; ((conv => lhs; whnf) <;> exact rfl)) | ((with_reducible apply r_rem); exact rfl; exact rfl; omega) | ((with_reducible apply r_mul); exact rfl; exact rfl; omega) | ((with_reducible apply r_eqlb); exact rfl; exact rfl) | ((with_reducible apply r_neqb); exact rfl; exact rfl) | ((with_reducible apply r_extract); exact rfl; exact rfl)))
      | (refine W_call (kInv k (by omega) _) rfl ?_; rintro vq wq ⟨mv, rfl, hm1, hm2, hm3, hm4, hm5⟩ he; have hsz := he.size)
      | (refine W_callv (kInv0 _) rfl (fun wq he => ?_); have hsz := he.size)
      | (refine W_call (wOf [1, 12, 2, 21] [(1, 12), (2, 21)] _ _ (IntsK.built (xs := [1, 12, 2, 21]) hbS rfl (by simp)) (by decide) rfl) rfl ?_; rintro vq wq hpa he; have hsz := he.size; have hpa1 := hpa.one)
      | (refine W_call (kPos _ _ (by assumption)) rfl ?_; rintro vq wq ⟨up, rfl, lp, hlp, hup⟩ he; have hsz := he.size; have hup1 := hup.one)
      | (refine W_callv (wCnt 8 5 4503599627370496 [] _ _ (OwnP.prs (OwnP.nil 61 0 _)) (by decide) (by decide +kernel)) rfl (fun wq he => ?_); have hsz := he.size)
      | (refine W_callv (works_any _) rfl (fun wq he => ?_); have hsz := he.size)
      | ((with_reducible (show Exit.then _ _ _ _ _)); refine n_roundG (k + 1) (hJ _ _ _ _ ⟨_, rfl, by omega, by omega, (by repeat (first | assumption | exact Ex.refl _ | (refine Ex.trans ?_ (by assumption)) | (refine Ex.of_grown ?_ (by assumption) (by intro k hk; cases hk; omega))))⟩ ⟨rfl, trivial⟩ rfl) (by omega))
      | (with_reducible apply W_nil)
      | ((with_reducible apply W_bsP); exact rfl; exact rfl; intro bq wq hbq he hnq; have hltq := Bx.lt hbq; have hsz := he.size)
      | ((with_reducible apply W_pass); exact rfl; exact rfl; exact rfl; exact rfl; exact rfl)
      | ((with_reducible apply W_take); exact rfl; exact rfl; exact rfl)
      | ((with_reducible apply W_passU); exact rfl; exact rfl; exact rfl; exact rfl)
      | ((with_reducible apply W_split); exact rfl; exact rfl; intro _; rotate_left 1; intro _)
      | ((with_reducible apply W_bs4); ((conv => lhs; whnf) <;> exact rfl); ((conv => lhs; whnf) <;> exact rfl); ((conv => lhs; whnf) <;> exact rfl); ((conv => lhs; whnf) <;> exact rfl); (first | exact rfl | assumption | exact IntsK.one (by assumption) | exact Prs.one (by assumption) | exact OwnP.one (by assumption) | exact Own.one (by assumption)); (first | exact rfl | assumption | exact IntsK.one (by assumption) | exact Prs.one (by assumption) | exact OwnP.one (by assumption) | exact Own.one (by assumption)); (first | exact rfl | assumption | exact IntsK.one (by assumption) | exact Prs.one (by assumption) | exact OwnP.one (by assumption) | exact Own.one (by assumption)); (first | exact rfl | assumption | exact IntsK.one (by assumption) | exact Prs.one (by assumption) | exact OwnP.one (by assumption) | exact Own.one (by assumption)); decide; decide; exact rfl; exact rfl; ((simp only [lay, lset, List.replicate_succ, List.replicate_zero]) <;> exact rfl); intro bq wq hbq he hnq; have hltq := Bx.lt hbq; have hsz := he.size)
      | (with_reducible apply c_seq)
      | ((with_reducible apply c_region); kernel_rfl)
      | (with_reducible apply n_nq)
      | (with_reducible apply c_block)
      | (with_reducible apply c_skip)
      | (with_reducible apply c_ret)
      | (with_reducible apply c_exit)
      | ((with_reducible apply c_cond_true); exact rfl)
      | ((with_reducible apply c_cond_false); exact rfl)
      | ((with_reducible apply c_cond_dec); exact rfl; intro _; rotate_left 1; intro _)
      | ((with_reducible apply c_cond_bool); exact rfl; intro _; rotate_left 1; intro _)
      | (with_reducible apply n_then)
      | (with_reducible apply n_block)
      | (with_reducible apply e_then)
      | (with_reducible apply e_block)
      | (with_reducible apply r_then)
      | (with_reducible apply r_block)
      | ((with_reducible apply e_block'); decide)
      | ((with_reducible apply p_ret1); exact rfl; exact rfl; ((conv => lhs; whnf) <;> exact rfl); refine ⟨_, rfl, ?_, (by repeat (first | assumption | exact Ex.refl _ | (refine Ex.trans ?_ (by assumption)) | (refine Ex.of_grown ?_ (by assumption) (by intro k hk; cases hk; omega))))⟩)
      | ((with_reducible apply m_ret1); (focus ((repeat (first | assumption | exact Al.nil _ _ | ((with_reducible apply Al.grownS); assumption; (focus ((repeat (first | assumption | ((with_reducible apply Bx.grownS); assumption; (first | omega | exact Bx.ne (by assumption) (by omega))) | ((with_reducible apply Bx.below); assumption; omega) | ((with_reducible apply Bx.ex); assumption))); done))) | (refine Al.ex (by assumption) ?_))); done)); exact rfl; ((conv => lhs; whnf) <;> exact rfl); refine ⟨_, rfl, ?_, (shut_grown _ _ (by repeat (first | assumption | exact Al.nil _ _ | ((with_reducible apply Al.grownS); assumption; (focus ((repeat (first | assumption | ((with_reducible apply Bx.grownS); assumption; (first | omega | exact Bx.ne (by assumption) (by omega))) | ((with_reducible apply Bx.below); assumption; omega) | ((with_reducible apply Bx.ex); assumption))); done))) | (refine Al.ex (by assumption) ?_))) (by repeat (first | assumption | exact Ex.refl _ | (refine Ex.trans ?_ (by assumption)) | (refine Ex.of_grown ?_ (by assumption) (by intro k hk; cases hk; omega)))) (Nat.le_refl _))⟩)
      | ((with_reducible apply p_retct); exact rfl; exact rfl; exact inferInstance; exact inferInstance; exact rfl; (focus ((repeat (first | assumption | ((with_reducible apply Bx.grownS); assumption; (first | omega | exact Bx.ne (by assumption) (by omega))) | ((with_reducible apply Bx.below); assumption; omega) | ((with_reducible apply Bx.ex); assumption))); done)); exact rfl; exact rfl; refine ⟨_, rfl, ?_, (by repeat (first | assumption | exact Ex.refl _ | (refine Ex.trans ?_ (by assumption)) | (refine Ex.of_grown ?_ (by assumption) (by intro k hk; cases hk; omega))))⟩)
      | ((exfalso; omega)))
  all_goals first | rfl | (simp only [hlp]; rfl) | trace_state
end Go.Proofs.Ytmicpjholmigeaa
