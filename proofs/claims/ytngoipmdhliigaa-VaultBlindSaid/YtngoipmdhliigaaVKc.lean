/-
  What this text proves: polynomials modulo 251, as the program reckons with them, are as the plain functions say. Conditions: numbers from 0 to 250.
-/
import Derived.Test.YtngoipmdhliigaaVKb
set_option linter.unusedVariables false
set_option linter.unusedSimpArgs false
namespace Go.Pv
open Go.RowKit
theorem scaL_get {l : List Int} {f : Int} {i : Nat} (h : i < l.length) : tms (l.getD i 0) f = (scaL l f).getD i 0 := by simp [scaL, List.getD, h]
theorem nb_lt {n : Int} (h : nb n) : 0 ≤ n ∧ n < 251 := by unfold nb at h; omega
theorem scaL_nb (l : List Int) (f : Int) : nbL (scaL l f) := fun i => by
  by_cases h : i < l.length
  · rw [← scaL_get h]; exact tms_nb _ _
  · have e : (scaL l f).getD i 0 = 0 := by simp [scaL, List.getD, Nat.le_of_not_lt h]
    rw [e]; unfold nb; decide
theorem take0_nb {l : List Int} (h : nbL l) : nbL ((0 :: l).take l.length) := fun i => by
  by_cases hi : i < l.length
  · have e : ((0 :: l).take l.length).getD i 0 = (0 :: l).getD i 0 := by simp only [List.getD]; rw [List.getElem?_take_of_lt hi]
    rw [e]
    cases i with
    | zero => simp only [List.getD_cons_zero]; unfold nb; decide
    | succ i => simpa using h i
  · have e : ((0 :: l).take l.length).getD i 0 = 0 := by
      simp only [List.getD]; rw [List.getElem?_eq_none (by simp; omega)]; rfl
    rw [e]; unfold nb; decide
theorem Ints.ex2 {w w' : World} {v : Value} {xs : List Int} (e : Ex w w') (h : Ints w v xs) : Ints w' v xs := IntsK.ex e h
theorem wz_copy {l : List Int} {n : Nat} (h : l.length = n + 1) : ((List.replicate (n + 1) (0 : Int)).map (Value.int .i64)).take 1 ++ (l.take n).map (Value.int .i64) ++ ((List.replicate (n + 1) (0 : Int)).map (Value.int .i64)).drop (1 + n) = ((0 :: l).take l.length).map (Value.int .i64) := by
  rw [h, List.take_succ_cons, List.drop_of_length_le (by simp; omega), List.append_nil, List.map_cons]
  rfl
end Go.Pv
namespace Go.Proofs.Ytngoipmdhliigaa
open Go.Pv Go.RowKit
set_option maxHeartbeats 8000000
set_option maxRecDepth 20000
instance funPlus : Fun Try.prog 77 := inferInstance
theorem at_any (v : Value) (xs : List Int) (x : Int) (w : World) (h : Ints w v xs) (hx : nbL xs) (hn : nb x) : Ret Try.prog 48 [v, .int .i64 x] w fun r _ => r = .int .i64 (atP xs x) := by
  have hv1 := h.one
  have hln := h.len
  refine ret_of_c Try.func48 rfl Try.ntmps48 (Nat.le_of_ble_eq_true rfl) (by dsimp only [ini, Nat.reduceAdd] <;> exact rfl) ?_
  repeat' (first
      | (refine W_indexInt (i := k) (v := v) (xs := xs) rfl (IntsK.ex (by repeat (first | exact Ex.refl _ | assumption | (refine Ex.of_grown ?_ (by assumption) (by intro k hk; cases hk; omega)) | (refine Ex.trans ?_ (by assumption)))) h) rfl (by omega) ?_; intro pq hpq)
      | ((first | ((with_reducible apply W_op); exact rfl; exact rfl)); (first | ((with_reducible apply r_move); ((conv => lhs; whnf) <;> exact rfl)) | ((with_reducible apply r_assign); ((conv => lhs; whnf) <;> exact rfl)) | ((with_reducible apply r_load); exact rfl; exact rfl; (first | assumption | exact (Bx.cell (by repeat (first | assumption | ((with_reducible apply Bx.grownS); assumption; (first | omega | exact Bx.ne (by assumption) (by omega))) | ((with_reducible apply Bx.below); assumption; omega) | ((with_reducible apply Bx.ex); assumption))) _).trans rfl | exact Ex.cell (by assumption) (by assumption))) | ((with_reducible apply r_lss); exact rfl; exact rfl) | ((with_reducible apply r_add); exact rfl; exact rfl; omega) | ((with_reducible apply r_lenInts); ((conv => lhs; whnf) <;> exact rfl); (focus ((repeat (first | assumption | ((with_reducible apply Bx.grownS); assumption; (first | omega | exact Bx.ne (by assumption) (by omega))) | ((with_reducible apply Bx.below); assumption; omega) | ((with_reducible apply Own.grownS); assumption; omega) | ((with_reducible apply Bx.ex); assumption) | ((with_reducible apply IntsK.ex); assumption) | ((with_reducible apply Own.ex); assumption) | ((with_reducible apply Prs.ex); assumption))); done)))))
      | (refine W_callv (times_any (xs.getD k 0) (pw x k % 251) _ (hx k) (nb_md _)) rfl (fun wq he => ?_); have hsz := he.size)
      | (refine W_callv (plus_any (evP (xs.take k) x % 251) (tms (xs.getD k 0) (pw x k % 251)) _ (nb_md _) (tms_nb _ _)) rfl (fun wq he => ?_); have hsz := he.size)
      | (refine W_callv (times_any (pw x k % 251) x _ (nb_md _) hn) rfl (fun wq he => ?_); have hsz := he.size)
      | ((with_reducible (show C _ _ _ _ _ _)); refine c_loopG (fun (k : Nat) ps wr => ∃ sv pv i : Int, ps = [(0, v), (1, .int .i64 x), (5, .int .i64 sv), (6, .int .i64 pv), (9, v), (10, .int .i64 xs.length), (11, .int .i64 i)] ∧ i = k ∧ k ≤ xs.length ∧ sv = evP (xs.take k) x % 251 ∧ pv = pw x k % 251 ∧ Ex w wr) (fun k => xs.length - k) 0 _ ⟨_, _, _, rfl, rfl, Nat.zero_le _, rfl, rfl, (by repeat (first | assumption | exact Ex.refl _ | (refine Ex.trans ?_ (by assumption)) | (refine Ex.of_grown ?_ (by assumption) (by intro k hk; cases hk; omega))))⟩ ⟨rfl, rfl, rfl, rfl, rfl, rfl, rfl, trivial⟩ (by ((conv => lhs; whnf) <;> exact rfl)) (by ((conv => lhs; whnf) <;> exact rfl)) ?_; rintro J hJ k u ps wr ⟨sv, pv, i, rfl, rfl, hk, rfl, rfl, he⟩; have hsz := he.size)
      | ((with_reducible (show Exit.then _ _ _ _ _)); refine n_roundG (k + 1) (hJ _ _ _ _ ⟨_, _, _, rfl, by omega, by omega, at_next (by omega), pw_next x k, (by repeat (first | assumption | exact Ex.refl _ | (refine Ex.trans ?_ (by assumption)) | (refine Ex.of_grown ?_ (by assumption) (by intro k hk; cases hk; omega))))⟩ ⟨rfl, rfl, rfl, rfl, rfl, rfl, rfl, trivial⟩ rfl) (by omega))
      | (with_reducible apply W_nil)
      | (with_reducible apply c_seq)
      | ((with_reducible apply c_region); kernel_rfl)
      | (with_reducible apply n_nq)
      | (with_reducible apply c_block)
      | (with_reducible apply c_skip)
      | (with_reducible apply c_ret)
      | (with_reducible apply c_exit)
      | ((with_reducible apply c_cond_dec); exact rfl; intro _; rotate_left 1; intro _)
      | (with_reducible apply n_then)
      | (with_reducible apply n_block)
      | (with_reducible apply e_then)
      | (with_reducible apply e_block)
      | ((with_reducible apply p_ret1); exact rfl; exact rfl; ((conv => lhs; whnf) <;> exact rfl); refine ⟨_, rfl, ?_, (by repeat (first | assumption | exact Ex.refl _ | (refine Ex.trans ?_ (by assumption)) | (refine Ex.of_grown ?_ (by assumption) (by intro k hk; cases hk; omega))))⟩))
  all_goals first
    | (have hkl : k = xs.length := (by omega); subst hkl; rw [List.take_length]; rfl)
    | trace_state
theorem scaled_any (v : Value) (xs : List Int) (f : Int) (w : World) (h : Ints w v xs) (hx : nbL xs) (hf : nb f) (hm : xs.length ≤ 1000) : Ret Try.prog 85 [v, .int .i64 f] w fun r w' => Pv.Own 76 w.heap.size w' r (scaL xs f) := by
  have hv1 := h.one
  obtain ⟨zs, hzs⟩ : ∃ zs, zs = scaL xs f := ⟨_, rfl⟩
  have hzl : zs.length = xs.length := by rw [hzs, scaL_len]
  have hzg : ∀ i, i < xs.length → tms (xs.getD i 0) f = zs.getD i 0 := fun i hi => by rw [hzs]; exact scaL_get hi
  rw [← hzs]
  have tkL : True := trivial
  refine ret_of_c Try.func85 rfl Try.ntmps85 (Nat.le_of_ble_eq_true rfl) (by dsimp only [ini, Nat.reduceAdd] <;> exact rfl) ?_
  repeat' (first
      | (refine W_makeI (m := xs.length) rfl rfl hm (by decide) ?_; intro bm wq hbm he hnm; have hsz := he.size; have hltm := Bx.lt hbm)
      | (refine W_indexInt (i := k) (v := v) (xs := xs) rfl (IntsK.ex (show Ex w _ from (by repeat (first | exact Ex.refl _ | assumption | (refine Ex.of_grown ?_ (by assumption) (by intro k hk; cases hk; omega)) | (refine Ex.trans ?_ (by assumption))))) h) rfl (by omega) ?_; intro pq hpq)
      | ((with_reducible apply W_op); exact rfl; exact rfl; exact r_indexBx (i := k) rfl rfl (by omega))
      | (refine W_storeBI (i := k) (xs := fillA zs k) rfl (by repeat (first | assumption | ((with_reducible apply Bx.grownS); assumption; (first | omega | exact Bx.ne (by assumption) (by omega))) | ((with_reducible apply Bx.below); assumption; omega) | ((with_reducible apply Bx.ex); assumption))) (by rw [fillA_len (by omega)]; omega) rfl ?_; intro wq hbm2 hgq; rw [hzg k (by omega), fillA_set (by omega)] at hbm2; have he : Ex w wq := (by repeat (first | assumption | exact Ex.refl _ | (refine Ex.trans ?_ (by assumption)) | (refine Ex.of_grown ?_ (by assumption) (by intro k hk; cases hk; omega)))); have hsz := he.size)
      | ((with_reducible (show C _ _ _ _ _ _)); clear tkL; refine c_loopG (fun (k : Nat) ps wr => ∃ bm : Nat, ∃ i : Int, ps = [(0, v), (1, .int .i64 f), (5, .slice (some ⟨bm, 0, none⟩) xs.length xs.length), (11, v), (12, .int .i64 xs.length), (13, .int .i64 i)] ∧ i = k ∧ k ≤ xs.length ∧ w.heap.size ≤ bm ∧ Bx wr bm ((fillA zs k).map (Value.int .i64)) 76 ∧ Ex w wr) (fun k => xs.length - k) 0 _ ⟨_, _, rfl, rfl, Nat.zero_le _, (by omega), (by rw [fillA_zero, hzl]; exact hbm), (by repeat (first | assumption | exact Ex.refl _ | (refine Ex.trans ?_ (by assumption)) | (refine Ex.of_grown ?_ (by assumption) (by intro k hk; cases hk; omega))))⟩ ⟨rfl, rfl, rfl, rfl, rfl, rfl, trivial⟩ (by ((conv => lhs; whnf) <;> exact rfl)) (by ((conv => lhs; whnf) <;> exact rfl)) ?_; rintro J hJ k u ps wr ⟨bm, i, rfl, rfl, hk, hbl, hbm, he⟩; have hsz := he.size)
      | ((first | ((with_reducible apply W_op); exact rfl; exact rfl)); (first | ((with_reducible apply r_move); ((conv => lhs; whnf) <;> exact rfl)) | ((with_reducible apply r_assign); ((conv => lhs; whnf) <;> exact rfl)) | ((with_reducible apply r_load); exact rfl; exact rfl; (first | assumption | exact (Bx.cell (by repeat (first | assumption | ((with_reducible apply Bx.grownS); assumption; (first | omega | exact Bx.ne (by assumption) (by omega))) | ((with_reducible apply Bx.below); assumption; omega) | ((with_reducible apply Bx.ex); assumption))) _).trans rfl | exact Ex.cell (by assumption) (by assumption))) | ((with_reducible apply r_lss); exact rfl; exact rfl) | ((with_reducible apply r_add); exact rfl; exact rfl; omega) | ((with_reducible apply r_lenInts); ((conv => lhs; whnf) <;> exact rfl); (focus ((repeat (first | assumption | ((with_reducible apply Bx.grownS); assumption; (first | omega | exact Bx.ne (by assumption) (by omega))) | ((with_reducible apply Bx.below); assumption; omega) | ((with_reducible apply Own.grownS); assumption; omega) | ((with_reducible apply Bx.ex); assumption) | ((with_reducible apply IntsK.ex); assumption) | ((with_reducible apply Own.ex); assumption) | ((with_reducible apply Prs.ex); assumption))); done)))))
      | (refine W_callv (times_any (xs.getD k 0) f _ (hx k) hf) rfl (fun wq he => ?_); have hsz := he.size)
      | ((with_reducible (show Exit.then _ _ _ _ _)); refine n_roundG (k + 1) (hJ _ _ _ _ ⟨_, _, rfl, by omega, by omega, hbl, hbm2, (by repeat (first | assumption | exact Ex.refl _ | (refine Ex.trans ?_ (by assumption)) | (refine Ex.of_grown ?_ (by assumption) (by intro k hk; cases hk; omega))))⟩ ⟨rfl, rfl, rfl, rfl, rfl, rfl, trivial⟩ rfl) (by omega))
      | (with_reducible apply W_nil)
      | (with_reducible apply c_seq)
      | ((with_reducible apply c_region); kernel_rfl)
      | (with_reducible apply n_nq)
      | (with_reducible apply c_block)
      | (with_reducible apply c_skip)
      | (with_reducible apply c_ret)
      | (with_reducible apply c_exit)
      | ((with_reducible apply c_cond_dec); exact rfl; intro _; rotate_left 1; intro _)
      | (with_reducible apply n_then)
      | (with_reducible apply n_block)
      | (with_reducible apply e_then)
      | (with_reducible apply e_block)
      | ((with_reducible apply p_ret1); exact rfl; exact rfl; ((conv => lhs; whnf) <;> exact rfl); refine ⟨_, rfl, ?_, (by repeat (first | assumption | exact Ex.refl _ | (refine Ex.trans ?_ (by assumption)) | (refine Ex.of_grown ?_ (by assumption) (by intro k hk; cases hk; omega))))⟩))
  all_goals first
    | (have hkl : k = zs.length := (by omega); subst hkl; rw [fillA_all] at hbm; exact Pv.Own.ofBx (Bx.ex (by repeat (first | exact Ex.refl _ | assumption | (refine Ex.of_grown ?_ (by assumption) (by intro k hk; cases hk; omega)) | (refine Ex.trans ?_ (by assumption)))) hbm) hzl.symm (by omega) hbl)
    | trace_state
theorem polynomialOf_any (v : Value) (xs : List Int) (w : World) (h : Ints w v xs) (hm : xs.length ≤ 1000) : Ret Try.prog 47 [v] w fun r w' => Pv.Own 76 w.heap.size w' r xs := by
  have hv1 := h.one
  have tkL : True := trivial
  refine ret_of_c Try.func47 rfl Try.ntmps47 (Nat.le_of_ble_eq_true rfl) (by dsimp only [ini, Nat.reduceAdd] <;> exact rfl) ?_
  repeat' (first
      | (refine W_makeI (m := xs.length) rfl rfl hm (by decide) ?_; intro bm wq hbm he hnm; have hsz := he.size; have hltm := Bx.lt hbm)
      | (refine W_indexInt (i := k) (v := v) (xs := xs) rfl (IntsK.ex (show Ex w _ from (by repeat (first | exact Ex.refl _ | assumption | (refine Ex.of_grown ?_ (by assumption) (by intro k hk; cases hk; omega)) | (refine Ex.trans ?_ (by assumption))))) h) rfl (by omega) ?_; intro pq hpq)
      | ((with_reducible apply W_op); exact rfl; exact rfl; exact r_indexBx (i := k) rfl rfl (by omega))
      | (refine W_storeBI (i := k) (xs := fillA xs k) rfl (by repeat (first | assumption | ((with_reducible apply Bx.grownS); assumption; (first | omega | exact Bx.ne (by assumption) (by omega))) | ((with_reducible apply Bx.below); assumption; omega) | ((with_reducible apply Bx.ex); assumption))) (by rw [fillA_len (by omega)]; omega) rfl ?_; intro wq hbm2 hgq; rw [fillA_set (by omega)] at hbm2; have he : Ex w wq := (by repeat (first | assumption | exact Ex.refl _ | (refine Ex.trans ?_ (by assumption)) | (refine Ex.of_grown ?_ (by assumption) (by intro k hk; cases hk; omega)))); have hsz := he.size)
      | ((with_reducible (show C _ _ _ _ _ _)); clear tkL; refine c_loopG (fun (k : Nat) ps wr => ∃ bm : Nat, ∃ i : Int, ps = [(0, v), (3, .slice (some ⟨bm, 0, none⟩) xs.length xs.length), (9, v), (10, .int .i64 xs.length), (11, .int .i64 i)] ∧ i = k ∧ k ≤ xs.length ∧ w.heap.size ≤ bm ∧ Bx wr bm ((fillA xs k).map (Value.int .i64)) 76 ∧ Ex w wr) (fun k => xs.length - k) 0 _ ⟨_, _, rfl, rfl, Nat.zero_le _, (by omega), (by rw [fillA_zero]; exact hbm), (by repeat (first | assumption | exact Ex.refl _ | (refine Ex.trans ?_ (by assumption)) | (refine Ex.of_grown ?_ (by assumption) (by intro k hk; cases hk; omega))))⟩ ⟨rfl, rfl, rfl, rfl, rfl, trivial⟩ (by ((conv => lhs; whnf) <;> exact rfl)) (by ((conv => lhs; whnf) <;> exact rfl)) ?_; rintro J hJ k u ps wr ⟨bm, i, rfl, rfl, hk, hbl, hbm, he⟩; have hsz := he.size)
      | ((first | ((with_reducible apply W_op); exact rfl; exact rfl)); (first | ((with_reducible apply r_move); ((conv => lhs; whnf) <;> exact rfl)) | ((with_reducible apply r_assign); ((conv => lhs; whnf) <;> exact rfl)) | ((with_reducible apply r_load); exact rfl; exact rfl; (first | assumption | exact (Bx.cell (by repeat (first | assumption | ((with_reducible apply Bx.grownS); assumption; (first | omega | exact Bx.ne (by assumption) (by omega))) | ((with_reducible apply Bx.below); assumption; omega) | ((with_reducible apply Bx.ex); assumption))) _).trans rfl | exact Ex.cell (by assumption) (by assumption))) | ((with_reducible apply r_lss); exact rfl; exact rfl) | ((with_reducible apply r_add); exact rfl; exact rfl; omega) | ((with_reducible apply r_lenInts); ((conv => lhs; whnf) <;> exact rfl); (focus ((repeat (first | assumption | ((with_reducible apply Bx.grownS); assumption; (first | omega | exact Bx.ne (by assumption) (by omega))) | ((with_reducible apply Bx.below); assumption; omega) | ((with_reducible apply Own.grownS); assumption; omega) | ((with_reducible apply Bx.ex); assumption) | ((with_reducible apply IntsK.ex); assumption) | ((with_reducible apply Own.ex); assumption) | ((with_reducible apply Prs.ex); assumption))); done)))))
      | ((with_reducible (show Exit.then _ _ _ _ _)); refine n_roundG (k + 1) (hJ _ _ _ _ ⟨_, _, rfl, by omega, by omega, hbl, hbm2, (by repeat (first | assumption | exact Ex.refl _ | (refine Ex.trans ?_ (by assumption)) | (refine Ex.of_grown ?_ (by assumption) (by intro k hk; cases hk; omega))))⟩ ⟨rfl, rfl, rfl, rfl, rfl, trivial⟩ rfl) (by omega))
      | (with_reducible apply W_nil)
      | (with_reducible apply c_seq)
      | ((with_reducible apply c_region); kernel_rfl)
      | (with_reducible apply n_nq)
      | (with_reducible apply c_block)
      | (with_reducible apply c_skip)
      | (with_reducible apply c_ret)
      | (with_reducible apply c_exit)
      | ((with_reducible apply c_cond_dec); exact rfl; intro _; rotate_left 1; intro _)
      | (with_reducible apply n_then)
      | (with_reducible apply n_block)
      | (with_reducible apply e_then)
      | (with_reducible apply e_block)
      | ((with_reducible apply p_ret1); exact rfl; exact rfl; ((conv => lhs; whnf) <;> exact rfl); refine ⟨_, rfl, ?_, (by repeat (first | assumption | exact Ex.refl _ | (refine Ex.trans ?_ (by assumption)) | (refine Ex.of_grown ?_ (by assumption) (by intro k hk; cases hk; omega))))⟩))
  all_goals first
    | (have hkl : k = xs.length := (by omega); subst hkl; rw [fillA_all] at hbm; exact Pv.Own.ofBx (Bx.ex (by repeat (first | exact Ex.refl _ | assumption | (refine Ex.of_grown ?_ (by assumption) (by intro k hk; cases hk; omega)) | (refine Ex.trans ?_ (by assumption)))) hbm) rfl (by omega) hbl)
    | trace_state
theorem coefficients_any (v : Value) (xs : List Int) (w : World) (h : Ints w v xs) (hm : xs.length ≤ 1000) : Ret Try.prog 62 [v] w fun r w' => Pv.Own 3 w.heap.size w' r xs := by
  have hv1 := h.one
  have tkL : True := trivial
  refine ret_of_c Try.func62 rfl Try.ntmps62 (Nat.le_of_ble_eq_true rfl) (by dsimp only [ini, Nat.reduceAdd] <;> exact rfl) ?_
  repeat' (first
      | (refine W_makeI (m := xs.length) rfl rfl hm (by decide) ?_; intro bm wq hbm he hnm; have hsz := he.size; have hltm := Bx.lt hbm)
      | (refine W_indexInt (i := k) (v := v) (xs := xs) rfl (IntsK.ex (show Ex w _ from (by repeat (first | exact Ex.refl _ | assumption | (refine Ex.of_grown ?_ (by assumption) (by intro k hk; cases hk; omega)) | (refine Ex.trans ?_ (by assumption))))) h) rfl (by omega) ?_; intro pq hpq)
      | ((with_reducible apply W_op); exact rfl; exact rfl; exact r_indexBx (i := k) rfl rfl (by omega))
      | (refine W_storeBI (i := k) (xs := fillA xs k) rfl (by repeat (first | assumption | ((with_reducible apply Bx.grownS); assumption; (first | omega | exact Bx.ne (by assumption) (by omega))) | ((with_reducible apply Bx.below); assumption; omega) | ((with_reducible apply Bx.ex); assumption))) (by rw [fillA_len (by omega)]; omega) rfl ?_; intro wq hbm2 hgq; rw [fillA_set (by omega)] at hbm2; have he : Ex w wq := (by repeat (first | assumption | exact Ex.refl _ | (refine Ex.trans ?_ (by assumption)) | (refine Ex.of_grown ?_ (by assumption) (by intro k hk; cases hk; omega)))); have hsz := he.size)
      | ((with_reducible (show C _ _ _ _ _ _)); clear tkL; refine c_loopG (fun (k : Nat) ps wr => ∃ bm : Nat, ∃ i : Int, ps = [(0, v), (3, .slice (some ⟨bm, 0, none⟩) xs.length xs.length), (9, v), (10, .int .i64 xs.length), (11, .int .i64 i)] ∧ i = k ∧ k ≤ xs.length ∧ w.heap.size ≤ bm ∧ Bx wr bm ((fillA xs k).map (Value.int .i64)) 3 ∧ Ex w wr) (fun k => xs.length - k) 0 _ ⟨_, _, rfl, rfl, Nat.zero_le _, (by omega), (by rw [fillA_zero]; exact hbm), (by repeat (first | assumption | exact Ex.refl _ | (refine Ex.trans ?_ (by assumption)) | (refine Ex.of_grown ?_ (by assumption) (by intro k hk; cases hk; omega))))⟩ ⟨rfl, rfl, rfl, rfl, rfl, trivial⟩ (by ((conv => lhs; whnf) <;> exact rfl)) (by ((conv => lhs; whnf) <;> exact rfl)) ?_; rintro J hJ k u ps wr ⟨bm, i, rfl, rfl, hk, hbl, hbm, he⟩; have hsz := he.size)
      | ((first | ((with_reducible apply W_op); exact rfl; exact rfl)); (first | ((with_reducible apply r_move); ((conv => lhs; whnf) <;> exact rfl)) | ((with_reducible apply r_assign); ((conv => lhs; whnf) <;> exact rfl)) | ((with_reducible apply r_load); exact rfl; exact rfl; (first | assumption | exact (Bx.cell (by repeat (first | assumption | ((with_reducible apply Bx.grownS); assumption; (first | omega | exact Bx.ne (by assumption) (by omega))) | ((with_reducible apply Bx.below); assumption; omega) | ((with_reducible apply Bx.ex); assumption))) _).trans rfl | exact Ex.cell (by assumption) (by assumption))) | ((with_reducible apply r_lss); exact rfl; exact rfl) | ((with_reducible apply r_add); exact rfl; exact rfl; omega) | ((with_reducible apply r_lenInts); ((conv => lhs; whnf) <;> exact rfl); (focus ((repeat (first | assumption | ((with_reducible apply Bx.grownS); assumption; (first | omega | exact Bx.ne (by assumption) (by omega))) | ((with_reducible apply Bx.below); assumption; omega) | ((with_reducible apply Own.grownS); assumption; omega) | ((with_reducible apply Bx.ex); assumption) | ((with_reducible apply IntsK.ex); assumption) | ((with_reducible apply Own.ex); assumption) | ((with_reducible apply Prs.ex); assumption))); done)))))
      | ((with_reducible (show Exit.then _ _ _ _ _)); refine n_roundG (k + 1) (hJ _ _ _ _ ⟨_, _, rfl, by omega, by omega, hbl, hbm2, (by repeat (first | assumption | exact Ex.refl _ | (refine Ex.trans ?_ (by assumption)) | (refine Ex.of_grown ?_ (by assumption) (by intro k hk; cases hk; omega))))⟩ ⟨rfl, rfl, rfl, rfl, rfl, trivial⟩ rfl) (by omega))
      | (with_reducible apply W_nil)
      | (with_reducible apply c_seq)
      | ((with_reducible apply c_region); kernel_rfl)
      | (with_reducible apply n_nq)
      | (with_reducible apply c_block)
      | (with_reducible apply c_skip)
      | (with_reducible apply c_ret)
      | (with_reducible apply c_exit)
      | ((with_reducible apply c_cond_dec); exact rfl; intro _; rotate_left 1; intro _)
      | (with_reducible apply n_then)
      | (with_reducible apply n_block)
      | (with_reducible apply e_then)
      | (with_reducible apply e_block)
      | ((with_reducible apply p_ret1); exact rfl; exact rfl; ((conv => lhs; whnf) <;> exact rfl); refine ⟨_, rfl, ?_, (by repeat (first | assumption | exact Ex.refl _ | (refine Ex.trans ?_ (by assumption)) | (refine Ex.of_grown ?_ (by assumption) (by intro k hk; cases hk; omega))))⟩))
  all_goals first
    | (have hkl : k = xs.length := (by omega); subst hkl; rw [fillA_all] at hbm; exact Pv.Own.ofBx (Bx.ex (by repeat (first | exact Ex.refl _ | assumption | (refine Ex.of_grown ?_ (by assumption) (by intro k hk; cases hk; omega)) | (refine Ex.trans ?_ (by assumption)))) hbm) rfl (by omega) hbl)
    | trace_state
theorem withZero_any (v : Value) (xs : List Int) (x : Int) (w : World) (h : Ints w v xs) (hx : nbL xs) (hn : nb x) (hp : 0 < xs.length) (hm : xs.length ≤ 1000) : Ret Try.prog 87 [v, .int .i64 x] w fun r w' => Pv.Own 76 w.heap.size w' r (wzL xs x) := by
  have hv1 := h.one
  obtain ⟨n, hln⟩ : ∃ n, xs.length = n + 1 := ⟨xs.length - 1, by omega⟩
  have hwl : ((0 :: xs).take xs.length).length = xs.length := by simp
  have hwz := take0_nb hx
  obtain ⟨zs, hzs⟩ : ∃ zs, zs = (0 :: xs).take xs.length := ⟨_, rfl⟩
  have hcp := wz_copy hln
  rw [← hzs] at hwl hwz hcp
  have hfin : wzL xs x = List.zipWith mns zs (scaL xs x) := by rw [hzs]; rfl
  rw [hfin]
  have hmin := fun a b w2 (ha : nb a) (hb : nb b) => minus_any a b w2 ha hb
  refine ret_of_c Try.func87 rfl Try.ntmps87 (Nat.le_of_ble_eq_true rfl) (by dsimp only [ini, Nat.reduceAdd] <;> exact rfl) ?_
  repeat' (first
      | (refine W_makeI (m := xs.length) rfl rfl hm (by decide) ?_; intro bm wq hbm he hnm; have hsz := he.size; have hltm := Bx.lt hbm; rw [hln] at hbm; (rcases Nat.eq_zero_or_pos n with hn0 | hn0); (obtain rfl : n = 0 := hn0); have hl1 : xs.length = 1 := hln; rw [hl1]; rotate_left 1; (obtain ⟨n', hn'⟩ : ∃ n', n = n' + 1 := ⟨n - 1, by omega⟩); rotate_left 1)
      | ((with_reducible apply W_op); exact rfl; exact rfl; (first | exact r_from1a rfl rfl | exact r_from1 (n := n') rfl rfl (by omega)))
      | (refine W_copyT (o := 1) (c' := zs.map (Value.int .i64)) rfl rfl (Ints.ex2 (by repeat (first | exact Ex.refl _ | assumption | (refine Ex.of_grown ?_ (by assumption) (by intro k hk; cases hk; omega)) | (refine Ex.trans ?_ (by assumption)))) h) (by omega) hp hbm (by simp; omega) (by rw [← hn']; exact hcp) ?_; intro wq hbm2 hgq; have he : Ex w wq := (by repeat (first | assumption | exact Ex.refl _ | (refine Ex.trans ?_ (by assumption)) | (refine Ex.of_grown ?_ (by assumption) (by intro k hk; cases hk; omega)))); have hsz := he.size)
      | (refine W_copyT (o := 0) (c' := zs.map (Value.int .i64)) rfl rfl (Ints.ex2 (by repeat (first | exact Ex.refl _ | assumption | (refine Ex.of_grown ?_ (by assumption) (by intro k hk; cases hk; omega)) | (refine Ex.trans ?_ (by assumption)))) h) (by omega) hp hbm (by simp) (by rw [← hcp]; simp) ?_; intro wq hbm2 hgq; have he : Ex w wq := (by repeat (first | assumption | exact Ex.refl _ | (refine Ex.trans ?_ (by assumption)) | (refine Ex.of_grown ?_ (by assumption) (by intro k hk; cases hk; omega)))); have hsz := he.size)
      | ((first | ((with_reducible apply W_op); exact rfl; exact rfl)); (first | ((with_reducible apply r_move); ((conv => lhs; whnf) <;> exact rfl)) | ((with_reducible apply r_assign); ((conv => lhs; whnf) <;> exact rfl)) | ((with_reducible apply r_lenInts); ((conv => lhs; whnf) <;> exact rfl); (focus ((repeat (first | assumption | ((with_reducible apply Bx.grownS); assumption; (first | omega | exact Bx.ne (by assumption) (by omega))) | ((with_reducible apply Bx.below); assumption; omega) | ((with_reducible apply Own.grownS); assumption; omega) | ((with_reducible apply Bx.ex); assumption) | ((with_reducible apply IntsK.ex); assumption) | ((with_reducible apply Own.ex); assumption) | ((with_reducible apply Prs.ex); assumption))); done)))))
      | (refine W_call (scaled_any v xs x _ (IntsK.ex (show Ex w _ from (by repeat (first | exact Ex.refl _ | assumption | (refine Ex.of_grown ?_ (by assumption) (by intro k hk; cases hk; omega)) | (refine Ex.trans ?_ (by assumption))))) h) hx hn hm) rfl ?_; rintro vq wq hos he; have hsz := he.size; have ho1 := hos.one)
      | (refine W_call (combine_any 82 mns _ _ zs (scaL xs x) _ hmin (Pv.Own.ints (Pv.Own.ofBx (base := 0) (Bx.ex (by repeat (first | exact Ex.refl _ | assumption | (refine Ex.of_grown ?_ (by assumption) (by intro k hk; cases hk; omega)) | (refine Ex.trans ?_ (by assumption)))) hbm2) (by omega) (by omega) (Nat.zero_le _))) (Pv.Own.ints hos) hwz (scaL_nb _ _) (by rw [scaL_len]; omega) (by omega)) rfl ?_; rintro vq wq hof he; have hsz := he.size; have hof1 := hof.one)
      | (with_reducible apply W_nil)
      | (with_reducible apply c_seq)
      | ((with_reducible apply c_region); kernel_rfl)
      | (with_reducible apply n_nq)
      | (with_reducible apply c_ret)
      | (with_reducible apply n_then)
      | ((with_reducible apply p_ret1); exact rfl; exact rfl; ((conv => lhs; whnf) <;> exact rfl); refine ⟨_, rfl, ?_, (by repeat (first | assumption | exact Ex.refl _ | (refine Ex.trans ?_ (by assumption)) | (refine Ex.of_grown ?_ (by assumption) (by intro k hk; cases hk; omega))))⟩))
  all_goals first | exact Pv.Own.mono hof (by omega) | trace_state
end Go.Proofs.Ytngoipmdhliigaa
