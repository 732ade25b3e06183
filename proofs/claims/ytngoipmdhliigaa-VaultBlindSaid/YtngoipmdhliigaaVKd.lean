/-
  What this text proves: the polynomial through shares, and values reckoned from shares, are as the plain functions say. Conditions: keepers from 1 to 20, values from 0 to 250.
-/
import Derived.Test.YtngoipmdhliigaaVKc
set_option linter.unusedVariables false
set_option linter.unusedSimpArgs false
namespace Go.Pv
open Go.RowKit
def kS (sh : List (Int × Int)) : List Int := sh.map (·.1)
def vS (sh : List (Int × Int)) : List Int := sh.map (·.2)
theorem kS_len (sh : List (Int × Int)) : (kS sh).length = sh.length := by simp [kS]
theorem kS_get (sh : List (Int × Int)) (i : Nat) : (kS sh).getD i 0 = (sh.getD i (0, 0)).1 := by
  simp only [kS, List.getD, List.getElem?_map]; cases sh[i]? <;> rfl
theorem vS_get (sh : List (Int × Int)) (i : Nat) : (vS sh).getD i 0 = (sh.getD i (0, 0)).2 := by
  simp only [vS, List.getD, List.getElem?_map]; cases sh[i]? <;> rfl
/-- Shares whose keepers and values are numbers. -/
def okS (sh : List (Int × Int)) : Prop := ∀ i, nb (sh.getD i (0, 0)).1 ∧ nb (sh.getD i (0, 0)).2
theorem abT_nb {x a : Int} {ks : List Int} {i j : Nat} (ha : nb a) : nb (abT x ks i a j) := by
  unfold nb at *; have := abT_bd (x := x) (ks := ks) (i := i) (a := a) (by omega) j; omega
theorem lgT_nb (x : Int) (ks vs : List Int) (n : Nat) : nb (lgT x ks vs n) := by unfold nb; have := lgT_bd x ks vs n; omega
theorem nsm_nb {m : Nat} (ks vs : List Int) (n : Nat) : nbL (nsm m ks vs n) := fun i => by have := inl_bd (nsm_bd (m := m) ks vs n) i; unfold nb; omega
theorem npt_nb {m : Nat} (ks : List Int) (n : Nat) : nbL (npt m ks n) := fun i => by have := inl_bd (npt_bd (m := m) ks n) i; unfold nb; omega
theorem ab_same {x a : Int} {ks : List Int} {i j : Nat} (h : j = i) : abT x ks i a (j + 1) = abT x ks i a j := by simp only [abT]; rw [if_pos h]
theorem ab_next {x a : Int} {ks : List Int} {i j : Nat} (h : ¬ j = i) : abT x ks i a (j + 1) = tms (abT x ks i a j) (mns x (ks.getD j 0)) := by simp only [abT]; rw [if_neg h]
theorem Ex.tbR {a b c : World} (h : Ex a b) (k : Below a.heap.size b c) : Ex a c := by unfold Ex at *; exact h.trans k
end Go.Pv
namespace Go.Proofs.Ytngoipmdhliigaa
open Go.Pv Go.RowKit
set_option maxHeartbeats 8000000
set_option maxRecDepth 20000
theorem place_any (k v : Int) (w : World) : Ret Try.prog 83 [.agg #[.int .i64 k, .int .i64 v]] w fun r _ => r = .int .i64 k := by
  refine ret_of_c Try.func83 rfl Try.ntmps83 (Nat.le_of_ble_eq_true rfl) (by dsimp only [ini, Nat.reduceAdd] <;> exact rfl) ?_
  repeat' (first
      | ((first | ((with_reducible apply W_op); exact rfl; exact rfl)); (first | ((with_reducible apply r_assign); ((conv => lhs; whnf) <;> exact rfl)) | ((with_reducible apply r_fieldAddr); exact rfl) | ((with_reducible apply r_load); exact rfl; exact rfl; (first | assumption | exact (Bx.cell (by repeat (first | assumption | ((with_reducible apply Bx.grownS); assumption; (first | omega | exact Bx.ne (by assumption) (by omega))) | ((with_reducible apply Bx.below); assumption; omega) | ((with_reducible apply Bx.ex); assumption))) _).trans rfl | exact Ex.cell (by assumption) (by assumption)))))
      | (with_reducible apply W_nil)
      | ((with_reducible apply W_box); exact rfl; exact rfl; intro bq wq hbq he hnq; have hltq := Bx.lt hbq; have hsz := he.size)
      | (with_reducible apply c_seq)
      | ((with_reducible apply c_region); kernel_rfl)
      | (with_reducible apply n_nq)
      | (with_reducible apply c_ret)
      | (with_reducible apply n_then)
      | ((with_reducible apply p_ret1); exact rfl; exact rfl; ((conv => lhs; whnf) <;> exact rfl); refine ⟨_, rfl, ?_, (by repeat (first | assumption | exact Ex.refl _ | (refine Ex.trans ?_ (by assumption)) | (refine Ex.of_grown ?_ (by assumption) (by intro k hk; cases hk; omega))))⟩))
  all_goals first | rfl | trace_state
theorem value_any (k v : Int) (w : World) : Ret Try.prog 76 [.agg #[.int .i64 k, .int .i64 v]] w fun r _ => r = .int .i64 v := by
  refine ret_of_c Try.func76 rfl Try.ntmps76 (Nat.le_of_ble_eq_true rfl) (by dsimp only [ini, Nat.reduceAdd] <;> exact rfl) ?_
  repeat' (first
      | ((first | ((with_reducible apply W_op); exact rfl; exact rfl)); (first | ((with_reducible apply r_assign); ((conv => lhs; whnf) <;> exact rfl)) | ((with_reducible apply r_fieldAddr); exact rfl) | ((with_reducible apply r_load); exact rfl; exact rfl; (first | assumption | exact (Bx.cell (by repeat (first | assumption | ((with_reducible apply Bx.grownS); assumption; (first | omega | exact Bx.ne (by assumption) (by omega))) | ((with_reducible apply Bx.below); assumption; omega) | ((with_reducible apply Bx.ex); assumption))) _).trans rfl | exact Ex.cell (by assumption) (by assumption)))))
      | (with_reducible apply W_nil)
      | ((with_reducible apply W_box); exact rfl; exact rfl; intro bq wq hbq he hnq; have hltq := Bx.lt hbq; have hsz := he.size)
      | (with_reducible apply c_seq)
      | ((with_reducible apply c_region); kernel_rfl)
      | (with_reducible apply n_nq)
      | (with_reducible apply c_ret)
      | (with_reducible apply n_then)
      | ((with_reducible apply p_ret1); exact rfl; exact rfl; ((conv => lhs; whnf) <;> exact rfl); refine ⟨_, rfl, ?_, (by repeat (first | assumption | exact Ex.refl _ | (refine Ex.trans ?_ (by assumption)) | (refine Ex.of_grown ?_ (by assumption) (by intro k hk; cases hk; omega))))⟩))
  all_goals first | rfl | trace_state
theorem tat_any (v : Value) (sh : List (Int × Int)) (x : Int) (w : World) (h : Prs w v sh) (hs : okS sh) (hx : nb x) : Ret Try.prog 130 [v, .int .i64 x] w fun r _ => r = .int .i64 (lgA (kS sh) (vS sh) x) := by
  have hv1 := h.one
  have hln := h.len
  have tkL : True := trivial
  have h1n : nb 1 := by unfold nb; decide
  refine ret_of_c Try.func130 rfl Try.ntmps130 (Nat.le_of_ble_eq_true rfl) (by dsimp only [ini, Nat.reduceAdd] <;> exact rfl) ?_
  repeat' (first
      | (refine W_indexPr2 (i := k) (v := v) (xs := sh) rfl (Prs.ex (show Ex w _ from (by repeat (first | exact Ex.refl _ | assumption | (refine Ex.of_grown ?_ (by assumption) (by intro k hk; cases hk; omega)) | (refine Ex.trans ?_ (by assumption))))) h) rfl (by omega) ?_; intro pb po hpc hp0 hp1)
      | (refine W_indexPr2 (i := j) (v := v) (xs := sh) rfl (Prs.ex (show Ex w _ from (by repeat (first | exact Ex.refl _ | assumption | (refine Ex.of_grown ?_ (by assumption) (by intro k hk; cases hk; omega)) | (refine Ex.trans ?_ (by assumption))))) h) rfl (by omega) ?_; intro pb po hpc hp0 hp1)
      | ((with_reducible apply W_op); exact rfl; exact rfl; exact r_lenPrs rfl (Prs.ex (show Ex w _ from (by repeat (first | exact Ex.refl _ | assumption | (refine Ex.of_grown ?_ (by assumption) (by intro k hk; cases hk; omega)) | (refine Ex.trans ?_ (by assumption))))) h))
      | (refine c_mix (id := 11) [] [0, 1, 2, 3, 4, 5, 6] [7] [false, false, false, false, false, false, false, false] [true, true, true, true, true, true, true, false] [none, none, none, none, none, none, none, some true] (by kernel_rfl) (by kernel_rfl) (by kernel_rfl) (by kernel_rfl) (by kernel_rfl) (by kernel_rfl) (by dsimp only [sel] <;> exact rfl) (by dsimp only [sel] <;> exact rfl) (by dsimp only [selT] <;> exact rfl) ?_)
      | ((with_reducible (show C _ _ _ _ _ _)); clear tkI; refine c_loopG (fun (j : Nat) ps wr => ∃ b7 : Nat, ∃ ab be i : Int, ps = [(0, v), (1, .int .i64 x), (5, .int .i64 (lgT x (kS sh) (vS sh) k)), (6, .int .i64 (k : Int)), (7, .pointer (some ⟨b7, 0, none⟩)), (8, .int .i64 ab), (9, .int .i64 be), (12, v), (13, .int .i64 sh.length), (14, .int .i64 (k : Int)), (21, v), (22, .int .i64 sh.length), (23, .int .i64 i)] ∧ i = j ∧ j ≤ sh.length ∧ ab = abT x (kS sh) k (sh.getD k (0, 0)).2 j ∧ be = abT (sh.getD k (0, 0)).1 (kS sh) k 1 j ∧ nb ab ∧ nb be ∧ Bx wr b7 [.int .i64 (sh.getD k (0, 0)).1, .int .i64 (sh.getD k (0, 0)).2] 61 ∧ Ex w wr) (fun j => sh.length - j) 0 _ ⟨_, _, _, _, rfl, rfl, Nat.zero_le _, rfl, rfl, (hs k).2, h1n, (by repeat (first | assumption | ((with_reducible apply Bx.grownS); assumption; (first | omega | exact Bx.ne (by assumption) (by omega))) | ((with_reducible apply Bx.below); assumption; omega) | ((with_reducible apply Bx.ex); assumption))), (by repeat (first | assumption | exact Ex.refl _ | (refine Ex.trans ?_ (by assumption)) | (refine Ex.of_grown ?_ (by assumption) (by intro k hk; cases hk; omega))))⟩ ⟨rfl, rfl, rfl, rfl, rfl, rfl, rfl, rfl, rfl, rfl, rfl, rfl, rfl, trivial⟩ (by ((conv => lhs; whnf) <;> exact rfl)) (by ((conv => lhs; whnf) <;> exact rfl)) ?_; rintro K2 hK2 j u ps wr ⟨b7, ab, be, i, rfl, rfl, hj, habd, hbed, hab, hbe, hx7, he⟩; have hsz := he.size)
      | ((with_reducible (show C _ _ _ _ _ _)); clear tkL; refine c_loopG (fun (k : Nat) ps wr => ∃ sm i : Int, ps = [(0, v), (1, .int .i64 x), (5, .int .i64 sm), (12, v), (13, .int .i64 sh.length), (14, .int .i64 i)] ∧ i = k ∧ k ≤ sh.length ∧ sm = lgT x (kS sh) (vS sh) k ∧ Ex w wr) (fun k => sh.length - k) 0 _ ⟨_, _, rfl, rfl, Nat.zero_le _, rfl, (by repeat (first | assumption | exact Ex.refl _ | (refine Ex.trans ?_ (by assumption)) | (refine Ex.of_grown ?_ (by assumption) (by intro k hk; cases hk; omega))))⟩ ⟨rfl, rfl, rfl, rfl, rfl, rfl, trivial⟩ (by ((conv => lhs; whnf) <;> exact rfl)) (by ((conv => lhs; whnf) <;> exact rfl)) ?_; rintro J hJ k u ps wr ⟨sm, i, rfl, rfl, hk, rfl, he⟩; have hsz := he.size; have tkI : True := trivial)
      | ((first | ((with_reducible apply W_op); exact rfl; exact rfl) | ((with_reducible apply WQ_op); exact rfl; exact rfl; intro wq he) | ((with_reducible apply WM_op); exact rfl; exact rfl; intro wq he) | ((with_reducible apply WB_op); exact rfl; exact rfl; intro wq)); (first | ((with_reducible apply r_move); ((conv => lhs; whnf) <;> exact rfl)) | ((with_reducible apply r_assign); ((conv => lhs; whnf) <;> exact rfl)) | ((with_reducible apply r_loadA); exact rfl; (first | assumption | exact Bx.cells (by repeat (first | assumption | ((with_reducible apply Bx.grownS); assumption; (first | omega | exact Bx.ne (by assumption) (by omega))) | ((with_reducible apply Bx.below); assumption; omega) | ((with_reducible apply Bx.ex); assumption))) | exact Cells.ex (by assumption) (by assumption)); exact rfl) | ((with_reducible apply r_lss); exact rfl; exact rfl) | ((with_reducible apply r_neq); exact rfl; exact rfl) | ((with_reducible apply r_add); exact rfl; exact rfl; omega)))
      | (refine W_callv (value_any (sh.getD k (0, 0)).1 (sh.getD k (0, 0)).2 _) rfl (fun wq he => ?_); have hsz := he.size)
      | (refine W_callv (place_any (sh.getD j (0, 0)).1 (sh.getD j (0, 0)).2 _) rfl (fun wq he => ?_); have hsz := he.size)
      | (refine W_callv (minus_any x (sh.getD j (0, 0)).1 _ hx (hs j).1) rfl (fun wq he => ?_); have hsz := he.size)
      | (refine W_callv (times_any ab (mns x (sh.getD j (0, 0)).1) _ hab (mns_nb _ _)) rfl (fun wq he => ?_); have hsz := he.size)
      | (refine WM_callv (fun wq he => place_any (sh.getD k (0, 0)).1 (sh.getD k (0, 0)).2 _) rfl ?_)
      | (refine WM_callv (fun wq he => place_any (sh.getD j (0, 0)).1 (sh.getD j (0, 0)).2 _) rfl ?_)
      | (refine WM_callv (fun wq he => minus_any (sh.getD k (0, 0)).1 (sh.getD j (0, 0)).1 _ (hs k).1 (hs j).1) rfl ?_)
      | (refine WM_callv (fun wq he => times_any be (mns (sh.getD k (0, 0)).1 (sh.getD j (0, 0)).1) _ hbe (mns_nb _ _)) rfl ?_)
      | (refine W_callv (over_any _ _ _ hab hbe) rfl (fun wq he => ?_); have hsz := he.size)
      | (refine W_callv (plus_any _ _ _ (lgT_nb _ _ _ _) (ovr_nb _ _)) rfl (fun wq he => ?_); have hsz := he.size)
      | ((with_reducible (show Exit.then _ _ _ _ _)); refine n_roundG (j + 1) (hK2 _ _ _ _ ⟨_, _, _, _, rfl, by omega, by omega, (by rw [ab_next (by omega), kS_get, ← habd]), (by rw [ab_next (by omega), kS_get, ← hbed]), tms_nb _ _, tms_nb _ _, (by repeat (first | assumption | ((with_reducible apply Bx.grownS); assumption; (first | omega | exact Bx.ne (by assumption) (by omega))) | ((with_reducible apply Bx.below); assumption; omega) | ((with_reducible apply Bx.ex); assumption))), (by repeat (first | assumption | exact Ex.refl _ | (refine Ex.trans ?_ (by assumption)) | (refine Ex.of_grown ?_ (by assumption) (by intro k hk; cases hk; omega))))⟩ ⟨rfl, rfl, rfl, rfl, rfl, rfl, rfl, rfl, rfl, rfl, rfl, rfl, rfl, trivial⟩ rfl) (by omega))
      | ((with_reducible (show Exit.then _ _ _ _ _)); refine n_roundG (j + 1) (hK2 _ _ _ _ ⟨_, _, _, _, rfl, by omega, by omega, (by rw [ab_same (by omega)]; exact habd), (by rw [ab_same (by omega)]; exact hbed), hab, hbe, (by repeat (first | assumption | ((with_reducible apply Bx.grownS); assumption; (first | omega | exact Bx.ne (by assumption) (by omega))) | ((with_reducible apply Bx.below); assumption; omega) | ((with_reducible apply Bx.ex); assumption))), (by repeat (first | assumption | exact Ex.refl _ | (refine Ex.trans ?_ (by assumption)) | (refine Ex.of_grown ?_ (by assumption) (by intro k hk; cases hk; omega))))⟩ ⟨rfl, rfl, rfl, rfl, rfl, rfl, rfl, rfl, rfl, rfl, rfl, rfl, rfl, trivial⟩ rfl) (by omega))
      | ((with_reducible (show Exit.then _ _ _ _ _)); refine n_roundG (k + 1) (hJ _ _ _ _ ⟨_, _, rfl, by omega, by omega, (by have hjl : j = sh.length := (by omega); simp only [lgT, lgI]; rw [vS_get, kS_get, kS_len, habd, hbed, hjl]), (by repeat (first | assumption | exact Ex.refl _ | (refine Ex.trans ?_ (by assumption)) | (refine Ex.of_grown ?_ (by assumption) (by intro k hk; cases hk; omega))))⟩ ⟨rfl, rfl, rfl, rfl, rfl, rfl, trivial⟩ rfl) (by omega))
      | (with_reducible apply W_nil)
      | (with_reducible apply WM_nil; intro wq he; have hsz := he.size)
      | (with_reducible apply WB_nil)
      | (with_reducible apply WT_nil)
      | (with_reducible apply WT_cons)
      | (with_reducible apply t_sink)
      | ((with_reducible apply W_alloc); exact rfl; intro bq wq hbq he hnq; have hltq := Bx.lt hbq; have hsz := he.size)
      | ((with_reducible apply W_storeA); exact rfl; (focus ((repeat (first | assumption | ((with_reducible apply Bx.grownS); assumption; (first | omega | exact Bx.ne (by assumption) (by omega))) | ((with_reducible apply Bx.below); assumption; omega) | ((with_reducible apply Bx.ex); assumption))); done)); exact rfl; exact rfl; exact rfl; (repeat' (first | exact trivial | (first | exact rfl | assumption | exact IntsK.one (by assumption) | exact Prs.one (by assumption) | exact Own.one (by assumption)) | constructor)); intro wq hbq hgq; have he : Ex w wq := (by repeat (first | assumption | exact Ex.refl _ | (refine Ex.trans ?_ (by assumption)) | (refine Ex.of_grown ?_ (by assumption) (by intro k hk; cases hk; omega)))); have hsz := he.size; have hgz := hgq.size)
      | (with_reducible apply c_seq)
      | ((with_reducible apply c_region); kernel_rfl)
      | (with_reducible apply n_nq)
      | (with_reducible apply c_block)
      | (with_reducible apply c_skip)
      | (with_reducible apply c_ret)
      | (with_reducible apply c_exit)
      | ((with_reducible apply c_cond_dec); exact rfl; intro _; rotate_left 1; intro _)
      | (with_reducible apply n_then)
      | (with_reducible apply n_block)
      | (with_reducible apply e_then)
      | (with_reducible apply e_block)
      | ((with_reducible apply p_ret1); exact rfl; exact rfl; ((conv => lhs; whnf) <;> exact rfl); refine ⟨_, rfl, ?_, (by repeat (first | assumption | exact Ex.refl _ | (refine Ex.trans ?_ (by assumption)) | (refine Ex.of_grown ?_ (by assumption) (by intro k hk; cases hk; omega))))⟩))
  all_goals first
    | (have hkl : k = sh.length := (by omega); subst hkl; unfold lgA; rw [kS_len])
    | trace_state
end Go.Proofs.Ytngoipmdhliigaa
