/-
  (heavy) (rows) What this text proves: the most, the least, and the bounds that prove them are as the plain functions say. Conditions: the value reads as a list.
-/
import Derived.Test.YtlphfobpheefkaaVAd
import Derived.Test.YtlphfobpheefkaaVKh
set_option linter.unusedVariables false
set_option linter.unusedSimpArgs false
namespace Go.Pv
open Go.RowKit Go.Sort
/-- The bounds of a pick, the last one first. -/
def idxF (P : Nat → Pk) : Nat → Nat → List Int
  | 0, _ => []
  | f + 1, i => if (P i).2.1 = -1 then [] else (P i).2.1 :: idxF P f (P i).2.2.toNat
def idxP (P : Nat → Pk) (i : Nat) : List Int := idxF P (i + 1) i
/-- A pick of so many ticks has no bound, or one with a pick for fewer ticks before it. -/
def okP (P : Nat → Pk) (n : Nat) : Prop := ∀ i, i ≤ n → (P i).2.1 = -1 ∨ ((P i).2.1 ≠ -1 ∧ 0 ≤ (P i).2.2 ∧ (P i).2.2.toNat < i)
theorem idxF_fuel {P : Nat → Pk} {n : Nat} (h : okP P n) : ∀ (f g i : Nat), i ≤ n → i < f → i < g → idxF P f i = idxF P g i
  | f + 1, g + 1, i, hn, hf, hg => by
    simp only [idxF]
    by_cases e : (P i).2.1 = -1
    · rw [if_pos e, if_pos e]
    · rw [if_neg e, if_neg e]
      have := (h i hn).resolve_left e
      rw [idxF_fuel h f g _ (by omega) (by omega) (by omega)]
theorem idx_stop {P : Nat → Pk} {i : Nat} (h : (P i).2.1 = -1) : idxP P i = [] := by unfold idxP; simp only [idxF]; rw [if_pos h]
theorem idx_go {P : Nat → Pk} {n i : Nat} (h : okP P n) (hi : i ≤ n) (hb : ¬ (P i).2.1 = -1) : idxP P i = (P i).2.1 :: idxP P (P i).2.2.toNat := by
  have := (h i hi).resolve_left hb
  unfold idxP
  conv => lhs; simp only [idxF]
  rw [if_neg hb, idxF_fuel h i ((P i).2.2.toNat + 1) _ (by omega) (by omega) (by omega)]
theorem idx_len {P : Nat → Pk} {n : Nat} (h : okP P n) : ∀ i, i ≤ n → (idxP P i).length ≤ i := by
  intro i
  induction i using Nat.strongRecOn with
  | ind i ih =>
    intro hi
    by_cases hb : (P i).2.1 = -1
    · rw [idx_stop hb]; simp
    · have h2 := (h i hi).resolve_left hb
      rw [idx_go h hi hb, List.length_cons]
      have := ih _ h2.2.2 (by omega)
      omega
end Go.Pv
namespace Go.Proofs.Ytlphfobpheefkaa
open Go.Pv Go.RowKit Go.Sort
set_option maxHeartbeats 8000000
set_option maxRecDepth 20000
theorem most_any (lv : Value) (l : List (Int × Int)) (n : Nat) (w : World) (h : Prs w lv l) (hb : bErr l = 0) (hn : n ≤ 900) : Ret Try.prog 42 [.agg #[lv], .int .i64 (n : Int)] w fun r w' => OwnR p3 3 80 w.heap.size w' r (bestL (covF l) lowC n) := by
  have hv1 := h.one
  obtain ⟨h1, hbd⟩ := bErr_inv hb
  have hbo := fun w2 (e : Ex w w2) => bestOf_any (fe := 63) (fo := 64) (covF l) lowC n lv w2 hn hv1 (fun x y w3 => lowFirst_any _ _ _ _ _ _ w3)
    (fun m fv w3 hm e2 hf => covers_any lv fv l _ w3 (Prs.ex (e.trans e2) h) hf hbd (by omega) (by rw [bestL_len]; omega) (by rw [bestL_len]; omega) (fun j hj => by
      rw [bestL_len] at hj
      rw [bestL_get _ _ _ _ (by omega)]
      have := mo_bd (l := l) (by omega) hbd j
      unfold moN covK at this
      omega))
    (fun m hm => by rw [covF_len]; omega)
  refine ret_of_c Try.func42 rfl Try.ntmps42 (Nat.le_of_ble_eq_true rfl) (by dsimp only [ini, Nat.reduceAdd] <;> exact rfl) ?_
  repeat' (first
      | ((first | ((with_reducible apply W_op); exact rfl; exact rfl)); (first | ((with_reducible apply r_move); ((conv => lhs; whnf) <;> exact rfl)) | ((with_reducible apply r_assign); ((conv => lhs; whnf) <;> exact rfl)) | ((with_reducible apply r_loadA); exact rfl; (first | assumption | exact Bx.cells (by repeat (first | assumption | ((with_reducible apply Bx.grownS); assumption; (first | omega | exact Bx.ne (by assumption) (by omega))) | ((with_reducible apply Bx.below); assumption; omega) | ((with_reducible apply Bx.ex); assumption))) | exact Cells.ex (by assumption) (by assumption)); exact rfl) | ((with_reducible apply r_mf1); ((conv => lhs; whnf) <;> exact rfl)) | ((with_reducible apply r_build1); ((conv => lhs; whnf) <;> exact rfl); (first | exact rfl | assumption | exact IntsK.one (by assumption) | exact Prs.one (by assumption) | exact OwnP.one (by assumption) | exact Own.one (by assumption) | exact Row.one (by assumption) | exact OwnR.one (by assumption)); exact rfl; exact rfl; ((simp only [lay, lset, List.replicate_succ, List.replicate_zero]) <;> exact rfl))))
      | (refine W_call (hbo _ (by repeat (first | assumption | exact Ex.refl _ | (refine Ex.trans ?_ (by assumption)) | (refine Ex.of_grown ?_ (by assumption) (by intro k hk; cases hk; omega))))) rfl ?_; rintro vq wq hown he; have hsz := he.size; have ho1 := OwnR.one hown)
      | (with_reducible apply W_nil)
      | ((with_reducible apply W_box); exact rfl; exact rfl; intro bq wq hbq he hnq; have hltq := Bx.lt hbq; have hsz := he.size)
      | (with_reducible apply c_seq)
      | ((with_reducible apply c_region); kernel_rfl)
      | (with_reducible apply n_nq)
      | (with_reducible apply c_ret)
      | (with_reducible apply n_then)
      | ((with_reducible apply p_ret1); exact rfl; exact rfl; ((conv => lhs; whnf) <;> exact rfl); refine ⟨_, rfl, ?_, (by repeat (first | assumption | exact Ex.refl _ | (refine Ex.trans ?_ (by assumption)) | (refine Ex.of_grown ?_ (by assumption) (by intro k hk; cases hk; omega))))⟩))
  all_goals first
    | exact OwnR.mono hown (by omega)
    | trace_state
theorem least_any (lv : Value) (l : List (Int × Int)) (n : Nat) (w : World) (h : Prs w lv l) (hb : bErr l = 0) (hn : n ≤ 900) : Ret Try.prog 45 [.agg #[lv], .int .i64 (n : Int)] w fun r w' => OwnR p3 3 80 w.heap.size w' r (bestL (packF l) highC n) := by
  have hv1 := h.one
  obtain ⟨h1, hbd⟩ := bErr_inv hb
  have hbo := fun w2 (e : Ex w w2) => bestOf_any (fe := 65) (fo := 66) (packF l) highC n lv w2 hn hv1 (fun x y w3 => highFirst_any _ _ _ _ _ _ w3)
    (fun m fv w3 hm e2 hf => packings_any lv fv l _ w3 (Prs.ex (e.trans e2) h) hf hbd (by omega) (by rw [bestL_len]; omega) (by rw [bestL_len]; omega) (fun j hj => by
      rw [bestL_len] at hj
      rw [bestL_get _ _ _ _ (by omega)]
      have := le_bd (l := l) hbd j
      unfold leN packK at this
      omega))
    (fun m hm => ⟨packF_len _ _, Nat.le_trans (packTo_len l _ l.length).2 (by omega)⟩)
  refine ret_of_c Try.func45 rfl Try.ntmps45 (Nat.le_of_ble_eq_true rfl) (by dsimp only [ini, Nat.reduceAdd] <;> exact rfl) ?_
  repeat' (first
      | ((first | ((with_reducible apply W_op); exact rfl; exact rfl)); (first | ((with_reducible apply r_move); ((conv => lhs; whnf) <;> exact rfl)) | ((with_reducible apply r_assign); ((conv => lhs; whnf) <;> exact rfl)) | ((with_reducible apply r_loadA); exact rfl; (first | assumption | exact Bx.cells (by repeat (first | assumption | ((with_reducible apply Bx.grownS); assumption; (first | omega | exact Bx.ne (by assumption) (by omega))) | ((with_reducible apply Bx.below); assumption; omega) | ((with_reducible apply Bx.ex); assumption))) | exact Cells.ex (by assumption) (by assumption)); exact rfl) | ((with_reducible apply r_mf1); ((conv => lhs; whnf) <;> exact rfl)) | ((with_reducible apply r_build1); ((conv => lhs; whnf) <;> exact rfl); (first | exact rfl | assumption | exact IntsK.one (by assumption) | exact Prs.one (by assumption) | exact OwnP.one (by assumption) | exact Own.one (by assumption) | exact Row.one (by assumption) | exact OwnR.one (by assumption)); exact rfl; exact rfl; ((simp only [lay, lset, List.replicate_succ, List.replicate_zero]) <;> exact rfl))))
      | (refine W_call (hbo _ (by repeat (first | assumption | exact Ex.refl _ | (refine Ex.trans ?_ (by assumption)) | (refine Ex.of_grown ?_ (by assumption) (by intro k hk; cases hk; omega))))) rfl ?_; rintro vq wq hown he; have hsz := he.size; have ho1 := OwnR.one hown)
      | (with_reducible apply W_nil)
      | ((with_reducible apply W_box); exact rfl; exact rfl; intro bq wq hbq he hnq; have hltq := Bx.lt hbq; have hsz := he.size)
      | (with_reducible apply c_seq)
      | ((with_reducible apply c_region); kernel_rfl)
      | (with_reducible apply n_nq)
      | (with_reducible apply c_ret)
      | (with_reducible apply n_then)
      | ((with_reducible apply p_ret1); exact rfl; exact rfl; ((conv => lhs; whnf) <;> exact rfl); refine ⟨_, rfl, ?_, (by repeat (first | assumption | exact Ex.refl _ | (refine Ex.trans ?_ (by assumption)) | (refine Ex.of_grown ?_ (by assumption) (by intro k hk; cases hk; omega))))⟩))
  all_goals first
    | exact OwnR.mono hown (by omega)
    | trace_state
theorem indices_any (v : Value) (L : List Pk) (P : Nat → Pk) (n : Nat) (w : World) (h : Row p3 3 w v L) (hL : L.length = n + 1) (hn : n ≤ 900) (hP : ∀ i, i ≤ n → L.getD i pk0 = P i) (hok : okP P n) :
    Ret Try.prog 47 [v] w fun r w' => Pv.Own 3 w.heap.size w' r (sortL (idxP P n)) := by
  have hv1 := h.one
  have hil := idx_len hok n (Nat.le_refl _)
  obtain ⟨T, hT⟩ : ∃ T, idxP P n = T := ⟨_, rfl⟩
  rw [hT] at hil
  have tk0 : True := trivial
  have tk1 : True := trivial
  have tkA : True := trivial
  refine ret_of_c Try.func47 rfl Try.ntmps47 (Nat.le_of_ble_eq_true rfl) (by dsimp only [ini, Nat.reduceAdd] <;> exact rfl) ?_
  repeat' (first
      | ((with_reducible apply W_op); exact rfl; exact rfl; exact r_lenR rfl (Row.ex (show Ex w _ from (by repeat (first | exact Ex.refl _ | assumption | (refine Ex.of_grown ?_ (by assumption) (by intro k hk; cases hk; omega)) | (refine Ex.trans ?_ (by assumption))))) h))
      | (clear tk0; refine W_indexRw (f := p3) (n := 3) (v := v) (xs := L) (i := n) pk0 p3_len (by decide) rfl (Row.ex (show Ex w _ from (by repeat (first | exact Ex.refl _ | assumption | (refine Ex.of_grown ?_ (by assumption) (by intro k hk; cases hk; omega)) | (refine Ex.trans ?_ (by assumption))))) h) (Eq.trans (b := Value.int .i64 _) rfl (congrArg _ (by omega))) (by omega) ?_; intro pb po hpc; rw [hP n (Nat.le_refl _)] at hpc)
      | (have _ := tk1; (with_reducible apply W_op); exact rfl; exact rfl; exact r_loadA rfl hpc rfl)
      | (clear tk1; (with_reducible apply W_alloc); exact rfl; intro b4 wq hbq he hnq; have hltq := Bx.lt hbq; have hsz := he.size)
      | ((with_reducible (show C _ _ _ _ _ _)); clear tkA; refine c_loopG (fun (i : Nat) ps wr => ∃ ov : Value, ∃ b : Nat, ∃ acc : List Int, ps = [(0, v), (3, ov), (4, .pointer (some ⟨b, 0, none⟩))] ∧ i ≤ n ∧ Bx wr b (p3 (P i)) 80 ∧ w.heap.size ≤ b ∧ (∀ g, ov.ownBlock = some g → g ≠ b) ∧ Pv.Own 3 w.heap.size wr ov acc ∧ acc ++ idxP P i = T ∧ Ex w wr) (fun i => i) n _ ⟨_, _, [], rfl, Nat.le_refl _, (by repeat (first | assumption | ((with_reducible apply Bx.grownS); assumption; (first | omega | exact Bx.ne (by assumption) (by omega))) | ((with_reducible apply Bx.below); assumption; omega) | ((with_reducible apply Bx.ex); assumption))), by omega, (fun g hg => by cases hg), Pv.Own.nil _ _ _, (by rw [List.nil_append]; exact hT), (by repeat (first | assumption | exact Ex.refl _ | (refine Ex.trans ?_ (by assumption)) | (refine Ex.of_grown ?_ (by assumption) (by intro k hk; cases hk; omega))))⟩ ⟨rfl, rfl, rfl, trivial⟩ (by ((conv => lhs; whnf) <;> exact rfl)) (by ((conv => lhs; whnf) <;> exact rfl)) ?_; rintro J hJ i u ps wr ⟨ov, b, acc, rfl, hi, hb4, hbb, hnb, hown, hacc, he⟩; have hsz := he.size; have tkB : True := trivial)
      | (clear tkB; (have hlb := Bx.lt hb4); (have hov1 := hown.one); (have haccl : acc.length ≤ T.length := (by rw [← hacc, List.length_append]; omega)); (obtain ⟨pi, hpi⟩ : ∃ q, P i = q := ⟨_, rfl⟩); (obtain ⟨x0, x1, x2⟩ := pi); rw [hpi] at hb4; (have hb4 : Bx wr b [.int .i64 x0, .int .i64 x1, .int .i64 x2] 80 := hb4); (by_cases hxb : x1 = -1; rotate_left 1; (have hoki := (hok i hi).resolve_left (by rw [hpi]; exact hxb)); (have hgo := idx_go hok hi (by rw [hpi]; exact hxb)); rw [hpi] at hoki hgo; dsimp only at hoki hgo; (obtain ⟨j, hj⟩ : ∃ j : Nat, x2 = j := ⟨x2.toNat, by omega⟩); subst hj; (have hji : j < i := by have := hoki.2.2; simpa using this); (have hacc2 : (acc ++ [x1]) ++ idxP P j = T := (by rw [← hacc, hgo, List.append_assoc]; rfl)); have hPj := hP j (by omega)); all_goals (have tkC : True := trivial))
      | (have _ := tkC; (with_reducible apply c_cond_dec); exact rfl; intro _; rotate_left 1; intro _; (all_goals (try (exfalso; (focus (first | omega | simp_all; done))))))
      | (have _ := tkC; refine W_appendO (w0 := w) (base := w.heap.size) (m := x1) (xs := acc) rfl rfl (Pv.Own.ex (show Ex wr _ from (by repeat (first | exact Ex.refl _ | assumption | (refine Ex.of_grown ?_ (by assumption) (by intro k hk; cases hk; omega)) | (refine Ex.trans ?_ (by assumption))))) hown) rfl (by repeat (first | assumption | ((with_reducible apply Bx.grownS); assumption; (first | omega | exact Bx.ne (by assumption) (by omega))) | ((with_reducible apply Bx.below); assumption; omega) | ((with_reducible apply Bx.ex); assumption))) (by omega) (show Ex w _ from (by repeat (first | exact Ex.refl _ | assumption | (refine Ex.of_grown ?_ (by assumption) (by intro k hk; cases hk; omega)) | (refine Ex.trans ?_ (by assumption))))) (Nat.le_refl _) (by omega) ?_; intro r2 wa hown2 hr21 he hkn hgq; have hsz := he.size; have hszw := hkn.size; (have hb4 := Bx.grown (Bx.ex (show Ex wr _ from (by repeat (first | exact Ex.refl _ | assumption | (refine Ex.of_grown ?_ (by assumption) (by intro k hk; cases hk; omega)) | (refine Ex.trans ?_ (by assumption))))) hb4) hgq (fun e => hnb b e.symm rfl)); have tkD : True := trivial)
      | (have _ := tkD; (with_reducible apply W_alloc); exact rfl; intro b7 wq hbq he hnq; have hltq := Bx.lt hbq; have hsz := he.size)
      | (have _ := tkD; refine W_indexRw (f := p3) (n := 3) (v := v) (xs := L) (i := j) pk0 p3_len (by decide) rfl (Row.ex (show Ex w _ from (by repeat (first | exact Ex.refl _ | assumption | (refine Ex.of_grown ?_ (by assumption) (by intro k hk; cases hk; omega)) | (refine Ex.trans ?_ (by assumption))))) h) rfl (by omega) ?_; intro pb po hpc; rw [hPj] at hpc)
      | (have _ := tkD; (with_reducible apply W_op); exact rfl; exact rfl; exact r_loadA rfl hpc rfl)
      | ((first | ((with_reducible apply W_op); exact rfl; exact rfl)); (first | ((with_reducible apply r_move); ((conv => lhs; whnf) <;> exact rfl)) | ((with_reducible apply r_assign); ((conv => lhs; whnf) <;> exact rfl)) | ((with_reducible apply r_fieldAddr); exact rfl) | ((with_reducible apply r_load); exact rfl; exact rfl; (first | assumption | exact (Bx.cell (by repeat (first | assumption | ((with_reducible apply Bx.grownS); assumption; (first | omega | exact Bx.ne (by assumption) (by omega))) | ((with_reducible apply Bx.below); assumption; omega) | ((with_reducible apply Bx.ex); assumption))) _).trans rfl | exact Ex.cell (by assumption) (by assumption))) | ((with_reducible apply r_loadA); exact rfl; (first | assumption | exact Bx.cells (by repeat (first | assumption | ((with_reducible apply Bx.grownS); assumption; (first | omega | exact Bx.ne (by assumption) (by omega))) | ((with_reducible apply Bx.below); assumption; omega) | ((with_reducible apply Bx.ex); assumption))) | exact Cells.ex (by assumption) (by assumption)); exact rfl) | ((with_reducible apply r_neq); exact rfl; exact rfl) | ((with_reducible apply r_sub); exact rfl; exact rfl; omega)))
      | ((with_reducible (show Exit.then _ _ _ _ _)); refine n_roundG (j) (hJ _ _ _ _ ⟨_, _, acc ++ [x1], rfl, by omega, (by repeat (first | assumption | ((with_reducible apply Bx.grownS); assumption; (first | omega | exact Bx.ne (by assumption) (by omega))) | ((with_reducible apply Bx.below); assumption; omega) | ((with_reducible apply Bx.ex); assumption))), by omega, (fun g hg => by have := (hown2.block g hg).2; omega), Pv.Own.ex (show Ex wa _ from (by repeat (first | exact Ex.refl _ | assumption | (refine Ex.of_grown ?_ (by assumption) (by intro k hk; cases hk; omega)) | (refine Ex.trans ?_ (by assumption))))) hown2, hacc2, (by repeat (first | assumption | exact Ex.refl _ | (refine Ex.trans ?_ (by assumption)) | (refine Ex.of_grown ?_ (by assumption) (by intro k hk; cases hk; omega))))⟩ ⟨rfl, rfl, rfl, trivial⟩ rfl) (by omega))
      | (refine W_callR (sorted_own Try.slices_Sort_int Try.slices_Sort_int_none (by omega) hown) rfl ?_; rintro uq wq ⟨hown2, hgo⟩; have he : Ex w wq := Ex.of_grown (by assumption) hgo (by intro k hk; have := hown.block k hk; omega))
      | (with_reducible apply W_nil)
      | ((with_reducible apply W_storeA); exact rfl; (focus ((repeat (first | assumption | ((with_reducible apply Bx.grownS); assumption; (first | omega | exact Bx.ne (by assumption) (by omega))) | ((with_reducible apply Bx.below); assumption; omega) | ((with_reducible apply Bx.ex); assumption))); done)); exact rfl; exact rfl; exact rfl; (repeat' (first | exact trivial | (first | exact rfl | assumption | exact IntsK.one (by assumption) | exact Prs.one (by assumption) | exact OwnP.one (by assumption) | exact Own.one (by assumption) | exact Row.one (by assumption) | exact OwnR.one (by assumption)) | constructor)); intro wq hbq hgq; have he : Ex w wq := (by repeat (first | assumption | exact Ex.refl _ | (refine Ex.trans ?_ (by assumption)) | (refine Ex.of_grown ?_ (by assumption) (by intro k hk; cases hk; omega)))); have hsz := he.size; have hgz := hgq.size)
      | ((with_reducible apply W_bs1); ((conv => lhs; whnf) <;> exact rfl); (first | exact rfl | assumption | exact IntsK.one (by assumption) | exact Prs.one (by assumption) | exact OwnP.one (by assumption) | exact Own.one (by assumption) | exact Row.one (by assumption) | exact OwnR.one (by assumption)); decide; decide; exact rfl; exact rfl; ((simp only [lay, lset, List.replicate_succ, List.replicate_zero]) <;> exact rfl); intro bq wq hbq he hnq; have hltq := Bx.lt hbq; have hsz := he.size)
      | (with_reducible apply c_seq)
      | ((with_reducible apply c_region); kernel_rfl)
      | (with_reducible apply n_nq)
      | (with_reducible apply c_block)
      | (with_reducible apply c_skip)
      | (with_reducible apply c_ret)
      | (with_reducible apply c_exit)
      | (with_reducible apply n_then)
      | (with_reducible apply n_block)
      | (with_reducible apply e_then)
      | (with_reducible apply e_block)
      | ((with_reducible apply p_ret1); exact rfl; exact rfl; ((conv => lhs; whnf) <;> exact rfl); refine ⟨_, rfl, ?_, (by repeat (first | assumption | exact Ex.refl _ | (refine Ex.trans ?_ (by assumption)) | (refine Ex.of_grown ?_ (by assumption) (by intro k hk; cases hk; omega))))⟩))
  all_goals first
    | (have e := idx_stop (P := P) (i := i) (by rw [hpi]; exact hxb); rw [e, List.append_nil] at hacc; rw [hT, ← hacc]; exact hown2)
    | trace_state
end Go.Proofs.Ytlphfobpheefkaa
