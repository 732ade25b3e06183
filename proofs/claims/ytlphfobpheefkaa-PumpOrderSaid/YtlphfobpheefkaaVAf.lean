/-
  (heavy) (rows) What this text proves: Most, Least, Cover and Pack answer as the plain functions say. Conditions: the value reads as a list.
-/
import Derived.Test.YtlphfobpheefkaaVAe
set_option linter.unusedVariables false
set_option linter.unusedSimpArgs false
namespace Go.Pv
open Go.RowKit Go.Sort
theorem Own.lower {E : TypeId} {base base' : Nat} {w : World} {v : Value} {xs : List Int} (h : Own E base w v xs) (hb : base' ≤ base) : Own E base' w v xs := by
  unfold Own at h ⊢
  obtain ⟨h0, h1, h2⟩ := h
  refine ⟨h0, h1, ?_⟩
  rcases h2 with h2 | ⟨g, cap, cur, h3, h4, h5⟩
  · exact .inl h2
  · exact .inr ⟨g, cap, cur, h3, by omega, h5⟩
theorem lErr_inv {l : List (Int × Int)} {t : Int} (h : lErr l t = 0) : bErr l = 0 ∧ 0 ≤ t ∧ t ≤ 200 := by
  unfold lErr at h
  split at h
  · split at h
    · next a b => exact ⟨a, b⟩
    · omega
  · next a => exact absurd h a
theorem cov_okP {l : List (Int × Int)} (h1 : 1 ≤ l.length) (hb : bdTo l l.length) (n : Nat) : okP (covK l) n := by
  intro i hi
  cases i with
  | zero => exact .inl rfl
  | succ m =>
    obtain ⟨j, hj, e⟩ := cov_step h1 hb m
    have h3 := cov_bef (n := m) hb hj
    refine .inr ⟨?_, ?_, ?_⟩
    · rw [e]; dsimp only; omega
    · rw [e]; dsimp only; omega
    · rw [e]; dsimp only; omega
theorem pack_okP {l : List (Int × Int)} (hb : bdTo l l.length) (n : Nat) : okP (packK l) n := by
  intro i hi
  induction i with
  | zero => exact .inl rfl
  | succ m ih =>
    rcases pack_step hb m with e | ⟨j, hj, ht, e⟩
    · rw [e]
      rcases ih (by omega) with h | ⟨h2, h3, h4⟩
      · exact .inl h
      · exact .inr ⟨h2, h3, by omega⟩
    · have h3 := cov_bef (n := m) hb hj
      refine .inr ⟨?_, ?_, ?_⟩
      · rw [e]; dsimp only; omega
      · rw [e]; dsimp only; omega
      · rw [e]; dsimp only; omega
/-- The bounds that prove the most, and the least. -/
def coverL (l : List (Int × Int)) (n : Nat) : List Int := sortL (idxP (covK l) n)
def packL (l : List (Int × Int)) (n : Nat) : List Int := sortL (idxP (packK l) n)
end Go.Pv
namespace Go.Proofs.Ytlphfobpheefkaa
open Go.Pv Go.RowKit Go.Sort
set_option maxHeartbeats 8000000
set_option maxRecDepth 20000
theorem Most_any (v : Value) (l : List (Int × Int)) (t : Int) (w : World) (h : Prs w v l) : Ret Try.prog 14 [v, .int .i64 t] w fun r w' => r = .tuple #[.int .i64 (if lErr l t = 0 then moN l t.toNat else 0), .int .i64 (lErr l t)] := by
  have hv1 := h.one
  have hck := fun w2 (e : Ex w w2) => checkList_any v l t w2 (Prs.ex e h)
  by_cases hc : lErr l t = 0
  · obtain ⟨hb, h0, h2⟩ := lErr_inv hc
    obtain ⟨n, hn⟩ : ∃ n : Nat, t = n := ⟨t.toNat, by omega⟩
    subst hn
    rw [hc] at hck ⊢
    rw [if_pos rfl, Int.toNat_natCast]
    have hmo := fun w2 (e : Ex w w2) => most_any v l n w2 (Prs.ex e h) hb (by omega)
    have hbl := bestL_len (covF l) lowC n
    have hbg : (bestL (covF l) lowC n).getD n pk0 = covK l n := bestL_get _ _ _ _ (Nat.le_refl _)
    refine ret_of_c Try.func14 rfl Try.ntmps14 (Nat.le_of_ble_eq_true rfl) (by dsimp only [ini, Nat.reduceAdd] <;> exact rfl) ?_
    repeat' (first
        | ((with_reducible apply c_cond_dec); exact rfl; intro _; rotate_left 1; intro _; (all_goals (try (exfalso; (focus (omega; done))))))
        | (refine W_indexRw (f := p3) (n := 3) (xs := bestL (covF l) lowC n) (i := n) pk0 p3_len (by decide) rfl (OwnR.row p3_len hown) rfl (by omega) ?_; intro pb po hpc; (obtain ⟨hp0, _, _⟩ := cells3 hpc); rw [hbg] at hp0)
        | ((first | ((with_reducible apply W_op); exact rfl; exact rfl)); (first | ((with_reducible apply r_move); ((conv => lhs; whnf) <;> exact rfl)) | ((with_reducible apply r_assign); ((conv => lhs; whnf) <;> exact rfl)) | ((with_reducible apply r_fieldAddr); exact rfl) | ((with_reducible apply r_load); exact rfl; exact rfl; (first | assumption | exact (Bx.cell (by repeat (first | assumption | ((with_reducible apply Bx.grownS); assumption; (first | omega | exact Bx.ne (by assumption) (by omega))) | ((with_reducible apply Bx.below); assumption; omega) | ((with_reducible apply Bx.ex); assumption))) _).trans rfl | exact Ex.cell (by assumption) (by assumption))) | ((with_reducible apply r_neq); exact rfl; exact rfl) | ((with_reducible apply r_build1); ((conv => lhs; whnf) <;> exact rfl); (first | exact rfl | assumption | exact IntsK.one (by assumption) | exact Prs.one (by assumption) | exact OwnP.one (by assumption) | exact Own.one (by assumption) | exact Row.one (by assumption) | exact OwnR.one (by assumption)); exact rfl; exact rfl; ((simp only [lay, lset, List.replicate_succ, List.replicate_zero]) <;> exact rfl))))
        | (refine W_callv (hck _ (by repeat (first | assumption | exact Ex.refl _ | (refine Ex.trans ?_ (by assumption)) | (refine Ex.of_grown ?_ (by assumption) (by intro k hk; cases hk; omega))))) rfl (fun wq he => ?_); have hsz := he.size)
        | (refine W_call (hmo _ (by repeat (first | assumption | exact Ex.refl _ | (refine Ex.trans ?_ (by assumption)) | (refine Ex.of_grown ?_ (by assumption) (by intro k hk; cases hk; omega))))) rfl ?_; rintro vq wq hown he; have hsz := he.size; have ho1 := OwnR.one hown)
        | (with_reducible apply W_nil)
        | (with_reducible apply c_seq)
        | ((with_reducible apply c_region); kernel_rfl)
        | (with_reducible apply n_nq)
        | (with_reducible apply c_skip)
        | (with_reducible apply c_ret)
        | (with_reducible apply n_then)
        | ((with_reducible apply p_ret2); exact rfl; exact rfl; ((conv => lhs; whnf) <;> exact rfl); ((conv => lhs; whnf) <;> exact rfl); refine ⟨_, rfl, ?_, (by repeat (first | assumption | exact Ex.refl _ | (refine Ex.trans ?_ (by assumption)) | (refine Ex.of_grown ?_ (by assumption) (by intro k hk; cases hk; omega))))⟩))
    all_goals first | rfl | trace_state
  · rw [if_neg hc]
    obtain ⟨e, hee⟩ : ∃ e, e = lErr l t := ⟨_, rfl⟩
    rw [← hee] at hck hc ⊢
    refine ret_of_c Try.func14 rfl Try.ntmps14 (Nat.le_of_ble_eq_true rfl) (by dsimp only [ini, Nat.reduceAdd] <;> exact rfl) ?_
    repeat' (first
        | ((with_reducible apply c_cond_dec); exact rfl; intro _; rotate_left 1; intro _; (all_goals (try (exfalso; (focus (omega; done))))))
        | ((first | ((with_reducible apply W_op); exact rfl; exact rfl)); (first | ((with_reducible apply r_move); ((conv => lhs; whnf) <;> exact rfl)) | ((with_reducible apply r_assign); ((conv => lhs; whnf) <;> exact rfl)) | ((with_reducible apply r_neq); exact rfl; exact rfl)))
        | (refine W_callv (hck _ (by repeat (first | assumption | exact Ex.refl _ | (refine Ex.trans ?_ (by assumption)) | (refine Ex.of_grown ?_ (by assumption) (by intro k hk; cases hk; omega))))) rfl (fun wq he => ?_); have hsz := he.size)
        | (with_reducible apply W_nil)
        | (with_reducible apply c_seq)
        | ((with_reducible apply c_region); kernel_rfl)
        | (with_reducible apply n_nq)
        | (with_reducible apply c_ret)
        | (with_reducible apply n_then)
        | (with_reducible apply r_then)
        | ((with_reducible apply p_ret2); exact rfl; exact rfl; ((conv => lhs; whnf) <;> exact rfl); ((conv => lhs; whnf) <;> exact rfl); refine ⟨_, rfl, ?_, (by repeat (first | assumption | exact Ex.refl _ | (refine Ex.trans ?_ (by assumption)) | (refine Ex.of_grown ?_ (by assumption) (by intro k hk; cases hk; omega))))⟩))
    all_goals first | rfl | trace_state
theorem Least_any (v : Value) (l : List (Int × Int)) (t : Int) (w : World) (h : Prs w v l) : Ret Try.prog 16 [v, .int .i64 t] w fun r w' => r = .tuple #[.int .i64 (if lErr l t = 0 then leN l t.toNat else 0), .int .i64 (lErr l t)] := by
  have hv1 := h.one
  have hck := fun w2 (e : Ex w w2) => checkList_any v l t w2 (Prs.ex e h)
  by_cases hc : lErr l t = 0
  · obtain ⟨hb, h0, h2⟩ := lErr_inv hc
    obtain ⟨n, hn⟩ : ∃ n : Nat, t = n := ⟨t.toNat, by omega⟩
    subst hn
    rw [hc] at hck ⊢
    rw [if_pos rfl, Int.toNat_natCast]
    have hmo := fun w2 (e : Ex w w2) => least_any v l n w2 (Prs.ex e h) hb (by omega)
    have hbl := bestL_len (packF l) highC n
    have hbg : (bestL (packF l) highC n).getD n pk0 = packK l n := bestL_get _ _ _ _ (Nat.le_refl _)
    refine ret_of_c Try.func16 rfl Try.ntmps16 (Nat.le_of_ble_eq_true rfl) (by dsimp only [ini, Nat.reduceAdd] <;> exact rfl) ?_
    repeat' (first
        | ((with_reducible apply c_cond_dec); exact rfl; intro _; rotate_left 1; intro _; (all_goals (try (exfalso; (focus (omega; done))))))
        | (refine W_indexRw (f := p3) (n := 3) (xs := bestL (packF l) highC n) (i := n) pk0 p3_len (by decide) rfl (OwnR.row p3_len hown) rfl (by omega) ?_; intro pb po hpc; (obtain ⟨hp0, _, _⟩ := cells3 hpc); rw [hbg] at hp0)
        | ((first | ((with_reducible apply W_op); exact rfl; exact rfl)); (first | ((with_reducible apply r_move); ((conv => lhs; whnf) <;> exact rfl)) | ((with_reducible apply r_assign); ((conv => lhs; whnf) <;> exact rfl)) | ((with_reducible apply r_fieldAddr); exact rfl) | ((with_reducible apply r_load); exact rfl; exact rfl; (first | assumption | exact (Bx.cell (by repeat (first | assumption | ((with_reducible apply Bx.grownS); assumption; (first | omega | exact Bx.ne (by assumption) (by omega))) | ((with_reducible apply Bx.below); assumption; omega) | ((with_reducible apply Bx.ex); assumption))) _).trans rfl | exact Ex.cell (by assumption) (by assumption))) | ((with_reducible apply r_neq); exact rfl; exact rfl) | ((with_reducible apply r_build1); ((conv => lhs; whnf) <;> exact rfl); (first | exact rfl | assumption | exact IntsK.one (by assumption) | exact Prs.one (by assumption) | exact OwnP.one (by assumption) | exact Own.one (by assumption) | exact Row.one (by assumption) | exact OwnR.one (by assumption)); exact rfl; exact rfl; ((simp only [lay, lset, List.replicate_succ, List.replicate_zero]) <;> exact rfl))))
        | (refine W_callv (hck _ (by repeat (first | assumption | exact Ex.refl _ | (refine Ex.trans ?_ (by assumption)) | (refine Ex.of_grown ?_ (by assumption) (by intro k hk; cases hk; omega))))) rfl (fun wq he => ?_); have hsz := he.size)
        | (refine W_call (hmo _ (by repeat (first | assumption | exact Ex.refl _ | (refine Ex.trans ?_ (by assumption)) | (refine Ex.of_grown ?_ (by assumption) (by intro k hk; cases hk; omega))))) rfl ?_; rintro vq wq hown he; have hsz := he.size; have ho1 := OwnR.one hown)
        | (with_reducible apply W_nil)
        | (with_reducible apply c_seq)
        | ((with_reducible apply c_region); kernel_rfl)
        | (with_reducible apply n_nq)
        | (with_reducible apply c_skip)
        | (with_reducible apply c_ret)
        | (with_reducible apply n_then)
        | ((with_reducible apply p_ret2); exact rfl; exact rfl; ((conv => lhs; whnf) <;> exact rfl); ((conv => lhs; whnf) <;> exact rfl); refine ⟨_, rfl, ?_, (by repeat (first | assumption | exact Ex.refl _ | (refine Ex.trans ?_ (by assumption)) | (refine Ex.of_grown ?_ (by assumption) (by intro k hk; cases hk; omega))))⟩))
    all_goals first | rfl | trace_state
  · rw [if_neg hc]
    obtain ⟨e, hee⟩ : ∃ e, e = lErr l t := ⟨_, rfl⟩
    rw [← hee] at hck hc ⊢
    refine ret_of_c Try.func16 rfl Try.ntmps16 (Nat.le_of_ble_eq_true rfl) (by dsimp only [ini, Nat.reduceAdd] <;> exact rfl) ?_
    repeat' (first
        | ((with_reducible apply c_cond_dec); exact rfl; intro _; rotate_left 1; intro _; (all_goals (try (exfalso; (focus (omega; done))))))
        | ((first | ((with_reducible apply W_op); exact rfl; exact rfl)); (first | ((with_reducible apply r_move); ((conv => lhs; whnf) <;> exact rfl)) | ((with_reducible apply r_assign); ((conv => lhs; whnf) <;> exact rfl)) | ((with_reducible apply r_neq); exact rfl; exact rfl)))
        | (refine W_callv (hck _ (by repeat (first | assumption | exact Ex.refl _ | (refine Ex.trans ?_ (by assumption)) | (refine Ex.of_grown ?_ (by assumption) (by intro k hk; cases hk; omega))))) rfl (fun wq he => ?_); have hsz := he.size)
        | (with_reducible apply W_nil)
        | (with_reducible apply c_seq)
        | ((with_reducible apply c_region); kernel_rfl)
        | (with_reducible apply n_nq)
        | (with_reducible apply c_ret)
        | (with_reducible apply n_then)
        | (with_reducible apply r_then)
        | ((with_reducible apply p_ret2); exact rfl; exact rfl; ((conv => lhs; whnf) <;> exact rfl); ((conv => lhs; whnf) <;> exact rfl); refine ⟨_, rfl, ?_, (by repeat (first | assumption | exact Ex.refl _ | (refine Ex.trans ?_ (by assumption)) | (refine Ex.of_grown ?_ (by assumption) (by intro k hk; cases hk; omega))))⟩))
    all_goals first | rfl | trace_state
theorem Cover_any (v : Value) (l : List (Int × Int)) (t : Int) (w : World) (h : Prs w v l) : Ret Try.prog 18 [v, .int .i64 t] w fun r w' => ∃ u, r = .tuple #[u, .int .i64 (lErr l t)] ∧ Pv.Own 3 w.heap.size w' u (if lErr l t = 0 then coverL l t.toNat else []) := by
  have hv1 := h.one
  have hck := fun w2 (e : Ex w w2) => checkList_any v l t w2 (Prs.ex e h)
  by_cases hc : lErr l t = 0
  · obtain ⟨hb, h0, h2⟩ := lErr_inv hc
    obtain ⟨h1, hbd⟩ := bErr_inv hb
    obtain ⟨n, hn⟩ : ∃ n : Nat, t = n := ⟨t.toNat, by omega⟩
    subst hn
    rw [hc] at hck ⊢
    rw [if_pos rfl, Int.toNat_natCast]
    have hmo := fun w2 (e : Ex w w2) => most_any v l n w2 (Prs.ex e h) hb (by omega)
    have hin := fun u w2 (hu : Row p3 3 w2 u (bestL (covF l) lowC n)) => indices_any u _ (covK l) n w2 hu (bestL_len _ _ n) (by omega) (fun i hi => bestL_get _ _ _ _ hi) (cov_okP (by omega) hbd n)
    refine ret_of_c Try.func18 rfl Try.ntmps18 (Nat.le_of_ble_eq_true rfl) (by dsimp only [ini, Nat.reduceAdd] <;> exact rfl) ?_
    repeat' (first
        | ((with_reducible apply c_cond_dec); exact rfl; intro _; rotate_left 1; intro _; (all_goals (try (exfalso; (focus (omega; done))))))
        | ((first | ((with_reducible apply W_op); exact rfl; exact rfl)); (first | ((with_reducible apply r_move); ((conv => lhs; whnf) <;> exact rfl)) | ((with_reducible apply r_assign); ((conv => lhs; whnf) <;> exact rfl)) | ((with_reducible apply r_neq); exact rfl; exact rfl) | ((with_reducible apply r_build1); ((conv => lhs; whnf) <;> exact rfl); (first | exact rfl | assumption | exact IntsK.one (by assumption) | exact Prs.one (by assumption) | exact OwnP.one (by assumption) | exact Own.one (by assumption) | exact Row.one (by assumption) | exact OwnR.one (by assumption)); exact rfl; exact rfl; ((simp only [lay, lset, List.replicate_succ, List.replicate_zero]) <;> exact rfl))))
        | (refine W_callv (hck _ (by repeat (first | assumption | exact Ex.refl _ | (refine Ex.trans ?_ (by assumption)) | (refine Ex.of_grown ?_ (by assumption) (by intro k hk; cases hk; omega))))) rfl (fun wq he => ?_); have hsz := he.size)
        | (refine W_call (hmo _ (by repeat (first | assumption | exact Ex.refl _ | (refine Ex.trans ?_ (by assumption)) | (refine Ex.of_grown ?_ (by assumption) (by intro k hk; cases hk; omega))))) rfl ?_; rintro vq wq hownR he; have hsz := he.size; have ho1 := OwnR.one hownR; have hrow := OwnR.row p3_len hownR)
        | (refine W_call (hin _ _ hrow) rfl ?_; rintro vq wq hown he; have hsz := he.size; have ho2 := hown.one)
        | (with_reducible apply W_nil)
        | (with_reducible apply c_seq)
        | ((with_reducible apply c_region); kernel_rfl)
        | (with_reducible apply n_nq)
        | (with_reducible apply c_skip)
        | (with_reducible apply c_ret)
        | (with_reducible apply n_then)
        | ((with_reducible apply p_ret2); exact rfl; exact rfl; ((conv => lhs; whnf) <;> exact rfl); ((conv => lhs; whnf) <;> exact rfl); refine ⟨_, rfl, ?_, (by repeat (first | assumption | exact Ex.refl _ | (refine Ex.trans ?_ (by assumption)) | (refine Ex.of_grown ?_ (by assumption) (by intro k hk; cases hk; omega))))⟩))
    all_goals first | exact ⟨_, rfl, Pv.Own.lower hown (by omega)⟩ | trace_state
  · rw [if_neg hc]
    obtain ⟨e, hee⟩ : ∃ e, e = lErr l t := ⟨_, rfl⟩
    rw [← hee] at hck hc ⊢
    refine ret_of_c Try.func18 rfl Try.ntmps18 (Nat.le_of_ble_eq_true rfl) (by dsimp only [ini, Nat.reduceAdd] <;> exact rfl) ?_
    repeat' (first
        | ((with_reducible apply c_cond_dec); exact rfl; intro _; rotate_left 1; intro _; (all_goals (try (exfalso; (focus (omega; done))))))
        | ((first | ((with_reducible apply W_op); exact rfl; exact rfl)); (first | ((with_reducible apply r_move); ((conv => lhs; whnf) <;> exact rfl)) | ((with_reducible apply r_assign); ((conv => lhs; whnf) <;> exact rfl)) | ((with_reducible apply r_neq); exact rfl; exact rfl)))
        | (refine W_callv (hck _ (by repeat (first | assumption | exact Ex.refl _ | (refine Ex.trans ?_ (by assumption)) | (refine Ex.of_grown ?_ (by assumption) (by intro k hk; cases hk; omega))))) rfl (fun wq he => ?_); have hsz := he.size)
        | (with_reducible apply W_nil)
        | (with_reducible apply c_seq)
        | ((with_reducible apply c_region); kernel_rfl)
        | (with_reducible apply n_nq)
        | (with_reducible apply c_ret)
        | (with_reducible apply n_then)
        | (with_reducible apply r_then)
        | ((with_reducible apply p_ret2); exact rfl; exact rfl; ((conv => lhs; whnf) <;> exact rfl); ((conv => lhs; whnf) <;> exact rfl); refine ⟨_, rfl, ?_, (by repeat (first | assumption | exact Ex.refl _ | (refine Ex.trans ?_ (by assumption)) | (refine Ex.of_grown ?_ (by assumption) (by intro k hk; cases hk; omega))))⟩))
    all_goals first | exact ⟨_, rfl, Pv.Own.nil _ _ _⟩ | trace_state
theorem Pack_any (v : Value) (l : List (Int × Int)) (t : Int) (w : World) (h : Prs w v l) : Ret Try.prog 19 [v, .int .i64 t] w fun r w' => ∃ u, r = .tuple #[u, .int .i64 (lErr l t)] ∧ Pv.Own 3 w.heap.size w' u (if lErr l t = 0 then packL l t.toNat else []) := by
  have hv1 := h.one
  have hck := fun w2 (e : Ex w w2) => checkList_any v l t w2 (Prs.ex e h)
  by_cases hc : lErr l t = 0
  · obtain ⟨hb, h0, h2⟩ := lErr_inv hc
    obtain ⟨h1, hbd⟩ := bErr_inv hb
    obtain ⟨n, hn⟩ : ∃ n : Nat, t = n := ⟨t.toNat, by omega⟩
    subst hn
    rw [hc] at hck ⊢
    rw [if_pos rfl, Int.toNat_natCast]
    have hmo := fun w2 (e : Ex w w2) => least_any v l n w2 (Prs.ex e h) hb (by omega)
    have hin := fun u w2 (hu : Row p3 3 w2 u (bestL (packF l) highC n)) => indices_any u _ (packK l) n w2 hu (bestL_len _ _ n) (by omega) (fun i hi => bestL_get _ _ _ _ hi) (pack_okP hbd n)
    refine ret_of_c Try.func19 rfl Try.ntmps19 (Nat.le_of_ble_eq_true rfl) (by dsimp only [ini, Nat.reduceAdd] <;> exact rfl) ?_
    repeat' (first
        | ((with_reducible apply c_cond_dec); exact rfl; intro _; rotate_left 1; intro _; (all_goals (try (exfalso; (focus (omega; done))))))
        | ((first | ((with_reducible apply W_op); exact rfl; exact rfl)); (first | ((with_reducible apply r_move); ((conv => lhs; whnf) <;> exact rfl)) | ((with_reducible apply r_assign); ((conv => lhs; whnf) <;> exact rfl)) | ((with_reducible apply r_neq); exact rfl; exact rfl) | ((with_reducible apply r_build1); ((conv => lhs; whnf) <;> exact rfl); (first | exact rfl | assumption | exact IntsK.one (by assumption) | exact Prs.one (by assumption) | exact OwnP.one (by assumption) | exact Own.one (by assumption) | exact Row.one (by assumption) | exact OwnR.one (by assumption)); exact rfl; exact rfl; ((simp only [lay, lset, List.replicate_succ, List.replicate_zero]) <;> exact rfl))))
        | (refine W_callv (hck _ (by repeat (first | assumption | exact Ex.refl _ | (refine Ex.trans ?_ (by assumption)) | (refine Ex.of_grown ?_ (by assumption) (by intro k hk; cases hk; omega))))) rfl (fun wq he => ?_); have hsz := he.size)
        | (refine W_call (hmo _ (by repeat (first | assumption | exact Ex.refl _ | (refine Ex.trans ?_ (by assumption)) | (refine Ex.of_grown ?_ (by assumption) (by intro k hk; cases hk; omega))))) rfl ?_; rintro vq wq hownR he; have hsz := he.size; have ho1 := OwnR.one hownR; have hrow := OwnR.row p3_len hownR)
        | (refine W_call (hin _ _ hrow) rfl ?_; rintro vq wq hown he; have hsz := he.size; have ho2 := hown.one)
        | (with_reducible apply W_nil)
        | (with_reducible apply c_seq)
        | ((with_reducible apply c_region); kernel_rfl)
        | (with_reducible apply n_nq)
        | (with_reducible apply c_skip)
        | (with_reducible apply c_ret)
        | (with_reducible apply n_then)
        | ((with_reducible apply p_ret2); exact rfl; exact rfl; ((conv => lhs; whnf) <;> exact rfl); ((conv => lhs; whnf) <;> exact rfl); refine ⟨_, rfl, ?_, (by repeat (first | assumption | exact Ex.refl _ | (refine Ex.trans ?_ (by assumption)) | (refine Ex.of_grown ?_ (by assumption) (by intro k hk; cases hk; omega))))⟩))
    all_goals first | exact ⟨_, rfl, Pv.Own.lower hown (by omega)⟩ | trace_state
  · rw [if_neg hc]
    obtain ⟨e, hee⟩ : ∃ e, e = lErr l t := ⟨_, rfl⟩
    rw [← hee] at hck hc ⊢
    refine ret_of_c Try.func19 rfl Try.ntmps19 (Nat.le_of_ble_eq_true rfl) (by dsimp only [ini, Nat.reduceAdd] <;> exact rfl) ?_
    repeat' (first
        | ((with_reducible apply c_cond_dec); exact rfl; intro _; rotate_left 1; intro _; (all_goals (try (exfalso; (focus (omega; done))))))
        | ((first | ((with_reducible apply W_op); exact rfl; exact rfl)); (first | ((with_reducible apply r_move); ((conv => lhs; whnf) <;> exact rfl)) | ((with_reducible apply r_assign); ((conv => lhs; whnf) <;> exact rfl)) | ((with_reducible apply r_neq); exact rfl; exact rfl)))
        | (refine W_callv (hck _ (by repeat (first | assumption | exact Ex.refl _ | (refine Ex.trans ?_ (by assumption)) | (refine Ex.of_grown ?_ (by assumption) (by intro k hk; cases hk; omega))))) rfl (fun wq he => ?_); have hsz := he.size)
        | (with_reducible apply W_nil)
        | (with_reducible apply c_seq)
        | ((with_reducible apply c_region); kernel_rfl)
        | (with_reducible apply n_nq)
        | (with_reducible apply c_ret)
        | (with_reducible apply n_then)
        | (with_reducible apply r_then)
        | ((with_reducible apply p_ret2); exact rfl; exact rfl; ((conv => lhs; whnf) <;> exact rfl); ((conv => lhs; whnf) <;> exact rfl); refine ⟨_, rfl, ?_, (by repeat (first | assumption | exact Ex.refl _ | (refine Ex.trans ?_ (by assumption)) | (refine Ex.of_grown ?_ (by assumption) (by intro k hk; cases hk; omega))))⟩))
    all_goals first | exact ⟨_, rfl, Pv.Own.nil _ _ _⟩ | trace_state
end Go.Proofs.Ytlphfobpheefkaa
