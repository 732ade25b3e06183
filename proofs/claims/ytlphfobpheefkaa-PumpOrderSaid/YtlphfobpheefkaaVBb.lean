/-
  (heavy) (rows) What this text proves: Worst answers as the plain functions say. Conditions: the values read as lists. whether lists are equally long, and numbers amounts, is reported as the plain functions say. Conditions: the values read as lists.
-/
import Derived.Test.YtlphfobpheefkaaVAz
set_option linter.unusedVariables false
set_option linter.unusedSimpArgs false
namespace Go.Pv
open Go.RowKit Go.Sort
theorem gl_over (D R : List Int) : ∀ k, ∃ n : Nat, (glTo D R k).2 = n ∧ n ≤ k - 1
  | 0 => ⟨0, rfl, Nat.zero_le _⟩
  | k + 1 => by
    by_cases h : (glTo D R k).1 < D.getD k 0 - R.getD k 0
    · rw [gl_yes h]; exact ⟨k, rfl, by omega⟩
    · rw [gl_no h]
      obtain ⟨n, h1, h2⟩ := gl_over D R k
      exact ⟨n, h1, by omega⟩
theorem dropL_over (pls rs : List (List (Int × Int))) {n : Nat} (hn : n ≤ 200) : ∃ k : Nat, (dropL pls rs n).2 = k ∧ k ≤ 200 := by
  unfold dropL
  obtain ⟨k, h1, h2⟩ := gl_over ((List.range (n + 1)).map (dmN pls)) ((List.range (n + 1)).map (rwTo rs rs.length)) (n + 1)
  exact ⟨k, h1, by omega⟩
end Go.Pv
namespace Go.Proofs.Ytlphfobpheefkaa
open Go.Pv Go.RowKit Go.Sort
set_option maxHeartbeats 8000000
set_option maxRecDepth 20000
theorem Worst_any (pv rv : Value) (us vs : List Value) (pls rs : List (List (Int × Int))) (t : Int) (w : World) (h : Vals w pv us) (hx : BLs w us pls) (h2 : Vals w rv vs) (hx2 : BLs w vs rs) : Ret Try.prog 33 [.agg #[pv, rv], .int .i64 t] w fun r w' => ∃ dv cv, r = .tuple #[.agg #[dv, cv], .int .i64 (ptErr pls rs t)] ∧
    ((ptErr pls rs t ≠ 0 ∧ dv = .slice none 0 0 ∧ cv = .slice none 0 0) ∨ (ptErr pls rs t = 0 ∧ ∃ ds cs, WorstAt w.heap.size w' pls rs (dropL pls rs t.toNat).2.toNat dv cv ds cs)) := by
  have hp1 := h.one
  have hr1 := h2.one
  have hdr := fun w2 (e : Ex w w2) => Drop_any pv rv us vs pls rs t w2 (Vals.ex e h) (BLs.ex e hx) (Vals.ex e h2) (BLs.ex e hx2)
  by_cases hc : ptErr pls rs t = 0
  · obtain ⟨hpe, h0, h200⟩ := ptErr_inv hc
    obtain ⟨hl1, hl2, hb1, hb2⟩ := pErr_inv hpe
    rw [hc] at hdr ⊢
    simp only [if_true] at hdr
    obtain ⟨dp, hdp⟩ : ∃ q, (dropL pls rs t.toNat).1 = q := ⟨_, rfl⟩
    obtain ⟨n, hnq⟩ : ∃ n : Nat, (dropL pls rs t.toNat).2 = n ∧ n ≤ 200 := dropL_over pls rs (by omega)
    rw [hdp, hnq.1] at hdr
    rw [hnq.1, Int.toNat_natCast]
    have hn200 := hnq.2
    have hwo := fun w2 (e : Ex w w2) => worst_any pv rv us vs pls rs n w2 (Vals.ex e h) (BLs.ex e hx) (Vals.ex e h2) (BLs.ex e hx2) hb1 hb2 (by omega) (by omega) (by omega)
    clear hnq
    have tkA : True := trivial
    refine ret_of_c Try.func33 rfl Try.ntmps33 (Nat.le_of_ble_eq_true rfl) (by dsimp only [ini, Nat.reduceAdd] <;> exact rfl) ?_
    repeat' (first
        | ((with_reducible apply c_cond_dec); exact rfl; intro _; rotate_left 1; intro _; (all_goals (try (exfalso; (focus (omega; done))))))
        | (clear tkA; refine W_call (hwo _ (by repeat (first | assumption | exact Ex.refl _ | (refine Ex.trans ?_ (by assumption)) | (refine Ex.of_grown ?_ (by assumption) (by intro k hk; cases hk; omega))))) rfl ?_; rintro vq wq ⟨dv, cv, ds, cs, rfl, hwst⟩ he; (have hdv1 := hwst.1.1.one); (have hcv1 := hwst.2.1.1.one); have hsz := he.size)
        | ((first | ((with_reducible apply W_op); exact rfl; exact rfl)); (first | ((with_reducible apply r_move); ((conv => lhs; whnf) <;> exact rfl)) | ((with_reducible apply r_assign); ((conv => lhs; whnf) <;> exact rfl)) | ((with_reducible apply r_loadA); exact rfl; (first | assumption | exact Bx.cells (by repeat (first | assumption | ((with_reducible apply Bx.grownS); assumption; (first | omega | exact Bx.ne (by assumption) (by omega))) | ((with_reducible apply Bx.below); assumption; omega) | ((with_reducible apply Bx.ex); assumption))) | exact Cells.ex (by assumption) (by assumption)); exact rfl) | ((with_reducible apply r_neq); exact rfl; exact rfl) | ((with_reducible apply r_extract); exact rfl; exact rfl)))
        | (refine W_callv (hdr _ (by repeat (first | assumption | exact Ex.refl _ | (refine Ex.trans ?_ (by assumption)) | (refine Ex.of_grown ?_ (by assumption) (by intro k hk; cases hk; omega))))) rfl (fun wq he => ?_); have hsz := he.size)
        | (with_reducible apply W_nil)
        | ((with_reducible apply W_box); exact rfl; exact rfl; intro bq wq hbq he hnq; have hltq := Bx.lt hbq; have hsz := he.size)
        | ((with_reducible apply W_alloc); exact rfl; intro bq wq hbq he hnq; have hltq := Bx.lt hbq; have hsz := he.size)
        | ((with_reducible apply W_storeA); exact rfl; (focus ((repeat (first | assumption | ((with_reducible apply Bx.grownS); assumption; (first | omega | exact Bx.ne (by assumption) (by omega))) | ((with_reducible apply Bx.below); assumption; omega) | ((with_reducible apply Bx.ex); assumption))); done)); exact rfl; exact rfl; exact rfl; (repeat' (first | exact trivial | (first | exact rfl | assumption | exact IntsK.one (by assumption) | exact Prs.one (by assumption) | exact OwnP.one (by assumption) | exact Own.one (by assumption) | exact Row.one (by assumption) | exact OwnR.one (by assumption)) | constructor)); intro wq hbq hgq; have he : Ex w wq := (by repeat (first | assumption | exact Ex.refl _ | (refine Ex.trans ?_ (by assumption)) | (refine Ex.of_grown ?_ (by assumption) (by intro k hk; cases hk; omega)))); have hsz := he.size; have hgz := hgq.size)
        | (with_reducible apply c_seq)
        | ((with_reducible apply c_region); kernel_rfl)
        | (with_reducible apply n_nq)
        | (with_reducible apply c_skip)
        | (with_reducible apply c_ret)
        | (with_reducible apply n_then)
        | ((with_reducible apply p_retct); exact rfl; exact rfl; exact inferInstance; exact inferInstance; exact rfl; (focus ((repeat (first | assumption | ((with_reducible apply Bx.grownS); assumption; (first | omega | exact Bx.ne (by assumption) (by omega))) | ((with_reducible apply Bx.below); assumption; omega) | ((with_reducible apply Bx.ex); assumption))); done)); exact rfl; exact rfl; refine ⟨_, rfl, ?_, (by repeat (first | assumption | exact Ex.refl _ | (refine Ex.trans ?_ (by assumption)) | (refine Ex.of_grown ?_ (by assumption) (by intro k hk; cases hk; omega))))⟩))
    exact ⟨dv, cv, rfl, .inr ⟨rfl, ds, cs, (hwst.grown hgq (by omega)).mono (by omega)⟩⟩
  · obtain ⟨e, hee⟩ : ∃ e, e = ptErr pls rs t := ⟨_, rfl⟩
    rw [← hee] at hdr hc ⊢
    rw [if_neg hc, if_neg hc] at hdr
    refine ret_of_c Try.func33 rfl Try.ntmps33 (Nat.le_of_ble_eq_true rfl) (by dsimp only [ini, Nat.reduceAdd] <;> exact rfl) ?_
    repeat' (first
        | ((with_reducible apply c_cond_dec); exact rfl; intro _; rotate_left 1; intro _; (all_goals (try (exfalso; (focus (omega; done))))))
        | ((first | ((with_reducible apply W_op); exact rfl; exact rfl)); (first | ((with_reducible apply r_move); ((conv => lhs; whnf) <;> exact rfl)) | ((with_reducible apply r_assign); ((conv => lhs; whnf) <;> exact rfl)) | ((with_reducible apply r_loadA); exact rfl; (first | assumption | exact Bx.cells (by repeat (first | assumption | ((with_reducible apply Bx.grownS); assumption; (first | omega | exact Bx.ne (by assumption) (by omega))) | ((with_reducible apply Bx.below); assumption; omega) | ((with_reducible apply Bx.ex); assumption))) | exact Cells.ex (by assumption) (by assumption)); exact rfl) | ((with_reducible apply r_neq); exact rfl; exact rfl) | ((with_reducible apply r_extract); exact rfl; exact rfl) | ((with_reducible apply r_build0); exact rfl)))
        | (refine W_callv (hdr _ (by repeat (first | assumption | exact Ex.refl _ | (refine Ex.trans ?_ (by assumption)) | (refine Ex.of_grown ?_ (by assumption) (by intro k hk; cases hk; omega))))) rfl (fun wq he => ?_); have hsz := he.size)
        | (with_reducible apply W_nil)
        | ((with_reducible apply W_box); exact rfl; exact rfl; intro bq wq hbq he hnq; have hltq := Bx.lt hbq; have hsz := he.size)
        | ((with_reducible apply W_alloc); exact rfl; intro bq wq hbq he hnq; have hltq := Bx.lt hbq; have hsz := he.size)
        | ((with_reducible apply W_storeA); exact rfl; (focus ((repeat (first | assumption | ((with_reducible apply Bx.grownS); assumption; (first | omega | exact Bx.ne (by assumption) (by omega))) | ((with_reducible apply Bx.below); assumption; omega) | ((with_reducible apply Bx.ex); assumption))); done)); exact rfl; exact rfl; exact rfl; (repeat' (first | exact trivial | (first | exact rfl | assumption | exact IntsK.one (by assumption) | exact Prs.one (by assumption) | exact OwnP.one (by assumption) | exact Own.one (by assumption) | exact Row.one (by assumption) | exact OwnR.one (by assumption)) | constructor)); intro wq hbq hgq; have he : Ex w wq := (by repeat (first | assumption | exact Ex.refl _ | (refine Ex.trans ?_ (by assumption)) | (refine Ex.of_grown ?_ (by assumption) (by intro k hk; cases hk; omega)))); have hsz := he.size; have hgz := hgq.size)
        | (with_reducible apply c_seq)
        | ((with_reducible apply c_region); kernel_rfl)
        | (with_reducible apply n_nq)
        | (with_reducible apply c_ret)
        | (with_reducible apply n_then)
        | (with_reducible apply r_then)
        | ((with_reducible apply p_retct); exact rfl; exact rfl; exact inferInstance; exact inferInstance; exact rfl; (focus ((repeat (first | assumption | ((with_reducible apply Bx.grownS); assumption; (first | omega | exact Bx.ne (by assumption) (by omega))) | ((with_reducible apply Bx.below); assumption; omega) | ((with_reducible apply Bx.ex); assumption))); done)); exact rfl; exact rfl; refine ⟨_, rfl, ?_, (by repeat (first | assumption | exact Ex.refl _ | (refine Ex.trans ?_ (by assumption)) | (refine Ex.of_grown ?_ (by assumption) (by intro k hk; cases hk; omega))))⟩))
    exact ⟨_, _, rfl, .inl ⟨hc, rfl, rfl⟩⟩
end Go.Proofs.Ytlphfobpheefkaa
namespace Go.Pv
open Go.RowKit Go.Sort
/-- The first k lists have n numbers each. -/
def lenTo (A : Nat → List Int) (n k : Nat) : Prop := ∀ j, j < k → (A j).length = n
/-- The first k numbers are amounts. -/
def amtTo (xs : List Int) (k : Nat) : Prop := ∀ j, j < k → 0 ≤ xs.getD j 0 ∧ xs.getD j 0 ≤ 1000000
theorem lenTo_next {A : Nat → List Int} {n k : Nat} (h : lenTo A n k) (h2 : (A k).length = n) : lenTo A n (k + 1) := fun j hj => by
  rcases Nat.lt_succ_iff_lt_or_eq.1 hj with h1 | rfl
  · exact h j h1
  · exact h2
theorem amtTo_next {xs : List Int} {k : Nat} (h : amtTo xs k) (h2 : 0 ≤ xs.getD k 0 ∧ xs.getD k 0 ≤ 1000000) : amtTo xs (k + 1) := fun j hj => by
  rcases Nat.lt_succ_iff_lt_or_eq.1 hj with h1 | rfl
  · exact h j h1
  · exact h2
end Go.Pv
namespace Go.Proofs.Ytlphfobpheefkaa
open Go.Pv Go.RowKit Go.Sort
set_option maxHeartbeats 8000000
set_option maxRecDepth 20000
theorem len1_any (v : Value) (xs : List Int) (n b : Nat) (w : World) (h : Ints w v xs) (hb : Bx w b [.int .i64 (n : Int)] 3) : Ret Try.prog 73 [v, .pointer (some ⟨b, 0, none⟩)] w fun r _ => r = .bool (decide (¬ xs.length = n)) := by
  have hv1 := h.one
  refine ret_of_c Try.func73 rfl Try.ntmps73 (Nat.le_of_ble_eq_true rfl) (by dsimp only [ini, Nat.reduceAdd] <;> exact rfl) ?_
  repeat' (first
      | ((with_reducible apply W_op); exact rfl; exact rfl; exact r_lenInts rfl (IntsK.ex (show Ex w _ from (by repeat (first | exact Ex.refl _ | assumption | (refine Ex.of_grown ?_ (by assumption) (by intro k hk; cases hk; omega)) | (refine Ex.trans ?_ (by assumption))))) h))
      | ((first | ((with_reducible apply W_op); exact rfl; exact rfl)); (first | ((with_reducible apply r_move); ((conv => lhs; whnf) <;> exact rfl)) | ((with_reducible apply r_assign); ((conv => lhs; whnf) <;> exact rfl)) | ((with_reducible apply r_load); exact rfl; exact rfl; (first | assumption | exact (Bx.cell (by repeat (first | assumption | ((with_reducible apply Bx.grownS); assumption; (first | omega | exact Bx.ne (by assumption) (by omega))) | ((with_reducible apply Bx.below); assumption; omega) | ((with_reducible apply Bx.ex); assumption))) _).trans rfl | exact Ex.cell (by assumption) (by assumption))) | ((with_reducible apply r_neq); exact rfl; exact rfl)))
      | (with_reducible apply W_nil)
      | (with_reducible apply c_seq)
      | ((with_reducible apply c_region); kernel_rfl)
      | (with_reducible apply n_nq)
      | (with_reducible apply c_ret)
      | (with_reducible apply n_then)
      | ((with_reducible apply p_ret1); exact rfl; exact rfl; ((conv => lhs; whnf) <;> exact rfl); refine ⟨_, rfl, ?_, (by repeat (first | assumption | exact Ex.refl _ | (refine Ex.trans ?_ (by assumption)) | (refine Ex.of_grown ?_ (by assumption) (by intro k hk; cases hk; omega))))⟩))
  all_goals first
    | (refine congrArg Value.bool ?_; rw [decide_eq_decide]; omega)
    | trace_state
theorem amt1_any (a : Int) (w : World) : Ret Try.prog 75 [.int .i64 a] w fun r _ => r = .bool (decide (¬ (0 ≤ a ∧ a ≤ 1000000))) := by
  refine ret_of_c Try.func75 rfl Try.ntmps75 (Nat.le_of_ble_eq_true rfl) (by dsimp only [ini, Nat.reduceAdd] <;> exact rfl) ?_
  repeat' (first
      | ((first | ((with_reducible apply W_op); exact rfl; exact rfl)); (first | ((with_reducible apply r_move); ((conv => lhs; whnf) <;> exact rfl)) | ((with_reducible apply r_assign); ((conv => lhs; whnf) <;> exact rfl)) | ((with_reducible apply r_not); exact rfl)))
      | (refine W_callv (isAmount_any a _) rfl (fun wq he => ?_); have hsz := he.size)
      | (with_reducible apply W_nil)
      | (with_reducible apply c_seq)
      | ((with_reducible apply c_region); kernel_rfl)
      | (with_reducible apply n_nq)
      | (with_reducible apply c_ret)
      | (with_reducible apply n_then)
      | ((with_reducible apply p_ret1); exact rfl; exact rfl; ((conv => lhs; whnf) <;> exact rfl); refine ⟨_, rfl, ?_, (by repeat (first | assumption | exact Ex.refl _ | (refine Ex.trans ?_ (by assumption)) | (refine Ex.of_grown ?_ (by assumption) (by intro k hk; cases hk; omega))))⟩))
  all_goals first
    | rfl
    | (refine congrArg Value.bool ?_; simp; done)
    | trace_state
theorem idxLen_any (lv : Value) (us : List Value) (A : Nat → List Int) (n b : Nat) (w : World) (h : Vals w lv us) (hA : ∀ j, j < us.length → Ints w (us.getD j undef) (A j)) (hb : Bx w b [.int .i64 (n : Int)] 3) (hl : us.length ≤ 900) :
    Ret Try.prog 92 [lv, .func (.func 73) #[] #[.pointer (some ⟨b, 0, none⟩)]] w fun r _ => ∃ m : Int, r = .int .i64 m ∧ (m ≥ 0 ↔ ¬ lenTo A n us.length) := by
  have hv1 := h.one
  have tkA : True := trivial
  refine ret_of_c Try.func92 rfl Try.ntmps92 (Nat.le_of_ble_eq_true rfl) (by dsimp only [ini, Nat.reduceAdd] <;> exact rfl) ?_
  repeat' (first
      | (clear tkB; (by_cases hkl : k < us.length; (have hak := hA k hkl; have hak1 := hak.one; (have hcl := fun w2 (e : Ex w w2) => len1_any (us.getD k undef) (A k) n b w2 (IntsK.ex e hak) (Bx.ex e hb)); by_cases hn : (A k).length = n; (simp only [hn, not_true_eq_false, decide_false] at hcl); rotate_left 1; (simp only [hn, not_false_eq_true, decide_true] at hcl))); all_goals (have tkC : True := trivial))
      | ((with_reducible apply W_op); exact rfl; exact rfl; exact r_lenVals rfl (Vals.ex (show Ex w _ from (by repeat (first | exact Ex.refl _ | assumption | (refine Ex.of_grown ?_ (by assumption) (by intro k hk; cases hk; omega)) | (refine Ex.trans ?_ (by assumption))))) h))
      | (have _ := tkC; (with_reducible apply c_cond_dec); exact rfl; intro _; rotate_left 1; intro _; (all_goals (try (exfalso; (focus (omega; done))))))
      | (have _ := tkC; refine W_indexVals (i := k) (v := lv) (xs := us) rfl (Vals.ex (show Ex w _ from (by repeat (first | exact Ex.refl _ | assumption | (refine Ex.of_grown ?_ (by assumption) (by intro k hk; cases hk; omega)) | (refine Ex.trans ?_ (by assumption))))) h) rfl (by omega) ?_; intro pq hpq)
      | (have _ := tkC; refine W_callf (first := []) (captured := [.pointer (some ⟨b, 0, none⟩)]) rfl (hcl _ (by repeat (first | assumption | exact Ex.refl _ | (refine Ex.trans ?_ (by assumption)) | (refine Ex.of_grown ?_ (by assumption) (by intro k hk; cases hk; omega))))) rfl ?_; rintro vq wq rfl he; have hsz := he.size)
      | ((with_reducible (show C _ _ _ _ _ _)); clear tkA; refine c_loopG (fun (k : Nat) ps wr => ∃ i : Int, ps = [(0, lv), (1, .func (.func 73) #[] #[.pointer (some ⟨b, 0, none⟩)]), (6, lv), (7, .int .i64 (us.length : Int)), (8, .int .i64 i)] ∧ i = k ∧ k ≤ us.length ∧ lenTo A n k ∧ Ex w wr) (fun k => us.length - k) 0 _ ⟨_, rfl, rfl, Nat.zero_le _, (fun j hj => absurd hj (Nat.not_lt_zero _)), (by repeat (first | assumption | exact Ex.refl _ | (refine Ex.trans ?_ (by assumption)) | (refine Ex.of_grown ?_ (by assumption) (by intro k hk; cases hk; omega))))⟩ ⟨rfl, rfl, rfl, rfl, rfl, trivial⟩ (by ((conv => lhs; whnf) <;> exact rfl)) (by ((conv => lhs; whnf) <;> exact rfl)) ?_; rintro J hJ k u ps wr ⟨i, rfl, rfl, hk, hall, he⟩; have hsz := he.size; have tkB : True := trivial)
      | ((first | ((with_reducible apply W_op); exact rfl; exact rfl)); (first | ((with_reducible apply r_move); ((conv => lhs; whnf) <;> exact rfl)) | ((with_reducible apply r_assign); ((conv => lhs; whnf) <;> exact rfl)) | ((with_reducible apply r_load); exact rfl; exact rfl; (first | assumption | exact (Bx.cell (by repeat (first | assumption | ((with_reducible apply Bx.grownS); assumption; (first | omega | exact Bx.ne (by assumption) (by omega))) | ((with_reducible apply Bx.below); assumption; omega) | ((with_reducible apply Bx.ex); assumption))) _).trans rfl | exact Ex.cell (by assumption) (by assumption))) | ((with_reducible apply r_lss); exact rfl; exact rfl) | ((with_reducible apply r_add); exact rfl; exact rfl; omega)))
      | ((with_reducible (show Exit.then _ _ _ _ _)); refine n_roundG (k + 1) (hJ _ _ _ _ ⟨_, rfl, by omega, by omega, lenTo_next hall hn, (by repeat (first | assumption | exact Ex.refl _ | (refine Ex.trans ?_ (by assumption)) | (refine Ex.of_grown ?_ (by assumption) (by intro k hk; cases hk; omega))))⟩ ⟨rfl, rfl, rfl, rfl, rfl, trivial⟩ rfl) (by omega))
      | (with_reducible apply W_nil)
      | (with_reducible apply c_seq)
      | ((with_reducible apply c_region); kernel_rfl)
      | (with_reducible apply n_nq)
      | (with_reducible apply c_block)
      | (with_reducible apply c_skip)
      | (with_reducible apply c_ret)
      | (with_reducible apply c_exit)
      | ((with_reducible apply c_cond_true); exact rfl)
      | ((with_reducible apply c_cond_false); exact rfl)
      | (with_reducible apply n_then)
      | (with_reducible apply n_block)
      | (with_reducible apply e_then)
      | (with_reducible apply e_block)
      | (with_reducible apply r_then)
      | (with_reducible apply r_block)
      | ((with_reducible apply p_ret1); exact rfl; exact rfl; ((conv => lhs; whnf) <;> exact rfl); refine ⟨_, rfl, ?_, (by repeat (first | assumption | exact Ex.refl _ | (refine Ex.trans ?_ (by assumption)) | (refine Ex.of_grown ?_ (by assumption) (by intro k hk; cases hk; omega))))⟩))
  all_goals first
    | exact ⟨-1, rfl, ⟨fun h => by omega, fun hn => absurd (fun j hj => hall j (by omega)) hn⟩⟩
    | exact ⟨_, rfl, ⟨fun _ hs => hn (hs k (by omega)), fun _ => by omega⟩⟩
    | trace_state
theorem conLen_any (lv : Value) (us : List Value) (A : Nat → List Int) (n b : Nat) (w : World) (h : Vals w lv us) (hA : ∀ j, j < us.length → Ints w (us.getD j undef) (A j)) (hb : Bx w b [.int .i64 (n : Int)] 3) (hl : us.length ≤ 900) :
    Ret Try.prog 72 [lv, .func (.func 73) #[] #[.pointer (some ⟨b, 0, none⟩)]] w fun r _ => ∃ q : Bool, r = .bool q ∧ (q = true ↔ ¬ lenTo A n us.length) := by
  have hv1 := h.one
  refine ret_of_c Try.func72 rfl Try.ntmps72 (Nat.le_of_ble_eq_true rfl) (by dsimp only [ini, Nat.reduceAdd] <;> exact rfl) ?_
  repeat' (first
      | ((first | ((with_reducible apply W_op); exact rfl; exact rfl)); (first | ((with_reducible apply r_move); ((conv => lhs; whnf) <;> exact rfl)) | ((with_reducible apply r_assign); ((conv => lhs; whnf) <;> exact rfl)) | ((with_reducible apply r_geq); exact rfl; exact rfl)))
      | (refine W_call (idxLen_any lv us A n b _ (Vals.ex (by repeat (first | assumption | exact Ex.refl _ | (refine Ex.trans ?_ (by assumption)) | (refine Ex.of_grown ?_ (by assumption) (by intro k hk; cases hk; omega)))) h) (fun j hj => IntsK.ex (by repeat (first | assumption | exact Ex.refl _ | (refine Ex.trans ?_ (by assumption)) | (refine Ex.of_grown ?_ (by assumption) (by intro k hk; cases hk; omega)))) (hA j hj)) (Bx.ex (by repeat (first | assumption | exact Ex.refl _ | (refine Ex.trans ?_ (by assumption)) | (refine Ex.of_grown ?_ (by assumption) (by intro k hk; cases hk; omega)))) hb) hl) rfl ?_; rintro vq wq ⟨m, rfl, hm⟩ he; have hsz := he.size)
      | (with_reducible apply W_nil)
      | (with_reducible apply c_seq)
      | ((with_reducible apply c_region); kernel_rfl)
      | (with_reducible apply n_nq)
      | (with_reducible apply c_ret)
      | (with_reducible apply n_then)
      | ((with_reducible apply p_ret1); exact rfl; exact rfl; ((conv => lhs; whnf) <;> exact rfl); refine ⟨_, rfl, ?_, (by repeat (first | assumption | exact Ex.refl _ | (refine Ex.trans ?_ (by assumption)) | (refine Ex.of_grown ?_ (by assumption) (by intro k hk; cases hk; omega))))⟩))
  all_goals first
    | exact ⟨_, rfl, by simpa using hm⟩
    | trace_state
theorem idxAmt_any (lv : Value) (xs : List Int) (w : World) (h : Ints w lv xs) :
    Ret Try.prog 53 [lv, .func (.func 75) #[] #[]] w fun r _ => ∃ m : Int, r = .int .i64 m ∧ (m ≥ 0 ↔ ¬ amtTo xs xs.length) := by
  have hv1 := h.one
  have hln := h.len
  have tkA : True := trivial
  refine ret_of_c Try.func53 rfl Try.ntmps53 (Nat.le_of_ble_eq_true rfl) (by dsimp only [ini, Nat.reduceAdd] <;> exact rfl) ?_
  repeat' (first
      | (clear tkB; (by_cases hkl : k < xs.length; ((have hcl := fun w2 => amt1_any (xs.getD k 0) w2); by_cases hn : 0 ≤ xs.getD k 0 ∧ xs.getD k 0 ≤ 1000000; (simp only [hn, not_true_eq_false, decide_false, and_self] at hcl); rotate_left 1; (simp only [hn, not_false_eq_true, decide_true] at hcl))); all_goals (have tkC : True := trivial))
      | ((with_reducible apply W_op); exact rfl; exact rfl; exact r_lenInts rfl (IntsK.ex (show Ex w _ from (by repeat (first | exact Ex.refl _ | assumption | (refine Ex.of_grown ?_ (by assumption) (by intro k hk; cases hk; omega)) | (refine Ex.trans ?_ (by assumption))))) h))
      | (have _ := tkC; (with_reducible apply c_cond_dec); exact rfl; intro _; rotate_left 1; intro _; (all_goals (try (exfalso; (focus (omega; done))))))
      | (have _ := tkC; refine W_indexInt (i := k) (v := lv) (xs := xs) rfl (IntsK.ex (show Ex w _ from (by repeat (first | exact Ex.refl _ | assumption | (refine Ex.of_grown ?_ (by assumption) (by intro k hk; cases hk; omega)) | (refine Ex.trans ?_ (by assumption))))) h) rfl (by omega) ?_; intro pq hpq)
      | (have _ := tkC; refine W_callf (first := []) (captured := []) rfl (hcl _) rfl ?_; rintro vq wq rfl he; have hsz := he.size)
      | ((with_reducible (show C _ _ _ _ _ _)); clear tkA; refine c_loopG (fun (k : Nat) ps wr => ∃ i : Int, ps = [(0, lv), (1, .func (.func 75) #[] #[]), (6, lv), (7, .int .i64 (xs.length : Int)), (8, .int .i64 i)] ∧ i = k ∧ k ≤ xs.length ∧ amtTo xs k ∧ Ex w wr) (fun k => xs.length - k) 0 _ ⟨_, rfl, rfl, Nat.zero_le _, (fun j hj => absurd hj (Nat.not_lt_zero _)), (by repeat (first | assumption | exact Ex.refl _ | (refine Ex.trans ?_ (by assumption)) | (refine Ex.of_grown ?_ (by assumption) (by intro k hk; cases hk; omega))))⟩ ⟨rfl, rfl, rfl, rfl, rfl, trivial⟩ (by ((conv => lhs; whnf) <;> exact rfl)) (by ((conv => lhs; whnf) <;> exact rfl)) ?_; rintro J hJ k u ps wr ⟨i, rfl, rfl, hk, hall, he⟩; have hsz := he.size; have tkB : True := trivial)
      | ((first | ((with_reducible apply W_op); exact rfl; exact rfl)); (first | ((with_reducible apply r_move); ((conv => lhs; whnf) <;> exact rfl)) | ((with_reducible apply r_assign); ((conv => lhs; whnf) <;> exact rfl)) | ((with_reducible apply r_load); exact rfl; exact rfl; (first | assumption | exact (Bx.cell (by repeat (first | assumption | ((with_reducible apply Bx.grownS); assumption; (first | omega | exact Bx.ne (by assumption) (by omega))) | ((with_reducible apply Bx.below); assumption; omega) | ((with_reducible apply Bx.ex); assumption))) _).trans rfl | exact Ex.cell (by assumption) (by assumption))) | ((with_reducible apply r_lss); exact rfl; exact rfl) | ((with_reducible apply r_add); exact rfl; exact rfl; omega)))
      | ((with_reducible (show Exit.then _ _ _ _ _)); refine n_roundG (k + 1) (hJ _ _ _ _ ⟨_, rfl, by omega, by omega, amtTo_next hall hn, (by repeat (first | assumption | exact Ex.refl _ | (refine Ex.trans ?_ (by assumption)) | (refine Ex.of_grown ?_ (by assumption) (by intro k hk; cases hk; omega))))⟩ ⟨rfl, rfl, rfl, rfl, rfl, trivial⟩ rfl) (by omega))
      | (with_reducible apply W_nil)
      | (with_reducible apply c_seq)
      | ((with_reducible apply c_region); kernel_rfl)
      | (with_reducible apply n_nq)
      | (with_reducible apply c_block)
      | (with_reducible apply c_skip)
      | (with_reducible apply c_ret)
      | (with_reducible apply c_exit)
      | ((with_reducible apply c_cond_true); exact rfl)
      | ((with_reducible apply c_cond_false); exact rfl)
      | (with_reducible apply n_then)
      | (with_reducible apply n_block)
      | (with_reducible apply e_then)
      | (with_reducible apply e_block)
      | (with_reducible apply r_then)
      | (with_reducible apply r_block)
      | ((with_reducible apply p_ret1); exact rfl; exact rfl; ((conv => lhs; whnf) <;> exact rfl); refine ⟨_, rfl, ?_, (by repeat (first | assumption | exact Ex.refl _ | (refine Ex.trans ?_ (by assumption)) | (refine Ex.of_grown ?_ (by assumption) (by intro k hk; cases hk; omega))))⟩))
  all_goals first
    | exact ⟨-1, rfl, ⟨fun h => by omega, fun hn => absurd (fun j hj => hall j (by omega)) hn⟩⟩
    | exact ⟨_, rfl, ⟨fun _ hs => hn (hs k (by omega)), fun _ => by omega⟩⟩
    | trace_state
theorem conAmt_any (lv : Value) (xs : List Int) (w : World) (h : Ints w lv xs) :
    Ret Try.prog 74 [lv, .func (.func 75) #[] #[]] w fun r _ => ∃ q : Bool, r = .bool q ∧ (q = true ↔ ¬ amtTo xs xs.length) := by
  have hv1 := h.one
  refine ret_of_c Try.func74 rfl Try.ntmps74 (Nat.le_of_ble_eq_true rfl) (by dsimp only [ini, Nat.reduceAdd] <;> exact rfl) ?_
  repeat' (first
      | ((first | ((with_reducible apply W_op); exact rfl; exact rfl)); (first | ((with_reducible apply r_move); ((conv => lhs; whnf) <;> exact rfl)) | ((with_reducible apply r_assign); ((conv => lhs; whnf) <;> exact rfl)) | ((with_reducible apply r_geq); exact rfl; exact rfl)))
      | (refine W_call (idxAmt_any lv xs _ (IntsK.ex (by repeat (first | assumption | exact Ex.refl _ | (refine Ex.trans ?_ (by assumption)) | (refine Ex.of_grown ?_ (by assumption) (by intro k hk; cases hk; omega)))) h)) rfl ?_; rintro vq wq ⟨m, rfl, hm⟩ he; have hsz := he.size)
      | (with_reducible apply W_nil)
      | (with_reducible apply c_seq)
      | ((with_reducible apply c_region); kernel_rfl)
      | (with_reducible apply n_nq)
      | (with_reducible apply c_ret)
      | (with_reducible apply n_then)
      | ((with_reducible apply p_ret1); exact rfl; exact rfl; ((conv => lhs; whnf) <;> exact rfl); refine ⟨_, rfl, ?_, (by repeat (first | assumption | exact Ex.refl _ | (refine Ex.trans ?_ (by assumption)) | (refine Ex.of_grown ?_ (by assumption) (by intro k hk; cases hk; omega))))⟩))
  all_goals first
    | exact ⟨_, rfl, by simpa using hm⟩
    | trace_state
end Go.Proofs.Ytlphfobpheefkaa
