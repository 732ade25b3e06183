/-
  (heavy) (rows) What this text proves: plants are checked as the plain definitions say. Conditions: the values read as lists.
-/
import Derived.Test.YtlphfobpheefkaaVAg
set_option linter.unusedVariables false
set_option linter.unusedSimpArgs false
namespace Go.Pv
open Go.RowKit Go.Sort
/-- A slice of slices of bounds. -/
def BLs (w : World) (us : List Value) (xs : List (List (Int × Int))) : Prop := us.length = xs.length ∧ ∀ i, i < us.length → Prs w (us.getD i undef) (xs.getD i [])
theorem BLs.ex {w w' : World} {us : List Value} {xs : List (List (Int × Int))} (e : Ex w w') (h : BLs w us xs) : BLs w' us xs := ⟨h.1, fun i hi => Prs.ex e (h.2 i hi)⟩
theorem BLs.one {w : World} {us : List Value} {xs : List (List (Int × Int))} (h : BLs w us xs) : ∀ q ∈ us, q.oneCell' = true := fun q hq => by
  obtain ⟨i, hi, rfl⟩ := List.getElem_of_mem hq
  have := (h.2 i hi).one
  simpa [List.getD, hi] using this
theorem BLs.app {w : World} {us vs : List Value} {xs ys : List (List (Int × Int))} (h : BLs w us xs) (h2 : BLs w vs ys) : BLs w (us ++ vs) (xs ++ ys) := by
  refine ⟨by simp [h.1, h2.1], fun i hi => ?_⟩
  by_cases h3 : i < us.length
  · have e1 : (us ++ vs).getD i undef = us.getD i undef := by simp only [List.getD]; rw [List.getElem?_append_left h3]
    have e2 : (xs ++ ys).getD i [] = xs.getD i [] := by simp only [List.getD]; rw [List.getElem?_append_left (by rw [← h.1]; exact h3)]
    rw [e1, e2]; exact h.2 i h3
  · have e1 : (us ++ vs).getD i undef = vs.getD (i - us.length) undef := by simp only [List.getD]; rw [List.getElem?_append_right (by omega)]
    have e2 : (xs ++ ys).getD i [] = ys.getD (i - us.length) [] := by simp only [List.getD]; rw [List.getElem?_append_right (by rw [← h.1]; omega), h.1]
    rw [e1, e2]
    rw [List.length_append] at hi
    exact h2.2 _ (by omega)
/-- The error of the first list of bounds with one. -/
def lsErr : List (List (Int × Int)) → Int
  | [] => 0
  | l :: r => if bErr l = 0 then lsErr r else bErr l
def lsTo (xs : List (List (Int × Int))) (k : Nat) : Prop := ∀ i, i < k → bErr (xs.getD i []) = 0
theorem lsErr_zero : ∀ {xs : List (List (Int × Int))}, lsTo xs xs.length → lsErr xs = 0
  | [], _ => rfl
  | l :: r, h => by
    have h0 := h 0 (by simp)
    simp only [lsErr]
    rw [if_pos (by simpa using h0)]
    exact lsErr_zero fun i hi => by simpa using h (i + 1) (by simp; omega)
theorem lsErr_at : ∀ {xs : List (List (Int × Int))} {k : Nat}, k < xs.length → lsTo xs k → bErr (xs.getD k []) ≠ 0 → lsErr xs = bErr (xs.getD k [])
  | l :: r, 0, _, _, h => by
    simp only [lsErr]
    have h2 : bErr l ≠ 0 := by simpa using h
    rw [if_neg h2]; simp
  | l :: r, k + 1, hk, ht, h => by
    have h0 := ht 0 (by omega)
    simp only [lsErr]
    rw [if_pos (by simpa using h0), lsErr_at (xs := r) (k := k) (by simpa using hk) (fun i hi => by simpa using ht (i + 1) (by omega)) (by simpa using h)]
    simp
theorem lsErr_inv : ∀ {xs : List (List (Int × Int))}, lsErr xs = 0 → lsTo xs xs.length
  | [], _ => fun i hi => absurd hi (by simp)
  | l :: r, h => by
    simp only [lsErr] at h
    split at h
    · next h0 =>
      intro i hi
      cases i with
      | zero => simpa using h0
      | succ i => simpa using lsErr_inv h i (by simpa using hi)
    · next h0 => exact absurd h h0
theorem lsTo_next {xs : List (List (Int × Int))} {k : Nat} (h : lsTo xs k) (h2 : bErr (xs.getD k []) = 0) : lsTo xs (k + 1) := fun i hi => by
  by_cases e : i = k
  · subst e; exact h2
  · exact h i (by omega)
/-- The error of a plant. -/
def pErr (ps rs : List (List (Int × Int))) : Int := if ps.length = 0 ∨ rs.length = 0 then 4 else if 3 < ps.length ∨ 3 < rs.length then 5 else lsErr (ps ++ rs)
def ptErr (ps rs : List (List (Int × Int))) (t : Int) : Int := if pErr ps rs = 0 then (if 0 ≤ t ∧ t ≤ 200 then 0 else 3) else pErr ps rs
theorem pErr_inv {ps rs : List (List (Int × Int))} (h : pErr ps rs = 0) : (1 ≤ ps.length ∧ ps.length ≤ 3) ∧ (1 ≤ rs.length ∧ rs.length ≤ 3) ∧ (∀ i, i < ps.length → bErr (ps.getD i []) = 0) ∧ ∀ i, i < rs.length → bErr (rs.getD i []) = 0 := by
  unfold pErr at h
  split at h
  · omega
  · split at h
    · omega
    · have h2 := lsErr_inv h
      refine ⟨by omega, by omega, fun i hi => ?_, fun i hi => ?_⟩
      · have := h2 i (by rw [List.length_append]; omega)
        have e2 : (ps ++ rs).getD i [] = ps.getD i [] := by simp only [List.getD]; rw [List.getElem?_append_left hi]
        rwa [e2] at this
      · have := h2 (ps.length + i) (by rw [List.length_append]; omega)
        have e2 : (ps ++ rs).getD (ps.length + i) [] = rs.getD i [] := by simp only [List.getD]; rw [List.getElem?_append_right (by omega), show ps.length + i - ps.length = i by omega]
        rwa [e2] at this
end Go.Pv
namespace Go.Proofs.Ytlphfobpheefkaa
open Go.Pv Go.RowKit Go.Sort
set_option maxHeartbeats 8000000
set_option maxRecDepth 20000
theorem checkLists_any (v : Value) (us : List Value) (xs : List (List (Int × Int))) (w : World) (h : Vals w v us) (hx : BLs w us xs) : Ret Try.prog 69 [v] w fun r _ => r = .int .i64 (lsErr xs) := by
  have hv1 := h.one
  have hln := h.len
  have hxl := hx.1
  have tkA : True := trivial
  refine ret_of_c Try.func69 rfl Try.ntmps69 (Nat.le_of_ble_eq_true rfl) (by dsimp only [ini, Nat.reduceAdd] <;> exact rfl) ?_
  repeat' (first
      | (clear tkB; (by_cases hkl : k < us.length; (have hpk := hx.2 k hkl); (have hpk1 := hpk.one); (have hcb := fun w2 (e : Ex w w2) => CheckBounds_any (us.getD k undef) (xs.getD k []) w2 (Prs.ex e hpk)); (obtain ⟨e0, he0⟩ : ∃ q, bErr (xs.getD k []) = q := ⟨_, rfl⟩); rw [he0] at hcb; by_cases hb0 : e0 = 0); all_goals (have tkC : True := trivial))
      | ((with_reducible apply W_op); exact rfl; exact rfl; exact r_lenVals rfl (Vals.ex (show Ex w _ from (by repeat (first | exact Ex.refl _ | assumption | (refine Ex.of_grown ?_ (by assumption) (by intro k hk; cases hk; omega)) | (refine Ex.trans ?_ (by assumption))))) h))
      | ((with_reducible apply c_cond_dec); exact rfl; intro _; rotate_left 1; intro _; (all_goals (try (exfalso; (focus (omega; done))))))
      | (have _ := tkC; refine W_indexVals (i := k) (v := v) (xs := us) rfl (Vals.ex (show Ex w _ from (by repeat (first | exact Ex.refl _ | assumption | (refine Ex.of_grown ?_ (by assumption) (by intro k hk; cases hk; omega)) | (refine Ex.trans ?_ (by assumption))))) h) rfl (by omega) ?_; intro pq hpq)
      | ((with_reducible (show C _ _ _ _ _ _)); clear tkA; refine c_loopG (fun (k : Nat) ps wr => ∃ i : Int, ps = [(6, v), (7, .int .i64 (us.length : Int)), (8, .int .i64 i)] ∧ i = k ∧ k ≤ us.length ∧ lsTo xs k ∧ Ex w wr) (fun k => us.length - k) 0 _ ⟨_, rfl, rfl, Nat.zero_le _, (fun i hi => absurd hi (Nat.not_lt_zero _)), (by repeat (first | assumption | exact Ex.refl _ | (refine Ex.trans ?_ (by assumption)) | (refine Ex.of_grown ?_ (by assumption) (by intro k hk; cases hk; omega))))⟩ ⟨rfl, rfl, rfl, trivial⟩ (by ((conv => lhs; whnf) <;> exact rfl)) (by ((conv => lhs; whnf) <;> exact rfl)) ?_; rintro J hJ k u ps wr ⟨i, rfl, rfl, hk, hlt, he⟩; have hsz := he.size; have tkB : True := trivial)
      | ((first | ((with_reducible apply W_op); exact rfl; exact rfl)); (first | ((with_reducible apply r_move); ((conv => lhs; whnf) <;> exact rfl)) | ((with_reducible apply r_assign); ((conv => lhs; whnf) <;> exact rfl)) | ((with_reducible apply r_load); exact rfl; exact rfl; (first | assumption | exact (Bx.cell (by repeat (first | assumption | ((with_reducible apply Bx.grownS); assumption; (first | omega | exact Bx.ne (by assumption) (by omega))) | ((with_reducible apply Bx.below); assumption; omega) | ((with_reducible apply Bx.ex); assumption))) _).trans rfl | exact Ex.cell (by assumption) (by assumption))) | ((with_reducible apply r_lss); exact rfl; exact rfl) | ((with_reducible apply r_neq); exact rfl; exact rfl) | ((with_reducible apply r_add); exact rfl; exact rfl; omega)))
      | (refine W_callv (hcb _ (by repeat (first | assumption | exact Ex.refl _ | (refine Ex.trans ?_ (by assumption)) | (refine Ex.of_grown ?_ (by assumption) (by intro k hk; cases hk; omega))))) rfl (fun wq he => ?_); have hsz := he.size)
      | ((with_reducible (show Exit.then _ _ _ _ _)); refine n_roundG (k + 1) (hJ _ _ _ _ ⟨_, rfl, by omega, by omega, lsTo_next hlt (by omega), (by repeat (first | assumption | exact Ex.refl _ | (refine Ex.trans ?_ (by assumption)) | (refine Ex.of_grown ?_ (by assumption) (by intro k hk; cases hk; omega))))⟩ ⟨rfl, rfl, rfl, trivial⟩ rfl) (by omega))
      | (with_reducible apply W_nil)
      | (with_reducible apply c_seq)
      | ((with_reducible apply c_region); kernel_rfl)
      | (with_reducible apply n_nq)
      | (with_reducible apply c_block)
      | (with_reducible apply c_skip)
      | (with_reducible apply c_ret)
      | (with_reducible apply c_exit)
      | (with_reducible apply n_then)
      | (with_reducible apply n_block)
      | (with_reducible apply e_then)
      | (with_reducible apply e_block)
      | (with_reducible apply r_then)
      | (with_reducible apply r_block)
      | ((with_reducible apply p_ret1); exact rfl; exact rfl; ((conv => lhs; whnf) <;> exact rfl); refine ⟨_, rfl, ?_, (by repeat (first | assumption | exact Ex.refl _ | (refine Ex.trans ?_ (by assumption)) | (refine Ex.of_grown ?_ (by assumption) (by intro k hk; cases hk; omega))))⟩))
  all_goals first
    | exact congrArg _ (lsErr_zero (by rw [show xs.length = k by omega]; exact hlt)).symm
    | exact congrArg _ ((lsErr_at (xs := xs) (k := k) (by omega) hlt (by omega)).trans he0).symm
    | trace_state
theorem Check_any (pv rv : Value) (us vs : List Value) (ps rs : List (List (Int × Int))) (w : World) (h : Vals w pv us) (hx : BLs w us ps) (h2 : Vals w rv vs) (hx2 : BLs w vs rs) : Ret Try.prog 50 [.agg #[pv, rv]] w fun r _ => r = .int .i64 (pErr ps rs) := by
  have hp1 := h.one
  have hr1 := h2.one
  have hlu := hx.1
  have hlv := hx2.1
  by_cases h0 : ps.length = 0 ∨ rs.length = 0
  · have hres : pErr ps rs = 4 := by unfold pErr; rw [if_pos h0]
    rw [hres]
    refine ret_of_c Try.func50 rfl Try.ntmps50 (Nat.le_of_ble_eq_true rfl) (by dsimp only [ini, Nat.reduceAdd] <;> exact rfl) ?_
    repeat' (first
        | ((with_reducible apply W_op); exact rfl; exact rfl; first | exact r_lenVals rfl (Vals.ex (show Ex w _ from (by repeat (first | exact Ex.refl _ | assumption | (refine Ex.of_grown ?_ (by assumption) (by intro k hk; cases hk; omega)) | (refine Ex.trans ?_ (by assumption))))) h) | exact r_lenVals rfl (Vals.ex (show Ex w _ from (by repeat (first | exact Ex.refl _ | assumption | (refine Ex.of_grown ?_ (by assumption) (by intro k hk; cases hk; omega)) | (refine Ex.trans ?_ (by assumption))))) h2))
        | ((with_reducible apply W_split); exact rfl; exact rfl; intro _; rotate_left 1; intro hsx; (all_goals (try (exfalso; (focus (first | exact hsx rfl | omega; done))))))
        | ((with_reducible apply c_cond_dec); exact rfl; intro _; rotate_left 1; intro _; (all_goals (try (exfalso; (focus (omega; done))))))
        | ((first | ((with_reducible apply W_op); exact rfl; exact rfl)); (first | ((with_reducible apply r_move); ((conv => lhs; whnf) <;> exact rfl)) | ((with_reducible apply r_assign); ((conv => lhs; whnf) <;> exact rfl)) | ((with_reducible apply r_fieldAddr); exact rfl) | ((with_reducible apply r_load); exact rfl; exact rfl; (first | assumption | exact (Bx.cell (by repeat (first | assumption | ((with_reducible apply Bx.grownS); assumption; (first | omega | exact Bx.ne (by assumption) (by omega))) | ((with_reducible apply Bx.below); assumption; omega) | ((with_reducible apply Bx.ex); assumption))) _).trans rfl | exact Ex.cell (by assumption) (by assumption))) | ((with_reducible apply r_eql); exact rfl; exact rfl) | ((with_reducible apply r_pick_true); exact rfl; ((conv => lhs; whnf) <;> exact rfl)) | ((with_reducible apply r_pick_false); exact rfl; ((conv => lhs; whnf) <;> exact rfl))))
        | (with_reducible apply W_nil)
        | ((with_reducible apply W_box); exact rfl; exact rfl; intro bq wq hbq he hnq; have hltq := Bx.lt hbq; have hsz := he.size)
        | ((with_reducible apply W_pass); exact rfl; exact rfl; exact rfl; exact rfl; exact rfl)
        | ((with_reducible apply W_take); exact rfl; exact rfl; exact rfl)
        | (with_reducible apply c_seq)
        | ((with_reducible apply c_region); kernel_rfl)
        | (with_reducible apply n_nq)
        | (with_reducible apply c_block)
        | (with_reducible apply c_ret)
        | ((with_reducible apply c_cond_true); exact rfl)
        | (with_reducible apply n_then)
        | (with_reducible apply r_then)
        | (with_reducible apply r_block)
        | ((with_reducible apply p_ret1); exact rfl; exact rfl; ((conv => lhs; whnf) <;> exact rfl); refine ⟨_, rfl, ?_, (by repeat (first | assumption | exact Ex.refl _ | (refine Ex.trans ?_ (by assumption)) | (refine Ex.of_grown ?_ (by assumption) (by intro k hk; cases hk; omega))))⟩))
    all_goals first | rfl | trace_state
  by_cases h5 : 3 < ps.length ∨ 3 < rs.length
  · have hres : pErr ps rs = 5 := by unfold pErr; rw [if_neg h0, if_pos h5]
    rw [hres]
    refine ret_of_c Try.func50 rfl Try.ntmps50 (Nat.le_of_ble_eq_true rfl) (by dsimp only [ini, Nat.reduceAdd] <;> exact rfl) ?_
    repeat' (first
        | ((with_reducible apply W_op); exact rfl; exact rfl; first | exact r_lenVals rfl (Vals.ex (show Ex w _ from (by repeat (first | exact Ex.refl _ | assumption | (refine Ex.of_grown ?_ (by assumption) (by intro k hk; cases hk; omega)) | (refine Ex.trans ?_ (by assumption))))) h) | exact r_lenVals rfl (Vals.ex (show Ex w _ from (by repeat (first | exact Ex.refl _ | assumption | (refine Ex.of_grown ?_ (by assumption) (by intro k hk; cases hk; omega)) | (refine Ex.trans ?_ (by assumption))))) h2))
        | ((with_reducible apply W_split); exact rfl; exact rfl; intro _; rotate_left 1; intro hsx; (all_goals (try (exfalso; (focus (first | exact hsx rfl | omega; done))))))
        | ((with_reducible apply c_cond_dec); exact rfl; intro _; rotate_left 1; intro _; (all_goals (try (exfalso; (focus (omega; done))))))
        | ((first | ((with_reducible apply W_op); exact rfl; exact rfl)); (first | ((with_reducible apply r_move); ((conv => lhs; whnf) <;> exact rfl)) | ((with_reducible apply r_assign); ((conv => lhs; whnf) <;> exact rfl)) | ((with_reducible apply r_fieldAddr); exact rfl) | ((with_reducible apply r_load); exact rfl; exact rfl; (first | assumption | exact (Bx.cell (by repeat (first | assumption | ((with_reducible apply Bx.grownS); assumption; (first | omega | exact Bx.ne (by assumption) (by omega))) | ((with_reducible apply Bx.below); assumption; omega) | ((with_reducible apply Bx.ex); assumption))) _).trans rfl | exact Ex.cell (by assumption) (by assumption))) | ((with_reducible apply r_gtr); exact rfl; exact rfl) | ((with_reducible apply r_eql); exact rfl; exact rfl) | ((with_reducible apply r_pick_true); exact rfl; ((conv => lhs; whnf) <;> exact rfl)) | ((with_reducible apply r_pick_false); exact rfl; ((conv => lhs; whnf) <;> exact rfl))))
        | (with_reducible apply W_nil)
        | ((with_reducible apply W_box); exact rfl; exact rfl; intro bq wq hbq he hnq; have hltq := Bx.lt hbq; have hsz := he.size)
        | ((with_reducible apply W_pass); exact rfl; exact rfl; exact rfl; exact rfl; exact rfl)
        | ((with_reducible apply W_take); exact rfl; exact rfl; exact rfl)
        | (with_reducible apply c_seq)
        | ((with_reducible apply c_region); kernel_rfl)
        | (with_reducible apply n_nq)
        | (with_reducible apply c_block)
        | (with_reducible apply c_ret)
        | ((with_reducible apply c_cond_true); exact rfl)
        | (with_reducible apply n_then)
        | (with_reducible apply r_then)
        | (with_reducible apply r_block)
        | ((with_reducible apply p_ret1); exact rfl; exact rfl; ((conv => lhs; whnf) <;> exact rfl); refine ⟨_, rfl, ?_, (by repeat (first | assumption | exact Ex.refl _ | (refine Ex.trans ?_ (by assumption)) | (refine Ex.of_grown ?_ (by assumption) (by intro k hk; cases hk; omega))))⟩))
    all_goals first | rfl | trace_state
  have hres : pErr ps rs = lsErr (ps ++ rs) := by unfold pErr; rw [if_neg h0, if_neg h5]
  rw [hres]
  refine ret_of_c Try.func50 rfl Try.ntmps50 (Nat.le_of_ble_eq_true rfl) (by dsimp only [ini, Nat.reduceAdd] <;> exact rfl) ?_
  repeat' (first
      | ((with_reducible apply W_op); exact rfl; exact rfl; first | exact r_lenVals rfl (Vals.ex (show Ex w _ from (by repeat (first | exact Ex.refl _ | assumption | (refine Ex.of_grown ?_ (by assumption) (by intro k hk; cases hk; omega)) | (refine Ex.trans ?_ (by assumption))))) h) | exact r_lenVals rfl (Vals.ex (show Ex w _ from (by repeat (first | exact Ex.refl _ | assumption | (refine Ex.of_grown ?_ (by assumption) (by intro k hk; cases hk; omega)) | (refine Ex.trans ?_ (by assumption))))) h2))
      | ((with_reducible apply W_split); exact rfl; exact rfl; intro _; rotate_left 1; intro hsx; (all_goals (try (exfalso; (focus (first | exact hsx rfl | omega; done))))))
      | ((with_reducible apply c_cond_dec); exact rfl; intro _; rotate_left 1; intro _; (all_goals (try (exfalso; (focus (omega; done))))))
      | ((first | ((with_reducible apply W_op); exact rfl; exact rfl)); (first | ((with_reducible apply r_move); ((conv => lhs; whnf) <;> exact rfl)) | ((with_reducible apply r_assign); ((conv => lhs; whnf) <;> exact rfl)) | ((with_reducible apply r_fieldAddr); exact rfl) | ((with_reducible apply r_load); exact rfl; exact rfl; (first | assumption | exact (Bx.cell (by repeat (first | assumption | ((with_reducible apply Bx.grownS); assumption; (first | omega | exact Bx.ne (by assumption) (by omega))) | ((with_reducible apply Bx.below); assumption; omega) | ((with_reducible apply Bx.ex); assumption))) _).trans rfl | exact Ex.cell (by assumption) (by assumption))) | ((with_reducible apply r_gtr); exact rfl; exact rfl) | ((with_reducible apply r_eql); exact rfl; exact rfl) | ((with_reducible apply r_pick_false); exact rfl; ((conv => lhs; whnf) <;> exact rfl))))
      | (refine W_call (concatB_any _ pv rv us vs _ (by assumption) (Vals.ex (show Ex w _ from (by repeat (first | exact Ex.refl _ | assumption | (refine Ex.of_grown ?_ (by assumption) (by intro k hk; cases hk; omega)) | (refine Ex.trans ?_ (by assumption))))) h) (Vals.ex (show Ex w _ from (by repeat (first | exact Ex.refl _ | assumption | (refine Ex.of_grown ?_ (by assumption) (by intro k hk; cases hk; omega)) | (refine Ex.trans ?_ (by assumption))))) h2) (by omega) (by omega) (by omega) hx.one hx2.one) rfl ?_; rintro vq wq hown he; have hsz := he.size; have ho1 := OwnV.one hown; have hovs := OwnV.vals hown)
      | (refine W_callv (checkLists_any _ (us ++ vs) (ps ++ rs) _ hovs (BLs.ex (show Ex w _ from (by repeat (first | exact Ex.refl _ | assumption | (refine Ex.of_grown ?_ (by assumption) (by intro k hk; cases hk; omega)) | (refine Ex.trans ?_ (by assumption))))) (hx.app hx2))) rfl (fun wq he => ?_); have hsz := he.size)
      | (with_reducible apply W_nil)
      | ((with_reducible apply W_box); exact rfl; exact rfl; intro bq wq hbq he hnq; have hltq := Bx.lt hbq; have hsz := he.size)
      | ((with_reducible apply W_take); exact rfl; exact rfl; exact rfl)
      | ((with_reducible apply W_bs2); ((conv => lhs; whnf) <;> exact rfl); ((conv => lhs; whnf) <;> exact rfl); (first | exact rfl | assumption | exact IntsK.one (by assumption) | exact Prs.one (by assumption) | exact OwnP.one (by assumption) | exact Own.one (by assumption) | exact Row.one (by assumption) | exact OwnR.one (by assumption)); (first | exact rfl | assumption | exact IntsK.one (by assumption) | exact Prs.one (by assumption) | exact OwnP.one (by assumption) | exact Own.one (by assumption) | exact Row.one (by assumption) | exact OwnR.one (by assumption)); decide; decide; exact rfl; exact rfl; ((simp only [lay, lset, List.replicate_succ, List.replicate_zero]) <;> exact rfl); intro bq wq hbq he hnq; have hltq := Bx.lt hbq; have hsz := he.size)
      | (with_reducible apply c_seq)
      | ((with_reducible apply c_region); kernel_rfl)
      | (with_reducible apply n_nq)
      | (with_reducible apply c_block)
      | (with_reducible apply c_skip)
      | (with_reducible apply c_ret)
      | (with_reducible apply n_then)
      | (with_reducible apply n_block)
      | ((with_reducible apply p_ret1); exact rfl; exact rfl; ((conv => lhs; whnf) <;> exact rfl); refine ⟨_, rfl, ?_, (by repeat (first | assumption | exact Ex.refl _ | (refine Ex.trans ?_ (by assumption)) | (refine Ex.of_grown ?_ (by assumption) (by intro k hk; cases hk; omega))))⟩))
  all_goals first | rfl | trace_state
theorem checkPlant_any (pv rv : Value) (us vs : List Value) (ps rs : List (List (Int × Int))) (t : Int) (w : World) (h : Vals w pv us) (hx : BLs w us ps) (h2 : Vals w rv vs) (hx2 : BLs w vs rs) : Ret Try.prog 55 [.agg #[pv, rv], .int .i64 t] w fun r _ => r = .int .i64 (ptErr ps rs t) := by
  have hp1 := h.one
  have hr1 := h2.one
  have hcb := fun w2 (e : Ex w w2) => Check_any pv rv us vs ps rs w2 (Vals.ex e h) (BLs.ex e hx) (Vals.ex e h2) (BLs.ex e hx2)
  by_cases hc : pErr ps rs = 0
  · have hres : ptErr ps rs t = if 0 ≤ t ∧ t ≤ 200 then 0 else 3 := by unfold ptErr; rw [if_pos hc]
    rw [hres]
    rw [hc] at hcb
    refine ret_of_c Try.func55 rfl Try.ntmps55 (Nat.le_of_ble_eq_true rfl) (by dsimp only [ini, Nat.reduceAdd] <;> exact rfl) ?_
    repeat' (first
        | ((with_reducible apply c_cond_dec); exact rfl; intro _; rotate_left 1; intro _; (all_goals (try (exfalso; (focus (omega; done))))))
        | ((first | ((with_reducible apply W_op); exact rfl; exact rfl)); (first | ((with_reducible apply r_move); ((conv => lhs; whnf) <;> exact rfl)) | ((with_reducible apply r_assign); ((conv => lhs; whnf) <;> exact rfl)) | ((with_reducible apply r_loadA); exact rfl; (first | assumption | exact Bx.cells (by repeat (first | assumption | ((with_reducible apply Bx.grownS); assumption; (first | omega | exact Bx.ne (by assumption) (by omega))) | ((with_reducible apply Bx.below); assumption; omega) | ((with_reducible apply Bx.ex); assumption))) | exact Cells.ex (by assumption) (by assumption)); exact rfl) | ((with_reducible apply r_neq); exact rfl; exact rfl)))
        | (refine W_callv (hcb _ (by repeat (first | assumption | exact Ex.refl _ | (refine Ex.trans ?_ (by assumption)) | (refine Ex.of_grown ?_ (by assumption) (by intro k hk; cases hk; omega))))) rfl (fun wq he => ?_); have hsz := he.size)
        | (refine W_callv (checkTicks_any t _) rfl (fun wq he => ?_); have hsz := he.size)
        | (with_reducible apply W_nil)
        | ((with_reducible apply W_box); exact rfl; exact rfl; intro bq wq hbq he hnq; have hltq := Bx.lt hbq; have hsz := he.size)
        | (with_reducible apply c_seq)
        | ((with_reducible apply c_region); kernel_rfl)
        | (with_reducible apply n_nq)
        | (with_reducible apply c_skip)
        | (with_reducible apply c_ret)
        | (with_reducible apply n_then)
        | ((with_reducible apply p_ret1); exact rfl; exact rfl; ((conv => lhs; whnf) <;> exact rfl); refine ⟨_, rfl, ?_, (by repeat (first | assumption | exact Ex.refl _ | (refine Ex.trans ?_ (by assumption)) | (refine Ex.of_grown ?_ (by assumption) (by intro k hk; cases hk; omega))))⟩))
    all_goals first | rfl | trace_state
  · have hres : ptErr ps rs t = pErr ps rs := by unfold ptErr; rw [if_neg hc]
    rw [hres]
    obtain ⟨e, hee⟩ : ∃ e, e = pErr ps rs := ⟨_, rfl⟩
    rw [← hee] at hcb hc ⊢
    refine ret_of_c Try.func55 rfl Try.ntmps55 (Nat.le_of_ble_eq_true rfl) (by dsimp only [ini, Nat.reduceAdd] <;> exact rfl) ?_
    repeat' (first
        | ((with_reducible apply c_cond_dec); exact rfl; intro _; rotate_left 1; intro _; (all_goals (try (exfalso; (focus (omega; done))))))
        | ((first | ((with_reducible apply W_op); exact rfl; exact rfl)); (first | ((with_reducible apply r_move); ((conv => lhs; whnf) <;> exact rfl)) | ((with_reducible apply r_assign); ((conv => lhs; whnf) <;> exact rfl)) | ((with_reducible apply r_loadA); exact rfl; (first | assumption | exact Bx.cells (by repeat (first | assumption | ((with_reducible apply Bx.grownS); assumption; (first | omega | exact Bx.ne (by assumption) (by omega))) | ((with_reducible apply Bx.below); assumption; omega) | ((with_reducible apply Bx.ex); assumption))) | exact Cells.ex (by assumption) (by assumption)); exact rfl) | ((with_reducible apply r_neq); exact rfl; exact rfl)))
        | (refine W_callv (hcb _ (by repeat (first | assumption | exact Ex.refl _ | (refine Ex.trans ?_ (by assumption)) | (refine Ex.of_grown ?_ (by assumption) (by intro k hk; cases hk; omega))))) rfl (fun wq he => ?_); have hsz := he.size)
        | (with_reducible apply W_nil)
        | ((with_reducible apply W_box); exact rfl; exact rfl; intro bq wq hbq he hnq; have hltq := Bx.lt hbq; have hsz := he.size)
        | (with_reducible apply c_seq)
        | ((with_reducible apply c_region); kernel_rfl)
        | (with_reducible apply n_nq)
        | (with_reducible apply c_ret)
        | (with_reducible apply n_then)
        | (with_reducible apply r_then)
        | ((with_reducible apply p_ret1); exact rfl; exact rfl; ((conv => lhs; whnf) <;> exact rfl); refine ⟨_, rfl, ?_, (by repeat (first | assumption | exact Ex.refl _ | (refine Ex.trans ?_ (by assumption)) | (refine Ex.of_grown ?_ (by assumption) (by intro k hk; cases hk; omega))))⟩))
    all_goals first | rfl | trace_state
end Go.Proofs.Ytlphfobpheefkaa
