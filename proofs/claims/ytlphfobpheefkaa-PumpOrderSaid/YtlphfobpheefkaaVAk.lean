/-
  (heavy) (rows) What this text proves: the mosts of all players together, for each number of ticks. Conditions: the values read as lists.
-/
import Derived.Test.YtlphfobpheefkaaVAh
import Derived.Test.YtlphfobpheefkaaVAj
set_option linter.unusedVariables false
set_option linter.unusedSimpArgs false
namespace Go.Pv
open Go.RowKit Go.Sort
/-- The first j of N places as one function says, the others as another one does. -/
def mixL (f g : Nat → Int) (j N : Nat) : List Int := (List.range N).map fun q => if q < j then f q else g q
theorem mixL_len (f g : Nat → Int) (j N : Nat) : (mixL f g j N).length = N := by simp [mixL]
theorem mixL_get {f g : Nat → Int} {j N q : Nat} (h : q < N) : (mixL f g j N)[q]? = some (if q < j then f q else g q) := by simp [mixL, h]
theorem mixL_at {f g : Nat → Int} {j N : Nat} (h : j < N) : ((mixL f g j N).map (Value.int .i64))[j * 1]? = some (.int .i64 (g j)) := by
  rw [Nat.mul_one, List.getElem?_map, mixL_get h, if_neg (Nat.lt_irrefl j)]; rfl
theorem mixL_set {f g : Nat → Int} {j N : Nat} (h : j < N) : ((mixL f g j N).map (Value.int .i64)).set j (.int .i64 (f j)) = (mixL f g (j + 1) N).map (Value.int .i64) := by
  rw [← List.map_set]
  congr 1
  refine List.ext_getElem? fun i => ?_
  by_cases hi : i < N
  · rw [mixL_get hi]
    by_cases e : j = i
    · subst e; rw [List.getElem?_set_self (by rw [mixL_len]; exact h), if_pos (by omega)]
    · rw [List.getElem?_set_ne e, mixL_get hi]
      by_cases h2 : i < j
      · rw [if_pos h2, if_pos (by omega)]
      · rw [if_neg h2, if_neg (by omega)]
  · rw [List.getElem?_eq_none (by rw [List.length_set, mixL_len]; omega), List.getElem?_eq_none (by rw [mixL_len]; omega)]
theorem mixL_zero (f g : Nat → Int) (N : Nat) : mixL f g 0 N = (List.range N).map g := by simp [mixL]
theorem mixL_all (f g : Nat → Int) (N : Nat) : mixL f g N N = (List.range N).map f := by
  unfold mixL
  refine List.map_congr_left fun q hq => ?_
  rw [if_pos (by simpa using hq)]
/-- The mosts of the first players together. -/
def dmTo (pls : List (List (Int × Int))) : Nat → Nat → Int
  | 0, _ => 0
  | i + 1, j => dmTo pls i j + moN (pls.getD i []) j
def dmN (pls : List (List (Int × Int))) (j : Nat) : Int := dmTo pls pls.length j
theorem dmTo_bd {pls : List (List (Int × Int))} (h : ∀ i, i < pls.length → bErr (pls.getD i []) = 0) : ∀ (k j : Nat), k ≤ pls.length → 0 ≤ dmTo pls k j ∧ dmTo pls k j ≤ 1000000 * (k * j : Nat)
  | 0, j, _ => by simp [dmTo]
  | k + 1, j, hk => by
    have ih := dmTo_bd h k j (by omega)
    obtain ⟨h1, h2⟩ := bErr_inv (h k (by omega))
    have h3 := mo_bd (l := pls.getD k []) (by omega) h2 j
    simp only [dmTo]
    have e : ((k + 1) * j : Nat) = k * j + j := Nat.succ_mul k j
    rw [e]
    push_cast at ih ⊢
    obtain ⟨q, hq⟩ : ∃ q : Int, q = (k : Int) * j := ⟨_, rfl⟩
    rw [← hq] at ih ⊢
    omega
theorem dmTo_small {pls : List (List (Int × Int))} (h : ∀ i, i < pls.length → bErr (pls.getD i []) = 0) (hl : pls.length ≤ 3) {k j : Nat} (hk : k ≤ pls.length) (hj : j ≤ 900) : 0 ≤ dmTo pls k j ∧ dmTo pls k j ≤ 3000000000 := by
  have h1 := dmTo_bd h k j hk
  have h2 : k * j ≤ 3 * 900 := Nat.mul_le_mul (by omega) hj
  omega
theorem range_zero (N : Nat) : (List.range N).map (fun _ => (0 : Int)) = List.replicate N 0 := by
  induction N with
  | zero => rfl
  | succ n ih => rw [List.range_succ, List.map_append, ih]; simp [List.replicate_succ']
end Go.Pv
namespace Go.Proofs.Ytlphfobpheefkaa
open Go.Pv Go.RowKit Go.Sort
set_option maxHeartbeats 8000000
set_option maxRecDepth 20000
theorem mosts_any (pv rv : Value) (us : List Value) (pls : List (List (Int × Int))) (n : Nat) (w : World) (h : Vals w pv us) (hx : BLs w us pls) (hr1 : rv.oneCell' = true) (hb : ∀ i, i < pls.length → bErr (pls.getD i []) = 0) (hpl : pls.length ≤ 3) (hn : n ≤ 400) :
    Ret Try.prog 57 [.agg #[pv, rv], .int .i64 (n : Int)] w fun r w' => ∃ g, r = .slice (some ⟨g, 0, none⟩) (n + 1) (n + 1) ∧ Bx w' g (((List.range (n + 1)).map (dmN pls)).map (Value.int .i64)) 3 ∧ w.heap.size ≤ g := by
  have hp1 := h.one
  have hlu := hx.1
  have tkA : True := trivial
  have tkM : True := trivial
  refine ret_of_c Try.func57 rfl Try.ntmps57 (Nat.le_of_ble_eq_true rfl) (by dsimp only [ini, Nat.reduceAdd] <;> exact rfl) ?_
  repeat' (first
      | (clear tkM; refine W_makeI (m := n + 1) (Eq.trans (b := Value.int .i64 _) rfl (congrArg _ (by omega))) (Eq.trans (b := Value.int .i64 _) rfl (congrArg _ (by omega))) (by omega) (by decide) ?_; intro g wq hbx he hg; have hsz := he.size; have hlg := Bx.lt hbx; rw [← range_zero] at hbx; (have hbx : Bx wq g (((List.range (n + 1)).map (dmTo pls 0)).map (Value.int .i64)) 3 := hbx))
      | ((with_reducible apply W_op); exact rfl; exact rfl; exact r_lenVals rfl (Vals.ex (show Ex w _ from (by repeat (first | exact Ex.refl _ | assumption | (refine Ex.of_grown ?_ (by assumption) (by intro k hk; cases hk; omega)) | (refine Ex.trans ?_ (by assumption))))) h))
      | (clear tkB; (have hlg := Bx.lt hbx); (by_cases hiu : i < us.length; (have hpk := hx.2 i hiu); (have hpk1 := hpk.one); (have hmo := fun w2 (e : Ex w w2) => most_any (us.getD i undef) (pls.getD i []) n w2 (Prs.ex e hpk) (hb i (by omega)) (by omega)); have hbl := bestL_len (covF (pls.getD i [])) lowC n); all_goals (have tkC : True := trivial))
      | (have _ := tkC; (with_reducible apply c_cond_dec); exact rfl; intro _; rotate_left 1; intro _; (all_goals (try (exfalso; (focus (omega; done))))))
      | (have _ := tkC; refine W_indexVals (i := i) (v := pv) (xs := us) rfl (Vals.ex (show Ex w _ from (by repeat (first | exact Ex.refl _ | assumption | (refine Ex.of_grown ?_ (by assumption) (by intro k hk; cases hk; omega)) | (refine Ex.trans ?_ (by assumption))))) h) rfl (by omega) ?_; intro pq hpq)
      | (have _ := tkD; (with_reducible apply W_op); exact rfl; exact rfl; exact r_lenR rfl hrow)
      | ((with_reducible (show C _ _ _ _ _ _)); clear tkA; refine c_loopG (fun (i : Nat) ps wr => ∃ k : Int, ps = [(1, .int .i64 (n : Int)), (5, .slice (some ⟨g, 0, none⟩) (n + 1) (n + 1)), (14, pv), (15, .int .i64 (us.length : Int)), (16, .int .i64 k)] ∧ k = i ∧ i ≤ us.length ∧ Bx wr g (((List.range (n + 1)).map (dmTo pls i)).map (Value.int .i64)) 3 ∧ Ex w wr) (fun i => us.length - i) 0 _ ⟨_, rfl, rfl, Nat.zero_le _, hbx, (by repeat (first | assumption | exact Ex.refl _ | (refine Ex.trans ?_ (by assumption)) | (refine Ex.of_grown ?_ (by assumption) (by intro k hk; cases hk; omega))))⟩ ⟨rfl, rfl, rfl, rfl, rfl, trivial⟩ (by ((conv => lhs; whnf) <;> exact rfl)) (by ((conv => lhs; whnf) <;> exact rfl)) ?_; rintro J hJ i u ps wr ⟨k, rfl, rfl, hi, hbx, he⟩; have hsz := he.size; have tkB : True := trivial)
      | (clear tkD; (have hbx3 := Bx.ex he hbx); rw [← mixL_zero (dmTo pls (i + 1)) (dmTo pls i) (n + 1)] at hbx3; (have tkE : True := trivial); clear tkE; refine c_loopG (fun (j : Nat) ps wr => ∃ k : Int, ps = [(1, .int .i64 (n : Int)), (5, .slice (some ⟨g, 0, none⟩) (n + 1) (n + 1)), (14, pv), (15, .int .i64 (us.length : Int)), (16, .int .i64 (i : Int)), (23, vq), (24, .int .i64 ((bestL (covF (pls.getD i [])) lowC n).length : Int)), (25, .int .i64 k)] ∧ k = j ∧ j ≤ n + 1 ∧ Bx wr g ((mixL (dmTo pls (i + 1)) (dmTo pls i) j (n + 1)).map (Value.int .i64)) 3 ∧ OwnR p3 3 80 B wr vq (bestL (covF (pls.getD i [])) lowC n) ∧ Ex w wr) (fun j => n + 1 - j) 0 _ ⟨_, rfl, rfl, Nat.zero_le _, hbx3, hown, (by repeat (first | assumption | exact Ex.refl _ | (refine Ex.trans ?_ (by assumption)) | (refine Ex.of_grown ?_ (by assumption) (by intro k hk; cases hk; omega))))⟩ ⟨rfl, rfl, rfl, rfl, rfl, rfl, rfl, rfl, trivial⟩ (by ((conv => lhs; whnf) <;> exact rfl)) (by ((conv => lhs; whnf) <;> exact rfl)) ?_; rintro K2 hK2 j u ps wr ⟨k, rfl, rfl, hj, hbx, hown, he⟩; have hsz := he.size; have tkF : True := trivial)
      | (clear tkF; clear tkC; (have hvq1 := OwnR.one hown); (have hlg2 := Bx.lt hbx); (by_cases hjn : j < n + 1; (have hbg : (bestL (covF (pls.getD i [])) lowC n).getD j pk0 = covK (pls.getD i []) j := bestL_get _ _ _ _ (by omega)); (have hd1 := dmTo_small hb hpl (k := i) (j := j) (by omega) (by omega)); (have hd2 := dmTo_small hb hpl (k := i + 1) (j := j) (by omega) (by omega)); (obtain ⟨pj, hpj⟩ : ∃ q, covK (pls.getD i []) j = q := ⟨_, rfl⟩); rw [hpj] at hbg; (have hfj : dmTo pls (i + 1) j = dmTo pls i j + pj.1 := (by show dmTo pls i j + (covK (pls.getD i []) j).1 = _; rw [hpj])); obtain ⟨x0, x1, x2⟩ := pj; dsimp only at hfj); all_goals (have tkG : True := trivial))
      | (have _ := tkG; (with_reducible apply c_cond_dec); exact rfl; intro _; rotate_left 1; intro _; (all_goals (try (exfalso; (focus (omega; done))))))
      | (have _ := tkG; refine W_indexRw (f := p3) (n := 3) (v := vq) (xs := bestL (covF (pls.getD i [])) lowC n) (i := j) pk0 p3_len (by decide) rfl (OwnR.row p3_len (OwnR.ex (show Ex wr _ from (by repeat (first | exact Ex.refl _ | assumption | (refine Ex.of_grown ?_ (by assumption) (by intro k hk; cases hk; omega)) | (refine Ex.trans ?_ (by assumption))))) hown)) rfl (by omega) ?_; intro pb po hpc; rw [hbg] at hpc; (have hpc : Cells wr ⟨pb, po, none⟩ [.int .i64 x0, .int .i64 x1, .int .i64 x2] := hpc))
      | (have _ := tkG; (with_reducible apply W_op); exact rfl; exact rfl; exact r_loadA rfl hpc rfl)
      | (refine c_mix (id := 8) [] [0, 1, 2, 3, 4, 5, 6, 7] [8] [false, false, false, false, false, false, false, false, false] [true, true, true, true, true, true, true, true, false] [none, none, none, none, none, none, none, none, some true] (by kernel_rfl) (by kernel_rfl) (by kernel_rfl) (by kernel_rfl) (by kernel_rfl) (by kernel_rfl) (by dsimp only [sel] <;> exact rfl) (by dsimp only [sel] <;> exact rfl) (by dsimp only [selT] <;> exact rfl) ?_)
      | (have _ := tkG; (with_reducible apply WM_op); exact rfl; exact rfl; (intro wq he; exact r_indexBx4 (i := j) rfl rfl (by omega)))
      | (have _ := tkG; (with_reducible apply WM_op); exact rfl; exact rfl; (intro wq he; exact r_load rfl rfl ((Bx.cell (Bx.ex (show Ex wr _ from (by repeat (first | exact Ex.refl _ | assumption | (refine Ex.of_grown ?_ (by assumption) (by intro k hk; cases hk; omega)) | (refine Ex.trans ?_ (by assumption))))) hbx) _).trans (mixL_at hjn))))
      | (have _ := tkG; refine W_store (o := j * 1) (v := .int .i64 (dmTo pls i j + x0)) rfl (Bx.ex (show Ex wr _ from (by repeat (first | exact Ex.refl _ | assumption | (refine Ex.of_grown ?_ (by assumption) (by intro k hk; cases hk; omega)) | (refine Ex.trans ?_ (by assumption))))) hbx) (by rw [Nat.mul_one, List.length_map, mixL_len]; omega) rfl rfl ?_; intro wb2 hbx2 hgq; rw [← lset_eq, Nat.mul_one, ← hfj, mixL_set hjn] at hbx2; have hsz := hgq.size)
      | ((first | ((with_reducible apply W_op); exact rfl; exact rfl) | ((with_reducible apply WQ_op); exact rfl; exact rfl; intro wq he) | ((with_reducible apply WM_op); exact rfl; exact rfl; intro wq he) | ((with_reducible apply WB_op); exact rfl; exact rfl; intro wq)); (first | ((with_reducible apply r_move); ((conv => lhs; whnf) <;> exact rfl)) | ((with_reducible apply r_assign); ((conv => lhs; whnf) <;> exact rfl)) | ((with_reducible apply r_fieldAddr); exact rfl) | ((with_reducible apply r_load); exact rfl; exact rfl; (first | assumption | exact (Bx.cell (by repeat (first | assumption | ((with_reducible apply Bx.grownS); assumption; (first | omega | exact Bx.ne (by assumption) (by omega))) | ((with_reducible apply Bx.below); assumption; omega) | ((with_reducible apply Bx.ex); assumption))) _).trans rfl | exact Ex.cell (by assumption) (by assumption))) | ((with_reducible apply r_lss); exact rfl; exact rfl) | ((with_reducible apply r_add); exact rfl; exact rfl; omega) | ((with_reducible apply r_build1); ((conv => lhs; whnf) <;> exact rfl); (first | exact rfl | assumption | exact IntsK.one (by assumption) | exact Prs.one (by assumption) | exact OwnP.one (by assumption) | exact Own.one (by assumption) | exact Row.one (by assumption) | exact OwnR.one (by assumption)); exact rfl; exact rfl; ((simp only [lay, lset, List.replicate_succ, List.replicate_zero]) <;> exact rfl))))
      | (refine W_call (hmo _ (by repeat (first | assumption | exact Ex.refl _ | (refine Ex.trans ?_ (by assumption)) | (refine Ex.of_grown ?_ (by assumption) (by intro k hk; cases hk; omega))))) rfl ?_; rintro vq wq hown he; have hsz := he.size; have ho1 := OwnR.one hown; have hrow := OwnR.row p3_len hown; (obtain ⟨B, hB⟩ : ∃ B, wr.heap.size = B := ⟨_, rfl⟩); rw [hB] at hown hlg; have tkD : True := trivial)
      | ((with_reducible (show Exit.then _ _ _ _ _)); refine n_roundG (i + 1) (hJ _ _ _ _ ⟨_, rfl, by omega, by omega, (by rw [show j = n + 1 by omega, mixL_all] at hbx; exact hbx), (by repeat (first | assumption | exact Ex.refl _ | (refine Ex.trans ?_ (by assumption)) | (refine Ex.of_grown ?_ (by assumption) (by intro k hk; cases hk; omega))))⟩ ⟨rfl, rfl, rfl, rfl, rfl, trivial⟩ rfl) (by omega))
      | ((with_reducible (show Exit.then _ _ _ _ _)); refine n_roundG (j + 1) (hK2 _ _ _ _ ⟨_, rfl, by omega, by omega, hbx2, (OwnR.grownS hgq hlg (OwnR.ex (show Ex wr _ from (by repeat (first | exact Ex.refl _ | assumption | (refine Ex.of_grown ?_ (by assumption) (by intro k hk; cases hk; omega)) | (refine Ex.trans ?_ (by assumption))))) hown)), (Ex.of_grown (show Ex w _ from (by repeat (first | exact Ex.refl _ | assumption | (refine Ex.of_grown ?_ (by assumption) (by intro k hk; cases hk; omega)) | (refine Ex.trans ?_ (by assumption))))) hgq (by intro k hk; cases hk; omega))⟩ ⟨rfl, rfl, rfl, rfl, rfl, rfl, rfl, rfl, trivial⟩ rfl) (by omega))
      | (with_reducible apply W_nil)
      | (with_reducible apply WM_nil; intro wq he; have hsz := he.size)
      | (with_reducible apply WB_nil)
      | (with_reducible apply WT_nil)
      | (with_reducible apply WT_cons)
      | (with_reducible apply t_sink)
      | ((with_reducible apply W_box); exact rfl; exact rfl; intro bq wq hbq he hnq; have hltq := Bx.lt hbq; have hsz := he.size)
      | ((with_reducible apply W_alloc); exact rfl; intro bq wq hbq he hnq; have hltq := Bx.lt hbq; have hsz := he.size)
      | ((with_reducible apply W_storeA); exact rfl; (focus ((repeat (first | assumption | ((with_reducible apply Bx.grownS); assumption; (first | omega | exact Bx.ne (by assumption) (by omega))) | ((with_reducible apply Bx.below); assumption; omega) | ((with_reducible apply Bx.ex); assumption))); done)); exact rfl; exact rfl; exact rfl; (repeat' (first | exact trivial | (first | exact rfl | assumption | exact IntsK.one (by assumption) | exact Prs.one (by assumption) | exact OwnP.one (by assumption) | exact Own.one (by assumption) | exact Row.one (by assumption) | exact OwnR.one (by assumption)) | constructor)); intro wq hbq hgq; have he : Ex w wq := (by repeat (first | assumption | exact Ex.refl _ | (refine Ex.trans ?_ (by assumption)) | (refine Ex.of_grown ?_ (by assumption) (by intro k hk; cases hk; omega)))); have hsz := he.size; have hgz := hgq.size)
      | (with_reducible apply c_seq)
      | ((with_reducible apply c_region); kernel_rfl)
      | (with_reducible apply n_nq)
      | (with_reducible apply c_block)
      | (with_reducible apply c_skip)
      | (with_reducible apply c_ret)
      | (with_reducible apply c_exit)
      | (with_reducible apply n_then)
      | (with_reducible apply n_block)
      | (with_reducible apply e_then)
      | (with_reducible apply e_block)
      | ((with_reducible apply p_ret1); exact rfl; exact rfl; ((conv => lhs; whnf) <;> exact rfl); refine ⟨_, rfl, ?_, (by repeat (first | assumption | exact Ex.refl _ | (refine Ex.trans ?_ (by assumption)) | (refine Ex.of_grown ?_ (by assumption) (by intro k hk; cases hk; omega))))⟩))
  all_goals first
    | (refine ⟨g, rfl, ?_, by omega⟩; rw [show i = pls.length by omega] at hbx; exact hbx)
    | trace_state
end Go.Proofs.Ytlphfobpheefkaa
