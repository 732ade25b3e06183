/-
  (heavy) What this text proves: shares are added keeper by keeper, as the plain functions say. Conditions: the values read as lists.
-/
import Derived.Test.YtngoipmdhliigaaVKn
set_option linter.unusedVariables false
set_option linter.unusedSimpArgs false
namespace Go.Pv
open Go.RowKit
def sumS (x y : Int × Int) : Int × Int := (x.1, pls x.2 y.2)
def addErr (a b : List (Int × Int)) : Int := if chk 1 a ≠ 0 then chk 1 a else if chk 1 b ≠ 0 then chk 1 b else if kS a = kS b then 0 else 14
def addS (a b : List (Int × Int)) : List (Int × Int) := List.zipWith sumS a b
theorem kS_eq {a b : List (Int × Int)} (hl : a.length = b.length) (h : ∀ i, i < a.length → (a.getD i (0, 0)).1 = (b.getD i (0, 0)).1) : kS a = kS b := by
  apply List.ext_getElem
  · rw [kS_len, kS_len, hl]
  · intro i h1 h2
    rw [kS_len] at h1 h2
    have := h i h1
    rw [← kS_get, ← kS_get] at this
    simpa [List.getD, kS_len, h1, h2] using this
theorem kS_ne {a b : List (Int × Int)} {i : Nat} (h : ¬ (a.getD i (0, 0)).1 = (b.getD i (0, 0)).1) : ¬ kS a = kS b := fun e => h (by rw [← kS_get, ← kS_get, e])
theorem kS_neL {a b : List (Int × Int)} (h : ¬ a.length = b.length) : ¬ kS a = kS b := fun e => h (by rw [← kS_len a, ← kS_len b, e])
theorem zwP_len {f : Int × Int → Int × Int → Int × Int} {xs ys : List (Int × Int)} (h : xs.length = ys.length) : (List.zipWith f xs ys).length = xs.length := by simp [h]
theorem zwP_get {f : Int × Int → Int × Int → Int × Int} {xs ys : List (Int × Int)} {i : Nat} (h : i < xs.length) (h2 : i < ys.length) : (List.zipWith f xs ys).getD i (0, 0) = f (xs.getD i (0, 0)) (ys.getD i (0, 0)) := by
  have h3 : i < (List.zipWith f xs ys).length := by rw [List.length_zipWith]; omega
  have e1 : (List.zipWith f xs ys).getD i (0, 0) = (List.zipWith f xs ys)[i] := by simp only [List.getD, List.getElem?_eq_getElem h3, Option.getD_some]
  have e2 : xs.getD i (0, 0) = xs[i] := by simp only [List.getD, List.getElem?_eq_getElem h, Option.getD_some]
  have e3 : ys.getD i (0, 0) = ys[i] := by simp only [List.getD, List.getElem?_eq_getElem h2, Option.getD_some]
  rw [e1, e2, e3, List.getElem_zipWith]
theorem same_next {a b : List (Int × Int)} {k : Nat} (h : ∀ i, i < k → (a.getD i (0, 0)).1 = (b.getD i (0, 0)).1) (hk : (a.getD k (0, 0)).1 = (b.getD k (0, 0)).1) : ∀ i, i < k + 1 → (a.getD i (0, 0)).1 = (b.getD i (0, 0)).1 := by
  intro i hi
  rcases Nat.lt_succ_iff_lt_or_eq.1 hi with h1 | rfl
  · exact h i h1
  · exact hk
end Go.Pv
namespace Go.Proofs.Ytngoipmdhliigaa
open Go.Pv Go.RowKit Go.Sort
set_option maxHeartbeats 8000000
set_option maxRecDepth 20000
theorem sameK_any (i j k m : Int) (w : World) : Ret Try.prog 72 [.agg #[.int .i64 i, .int .i64 j], .agg #[.int .i64 k, .int .i64 m]] w fun r _ => r = .bool (decide (i = k)) := by
  refine ret_of_c Try.func72 rfl Try.ntmps72 (Nat.le_of_ble_eq_true rfl) (by dsimp only [ini, Nat.reduceAdd] <;> exact rfl) ?_
  repeat' (first
      | ((first | ((with_reducible apply W_op); exact rfl; exact rfl)); (first | ((with_reducible apply r_assign); ((conv => lhs; whnf) <;> exact rfl)) | ((with_reducible apply r_fieldAddr); exact rfl) | ((with_reducible apply r_load); exact rfl; exact rfl; (first | assumption | exact (Bx.cell (by repeat (first | assumption | ((with_reducible apply Bx.grownS); assumption; (first | omega | exact Bx.ne (by assumption) (by omega))) | ((with_reducible apply Bx.below); assumption; omega) | ((with_reducible apply Bx.ex); assumption))) _).trans rfl | exact Ex.cell (by assumption) (by assumption))) | ((with_reducible apply r_eql); exact rfl; exact rfl)))
      | (with_reducible apply W_nil)
      | ((with_reducible apply W_box); exact rfl; exact rfl; intro bq wq hbq he hnq; have hltq := Bx.lt hbq; have hsz := he.size)
      | (with_reducible apply c_seq)
      | ((with_reducible apply c_region); kernel_rfl)
      | (with_reducible apply n_nq)
      | (with_reducible apply c_ret)
      | (with_reducible apply n_then)
      | ((with_reducible apply p_ret1); exact rfl; exact rfl; ((conv => lhs; whnf) <;> exact rfl); refine ⟨_, rfl, ?_, (by repeat (first | assumption | exact Ex.refl _ | (refine Ex.trans ?_ (by assumption)) | (refine Ex.of_grown ?_ (by assumption) (by intro k hk; cases hk; omega))))⟩))
  all_goals first | rfl | trace_state
theorem sumS_any (i j k m : Int) (w : World) (hj : nb j) (hm : nb m) : Ret Try.prog 74 [.agg #[.int .i64 i, .int .i64 j], .agg #[.int .i64 k, .int .i64 m]] w fun r _ => r = .agg #[.int .i64 (sumS (i, j) (k, m)).1, .int .i64 (sumS (i, j) (k, m)).2] := by
  refine ret_of_c Try.func74 rfl Try.ntmps74 (Nat.le_of_ble_eq_true rfl) (by dsimp only [ini, Nat.reduceAdd] <;> exact rfl) ?_
  repeat' (first
      | (refine c_mix (id := 1) [] [0, 1, 2, 3, 4, 5, 6, 7] [8] [false, false, false, false, false, false, false, false, false] [true, true, true, true, true, true, true, true, false] [none, none, none, none, none, none, none, none, some true] (by kernel_rfl) (by kernel_rfl) (by kernel_rfl) (by kernel_rfl) (by kernel_rfl) (by kernel_rfl) (by dsimp only [sel] <;> exact rfl) (by dsimp only [sel] <;> exact rfl) (by dsimp only [selT] <;> exact rfl) ?_)
      | ((first | ((with_reducible apply W_op); exact rfl; exact rfl) | ((with_reducible apply WQ_op); exact rfl; exact rfl; intro wq he) | ((with_reducible apply WM_op); exact rfl; exact rfl; intro wq he) | ((with_reducible apply WB_op); exact rfl; exact rfl; intro wq)); (first | ((with_reducible apply r_fieldAddr); exact rfl) | ((with_reducible apply r_load); exact rfl; exact rfl; (first | assumption | exact (Bx.cell (by repeat (first | assumption | ((with_reducible apply Bx.grownS); assumption; (first | omega | exact Bx.ne (by assumption) (by omega))) | ((with_reducible apply Bx.below); assumption; omega) | ((with_reducible apply Bx.ex); assumption))) _).trans rfl | exact Ex.cell (by assumption) (by assumption))) | ((with_reducible apply r_loadA); exact rfl; (first | assumption | exact Bx.cells (by repeat (first | assumption | ((with_reducible apply Bx.grownS); assumption; (first | omega | exact Bx.ne (by assumption) (by omega))) | ((with_reducible apply Bx.below); assumption; omega) | ((with_reducible apply Bx.ex); assumption))) | exact Cells.ex (by assumption) (by assumption)); exact rfl)))
      | (refine WM_callv (fun wq he => value_any i j _) rfl ?_)
      | (refine WM_callv (fun wq he => value_any k m _) rfl ?_)
      | (refine WM_callv (fun wq he => plus_any j m _ hj hm) rfl ?_)
      | (refine WM_callv (fun wq he => shareOf_any i (pls j m) _) rfl ?_)
      | (with_reducible apply W_nil)
      | (with_reducible apply WM_nil; intro wq he; have hsz := he.size)
      | (with_reducible apply WB_nil)
      | (with_reducible apply WT_nil)
      | (with_reducible apply WT_cons)
      | (with_reducible apply t_sink)
      | ((with_reducible apply W_box); exact rfl; exact rfl; intro bq wq hbq he hnq; have hltq := Bx.lt hbq; have hsz := he.size)
      | ((with_reducible apply W_alloc); exact rfl; intro bq wq hbq he hnq; have hltq := Bx.lt hbq; have hsz := he.size)
      | ((with_reducible apply W_storeA); exact rfl; (focus ((repeat (first | assumption | ((with_reducible apply Bx.grownS); assumption; (first | omega | exact Bx.ne (by assumption) (by omega))) | ((with_reducible apply Bx.below); assumption; omega) | ((with_reducible apply Bx.ex); assumption))); done)); exact rfl; exact rfl; exact rfl; (repeat' (first | exact trivial | (first | exact rfl | assumption | exact IntsK.one (by assumption) | exact Prs.one (by assumption) | exact OwnP.one (by assumption) | exact Own.one (by assumption)) | constructor)); intro wq hbq hgq; have he : Ex w wq := (by repeat (first | assumption | exact Ex.refl _ | (refine Ex.trans ?_ (by assumption)) | (refine Ex.of_grown ?_ (by assumption) (by intro k hk; cases hk; omega)))); have hsz := he.size; have hgz := hgq.size)
      | (with_reducible apply c_seq)
      | ((with_reducible apply c_region); kernel_rfl)
      | (with_reducible apply n_nq)
      | (with_reducible apply c_ret)
      | (with_reducible apply n_then)
      | ((with_reducible apply p_retc); exact rfl; exact rfl; exact inferInstance; exact inferInstance; exact rfl; (focus ((repeat (first | assumption | ((with_reducible apply Bx.grownS); assumption; (first | omega | exact Bx.ne (by assumption) (by omega))) | ((with_reducible apply Bx.below); assumption; omega) | ((with_reducible apply Bx.ex); assumption))); done)); exact rfl; refine ⟨_, rfl, ?_, (by repeat (first | assumption | exact Ex.refl _ | (refine Ex.trans ?_ (by assumption)) | (refine Ex.of_grown ?_ (by assumption) (by intro k hk; cases hk; omega))))⟩))
  all_goals first | rfl | trace_state
theorem equalK_any (va vb : Value) (xs ys : List (Int × Int)) (w : World) (h : Prs w va xs) (k2 : Prs w vb ys) : Ret Try.prog 71 [va, vb, .func (.func 72) #[] #[]] w fun r _ => r = .bool (decide (kS xs = kS ys)) := by
  have ha1 := h.one
  have hb1 := k2.one
  have hln := h.len
  have tkL : True := trivial
  refine ret_of_c Try.func71 rfl Try.ntmps71 (Nat.le_of_ble_eq_true rfl) (by dsimp only [ini, Nat.reduceAdd] <;> exact rfl) ?_
  repeat' (first
      | ((with_reducible apply W_op); exact rfl; exact rfl; exact r_lenPrs rfl (Prs.ex (show Ex w _ from (by repeat (first | exact Ex.refl _ | assumption | (refine Ex.of_grown ?_ (by assumption) (by intro k hk; cases hk; omega)) | (refine Ex.trans ?_ (by assumption))))) h))
      | ((with_reducible apply W_op); exact rfl; exact rfl; exact r_lenPrs rfl (Prs.ex (show Ex w _ from (by repeat (first | exact Ex.refl _ | assumption | (refine Ex.of_grown ?_ (by assumption) (by intro k hk; cases hk; omega)) | (refine Ex.trans ?_ (by assumption))))) k2))
      | (refine W_indexPr2 (i := k) (v := va) (xs := xs) rfl (Prs.ex (show Ex w _ from (by repeat (first | exact Ex.refl _ | assumption | (refine Ex.of_grown ?_ (by assumption) (by intro k hk; cases hk; omega)) | (refine Ex.trans ?_ (by assumption))))) h) rfl (by omega) ?_; intro pb po hpc hp0 hp1)
      | (refine W_indexPr2 (i := k) (v := vb) (xs := ys) rfl (Prs.ex (show Ex w _ from (by repeat (first | exact Ex.refl _ | assumption | (refine Ex.of_grown ?_ (by assumption) (by intro k hk; cases hk; omega)) | (refine Ex.trans ?_ (by assumption))))) k2) rfl (by omega) ?_; intro pb po hpc hp0 hp1)
      | (refine W_callf (first := []) (captured := []) (vs := [.agg #[.int .i64 (xs.getD k (0, 0)).1, .int .i64 (xs.getD k (0, 0)).2], .agg #[.int .i64 (ys.getD k (0, 0)).1, .int .i64 (ys.getD k (0, 0)).2]]) rfl (sameK_any _ _ _ _ _) rfl ?_; rintro vq wq rfl he; have hsz := he.size)
      | ((with_reducible (show C _ _ _ _ _ _)); clear tkL; refine c_loopG (fun (k : Nat) ps wr => ∃ i : Int, ps = [(0, va), (1, vb), (2, .func (.func 72) #[] #[]), (15, va), (16, .int .i64 xs.length), (17, .int .i64 i)] ∧ i = k ∧ k ≤ xs.length ∧ (∀ i, i < k → (xs.getD i (0, 0)).1 = (ys.getD i (0, 0)).1) ∧ Ex w wr) (fun k => xs.length - k) 0 _ ⟨_, rfl, rfl, Nat.zero_le _, fun i hi => absurd hi (Nat.not_lt_zero i), (by repeat (first | assumption | exact Ex.refl _ | (refine Ex.trans ?_ (by assumption)) | (refine Ex.of_grown ?_ (by assumption) (by intro k hk; cases hk; omega))))⟩ ⟨rfl, rfl, rfl, rfl, rfl, rfl, trivial⟩ (by ((conv => lhs; whnf) <;> exact rfl)) (by ((conv => lhs; whnf) <;> exact rfl)) ?_; rintro J hJ k u ps wr ⟨i, rfl, rfl, hk, hall, he⟩; have hsz := he.size)
      | ((first | ((with_reducible apply W_op); exact rfl; exact rfl)); (first | ((with_reducible apply r_move); ((conv => lhs; whnf) <;> exact rfl)) | ((with_reducible apply r_assign); ((conv => lhs; whnf) <;> exact rfl)) | ((with_reducible apply r_loadA); exact rfl; (first | assumption | exact Bx.cells (by repeat (first | assumption | ((with_reducible apply Bx.grownS); assumption; (first | omega | exact Bx.ne (by assumption) (by omega))) | ((with_reducible apply Bx.below); assumption; omega) | ((with_reducible apply Bx.ex); assumption))) | exact Cells.ex (by assumption) (by assumption)); exact rfl) | ((with_reducible apply r_lss); exact rfl; exact rfl) | ((with_reducible apply r_neq); exact rfl; exact rfl) | ((with_reducible apply r_add); exact rfl; exact rfl; omega) | ((with_reducible apply r_not); exact rfl)))
      | ((with_reducible (show Exit.then _ _ _ _ _)); refine n_roundG (k + 1) (hJ _ _ _ _ ⟨_, rfl, by omega, by omega, (same_next hall (by first | assumption | exact Classical.not_not.1 (by assumption))), (by repeat (first | assumption | exact Ex.refl _ | (refine Ex.trans ?_ (by assumption)) | (refine Ex.of_grown ?_ (by assumption) (by intro k hk; cases hk; omega))))⟩ ⟨rfl, rfl, rfl, rfl, rfl, rfl, trivial⟩ rfl) (by omega))
      | (with_reducible apply W_nil)
      | ((with_reducible apply W_alloc); exact rfl; intro bq wq hbq he hnq; have hltq := Bx.lt hbq; have hsz := he.size)
      | ((with_reducible apply W_storeA); exact rfl; (focus ((repeat (first | assumption | ((with_reducible apply Bx.grownS); assumption; (first | omega | exact Bx.ne (by assumption) (by omega))) | ((with_reducible apply Bx.below); assumption; omega) | ((with_reducible apply Bx.ex); assumption))); done)); exact rfl; exact rfl; exact rfl; (repeat' (first | exact trivial | (first | exact rfl | assumption | exact IntsK.one (by assumption) | exact Prs.one (by assumption) | exact OwnP.one (by assumption) | exact Own.one (by assumption)) | constructor)); intro wq hbq hgq; have he : Ex w wq := (by repeat (first | assumption | exact Ex.refl _ | (refine Ex.trans ?_ (by assumption)) | (refine Ex.of_grown ?_ (by assumption) (by intro k hk; cases hk; omega)))); have hsz := he.size; have hgz := hgq.size)
      | (with_reducible apply c_seq)
      | ((with_reducible apply c_region); kernel_rfl)
      | (with_reducible apply n_nq)
      | (with_reducible apply c_block)
      | (with_reducible apply c_skip)
      | (with_reducible apply c_ret)
      | (with_reducible apply c_exit)
      | ((with_reducible apply c_cond_dec); exact rfl; intro _; rotate_left 1; intro _)
      | (with_reducible apply n_then)
      | (with_reducible apply n_block)
      | (with_reducible apply e_then)
      | (with_reducible apply e_block)
      | (with_reducible apply r_then)
      | (with_reducible apply r_block)
      | ((with_reducible apply p_ret1); exact rfl; exact rfl; ((conv => lhs; whnf) <;> exact rfl); refine ⟨_, rfl, ?_, (by repeat (first | assumption | exact Ex.refl _ | (refine Ex.trans ?_ (by assumption)) | (refine Ex.of_grown ?_ (by assumption) (by intro k hk; cases hk; omega))))⟩))
  all_goals first
    | (refine congrArg Value.bool (Eq.symm (decide_eq_false (kS_neL (by omega)))); done)
    | (refine congrArg Value.bool (Eq.symm (decide_eq_false (kS_ne (i := k) (by assumption)))); done)
    | (refine congrArg Value.bool (Eq.symm (decide_eq_true (kS_eq (by omega) fun i hi => hall i (by omega)))); done)
    | trace_state
theorem combineP_any (g : FuncId) [Fun Try.prog g] (va vb : Value) (xs ys : List (Int × Int)) (w : World) (hf : ∀ i w2, Ret Try.prog g [.agg #[.int .i64 (xs.getD i (0, 0)).1, .int .i64 (xs.getD i (0, 0)).2], .agg #[.int .i64 (ys.getD i (0, 0)).1, .int .i64 (ys.getD i (0, 0)).2]] w2 fun r _ => r = .agg #[.int .i64 (sumS (xs.getD i (0, 0)) (ys.getD i (0, 0))).1, .int .i64 (sumS (xs.getD i (0, 0)) (ys.getD i (0, 0))).2]) (h : Prs w va xs) (k2 : Prs w vb ys) (hl : xs.length = ys.length) (hm : xs.length ≤ 1000) :
    Ret Try.prog 73 [va, vb, .func (.func g) #[] #[]] w fun r w' => OwnP 61 w.heap.size w' r (List.zipWith sumS xs ys) := by
  have ha1 := h.one
  have hb1 := k2.one
  obtain ⟨zs, hzs⟩ : ∃ zs, zs = List.zipWith sumS xs ys := ⟨_, rfl⟩
  have hzl : zs.length = xs.length := by rw [hzs]; exact zwP_len hl
  have hzg : ∀ i, i < xs.length → sumS (xs.getD i (0, 0)) (ys.getD i (0, 0)) = zs.getD i (0, 0) := fun i hi => by rw [hzs]; exact (zwP_get hi (by omega)).symm
  rw [← hzs]
  have tkL : True := trivial
  refine ret_of_c Try.func73 rfl Try.ntmps73 (Nat.le_of_ble_eq_true rfl) (by dsimp only [ini, Nat.reduceAdd] <;> exact rfl) ?_
  repeat' (first
      | ((with_reducible apply W_op); exact rfl; exact rfl; exact r_lenPrs rfl (Prs.ex (show Ex w _ from (by repeat (first | exact Ex.refl _ | assumption | (refine Ex.of_grown ?_ (by assumption) (by intro k hk; cases hk; omega)) | (refine Ex.trans ?_ (by assumption))))) h))
      | (refine W_makeP (m := xs.length) rfl rfl hm (by decide) ?_; intro bm wq hbm he hnm; have hsz := he.size; have hltm := Bx.lt hbm)
      | (refine c_mix (id := 5) [] [0, 1, 2, 3, 4, 5, 6, 7, 8, 9, 10] [11, 12, 13] [false, false, false, false, false, false, false, false, false, false, false, false, false, false] [true, true, true, true, true, true, true, true, true, true, true, false, false, false] [none, none, none, none, none, none, none, none, none, none, none, some false, some true, some true] (by kernel_rfl) (by kernel_rfl) (by kernel_rfl) (by kernel_rfl) (by kernel_rfl) (by kernel_rfl) (by dsimp only [sel] <;> exact rfl) (by dsimp only [sel] <;> exact rfl) (by dsimp only [selT] <;> exact rfl) ?_)
      | (refine WM_indexPr2 (i := k) (v := va) (xs := xs) rfl (Prs.ex (show Ex w _ from (by repeat (first | exact Ex.refl _ | assumption | (refine Ex.of_grown ?_ (by assumption) (by intro k hk; cases hk; omega)) | (refine Ex.trans ?_ (by assumption))))) h) rfl (by omega) ?_; intro pb po hpc hp0 hp1)
      | (refine WM_indexPr2 (i := k) (v := vb) (xs := ys) rfl (Prs.ex (show Ex w _ from (by repeat (first | exact Ex.refl _ | assumption | (refine Ex.of_grown ?_ (by assumption) (by intro k hk; cases hk; omega)) | (refine Ex.trans ?_ (by assumption))))) k2) rfl (by omega) ?_; intro pb2 po2 hpc2 hp2 hp3)
      | (refine W_callf (first := []) (captured := []) (vs := [.agg #[.int .i64 (xs.getD k (0, 0)).1, .int .i64 (xs.getD k (0, 0)).2], .agg #[.int .i64 (ys.getD k (0, 0)).1, .int .i64 (ys.getD k (0, 0)).2]]) rfl (hf _ _) rfl ?_; rintro vq wq rfl he; have hsz := he.size)
      | ((with_reducible apply W_op); exact rfl; exact rfl; exact r_indexBx (i := k) rfl rfl (by omega))
      | (refine W_storeP (m := k) (xs := fillB zs k) (g := sumS (xs.getD k (0, 0)) (ys.getD k (0, 0))) rfl rfl (by rw [fillB_len (by omega)]; omega) (by repeat (first | assumption | ((with_reducible apply Bx.grownS); assumption; (first | omega | exact Bx.ne (by assumption) (by omega))) | ((with_reducible apply Bx.below); assumption; omega) | ((with_reducible apply Bx.ex); assumption))) rfl ?_; intro wq hbm2 hgq; rw [hzg k (by omega), fillB_set (by omega)] at hbm2; have he : Ex w wq := (by repeat (first | assumption | exact Ex.refl _ | (refine Ex.trans ?_ (by assumption)) | (refine Ex.of_grown ?_ (by assumption) (by intro k hk; cases hk; omega)))); have hsz := he.size)
      | ((with_reducible (show C _ _ _ _ _ _)); clear tkL; refine c_loopG (fun (k : Nat) ps wr => ∃ bm : Nat, ∃ i : Int, ps = [(0, va), (1, vb), (2, .func (.func g) #[] #[]), (7, .slice (some ⟨bm, 0, none⟩) xs.length xs.length), (13, .int .i64 xs.length), (14, .int .i64 i)] ∧ i = k ∧ k ≤ xs.length ∧ w.heap.size ≤ bm ∧ Bx wr bm ((fillB zs k).flatMap pc) 61 ∧ Ex w wr) (fun k => xs.length - k) 0 _ ⟨_, _, rfl, rfl, Nat.zero_le _, (by omega), (by rw [fillB_zero, hzl]; exact hbm), (by repeat (first | assumption | exact Ex.refl _ | (refine Ex.trans ?_ (by assumption)) | (refine Ex.of_grown ?_ (by assumption) (by intro k hk; cases hk; omega))))⟩ ⟨rfl, rfl, rfl, rfl, rfl, rfl, trivial⟩ (by ((conv => lhs; whnf) <;> exact rfl)) (by ((conv => lhs; whnf) <;> exact rfl)) ?_; rintro J hJ k u ps wr ⟨bm, i, rfl, rfl, hk, hbl, hbm, he⟩; have hsz := he.size)
      | ((first | ((with_reducible apply W_op); exact rfl; exact rfl) | ((with_reducible apply WQ_op); exact rfl; exact rfl; intro wq he) | ((with_reducible apply WM_op); exact rfl; exact rfl; intro wq he) | ((with_reducible apply WB_op); exact rfl; exact rfl; intro wq)); (first | ((with_reducible apply r_move); ((conv => lhs; whnf) <;> exact rfl)) | ((with_reducible apply r_assign); ((conv => lhs; whnf) <;> exact rfl)) | ((with_reducible apply r_loadA); exact rfl; (first | assumption | exact Bx.cells (by repeat (first | assumption | ((with_reducible apply Bx.grownS); assumption; (first | omega | exact Bx.ne (by assumption) (by omega))) | ((with_reducible apply Bx.below); assumption; omega) | ((with_reducible apply Bx.ex); assumption))) | exact Cells.ex (by assumption) (by assumption)); exact rfl) | ((with_reducible apply r_lss); exact rfl; exact rfl) | ((with_reducible apply r_add); exact rfl; exact rfl; omega) | ((with_reducible apply r_len); exact rfl)))
      | ((with_reducible (show Exit.then _ _ _ _ _)); refine n_roundG (k + 1) (hJ _ _ _ _ ⟨_, _, rfl, by omega, by omega, hbl, hbm2, (by repeat (first | assumption | exact Ex.refl _ | (refine Ex.trans ?_ (by assumption)) | (refine Ex.of_grown ?_ (by assumption) (by intro k hk; cases hk; omega))))⟩ ⟨rfl, rfl, rfl, rfl, rfl, rfl, trivial⟩ rfl) (by omega))
      | (with_reducible apply W_nil)
      | (with_reducible apply WM_nil; intro wq he; have hsz := he.size)
      | (with_reducible apply WB_nil)
      | (with_reducible apply WT_nil)
      | (with_reducible apply WT_cons)
      | (with_reducible apply t_sink)
      | ((with_reducible apply t_keep); (focus ((repeat (first | assumption | exact Ex.refl _ | (refine Ex.trans ?_ (by assumption)) | (refine Ex.of_grown ?_ (by assumption) (by intro k hk; cases hk; omega)))); done)); intro wq he; have hsz := he.size)
      | (with_reducible apply c_seq)
      | ((with_reducible apply c_region); kernel_rfl)
      | (with_reducible apply n_nq)
      | (with_reducible apply c_block)
      | (with_reducible apply c_skip)
      | (with_reducible apply c_ret)
      | (with_reducible apply c_exit)
      | ((with_reducible apply c_cond_dec); exact rfl; intro _; rotate_left 1; intro _)
      | (with_reducible apply n_then)
      | (with_reducible apply n_block)
      | (with_reducible apply e_then)
      | (with_reducible apply e_block)
      | ((with_reducible apply p_ret1); exact rfl; exact rfl; ((conv => lhs; whnf) <;> exact rfl); refine ⟨_, rfl, ?_, (by repeat (first | assumption | exact Ex.refl _ | (refine Ex.trans ?_ (by assumption)) | (refine Ex.of_grown ?_ (by assumption) (by intro k hk; cases hk; omega))))⟩))
  all_goals first
    | (have hkl : k = zs.length := (by omega); subst hkl; rw [fillB_all] at hbm; exact OwnP.ofBx (Bx.ex (by repeat (first | exact Ex.refl _ | assumption | (refine Ex.of_grown ?_ (by assumption) (by intro k hk; cases hk; omega)) | (refine Ex.trans ?_ (by assumption)))) hbm) hzl.symm (by omega) hbl)
    | trace_state
theorem Add_any (va vb : Value) (a b : List (Int × Int)) (w : World) (h : Prs w va a) (k2 : Prs w vb b) : Ret Try.prog 38 [va, vb] w fun r w' => ∃ u, r = .tuple #[u, .int .i64 (addErr a b)] ∧ OwnP 61 w.heap.size w' u (if addErr a b = 0 then addS a b else []) := by
  have hv1 := h.one
  have hv2 := k2.one
  have hck := fun w2 (e : Ex w w2) => check_any 1 va a w2 (Prs.ex e h)
  have hck2 := fun w2 (e : Ex w w2) => check_any 1 vb b w2 (Prs.ex e k2)
  have heq := fun w2 (e : Ex w w2) => equalK_any va vb a b w2 (Prs.ex e h) (Prs.ex e k2)
  by_cases hc : chk 1 a = 0
  · rw [hc] at hck
    have ha := chk_inv hc
    have hsa := sh_ok ha.2.2
    by_cases hd : chk 1 b = 0
    · rw [hd] at hck2
      have hb := chk_inv hd
      have hsb := sh_ok hb.2.2
      by_cases hk : kS a = kS b
      · have hl : a.length = b.length := by rw [← kS_len a, ← kS_len b, hk]
        rw [show addErr a b = 0 by unfold addErr; rw [if_neg (Classical.not_not.2 hc), if_neg (Classical.not_not.2 hd), if_pos hk], if_pos rfl]
        refine ret_of_c Try.func38 rfl Try.ntmps38 (Nat.le_of_ble_eq_true rfl) (by dsimp only [ini, Nat.reduceAdd] <;> exact rfl) ?_
        repeat' (first
            | ((with_reducible apply c_cond_dec); exact rfl; intro _; rotate_left 1; intro _; (all_goals (try (exfalso; (focus (first | (omega; done) | contradiction))))))
            | ((first | ((with_reducible apply W_op); exact rfl; exact rfl)); (first | ((with_reducible apply r_move); ((conv => lhs; whnf) <;> exact rfl)) | ((with_reducible apply r_assign); ((conv => lhs; whnf) <;> exact rfl)) | ((with_reducible apply r_neq); exact rfl; exact rfl) | ((with_reducible apply r_not); exact rfl)))
            | (refine W_callv (hck _ (by repeat (first | assumption | exact Ex.refl _ | (refine Ex.trans ?_ (by assumption)) | (refine Ex.of_grown ?_ (by assumption) (by intro k hk; cases hk; omega))))) rfl (fun wq he => ?_); have hsz := he.size)
            | (refine W_callv (hck2 _ (by repeat (first | assumption | exact Ex.refl _ | (refine Ex.trans ?_ (by assumption)) | (refine Ex.of_grown ?_ (by assumption) (by intro k hk; cases hk; omega))))) rfl (fun wq he => ?_); have hsz := he.size)
            | (refine W_callv (heq _ (by repeat (first | assumption | exact Ex.refl _ | (refine Ex.trans ?_ (by assumption)) | (refine Ex.of_grown ?_ (by assumption) (by intro k hk; cases hk; omega))))) rfl (fun wq he => ?_); have hsz := he.size)
            | (refine W_call (combineP_any _ va vb a b _ (fun i w2 => sumS_any _ _ _ _ w2 (hsa.1 i).2 (hsb.1 i).2) (Prs.ex (by repeat (first | exact Ex.refl _ | assumption | (refine Ex.of_grown ?_ (by assumption) (by intro k hk; cases hk; omega)) | (refine Ex.trans ?_ (by assumption)))) h) (Prs.ex (by repeat (first | exact Ex.refl _ | assumption | (refine Ex.of_grown ?_ (by assumption) (by intro k hk; cases hk; omega)) | (refine Ex.trans ?_ (by assumption)))) k2) hl (by omega)) rfl ?_; rintro vq wq hown he; have hsz := he.size; have hown1 := hown.one)
            | (with_reducible apply W_nil)
            | (with_reducible apply c_seq)
            | ((with_reducible apply c_region); kernel_rfl)
            | (with_reducible apply n_nq)
            | (with_reducible apply c_skip)
            | (with_reducible apply c_ret)
            | (with_reducible apply n_then)
            | ((with_reducible apply p_ret2); exact rfl; exact rfl; ((conv => lhs; whnf) <;> exact rfl); ((conv => lhs; whnf) <;> exact rfl); refine ⟨_, rfl, ?_, (by repeat (first | assumption | exact Ex.refl _ | (refine Ex.trans ?_ (by assumption)) | (refine Ex.of_grown ?_ (by assumption) (by intro k hk; cases hk; omega))))⟩))
        all_goals first
          | exact ⟨_, rfl, OwnP.lower hown (by omega)⟩
          | trace_state
      · rw [show addErr a b = 14 by unfold addErr; rw [if_neg (Classical.not_not.2 hc), if_neg (Classical.not_not.2 hd), if_neg hk]]
        refine ret_of_c Try.func38 rfl Try.ntmps38 (Nat.le_of_ble_eq_true rfl) (by dsimp only [ini, Nat.reduceAdd] <;> exact rfl) ?_
        repeat' (first
            | ((with_reducible apply c_cond_dec); exact rfl; intro _; rotate_left 1; intro _; (all_goals (try (exfalso; (focus (first | (omega; done) | contradiction))))))
            | ((first | ((with_reducible apply W_op); exact rfl; exact rfl)); (first | ((with_reducible apply r_move); ((conv => lhs; whnf) <;> exact rfl)) | ((with_reducible apply r_assign); ((conv => lhs; whnf) <;> exact rfl)) | ((with_reducible apply r_neq); exact rfl; exact rfl) | ((with_reducible apply r_not); exact rfl)))
            | (refine W_callv (hck _ (by repeat (first | assumption | exact Ex.refl _ | (refine Ex.trans ?_ (by assumption)) | (refine Ex.of_grown ?_ (by assumption) (by intro k hk; cases hk; omega))))) rfl (fun wq he => ?_); have hsz := he.size)
            | (refine W_callv (hck2 _ (by repeat (first | assumption | exact Ex.refl _ | (refine Ex.trans ?_ (by assumption)) | (refine Ex.of_grown ?_ (by assumption) (by intro k hk; cases hk; omega))))) rfl (fun wq he => ?_); have hsz := he.size)
            | (refine W_callv (heq _ (by repeat (first | assumption | exact Ex.refl _ | (refine Ex.trans ?_ (by assumption)) | (refine Ex.of_grown ?_ (by assumption) (by intro k hk; cases hk; omega))))) rfl (fun wq he => ?_); have hsz := he.size)
            | (with_reducible apply W_nil)
            | (with_reducible apply c_seq)
            | ((with_reducible apply c_region); kernel_rfl)
            | (with_reducible apply n_nq)
            | (with_reducible apply c_skip)
            | (with_reducible apply c_ret)
            | (with_reducible apply n_then)
            | (with_reducible apply r_then)
            | ((with_reducible apply p_ret2); exact rfl; exact rfl; ((conv => lhs; whnf) <;> exact rfl); ((conv => lhs; whnf) <;> exact rfl); refine ⟨_, rfl, ?_, (by repeat (first | assumption | exact Ex.refl _ | (refine Ex.trans ?_ (by assumption)) | (refine Ex.of_grown ?_ (by assumption) (by intro k hk; cases hk; omega))))⟩))
        all_goals first
          | exact ⟨_, rfl, OwnP.nil _ _ _⟩
          | trace_state
    · have he : addErr a b = chk 1 b := by unfold addErr; rw [if_neg (Classical.not_not.2 hc), if_pos hd]
      rw [he]
      obtain ⟨e, hee⟩ : ∃ e, e = chk 1 b := ⟨_, rfl⟩
      rw [← hee] at hck2 hd ⊢
      rw [if_neg hd]
      refine ret_of_c Try.func38 rfl Try.ntmps38 (Nat.le_of_ble_eq_true rfl) (by dsimp only [ini, Nat.reduceAdd] <;> exact rfl) ?_
      repeat' (first
          | ((with_reducible apply c_cond_dec); exact rfl; intro _; rotate_left 1; intro _; (all_goals (try (exfalso; (focus (omega; done))))))
          | ((first | ((with_reducible apply W_op); exact rfl; exact rfl)); (first | ((with_reducible apply r_move); ((conv => lhs; whnf) <;> exact rfl)) | ((with_reducible apply r_assign); ((conv => lhs; whnf) <;> exact rfl)) | ((with_reducible apply r_neq); exact rfl; exact rfl)))
          | (refine W_callv (hck _ (by repeat (first | assumption | exact Ex.refl _ | (refine Ex.trans ?_ (by assumption)) | (refine Ex.of_grown ?_ (by assumption) (by intro k hk; cases hk; omega))))) rfl (fun wq he => ?_); have hsz := he.size)
          | (refine W_callv (hck2 _ (by repeat (first | assumption | exact Ex.refl _ | (refine Ex.trans ?_ (by assumption)) | (refine Ex.of_grown ?_ (by assumption) (by intro k hk; cases hk; omega))))) rfl (fun wq he => ?_); have hsz := he.size)
          | (with_reducible apply W_nil)
          | (with_reducible apply c_seq)
          | ((with_reducible apply c_region); kernel_rfl)
          | (with_reducible apply n_nq)
          | (with_reducible apply c_skip)
          | (with_reducible apply c_ret)
          | (with_reducible apply n_then)
          | (with_reducible apply r_then)
          | ((with_reducible apply p_ret2); exact rfl; exact rfl; ((conv => lhs; whnf) <;> exact rfl); ((conv => lhs; whnf) <;> exact rfl); refine ⟨_, rfl, ?_, (by repeat (first | assumption | exact Ex.refl _ | (refine Ex.trans ?_ (by assumption)) | (refine Ex.of_grown ?_ (by assumption) (by intro k hk; cases hk; omega))))⟩))
      all_goals first
        | exact ⟨_, rfl, OwnP.nil _ _ _⟩
        | trace_state
  · have he : addErr a b = chk 1 a := by unfold addErr; rw [if_pos hc]
    rw [he]
    obtain ⟨e, hee⟩ : ∃ e, e = chk 1 a := ⟨_, rfl⟩
    rw [← hee] at hck hc ⊢
    rw [if_neg hc]
    refine ret_of_c Try.func38 rfl Try.ntmps38 (Nat.le_of_ble_eq_true rfl) (by dsimp only [ini, Nat.reduceAdd] <;> exact rfl) ?_
    repeat' (first
        | ((with_reducible apply c_cond_dec); exact rfl; intro _; rotate_left 1; intro _; (all_goals (try (exfalso; (focus (omega; done))))))
        | ((first | ((with_reducible apply W_op); exact rfl; exact rfl)); (first | ((with_reducible apply r_move); ((conv => lhs; whnf) <;> exact rfl)) | ((with_reducible apply r_assign); ((conv => lhs; whnf) <;> exact rfl)) | ((with_reducible apply r_neq); exact rfl; exact rfl)))
        | (refine W_callv (hck _ (by repeat (first | assumption | exact Ex.refl _ | (refine Ex.trans ?_ (by assumption)) | (refine Ex.of_grown ?_ (by assumption) (by intro k hk; cases hk; omega))))) rfl (fun wq he => ?_); have hsz := he.size)
        | (with_reducible apply W_nil)
        | (with_reducible apply c_seq)
        | ((with_reducible apply c_region); kernel_rfl)
        | (with_reducible apply n_nq)
        | (with_reducible apply c_ret)
        | (with_reducible apply n_then)
        | (with_reducible apply r_then)
        | ((with_reducible apply p_ret2); exact rfl; exact rfl; ((conv => lhs; whnf) <;> exact rfl); ((conv => lhs; whnf) <;> exact rfl); refine ⟨_, rfl, ?_, (by repeat (first | assumption | exact Ex.refl _ | (refine Ex.trans ?_ (by assumption)) | (refine Ex.of_grown ?_ (by assumption) (by intro k hk; cases hk; omega))))⟩))
    all_goals first
      | exact ⟨_, rfl, OwnP.nil _ _ _⟩
      | trace_state
end Go.Proofs.Ytngoipmdhliigaa
