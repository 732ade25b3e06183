/-
  (heavy) (rows) What this text proves: the packings of one more tick, and the best picks for each number of ticks, are as the plain functions say. Conditions: the values read as lists.
-/
import Derived.Test.YtlphfobpheefkaaVAc
set_option linter.unusedVariables false
set_option linter.unusedSimpArgs false
namespace Go.Proofs.Ytlphfobpheefkaa
open Go.Pv Go.RowKit
set_option maxHeartbeats 8000000
set_option maxRecDepth 20000
theorem packings_any (lv fv : Value) (l : List (Int × Int)) (fw : List Pk) (w : World) (h : Prs w lv l) (hf : Row p3 3 w fv fw) (hb : bdTo l l.length) (hl : l.length ≤ 5) (h1 : 1 ≤ fw.length) (h2 : fw.length ≤ 1000) (ha : ∀ j, j < fw.length → 0 ≤ (fw.getD j pk0).1 ∧ (fw.getD j pk0).1 ≤ 1000000000) :
    Ret Try.prog 65 [.agg #[lv], fv] w fun r w' => OwnR p3 3 80 w.heap.size w' r (packF l fw) := by
  have hv1 := h.one
  have hv2 := hf.one
  have tkA : True := trivial
  have tk0 : True := trivial
  refine ret_of_c Try.func65 rfl Try.ntmps65 (Nat.le_of_ble_eq_true rfl) (by dsimp only [ini, Nat.reduceAdd] <;> exact rfl) ?_
  repeat' (first
      | (clear tkB; (obtain ⟨xa, hxa⟩ : ∃ q, (l.getD k (0, 0)).1 = q := ⟨_, rfl⟩); (obtain ⟨xb, hxb⟩ : ∃ q, (l.getD k (0, 0)).2 = q := ⟨_, rfl⟩); (have hcl := (packTo_len l fw k).2); (have hov := OwnR.one hown); (obtain ⟨B, hB⟩ : ∃ B, befN l fw.length k = B := ⟨_, rfl⟩); (by_cases hkl : k < l.length; (have hbk := hb k hkl; unfold bdOk at hbk; rw [hxa, hxb] at hbk); (by_cases hyes : (l.getD k (0, 0)).1 ≤ fw.length; (have hpy := pack_yes hyes); have hyx := hyes; rw [hxa] at hyx; have hBe : (fw.length : Int) - xa = (B : Int) := (by rw [← hB]; unfold befN; rw [hxa]; omega); have hBl : B < fw.length := (by rw [← hB]; unfold befN; rw [hxa]; omega); have haB := ha B hBl; (obtain ⟨am, ham⟩ : ∃ q, (fw.getD B pk0).1 = q := ⟨_, rfl⟩); rw [ham] at haB; (have hex : extP l fw k = (am + xb, (k : Int), (B : Int)) := (by unfold extP; rw [hB, ham, hxb])); rotate_left 1; (have hpn := pack_no hyes); have hyx := hyes; rw [hxa] at hyx)); all_goals (have tkC : True := trivial))
      | (have _ := tkC; (with_reducible apply c_cond_dec); exact rfl; intro _; rotate_left 1; intro _; (all_goals (try (exfalso; (focus (omega; done))))))
      | (have _ := tkC; refine W_indexPr2 (i := k) (v := lv) (xs := l) rfl (Prs.ex (show Ex w _ from (by repeat (first | exact Ex.refl _ | assumption | (refine Ex.of_grown ?_ (by assumption) (by intro k hk; cases hk; omega)) | (refine Ex.trans ?_ (by assumption))))) h) rfl (by omega) ?_; intro pb po hpc hp0 hp1; (have hpc : Cells wr ⟨pb, po, none⟩ [.int .i64 xa, .int .i64 xb] := (by rw [← hxa, ← hxb]; exact hpc)))
      | (have _ := tkC; (with_reducible apply W_op); exact rfl; exact rfl; exact r_loadA rfl (Cells.ex (show Ex wr _ from (by repeat (first | exact Ex.refl _ | assumption | (refine Ex.of_grown ?_ (by assumption) (by intro k hk; cases hk; omega)) | (refine Ex.trans ?_ (by assumption))))) hpc) rfl)
      | ((with_reducible apply W_op); exact rfl; exact rfl; exact r_lenR rfl (Row.ex (show Ex w _ from (by repeat (first | exact Ex.refl _ | assumption | (refine Ex.of_grown ?_ (by assumption) (by intro k hk; cases hk; omega)) | (refine Ex.trans ?_ (by assumption))))) hf))
      | ((with_reducible apply W_op); exact rfl; exact rfl; exact r_lenPrs rfl (Prs.ex (show Ex w _ from (by repeat (first | exact Ex.refl _ | assumption | (refine Ex.of_grown ?_ (by assumption) (by intro k hk; cases hk; omega)) | (refine Ex.trans ?_ (by assumption))))) h))
      | (have _ := tkC; (with_reducible apply W_op); exact rfl; exact rfl; exact r_subE rfl rfl hBe (by omega))
      | (refine c_mix (id := 7) [] [0, 1, 2, 3, 4, 5, 6, 7, 8, 9, 10, 11] [12, 13, 14] [false, false, false, false, false, false, false, false, false, false, false, false, false, false, false] [true, true, true, true, true, true, true, true, true, true, true, true, false, false, false] [none, none, none, none, none, none, none, none, none, none, none, none, some false, some true, some true] (by kernel_rfl) (by kernel_rfl) (by kernel_rfl) (by kernel_rfl) (by kernel_rfl) (by kernel_rfl) (by dsimp only [sel] <;> exact rfl) (by dsimp only [sel] <;> exact rfl) (by dsimp only [selT] <;> exact rfl) ?_)
      | (clear tk0; refine W_indexRw (f := p3) (n := 3) (v := fv) (xs := fw) (i := fw.length - 1) pk0 p3_len (by decide) rfl (Row.ex (show Ex w _ from (by repeat (first | exact Ex.refl _ | assumption | (refine Ex.of_grown ?_ (by assumption) (by intro k hk; cases hk; omega)) | (refine Ex.trans ?_ (by assumption))))) hf) (Eq.trans (b := Value.int .i64 _) rfl (congrArg _ (by omega))) (by omega) ?_; intro pb po hpc; (obtain ⟨u0, hu0⟩ : ∃ q, fw.getD (fw.length - 1) pk0 = q := ⟨_, rfl⟩); rw [hu0] at hpc; obtain ⟨x0, x1, x2⟩ := u0; (have hpc : Cells _ ⟨pb, po, none⟩ [.int .i64 x0, .int .i64 x1, .int .i64 x2] := hpc); have tk1 : True := trivial)
      | (have _ := tk1; (with_reducible apply W_op); exact rfl; exact rfl; exact r_loadA rfl hpc rfl)
      | (clear tk1; (with_reducible apply W_bsR3); exact rfl; intro bq wq hbq he hnq; have hltq := Bx.lt hbq; have hsz := he.size; (have hown := OwnR.built (f := p3) (n := 3) (m := (x0, x1, x2)) (base := w.heap.size) hbq rfl (by omega)); rw [← hu0] at hown)
      | (refine WM_indexRw (f := p3) (n := 3) (v := fv) (xs := fw) (i := B) pk0 p3_len (by decide) rfl (Row.ex (show Ex w _ from (by repeat (first | exact Ex.refl _ | assumption | (refine Ex.of_grown ?_ (by assumption) (by intro k hk; cases hk; omega)) | (refine Ex.trans ?_ (by assumption))))) hf) rfl (by omega) ?_; intro pb po hpc; (obtain ⟨hp0, _, _⟩ := cells3 hpc); rw [ham] at hp0)
      | ((with_reducible apply W_bsR3); exact rfl; intro bq wq hbq he hnq; have hltq := Bx.lt hbq; have hsz := he.size)
      | (refine W_appendR (f := p3) (n := 3) (m := (am + xb, (k : Int), (B : Int))) (w0 := w) (base := w.heap.size) (xs := packTo l fw k) p3_len (by decide) rfl rfl (OwnR.ex (show Ex wr _ from (by repeat (first | exact Ex.refl _ | assumption | (refine Ex.of_grown ?_ (by assumption) (by intro k hk; cases hk; omega)) | (refine Ex.trans ?_ (by assumption))))) hown) rfl (by repeat (first | assumption | ((with_reducible apply Bx.grownS); assumption; (first | omega | exact Bx.ne (by assumption) (by omega))) | ((with_reducible apply Bx.below); assumption; omega) | ((with_reducible apply Bx.ex); assumption))) rfl (by omega) (show Ex w _ from (by repeat (first | exact Ex.refl _ | assumption | (refine Ex.of_grown ?_ (by assumption) (by intro k hk; cases hk; omega)) | (refine Ex.trans ?_ (by assumption))))) (Nat.le_refl _) (by omega) ?_; intro r2 wq hown2 he hkq hgq; have hsz := he.size; have hr21 := OwnR.one hown2)
      | ((with_reducible (show C _ _ _ _ _ _)); clear tkA; refine c_loopG (fun (k : Nat) ps wr => ∃ r : Value, ∃ i : Int, ps = [(1, fv), (5, r), (17, lv), (18, .int .i64 (l.length : Int)), (19, .int .i64 i)] ∧ i = k ∧ k ≤ l.length ∧ OwnR p3 3 80 w.heap.size wr r (packTo l fw k) ∧ Ex w wr) (fun k => l.length - k) 0 _ ⟨_, _, rfl, rfl, Nat.zero_le _, hown, (by repeat (first | assumption | exact Ex.refl _ | (refine Ex.trans ?_ (by assumption)) | (refine Ex.of_grown ?_ (by assumption) (by intro k hk; cases hk; omega))))⟩ ⟨rfl, rfl, rfl, rfl, rfl, trivial⟩ (by ((conv => lhs; whnf) <;> exact rfl)) (by ((conv => lhs; whnf) <;> exact rfl)) ?_; rintro J hJ k u ps wr ⟨r, i, rfl, rfl, hk, hown, he⟩; have hsz := he.size; have tkB : True := trivial)
      | ((first | ((with_reducible apply W_op); exact rfl; exact rfl) | ((with_reducible apply WQ_op); exact rfl; exact rfl; intro wq he) | ((with_reducible apply WM_op); exact rfl; exact rfl; intro wq he) | ((with_reducible apply WB_op); exact rfl; exact rfl; intro wq)); (first | ((with_reducible apply r_move); ((conv => lhs; whnf) <;> exact rfl)) | ((with_reducible apply r_assign); ((conv => lhs; whnf) <;> exact rfl)) | ((with_reducible apply r_fieldAddr); exact rfl) | ((with_reducible apply r_load); exact rfl; exact rfl; (first | assumption | exact (Bx.cell (by repeat (first | assumption | ((with_reducible apply Bx.grownS); assumption; (first | omega | exact Bx.ne (by assumption) (by omega))) | ((with_reducible apply Bx.below); assumption; omega) | ((with_reducible apply Bx.ex); assumption))) _).trans rfl | exact Ex.cell (by assumption) (by assumption))) | ((with_reducible apply r_lss); exact rfl; exact rfl) | ((with_reducible apply r_geq); exact rfl; exact rfl) | ((with_reducible apply r_add); exact rfl; exact rfl; omega) | ((with_reducible apply r_sub); exact rfl; exact rfl; omega) | ((with_reducible apply r_build3); ((conv => lhs; whnf) <;> exact rfl); ((conv => lhs; whnf) <;> exact rfl); ((conv => lhs; whnf) <;> exact rfl); (first | exact rfl | assumption | exact IntsK.one (by assumption) | exact Prs.one (by assumption) | exact OwnP.one (by assumption) | exact Own.one (by assumption) | exact Row.one (by assumption) | exact OwnR.one (by assumption)); (first | exact rfl | assumption | exact IntsK.one (by assumption) | exact Prs.one (by assumption) | exact OwnP.one (by assumption) | exact Own.one (by assumption) | exact Row.one (by assumption) | exact OwnR.one (by assumption)); (first | exact rfl | assumption | exact IntsK.one (by assumption) | exact Prs.one (by assumption) | exact OwnP.one (by assumption) | exact Own.one (by assumption) | exact Row.one (by assumption) | exact OwnR.one (by assumption)); exact rfl; exact rfl; ((simp only [lay, lset, List.replicate_succ, List.replicate_zero]) <;> exact rfl))))
      | ((with_reducible (show Exit.then _ _ _ _ _)); refine n_roundG (k + 1) (hJ _ _ _ _ ⟨_, _, rfl, by omega, by omega, (by rw [hpy, hex]; exact hown2), (by repeat (first | assumption | exact Ex.refl _ | (refine Ex.trans ?_ (by assumption)) | (refine Ex.of_grown ?_ (by assumption) (by intro k hk; cases hk; omega))))⟩ ⟨rfl, rfl, rfl, rfl, rfl, trivial⟩ rfl) (by omega))
      | ((with_reducible (show Exit.then _ _ _ _ _)); refine n_roundG (k + 1) (hJ _ _ _ _ ⟨_, _, rfl, by omega, by omega, (by rw [hpn]; exact OwnR.ex (show Ex wr _ from (by repeat (first | exact Ex.refl _ | assumption | (refine Ex.of_grown ?_ (by assumption) (by intro k hk; cases hk; omega)) | (refine Ex.trans ?_ (by assumption))))) hown), (by repeat (first | assumption | exact Ex.refl _ | (refine Ex.trans ?_ (by assumption)) | (refine Ex.of_grown ?_ (by assumption) (by intro k hk; cases hk; omega))))⟩ ⟨rfl, rfl, rfl, rfl, rfl, trivial⟩ rfl) (by omega))
      | (with_reducible apply W_nil)
      | (with_reducible apply WM_nil; intro wq he; have hsz := he.size)
      | (with_reducible apply WB_nil)
      | (with_reducible apply WT_nil)
      | (with_reducible apply WT_cons)
      | (with_reducible apply t_sink)
      | ((with_reducible apply t_keep); (focus ((repeat (first | assumption | exact Ex.refl _ | (refine Ex.trans ?_ (by assumption)) | (refine Ex.of_grown ?_ (by assumption) (by intro k hk; cases hk; omega)))); done)); intro wq he; have hsz := he.size)
      | ((with_reducible apply W_box); exact rfl; exact rfl; intro bq wq hbq he hnq; have hltq := Bx.lt hbq; have hsz := he.size)
      | ((with_reducible apply W_alloc); exact rfl; intro bq wq hbq he hnq; have hltq := Bx.lt hbq; have hsz := he.size)
      | ((with_reducible apply W_storeA); exact rfl; (focus ((repeat (first | assumption | ((with_reducible apply Bx.grownS); assumption; (first | omega | exact Bx.ne (by assumption) (by omega))) | ((with_reducible apply Bx.below); assumption; omega) | ((with_reducible apply Bx.ex); assumption))); done)); exact rfl; exact rfl; exact rfl; (repeat' (first | exact trivial | (first | exact rfl | assumption | exact IntsK.one (by assumption) | exact Prs.one (by assumption) | exact OwnP.one (by assumption) | exact Own.one (by assumption) | exact Row.one (by assumption) | exact OwnR.one (by assumption)) | constructor)); intro wq hbq hgq; have he : Ex w wq := (by repeat (first | assumption | exact Ex.refl _ | (refine Ex.trans ?_ (by assumption)) | (refine Ex.of_grown ?_ (by assumption) (by intro k hk; cases hk; omega)))); have hsz := he.size; have hgz := hgq.size)
      | (with_reducible apply c_seq)
      | ((with_reducible apply c_region); kernel_rfl)
      | (with_reducible apply n_nq)
      | (with_reducible apply c_block)
      | (with_reducible apply c_skip)
      | (with_reducible apply c_ret)
      | (with_reducible apply c_exit)
      | (with_reducible apply n_then)
      | (with_reducible apply n_block)
      | (with_reducible apply e_then)
      | (with_reducible apply e_block)
      | ((with_reducible apply p_ret1); exact rfl; exact rfl; ((conv => lhs; whnf) <;> exact rfl); refine ⟨_, rfl, ?_, (by repeat (first | assumption | exact Ex.refl _ | (refine Ex.trans ?_ (by assumption)) | (refine Ex.of_grown ?_ (by assumption) (by intro k hk; cases hk; omega))))⟩))
  all_goals first
    | (rw [show k = l.length by omega] at hown; exact hown)
    | trace_state
/-- The best picks, whatever extends them and orders them. -/
theorem bestOf_any {fe fo : FuncId} [Fun Try.prog fe] [Fun Try.prog fo] (F : List Pk → List Pk) (c : Pk → Pk → Int) (n : Nat) (lv : Value) (w : World) (hn : n ≤ 900) (hlv : lv.oneCell' = true)
    (hc : ∀ (x y : Pk) (w2 : World), Ret Try.prog fo [vk x, vk y] w2 fun r _ => r = .int .i64 (c x y))
    (hF : ∀ (m : Nat) (fv : Value) (w2 : World), m < n → Ex w w2 → Row p3 3 w2 fv (bestL F c m) → Ret Try.prog fe [.agg #[lv], fv] w2 fun r w' => OwnR p3 3 80 w2.heap.size w' r (F (bestL F c m)))
    (hl : ∀ m, m < n → 0 < (F (bestL F c m)).length ∧ (F (bestL F c m)).length ≤ 1000) :
    Ret Try.prog 62 [.int .i64 (n : Int), vk pk0, .func (.func fe) #[.agg #[lv]] #[], .func (.func fo) #[] #[]] w fun r w' => OwnR p3 3 80 w.heap.size w' r (bestL F c n) := by
  have tkA : True := trivial
  have tk1 : True := trivial
  refine ret_of_c Try.func62 rfl Try.ntmps62 (Nat.le_of_ble_eq_true rfl) (by dsimp only [ini, Nat.reduceAdd] <;> exact rfl) ?_
  repeat' (first
      | (clear tkB; (have hov := OwnR.one hown); (have hbl := bestL_len F c k); (by_cases hkn : k < n; (have hFk := fun fv w2 => hF k fv w2 hkn); (have hlk := hl k hkn); rotate_left 1); all_goals (have tkC : True := trivial))
      | (have _ := tkC; (with_reducible apply c_cond_dec); exact rfl; intro _; rotate_left 1; intro _; (all_goals (try (exfalso; (focus (omega; done))))))
      | (clear tk1; (with_reducible apply W_bsR3); exact rfl; intro bq wq hbq he hnq; have hltq := Bx.lt hbq; have hsz := he.size; (have hown := OwnR.built (f := p3) (n := 3) (m := pk0) (base := w.heap.size) hbq rfl (by omega)))
      | (have _ := tkC; refine W_callf (f := fe) (first := [.agg #[lv]]) (captured := []) (vs := [r]) rfl (hFk r _ (show Ex w _ from (by repeat (first | exact Ex.refl _ | assumption | (refine Ex.of_grown ?_ (by assumption) (by intro k hk; cases hk; omega)) | (refine Ex.trans ?_ (by assumption))))) (OwnR.row p3_len (OwnR.ex (show Ex wr _ from (by repeat (first | exact Ex.refl _ | assumption | (refine Ex.of_grown ?_ (by assumption) (by intro k hk; cases hk; omega)) | (refine Ex.trans ?_ (by assumption))))) hown))) rfl ?_; rintro ev wa hoe he; have hsz := he.size; have he1 := OwnR.one hoe; have hrow := OwnR.row p3_len hoe)
      | (have _ := tkC; refine W_callv (minFunc_any c hc _ (F (bestL F c k)) _ hrow hlk.1 hlk.2) rfl (fun wq he => ?_); have hsz := he.size)
      | (have _ := tkC; (with_reducible apply W_bsR3); exact rfl; intro bq wq hbq he hnq; have hltq := Bx.lt hbq; have hsz := he.size)
      | (have _ := tkC; refine W_appendR (f := p3) (n := 3) (m := minOf c (F (bestL F c k))) (w0 := w) (base := w.heap.size) (xs := bestL F c k) p3_len (by decide) rfl rfl (OwnR.ex (show Ex wr _ from (by repeat (first | exact Ex.refl _ | assumption | (refine Ex.of_grown ?_ (by assumption) (by intro k hk; cases hk; omega)) | (refine Ex.trans ?_ (by assumption))))) hown) rfl (by repeat (first | assumption | ((with_reducible apply Bx.grownS); assumption; (first | omega | exact Bx.ne (by assumption) (by omega))) | ((with_reducible apply Bx.below); assumption; omega) | ((with_reducible apply Bx.ex); assumption))) rfl (by omega) (show Ex w _ from (by repeat (first | exact Ex.refl _ | assumption | (refine Ex.of_grown ?_ (by assumption) (by intro k hk; cases hk; omega)) | (refine Ex.trans ?_ (by assumption))))) (Nat.le_refl _) (by omega) ?_; intro r2 wq hown2 he hkq hgq; have hsz := he.size; have hr21 := OwnR.one hown2)
      | ((with_reducible (show C _ _ _ _ _ _)); clear tkA; refine c_loopG (fun (k : Nat) ps wr => ∃ r : Value, ∃ i : Int, ps = [(2, .func (.func fe) #[.agg #[lv]] #[]), (3, .func (.func fo) #[] #[]), (9, r), (12, .int .i64 (n : Int)), (13, .int .i64 i)] ∧ i = k ∧ k ≤ n ∧ OwnR p3 3 80 w.heap.size wr r (bestL F c k) ∧ Ex w wr) (fun k => n - k) 0 _ ⟨_, _, rfl, rfl, Nat.zero_le _, hown, (by repeat (first | assumption | exact Ex.refl _ | (refine Ex.trans ?_ (by assumption)) | (refine Ex.of_grown ?_ (by assumption) (by intro k hk; cases hk; omega))))⟩ ⟨rfl, rfl, rfl, rfl, rfl, trivial⟩ (by ((conv => lhs; whnf) <;> exact rfl)) (by ((conv => lhs; whnf) <;> exact rfl)) ?_; rintro J hJ k u ps wr ⟨r, i, rfl, rfl, hk, hown, he⟩; have hsz := he.size; have tkB : True := trivial)
      | ((first | ((with_reducible apply W_op); exact rfl; exact rfl)); (first | ((with_reducible apply r_move); ((conv => lhs; whnf) <;> exact rfl)) | ((with_reducible apply r_assign); ((conv => lhs; whnf) <;> exact rfl)) | ((with_reducible apply r_loadA); exact rfl; (first | assumption | exact Bx.cells (by repeat (first | assumption | ((with_reducible apply Bx.grownS); assumption; (first | omega | exact Bx.ne (by assumption) (by omega))) | ((with_reducible apply Bx.below); assumption; omega) | ((with_reducible apply Bx.ex); assumption))) | exact Cells.ex (by assumption) (by assumption)); exact rfl) | ((with_reducible apply r_lss); exact rfl; exact rfl) | ((with_reducible apply r_add); exact rfl; exact rfl; omega)))
      | ((with_reducible (show Exit.then _ _ _ _ _)); refine n_roundG (k + 1) (hJ _ _ _ _ ⟨_, _, rfl, by omega, by omega, (by simp only [bestL]; exact hown2), (by repeat (first | assumption | exact Ex.refl _ | (refine Ex.trans ?_ (by assumption)) | (refine Ex.of_grown ?_ (by assumption) (by intro k hk; cases hk; omega))))⟩ ⟨rfl, rfl, rfl, rfl, rfl, trivial⟩ rfl) (by omega))
      | (with_reducible apply W_nil)
      | ((with_reducible apply W_box); exact rfl; exact rfl; intro bq wq hbq he hnq; have hltq := Bx.lt hbq; have hsz := he.size)
      | (with_reducible apply c_seq)
      | ((with_reducible apply c_region); kernel_rfl)
      | (with_reducible apply n_nq)
      | (with_reducible apply c_block)
      | (with_reducible apply c_skip)
      | (with_reducible apply c_ret)
      | (with_reducible apply c_exit)
      | (with_reducible apply n_then)
      | (with_reducible apply n_block)
      | (with_reducible apply e_then)
      | (with_reducible apply e_block)
      | ((with_reducible apply p_ret1); exact rfl; exact rfl; ((conv => lhs; whnf) <;> exact rfl); refine ⟨_, rfl, ?_, (by repeat (first | assumption | exact Ex.refl _ | (refine Ex.trans ?_ (by assumption)) | (refine Ex.of_grown ?_ (by assumption) (by intro k hk; cases hk; omega))))⟩))
  all_goals first
    | (rw [show k = n by omega] at hown; exact hown)
    | trace_state
end Go.Proofs.Ytlphfobpheefkaa
