/-
  (heavy) (rows) What this text proves: the covers and packings of one more tick, and the best picks for each number of ticks, are as the plain functions say. Conditions: the values read as lists.
-/
import Derived.Test.YtlphfobpheefkaaVAb
set_option linter.unusedVariables false
set_option linter.unusedSimpArgs false
namespace Go.Pv
open Go.RowKit
section
variable {P : Program} {l : St} {w : World} {od : Option Nat} {ty : TypeId} {pos : String} {af : Array Edge}
theorem r_max2E {x y : Operand} {ts : Array TypeId} {m n c : Int} (hx : ev l x = .int .i64 m) (hy : ev l y = .int .i64 n) (h : max m n = c) : Runs P ⟨od, .call { callee := .builtin .max, args := #[x, y], argTypes := ts }, ty, pos, af, none⟩ l w (.int .i64 c) := by
  subst h; exact r_max2 hx hy
theorem r_subE {x y : Operand} {T T2 : TypeId} {m n c : Int} (hx : ev l x = .int .i64 m) (hy : ev l y = .int .i64 n) (h : m - n = c) (hc : -9223372036854775808 ≤ c ∧ c ≤ 9223372036854775807) : Runs P ⟨od, .binOp .sub T x y T2, ty, pos, af, none⟩ l w (.int .i64 c) := by
  subst h; exact r_sub hx hy hc
end
theorem OwnR.built {α : Type} {f : α → List Value} {n : Nat} {E : TypeId} {base b : Nat} {w : World} {m : α} (h : Bx w b (f m) E) (hf : (f m).length = n) (hb : base ≤ b) : OwnR f n E base w (.slice (some ⟨b, 0, none⟩) 1 1) [m] := by
  unfold Bx at h
  unfold OwnR
  refine ⟨by simp [maxLen], by simp [hf], .inr ⟨b, 1, (f m).toArray, rfl, hb, h, by simp, by decide, by simp [hf], ?_⟩⟩
  simp
  exact List.take_of_length_le (by omega)
end Go.Pv
namespace Go.Proofs.Ytlphfobpheefkaa
open Go.Pv Go.RowKit
set_option maxHeartbeats 8000000
set_option maxRecDepth 20000
theorem covers_any (lv fv : Value) (l : List (Int × Int)) (fw : List Pk) (w : World) (h : Prs w lv l) (hf : Row p3 3 w fv fw) (hb : bdTo l l.length) (hl : l.length ≤ 5) (h1 : 1 ≤ fw.length) (h2 : fw.length ≤ 1000) (ha : ∀ j, j < fw.length → 0 ≤ (fw.getD j pk0).1 ∧ (fw.getD j pk0).1 ≤ 1000000000) :
    Ret Try.prog 63 [.agg #[lv], fv] w fun r w' => OwnR p3 3 80 w.heap.size w' r (covF l fw) := by
  have hv1 := h.one
  have hv2 := hf.one
  have tkA : True := trivial
  refine ret_of_c Try.func63 rfl Try.ntmps63 (Nat.le_of_ble_eq_true rfl) (by dsimp only [ini, Nat.reduceAdd] <;> exact rfl) ?_
  repeat' (first
      | (clear tkB; (obtain ⟨xa, hxa⟩ : ∃ q, (l.getD k (0, 0)).1 = q := ⟨_, rfl⟩); (obtain ⟨xb, hxb⟩ : ∃ q, (l.getD k (0, 0)).2 = q := ⟨_, rfl⟩); (have hcl := covTo_len l fw k); (have hov := OwnR.one hown); (obtain ⟨B, hB⟩ : ∃ B, befN l fw.length k = B := ⟨_, rfl⟩); (by_cases hkl : k < l.length; (have hbk := hb k hkl; unfold bdOk at hbk; rw [hxa, hxb] at hbk); have hBe : max 0 ((fw.length : Int) - xa) = (B : Int) := (by rw [← hB]; unfold befN; rw [hxa]; omega); have hBl : B < fw.length := (by rw [← hB]; unfold befN; rw [hxa]; omega); have haB := ha B hBl; (obtain ⟨am, ham⟩ : ∃ q, (fw.getD B pk0).1 = q := ⟨_, rfl⟩); rw [ham] at haB; (have hex : extP l fw k = (am + xb, (k : Int), (B : Int)) := (by unfold extP; rw [hB, ham, hxb]))); all_goals (have tkC : True := trivial))
      | (have _ := tkC; (with_reducible apply c_cond_dec); exact rfl; intro _; rotate_left 1; intro _; (all_goals (try (exfalso; (focus (omega; done))))))
      | (have _ := tkC; refine W_indexPr2 (i := k) (v := lv) (xs := l) rfl (Prs.ex (show Ex w _ from (by repeat (first | exact Ex.refl _ | assumption | (refine Ex.of_grown ?_ (by assumption) (by intro k hk; cases hk; omega)) | (refine Ex.trans ?_ (by assumption))))) h) rfl (by omega) ?_; intro pb po hpc hp0 hp1; (have hpc : Cells wr ⟨pb, po, none⟩ [.int .i64 xa, .int .i64 xb] := (by rw [← hxa, ← hxb]; exact hpc)))
      | (have _ := tkC; (with_reducible apply W_op); exact rfl; exact rfl; exact r_loadA rfl (Cells.ex (show Ex wr _ from (by repeat (first | exact Ex.refl _ | assumption | (refine Ex.of_grown ?_ (by assumption) (by intro k hk; cases hk; omega)) | (refine Ex.trans ?_ (by assumption))))) hpc) rfl)
      | ((with_reducible apply W_op); exact rfl; exact rfl; exact r_lenR rfl (Row.ex (show Ex w _ from (by repeat (first | exact Ex.refl _ | assumption | (refine Ex.of_grown ?_ (by assumption) (by intro k hk; cases hk; omega)) | (refine Ex.trans ?_ (by assumption))))) hf))
      | ((with_reducible apply W_op); exact rfl; exact rfl; exact r_lenPrs rfl (Prs.ex (show Ex w _ from (by repeat (first | exact Ex.refl _ | assumption | (refine Ex.of_grown ?_ (by assumption) (by intro k hk; cases hk; omega)) | (refine Ex.trans ?_ (by assumption))))) h))
      | ((with_reducible apply W_op); exact rfl; exact rfl; exact r_max2E rfl rfl hBe)
      | (refine c_mix (id := 6) [] [0, 1, 2, 3, 4, 5, 6, 7, 8, 9, 10, 11] [12, 13, 14] [false, false, false, false, false, false, false, false, false, false, false, false, false, false, false] [true, true, true, true, true, true, true, true, true, true, true, true, false, false, false] [none, none, none, none, none, none, none, none, none, none, none, none, some false, some true, some true] (by kernel_rfl) (by kernel_rfl) (by kernel_rfl) (by kernel_rfl) (by kernel_rfl) (by kernel_rfl) (by dsimp only [sel] <;> exact rfl) (by dsimp only [sel] <;> exact rfl) (by dsimp only [selT] <;> exact rfl) ?_)
      | (refine WM_indexRw (f := p3) (n := 3) (v := fv) (xs := fw) (i := B) pk0 p3_len (by decide) rfl (Row.ex (show Ex w _ from (by repeat (first | exact Ex.refl _ | assumption | (refine Ex.of_grown ?_ (by assumption) (by intro k hk; cases hk; omega)) | (refine Ex.trans ?_ (by assumption))))) hf) rfl (by omega) ?_; intro pb po hpc; (obtain ⟨hp0, _, _⟩ := cells3 hpc); rw [ham] at hp0)
      | ((with_reducible apply W_bsR3); exact rfl; intro bq wq hbq he hnq; have hltq := Bx.lt hbq; have hsz := he.size)
      | (refine W_appendR (f := p3) (n := 3) (m := (am + xb, (k : Int), (B : Int))) (w0 := w) (base := w.heap.size) (xs := covTo l fw k) p3_len (by decide) rfl rfl (OwnR.ex (show Ex wr _ from (by repeat (first | exact Ex.refl _ | assumption | (refine Ex.of_grown ?_ (by assumption) (by intro k hk; cases hk; omega)) | (refine Ex.trans ?_ (by assumption))))) hown) rfl (by repeat (first | assumption | ((with_reducible apply Bx.grownS); assumption; (first | omega | exact Bx.ne (by assumption) (by omega))) | ((with_reducible apply Bx.below); assumption; omega) | ((with_reducible apply Bx.ex); assumption))) rfl (by omega) (show Ex w _ from (by repeat (first | exact Ex.refl _ | assumption | (refine Ex.of_grown ?_ (by assumption) (by intro k hk; cases hk; omega)) | (refine Ex.trans ?_ (by assumption))))) (Nat.le_refl _) (by omega) ?_; intro r2 wq hown2 he hkq hgq; have hsz := he.size; have hr21 := OwnR.one hown2)
      | ((with_reducible (show C _ _ _ _ _ _)); clear tkA; refine c_loopG (fun (k : Nat) ps wr => ∃ r : Value, ∃ i : Int, ps = [(1, fv), (5, r), (10, lv), (11, .int .i64 (l.length : Int)), (12, .int .i64 i)] ∧ i = k ∧ k ≤ l.length ∧ OwnR p3 3 80 w.heap.size wr r (covTo l fw k) ∧ Ex w wr) (fun k => l.length - k) 0 _ ⟨_, _, rfl, rfl, Nat.zero_le _, OwnR.nil _ _ _, (by repeat (first | assumption | exact Ex.refl _ | (refine Ex.trans ?_ (by assumption)) | (refine Ex.of_grown ?_ (by assumption) (by intro k hk; cases hk; omega))))⟩ ⟨rfl, rfl, rfl, rfl, rfl, trivial⟩ (by ((conv => lhs; whnf) <;> exact rfl)) (by ((conv => lhs; whnf) <;> exact rfl)) ?_; rintro J hJ k u ps wr ⟨r, i, rfl, rfl, hk, hown, he⟩; have hsz := he.size; have tkB : True := trivial)
      | ((first | ((with_reducible apply W_op); exact rfl; exact rfl) | ((with_reducible apply WQ_op); exact rfl; exact rfl; intro wq he) | ((with_reducible apply WM_op); exact rfl; exact rfl; intro wq he) | ((with_reducible apply WB_op); exact rfl; exact rfl; intro wq)); (first | ((with_reducible apply r_move); ((conv => lhs; whnf) <;> exact rfl)) | ((with_reducible apply r_assign); ((conv => lhs; whnf) <;> exact rfl)) | ((with_reducible apply r_fieldAddr); exact rfl) | ((with_reducible apply r_load); exact rfl; exact rfl; (first | assumption | exact (Bx.cell (by repeat (first | assumption | ((with_reducible apply Bx.grownS); assumption; (first | omega | exact Bx.ne (by assumption) (by omega))) | ((with_reducible apply Bx.below); assumption; omega) | ((with_reducible apply Bx.ex); assumption))) _).trans rfl | exact Ex.cell (by assumption) (by assumption))) | ((with_reducible apply r_lss); exact rfl; exact rfl) | ((with_reducible apply r_add); exact rfl; exact rfl; omega) | ((with_reducible apply r_sub); exact rfl; exact rfl; omega) | ((with_reducible apply r_build3); ((conv => lhs; whnf) <;> exact rfl); ((conv => lhs; whnf) <;> exact rfl); ((conv => lhs; whnf) <;> exact rfl); (first | exact rfl | assumption | exact IntsK.one (by assumption) | exact Prs.one (by assumption) | exact OwnP.one (by assumption) | exact Own.one (by assumption) | exact Row.one (by assumption) | exact OwnR.one (by assumption)); (first | exact rfl | assumption | exact IntsK.one (by assumption) | exact Prs.one (by assumption) | exact OwnP.one (by assumption) | exact Own.one (by assumption) | exact Row.one (by assumption) | exact OwnR.one (by assumption)); (first | exact rfl | assumption | exact IntsK.one (by assumption) | exact Prs.one (by assumption) | exact OwnP.one (by assumption) | exact Own.one (by assumption) | exact Row.one (by assumption) | exact OwnR.one (by assumption)); exact rfl; exact rfl; ((simp only [lay, lset, List.replicate_succ, List.replicate_zero]) <;> exact rfl))))
      | ((with_reducible (show Exit.then _ _ _ _ _)); refine n_roundG (k + 1) (hJ _ _ _ _ ⟨_, _, rfl, by omega, by omega, (by simp only [covTo]; rw [hex]; exact hown2), (by repeat (first | assumption | exact Ex.refl _ | (refine Ex.trans ?_ (by assumption)) | (refine Ex.of_grown ?_ (by assumption) (by intro k hk; cases hk; omega))))⟩ ⟨rfl, rfl, rfl, rfl, rfl, trivial⟩ rfl) (by omega))
      | (with_reducible apply W_nil)
      | (with_reducible apply WM_nil; intro wq he; have hsz := he.size)
      | (with_reducible apply WB_nil)
      | (with_reducible apply WT_nil)
      | (with_reducible apply WT_cons)
      | (with_reducible apply t_sink)
      | ((with_reducible apply t_keep); (focus ((repeat (first | assumption | exact Ex.refl _ | (refine Ex.trans ?_ (by assumption)) | (refine Ex.of_grown ?_ (by assumption) (by intro k hk; cases hk; omega)))); done)); intro wq he; have hsz := he.size)
      | ((with_reducible apply W_box); exact rfl; exact rfl; intro bq wq hbq he hnq; have hltq := Bx.lt hbq; have hsz := he.size)
      | ((with_reducible apply W_alloc); exact rfl; intro bq wq hbq he hnq; have hltq := Bx.lt hbq; have hsz := he.size)
      | ((with_reducible apply W_storeA); exact rfl; (focus ((repeat (first | assumption | ((with_reducible apply Bx.grownS); assumption; (first | omega | exact Bx.ne (by assumption) (by omega))) | ((with_reducible apply Bx.below); assumption; omega) | ((with_reducible apply Bx.ex); assumption))); done)); exact rfl; exact rfl; exact rfl; (repeat' (first | exact trivial | (first | exact rfl | assumption | exact IntsK.one (by assumption) | exact Prs.one (by assumption) | exact OwnP.one (by assumption) | exact Own.one (by assumption) | exact Row.one (by assumption) | exact OwnR.one (by assumption)) | constructor)); intro wq hbq hgq; have he : Ex w wq := (by repeat (first | assumption | exact Ex.refl _ | (refine Ex.trans ?_ (by assumption)) | (refine Ex.of_grown ?_ (by assumption) (by intro k hk; cases hk; omega)))); have hsz := he.size; have hgz := hgq.size)
      | (with_reducible apply c_seq)
      | ((with_reducible apply c_region); kernel_rfl)
      | (with_reducible apply n_nq)
      | (with_reducible apply c_block)
      | (with_reducible apply c_skip)
      | (with_reducible apply c_ret)
      | (with_reducible apply c_exit)
      | (with_reducible apply n_then)
      | (with_reducible apply n_block)
      | (with_reducible apply e_then)
      | (with_reducible apply e_block)
      | ((with_reducible apply p_ret1); exact rfl; exact rfl; ((conv => lhs; whnf) <;> exact rfl); refine ⟨_, rfl, ?_, (by repeat (first | assumption | exact Ex.refl _ | (refine Ex.trans ?_ (by assumption)) | (refine Ex.of_grown ?_ (by assumption) (by intro k hk; cases hk; omega))))⟩))
  all_goals first
    | (rw [show k = l.length by omega] at hown; exact hown)
    | trace_state
end Go.Proofs.Ytlphfobpheefkaa
