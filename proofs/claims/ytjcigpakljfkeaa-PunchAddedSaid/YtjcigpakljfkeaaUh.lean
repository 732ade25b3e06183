/-
  What this text proves: Holds is as the plain function says. Conditions: the values read as lists.
-/
import Derived.Test.YtjcigpakljfkeaaUf
set_option linter.unusedVariables false
set_option linter.unusedSimpArgs false

namespace Go.Pv
theorem shape_inv {s : Int × Int} {hl : List (Int × Int)} (h : ¬ shapeErr s hl ≠ 0) : slotsOk hl ∧ hl.length ≤ 200 := by
  have h0 := Classical.not_not.1 h
  unfold shapeErr at h0
  split at h0
  · omega
  · next h1 =>
    split at h0
    · omega
    · next h2 => exact ⟨Classical.not_not.1 fun hc => h2 (.inr hc), by omega⟩
theorem bars_three {gl gh lo na sh : Int} (h : ¬ paperOk gl gh lo na sh) : barsErr gl gh lo na sh = 3 := by unfold barsErr; rw [if_pos h]
theorem bars_paper {gl gh lo na sh : Int} (h : barsErr gl gh lo na sh ≠ 3) : paperOk gl gh lo na sh := Classical.not_not.1 fun hc => h (bars_three hc)
theorem bars_cases (gl gh lo na sh : Int) : barsErr gl gh lo na sh = 3 ∧ ¬ paperOk gl gh lo na sh ∨ barsErr gl gh lo na sh = 0 ∧ paperOk gl gh lo na sh ∨ barsErr gl gh lo na sh = 20 ∧ paperOk gl gh lo na sh := by
  unfold barsErr
  split
  · next h => exact .inl ⟨rfl, h⟩
  · next h =>
    split
    · exact .inr (.inr ⟨rfl, Classical.not_not.1 h⟩)
    · exact .inr (.inl ⟨rfl, Classical.not_not.1 h⟩)
theorem holds_paper {gl gh lo na sh e : Int} {s : Int × Int} {hl : List (Int × Int)} (hE : barsErr gl gh lo na sh = e) (h : e ≠ 0) (h2 : e ≠ 20) : holdsErr gl gh lo na sh s hl = e := by
  rcases bars_cases gl gh lo na sh with ⟨h3, h4⟩ | ⟨h3, h4⟩ | ⟨h3, h4⟩
  · unfold holdsErr; rw [if_pos h4]; omega
  · omega
  · omega
theorem paper_e {gl gh lo na sh e : Int} (hE : barsErr gl gh lo na sh = e) (h : e = 0 ∨ e = 20) : paperOk gl gh lo na sh := bars_paper (by omega)
theorem holds_slot {gl gh lo na sh : Int} {s : Int × Int} {hl : List (Int × Int)} (hp : paperOk gl gh lo na sh) (h : ¬ slotOk s) : holdsErr gl gh lo na sh s hl = 3 := by
  unfold holdsErr; rw [if_neg (Classical.not_not.2 hp), if_pos h]
theorem holds_shape {gl gh lo na sh : Int} {s : Int × Int} {hl : List (Int × Int)} (hp : paperOk gl gh lo na sh) (h : slotOk s) (h2 : shapeErr s hl ≠ 0) : holdsErr gl gh lo na sh s hl = shapeErr s hl := by
  unfold holdsErr; rw [if_neg (Classical.not_not.2 hp), if_neg (Classical.not_not.2 h), if_pos h2]
theorem holds_end {gl gh lo na sh a1 a2 b1 b2 : Int} {s : Int × Int} {hl : List (Int × Int)} (hA : barsA gl gh lo na sh = (a1, a2)) (hB : barsB gl gh lo na sh = (b1, b2)) (hp : paperOk gl gh lo na sh) (h : slotOk s) (h2 : ¬ shapeErr s hl ≠ 0) : holdsErr gl gh lo na sh s hl = if (∀ j, j < (lensL hl).length → a1 ≤ (lensL hl).getD j 0 ∧ (lensL hl).getD j 0 ≤ a2) ∧ (∀ j, j < (gapsL hl).length → b1 ≤ (gapsL hl).getD j 0 ∧ (gapsL hl).getD j 0 ≤ b2) then 0 else 21 := by
  unfold holdsErr
  rw [if_neg (Classical.not_not.2 hp), if_neg (Classical.not_not.2 h), if_neg h2, hA, hB]
  split
  · next hc => exact (if_pos ⟨all_getD (p := fun x => a1 ≤ x ∧ x ≤ a2).2 hc.1, all_getD (p := fun x => b1 ≤ x ∧ x ≤ b2).2 hc.2⟩).symm
  · next hc => exact (if_neg fun hd => hc ⟨all_getD (p := fun x => a1 ≤ x ∧ x ≤ a2).1 hd.1, all_getD (p := fun x => b1 ≤ x ∧ x ≤ b2).1 hd.2⟩).symm
end Go.Pv
namespace Go.Proofs.Ytjcigpakljfkeaa
open Go.Pv Go.RowKit
set_option maxHeartbeats 8000000

theorem holds_any (gl gh lo na sh a b : Int) (v : Value) (hl : List (Int × Int)) (w : World) (h : Prs w v hl) : Ret Try.prog 35 [.agg #[.int .i64 gl, .int .i64 gh, .int .i64 lo, .int .i64 na, .int .i64 sh], .agg #[.int .i64 a, .int .i64 b], v] w fun r _ => r = .int .i64 (holdsErr gl gh lo na sh (a, b) hl) := by
  have hv1 := h.one
  obtain ⟨a1, a2, hA⟩ : ∃ x y, barsA gl gh lo na sh = (x, y) := ⟨_, _, rfl⟩
  obtain ⟨b1, b2, hB⟩ : ∃ x y, barsB gl gh lo na sh = (x, y) := ⟨_, _, rfl⟩
  obtain ⟨e, hE⟩ : ∃ x, barsErr gl gh lo na sh = x := ⟨_, rfl⟩
  have hbars : ∀ w', Ret Try.prog 30 [.agg #[.int .i64 gl, .int .i64 gh, .int .i64 lo, .int .i64 na, .int .i64 sh]] w' fun r _ => r = .tuple #[.agg #[.int .i64 a1, .int .i64 a2], .agg #[.int .i64 b1, .int .i64 b2], .int .i64 e] := fun w' => (bars_any gl gh lo na sh w').monoU fun r w'' _ hr => by rw [hr, hA, hB, hE]; rfl
  refine ret_of_c Try.func35 rfl Try.ntmps35 (Nat.le_of_ble_eq_true rfl) (by dsimp only [ini, Nat.reduceAdd] <;> exact rfl) ?_
  repeat' (first
      | ((first | ((with_reducible apply W_op); exact rfl; exact rfl) | ((with_reducible apply WQ_op); exact rfl; exact rfl; intro wq he) | ((with_reducible apply WM_op); exact rfl; exact rfl; intro wq he) | ((with_reducible apply WB_op); exact rfl; exact rfl; intro wq)); (first | ((with_reducible apply r_move); ((conv => lhs; whnf) <;> exact rfl)) | ((with_reducible apply r_assign); ((conv => lhs; whnf) <;> exact rfl)) | ((with_reducible apply r_loadA); exact rfl; (first | assumption | exact Bx.cells (by repeat (first | assumption | ((with_reducible apply Bx.grownS); assumption; (first | omega | exact Bx.ne (by assumption) (by omega))) | ((with_reducible apply Bx.below); assumption; omega) | ((with_reducible apply OwnP.grownS); assumption; omega) | ((with_reducible apply Own.grownS); assumption; omega) | ((with_reducible apply OwnV.grownS); assumption; omega) | ((with_reducible apply OwnV.ex); assumption) | ((with_reducible apply Vals.ex); assumption) | ((with_reducible apply Bx.ex); assumption) | ((with_reducible apply IntsK.ex); assumption) | ((with_reducible apply Intss.ex); assumption) | ((with_reducible apply Own.ex); assumption) | ((with_reducible apply Prs.ex); assumption) | ((with_reducible apply OwnP.ex); assumption))) | exact Cells.ex (by assumption) (by assumption)); exact rfl) | ((with_reducible apply r_neq); exact rfl; exact rfl) | ((with_reducible apply r_pick_true); exact rfl; ((conv => lhs; whnf) <;> exact rfl)) | ((with_reducible apply r_pick_false); exact rfl; ((conv => lhs; whnf) <;> exact rfl)) | ((with_reducible apply r_not); exact rfl) | ((with_reducible apply r_extract); exact rfl; exact rfl)))
      | (refine W_callv (hbars _) rfl (fun wq he => ?_); have hsz := he.size)
      | (refine W_callv (isSlot_any a b _) rfl (fun wq he => ?_); have hsz := he.size)
      | (refine W_callv (checkHoles_any a b v hl _ (by repeat (first | assumption | ((with_reducible apply Bx.grownS); assumption; (first | omega | exact Bx.ne (by assumption) (by omega))) | ((with_reducible apply Bx.below); assumption; omega) | ((with_reducible apply OwnP.grownS); assumption; omega) | ((with_reducible apply Own.grownS); assumption; omega) | ((with_reducible apply OwnV.grownS); assumption; omega) | ((with_reducible apply OwnV.ex); assumption) | ((with_reducible apply Vals.ex); assumption) | ((with_reducible apply Bx.ex); assumption) | ((with_reducible apply IntsK.ex); assumption) | ((with_reducible apply Intss.ex); assumption) | ((with_reducible apply Own.ex); assumption) | ((with_reducible apply Prs.ex); assumption) | ((with_reducible apply OwnP.ex); assumption)))) rfl (fun wq he => ?_); have hsz := he.size)
      | (refine c_mixX (id := 9) [] [0, 1] 10 #[true, true, false, false, false, false, false, false, false, false, false, false] [false, false, false, false, false, false, false, false, false, false, false, false] [true, true, false, false, false, false, false, false, false, false, false, false] (by kernel_rfl) (by kernel_rfl) (by kernel_rfl) (by dsimp only [sel] <;> exact rfl) (by dsimp only [sel] <;> exact rfl) ?_)
      | (refine XT_one (t := 2) (s := false) (listed := #[true, true, false, false, false, false, false, false, false, false, false, false]) (listed' := #[true, true, true, false, false, false, false, false, false, false, false, false]) (by kernel_rfl) rfl (by kernel_rfl) (by kernel_rfl) ?_)
      | (refine XT_one (t := 3) (s := true) (listed := #[true, true, true, false, false, false, false, false, false, false, false, false]) (listed' := #[true, true, true, true, false, false, false, false, false, false, false, false]) (by kernel_rfl) rfl (by kernel_rfl) (by kernel_rfl) ?_)
      | (refine XT_pure (t := 4) (listed := #[true, true, true, true, false, false, false, false, false, false, false, false]) (listed' := #[true, true, true, true, true, false, false, false, false, false, false, false]) (by kernel_rfl) rfl rfl rfl (by kernel_rfl) (by intro wq; (first | ((with_reducible apply r_move); ((conv => lhs; whnf) <;> exact rfl)) | ((with_reducible apply r_not); exact rfl))) ?_)
      | (refine XT_pure (t := 5) (listed := #[true, true, true, true, true, false, false, false, false, false, false, false]) (listed' := #[true, true, true, true, true, true, false, false, false, false, false, false]) (by kernel_rfl) rfl rfl rfl (by kernel_rfl) (by intro wq; ((with_reducible apply r_move); ((conv => lhs; whnf) <;> exact rfl))) ?_)
      | (refine XT_two (t := 6) (t' := 7) (s := true) (s' := true) (listed := #[true, true, true, true, true, true, false, false, false, false, false, false]) (l1 := #[true, true, true, true, true, true, true, false, false, false, false, false]) (l1' := #[true, true, true, true, true, true, false, true, false, false, false, false]) (by kernel_rfl) rfl rfl (by kernel_rfl) (by kernel_rfl) (by kernel_rfl) (by kernel_rfl) ?_ ?_)
      | (refine XT_one (t := 7) (s := true) (listed := #[true, true, true, true, true, true, true, false, false, false, false, false]) (listed' := #[true, true, true, true, true, true, true, true, false, false, false, false]) (by kernel_rfl) rfl (by kernel_rfl) (by kernel_rfl) ?_)
      | (refine XT_two (t := 6) (t' := 8) (s := true) (s' := true) (listed := #[true, true, true, true, true, true, false, true, false, false, false, false]) (l1 := #[true, true, true, true, true, true, true, true, false, false, false, false]) (l1' := #[true, true, true, true, true, true, false, true, true, false, false, false]) (by kernel_rfl) rfl rfl (by kernel_rfl) (by kernel_rfl) (by kernel_rfl) (by kernel_rfl) ?_ ?_)
      | (refine XT_one (t := 8) (s := true) (listed := #[true, true, true, true, true, true, true, true, false, false, false, false]) (listed' := #[true, true, true, true, true, true, true, true, true, false, false, false]) (by kernel_rfl) rfl (by kernel_rfl) (by kernel_rfl) ?_)
      | (refine XT_one (t := 6) (s := true) (listed := #[true, true, true, true, true, true, false, true, true, false, false, false]) (listed' := #[true, true, true, true, true, true, true, true, true, false, false, false]) (by kernel_rfl) rfl (by kernel_rfl) (by kernel_rfl) ?_)
      | (refine XT_one (t := 9) (s := true) (listed := #[true, true, true, true, true, true, true, true, true, false, false, false]) (listed' := #[true, true, true, true, true, true, true, true, true, true, false, false]) (by kernel_rfl) rfl (by kernel_rfl) (by kernel_rfl) ?_)
      | (refine XT_one (t := 10) (s := true) (listed := #[true, true, true, true, true, true, true, true, true, true, false, false]) (listed' := #[true, true, true, true, true, true, true, true, true, true, true, false]) (by kernel_rfl) rfl (by kernel_rfl) (by kernel_rfl) ?_)
      | (refine XT_pure (t := 11) (listed := #[true, true, true, true, true, true, true, true, true, true, true, false]) (listed' := #[true, true, true, true, true, true, true, true, true, true, true, true]) (by kernel_rfl) rfl rfl rfl (by kernel_rfl) (by intro wq; (first | ((with_reducible apply r_pick_true); exact rfl; ((conv => lhs; whnf) <;> exact rfl)) | ((with_reducible apply r_pick_false); exact rfl; ((conv => lhs; whnf) <;> exact rfl)))) ?_)
      | (with_reducible apply XB_nil)
      | ((with_reducible apply XM_nil); intro wq he; have hsz := he.size)
      | ((with_reducible apply XT_nil); kernel_rfl)
      | (with_reducible apply x_sink)
      | ((with_reducible apply x_keep); (focus ((repeat (first | assumption | exact Ex.refl _ | (refine Ex.trans ?_ (by assumption)) | (refine Ex.of_grown ?_ (by assumption) (by intro k hk; cases hk; omega)))); done)); intro wq he; have hsz := he.size)
      | (refine W_call (holesI_any v hl _ (by repeat (first | assumption | ((with_reducible apply Bx.grownS); assumption; (first | omega | exact Bx.ne (by assumption) (by omega))) | ((with_reducible apply Bx.below); assumption; omega) | ((with_reducible apply OwnP.grownS); assumption; omega) | ((with_reducible apply Own.grownS); assumption; omega) | ((with_reducible apply OwnV.grownS); assumption; omega) | ((with_reducible apply OwnV.ex); assumption) | ((with_reducible apply Vals.ex); assumption) | ((with_reducible apply Bx.ex); assumption) | ((with_reducible apply IntsK.ex); assumption) | ((with_reducible apply Intss.ex); assumption) | ((with_reducible apply Own.ex); assumption) | ((with_reducible apply Prs.ex); assumption) | ((with_reducible apply OwnP.ex); assumption))) (near_slots (shape_inv (s := (a, b)) (hl := hl) (by assumption)).1) (by have := (shape_inv (s := (a, b)) (hl := hl) (by assumption)).2; omega)) rfl ?_; rintro vq wq hg he; have hsz := he.size)
      | (refine W_call (bridgesI_any v hl _ (by repeat (first | assumption | ((with_reducible apply Bx.grownS); assumption; (first | omega | exact Bx.ne (by assumption) (by omega))) | ((with_reducible apply Bx.below); assumption; omega) | ((with_reducible apply OwnP.grownS); assumption; omega) | ((with_reducible apply Own.grownS); assumption; omega) | ((with_reducible apply OwnV.grownS); assumption; omega) | ((with_reducible apply OwnV.ex); assumption) | ((with_reducible apply Vals.ex); assumption) | ((with_reducible apply Bx.ex); assumption) | ((with_reducible apply IntsK.ex); assumption) | ((with_reducible apply Intss.ex); assumption) | ((with_reducible apply Own.ex); assumption) | ((with_reducible apply Prs.ex); assumption) | ((with_reducible apply OwnP.ex); assumption))) (near_slots (shape_inv (s := (a, b)) (hl := hl) (by assumption)).1) (by have := (shape_inv (s := (a, b)) (hl := hl) (by assumption)).2; omega)) rfl ?_; rintro vq wq hg he; have hsz := he.size)
      | (refine W_callv (within_any a1 a2 _ _ _ (by repeat (first | assumption | ((with_reducible apply Bx.grownS); assumption; (first | omega | exact Bx.ne (by assumption) (by omega))) | ((with_reducible apply Bx.below); assumption; omega) | ((with_reducible apply OwnP.grownS); assumption; omega) | ((with_reducible apply Own.grownS); assumption; omega) | ((with_reducible apply OwnV.grownS); assumption; omega) | ((with_reducible apply OwnV.ex); assumption) | ((with_reducible apply Vals.ex); assumption) | ((with_reducible apply Bx.ex); assumption) | ((with_reducible apply IntsK.ex); assumption) | ((with_reducible apply Intss.ex); assumption) | ((with_reducible apply Own.ex); assumption) | ((with_reducible apply Prs.ex); assumption) | ((with_reducible apply OwnP.ex); assumption)))) rfl (fun wq he => ?_); have hsz := he.size)
      | (refine W_callv (within_any b1 b2 _ _ _ (by repeat (first | assumption | ((with_reducible apply Bx.grownS); assumption; (first | omega | exact Bx.ne (by assumption) (by omega))) | ((with_reducible apply Bx.below); assumption; omega) | ((with_reducible apply OwnP.grownS); assumption; omega) | ((with_reducible apply Own.grownS); assumption; omega) | ((with_reducible apply OwnV.grownS); assumption; omega) | ((with_reducible apply OwnV.ex); assumption) | ((with_reducible apply Vals.ex); assumption) | ((with_reducible apply Bx.ex); assumption) | ((with_reducible apply IntsK.ex); assumption) | ((with_reducible apply Intss.ex); assumption) | ((with_reducible apply Own.ex); assumption) | ((with_reducible apply Prs.ex); assumption) | ((with_reducible apply OwnP.ex); assumption)))) rfl (fun wq he => ?_); have hsz := he.size)
      | (with_reducible apply W_nil)
      | ((with_reducible apply W_box); exact rfl; exact rfl; intro bq wq hbq he hnq; have hltq := Bx.lt hbq; have hsz := he.size)
      | ((with_reducible apply W_alloc); exact rfl; intro bq wq hbq he hnq; have hltq := Bx.lt hbq; have hsz := he.size)
      | ((with_reducible apply W_storeA); exact rfl; (focus ((repeat (first | assumption | ((with_reducible apply Bx.grownS); assumption; (first | omega | exact Bx.ne (by assumption) (by omega))) | ((with_reducible apply Bx.below); assumption; omega) | ((with_reducible apply OwnP.grownS); assumption; omega) | ((with_reducible apply Own.grownS); assumption; omega) | ((with_reducible apply OwnV.grownS); assumption; omega) | ((with_reducible apply OwnV.ex); assumption) | ((with_reducible apply Vals.ex); assumption) | ((with_reducible apply Bx.ex); assumption) | ((with_reducible apply IntsK.ex); assumption) | ((with_reducible apply Intss.ex); assumption) | ((with_reducible apply Own.ex); assumption) | ((with_reducible apply Prs.ex); assumption) | ((with_reducible apply OwnP.ex); assumption))); done)); exact rfl; exact rfl; exact rfl; (repeat' (first | exact trivial | (first | exact rfl | assumption | exact IntsK.one (by assumption) | exact Intss.one (by assumption) | exact Prs.one (by assumption) | exact OwnP.one (by assumption) | exact OwnV.one (by assumption) | exact Vals.one (by assumption) | exact Own.one (by assumption)) | constructor)); intro wq hbq hgq; have he : Ex w wq := (by repeat (first | assumption | exact Ex.refl _ | (refine Ex.trans ?_ (by assumption)) | (refine Ex.of_grown ?_ (by assumption) (by intro k hk; cases hk; omega)))); have hsz := he.size)
      | ((with_reducible apply W_pass); exact rfl; exact rfl; exact rfl; exact rfl; exact rfl)
      | ((with_reducible apply W_take); exact rfl; exact rfl; exact rfl)
      | ((with_reducible apply W_split); exact rfl; exact rfl; intro _; rotate_left 1; intro _)
      | (with_reducible apply c_seq)
      | ((with_reducible apply c_region); kernel_rfl)
      | (with_reducible apply n_nq)
      | (with_reducible apply c_skip)
      | (with_reducible apply c_ret)
      | ((with_reducible apply c_cond_true); exact rfl)
      | ((with_reducible apply c_cond_false); exact rfl)
      | ((with_reducible apply c_cond_dec); exact rfl; intro _; rotate_left 1; intro _)
      | (with_reducible apply n_then)
      | (with_reducible apply r_then)
      | ((with_reducible apply p_ret1); exact rfl; exact rfl; ((conv => lhs; whnf) <;> exact rfl); refine ⟨_, rfl, ?_, (by repeat (first | assumption | exact Ex.refl _ | (refine Ex.trans ?_ (by assumption)) | (refine Ex.of_grown ?_ (by assumption) (by intro k hk; cases hk; omega))))⟩))
  all_goals apply int_eq; symm
  all_goals first
    | exact holds_paper hE (by omega) (by omega)
    | exact holds_slot (paper_e hE (by omega)) (by assumption)
    | exact holds_shape (paper_e hE (by omega)) (Classical.not_not.1 (by assumption)) (by assumption)
    | (rw [holds_end hA hB (paper_e hE (by omega)) (Classical.not_not.1 (by assumption)) (by assumption)]; first | exact if_pos ⟨(by assumption), (by assumption)⟩ | exact if_neg (fun hc => absurd hc.1 (by assumption)) | exact if_neg (fun hc => absurd hc.2 (by assumption)) | exact if_pos ⟨Classical.not_not.1 (by assumption), Classical.not_not.1 (by assumption)⟩)
end Go.Proofs.Ytjcigpakljfkeaa
