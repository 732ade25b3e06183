/-
  (heavy) What this text proves: which shares are off a curve, whether shares agree, and their errors, as the plain functions say. Conditions: the values read as lists.
-/
import Derived.Test.YtngoipmdhliigaaVKf
import Derived.Test.YtngoipmdhliigaaVKh
set_option linter.unusedVariables false
set_option linter.unusedSimpArgs false
namespace Go.Pv
open Go.RowKit
/-- The keepers of the first k shares that do not lie on a curve. -/
def offTo (F : Int → Int) (sh : List (Int × Int)) : Nat → List Int
  | 0 => []
  | k + 1 => if F (sh.getD k (0, 0)).1 = (sh.getD k (0, 0)).2 then offTo F sh k else offTo F sh k ++ [(sh.getD k (0, 0)).1]
theorem off_yes {F : Int → Int} {sh : List (Int × Int)} {k : Nat} (h : F (sh.getD k (0, 0)).1 = (sh.getD k (0, 0)).2) : offTo F sh (k + 1) = offTo F sh k := by simp only [offTo]; rw [if_pos h]
theorem off_no {F : Int → Int} {sh : List (Int × Int)} {k : Nat} (h : ¬ F (sh.getD k (0, 0)).1 = (sh.getD k (0, 0)).2) : offTo F sh (k + 1) = offTo F sh k ++ [(sh.getD k (0, 0)).1] := by simp only [offTo]; rw [if_neg h]
theorem off_len {F : Int → Int} {sh : List (Int × Int)} : ∀ k, (offTo F sh k).length ≤ k
  | 0 => by simp [offTo]
  | k + 1 => by
    have := off_len (F := F) (sh := sh) k
    simp only [offTo]
    split
    · omega
    · simp; omega
theorem off_nil {F : Int → Int} {sh : List (Int × Int)} : ∀ k, offTo F sh k = [] ↔ ∀ i, i < k → F (sh.getD i (0, 0)).1 = (sh.getD i (0, 0)).2
  | 0 => ⟨fun _ i hi => absurd hi (by omega), fun _ => rfl⟩
  | k + 1 => by
    have ih := off_nil (F := F) (sh := sh) k
    simp only [offTo]
    by_cases h : F (sh.getD k (0, 0)).1 = (sh.getD k (0, 0)).2
    · rw [if_pos h, ih]
      constructor
      · intro h2 i hi
        rcases Nat.lt_or_ge i k with h3 | h3
        · exact h2 i h3
        · obtain rfl : i = k := by omega
          exact h
      · exact fun h2 i hi => h2 i (by omega)
    · rw [if_neg h]
      constructor
      · intro h2; simp at h2
      · intro h2; exact absurd (h2 k (by omega)) h
/-- The curve through the first shares. -/
def lgS (sh : List (Int × Int)) (n : Nat) : Int → Int := lgA (kS (sh.take n)) (vS (sh.take n))
/-- Whether shares agree. -/
def agreeP (need : Nat) (sh : List (Int × Int)) : Prop := offTo (lgS sh (min need sh.length)) sh sh.length = []
instance (need : Nat) (sh : List (Int × Int)) : Decidable (agreeP need sh) := by unfold agreeP; exact inferInstance
theorem okS.take {sh : List (Int × Int)} (h : okS sh) (n : Nat) : okS (sh.take n) := fun i => by
  by_cases hi : i < (sh.take n).length
  · simp at hi
    have e : (sh.take n).getD i (0, 0) = sh.getD i (0, 0) := by simp only [List.getD]; rw [List.getElem?_take_of_lt (by omega)]
    rw [e]; exact h i
  · have e : (sh.take n).getD i (0, 0) = (0, 0) := by simp only [List.getD]; rw [List.getElem?_eq_none (by omega)]; rfl
    rw [e]; unfold nb; decide
theorem sort_nil {xs : List Int} : ((sortL xs).length : Int) = 0 ↔ xs = [] := by
  rw [sortL_len]
  constructor
  · intro h; exact List.eq_nil_of_length_eq_zero (by omega)
  · intro h; subst h; rfl
end Go.Pv
namespace Go.Proofs.Ytngoipmdhliigaa
open Go.Pv Go.RowKit Go.Sort
set_option maxHeartbeats 8000000
set_option maxRecDepth 20000
theorem keepersOff_any (c v : Value) (F : Int → Int) (sh : List (Int × Int)) (w : World) (hc : CurveOf Try.prog w c F) (h : Prs w v sh) (hs : okS sh) (hl : sh.length ≤ 1000) : Ret Try.prog 69 [c, v] w fun r w' => Pv.Own 3 w.heap.size w' r (sortL (offTo F sh sh.length)) := by
  have hc1 := hc.one
  have hv1 := h.one
  have hol := fun k => off_len (F := F) (sh := sh) k
  have tkL : True := trivial
  refine ret_of_c Try.func69 rfl Try.ntmps69 (Nat.le_of_ble_eq_true rfl) (by dsimp only [ini, Nat.reduceAdd] <;> exact rfl) ?_
  repeat' (first
      | (refine W_indexPr2 (i := k) (v := v) (xs := sh) rfl (Prs.ex (show Ex w _ from (by repeat (first | exact Ex.refl _ | assumption | (refine Ex.of_grown ?_ (by assumption) (by intro k hk; cases hk; omega)) | (refine Ex.trans ?_ (by assumption))))) h) rfl (by omega) ?_; intro pb po hpc hp0 hp1)
      | (refine W_appendO (w0 := w) (base := w.heap.size) (m := (sh.getD k (0, 0)).1) (xs := offTo F sh k) rfl rfl (Pv.Own.ex (by repeat (first | exact Ex.refl _ | assumption | (refine Ex.of_grown ?_ (by assumption) (by intro k hk; cases hk; omega)) | (refine Ex.trans ?_ (by assumption)))) hown) rfl (by repeat (first | assumption | ((with_reducible apply Bx.grownS); assumption; (first | omega | exact Bx.ne (by assumption) (by omega))) | ((with_reducible apply Bx.below); assumption; omega) | ((with_reducible apply Bx.ex); assumption))) (by have := hol k; omega) (by repeat (first | assumption | exact Ex.refl _ | (refine Ex.trans ?_ (by assumption)) | (refine Ex.of_grown ?_ (by assumption) (by intro k hk; cases hk; omega)))) (by omega) (by omega) ?_; intro r2 wq hown3 hr21 he hkn hgq; have hsz := he.size)
      | ((with_reducible (show C _ _ _ _ _ _)); clear tkL; refine c_loopG (fun (k : Nat) ps wr => ∃ r : Value, ∃ i : Int, ps = [(0, c), (1, v), (5, r), (8, v), (9, .int .i64 sh.length), (10, .int .i64 i)] ∧ i = k ∧ k ≤ sh.length ∧ Pv.Own 3 w.heap.size wr r (offTo F sh k) ∧ Ex w wr) (fun k => sh.length - k) 0 _ ⟨_, _, rfl, rfl, Nat.zero_le _, Pv.Own.nil _ _ _, (by repeat (first | assumption | exact Ex.refl _ | (refine Ex.trans ?_ (by assumption)) | (refine Ex.of_grown ?_ (by assumption) (by intro k hk; cases hk; omega))))⟩ ⟨rfl, rfl, rfl, rfl, rfl, rfl, trivial⟩ (by ((conv => lhs; whnf) <;> exact rfl)) (by ((conv => lhs; whnf) <;> exact rfl)) ?_; rintro J hJ k u ps wr ⟨r, i, rfl, rfl, hk, hown, he⟩; have hsz := he.size)
      | ((first | ((with_reducible apply W_op); exact rfl; exact rfl)); (first | ((with_reducible apply r_move); ((conv => lhs; whnf) <;> exact rfl)) | ((with_reducible apply r_assign); ((conv => lhs; whnf) <;> exact rfl)) | ((with_reducible apply r_fieldAddr); exact rfl) | ((with_reducible apply r_load); exact rfl; exact rfl; (first | assumption | exact (Bx.cell (by repeat (first | assumption | ((with_reducible apply Bx.grownS); assumption; (first | omega | exact Bx.ne (by assumption) (by omega))) | ((with_reducible apply Bx.below); assumption; omega) | ((with_reducible apply Bx.ex); assumption))) _).trans rfl | exact Ex.cell (by assumption) (by assumption))) | ((with_reducible apply r_loadA); exact rfl; (first | assumption | exact Bx.cells (by repeat (first | assumption | ((with_reducible apply Bx.grownS); assumption; (first | omega | exact Bx.ne (by assumption) (by omega))) | ((with_reducible apply Bx.below); assumption; omega) | ((with_reducible apply Bx.ex); assumption))) | exact Cells.ex (by assumption) (by assumption)); exact rfl) | ((with_reducible apply r_lss); exact rfl; exact rfl) | ((with_reducible apply r_add); exact rfl; exact rfl; omega) | ((with_reducible apply r_lenPrs); ((conv => lhs; whnf) <;> exact rfl); (focus ((repeat (first | assumption | ((refine IntsK.exH (by assumption) ?_); (focus ((repeat (first | exact Ex.refl _ | assumption | (refine Ex.of_grown ?_ (by assumption) (by intro k hk; cases hk; omega)) | (refine Ex.trans ?_ (by assumption)))); done))) | ((refine Prs.exH (by assumption) ?_); (focus ((repeat (first | exact Ex.refl _ | assumption | (refine Ex.of_grown ?_ (by assumption) (by intro k hk; cases hk; omega)) | (refine Ex.trans ?_ (by assumption)))); done))) | ((with_reducible apply Bx.grownS); assumption; (first | omega | exact Bx.ne (by assumption) (by omega))) | ((with_reducible apply Bx.below); assumption; omega) | ((with_reducible apply OwnP.grownS); assumption; omega) | ((with_reducible apply Own.grownS); assumption; omega) | ((with_reducible apply Bx.ex); assumption) | ((with_reducible apply IntsK.ex); assumption) | ((with_reducible apply Own.ex); assumption) | ((with_reducible apply Prs.ex); assumption) | ((with_reducible apply OwnP.ex); assumption))); done))) | ((with_reducible apply r_not); exact rfl)))
      | (refine W_callv (liesOn_any c F (sh.getD k (0, 0)).1 (sh.getD k (0, 0)).2 _ (hc.ex (by repeat (first | assumption | exact Ex.refl _ | (refine Ex.trans ?_ (by assumption)) | (refine Ex.of_grown ?_ (by assumption) (by intro k hk; cases hk; omega))))) (hs k).1) rfl (fun wq he => ?_); have hsz := he.size)
      | (refine W_callR (sorted_own Try.slices_Sort_int Try.slices_Sort_int_none (by have := hol k; omega) hown) rfl ?_; rintro uq wq ⟨hown2, hgo⟩; have he : Ex w wq := Ex.of_grown (by assumption) hgo (by intro k hk; have := hown.block k hk; omega))
      | ((with_reducible (show Exit.then _ _ _ _ _)); refine n_roundG (k + 1) (hJ _ _ _ _ ⟨_, _, rfl, by omega, by omega, (by rw [off_yes (by first | assumption | exact Classical.not_not.1 (by assumption))]; exact Pv.Own.ex (by repeat (first | exact Ex.refl _ | assumption | (refine Ex.of_grown ?_ (by assumption) (by intro k hk; cases hk; omega)) | (refine Ex.trans ?_ (by assumption)))) hown), (by repeat (first | assumption | exact Ex.refl _ | (refine Ex.trans ?_ (by assumption)) | (refine Ex.of_grown ?_ (by assumption) (by intro k hk; cases hk; omega))))⟩ ⟨rfl, rfl, rfl, rfl, rfl, rfl, trivial⟩ rfl) (by omega))
      | ((with_reducible (show Exit.then _ _ _ _ _)); refine n_roundG (k + 1) (hJ _ _ _ _ ⟨_, _, rfl, by omega, by omega, (by rw [off_no (by assumption)]; exact hown3), (by repeat (first | assumption | exact Ex.refl _ | (refine Ex.trans ?_ (by assumption)) | (refine Ex.of_grown ?_ (by assumption) (by intro k hk; cases hk; omega))))⟩ ⟨rfl, rfl, rfl, rfl, rfl, rfl, trivial⟩ rfl) (by omega))
      | (with_reducible apply W_nil)
      | ((with_reducible apply W_alloc); exact rfl; intro bq wq hbq he hnq; have hltq := Bx.lt hbq; have hsz := he.size)
      | ((with_reducible apply W_storeA); exact rfl; (focus ((repeat (first | assumption | ((with_reducible apply Bx.grownS); assumption; (first | omega | exact Bx.ne (by assumption) (by omega))) | ((with_reducible apply Bx.below); assumption; omega) | ((with_reducible apply Bx.ex); assumption))); done)); exact rfl; exact rfl; exact rfl; (repeat' (first | exact trivial | (first | exact rfl | assumption | exact IntsK.one (by assumption) | exact Prs.one (by assumption) | exact OwnP.one (by assumption) | exact Own.one (by assumption)) | constructor)); intro wq hbq hgq; have he : Ex w wq := (by repeat (first | assumption | exact Ex.refl _ | (refine Ex.trans ?_ (by assumption)) | (refine Ex.of_grown ?_ (by assumption) (by intro k hk; cases hk; omega)))); have hsz := he.size; have hgz := hgq.size)
      | ((with_reducible apply W_bs1); ((conv => lhs; whnf) <;> exact rfl); (first | exact rfl | assumption | exact IntsK.one (by assumption) | exact Prs.one (by assumption) | exact OwnP.one (by assumption) | exact Own.one (by assumption)); decide; decide; exact rfl; exact rfl; ((simp only [lay, lset, List.replicate_succ, List.replicate_zero]) <;> exact rfl); intro bq wq hbq he hnq; have hltq := Bx.lt hbq; have hsz := he.size)
      | (with_reducible apply c_seq)
      | ((with_reducible apply c_region); kernel_rfl)
      | (with_reducible apply n_nq)
      | (with_reducible apply c_block)
      | (with_reducible apply c_skip)
      | (with_reducible apply c_ret)
      | (with_reducible apply c_exit)
      | ((with_reducible apply c_cond_dec); exact rfl; intro _; rotate_left 1; intro _)
      | (with_reducible apply n_then)
      | (with_reducible apply n_block)
      | (with_reducible apply e_then)
      | (with_reducible apply e_block)
      | ((with_reducible apply p_ret1); exact rfl; exact rfl; ((conv => lhs; whnf) <;> exact rfl); refine ⟨_, rfl, ?_, (by repeat (first | assumption | exact Ex.refl _ | (refine Ex.trans ?_ (by assumption)) | (refine Ex.of_grown ?_ (by assumption) (by intro k hk; cases hk; omega))))⟩))
  all_goals first
    | (have hkn : k = sh.length := (by omega); subst hkn; exact hown2)
    | trace_state
theorem agree_any (need : Nat) (v : Value) (sh : List (Int × Int)) (w : World) (h : Prs w v sh) (hs : okS sh) (hn : need ≤ 1000) (hl : sh.length ≤ 1000) : Ret Try.prog 57 [.int .i64 (need : Int), v] w fun r _ => r = .bool (decide (agreeP need sh)) := by
  have hv1 := h.one
  obtain ⟨m, hm⟩ : ∃ m, m = min need sh.length := ⟨_, rfl⟩
  have hm2 : m ≤ sh.length := by omega
  have hcur := fun w2 (e : Ex w w2) => curve_through (w0 := w2) (Prs.ex e (Prs.take h hm2)) (okS.take hs m)
  refine ret_of_c Try.func57 rfl Try.ntmps57 (Nat.le_of_ble_eq_true rfl) (by dsimp only [ini, Nat.reduceAdd] <;> exact rfl) ?_
  repeat' (first
      | ((with_reducible apply W_op); exact rfl; exact rfl; exact r_lenPrs rfl (Prs.ex (show Ex w _ from (by repeat (first | exact Ex.refl _ | assumption | (refine Ex.of_grown ?_ (by assumption) (by intro k hk; cases hk; omega)) | (refine Ex.trans ?_ (by assumption))))) h))
      | ((with_reducible apply W_op); exact rfl; exact rfl; exact r_takeP (i := m) (xs := sh) rfl (Prs.ex (show Ex w _ from (by repeat (first | exact Ex.refl _ | assumption | (refine Ex.of_grown ?_ (by assumption) (by intro k hk; cases hk; omega)) | (refine Ex.trans ?_ (by assumption))))) h) (Eq.trans (b := Value.int .i64 _) rfl (congrArg _ (by omega))) hm2)
      | ((first | ((with_reducible apply W_op); exact rfl; exact rfl)); (first | ((with_reducible apply r_move); ((conv => lhs; whnf) <;> exact rfl)) | ((with_reducible apply r_assign); ((conv => lhs; whnf) <;> exact rfl)) | ((with_reducible apply r_eql); exact rfl; exact rfl) | ((with_reducible apply r_lenInts); ((conv => lhs; whnf) <;> exact rfl); (focus ((repeat (first | assumption | ((refine IntsK.exH (by assumption) ?_); (focus ((repeat (first | exact Ex.refl _ | assumption | (refine Ex.of_grown ?_ (by assumption) (by intro k hk; cases hk; omega)) | (refine Ex.trans ?_ (by assumption)))); done))) | ((refine Prs.exH (by assumption) ?_); (focus ((repeat (first | exact Ex.refl _ | assumption | (refine Ex.of_grown ?_ (by assumption) (by intro k hk; cases hk; omega)) | (refine Ex.trans ?_ (by assumption)))); done))) | ((with_reducible apply Bx.grownS); assumption; (first | omega | exact Bx.ne (by assumption) (by omega))) | ((with_reducible apply Bx.below); assumption; omega) | ((with_reducible apply OwnP.grownS); assumption; omega) | ((with_reducible apply Own.grownS); assumption; omega) | ((with_reducible apply Bx.ex); assumption) | ((with_reducible apply IntsK.ex); assumption) | ((with_reducible apply Own.ex); assumption) | ((with_reducible apply Prs.ex); assumption) | ((with_reducible apply OwnP.ex); assumption))); done))) | ((with_reducible apply r_min2); exact rfl; exact rfl)))
      | ((with_reducible apply W_op); exact rfl; exact rfl; exact r_mkIface rfl)
      | (refine W_call (keepersOff_any _ v (lgS sh m) sh _ (hcur _ (by repeat (first | assumption | exact Ex.refl _ | (refine Ex.trans ?_ (by assumption)) | (refine Ex.of_grown ?_ (by assumption) (by intro k hk; cases hk; omega))))) (Prs.ex (by repeat (first | exact Ex.refl _ | assumption | (refine Ex.of_grown ?_ (by assumption) (by intro k hk; cases hk; omega)) | (refine Ex.trans ?_ (by assumption)))) h) hs hl) rfl ?_; rintro ov wq hown he; have hsz := he.size; have hio := Pv.Own.ints hown; have hov1 := hown.one)
      | (with_reducible apply W_nil)
      | (with_reducible apply c_seq)
      | ((with_reducible apply c_region); kernel_rfl)
      | (with_reducible apply n_nq)
      | (with_reducible apply c_ret)
      | (with_reducible apply n_then)
      | ((with_reducible apply p_ret1); exact rfl; exact rfl; ((conv => lhs; whnf) <;> exact rfl); refine ⟨_, rfl, ?_, (by repeat (first | assumption | exact Ex.refl _ | (refine Ex.trans ?_ (by assumption)) | (refine Ex.of_grown ?_ (by assumption) (by intro k hk; cases hk; omega))))⟩))
  all_goals first
    | (subst hm; exact congrArg Value.bool (decide_eq_decide.2 sort_nil))
    | trace_state
end Go.Proofs.Ytngoipmdhliigaa
