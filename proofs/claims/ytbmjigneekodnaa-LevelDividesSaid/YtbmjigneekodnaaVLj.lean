/-
  (rows) What this text proves: Check, Error, Proof and Verify of the program answer as stated. Conditions: the codes are a row, the proof is a list of numbers.
-/
import Derived.Test.YtbmjigneekodnaaVLi
import Derived.Test.YtbmjigneekodnaaVLg
set_option linter.unusedVariables false
set_option linter.unusedSimpArgs false

namespace Go.Pv
theorem pe_inv {n : Nat} {ps : List Int} (h : pErr n ps = 0) : ((ps.length = 1 ∨ ps.length = 3) ∧ ∀ j, j < ps.length → 0 ≤ ps.getD j 0) ∧ isProof n (pOf ps) := by
  match ps, h with
  | [], h => exact absurd (show (6 : Int) = 0 from h) (by decide)
  | [a], h =>
    unfold pErr pStep at h
    simp only [List.length_cons, List.length_nil, ne_eq, Nat.zero_add, not_true_eq_false, false_and, if_false, pStep] at h
    have ha : 0 ≤ a ∧ a ≤ n - 1 := by
      by_cases e : 0 ≤ a ∧ a ≤ (n : Int) - 1
      · exact e
      · rw [if_pos e] at h; exact absurd h (by decide)
    refine ⟨⟨Or.inl rfl, fun j hj => ?_⟩, ?_⟩
    · have : j = 0 := by simp at hj; omega
      subst this; exact ha.1
    · refine Or.inl ⟨rfl, rfl, ?_⟩
      show a.toNat < n
      omega
  | [a, b], h => exact absurd (show (6 : Int) = 0 from h) (by decide)
  | [a, b, c], h =>
    unfold pErr at h
    rw [if_neg (by simp)] at h
    simp only [pStep] at h
    by_cases e : 0 ≤ a ∧ a ≤ (n : Int) - 1
    · rw [if_neg (not_not_intro e), if_neg (by omega)] at h
      by_cases e2 : 0 ≤ b ∧ b ≤ (n : Int) - 1
      · rw [if_neg (not_not_intro e2)] at h
        by_cases e3 : b ≤ a
        · rw [if_pos e3] at h; exact absurd h (by decide)
        · rw [if_neg e3] at h
          by_cases e4 : 0 ≤ c ∧ c ≤ (n : Int) - 1
          · rw [if_neg (not_not_intro e4)] at h
            by_cases e5 : c ≤ b
            · rw [if_pos e5] at h; exact absurd h (by decide)
            · refine ⟨⟨Or.inr rfl, fun j hj => ?_⟩, ?_⟩
              · have : j = 0 ∨ j = 1 ∨ j = 2 := by simp at hj; omega
                rcases this with rfl | rfl | rfl
                · exact e.1
                · exact e2.1
                · exact e4.1
              · refine Or.inr ⟨?_, ?_, ?_⟩
                · show a.toNat < b.toNat; omega
                · show b.toNat < c.toNat; omega
                · show c.toNat < n; omega
          · rw [if_pos e4] at h; exact absurd h (by decide)
      · rw [if_pos e2] at h; exact absurd h (by decide)
    · rw [if_pos e] at h; exact absurd h (by decide)
  | a :: b :: c :: d :: r, h =>
    unfold pErr at h
    rw [if_pos (by simp)] at h
    exact absurd h (by decide)
/-- A bound is as stated. -/
def bOk (f : Int × Int) : Prop := (0 ≤ f.1 ∧ f.1 ≤ 1000000) ∧ 1 ≤ f.2 ∧ f.2 ≤ 100000
instance (f : Int × Int) : Decidable (bOk f) := by unfold bOk; exact inferInstance
theorem vb_bd {g f : Int × Int} (hg : fOk g) (hf : bOk f) : (-9000000000000000000 ≤ g.1 * f.2 ∧ g.1 * f.2 ≤ 9000000000000000000) ∧ -9000000000000000000 ≤ f.1 * g.2 ∧ f.1 * g.2 ≤ 9000000000000000000 := by
  unfold fOk at hg
  unfold bOk at hf
  have h1 := smul_bd (a := g.1) (b := f.2) (A := 600000000) (B := 100000) hg.1 (by omega)
  have h2 := smul_bd (a := f.1) (b := g.2) (A := 1000000) (B := 40000) (by omega) (by omega)
  omega
def vfE (l : List T3) (cs : List Int) (f : Int × Int) : Int := if cErr l ≠ 0 then cErr l else if pErr l.length cs ≠ 0 then pErr l.length cs else if ¬ bOk f then 3 else if fLt (prvL l (pOf cs)) f then 14 else 0
end Go.Pv
namespace Go.Proofs.Ytbmjigneekodnaa
open Go.Pv Go.RowKit
set_option maxHeartbeats 8000000
set_option maxRecDepth 20000

theorem Check_any (v : Value) (l : List T3) (w : World) (h : Row cC 3 w v l) : Ret Try.prog 15 [v] w fun r _ => r = .int .i64 (cErr l) := by
  have hv1 := h.one
  refine ret_of_c Try.func15 rfl Try.ntmps15 (Nat.le_of_ble_eq_true rfl) (by dsimp only [ini, Nat.reduceAdd] <;> exact rfl) ?_
  repeat' (first
      | ((first | ((with_reducible apply W_op); exact rfl; exact rfl)); (first | ((with_reducible apply r_move); ((conv => lhs; whnf) <;> exact rfl)) | ((with_reducible apply r_assign); ((conv => lhs; whnf) <;> exact rfl))))
      | (refine W_callv (lcheck_any v l _ (by repeat (first | assumption | ((with_reducible apply OwnR.grownS); assumption; omega) | ((with_reducible apply Row.ex); assumption) | ((with_reducible apply OwnR.ex); assumption) | ((with_reducible apply Bx.grownS); assumption; (first | omega | exact Bx.ne (by assumption) (by omega))) | ((with_reducible apply Bx.below); assumption; omega) | ((with_reducible apply Own.grownS); assumption; omega) | ((with_reducible apply Bx.ex); assumption) | ((with_reducible apply IntsK.ex); assumption) | ((with_reducible apply Own.ex); assumption) | ((with_reducible apply Prs.ex); assumption)))) rfl (fun wq he => ?_); have hsz := he.size)
      | (with_reducible apply W_nil)
      | (with_reducible apply c_seq)
      | (with_reducible apply c_region)
      | (with_reducible apply c_ret)
      | (with_reducible apply n_then)
      | ((with_reducible apply p_ret1); exact rfl; ((conv => lhs; whnf) <;> exact rfl); refine ⟨_, rfl, ?_, (by repeat (first | assumption | exact Ex.refl _ | (refine Ex.trans ?_ (by assumption)) | (refine Ex.of_grown ?_ (by assumption) (by intro k hk; cases hk; omega))))⟩))
  all_goals rfl
theorem Verify_any (v vp : Value) (l : List T3) (cs : List Int) (f : Int × Int) (w : World) (h : Row cC 3 w v l) (hp : Ints w vp cs) : Ret Try.prog 19 [v, vp, .agg #[.int .i64 f.1, .int .i64 f.2]] w fun r _ => r = .int .i64 (vfE l cs f) := by
  have hv1 := h.one
  have hp1 := hp.one
  refine ret_of_c Try.func19 rfl Try.ntmps19 (Nat.le_of_ble_eq_true rfl) (by dsimp only [ini, Nat.reduceAdd] <;> exact rfl) ?_
  repeat' (first
      | (((with_reducible apply c_cond_dec); exact rfl; (all_goals intro _); (all_goals (try (exfalso; (focus (omega; done)))))))
      | ((first | ((with_reducible apply W_op); exact rfl; exact rfl) | ((with_reducible apply WQ_op); exact rfl; exact rfl; intro wq he) | ((with_reducible apply WM_op); exact rfl; exact rfl; intro wq he) | ((with_reducible apply WB_op); exact rfl; exact rfl; intro wq)); (first | ((with_reducible apply r_move); ((conv => lhs; whnf) <;> exact rfl)) | ((with_reducible apply r_assign); ((conv => lhs; whnf) <;> exact rfl)) | ((with_reducible apply r_loadA); exact rfl; (first | assumption | exact Bx.cells (by repeat (first | assumption | ((with_reducible apply Bx.grownS); assumption; (first | omega | exact Bx.ne (by assumption) (by omega))) | ((with_reducible apply Bx.below); assumption; omega) | ((with_reducible apply Bx.ex); assumption))) | exact Cells.ex (by assumption) (by assumption)); exact rfl) | ((with_reducible apply r_neq); exact rfl; exact rfl) | ((with_reducible apply r_not); exact rfl)))
      | (refine W_callv (Check_any v l _ (by repeat (first | assumption | ((with_reducible apply OwnR.grownS); assumption; omega) | ((with_reducible apply Row.ex); assumption) | ((with_reducible apply OwnR.ex); assumption) | ((with_reducible apply Bx.grownS); assumption; (first | omega | exact Bx.ne (by assumption) (by omega))) | ((with_reducible apply Bx.below); assumption; omega) | ((with_reducible apply Own.grownS); assumption; omega) | ((with_reducible apply Bx.ex); assumption) | ((with_reducible apply IntsK.ex); assumption) | ((with_reducible apply Own.ex); assumption) | ((with_reducible apply Prs.ex); assumption)))) rfl (fun wq he => ?_); have hsz := he.size)
      | (refine W_callv (checkProof_any v vp l cs _ (by repeat (first | assumption | ((with_reducible apply OwnR.grownS); assumption; omega) | ((with_reducible apply Row.ex); assumption) | ((with_reducible apply OwnR.ex); assumption) | ((with_reducible apply Bx.grownS); assumption; (first | omega | exact Bx.ne (by assumption) (by omega))) | ((with_reducible apply Bx.below); assumption; omega) | ((with_reducible apply Own.grownS); assumption; omega) | ((with_reducible apply Bx.ex); assumption) | ((with_reducible apply IntsK.ex); assumption) | ((with_reducible apply Own.ex); assumption) | ((with_reducible apply Prs.ex); assumption))) (by repeat (first | assumption | ((with_reducible apply OwnR.grownS); assumption; omega) | ((with_reducible apply Row.ex); assumption) | ((with_reducible apply OwnR.ex); assumption) | ((with_reducible apply Bx.grownS); assumption; (first | omega | exact Bx.ne (by assumption) (by omega))) | ((with_reducible apply Bx.below); assumption; omega) | ((with_reducible apply Own.grownS); assumption; omega) | ((with_reducible apply Bx.ex); assumption) | ((with_reducible apply IntsK.ex); assumption) | ((with_reducible apply Own.ex); assumption) | ((with_reducible apply Prs.ex); assumption)))) rfl (fun wq he => ?_); have hsz := he.size)
      | (refine W_callv (isBound_any _ _ _) rfl (fun wq he => ?_); have hsz := he.size)
      | ((have hv := valid_of (l := l) (Classical.not_not.mp (by assumption))); (have hpe := pe_inv (n := l.length) (ps := cs) (Classical.not_not.mp (by assumption))); (have hbo : bOk f := by unfold bOk; omega); (have hfo := vb_bd (prv_ok hv hpe.2) hbo); refine WQ_callv (fun wq he => proofOf_any vp cs wq (by repeat (first | assumption | ((with_reducible apply OwnR.grownS); assumption; omega) | ((with_reducible apply Row.ex); assumption) | ((with_reducible apply OwnR.ex); assumption) | ((with_reducible apply Bx.grownS); assumption; (first | omega | exact Bx.ne (by assumption) (by omega))) | ((with_reducible apply Bx.below); assumption; omega) | ((with_reducible apply Own.grownS); assumption; omega) | ((with_reducible apply Bx.ex); assumption) | ((with_reducible apply IntsK.ex); assumption) | ((with_reducible apply Own.ex); assumption) | ((with_reducible apply Prs.ex); assumption))) hpe.1) rfl ?_)
      | (refine WQ_callv (fun wq he => proved_any v l (pOf cs) wq (by repeat (first | assumption | ((with_reducible apply OwnR.grownS); assumption; omega) | ((with_reducible apply Row.ex); assumption) | ((with_reducible apply OwnR.ex); assumption) | ((with_reducible apply Bx.grownS); assumption; (first | omega | exact Bx.ne (by assumption) (by omega))) | ((with_reducible apply Bx.below); assumption; omega) | ((with_reducible apply Own.grownS); assumption; omega) | ((with_reducible apply Bx.ex); assumption) | ((with_reducible apply IntsK.ex); assumption) | ((with_reducible apply Own.ex); assumption) | ((with_reducible apply Prs.ex); assumption))) hv hpe.2) rfl ?_)
      | (refine WQ_callv (fun wq he => less_any (prvL l (pOf cs)) f wq hfo.1 hfo.2) rfl ?_)
      | (with_reducible apply W_nil)
      | ((with_reducible apply WQ_nil); exact rfl; intro wq he; have hsz := he.size)
      | ((with_reducible apply W_box); exact rfl; exact rfl; intro bq wq hbq he hnq; have hltq := Bx.lt hbq; have hsz := he.size)
      | ((with_reducible apply c_quiet); kernel_rfl)
      | (with_reducible apply c_seq)
      | (with_reducible apply c_region)
      | (with_reducible apply c_skip)
      | (with_reducible apply c_ret)
      | (with_reducible apply n_then)
      | (with_reducible apply r_then)
      | ((with_reducible apply p_ret1); exact rfl; ((conv => lhs; whnf) <;> exact rfl); refine ⟨_, rfl, ?_, (by repeat (first | assumption | exact Ex.refl _ | (refine Ex.trans ?_ (by assumption)) | (refine Ex.of_grown ?_ (by assumption) (by intro k hk; cases hk; omega))))⟩))
  all_goals refine congrArg (Value.int .i64) ?_
  all_goals unfold vfE
  all_goals first
    | rw [if_pos (by assumption)]
    | (rw [if_neg (by assumption), if_pos (by assumption)])
    | (rw [if_neg (by assumption), if_neg (by assumption), if_pos (by unfold bOk; assumption)])
    | (rw [if_neg (by assumption), if_neg (by assumption), if_neg (not_not_intro hbo), if_pos (by assumption)])
    | (rw [if_neg (by assumption), if_neg (by assumption), if_neg (not_not_intro hbo), if_neg (by assumption)])
/-- Error's answer. -/
def errR (l : List T3) (gn gd on od : Int) (f : Int × Int) (e : Int) : Prop :=
  (cErr l ≠ 0 ∧ e = cErr l ∧ f = (0, 0)) ∨ (cErr l = 0 ∧ ¬ lineOk gn gd on od ∧ e = 3 ∧ f = (0, 0)) ∨
  (cErr l = 0 ∧ lineOk gn gd on od ∧ e = 0 ∧ ∃ i, i < l.length ∧ f = low (distL gn gd on od (l.getD i cD), gd * od) ∧ ∀ j, j < l.length → ¬ distL gn gd on od (l.getD i cD) < distL gn gd on od (l.getD j cD))
theorem Error_any (v : Value) (l : List T3) (gn gd on od : Int) (w : World) (h : Row cC 3 w v l) : Ret Try.prog 13 [v, vL gn gd on od] w fun r _ => ∃ f e, r = .tuple #[v2 f, .int .i64 e] ∧ errR l gn gd on od f e := by
  have hv1 := h.one
  unfold vL
  refine ret_of_c Try.func13 rfl Try.ntmps13 (Nat.le_of_ble_eq_true rfl) (by dsimp only [ini, Nat.reduceAdd] <;> exact rfl) ?_
  repeat' (first
      | (((with_reducible apply c_cond_dec); exact rfl; (all_goals intro _); (all_goals (try (exfalso; (focus (omega; done)))))))
      | ((first | ((with_reducible apply W_op); exact rfl; exact rfl)); (first | ((with_reducible apply r_move); ((conv => lhs; whnf) <;> exact rfl)) | ((with_reducible apply r_assign); ((conv => lhs; whnf) <;> exact rfl)) | ((with_reducible apply r_loadA); exact rfl; (first | assumption | exact Bx.cells (by repeat (first | assumption | ((with_reducible apply Bx.grownS); assumption; (first | omega | exact Bx.ne (by assumption) (by omega))) | ((with_reducible apply Bx.below); assumption; omega) | ((with_reducible apply Bx.ex); assumption))) | exact Cells.ex (by assumption) (by assumption)); exact rfl) | ((with_reducible apply r_neq); exact rfl; exact rfl) | ((with_reducible apply r_not); exact rfl) | ((with_reducible apply r_build0); exact rfl)))
      | (refine W_callv (Check_any v l _ (by repeat (first | assumption | ((with_reducible apply OwnR.grownS); assumption; omega) | ((with_reducible apply Row.ex); assumption) | ((with_reducible apply OwnR.ex); assumption) | ((with_reducible apply Bx.grownS); assumption; (first | omega | exact Bx.ne (by assumption) (by omega))) | ((with_reducible apply Bx.below); assumption; omega) | ((with_reducible apply Own.grownS); assumption; omega) | ((with_reducible apply Bx.ex); assumption) | ((with_reducible apply IntsK.ex); assumption) | ((with_reducible apply Own.ex); assumption) | ((with_reducible apply Prs.ex); assumption)))) rfl (fun wq he => ?_); have hsz := he.size)
      | (refine W_callv (isLine_any _ _ _ _ _) rfl (fun wq he => ?_); have hsz := he.size)
      | ((have hv := valid_of (l := l) (Classical.not_not.mp (by assumption))); (have hlo : lineOk gn gd on od := by unfold lineOk; omega); refine W_call (errorOf_any v l gn gd on od _ (by repeat (first | assumption | ((with_reducible apply OwnR.grownS); assumption; omega) | ((with_reducible apply Row.ex); assumption) | ((with_reducible apply OwnR.ex); assumption) | ((with_reducible apply Bx.grownS); assumption; (first | omega | exact Bx.ne (by assumption) (by omega))) | ((with_reducible apply Bx.below); assumption; omega) | ((with_reducible apply Own.grownS); assumption; omega) | ((with_reducible apply Bx.ex); assumption) | ((with_reducible apply IntsK.ex); assumption) | ((with_reducible apply Own.ex); assumption) | ((with_reducible apply Prs.ex); assumption))) hv hlo) rfl ?_; rintro vq wq ⟨i, hi, rfl, hall⟩ he; have hsz := he.size; (have hdb := dist_bd hlo (hv.2.1 i hi)))
      | (refine W_callv (lowest_any (distL gn gd on od (l.getD i cD), gd * od) _ (by dsimp only; omega) (by dsimp only; omega)) rfl (fun wq he => ?_); have hsz := he.size)
      | (with_reducible apply W_nil)
      | ((with_reducible apply W_box); exact rfl; exact rfl; intro bq wq hbq he hnq; have hltq := Bx.lt hbq; have hsz := he.size)
      | ((with_reducible apply W_alloc); exact rfl; intro bq wq hbq he hnq; have hltq := Bx.lt hbq; have hsz := he.size)
      | ((with_reducible apply W_storeA); exact rfl; (focus ((repeat (first | assumption | ((with_reducible apply Bx.grownS); assumption; (first | omega | exact Bx.ne (by assumption) (by omega))) | ((with_reducible apply Bx.below); assumption; omega) | ((with_reducible apply Bx.ex); assumption))); done)); exact rfl; exact rfl; exact rfl; (repeat' (first | exact trivial | (first | exact rfl | assumption | exact IntsK.one (by assumption) | exact Prs.one (by assumption) | exact Own.one (by assumption) | exact Row.one (by assumption) | exact OwnR.one (by assumption)) | constructor)); intro wq hbq hgq; have he : Ex w wq := (by repeat (first | assumption | exact Ex.refl _ | (refine Ex.trans ?_ (by assumption)) | (refine Ex.of_grown ?_ (by assumption) (by intro k hk; cases hk; omega)))); have hsz := he.size; have hgz := hgq.size)
      | (with_reducible apply c_seq)
      | (with_reducible apply c_region)
      | (with_reducible apply c_skip)
      | (with_reducible apply c_ret)
      | (with_reducible apply n_then)
      | (with_reducible apply r_then)
      | ((with_reducible apply p_retct); exact rfl; exact inferInstance; exact inferInstance; exact rfl; (focus ((repeat (first | assumption | ((with_reducible apply Bx.grownS); assumption; (first | omega | exact Bx.ne (by assumption) (by omega))) | ((with_reducible apply Bx.below); assumption; omega) | ((with_reducible apply Bx.ex); assumption))); done)); exact rfl; exact rfl; refine ⟨_, rfl, ?_, (by repeat (first | assumption | exact Ex.refl _ | (refine Ex.trans ?_ (by assumption)) | (refine Ex.of_grown ?_ (by assumption) (by intro k hk; cases hk; omega))))⟩))
  all_goals first
    | exact ⟨(0, 0), _, rfl, Or.inl ⟨by assumption, rfl, rfl⟩⟩
    | exact ⟨(0, 0), _, rfl, Or.inr (Or.inl ⟨Classical.not_not.mp (by assumption), by assumption, rfl, rfl⟩)⟩
    | exact ⟨_, _, rfl, Or.inr (Or.inr ⟨Classical.not_not.mp (by assumption), hlo, rfl, i, hi, rfl, hall⟩)⟩
theorem Proof_any (v : Value) (l : List T3) (w : World) (h : Row cC 3 w v l) : Ret Try.prog 36 [v] w fun r w' => ∃ vp cs e, r = .tuple #[vp, .int .i64 e] ∧ Ints w' vp cs ∧ ((cErr l ≠ 0 ∧ e = cErr l ∧ vp = .slice none 0 0) ∨ (cErr l = 0 ∧ e = 0 ∧ ∃ p, isProof l.length p ∧ cs = codesL p ∧ ∀ q, isProof l.length q → ¬ fLt (prvL l p) (prvL l q))) := by
  have hv1 := h.one
  refine ret_of_c Try.func36 rfl Try.ntmps36 (Nat.le_of_ble_eq_true rfl) (by dsimp only [ini, Nat.reduceAdd] <;> exact rfl) ?_
  repeat' (first
      | ((first | ((with_reducible apply W_op); exact rfl; exact rfl)); (first | ((with_reducible apply r_move); ((conv => lhs; whnf) <;> exact rfl)) | ((with_reducible apply r_assign); ((conv => lhs; whnf) <;> exact rfl)) | ((with_reducible apply r_neq); exact rfl; exact rfl)))
      | (refine W_callv (Check_any v l _ (by repeat (first | assumption | ((with_reducible apply OwnR.grownS); assumption; omega) | ((with_reducible apply Row.ex); assumption) | ((with_reducible apply OwnR.ex); assumption) | ((with_reducible apply Bx.grownS); assumption; (first | omega | exact Bx.ne (by assumption) (by omega))) | ((with_reducible apply Bx.below); assumption; omega) | ((with_reducible apply Own.grownS); assumption; omega) | ((with_reducible apply Bx.ex); assumption) | ((with_reducible apply IntsK.ex); assumption) | ((with_reducible apply Own.ex); assumption) | ((with_reducible apply Prs.ex); assumption)))) rfl (fun wq he => ?_); have hsz := he.size)
      | ((have hv := valid_of (l := l) (Classical.not_not.mp (by assumption))); refine W_call (bestProof_any v l _ (by repeat (first | assumption | ((with_reducible apply OwnR.grownS); assumption; omega) | ((with_reducible apply Row.ex); assumption) | ((with_reducible apply OwnR.ex); assumption) | ((with_reducible apply Bx.grownS); assumption; (first | omega | exact Bx.ne (by assumption) (by omega))) | ((with_reducible apply Bx.below); assumption; omega) | ((with_reducible apply Own.grownS); assumption; omega) | ((with_reducible apply Bx.ex); assumption) | ((with_reducible apply IntsK.ex); assumption) | ((with_reducible apply Own.ex); assumption) | ((with_reducible apply Prs.ex); assumption))) hv) rfl ?_; rintro vq wq ⟨p, hp, rfl, hall⟩ he; have hsz := he.size)
      | (refine W_call (codes_any p _) rfl ?_; rintro vq wq hints he; have hsz := he.size; (have hi1 := hints.one))
      | (with_reducible apply W_nil)
      | (with_reducible apply c_seq)
      | (with_reducible apply c_region)
      | (with_reducible apply c_skip)
      | (with_reducible apply c_ret)
      | ((with_reducible apply c_cond_dec); exact rfl; intro _; rotate_left 1; intro _)
      | (with_reducible apply n_then)
      | (with_reducible apply r_then)
      | ((with_reducible apply p_ret2); exact rfl; ((conv => lhs; whnf) <;> exact rfl); ((conv => lhs; whnf) <;> exact rfl); refine ⟨_, rfl, ?_, (by repeat (first | assumption | exact Ex.refl _ | (refine Ex.trans ?_ (by assumption)) | (refine Ex.of_grown ?_ (by assumption) (by intro k hk; cases hk; omega))))⟩))
  · exact ⟨_, _, _, rfl, hints, Or.inr ⟨Classical.not_not.mp (by assumption), rfl, p, hp, rfl, hall⟩⟩
  · exact ⟨_, [], _, rfl, Pv.Own.ints (base := 0) (E := 3) (Pv.Own.nil _ _ _), Or.inl ⟨by assumption, rfl, rfl⟩⟩
end Go.Proofs.Ytbmjigneekodnaa
