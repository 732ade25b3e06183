/-
  What this text proves: the moment that proves a best plan, whether a plan is accepted, and the pass for one more slot, as the plain functions say. Conditions: the values read as lists. (rows)
-/
import Derived.Test.YtjcigpakljfkeaaVUg
set_option linter.unusedVariables false
set_option linter.unusedSimpArgs false
namespace Go.Pv
open Go.RowKit
theorem mom_yes {rest : Int} {sl : List (Int × Int)} {k : Nat} (h : (momTo rest sl k).2 < (crowdL rest sl (sl.getD (ordN sl k) (0, 0)).1).length) : momTo rest sl (k + 1) = ((sl.getD (ordN sl k) (0, 0)).1, ((crowdL rest sl (sl.getD (ordN sl k) (0, 0)).1).length : Int)) := by
  unfold ordN at *; simp only [momTo]; rw [if_pos h]
theorem mom_no {rest : Int} {sl : List (Int × Int)} {k : Nat} (h : ¬ (momTo rest sl k).2 < (crowdL rest sl (sl.getD (ordN sl k) (0, 0)).1).length) : momTo rest sl (k + 1) = momTo rest sl k := by
  unfold ordN at *; simp only [momTo]; rw [if_neg h]
def proveErr (rest : Int) (sl : List (Int × Int)) : Int := if jobErr rest sl ≠ 0 then jobErr rest sl else if sl.length = 0 then 8 else 0
def addErr (rest : Int) (sl : List (Int × Int)) (plan : List Int) (s : Int × Int) : Int := if planErr rest sl plan ≠ 0 then planErr rest sl plan else if slotOk s then 0 else 3
def fillP (plan : List Int) : List Int := plan ++ List.replicate (40 - plan.length) (-1)
theorem fillP_len {plan : List Int} (h : plan.length ≤ 40) : (fillP plan).length = 40 := by simp [fillP]; omega
theorem fillP_get {plan : List Int} {i : Nat} (h : i < plan.length) : (fillP plan).getD i (-1) = plan.getD i 0 := by
  simp [fillP, List.getElem?_append_left h, h]
theorem pos_apart {rest : Int} {sl : List (Int × Int)} {plan : List Int} (h : plan.length = sl.length) : posP rest sl (fillP plan) ↔ apart rest sl plan := by
  constructor
  · intro hp i hi k hk ⟨h1, h2⟩
    exact hp i hi k (by omega) h2 ⟨by omega, by rw [fillP_get (by omega), fillP_get (by omega)]; exact h1.symm⟩
  · intro ha i hi k hk hc ⟨h1, h2⟩
    rw [fillP_get (by omega), fillP_get (by omega)] at h2
    rcases Nat.lt_or_ge k i with h3 | h3
    · exact ha i hi k h3 ⟨h2.symm, hc⟩
    · exact ha k hk i (by omega) ⟨h2, clash_comm.1 hc⟩
theorem planErr_inv {rest : Int} {sl : List (Int × Int)} {plan : List Int} (h : planErr rest sl plan = 0) : jobErr rest sl = 0 ∧ plan.length = sl.length ∧ numsOk plan ∧ apart rest sl plan := by
  unfold planErr at h
  split at h
  · next h1 => omega
  · next h1 =>
    split at h
    · omega
    · next h2 =>
      split at h
      · omega
      · next h3 =>
        split at h
        · omega
        · next h4 => exact ⟨Classical.not_not.1 h1, Classical.not_not.1 h2, Classical.not_not.1 h3, Classical.not_not.1 h4⟩
theorem pe_job {rest : Int} {sl : List (Int × Int)} {plan : List Int} (h : jobErr rest sl ≠ 0) : planErr rest sl plan = jobErr rest sl := by unfold planErr; rw [if_pos h]
theorem pe_len {rest : Int} {sl : List (Int × Int)} {plan : List Int} (h : jobErr rest sl = 0) (h2 : plan.length ≠ sl.length) : planErr rest sl plan = 6 := by unfold planErr; rw [if_neg (by omega), if_pos h2]
theorem pe_num {rest : Int} {sl : List (Int × Int)} {plan : List Int} (h : jobErr rest sl = 0) (h2 : plan.length = sl.length) (h3 : ¬ numsOk plan) : planErr rest sl plan = 3 := by unfold planErr; rw [if_neg (by omega), if_neg (by omega), if_pos h3]
theorem pe_apart {rest : Int} {sl : List (Int × Int)} {plan : List Int} (h : jobErr rest sl = 0) (h2 : plan.length = sl.length) (h3 : numsOk plan) (h4 : ¬ apart rest sl plan) : planErr rest sl plan = 14 := by unfold planErr; rw [if_neg (by omega), if_neg (by omega), if_neg (by simpa using h3), if_pos h4]
theorem pe_ok {rest : Int} {sl : List (Int × Int)} {plan : List Int} (h : jobErr rest sl = 0) (h2 : plan.length = sl.length) (h3 : numsOk plan) (h4 : apart rest sl plan) : planErr rest sl plan = 0 := by unfold planErr; rw [if_neg (by omega), if_neg (by omega), if_neg (by simpa using h3), if_neg (by simpa using h4)]
theorem ae_plan {rest : Int} {sl : List (Int × Int)} {plan : List Int} {s : Int × Int} (h : planErr rest sl plan ≠ 0) : addErr rest sl plan s = planErr rest sl plan := by unfold addErr; rw [if_pos h]
theorem ae_ok {rest : Int} {sl : List (Int × Int)} {plan : List Int} {s : Int × Int} (h : planErr rest sl plan = 0) (h2 : slotOk s) : addErr rest sl plan s = 0 := by unfold addErr; rw [if_neg (by omega), if_pos h2]
theorem ae_bad {rest : Int} {sl : List (Int × Int)} {plan : List Int} {s : Int × Int} (h : planErr rest sl plan = 0) (h2 : ¬ slotOk s) : addErr rest sl plan s = 3 := by unfold addErr; rw [if_neg (by omega), if_neg h2]
end Go.Pv
namespace Go.Proofs.Ytjcigpakljfkeaa
open Go.Pv Go.RowKit
set_option maxHeartbeats 8000000
theorem crowdCounter_any (rest : Int) (v : Value) (w : World) (hv1 : v.oneCell' = true) : Ret Try.prog 62 [.agg #[.int .i64 rest, v]] w fun r w' =>
    ∃ b, r = .func (.func 86) #[] #[.pointer (some ⟨b, 0, none⟩)] ∧ Bx w' b [.int .i64 rest, v] 24 ∧ w.heap.size ≤ b ∧ b < w'.heap.size := by
  refine ret_of_c Try.func62 rfl Try.ntmps62 (Nat.le_of_ble_eq_true rfl) (by dsimp only [ini, Nat.reduceAdd] <;> exact rfl) ?_
  repeat' (first
      | ((first | ((with_reducible apply W_op); exact rfl; exact rfl)); (first | ((with_reducible apply r_assign); ((conv => lhs; whnf) <;> exact rfl)) | ((with_reducible apply r_mfc); ((conv => lhs; whnf) <;> exact rfl))))
      | (with_reducible apply W_nil)
      | ((with_reducible apply W_box); exact rfl; exact rfl; intro bq wq hbq he hnq; have hltq := Bx.lt hbq; have hsz := he.size)
      | (with_reducible apply c_seq)
      | ((with_reducible apply c_region); kernel_rfl)
      | (with_reducible apply n_nq)
      | (with_reducible apply c_ret)
      | (with_reducible apply n_then)
      | ((with_reducible apply p_ret1); exact rfl; exact rfl; ((conv => lhs; whnf) <;> exact rfl); refine ⟨_, rfl, ?_, (by repeat (first | assumption | exact Ex.refl _ | (refine Ex.trans ?_ (by assumption)) | (refine Ex.of_grown ?_ (by assumption) (by intro k hk; cases hk; omega))))⟩))
  exact ⟨_, rfl, (by repeat (first | assumption | ((with_reducible apply Bx.grownS); assumption; (first | omega | exact Bx.ne (by assumption) (by omega))) | ((with_reducible apply Bx.below); assumption; omega) | ((with_reducible apply Bx.ex); assumption))), by omega, by omega⟩
theorem counter_any (rest m : Int) (v : Value) (b : Nat) (sl : List (Int × Int)) (w : World) (h : Prs w v sl) (hb : Bx w b [.int .i64 rest, v] 24) (hj : jobErr rest sl = 0) : Ret Try.prog 86 [.int .i64 m, .pointer (some ⟨b, 0, none⟩)] w fun r _ => r = .int .i64 ((crowdL rest sl m).length : Int) := by
  have hv1 := h.one
  refine ret_of_c Try.func86 rfl Try.ntmps86 (Nat.le_of_ble_eq_true rfl) (by dsimp only [ini, Nat.reduceAdd] <;> exact rfl) ?_
  repeat' (first
      | ((first | ((with_reducible apply W_op); exact rfl; exact rfl)); (first | ((with_reducible apply r_move); ((conv => lhs; whnf) <;> exact rfl)) | ((with_reducible apply r_assign); ((conv => lhs; whnf) <;> exact rfl)) | ((with_reducible apply r_loadA); exact rfl; (first | assumption | exact Bx.cells (by repeat (first | assumption | ((with_reducible apply Bx.grownS); assumption; (first | omega | exact Bx.ne (by assumption) (by omega))) | ((with_reducible apply Bx.below); assumption; omega) | ((with_reducible apply Bx.ex); assumption))) | exact Cells.ex (by assumption) (by assumption)); exact rfl) | ((with_reducible apply r_lenInts); ((conv => lhs; whnf) <;> exact rfl); (focus ((repeat (first | assumption | ((with_reducible apply OwnR.grownS); assumption; omega) | ((with_reducible apply Row.ex); assumption) | ((with_reducible apply OwnR.ex); assumption) | ((with_reducible apply Bx.grownS); assumption; (first | omega | exact Bx.ne (by assumption) (by omega))) | ((with_reducible apply Bx.below); assumption; omega) | ((with_reducible apply Own.grownS); assumption; omega) | ((with_reducible apply Bx.ex); assumption) | ((with_reducible apply IntsK.ex); assumption) | ((with_reducible apply Own.ex); assumption) | ((with_reducible apply Prs.ex); assumption))); done)))))
      | (refine W_call (crowd_any rest m v sl _ (by repeat (first | assumption | ((with_reducible apply OwnR.grownS); assumption; omega) | ((with_reducible apply Row.ex); assumption) | ((with_reducible apply OwnR.ex); assumption) | ((with_reducible apply Bx.grownS); assumption; (first | omega | exact Bx.ne (by assumption) (by omega))) | ((with_reducible apply Bx.below); assumption; omega) | ((with_reducible apply Own.grownS); assumption; omega) | ((with_reducible apply Bx.ex); assumption) | ((with_reducible apply IntsK.ex); assumption) | ((with_reducible apply Own.ex); assumption) | ((with_reducible apply Prs.ex); assumption))) hj) rfl ?_; rintro vq wq hown he; have hsz := he.size; have hin := Pv.Own.ints hown)
      | (with_reducible apply W_nil)
      | (with_reducible apply c_seq)
      | ((with_reducible apply c_region); kernel_rfl)
      | (with_reducible apply n_nq)
      | (with_reducible apply c_ret)
      | (with_reducible apply n_then)
      | ((with_reducible apply p_ret1); exact rfl; exact rfl; ((conv => lhs; whnf) <;> exact rfl); refine ⟨_, rfl, ?_, (by repeat (first | assumption | exact Ex.refl _ | (refine Ex.trans ?_ (by assumption)) | (refine Ex.of_grown ?_ (by assumption) (by intro k hk; cases hk; omega))))⟩))
  rfl
theorem Prove_any (rest : Int) (v : Value) (sl : List (Int × Int)) (w : World) (h : Prs w v sl) : Ret Try.prog 24 [.agg #[.int .i64 rest, v]] w fun r _ => r = .tuple #[.int .i64 (if proveErr rest sl = 0 then momL rest sl else 0), .int .i64 (proveErr rest sl)] := by
  have hv1 := h.one
  have hol := ordL_len sl
  have tA : True := trivial
  refine ret_of_c Try.func24 rfl Try.ntmps24 (Nat.le_of_ble_eq_true rfl) (by dsimp only [ini, Nat.reduceAdd] <;> exact rfl) ?_
  repeat' (first
      | (clear tA; (have tB : True := trivial); have hE : jobErr rest sl = 0 := (by omega); have hji := job_inv hE; refine W_call (crowdCounter_any rest v _ hv1) rfl ?_; rintro vq wq ⟨bc, rfl, hbc, hbl, hbl2⟩ he; have hsz := he.size)
      | (refine W_op rfl rfl (r_lenR rfl (rowN hrow)) ?_)
      | (clear tB; (have tC : True := trivial); refine W_call (inOrder_any rest v sl _ (by repeat (first | assumption | ((with_reducible apply OwnR.grownS); assumption; omega) | ((with_reducible apply Row.ex); assumption) | ((with_reducible apply OwnR.ex); assumption) | ((with_reducible apply Bx.grownS); assumption; (first | omega | exact Bx.ne (by assumption) (by omega))) | ((with_reducible apply Bx.below); assumption; omega) | ((with_reducible apply Own.grownS); assumption; omega) | ((with_reducible apply Bx.ex); assumption) | ((with_reducible apply IntsK.ex); assumption) | ((with_reducible apply Own.ex); assumption) | ((with_reducible apply Prs.ex); assumption))) (by omega)) rfl ?_; rintro vq wq hrow he; have hsz := he.size; have hwr : Row (encN sl) 3 wq vq (ordL sl) := rowN hrow)
      | (refine W_indexRw (f := encN sl) (n := 3) (i := k) (0 : Nat) (fun _ => rfl) (by decide) rfl hwr rfl (by omega) ?_; intro pb po hpc; have hpo : Cells _ _ (encN sl (ordN sl k)) := hpc; have hok : ordN sl k < sl.length := ordN_lt (by omega))
      | ((with_reducible apply W_op); exact rfl; exact rfl; exact r_loadA rfl hpo rfl)
      | ((with_reducible apply W_storeA); exact rfl; (focus ((repeat (first | assumption | ((with_reducible apply OwnR.grownS); assumption; omega) | ((with_reducible apply Row.ex); assumption) | ((with_reducible apply OwnR.ex); assumption) | ((with_reducible apply Bx.grownS); assumption; (first | omega | exact Bx.ne (by assumption) (by omega))) | ((with_reducible apply Bx.below); assumption; omega) | ((with_reducible apply Own.grownS); assumption; omega) | ((with_reducible apply Bx.ex); assumption) | ((with_reducible apply IntsK.ex); assumption) | ((with_reducible apply Own.ex); assumption) | ((with_reducible apply Prs.ex); assumption))); done)); exact rfl; exact rfl; exact rfl; (repeat' (first | exact trivial | (first | exact rfl | assumption | exact IntsK.one (by assumption) | exact Prs.one (by assumption) | exact Own.one (by assumption) | exact Row.one (by assumption) | exact OwnR.one (by assumption)) | constructor)); intro wq hbq hgq; have hwr := Row.ex (Ex.of_grown he hgq (by intro k hk; cases hk; omega)) hwr; have he : Ex w wq := (by repeat (first | assumption | exact Ex.refl _ | (refine Ex.trans ?_ (by assumption)) | (refine Ex.of_grown ?_ (by assumption) (by intro k hk; cases hk; omega)))); have hsz := he.size)
      | ((first | ((with_reducible apply W_op); exact rfl; exact rfl)); (first | ((with_reducible apply r_move); ((conv => lhs; whnf) <;> exact rfl)) | ((with_reducible apply r_assign); ((conv => lhs; whnf) <;> exact rfl)) | ((with_reducible apply r_fieldAddr); exact rfl) | ((with_reducible apply r_load); exact rfl; exact rfl; (first | assumption | exact (Bx.cell (by repeat (first | assumption | ((with_reducible apply Bx.grownS); assumption; (first | omega | exact Bx.ne (by assumption) (by omega))) | ((with_reducible apply Bx.below); assumption; omega) | ((with_reducible apply Bx.ex); assumption))) _).trans rfl | exact Ex.cell (by assumption) (by assumption))) | ((with_reducible apply r_loadA); exact rfl; (first | assumption | exact Bx.cells (by repeat (first | assumption | ((with_reducible apply Bx.grownS); assumption; (first | omega | exact Bx.ne (by assumption) (by omega))) | ((with_reducible apply Bx.below); assumption; omega) | ((with_reducible apply Bx.ex); assumption))) | exact Cells.ex (by assumption) (by assumption)); exact rfl) | ((with_reducible apply r_lss); exact rfl; exact rfl) | ((with_reducible apply r_gtr); exact rfl; exact rfl) | ((with_reducible apply r_eql); exact rfl; exact rfl) | ((with_reducible apply r_neq); exact rfl; exact rfl) | ((with_reducible apply r_add); exact rfl; exact rfl; omega) | ((with_reducible apply r_lenPrs); ((conv => lhs; whnf) <;> exact rfl); (focus ((repeat (first | assumption | ((with_reducible apply OwnR.grownS); assumption; omega) | ((with_reducible apply Row.ex); assumption) | ((with_reducible apply OwnR.ex); assumption) | ((with_reducible apply Bx.grownS); assumption; (first | omega | exact Bx.ne (by assumption) (by omega))) | ((with_reducible apply Bx.below); assumption; omega) | ((with_reducible apply Own.grownS); assumption; omega) | ((with_reducible apply Bx.ex); assumption) | ((with_reducible apply IntsK.ex); assumption) | ((with_reducible apply Own.ex); assumption) | ((with_reducible apply Prs.ex); assumption))); done)))))
      | (refine W_callv (check_any rest v sl _ (by repeat (first | assumption | ((with_reducible apply OwnR.grownS); assumption; omega) | ((with_reducible apply Row.ex); assumption) | ((with_reducible apply OwnR.ex); assumption) | ((with_reducible apply Bx.grownS); assumption; (first | omega | exact Bx.ne (by assumption) (by omega))) | ((with_reducible apply Bx.below); assumption; omega) | ((with_reducible apply Own.grownS); assumption; omega) | ((with_reducible apply Bx.ex); assumption) | ((with_reducible apply IntsK.ex); assumption) | ((with_reducible apply Own.ex); assumption) | ((with_reducible apply Prs.ex); assumption)))) rfl (fun wq he => ?_); have hsz := he.size)
      | (refine W_callf (first := []) (captured := [.pointer (some ⟨bc, 0, none⟩)]) rfl (counter_any rest _ v bc sl _ (Prs.ex (by repeat (first | assumption | exact Ex.refl _ | (refine Ex.trans ?_ (by assumption)) | (refine Ex.of_grown ?_ (by assumption) (by intro k hk; cases hk; omega)))) h) (by repeat (first | assumption | ((with_reducible apply Bx.grownS); assumption; (first | omega | exact Bx.ne (by assumption) (by omega))) | ((with_reducible apply Bx.below); assumption; omega) | ((with_reducible apply Bx.ex); assumption))) hE) rfl ?_; rintro vq wq rfl he; have hsz := he.size)
      | ((with_reducible (show C _ _ _ _ _ _)); refine c_loopG (fun (k : Nat) ps wr => ∃ b1 : Nat, ∃ bc : Nat, ∃ a : Int, ∃ c : Int, ∃ r : Value, ∃ i : Int, ps = [(1, .pointer (some ⟨b1, 0, none⟩)), (2, .int .i64 a), (5, .func (.func 86) #[] #[.pointer (some ⟨bc, 0, none⟩)]), (6, .int .i64 c), (22, r), (23, .int .i64 (ordL sl).length), (24, .int .i64 i)] ∧ i = k ∧ k ≤ sl.length ∧ a = (momTo rest sl k).1 ∧ c = (momTo rest sl k).2 ∧ w.heap.size ≤ b1 ∧ Bx wr b1 [.int .i64 rest, v] 24 ∧ Bx wr bc [.int .i64 rest, v] 24 ∧ Row (encN sl) 3 wr r (ordL sl) ∧ Ex w wr) (fun k => sl.length - k) 0 _ ⟨_, _, _, _, _, _, rfl, rfl, Nat.zero_le _, rfl, rfl, by omega, (by repeat (first | assumption | ((with_reducible apply Bx.grownS); assumption; (first | omega | exact Bx.ne (by assumption) (by omega))) | ((with_reducible apply Bx.below); assumption; omega) | ((with_reducible apply Bx.ex); assumption))), (by repeat (first | assumption | ((with_reducible apply Bx.grownS); assumption; (first | omega | exact Bx.ne (by assumption) (by omega))) | ((with_reducible apply Bx.below); assumption; omega) | ((with_reducible apply Bx.ex); assumption))), hwr, (by repeat (first | assumption | exact Ex.refl _ | (refine Ex.trans ?_ (by assumption)) | (refine Ex.of_grown ?_ (by assumption) (by intro k hk; cases hk; omega))))⟩ ⟨rfl, rfl, rfl, rfl, rfl, rfl, rfl, trivial⟩ (by ((conv => lhs; whnf) <;> exact rfl)) (by ((conv => lhs; whnf) <;> exact rfl)) ?_; rintro J hJ k u ps wr ⟨b1, bc, a, c, r, i, rfl, rfl, hk, hma, hmc, hb1, hx1, hxc, hwr, he⟩; have hsz := he.size)
      | ((with_reducible (show Exit.then _ _ _ _ _)); refine n_roundG (k + 1) (hJ _ _ _ _ ⟨_, _, _, _, _, _, rfl, by omega, by omega, (by rw [mom_yes (by omega)]), (by rw [mom_yes (by omega)]), hb1, (by repeat (first | assumption | ((with_reducible apply Bx.grownS); assumption; (first | omega | exact Bx.ne (by assumption) (by omega))) | ((with_reducible apply Bx.below); assumption; omega) | ((with_reducible apply Bx.ex); assumption))), (by repeat (first | assumption | ((with_reducible apply Bx.grownS); assumption; (first | omega | exact Bx.ne (by assumption) (by omega))) | ((with_reducible apply Bx.below); assumption; omega) | ((with_reducible apply Bx.ex); assumption))), Row.ex (by assumption) hwr, (by repeat (first | assumption | exact Ex.refl _ | (refine Ex.trans ?_ (by assumption)) | (refine Ex.of_grown ?_ (by assumption) (by intro k hk; cases hk; omega))))⟩ ⟨rfl, rfl, rfl, rfl, rfl, rfl, rfl, trivial⟩ rfl) (by omega))
      | ((with_reducible (show Exit.then _ _ _ _ _)); refine n_roundG (k + 1) (hJ _ _ _ _ ⟨_, _, _, _, _, _, rfl, by omega, by omega, (by rw [mom_no (by omega)]; exact hma), (by rw [mom_no (by omega)]; exact hmc), hb1, (by repeat (first | assumption | ((with_reducible apply Bx.grownS); assumption; (first | omega | exact Bx.ne (by assumption) (by omega))) | ((with_reducible apply Bx.below); assumption; omega) | ((with_reducible apply Bx.ex); assumption))), (by repeat (first | assumption | ((with_reducible apply Bx.grownS); assumption; (first | omega | exact Bx.ne (by assumption) (by omega))) | ((with_reducible apply Bx.below); assumption; omega) | ((with_reducible apply Bx.ex); assumption))), Row.ex (by assumption) hwr, (by repeat (first | assumption | exact Ex.refl _ | (refine Ex.trans ?_ (by assumption)) | (refine Ex.of_grown ?_ (by assumption) (by intro k hk; cases hk; omega))))⟩ ⟨rfl, rfl, rfl, rfl, rfl, rfl, rfl, trivial⟩ rfl) (by omega))
      | (with_reducible apply W_nil)
      | ((with_reducible apply W_box); exact rfl; exact rfl; intro bq wq hbq he hnq; have hltq := Bx.lt hbq; have hsz := he.size)
      | ((with_reducible apply W_alloc); exact rfl; intro bq wq hbq he hnq; have hltq := Bx.lt hbq; have hsz := he.size)
      | (with_reducible apply c_seq)
      | ((with_reducible apply c_region); kernel_rfl)
      | (with_reducible apply n_nq)
      | (with_reducible apply c_block)
      | (with_reducible apply c_skip)
      | (with_reducible apply c_ret)
      | (with_reducible apply c_exit)
      | ((with_reducible apply c_cond_dec); exact rfl; intro _; rotate_left 1; intro _)
      | (with_reducible apply n_then)
      | (with_reducible apply n_block)
      | (with_reducible apply e_then)
      | (with_reducible apply e_block)
      | (with_reducible apply r_then)
      | ((with_reducible apply p_ret2); exact rfl; exact rfl; ((conv => lhs; whnf) <;> exact rfl); ((conv => lhs; whnf) <;> exact rfl); refine ⟨_, rfl, ?_, (by repeat (first | assumption | exact Ex.refl _ | (refine Ex.trans ?_ (by assumption)) | (refine Ex.of_grown ?_ (by assumption) (by intro k hk; cases hk; omega))))⟩))
  · have e : k = sl.length := by omega
    have hp : proveErr rest sl = 0 := by unfold proveErr; rw [if_neg (by omega), if_neg (by omega)]
    rw [hp, if_pos rfl, hma, e]; rfl
  · have hp : proveErr rest sl = 8 := by unfold proveErr; rw [if_neg (by omega), if_pos (by omega)]
    rw [hp, if_neg (by omega)]
  · have hp : proveErr rest sl = jobErr rest sl := by unfold proveErr; rw [if_pos (by omega)]
    rw [hp, if_neg (by omega)]
theorem Verify_any (rest : Int) (v pv : Value) (sl : List (Int × Int)) (plan : List Int) (w : World) (h : Prs w v sl) (hp : Ints w pv plan) : Ret Try.prog 26 [.agg #[.int .i64 rest, v], pv] w fun r _ => r = .tuple #[.int .i64 (if planErr rest sl plan = 0 then passL plan else 0), .int .i64 (planErr rest sl plan)] := by
  have hv1 := h.one
  have hp1 := hp.one
  have hpl := hp.len
  have hsl := h.len
  have tA : True := trivial
  refine ret_of_c Try.func26 rfl Try.ntmps26 (Nat.le_of_ble_eq_true rfl) (by dsimp only [ini, Nat.reduceAdd] <;> exact rfl) ?_
  repeat' (first
      | (clear tA; have hE : jobErr rest sl = 0 := (by omega); have hji := job_inv hE; refine W_callv (plannedBy_any rest v pv plan _ hv1 (by repeat (first | assumption | ((with_reducible apply OwnR.grownS); assumption; omega) | ((with_reducible apply Row.ex); assumption) | ((with_reducible apply OwnR.ex); assumption) | ((with_reducible apply Bx.grownS); assumption; (first | omega | exact Bx.ne (by assumption) (by omega))) | ((with_reducible apply Bx.below); assumption; omega) | ((with_reducible apply Own.grownS); assumption; omega) | ((with_reducible apply Bx.ex); assumption) | ((with_reducible apply IntsK.ex); assumption) | ((with_reducible apply Own.ex); assumption) | ((with_reducible apply Prs.ex); assumption))) (by omega)) rfl (fun wq he => ?_); have hsz := he.size)
      | ((first | ((with_reducible apply W_op); exact rfl; exact rfl)); (first | ((with_reducible apply r_move); ((conv => lhs; whnf) <;> exact rfl)) | ((with_reducible apply r_assign); ((conv => lhs; whnf) <;> exact rfl)) | ((with_reducible apply r_fieldAddr); exact rfl) | ((with_reducible apply r_load); exact rfl; exact rfl; (first | assumption | exact (Bx.cell (by repeat (first | assumption | ((with_reducible apply Bx.grownS); assumption; (first | omega | exact Bx.ne (by assumption) (by omega))) | ((with_reducible apply Bx.below); assumption; omega) | ((with_reducible apply Bx.ex); assumption))) _).trans rfl | exact Ex.cell (by assumption) (by assumption))) | ((with_reducible apply r_loadA); exact rfl; (first | assumption | exact Bx.cells (by repeat (first | assumption | ((with_reducible apply Bx.grownS); assumption; (first | omega | exact Bx.ne (by assumption) (by omega))) | ((with_reducible apply Bx.below); assumption; omega) | ((with_reducible apply Bx.ex); assumption))) | exact Cells.ex (by assumption) (by assumption)); exact rfl) | ((with_reducible apply r_neq); exact rfl; exact rfl) | ((with_reducible apply r_lenInts); ((conv => lhs; whnf) <;> exact rfl); (focus ((repeat (first | assumption | ((with_reducible apply OwnR.grownS); assumption; omega) | ((with_reducible apply Row.ex); assumption) | ((with_reducible apply OwnR.ex); assumption) | ((with_reducible apply Bx.grownS); assumption; (first | omega | exact Bx.ne (by assumption) (by omega))) | ((with_reducible apply Bx.below); assumption; omega) | ((with_reducible apply Own.grownS); assumption; omega) | ((with_reducible apply Bx.ex); assumption) | ((with_reducible apply IntsK.ex); assumption) | ((with_reducible apply Own.ex); assumption) | ((with_reducible apply Prs.ex); assumption))); done))) | ((with_reducible apply r_lenPrs); ((conv => lhs; whnf) <;> exact rfl); (focus ((repeat (first | assumption | ((with_reducible apply OwnR.grownS); assumption; omega) | ((with_reducible apply Row.ex); assumption) | ((with_reducible apply OwnR.ex); assumption) | ((with_reducible apply Bx.grownS); assumption; (first | omega | exact Bx.ne (by assumption) (by omega))) | ((with_reducible apply Bx.below); assumption; omega) | ((with_reducible apply Own.grownS); assumption; omega) | ((with_reducible apply Bx.ex); assumption) | ((with_reducible apply IntsK.ex); assumption) | ((with_reducible apply Own.ex); assumption) | ((with_reducible apply Prs.ex); assumption))); done))) | ((with_reducible apply r_not); exact rfl) | ((with_reducible apply r_notb); exact rfl) | ((with_reducible apply r_build2); ((conv => lhs; whnf) <;> exact rfl); ((conv => lhs; whnf) <;> exact rfl); (first | exact rfl | assumption | exact IntsK.one (by assumption) | exact Prs.one (by assumption) | exact Own.one (by assumption) | exact Row.one (by assumption) | exact OwnR.one (by assumption)); (first | exact rfl | assumption | exact IntsK.one (by assumption) | exact Prs.one (by assumption) | exact Own.one (by assumption) | exact Row.one (by assumption) | exact OwnR.one (by assumption)); exact rfl; exact rfl; ((simp only [lay, lset, List.replicate_succ, List.replicate_zero]) <;> exact rfl))))
      | (refine W_callv (check_any rest v sl _ (by repeat (first | assumption | ((with_reducible apply OwnR.grownS); assumption; omega) | ((with_reducible apply Row.ex); assumption) | ((with_reducible apply OwnR.ex); assumption) | ((with_reducible apply Bx.grownS); assumption; (first | omega | exact Bx.ne (by assumption) (by omega))) | ((with_reducible apply Bx.below); assumption; omega) | ((with_reducible apply Own.grownS); assumption; omega) | ((with_reducible apply Bx.ex); assumption) | ((with_reducible apply IntsK.ex); assumption) | ((with_reducible apply Own.ex); assumption) | ((with_reducible apply Prs.ex); assumption)))) rfl (fun wq he => ?_); have hsz := he.size)
      | (refine W_callv (within_any 0 39 pv plan _ (by repeat (first | assumption | ((with_reducible apply OwnR.grownS); assumption; omega) | ((with_reducible apply Row.ex); assumption) | ((with_reducible apply OwnR.ex); assumption) | ((with_reducible apply Bx.grownS); assumption; (first | omega | exact Bx.ne (by assumption) (by omega))) | ((with_reducible apply Bx.below); assumption; omega) | ((with_reducible apply Own.grownS); assumption; omega) | ((with_reducible apply Bx.ex); assumption) | ((with_reducible apply IntsK.ex); assumption) | ((with_reducible apply Own.ex); assumption) | ((with_reducible apply Prs.ex); assumption)))) rfl (fun wq he => ?_); have hsz := he.size)
      | (refine W_call (possible_any rest v sl (fillP plan) _ (by repeat (first | assumption | ((with_reducible apply OwnR.grownS); assumption; omega) | ((with_reducible apply Row.ex); assumption) | ((with_reducible apply OwnR.ex); assumption) | ((with_reducible apply Bx.grownS); assumption; (first | omega | exact Bx.ne (by assumption) (by omega))) | ((with_reducible apply Bx.below); assumption; omega) | ((with_reducible apply Own.grownS); assumption; omega) | ((with_reducible apply Bx.ex); assumption) | ((with_reducible apply IntsK.ex); assumption) | ((with_reducible apply Own.ex); assumption) | ((with_reducible apply Prs.ex); assumption))) hji.2.1 (fillP_len (by omega)) ⟨⟨hji.1.1, by omega⟩, fun j hj => ⟨by have := hji.2.2 j hj; omega, (hji.2.2 j hj).2.2⟩⟩) rfl ?_; rintro vq wq ⟨bb, rfl, hbb⟩ he; have hsz := he.size)
      | (refine W_callv (passesOf_any pv plan _ (by repeat (first | assumption | ((with_reducible apply OwnR.grownS); assumption; omega) | ((with_reducible apply Row.ex); assumption) | ((with_reducible apply OwnR.ex); assumption) | ((with_reducible apply Bx.grownS); assumption; (first | omega | exact Bx.ne (by assumption) (by omega))) | ((with_reducible apply Bx.below); assumption; omega) | ((with_reducible apply Own.grownS); assumption; omega) | ((with_reducible apply Bx.ex); assumption) | ((with_reducible apply IntsK.ex); assumption) | ((with_reducible apply Own.ex); assumption) | ((with_reducible apply Prs.ex); assumption))) (fun j hj => by have := (Classical.not_not.1 (by assumption) : ∀ j, j < plan.length → 0 ≤ plan.getD j 0 ∧ plan.getD j 0 ≤ 39) j hj; omega)) rfl (fun wq he => ?_); have hsz := he.size)
      | (with_reducible apply W_nil)
      | ((with_reducible apply W_box); exact rfl; exact rfl; intro bq wq hbq he hnq; have hltq := Bx.lt hbq; have hsz := he.size)
      | (with_reducible apply c_seq)
      | ((with_reducible apply c_region); kernel_rfl)
      | (with_reducible apply n_nq)
      | (with_reducible apply c_skip)
      | (with_reducible apply c_ret)
      | ((with_reducible apply c_cond_dec); exact rfl; intro _; rotate_left 1; intro _)
      | ((with_reducible apply c_cond_bool); exact rfl; intro _; rotate_left 1; intro _)
      | (with_reducible apply n_then)
      | (with_reducible apply r_then)
      | ((with_reducible apply p_ret2); exact rfl; exact rfl; ((conv => lhs; whnf) <;> exact rfl); ((conv => lhs; whnf) <;> exact rfl); refine ⟨_, rfl, ?_, (by repeat (first | assumption | exact Ex.refl _ | (refine Ex.trans ?_ (by assumption)) | (refine Ex.of_grown ?_ (by assumption) (by intro k hk; cases hk; omega))))⟩))
  all_goals first
    | (rw [pe_ok (by omega) (by omega) (Classical.not_not.1 (by assumption)) ((pos_apart (by omega)).1 (hbb.1 (by simpa using (by assumption : (!bb) = false))))]; rfl)
    | (rw [pe_apart (by omega) (by omega) (Classical.not_not.1 (by assumption)) (fun hc => by have h1 := hbb.2 ((pos_apart (by omega)).2 hc); have h2 := (by assumption : (!bb) = true); rw [h1] at h2; cases h2)]; rfl)
    | (rw [pe_num (by omega) (by omega) (by assumption)]; rfl)
    | (rw [pe_len (by omega) (by omega)]; rfl)
    | (rw [pe_job (by omega), if_neg (by omega)])
theorem Add_any (rest a b : Int) (v pv : Value) (sl : List (Int × Int)) (plan : List Int) (w : World) (h : Prs w v sl) (hp : Ints w pv plan) : Ret Try.prog 28 [.agg #[.int .i64 rest, v], pv, .agg #[.int .i64 a, .int .i64 b]] w fun r _ => r = .tuple #[.int .i64 (if addErr rest sl plan (a, b) = 0 then smallN rest sl (fillP plan) (a, b) else 0), .int .i64 (addErr rest sl plan (a, b))] := by
  have hv1 := h.one
  have hp1 := hp.one
  have tA : True := trivial
  refine ret_of_c Try.func28 rfl Try.ntmps28 (Nat.le_of_ble_eq_true rfl) (by dsimp only [ini, Nat.reduceAdd] <;> exact rfl) ?_
  repeat' (first
      | (clear tA; have hE : planErr rest sl plan = 0 := (by omega); have hpi := planErr_inv hE; have hji := job_inv hpi.1; (have hso : slotOk (a, b) := Classical.not_not.1 (by assumption)); (have hso2 : 0 ≤ b ∧ b ≤ 1000000 := (by have h1 := hso; unfold slotOk at h1; simp only at h1; omega)); have hwk := he; (with_reducible apply c_quiet); kernel_rfl)
      | ((first | ((with_reducible apply W_op); exact rfl; exact rfl) | ((with_reducible apply WQ_op); exact rfl; exact rfl; intro wq he) | ((with_reducible apply WM_op); exact rfl; exact rfl; intro wq he) | ((with_reducible apply WB_op); exact rfl; exact rfl; intro wq)); (first | ((with_reducible apply r_move); ((conv => lhs; whnf) <;> exact rfl)) | ((with_reducible apply r_assign); ((conv => lhs; whnf) <;> exact rfl)) | ((with_reducible apply r_loadA); exact rfl; (first | assumption | exact Bx.cells (by repeat (first | assumption | ((with_reducible apply Bx.grownS); assumption; (first | omega | exact Bx.ne (by assumption) (by omega))) | ((with_reducible apply Bx.below); assumption; omega) | ((with_reducible apply Bx.ex); assumption))) | exact Cells.ex (by assumption) (by assumption)); exact rfl) | ((with_reducible apply r_neq); exact rfl; exact rfl) | ((with_reducible apply r_not); exact rfl) | ((with_reducible apply r_extract); exact rfl; exact rfl)))
      | (refine W_callv (Verify_any rest v pv sl plan _ (by repeat (first | assumption | ((with_reducible apply OwnR.grownS); assumption; omega) | ((with_reducible apply Row.ex); assumption) | ((with_reducible apply OwnR.ex); assumption) | ((with_reducible apply Bx.grownS); assumption; (first | omega | exact Bx.ne (by assumption) (by omega))) | ((with_reducible apply Bx.below); assumption; omega) | ((with_reducible apply Own.grownS); assumption; omega) | ((with_reducible apply Bx.ex); assumption) | ((with_reducible apply IntsK.ex); assumption) | ((with_reducible apply Own.ex); assumption) | ((with_reducible apply Prs.ex); assumption))) (by repeat (first | assumption | ((with_reducible apply OwnR.grownS); assumption; omega) | ((with_reducible apply Row.ex); assumption) | ((with_reducible apply OwnR.ex); assumption) | ((with_reducible apply Bx.grownS); assumption; (first | omega | exact Bx.ne (by assumption) (by omega))) | ((with_reducible apply Bx.below); assumption; omega) | ((with_reducible apply Own.grownS); assumption; omega) | ((with_reducible apply Bx.ex); assumption) | ((with_reducible apply IntsK.ex); assumption) | ((with_reducible apply Own.ex); assumption) | ((with_reducible apply Prs.ex); assumption)))) rfl (fun wq he => ?_); have hsz := he.size)
      | (refine W_callv (isSlot_any a b _) rfl (fun wq he => ?_); have hsz := he.size)
      | (refine WQ_callv (fun wq he => plannedBy_any rest v pv plan _ hv1 (IntsK.ex (Ex.trans (by repeat (first | assumption | exact Ex.refl _ | (refine Ex.trans ?_ (by assumption)) | (refine Ex.of_grown ?_ (by assumption) (by intro k hk; cases hk; omega)))) he) hp) (by omega)) rfl ?_)
      | (refine WQ_callv (fun wq he => smallest_any rest a b v sl (fillP plan) _ (Prs.ex (Ex.trans (by repeat (first | assumption | exact Ex.refl _ | (refine Ex.trans ?_ (by assumption)) | (refine Ex.of_grown ?_ (by assumption) (by intro k hk; cases hk; omega)))) he) h) hji.2.1 (fillP_len (by omega)) ⟨⟨hji.1.1, by omega⟩, fun j hj => ⟨by have := hji.2.2 j hj; omega, (hji.2.2 j hj).2.2⟩, hso2.1, hso2.2⟩) rfl ?_)
      | (with_reducible apply W_nil)
      | ((with_reducible apply WQ_nil); exact rfl; intro wq he; have hsz := he.size)
      | ((with_reducible apply W_box); exact rfl; exact rfl; intro bq wq hbq he hnq; have hltq := Bx.lt hbq; have hsz := he.size)
      | (with_reducible apply c_seq)
      | ((with_reducible apply c_region); kernel_rfl)
      | (with_reducible apply n_nq)
      | (with_reducible apply c_skip)
      | (with_reducible apply c_ret)
      | ((with_reducible apply c_cond_dec); exact rfl; intro _; rotate_left 1; intro _)
      | (with_reducible apply n_then)
      | (with_reducible apply r_then)
      | ((with_reducible apply p_ret2); exact rfl; exact rfl; ((conv => lhs; whnf) <;> exact rfl); ((conv => lhs; whnf) <;> exact rfl); refine ⟨_, rfl, ?_, (by repeat (first | assumption | exact Ex.refl _ | (refine Ex.trans ?_ (by assumption)) | (refine Ex.of_grown ?_ (by assumption) (by intro k hk; cases hk; omega))))⟩))
  · rw [ae_ok hE hso, if_pos rfl]
  · rw [ae_bad (by omega) (by assumption), if_neg (by omega)]
  · rw [ae_plan (by omega), if_neg (by omega)]
end Go.Proofs.Ytjcigpakljfkeaa
