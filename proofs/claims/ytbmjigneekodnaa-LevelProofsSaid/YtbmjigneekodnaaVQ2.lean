/-
  (rows) What this text proves: the reference's Verify answers as stated. Conditions: the codes are a row.
-/
import Derived.Test.YtbmjigneekodnaaVQ1
import Derived.Test.YtbmjigneekodnaaVLj
set_option linter.unusedVariables false
set_option linter.unusedSimpArgs false

namespace Go.Pv
theorem pe_cases {n : Nat} {cs : List Int} (h : pErr n cs = 0) : (cs.length = 1 ∧ ∃ a : Nat, cs.getD 0 0 = a ∧ a < n ∧ pOf cs = (a, a, a)) ∨ (cs.length = 3 ∧ ∃ a b c : Nat, cs.getD 0 0 = a ∧ cs.getD 1 0 = b ∧ cs.getD 2 0 = c ∧ a < b ∧ b < c ∧ c < n ∧ pOf cs = (a, b, c)) := by
  match cs, h with
  | [], h => exact absurd (show (6 : Int) = 0 from h) (by decide)
  | [a], h =>
    have hp := pe_inv h
    have h0 := hp.1.2 0 (by simp)
    have h1 := hp.2
    unfold pOf isProof at h1
    simp only [List.length_cons, List.length_nil, if_true, List.getD_cons_zero] at h1 h0
    exact Or.inl ⟨rfl, a.toNat, by simp only [List.getD_cons_zero]; omega, by omega, rfl⟩
  | [a, b], h => exact absurd (show (6 : Int) = 0 from h) (by decide)
  | [a, b, c], h =>
    unfold pErr at h
    rw [if_neg (by simp)] at h
    simp only [pStep] at h
    by_cases e : 0 ≤ a ∧ a ≤ (n : Int) - 1
    · rw [if_neg (not_not_intro e), if_neg (by omega)] at h
      by_cases e2 : 0 ≤ b ∧ b ≤ (n : Int) - 1
      · rw [if_neg (not_not_intro e2)] at h
        by_cases e3 : b ≤ a
        · rw [if_pos e3] at h; exact absurd h (by decide)
        · rw [if_neg e3] at h
          by_cases e4 : 0 ≤ c ∧ c ≤ (n : Int) - 1
          · rw [if_neg (not_not_intro e4)] at h
            by_cases e5 : c ≤ b
            · rw [if_pos e5] at h; exact absurd h (by decide)
            · exact Or.inr ⟨rfl, a.toNat, b.toNat, c.toNat, by simp; omega, by simp; omega, by simp; omega, by omega, by omega, by omega, rfl⟩
          · rw [if_pos e4] at h; exact absurd h (by decide)
      · rw [if_pos e2] at h; exact absurd h (by decide)
    · rw [if_pos e] at h; exact absurd h (by decide)
  | a :: b :: c :: d :: r, h =>
    unfold pErr at h
    rw [if_pos (by simp)] at h
    exact absurd h (by decide)
theorem fLt_lowL {g a : Int × Int} (ha : 1 ≤ a.2) : fLt (low a) g ↔ fLt a g := by
  have h1 := low_cross ha
  have h2 := (low_den ha).1.1
  generalize low a = b at *
  unfold fLt
  have e1 : b.1 * g.2 * a.2 = a.1 * g.2 * b.2 := by
    have : b.1 * g.2 * a.2 = b.1 * a.2 * g.2 := by ac_rfl
    rw [this, ← h1]; ac_rfl
  have e2 : g.1 * b.2 * a.2 = g.1 * a.2 * b.2 := by ac_rfl
  constructor
  · intro h
    have := Int.mul_lt_mul_of_pos_right h (show 0 < a.2 by omega)
    rw [e1, e2] at this
    exact Int.lt_of_mul_lt_mul_right this (by omega)
  · intro h
    have := Int.mul_lt_mul_of_pos_right h (show 0 < b.2 by omega)
    rw [← e1, ← e2] at this
    exact Int.lt_of_mul_lt_mul_right this (by omega)
theorem vf_at {l : List T3} {cs : List Int} {f : Int × Int} (h1 : cErr l = 0) (h2 : pErr l.length cs = 0) (h3 : bOk f) : vfE l cs f = if fLt (prvL l (pOf cs)) f then 14 else 0 := by
  unfold vfE
  rw [if_neg (fun h => h h1), if_neg (fun h => h h2), if_neg (fun h => h h3)]
end Go.Pv
namespace Go.Proofs.Ytbmjigneekodnaa
open Go.Pv Go.RowKit
set_option maxHeartbeats 16000000
set_option maxRecDepth 20000

theorem rLessBT (a b : Int × Int) (w : World) (ha : fOk a) (hb : bOk b) (h : fLt a b) : Ret Try.prog 48 [v2 a, v2 b] w fun r _ => r = .bool true := by
  have h1 := vb_bd ha hb
  have := rLess_any a b w h1.1 h1.2
  rw [decide_eq_true h] at this
  exact this
theorem rLessBF (a b : Int × Int) (w : World) (ha : fOk a) (hb : bOk b) (h : ¬ fLt a b) : Ret Try.prog 48 [v2 a, v2 b] w fun r _ => r = .bool false := by
  have h1 := vb_bd ha hb
  have := rLess_any a b w h1.1 h1.2
  rw [decide_eq_false h] at this
  exact this
theorem rVerify_any (v vp : Value) (l : List T3) (cs : List Int) (f : Int × Int) (w : World) (h : Row cC 3 w v l) (hp : Ints w vp cs) : Ret Try.prog 20 [v, vp, v2 f] w fun r _ => r = .int .i64 (vfE l cs f) := by
  have hv1 := h.one
  have hl := h.len
  have hl2 := hp.len
  have hp1 := hp.one
  unfold v2
  refine ret_of_c Try.func20 rfl Try.ntmps20 (Nat.le_of_ble_eq_true rfl) (by dsimp only [ini, Nat.reduceAdd] <;> exact rfl) ?_
  repeat' (first
      | (((with_reducible apply W_split); exact rfl; exact rfl; (all_goals intro _); (all_goals (try (exfalso; (focus (omega; done)))))))
      | (((with_reducible apply WM_split); exact rfl; exact rfl; (all_goals intro _); (all_goals (try (exfalso; (focus (omega; done)))))))
      | (((with_reducible apply c_cond_dec); exact rfl; (all_goals intro _); (all_goals (try (exfalso; (focus (omega; done)))))))
      | ((with_reducible apply W_op); exact rfl; exact rfl; ((with_reducible apply r_lenR (f := cC) (n := 3) (xs := l) (v := v)); exact rfl; exact Row.ex (by repeat (first | exact Ex.refl _ | assumption | (refine Ex.of_grown ?_ (by assumption) (by intro k hk; cases hk; omega)) | (refine Ex.trans ?_ (by assumption)))) h))
      | ((with_reducible (show C _ _ _ _ _)); clear tkA; by_cases hkl : k < cs.length; (have hcd := ps_drop (n := l.length) hkl b); by_cases hk0 : k = 0; (have tkB : True := trivial); rotate_left 1; (have tkB : True := trivial); rotate_left 1; (have hpe : pErr l.length cs = 0 := by unfold pErr; rw [if_neg (by omega), hst, List.drop_eq_nil_of_le (by omega)]; rfl); (have tkF : True := trivial); rotate_left 1)
      | (refine W_indexInt (i := k) (xs := cs) (v := vp) rfl (IntsK.ex (by repeat (first | exact Ex.refl _ | assumption | (refine Ex.of_grown ?_ (by assumption) (by intro k hk; cases hk; omega)) | (refine Ex.trans ?_ (by assumption)))) hp) rfl (by omega) ?_; intro pq hpq)
      | (refine c_mix (id := 11) [] [0, 1, 2, 3, 4, 5, 6, 7, 8, 9, 10, 11, 12] [13] [false, false, false, false, false, false, false, false, false, false, false, false, false, false] [true, true, true, true, true, true, true, true, true, true, true, true, true, false] [none, none, none, none, none, none, none, none, none, none, none, none, none, some true] (by kernel_rfl) (by kernel_rfl) (by kernel_rfl) (by kernel_rfl) (by kernel_rfl) (by kernel_rfl) (by dsimp only [sel] <;> exact rfl) (by dsimp only [sel] <;> exact rfl) (by dsimp only [selT] <;> exact rfl) ?_)
      | ((with_reducible (show C _ _ _ _ _)); clear tkF; (obtain ⟨hv, hbo⟩ : Valid l ∧ True := ⟨valid_of hce, trivial⟩); rcases pe_cases hpe with ⟨h1, a, ha, hal, hpo⟩ | ⟨h1, a, b, c, ha, hb, hc, hab, hbc, hcl, hpo⟩; (have hca := hv.2.1 a hal); (have tkG : True := trivial); rotate_left 1; (have hca := hv.2.1 a (by omega)); (have hcb := hv.2.1 b (by omega)); (have hcc := hv.2.1 c hcl); (have s1 := hv.2.2 a b hab (by omega)); (have s2 := hv.2.2 b c hbc hcl); (have tkG : True := trivial); rotate_left 1)
      | (refine W_indexInt (i := 0) (xs := cs) (v := vp) rfl (IntsK.ex (by repeat (first | exact Ex.refl _ | assumption | (refine Ex.of_grown ?_ (by assumption) (by intro k hk; cases hk; omega)) | (refine Ex.trans ?_ (by assumption)))) hp) rfl (by omega) ?_; intro pq hpq)
      | (refine W_indexRw (f := cC) (n := 3) (v := v) (xs := l) (i := a) cD cC_len (by decide) rfl (Row.ex (by repeat (first | exact Ex.refl _ | assumption | (refine Ex.of_grown ?_ (by assumption) (by intro k hk; cases hk; omega)) | (refine Ex.trans ?_ (by assumption)))) h) (Eq.trans (b := Value.int .i64 (cs.getD 0 0)) rfl (congrArg _ ha)) (by omega) ?_; intro pb po hpc; (have hpca : Cells _ ⟨pb, po, none⟩ [_, _, _] := hpc))
      | (refine c_mix (id := 17) [] [0, 1, 2, 3, 4, 5, 6, 7, 8, 9, 10, 11, 12, 13, 14, 15, 16, 17, 18] [19] [false, false, false, false, false, false, false, false, false, false, false, false, false, false, false, false, false, false, false, false] [true, true, true, true, true, true, true, true, true, true, true, true, true, true, true, true, true, true, true, false] [none, none, none, none, none, none, none, none, none, none, none, none, none, none, none, none, none, none, none, some true] (by kernel_rfl) (by kernel_rfl) (by kernel_rfl) (by kernel_rfl) (by kernel_rfl) (by kernel_rfl) (by dsimp only [sel] <;> exact rfl) (by dsimp only [sel] <;> exact rfl) (by dsimp only [selT] <;> exact rfl) ?_)
      | (refine WM_indexInt (i := 0) (xs := cs) (v := vp) rfl (IntsK.ex (by repeat (first | exact Ex.refl _ | assumption | (refine Ex.of_grown ?_ (by assumption) (by intro k hk; cases hk; omega)) | (refine Ex.trans ?_ (by assumption)))) hp) rfl (by omega) ?_; intro pq hpq)
      | (refine WM_indexRwQ (f := cC) (n := 3) (v := v) (xs := l) (i := a) cD cC_len (by decide) rfl (Row.ex (by repeat (first | exact Ex.refl _ | assumption | (refine Ex.of_grown ?_ (by assumption) (by intro k hk; cases hk; omega)) | (refine Ex.trans ?_ (by assumption)))) h) (Eq.trans (b := Value.int .i64 (cs.getD 0 0)) rfl (congrArg _ ha)) (by omega) ?_; intro pb po hpc; (have hpca : Cells _ ⟨pb, po, none⟩ [_, _, _] := hpc))
      | (refine WM_indexInt (i := 1) (xs := cs) (v := vp) rfl (IntsK.ex (by repeat (first | exact Ex.refl _ | assumption | (refine Ex.of_grown ?_ (by assumption) (by intro k hk; cases hk; omega)) | (refine Ex.trans ?_ (by assumption)))) hp) rfl (by omega) ?_; intro pq hpq)
      | (refine WM_indexRwQ (f := cC) (n := 3) (v := v) (xs := l) (i := b) cD cC_len (by decide) rfl (Row.ex (by repeat (first | exact Ex.refl _ | assumption | (refine Ex.of_grown ?_ (by assumption) (by intro k hk; cases hk; omega)) | (refine Ex.trans ?_ (by assumption)))) h) (Eq.trans (b := Value.int .i64 (cs.getD 1 0)) rfl (congrArg _ hb)) (by omega) ?_; intro pb po hpc; (have hpcb : Cells _ ⟨pb, po, none⟩ [_, _, _] := hpc))
      | (refine WM_indexInt (i := 2) (xs := cs) (v := vp) rfl (IntsK.ex (by repeat (first | exact Ex.refl _ | assumption | (refine Ex.of_grown ?_ (by assumption) (by intro k hk; cases hk; omega)) | (refine Ex.trans ?_ (by assumption)))) hp) rfl (by omega) ?_; intro pq hpq)
      | (refine WM_indexRwQ (f := cC) (n := 3) (v := v) (xs := l) (i := c) cD cC_len (by decide) rfl (Row.ex (by repeat (first | exact Ex.refl _ | assumption | (refine Ex.of_grown ?_ (by assumption) (by intro k hk; cases hk; omega)) | (refine Ex.trans ?_ (by assumption)))) h) (Eq.trans (b := Value.int .i64 (cs.getD 2 0)) rfl (congrArg _ hc)) (by omega) ?_; intro pb po hpc; (have hpcc : Cells _ ⟨pb, po, none⟩ [_, _, _] := hpc))
      | (refine WM_indexInt (i := k - 1) (xs := cs) (v := vp) rfl (IntsK.ex (by repeat (first | exact Ex.refl _ | assumption | (refine Ex.of_grown ?_ (by assumption) (by intro k hk; cases hk; omega)) | (refine Ex.trans ?_ (by assumption)))) hp) (Eq.trans (b := Value.int .i64 _) rfl (congrArg _ (by omega))) (by omega) ?_; intro pq hpq)
      | (refine WM_indexInt (i := k) (xs := cs) (v := vp) rfl (IntsK.ex (by repeat (first | exact Ex.refl _ | assumption | (refine Ex.of_grown ?_ (by assumption) (by intro k hk; cases hk; omega)) | (refine Ex.trans ?_ (by assumption)))) hp) rfl (by omega) ?_; intro pq hpq)
      | ((with_reducible (show C _ (.seq (.region 18 _ _) _) _ _ _)); clear tkG; first | (by_cases hlt : fLt (low (threeP (l.getD a cD) (l.getD b cD) (l.getD c cD))) f) | (by_cases hlt : fLt (low (oneP (l.getD a cD))) f))
      | ((first | ((with_reducible apply W_op); exact rfl; exact rfl) | ((with_reducible apply WQ_op); exact rfl; exact rfl; intro wq he) | ((with_reducible apply WM_op); exact rfl; exact rfl; intro wq he) | ((with_reducible apply WB_op); exact rfl; exact rfl; intro wq)); (first | ((with_reducible apply r_move); ((conv => lhs; whnf) <;> exact rfl)) | ((with_reducible apply r_assign); ((conv => lhs; whnf) <;> exact rfl)) | ((with_reducible apply r_load); exact rfl; exact rfl; (first | assumption | exact (Bx.cell (by repeat (first | assumption | ((with_reducible apply Bx.grownS); assumption; (first | omega | exact Bx.ne (by assumption) (by omega))) | ((with_reducible apply Bx.below); assumption; omega) | ((with_reducible apply Bx.ex); assumption))) _).trans rfl | exact Ex.cell (by assumption) (by assumption))) | ((with_reducible apply r_loadA); exact rfl; (first | assumption | exact Bx.cells (by repeat (first | assumption | ((with_reducible apply Bx.grownS); assumption; (first | omega | exact Bx.ne (by assumption) (by omega))) | ((with_reducible apply Bx.below); assumption; omega) | ((with_reducible apply Bx.ex); assumption))) | exact Cells.ex (by assumption) (by assumption)); exact rfl) | ((with_reducible apply r_lss); exact rfl; exact rfl) | ((with_reducible apply r_leq); exact rfl; exact rfl) | ((with_reducible apply r_gtr); exact rfl; exact rfl) | ((with_reducible apply r_eql); exact rfl; exact rfl) | ((with_reducible apply r_neq); exact rfl; exact rfl) | ((with_reducible apply r_add); exact rfl; exact rfl; omega) | ((with_reducible apply r_sub); exact rfl; exact rfl; omega) | ((with_reducible apply r_lenInts); ((conv => lhs; whnf) <;> exact rfl); (focus ((repeat (first | assumption | ((with_reducible apply OwnR.grownS); assumption; omega) | ((with_reducible apply Row.ex); assumption) | ((with_reducible apply OwnR.ex); assumption) | ((with_reducible apply Bx.grownS); assumption; (first | omega | exact Bx.ne (by assumption) (by omega))) | ((with_reducible apply Bx.below); assumption; omega) | ((with_reducible apply Own.grownS); assumption; omega) | ((with_reducible apply Bx.ex); assumption) | ((with_reducible apply IntsK.ex); assumption) | ((with_reducible apply Own.ex); assumption) | ((with_reducible apply Prs.ex); assumption))); done))) | ((with_reducible apply r_pick_true); exact rfl; ((conv => lhs; whnf) <;> exact rfl)) | ((with_reducible apply r_pick_false); exact rfl; ((conv => lhs; whnf) <;> exact rfl)) | ((with_reducible apply r_not); exact rfl)))
      | (refine W_callv (rCheck_any v l _ (by repeat (first | assumption | ((with_reducible apply OwnR.grownS); assumption; omega) | ((with_reducible apply Row.ex); assumption) | ((with_reducible apply OwnR.ex); assumption) | ((with_reducible apply Bx.grownS); assumption; (first | omega | exact Bx.ne (by assumption) (by omega))) | ((with_reducible apply Bx.below); assumption; omega) | ((with_reducible apply Own.grownS); assumption; omega) | ((with_reducible apply Bx.ex); assumption) | ((with_reducible apply IntsK.ex); assumption) | ((with_reducible apply Own.ex); assumption) | ((with_reducible apply Prs.ex); assumption)))) rfl (fun wq he => ?_); have hsz := he.size)
      | (refine W_callv (ris_any _ _ _ _) rfl (fun wq he => ?_); have hsz := he.size)
      | (refine W_callv (rbounded_any f _) rfl (fun wq he => ?_); have hsz := he.size)
      | (refine W_callv (rproved_any (l.getD a cD) _ hca) rfl (fun wq he => ?_); have hsz := he.size)
      | (refine WM_callv (fun wq he => rproved3_any (l.getD a cD) (l.getD b cD) (l.getD c cD) wq hca hcb hcc s1 s2) rfl ?_)
      | (refine W_callv (rLessBT (low (oneP (l.getD a cD))) f _ (low_fOk (one_fOk hca)) (by unfold bOk; omega) hlt) rfl (fun wq he => ?_); have hsz := he.size)
      | (refine W_callv (rLessBT (low (threeP (l.getD a cD) (l.getD b cD) (l.getD c cD))) f _ (low_fOk (three_fOk hca hcb hcc s1 s2)) (by unfold bOk; omega) hlt) rfl (fun wq he => ?_); have hsz := he.size)
      | (refine W_callv (rLessBF (low (oneP (l.getD a cD))) f _ (low_fOk (one_fOk hca)) (by unfold bOk; omega) hlt) rfl (fun wq he => ?_); have hsz := he.size)
      | (refine W_callv (rLessBF (low (threeP (l.getD a cD) (l.getD b cD) (l.getD c cD))) f _ (low_fOk (three_fOk hca hcb hcc s1 s2)) (by unfold bOk; omega) hlt) rfl (fun wq he => ?_); have hsz := he.size)
      | ((with_reducible (show C _ _ _ _ _)); refine c_loopG (fun (k : Nat) ps wr => ∃ b5 : Nat, ∃ i : Int, ∃ b : Int, ps = [(0, v), (1, vp), (5, .pointer (some ⟨b5, 0, none⟩)), (8, .int .i64 i)] ∧ i = k ∧ k ≤ cs.length ∧ (cs.length = 1 ∨ cs.length = 3) ∧ cErr l = 0 ∧ ((k = 0 ∧ b = -1) ∨ (1 ≤ k ∧ b = cs.getD (k - 1) 0)) ∧ pStep l.length (-1) cs = pStep l.length b (cs.drop k) ∧ Bx wr b5 [.int .i64 f.1, .int .i64 f.2] 24 ∧ Ex w wr) (fun k => cs.length - k) 0 _ ⟨_, _, (-1), rfl, rfl, Nat.zero_le _, (by omega), (Classical.not_not.mp (by assumption)), (Or.inl ⟨rfl, rfl⟩), rfl, (by repeat (first | assumption | ((with_reducible apply Bx.grownS); assumption; (first | omega | exact Bx.ne (by assumption) (by omega))) | ((with_reducible apply Bx.below); assumption; omega) | ((with_reducible apply Bx.ex); assumption))), (by repeat (first | assumption | exact Ex.refl _ | (refine Ex.trans ?_ (by assumption)) | (refine Ex.of_grown ?_ (by assumption) (by intro k hk; cases hk; omega))))⟩ ⟨rfl, rfl, rfl, rfl, trivial⟩ (by ((conv => lhs; whnf) <;> exact rfl)) ?_; rintro J hJ k u ps wr ⟨b5, i, b, rfl, rfl, hk, h2, hce, hbk, hst, hx5, he⟩; have hsz := he.size; have tkA : True := trivial)
      | ((with_reducible (show Exit.then _ _ _ _ _)); refine n_roundG (k + 1) (hJ _ _ _ _ ⟨_, _, cs.getD k 0, rfl, by omega, by omega, h2, hce, (Or.inr ⟨by omega, rfl⟩), (by rw [hst, hcd, if_neg (by first | assumption | omega), if_neg (by omega)]), (by repeat (first | assumption | ((with_reducible apply Bx.grownS); assumption; (first | omega | exact Bx.ne (by assumption) (by omega))) | ((with_reducible apply Bx.below); assumption; omega) | ((with_reducible apply Bx.ex); assumption))), (by repeat (first | assumption | exact Ex.refl _ | (refine Ex.trans ?_ (by assumption)) | (refine Ex.of_grown ?_ (by assumption) (by intro k hk; cases hk; omega))))⟩ ⟨rfl, rfl, rfl, rfl, trivial⟩ rfl) (by omega))
      | (with_reducible apply W_nil)
      | (with_reducible apply WM_nil; intro wq he; have hsz := he.size)
      | (with_reducible apply WB_nil)
      | (with_reducible apply WT_nil)
      | (with_reducible apply WT_cons)
      | (with_reducible apply t_sink)
      | ((with_reducible apply W_box); exact rfl; exact rfl; intro bq wq hbq he hnq; have hltq := Bx.lt hbq; have hsz := he.size)
      | ((with_reducible apply W_alloc); exact rfl; intro bq wq hbq he hnq; have hltq := Bx.lt hbq; have hsz := he.size)
      | ((with_reducible apply W_storeA); exact rfl; (focus ((repeat (first | assumption | ((with_reducible apply Bx.grownS); assumption; (first | omega | exact Bx.ne (by assumption) (by omega))) | ((with_reducible apply Bx.below); assumption; omega) | ((with_reducible apply Bx.ex); assumption))); done)); exact rfl; exact rfl; exact rfl; (repeat' (first | exact trivial | (first | exact rfl | assumption | exact IntsK.one (by assumption) | exact Prs.one (by assumption) | exact Own.one (by assumption) | exact Row.one (by assumption) | exact OwnR.one (by assumption)) | constructor)); intro wq hbq hgq; have he : Ex w wq := (by repeat (first | assumption | exact Ex.refl _ | (refine Ex.trans ?_ (by assumption)) | (refine Ex.of_grown ?_ (by assumption) (by intro k hk; cases hk; omega)))); have hsz := he.size; have hgz := hgq.size)
      | ((with_reducible apply W_pass); exact rfl; exact rfl; exact rfl; exact rfl; exact rfl)
      | ((with_reducible apply W_take); exact rfl; exact rfl; exact rfl)
      | ((with_reducible apply WM_pass); exact rfl; exact rfl; exact rfl; exact rfl; exact rfl)
      | ((with_reducible apply WM_take); exact rfl; exact rfl; exact rfl)
      | (with_reducible apply c_seq)
      | (with_reducible apply c_region)
      | (with_reducible apply c_block)
      | (with_reducible apply c_skip)
      | (with_reducible apply c_ret)
      | (with_reducible apply c_exit)
      | ((with_reducible apply c_cond_true); exact rfl)
      | ((with_reducible apply c_cond_false); exact rfl)
      | (with_reducible apply n_then)
      | (with_reducible apply n_block)
      | (with_reducible apply e_then)
      | (with_reducible apply e_block)
      | (with_reducible apply r_then)
      | (with_reducible apply r_block)
      | ((with_reducible apply p_ret1); exact rfl; ((conv => lhs; whnf) <;> exact rfl); refine ⟨_, rfl, ?_, (by repeat (first | assumption | exact Ex.refl _ | (refine Ex.trans ?_ (by assumption)) | (refine Ex.of_grown ?_ (by assumption) (by intro k hk; cases hk; omega))))⟩))
  all_goals first
    | (refine congrArg (Value.int .i64) ?_; unfold vfE; rw [if_pos (by assumption)]; done)
    | (refine congrArg (Value.int .i64) ?_; unfold vfE; rw [if_neg (by assumption), if_pos (by unfold pErr; rw [if_pos (by omega)]; decide)]; unfold pErr; rw [if_pos (by omega)]; done)
    | (have hpx : pErr l.length cs = 8 := by unfold pErr; rw [if_neg (by omega), hst, hcd, if_pos (by omega)]
       refine congrArg (Value.int .i64) ?_; unfold vfE; rw [if_neg (fun hx => hx hce), if_pos (by rw [hpx]; decide), hpx]; done)
    | (have hpx : pErr l.length cs = 7 := by unfold pErr; rw [if_neg (by omega), hst, hcd, if_neg (by omega), if_pos (by omega)]
       refine congrArg (Value.int .i64) ?_; unfold vfE; rw [if_neg (fun hx => hx hce), if_pos (by rw [hpx]; decide), hpx]; done)
    | (refine congrArg (Value.int .i64) ?_; unfold vfE; rw [if_neg (fun hx => hx hce), if_neg (fun hx => hx hpe), if_pos (by unfold bOk; omega)]; done)
    | (refine congrArg (Value.int .i64) ?_; rw [vf_at hce hpe (by unfold bOk; omega), hpo, prv_one, if_pos ((fLt_lowL (one_fOk hca).2.1).1 hlt)]; done)
    | (refine congrArg (Value.int .i64) ?_; rw [vf_at hce hpe (by unfold bOk; omega), hpo, prv_one, if_neg (fun hx => hlt ((fLt_lowL (one_fOk hca).2.1).2 hx))]; done)
    | (refine congrArg (Value.int .i64) ?_; rw [vf_at hce hpe (by unfold bOk; omega), hpo, prv_three l hab, if_pos ((fLt_lowL (three_fOk hca hcb hcc s1 s2).2.1).1 hlt)]; done)
    | (refine congrArg (Value.int .i64) ?_; rw [vf_at hce hpe (by unfold bOk; omega), hpo, prv_three l hab, if_neg (fun hx => hlt ((fLt_lowL (three_fOk hca hcb hcc s1 s2).2.1).2 hx))]; done)
    | skip
end Go.Proofs.Ytbmjigneekodnaa
