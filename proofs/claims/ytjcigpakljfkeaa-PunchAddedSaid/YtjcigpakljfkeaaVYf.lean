/-
  What this text proves: the law on the best plan returns true. Conditions: the values read as lists of bytes.
-/
import Derived.Test.YtjcigpakljfkeaaVYe
set_option linter.unusedVariables false
set_option linter.unusedSimpArgs false
namespace Go.Pv
open Go.RowKit
theorem max_in (P : Nat → Prop) (f : Nat → Int) : ∀ k, (∃ i, i < k ∧ P i) → ∃ i, i < k ∧ P i ∧ ∀ j, j < k → P j → f j ≤ f i
  | 0, h => by obtain ⟨i, h, _⟩ := h; omega
  | k + 1, h => by
    by_cases h0 : ∃ i, i < k ∧ P i
    · obtain ⟨i, h1, h2, h3⟩ := max_in P f k h0
      by_cases hk : P k ∧ f i < f k
      · refine ⟨k, by omega, hk.1, fun j hj hp => ?_⟩
        by_cases e : j = k
        · subst e; exact Int.le_refl _
        · have := h3 j (by omega) hp; omega
      · refine ⟨i, by omega, h2, fun j hj hp => ?_⟩
        by_cases e : j = k
        · subst e
          rcases Int.lt_or_le (f i) (f j) with h | h
          · exact absurd ⟨hp, h⟩ hk
          · exact h
        · exact h3 j (by omega) hp
    · obtain ⟨i, h1, h2⟩ := h
      have e : i = k := by
        rcases Nat.lt_or_ge i k with h | h
        · exact absurd ⟨i, h, h2⟩ h0
        · omega
      subst e
      refine ⟨i, by omega, h2, fun j hj hp => ?_⟩
      by_cases e : j = i
      · subst e; exact Int.le_refl _
      · exact absurd ⟨j, by omega, hp⟩ h0
theorem crowd_mono {rest s t : Int} {sl : List (Int × Int)} : ∀ k, (∀ i, i < k → inC rest t (sl.getD i (0, 0)) → inC rest s (sl.getD i (0, 0))) → (crowdTo rest sl t k).length ≤ (crowdTo rest sl s k).length
  | 0, _ => Nat.le_refl _
  | k + 1, h => by
    have h1 := crowd_mono (rest := rest) (s := s) (t := t) (sl := sl) k fun i hi => h i (by omega)
    by_cases ht : inC rest t (sl.getD k (0, 0))
    · rw [crowd_yes ht, crowd_yes (h k (by omega) ht)]; simp; exact h1
    · rw [crowd_no ht]
      by_cases hs : inC rest s (sl.getD k (0, 0))
      · rw [crowd_yes hs]; simp; omega
      · rw [crowd_no hs]; exact h1
theorem plan_pos {rest : Int} {sl : List (Int × Int)} (hj : jobErr rest sl = 0) (hne : 0 < sl.length) : 1 ≤ passL (planL rest sl) := by
  have h := planL_num (rest := rest) (sl := sl) (job_inv hj).2.1
  have := h.1 0 hne
  omega
theorem mom_least {rest t : Int} {sl : List (Int × Int)} (hj : jobErr rest sl = 0) (hne : 0 < sl.length) (ht : ((crowdL rest sl t).length : Int) = passL (planL rest sl)) : momL rest sl ≤ t := by
  have h1 := plan_pos hj hne
  obtain ⟨x, hx⟩ := List.exists_mem_of_length_pos (l := crowdL rest sl t) (by omega)
  obtain ⟨i0, a1, -, a2⟩ := crowd_mem.1 hx
  obtain ⟨i, b1, b2, b3⟩ := max_in (fun i => inC rest t (sl.getD i (0, 0))) (fun i => (sl.getD i (0, 0)).1) sl.length ⟨i0, a1, a2⟩
  have h2 := crowd_mono (rest := rest) (t := t) (s := (sl.getD i (0, 0)).1) (sl := sl) sl.length fun j hj' hc => by
    have := b3 j hj' hc
    unfold inC at *
    omega
  have h3 := crowd_all (m := (sl.getD i (0, 0)).1) hj
  have h4 := (mom_first hj hne).2.2 i b1 (by unfold crowdL at *; omega)
  unfold inC at b2
  omega
theorem plan_zero {rest : Int} {sl : List (Int × Int)} (hn : sl.length ≤ 40) (h : sl.length = 0) : passL (planL rest sl) = 0 := by
  unfold passL
  rw [planL_len hn, h]; rfl
theorem plan_le {rest : Int} {sl : List (Int × Int)} (hj : jobErr rest sl = 0) : 0 ≤ passL (planL rest sl) ∧ passL (planL rest sl) ≤ sl.length := by
  by_cases hne : 0 < sl.length
  · have h1 := plan_pos hj hne
    have h2 := (mom_first hj hne).2.1
    have h3 := crowd_len rest (momL rest sl) sl sl.length
    unfold crowdL at h2
    omega
  · rw [plan_zero (job_inv hj).2.1 (by omega)]; omega
theorem plan_ok {rest : Int} {sl : List (Int × Int)} (hj : jobErr rest sl = 0) : planErr rest sl (planL rest sl) = 0 := by
  have hn := (job_inv hj).2.1
  have h1 := (planL_num (rest := rest) hn).1
  have h2 := plan_le hj
  unfold planErr
  rw [if_neg (by simp [hj]), if_neg (by simp [planL_len hn]), if_neg, if_neg (by simp [planL_apart hn])]
  simp only [Decidable.not_not]
  intro j hj'
  rw [planL_len hn] at hj'
  have := h1 j hj'
  omega
theorem plan_low {rest : Int} {sl : List (Int × Int)} {N : Nat} (hj : jobErr rest sl = 0) (hN : passL (planL rest sl) = (N : Int)) (plan : List Int) (used : Nat) (hl : plan.length = sl.length) (hg : goodP rest sl plan) (hb : ∀ i, i < plan.length → 0 ≤ plan.getD i 0 ∧ plan.getD i 0 < (used : Int)) : N ≤ used := by
  by_cases hne : 0 < sl.length
  · have h2 := (mom_first hj hne).2.1
    have h3 := crowd_le (m := momL rest sl) (N := used) ((goodP_apart hl).1 hg) fun i hi => hb i (by omega)
    omega
  · have := plan_zero (rest := rest) (job_inv hj).2.1 (show sl.length = 0 by omega)
    omega
theorem can_nil : CanL 0 [] := ⟨fun i hi => by simp at hi, fun p hp => by omega, Nat.le_refl _⟩
end Go.Pv
namespace Go.Proofs.Ytjcigpakljfkeaa
open Go.Pv Go.RowKit
set_option maxHeartbeats 8000000
set_option maxRecDepth 20000
theorem lawBest_any (r : Int) (v : Value) (hs : List (Int × Int)) (w : World) (h : Prs8 w v hs) (hr : 0 ≤ r ∧ r ≤ 255) (hh : ∀ j, 0 ≤ (hs.getD j (0, 0)).1 ∧ (hs.getD j (0, 0)).1 ≤ 255 ∧ 0 ≤ (hs.getD j (0, 0)).2 ∧ (hs.getD j (0, 0)).2 ≤ 255) : Ret Try.prog 8 [.agg #[.int .u8 r, v]] w fun x _ => x = .bool true := by
  have hv1 := h.one
  have hsm := laneS_small hr hh
  have hmade := fun (w2 : World) (h2 : Prs8 w2 v hs) => made_any r v hs w2 h2 hr hh
  have hl7 : (laneS hs).length ≤ 7 := by rw [laneS_len]; omega
  obtain ⟨rest, hrest⟩ : ∃ rest, r % 8 = rest := ⟨_, rfl⟩
  obtain ⟨sl, hsl⟩ : ∃ sl, laneS hs = sl := ⟨_, rfl⟩
  simp only [hsl, hrest] at hmade hsm hl7
  have hjob := small_job hsm (by omega) (by omega)
  have hn40 : sl.length ≤ 40 := by omega
  have hple := plan_le hjob
  have hpn := (planL_num (rest := rest) hn40).1
  have hpa := planL_apart (rest := rest) hn40
  have hpl := planL_len (rest := rest) hn40
  have hpo := plan_ok hjob
  have hgo : goodP rest sl (planL rest sl) := (goodP_apart hpl).2 hpa
  obtain ⟨N, hN⟩ : ∃ N : Nat, passL (planL rest sl) = (N : Int) := ⟨(passL (planL rest sl)).toNat, by omega⟩
  have hlow := plan_low hjob hN
  have hall : ∀ t, ((crowdL rest sl t).length : Int) ≤ (N : Int) := fun t => hN ▸ crowd_all (m := t) hjob
  have hpas := fun (u : Value) (w2 : World) (h2 : Prs w2 u sl) => Passes_any rest u sl w2 h2
  have hpro := fun (u : Value) (w2 : World) (h2 : Prs w2 u sl) => Prove_any rest u sl w2 h2
  have hver := fun (u q : Value) (w2 : World) (h2 : Prs w2 u sl) (h3 : Ints w2 q (planL rest sl)) => Verify_any rest u q sl (planL rest sl) w2 h2 h3
  have hcro := fun (t : Int) (u : Value) (w2 : World) (h2 : Prs w2 u sl) => Crowd_any rest t u sl w2 h2
  have hgood := fun (u q : Value) (w2 : World) (h2 : Prs w2 u sl) (h3 : Ints w2 q (planL rest sl)) => good_any 7 rest u q sl (planL rest sl) w2 h2 h3 (by omega) hsm (by omega) (by omega)
  have hfew := fun (u : Value) (w2 : World) (h2 : Prs w2 u sl) => fewest_any 7 rest u sl (planL rest sl) N (by omega) hsm hl7 (by omega) hpa (fun i hi => by have := hpn i hi; omega) hlow sl.length [] 0 0 (.slice none 0 0) w2 h2 (IntsK.nil _ _ _ (Nat.zero_le _)) (.inl rfl) (by simp) rfl can_nil (fun i hi => by simp at hi)
  simp only [hjob, if_pos, hN] at hpas hcro
  simp only [hpo, if_pos, hN] at hver
  simp only [decide_eq_true hgo] at hgood
  have hfew2 : ∀ (u : Value) (w2 : World), Prs w2 u sl → Ret Try.prog 40 [.agg #[.int .i64 rest, u], .slice none 0 0, .int .i64 0] w2 fun r _ => r = .int .i64 (N : Int) := fun u w2 h2 => (hfew u w2 h2).monoU fun r _ _ ⟨b, e, _, _, hb⟩ => by rw [e, hb fun i k hi => by simp at hi]
  obtain ⟨mI, pE, hpr2, hmc⟩ : ∃ mI pE, (∀ (u : Value) (w2 : World), Prs w2 u sl → Ret Try.prog 24 [.agg #[.int .i64 rest, u]] w2 fun r _ => r = .tuple #[.int .i64 mI, .int .i64 pE]) ∧ ((sl.length = 0 ∧ N = 0 ∧ pE = 8) ∨ (1 ≤ N ∧ pE = 0 ∧ (0 ≤ mI ∧ mI ≤ 39) ∧ ((crowdL rest sl mI).length : Int) = N ∧ ∀ t, ((crowdL rest sl t).length : Int) = N → mI ≤ t)) := by
    refine ⟨_, _, hpro, ?_⟩
    by_cases hne : 0 < sl.length
    · have hpe : proveErr rest sl = 0 := by unfold proveErr; rw [if_neg (by simp [hjob]), if_neg (by omega)]
      have h1 := plan_pos hjob hne
      obtain ⟨⟨i, a1, a2⟩, a3, -⟩ := mom_first hjob hne
      have a4 := hsm.2 i a1
      rw [hpe, if_pos rfl]
      exact .inr ⟨by omega, rfl, by omega, by omega, fun t ht => mom_least hjob hne (by omega)⟩
    · have hpe : proveErr rest sl = 8 := by unfold proveErr; rw [if_neg (by simp [hjob]), if_pos (by omega)]
      have := plan_zero (rest := rest) hn40 (show sl.length = 0 by omega)
      exact .inl ⟨by omega, by omega, hpe⟩
  clear hsm hsl hrest hjob hh hlow hpn hpa hpo hgo hple hfew hpro
  rcases hmc with ⟨hz1, hz2, hz3⟩ | ⟨hm1, hm2, hm3, hm4, hm5⟩
  all_goals
    refine ret_of_c Try.func8 rfl Try.ntmps8 (Nat.le_of_ble_eq_true rfl) (by dsimp only [ini, Nat.reduceAdd] <;> exact rfl) ?_
    repeat' (first
        | ((with_reducible apply W_storeA); exact rfl; (focus ((repeat (first | assumption | ((with_reducible apply Bx.grownS); assumption; (first | omega | exact Bx.ne (by assumption) (by omega))) | ((with_reducible apply Bx.below); assumption; omega) | ((with_reducible apply Own.grownS); assumption; omega) | ((with_reducible apply Bx.ex); assumption) | ((with_reducible apply IntsK.ex); assumption) | ((with_reducible apply Own.ex); assumption) | ((with_reducible apply Prs.ex); assumption))); done)); exact rfl; exact rfl; exact rfl; (repeat' (first | exact trivial | (first | exact rfl | assumption | exact IntsK.one (by assumption) | exact Prs.one (by assumption) | exact Own.one (by assumption)) | constructor)); intro wq hbq hgq; have hel : Ex wl wq := Ex.of_grown he hgq (by intro k hk; cases hk; omega); have huq := Prs.ex hel hu; have he : Ex w wq := (by repeat (first | assumption | exact Ex.refl _ | (refine Ex.trans ?_ (by assumption)) | (refine Ex.of_grown ?_ (by assumption) (by intro k hk; cases hk; omega)))); have hsz := he.size)
        | (refine W_call (hpas jv _ (by first | assumption | exact Prs.ex (by assumption) (by assumption))) rfl ?_; rintro vq wq ⟨pv, rfl, hpv⟩ he; have hsz := he.size; have hpv1 := hpv.one; have hup := Prs.ex he huq)
        | ((with_reducible apply W_split); exact rfl; exact rfl; intro _; rotate_left 1; intro _; (all_goals (try (exfalso; (focus (omega; done))))))
        | ((first | ((with_reducible apply W_op); exact rfl; exact rfl)); (first | ((with_reducible apply r_move); ((conv => lhs; whnf) <;> exact rfl)) | ((with_reducible apply r_assign); ((conv => lhs; whnf) <;> exact rfl)) | ((with_reducible apply r_fieldAddr); exact rfl) | ((with_reducible apply r_load); exact rfl; exact rfl; (first | assumption | exact (Bx.cell (by repeat (first | assumption | ((with_reducible apply Bx.grownS); assumption; (first | omega | exact Bx.ne (by assumption) (by omega))) | ((with_reducible apply Bx.below); assumption; omega) | ((with_reducible apply Bx.ex); assumption))) _).trans rfl | exact Ex.cell (by assumption) (by assumption))) | ((with_reducible apply r_loadF); exact rfl; (first | assumption | exact (Bx.cell (by repeat (first | assumption | ((with_reducible apply Bx.grownS); assumption; (first | omega | exact Bx.ne (by assumption) (by omega))) | ((with_reducible apply Bx.below); assumption; omega) | ((with_reducible apply Bx.ex); assumption))) _).trans rfl | exact Ex.cell (by assumption) (by assumption))) | ((with_reducible apply r_loadA); exact rfl; (first | assumption | exact Bx.cells (by repeat (first | assumption | ((with_reducible apply Bx.grownS); assumption; (first | omega | exact Bx.ne (by assumption) (by omega))) | ((with_reducible apply Bx.below); assumption; omega) | ((with_reducible apply Bx.ex); assumption))) | exact Cells.ex (by assumption) (by assumption)); exact rfl) | ((with_reducible apply r_lss); exact rfl; exact rfl) | ((with_reducible apply r_gtr); exact rfl; exact rfl) | ((with_reducible apply r_geq); exact rfl; exact rfl) | ((with_reducible apply r_eql); exact rfl; exact rfl) | ((with_reducible apply r_neq); exact rfl; exact rfl) | ((with_reducible apply r_add); exact rfl; exact rfl; omega) | ((with_reducible apply r_len); exact rfl) | ((with_reducible apply r_lenStr); exact rfl) | ((with_reducible apply r_lenInts); ((conv => lhs; whnf) <;> exact rfl); (focus ((repeat (first | assumption | ((with_reducible apply Bx.grownS); assumption; (first | omega | exact Bx.ne (by assumption) (by omega))) | ((with_reducible apply Bx.below); assumption; omega) | ((with_reducible apply Own.grownS); assumption; omega) | ((with_reducible apply Bx.ex); assumption) | ((with_reducible apply IntsK.ex); assumption) | ((with_reducible apply Own.ex); assumption) | ((with_reducible apply Prs.ex); assumption))); done))) | ((with_reducible apply r_lenPrs); ((conv => lhs; whnf) <;> exact rfl); (focus ((repeat (first | assumption | ((with_reducible apply Bx.grownS); assumption; (first | omega | exact Bx.ne (by assumption) (by omega))) | ((with_reducible apply Bx.below); assumption; omega) | ((with_reducible apply Own.grownS); assumption; omega) | ((with_reducible apply Bx.ex); assumption) | ((with_reducible apply IntsK.ex); assumption) | ((with_reducible apply Own.ex); assumption) | ((with_reducible apply Prs.ex); assumption))); done))) | ((with_reducible apply r_pick_true); exact rfl; ((conv => lhs; whnf) <;> exact rfl)) | ((with_reducible apply r_pick_false); exact rfl; ((conv => lhs; whnf) <;> exact rfl)) | ((with_reducible apply r_not); exact rfl) | ((with_reducible apply r_notb); exact rfl) | ((with_reducible apply r_eqlb); exact rfl; exact rfl) | ((with_reducible apply r_neqb); exact rfl; exact rfl) | ((with_reducible apply r_extract); exact rfl; exact rfl) | ((with_reducible apply r_loadSub); exact rfl; (focus ((repeat (first | assumption | ((with_reducible apply Bx.grownS); assumption; (first | omega | exact Bx.ne (by assumption) (by omega))) | ((with_reducible apply Bx.below); assumption; omega) | ((with_reducible apply Bx.ex); assumption))); done)); ((simp only [Nat.add_zero, Nat.zero_add, Nat.reduceAdd, List.drop_zero, List.drop_succ_cons, List.take_succ_cons, List.take_zero]) <;> exact rfl); exact rfl)))
        | (refine W_call (hmade _ (Prs8.ex (by repeat (first | assumption | exact Ex.refl _ | (refine Ex.trans ?_ (by assumption)) | (refine Ex.of_grown ?_ (by assumption) (by intro k hk; cases hk; omega)))) h)) rfl ?_; rintro vl wl ⟨jv, rfl, hu0⟩ he; have hu := hu0.prs; have hu1 := hu.one; have hsz := he.size)
        | (refine W_callv (hpr2 jv _ (Prs.ex (by repeat (first | assumption | exact Ex.refl _ | (refine Ex.trans ?_ (by assumption)) | (refine Ex.of_grown ?_ (by assumption) (by intro k hk; cases hk; omega)))) hup)) rfl (fun wq he => ?_); have hsz := he.size)
        | (refine W_callv (hver jv pv _ (Prs.ex (by repeat (first | assumption | exact Ex.refl _ | (refine Ex.trans ?_ (by assumption)) | (refine Ex.of_grown ?_ (by assumption) (by intro k hk; cases hk; omega)))) hup) (IntsK.ex (by repeat (first | assumption | exact Ex.refl _ | (refine Ex.trans ?_ (by assumption)) | (refine Ex.of_grown ?_ (by assumption) (by intro k hk; cases hk; omega)))) hpv)) rfl (fun wq he => ?_); have hsz := he.size)
        | (refine W_callv (hgood jv pv _ (Prs.ex (by repeat (first | assumption | exact Ex.refl _ | (refine Ex.trans ?_ (by assumption)) | (refine Ex.of_grown ?_ (by assumption) (by intro k hk; cases hk; omega)))) hup) (IntsK.ex (by repeat (first | assumption | exact Ex.refl _ | (refine Ex.trans ?_ (by assumption)) | (refine Ex.of_grown ?_ (by assumption) (by intro k hk; cases hk; omega)))) hpv)) rfl (fun wq he => ?_); have hsz := he.size)
        | (refine W_callv (hfew2 jv _ (Prs.ex (by repeat (first | assumption | exact Ex.refl _ | (refine Ex.trans ?_ (by assumption)) | (refine Ex.of_grown ?_ (by assumption) (by intro k hk; cases hk; omega)))) hup)) rfl (fun wq he => ?_); have hsz := he.size)
        | (refine W_callv (works_any _) rfl (fun wq he => ?_); have hsz := he.size)
        | (refine W_call (hcro (k : Int) jv _ (Prs.ex (by repeat (first | assumption | exact Ex.refl _ | (refine Ex.trans ?_ (by assumption)) | (refine Ex.of_grown ?_ (by assumption) (by intro k hk; cases hk; omega)))) hju)) rfl ?_; rintro vq wq ⟨c, rfl, hc⟩ he; have hsz := he.size; have hc1 := hc.one; have hk1 := hall (k : Int); have hk2 := hm5 (k : Int); have hk3 : (k : Int) = mI → ((crowdL rest sl (k : Int)).length : Int) = (N : Int) := fun e => e ▸ hm4)
        | ((with_reducible (show C _ _ _ _ _ _)); refine c_loopG (fun (k : Nat) ps wr => ∃ b3 : Nat, ∃ i : Int, ps = [(3, .pointer (some ⟨b3, 0, none⟩)), (5, .int .i64 (N : Int)), (7, .int .i64 mI), (11, .int .i64 i)] ∧ i = k ∧ k ≤ 70 ∧ Prs wr jv sl ∧ Bx wr b3 [.int .i64 rest, jv] 24 ∧ Ex w wr) (fun k => 70 - k) 0 _ ⟨_, _, rfl, rfl, Nat.zero_le _, (Prs.ex (by repeat (first | assumption | exact Ex.refl _ | (refine Ex.trans ?_ (by assumption)) | (refine Ex.of_grown ?_ (by assumption) (by intro k hk; cases hk; omega)))) hup), (by repeat (first | assumption | ((with_reducible apply Bx.grownS); assumption; (first | omega | exact Bx.ne (by assumption) (by omega))) | ((with_reducible apply Bx.below); assumption; omega) | ((with_reducible apply Own.grownS); assumption; omega) | ((with_reducible apply Bx.ex); assumption) | ((with_reducible apply IntsK.ex); assumption) | ((with_reducible apply Own.ex); assumption) | ((with_reducible apply Prs.ex); assumption))), (by repeat (first | assumption | exact Ex.refl _ | (refine Ex.trans ?_ (by assumption)) | (refine Ex.of_grown ?_ (by assumption) (by intro k hk; cases hk; omega))))⟩ ⟨rfl, rfl, rfl, rfl, trivial⟩ (by ((conv => lhs; whnf) <;> exact rfl)) (by ((conv => lhs; whnf) <;> exact rfl)) ?_; rintro J hJ k u ps wr ⟨b3, i, rfl, rfl, hk, hju, hx3, he⟩; have hsz := he.size)
        | ((with_reducible (show Exit.then _ _ _ _ _)); refine n_roundG (k + 1) (hJ _ _ _ _ ⟨_, _, rfl, by omega, by omega, (by repeat (first | assumption | ((with_reducible apply Bx.grownS); assumption; (first | omega | exact Bx.ne (by assumption) (by omega))) | ((with_reducible apply Bx.below); assumption; omega) | ((with_reducible apply Own.grownS); assumption; omega) | ((with_reducible apply Bx.ex); assumption) | ((with_reducible apply IntsK.ex); assumption) | ((with_reducible apply Own.ex); assumption) | ((with_reducible apply Prs.ex); assumption))), (by repeat (first | assumption | ((with_reducible apply Bx.grownS); assumption; (first | omega | exact Bx.ne (by assumption) (by omega))) | ((with_reducible apply Bx.below); assumption; omega) | ((with_reducible apply Own.grownS); assumption; omega) | ((with_reducible apply Bx.ex); assumption) | ((with_reducible apply IntsK.ex); assumption) | ((with_reducible apply Own.ex); assumption) | ((with_reducible apply Prs.ex); assumption))), (by repeat (first | assumption | exact Ex.refl _ | (refine Ex.trans ?_ (by assumption)) | (refine Ex.of_grown ?_ (by assumption) (by intro k hk; cases hk; omega))))⟩ ⟨rfl, rfl, rfl, rfl, trivial⟩ rfl) (by omega))
        | (with_reducible apply W_nil)
        | ((with_reducible apply W_box); exact rfl; exact rfl; intro bq wq hbq he hnq; have hltq := Bx.lt hbq; have hsz := he.size)
        | ((with_reducible apply W_alloc); exact rfl; intro bq wq hbq he hnq; have hltq := Bx.lt hbq; have hsz := he.size)
        | ((with_reducible apply W_storeA); exact rfl; (focus ((repeat (first | assumption | ((with_reducible apply Bx.grownS); assumption; (first | omega | exact Bx.ne (by assumption) (by omega))) | ((with_reducible apply Bx.below); assumption; omega) | ((with_reducible apply Bx.ex); assumption))); done)); exact rfl; exact rfl; exact rfl; (repeat' (first | exact trivial | (first | exact rfl | assumption | exact IntsK.one (by assumption) | exact Prs.one (by assumption) | exact Own.one (by assumption)) | constructor)); intro wq hbq hgq; have he : Ex w wq := (by repeat (first | assumption | exact Ex.refl _ | (refine Ex.trans ?_ (by assumption)) | (refine Ex.of_grown ?_ (by assumption) (by intro k hk; cases hk; omega)))); have hsz := he.size; have hgz := hgq.size)
        | ((with_reducible apply W_store); exact rfl; (focus ((repeat (first | assumption | ((with_reducible apply Bx.grownS); assumption; (first | omega | exact Bx.ne (by assumption) (by omega))) | ((with_reducible apply Bx.below); assumption; omega) | ((with_reducible apply Bx.ex); assumption))); done)); exact Nat.le_of_ble_eq_true rfl; ((conv => lhs; whnf) <;> exact rfl); (first | exact rfl | assumption | exact IntsK.one (by assumption) | exact Prs.one (by assumption) | exact Own.one (by assumption)); simp only [lset]; intro wq hbq hgq; have he : Ex w wq := (by repeat (first | assumption | exact Ex.refl _ | (refine Ex.trans ?_ (by assumption)) | (refine Ex.of_grown ?_ (by assumption) (by intro k hk; cases hk; omega)))); have hsz := he.size; have hgz := hgq.size)
        | ((with_reducible apply W_pass); exact rfl; exact rfl; exact rfl; exact rfl; exact rfl)
        | ((with_reducible apply W_take); exact rfl; exact rfl; exact rfl)
        | ((with_reducible apply W_passU); exact rfl; exact rfl; exact rfl; exact rfl)
        | ((with_reducible apply W_split); exact rfl; exact rfl; intro _; rotate_left 1; intro _)
        | (with_reducible apply c_seq)
        | ((with_reducible apply c_region); kernel_rfl)
        | (with_reducible apply n_nq)
        | (with_reducible apply c_block)
        | (with_reducible apply c_skip)
        | (with_reducible apply c_ret)
        | (with_reducible apply c_exit)
        | ((with_reducible apply c_cond_true); exact rfl)
        | ((with_reducible apply c_cond_false); exact rfl)
        | ((with_reducible apply c_cond_dec); exact rfl; intro _; rotate_left 1; intro _)
        | ((with_reducible apply c_cond_bool); exact rfl; intro _; rotate_left 1; intro _)
        | (with_reducible apply n_then)
        | (with_reducible apply n_block)
        | (with_reducible apply e_then)
        | (with_reducible apply e_block)
        | (with_reducible apply r_then)
        | (with_reducible apply r_block)
        | ((with_reducible apply e_block'); decide)
        | ((with_reducible apply p_ret1); exact rfl; exact rfl; ((conv => lhs; whnf) <;> exact rfl); refine ⟨_, rfl, ?_, (by repeat (first | assumption | exact Ex.refl _ | (refine Ex.trans ?_ (by assumption)) | (refine Ex.of_grown ?_ (by assumption) (by intro k hk; cases hk; omega))))⟩)
        | ((with_reducible apply m_ret1); (focus ((repeat (first | assumption | exact Al.nil _ _ | ((with_reducible apply Al.grownS); assumption; (focus ((repeat (first | assumption | ((with_reducible apply Bx.grownS); assumption; (first | omega | exact Bx.ne (by assumption) (by omega))) | ((with_reducible apply Bx.below); assumption; omega) | ((with_reducible apply Bx.ex); assumption))); done))) | (refine Al.ex (by assumption) ?_))); done)); exact rfl; ((conv => lhs; whnf) <;> exact rfl); refine ⟨_, rfl, ?_, (shut_grown _ _ (by repeat (first | assumption | exact Al.nil _ _ | ((with_reducible apply Al.grownS); assumption; (focus ((repeat (first | assumption | ((with_reducible apply Bx.grownS); assumption; (first | omega | exact Bx.ne (by assumption) (by omega))) | ((with_reducible apply Bx.below); assumption; omega) | ((with_reducible apply Bx.ex); assumption))); done))) | (refine Al.ex (by assumption) ?_))) (by repeat (first | assumption | exact Ex.refl _ | (refine Ex.trans ?_ (by assumption)) | (refine Ex.of_grown ?_ (by assumption) (by intro k hk; cases hk; omega)))) (Nat.le_refl _))⟩)
        | ((with_reducible apply p_retct); exact rfl; exact rfl; exact inferInstance; exact inferInstance; exact rfl; (focus ((repeat (first | assumption | ((with_reducible apply Bx.grownS); assumption; (first | omega | exact Bx.ne (by assumption) (by omega))) | ((with_reducible apply Bx.below); assumption; omega) | ((with_reducible apply Bx.ex); assumption))); done)); exact rfl; exact rfl; refine ⟨_, rfl, ?_, (by repeat (first | assumption | exact Ex.refl _ | (refine Ex.trans ?_ (by assumption)) | (refine Ex.of_grown ?_ (by assumption) (by intro k hk; cases hk; omega))))⟩)
        | ((exfalso; omega)))
  all_goals first | rfl | trace_state
end Go.Proofs.Ytjcigpakljfkeaa
