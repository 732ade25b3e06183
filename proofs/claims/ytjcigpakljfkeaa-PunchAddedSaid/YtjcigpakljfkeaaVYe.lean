/-
  What this text proves: the smallest number of passes by trying all plans is the number of the plan that is returned. Conditions: the values read as lists, the slots are those of a lane.
-/
import Derived.Test.YtjcigpakljfkeaaVYd
import Derived.Test.YtjcigpakljfkeaaMml
import Derived.Laws.AppendOwnNone
set_option linter.unusedVariables false
set_option linter.unusedSimpArgs false
namespace Go.Pv
open Go.RowKit
section
variable {P : Program} {Q : Exit → Act → World → Prop} {ol rest : List Oper} {l : St} {w : World} {ty : TypeId} {pos : String} {af : Array Edge}
/-- A slice that is nil whole or has an address. -/
def Nn (v : Value) : Prop := v = .slice none 0 0 ∨ ∃ a n c, v = .slice (some a) n c
theorem Own.nn {E : TypeId} {base : Nat} {w : World} {v : Value} {xs : List Int} (h : Own E base w v xs) : Nn v := by
  unfold Pv.Own at h
  obtain ⟨_, _, h2⟩ := h
  rcases h2 with ⟨e, -⟩ | ⟨g, cap, cur, e, -⟩
  · exact .inl e
  · exact .inr ⟨_, _, _, e⟩
theorem OwnV.monoE {E : TypeId} {base base' : Nat} {w : World} {v : Value} {xs : List Value} (h : OwnV E base w v xs) (hb : base' ≤ base) : OwnV E base' w v xs := by
  unfold OwnV at *
  obtain ⟨h0, h1, h2⟩ := h
  refine ⟨h0, h1, ?_⟩
  rcases h2 with h2 | ⟨g, cap, cur, h3, h4, h5⟩
  · exact .inl h2
  · exact .inr ⟨g, cap, cur, h3, Nat.le_trans hb h4, h5⟩
/-- append of ints that lie somewhere, also of none. -/
theorem W_appendI {d : Nat} {x y : Operand} {T e : TypeId} {bytes base : Nat} {v u z : Value} {xs : List Value} {ys : List Int} {w0 : World} [hT : Und P T (.slice e)] [hz : Sz P e z 1 bytes] (hzc : z.cells.size = 1)
    (hx : ev l x = v) (hown : OwnV e base w v xs) (hy : ev l y = u) (hu : Ints w u ys) (hnn : Nn u) (hlen : (xs.length + ys.length) * bytes ≤ 140737488355328 ∧ xs.length + ys.length ≤ 1000000) (h0 : Ex w0 w) (hb0 : w0.heap.size ≤ base) (hbase : base ≤ w.heap.size)
    (K : ∀ v' w', OwnV e base w' v' (xs ++ ys.map (Value.int .i64)) → Ex w0 w' → Below base w w' → W P ol Q rest (upd l d v') w') :
    W P ol Q (⟨some d, .call { callee := .builtin .append, args := #[x, y], argTypes := #[T, T] }, ty, pos, af, none⟩ :: rest) l w := by
  have hv := hu.vals
  unfold Vals Sl at hv
  obtain ⟨_, oa, cap, hue, hc, hm, hall⟩ := hv
  obtain ⟨i, h1, h2, h3, h4⟩ := hz.parts
  subst hue
  cases oa with
  | none =>
    have hn : ys = [] := by
      cases ys with
      | nil => rfl
      | cons a r => obtain ⟨p, q, e1, _⟩ := hall 0 (by simp); cases e1
    subst hn
    have hcap : cap = 0 := by
      rcases hnn with e | ⟨_, _, _, e⟩ <;> simp at e
      exact e
    subst hcap
    have hown2 := hown
    unfold OwnV at hown2
    have hk := K v w (by simpa using hown) h0 (Below.refl _ _)
    unfold W at hk ⊢
    refine wpList_append_own_none rfl x y T rfl base e i 1 hT.out h1 v xs.length xs (by rw [eval_act]; exact hx) hown2.2 (by rw [eval_act]; exact hy) ?_
    rw [put_act]
    exact hk
  | some a =>
    have hcell : ∀ j q, (ys.map (Value.int .i64))[j]? = some q → w.cell? (a.add j) = some q := by
      intro j q hj
      have hj' : j < (ys.map (Value.int .i64)).length := by
        rcases Nat.lt_or_ge j (ys.map (Value.int .i64)).length with h | h
        · exact h
        · rw [List.getElem?_eq_none h] at hj; cases hj
      obtain ⟨p, q1, hp, hq1, hq2⟩ := hall j hj'
      cases hp
      rw [List.getElem?_eq_getElem hj'] at hj
      cases hj
      rw [hq1, hq2]
    have hlt := hown.lt
    have hown2 := hown
    unfold OwnV at hown2
    have hml : xs.length + ys.length ≤ maxLen := by unfold maxLen; omega
    obtain ⟨v', w', hr, g1, g2, g3⟩ := run_append_own (P := P) w base T ty e i z 1 bytes hT.out h1 h2 h3 h4 hzc (by decide) v xs.length xs hown2.2 a (ys.map (Value.int .i64)).length cap (ys.map (Value.int .i64)) (by simp) hcell (by simp [Value.oneCell']) (by simpa using hml) (by simpa using hlen.1) hbase
    refine W_run (w' := w') rfl rfl ?_ (K v' w' (by unfold OwnV; exact ⟨by simpa using hml, by simpa using g1⟩) (h0.of_grown g2 fun k hk => by have := hlt k hk; omega) ((Below.refl base w).grown g2 hbase fun k hk => (hlt k hk).1))
    simp only [execOp, resolve, invoke, builtin, Sem.run_bind, Sem.run_pure, Result.andThen_ok, List.map_toArray, List.map_cons, List.map_nil, hx, hy, hr]
end
/-! ### Plans in parts -/
/-- A part of a plan whose passes are numbered as they come up. -/
def CanL (used : Nat) (plan : List Int) : Prop := (∀ i, i < plan.length → 0 ≤ plan.getD i 0 ∧ plan.getD i 0 < used) ∧ (∀ p : Nat, p < used → ∃ i, i < plan.length ∧ plan.getD i 0 = (p : Int)) ∧ used ≤ plan.length
/-- Whether two slots share a pass in one just if they do in the other. -/
def Cons (q plan : List Int) : Prop := ∀ i k, i < plan.length → k < plan.length → (plan.getD i 0 = plan.getD k 0 ↔ q.getD i 0 = q.getD k 0)
theorem app_lt {plan : List Int} {x : Int} {i : Nat} (h : i < plan.length) : (plan ++ [x]).getD i 0 = plan.getD i 0 := by
  simp [List.getD, List.getElem?_append_left h]
theorem app_at (plan : List Int) (x : Int) : (plan ++ [x]).getD plan.length 0 = x := by simp [List.getD]
theorem can_app {used p : Nat} {plan : List Int} (h : CanL used plan) (hp : p ≤ used) : CanL (max used (p + 1)) (plan ++ [(p : Int)]) := by
  obtain ⟨h1, h2, h3⟩ := h
  refine ⟨fun i hi => ?_, fun r hr => ?_, by simp; omega⟩
  · simp at hi
    by_cases h : i < plan.length
    · rw [app_lt h]; have := h1 i h; omega
    · obtain rfl : i = plan.length := by omega
      rw [app_at]; omega
  · by_cases h : r < used
    · obtain ⟨i, a, b⟩ := h2 r h
      exact ⟨i, by simp; omega, by rw [app_lt a]; exact b⟩
    · exact ⟨plan.length, by simp, by rw [app_at]; omega⟩
theorem used_le {used n N : Nat} {plan q : List Int} (hc : CanL used plan) (hs : Cons q plan) (hl : plan.length ≤ n) (hq : ∀ i, i < n → 0 ≤ q.getD i 0 ∧ q.getD i 0 < (N : Int)) : used ≤ N := by
  obtain ⟨rep, hrep⟩ : ∃ rep : Nat → Nat, ∀ p, p < used → rep p < plan.length ∧ plan.getD (rep p) 0 = (p : Int) :=
    ⟨fun p => if h : p < used then Classical.choose (hc.2.1 p h) else 0, fun p h => by simp only [h, dif_pos]; exact Classical.choose_spec (hc.2.1 p h)⟩
  have h1 := nodup_le N ((List.range used).map fun p => q.getD (rep p) 0) ?_ ?_
  · simpa using h1
  · rw [List.Nodup, List.pairwise_map]
    refine List.Pairwise.imp_of_mem ?_ List.pairwise_lt_range
    intro a b ha hb hlt e
    simp at ha hb
    have ea := hrep a ha
    have eb := hrep b hb
    have := (hs _ _ ea.1 eb.1).2 e
    omega
  · intro x hx
    simp at hx
    obtain ⟨p, hp, rfl⟩ := hx
    have := hrep p hp
    have := hq (rep p) (by omega)
    simpa using this
theorem cons_next {used : Nat} {plan q : List Int} (hc : CanL used plan) (hs : Cons q plan) : ∃ p : Nat, p ≤ used ∧ Cons q (plan ++ [(p : Int)]) := by
  by_cases h : ∃ k, k < plan.length ∧ q.getD k 0 = q.getD plan.length 0
  · obtain ⟨k, h1, h2⟩ := h
    have h3 := hc.1 k h1
    refine ⟨(plan.getD k 0).toNat, by omega, ?_⟩
    have e : (((plan.getD k 0).toNat : Nat) : Int) = plan.getD k 0 := by omega
    rw [e]
    intro i j hi hj
    simp at hi hj
    by_cases a : i < plan.length <;> by_cases b : j < plan.length
    · rw [app_lt a, app_lt b]; exact hs i j a b
    · obtain rfl : j = plan.length := by omega
      rw [app_lt a, app_at, ← h2]; exact hs i k a h1
    · obtain rfl : i = plan.length := by omega
      rw [app_lt b, app_at, ← h2]; exact hs k j h1 b
    · obtain rfl : i = plan.length := by omega
      obtain rfl : j = plan.length := by omega
      exact ⟨fun _ => rfl, fun _ => rfl⟩
  · refine ⟨used, Nat.le_refl _, ?_⟩
    intro i j hi hj
    simp at hi hj
    by_cases a : i < plan.length <;> by_cases b : j < plan.length
    · rw [app_lt a, app_lt b]; exact hs i j a b
    · obtain rfl : j = plan.length := by omega
      rw [app_lt a, app_at]
      have := hc.1 i a
      exact ⟨fun e => by omega, fun e => absurd ⟨i, a, e⟩ h⟩
    · obtain rfl : i = plan.length := by omega
      rw [app_lt b, app_at]
      have := hc.1 j b
      exact ⟨fun e => by omega, fun e => absurd ⟨j, b, e.symm⟩ h⟩
    · obtain rfl : i = plan.length := by omega
      obtain rfl : j = plan.length := by omega
      exact ⟨fun _ => rfl, fun _ => rfl⟩
theorem cons_good {rest : Int} {sl : List (Int × Int)} {plan q : List Int} (ha : apart rest sl q) (hs : Cons q plan) (hl : plan.length ≤ sl.length) : goodP rest sl plan := by
  intro i hi k hk ⟨e, hc⟩
  exact ha i (by omega) k hk ⟨(hs i k hi (by omega)).1 e, hc⟩
/-- What is known of the best number while passes are tried. -/
def Inv (q plan : List Int) (used k : Nat) (N b : Int) : Prop := Cons q plan → b ≤ N ∨ ∃ p0 : Nat, k ≤ p0 ∧ p0 ≤ used ∧ Cons q (plan ++ [(p0 : Int)])
theorem inv_no {rest : Int} {sl : List (Int × Int)} {q plan : List Int} {used k : Nat} {N b : Int} (h : Inv q plan used k N b) (ha : apart rest sl q) (hl : plan.length < sl.length) (hg : ¬ goodP rest sl (plan ++ [(k : Int)])) : Inv q plan used (k + 1) N b := fun hc => by
  rcases h hc with h | ⟨p0, h1, h2, h3⟩
  · exact .inl h
  · rcases Nat.eq_or_lt_of_le h1 with rfl | h4
    · exact absurd (cons_good ha h3 (by simp; omega)) hg
    · exact .inr ⟨p0, h4, h2, h3⟩
theorem inv_yes {q plan : List Int} {used k : Nat} {N b b2 : Int} (h : Inv q plan used k N b) (hb : Cons q (plan ++ [(k : Int)]) → b2 = N) : Inv q plan used (k + 1) N (min b b2) := fun hc => by
  rcases h hc with h | ⟨p0, h1, h2, h3⟩
  · exact .inl (by omega)
  · rcases Nat.eq_or_lt_of_le h1 with rfl | h4
    · have := hb h3; exact .inl (by omega)
    · exact .inr ⟨p0, h4, h2, h3⟩
theorem inv_end {q plan : List Int} {used k n N : Nat} {b : Int} (h : Inv q plan used k N b) (hc : CanL used plan) (hl : plan.length < n) (hq : ∀ i, i < n → 0 ≤ q.getD i 0 ∧ q.getD i 0 < (N : Int)) (hN : (N : Int) ≤ b) (he : used < k ∨ b ≤ k) : Cons q plan → b = N := fun hs => by
  rcases h hs with h | ⟨p0, h1, h2, h3⟩
  · omega
  · have := used_le (can_app hc h2) h3 (n := n) (by simp; omega) hq
    omega
end Go.Pv
namespace Go.Proofs.Ytjcigpakljfkeaa
open Go.Pv Go.RowKit
set_option maxHeartbeats 8000000
set_option maxRecDepth 20000
theorem fewest_any (R rest : Int) (v : Value) (sl : List (Int × Int)) (q : List Int) (N : Nat) (hR : R ≤ 1000) (hs : SmallJ R rest sl) (hl : sl.length ≤ 7) (hN : N ≤ sl.length) (hap : apart rest sl q) (hq : ∀ i, i < sl.length → 0 ≤ q.getD i 0 ∧ q.getD i 0 < (N : Int))
    (hlow : ∀ (plan : List Int) (used : Nat), plan.length = sl.length → goodP rest sl plan → (∀ i, i < plan.length → 0 ≤ plan.getD i 0 ∧ plan.getD i 0 < used) → N ≤ used) :
    ∀ (d : Nat) (plan : List Int) (used : Nat) (uI : Int) (pv : Value) (w : World), Prs w v sl → Ints w pv plan → Nn pv → plan.length + d = sl.length → uI = used → CanL used plan → goodP rest sl plan →
      Ret Try.prog 40 [.agg #[.int .i64 rest, v], pv, .int .i64 uI] w fun r _ => ∃ b : Int, r = .int .i64 b ∧ (N : Int) ≤ b ∧ b ≤ sl.length ∧ (Cons q plan → b = N) := by
  intro d
  induction d using Nat.strongRecOn with
  | ind d IH =>
  intro plan used uI pv w h hp hnn hd hu hcan hgp
  subst hu
  have hv1 := h.one
  have hp1 := hp.one
  have hul := hcan.2.2
  refine ret_of_c Try.func40 rfl Try.ntmps40 (Nat.le_of_ble_eq_true rfl) (by dsimp only [ini, Nat.reduceAdd] <;> exact rfl) ?_
  repeat' (first
      | (refine W_bs0 ?_; intro bz wq hz0 he hnz; have hsz := he.size; have hlt3 := Bx.lt hx3)
      | (refine W_appendI (w0 := w) (base := bz) (xs := []) (ys := plan) rfl rfl (OwnV.monoE (OwnV.ex (by repeat (first | assumption | exact Ex.refl _ | (refine Ex.trans ?_ (by assumption)) | (refine Ex.of_grown ?_ (by assumption) (by intro k hk; cases hk; omega)))) hz0) (by omega)) rfl (by repeat (first | assumption | ((with_reducible apply Bx.grownS); assumption; (first | omega | exact Bx.ne (by assumption) (by omega))) | ((with_reducible apply Bx.below); assumption; omega) | ((with_reducible apply Own.grownS); assumption; omega) | ((with_reducible apply Bx.ex); assumption) | ((with_reducible apply IntsK.ex); assumption) | ((with_reducible apply Own.ex); assumption) | ((with_reducible apply Prs.ex); assumption))) hnn (by simp only [List.length_nil]; omega) (by repeat (first | assumption | exact Ex.refl _ | (refine Ex.trans ?_ (by assumption)) | (refine Ex.of_grown ?_ (by assumption) (by intro k hk; cases hk; omega)))) (by omega) (by omega) ?_; intro vq wq ho0 he hbw; have hown := Own.ofV ho0 (xs := plan) (by simp); have hsz := he.size; have hszb := hbw.size)
      | ((with_reducible apply W_append); ((conv => lhs; whnf) <;> exact rfl); (focus ((repeat (first | assumption | ((with_reducible apply Bx.grownS); assumption; (first | omega | exact Bx.ne (by assumption) (by omega))) | ((with_reducible apply Bx.below); assumption; omega) | ((with_reducible apply Own.grownS); assumption; omega) | ((with_reducible apply Bx.ex); assumption) | ((with_reducible apply IntsK.ex); assumption) | ((with_reducible apply Own.ex); assumption) | ((with_reducible apply Prs.ex); assumption))); done)); exact rfl; (focus ((repeat (first | assumption | ((with_reducible apply Bx.grownS); assumption; (first | omega | exact Bx.ne (by assumption) (by omega))) | ((with_reducible apply Bx.below); assumption; omega) | ((with_reducible apply Own.grownS); assumption; omega) | ((with_reducible apply Bx.ex); assumption) | ((with_reducible apply IntsK.ex); assumption) | ((with_reducible apply Own.ex); assumption) | ((with_reducible apply Prs.ex); assumption))); done)); (omega); (focus ((show Ex w _); (repeat (first | assumption | exact Ex.refl _ | (refine Ex.trans ?_ (by assumption)) | (refine Ex.of_grown ?_ (by assumption) (by intro k hk; cases hk; omega)))); done)); omega; (first | omega | exact Bx.lt (by repeat (first | assumption | ((with_reducible apply Bx.grownS); assumption; (first | omega | exact Bx.ne (by assumption) (by omega))) | ((with_reducible apply Bx.below); assumption; omega) | ((with_reducible apply Own.grownS); assumption; omega) | ((with_reducible apply Bx.ex); assumption) | ((with_reducible apply IntsK.ex); assumption) | ((with_reducible apply Own.ex); assumption) | ((with_reducible apply Prs.ex); assumption)))); intro vq wq hown he hkq hgq; have hsz := he.size)
      | ((first | ((with_reducible apply W_op); exact rfl; exact rfl)); (first | ((with_reducible apply r_move); ((conv => lhs; whnf) <;> exact rfl)) | ((with_reducible apply r_assign); ((conv => lhs; whnf) <;> exact rfl)) | ((with_reducible apply r_fieldAddr); exact rfl) | ((with_reducible apply r_load); exact rfl; exact rfl; (first | assumption | exact (Bx.cell (by repeat (first | assumption | ((with_reducible apply Bx.grownS); assumption; (first | omega | exact Bx.ne (by assumption) (by omega))) | ((with_reducible apply Bx.below); assumption; omega) | ((with_reducible apply Bx.ex); assumption))) _).trans rfl | exact Ex.cell (by assumption) (by assumption))) | ((with_reducible apply r_loadF); exact rfl; (first | assumption | exact (Bx.cell (by repeat (first | assumption | ((with_reducible apply Bx.grownS); assumption; (first | omega | exact Bx.ne (by assumption) (by omega))) | ((with_reducible apply Bx.below); assumption; omega) | ((with_reducible apply Bx.ex); assumption))) _).trans rfl | exact Ex.cell (by assumption) (by assumption))) | ((with_reducible apply r_loadA); exact rfl; (first | assumption | exact Bx.cells (by repeat (first | assumption | ((with_reducible apply Bx.grownS); assumption; (first | omega | exact Bx.ne (by assumption) (by omega))) | ((with_reducible apply Bx.below); assumption; omega) | ((with_reducible apply Bx.ex); assumption))) | exact Cells.ex (by assumption) (by assumption)); exact rfl) | ((with_reducible apply r_lss); exact rfl; exact rfl) | ((with_reducible apply r_leq); exact rfl; exact rfl) | ((with_reducible apply r_eql); exact rfl; exact rfl) | ((with_reducible apply r_add); exact rfl; exact rfl; omega) | ((with_reducible apply r_len); exact rfl) | ((with_reducible apply r_lenStr); exact rfl) | ((with_reducible apply r_lenInts); ((conv => lhs; whnf) <;> exact rfl); (focus ((repeat (first | assumption | ((with_reducible apply Bx.grownS); assumption; (first | omega | exact Bx.ne (by assumption) (by omega))) | ((with_reducible apply Bx.below); assumption; omega) | ((with_reducible apply Own.grownS); assumption; omega) | ((with_reducible apply Bx.ex); assumption) | ((with_reducible apply IntsK.ex); assumption) | ((with_reducible apply Own.ex); assumption) | ((with_reducible apply Prs.ex); assumption))); done))) | ((with_reducible apply r_lenPrs); ((conv => lhs; whnf) <;> exact rfl); (focus ((repeat (first | assumption | ((with_reducible apply Bx.grownS); assumption; (first | omega | exact Bx.ne (by assumption) (by omega))) | ((with_reducible apply Bx.below); assumption; omega) | ((with_reducible apply Own.grownS); assumption; omega) | ((with_reducible apply Bx.ex); assumption) | ((with_reducible apply IntsK.ex); assumption) | ((with_reducible apply Own.ex); assumption) | ((with_reducible apply Prs.ex); assumption))); done))) | ((with_reducible apply r_pick_true); exact rfl; ((conv => lhs; whnf) <;> exact rfl)) | ((with_reducible apply r_pick_false); exact rfl; ((conv => lhs; whnf) <;> exact rfl)) | ((with_reducible apply r_eqlb); exact rfl; exact rfl) | ((with_reducible apply r_loadSub); exact rfl; (focus ((repeat (first | assumption | ((with_reducible apply Bx.grownS); assumption; (first | omega | exact Bx.ne (by assumption) (by omega))) | ((with_reducible apply Bx.below); assumption; omega) | ((with_reducible apply Bx.ex); assumption))); done)); ((simp only [Nat.add_zero, Nat.zero_add, Nat.reduceAdd, List.drop_zero, List.drop_succ_cons, List.take_succ_cons, List.take_zero]) <;> exact rfl); exact rfl) | ((with_reducible apply r_min2); exact rfl; exact rfl) | ((with_reducible apply r_max2); exact rfl; exact rfl)))
      | ((with_reducible apply W_op); exact rfl; exact rfl; exact r_max2 rfl rfl)
      | ((with_reducible apply W_op); exact rfl; exact rfl; exact r_min2 rfl rfl)
      | (refine W_callv (good_any R rest v vq sl (plan ++ [(k : Int)]) _ (Prs.ex (by repeat (first | assumption | exact Ex.refl _ | (refine Ex.trans ?_ (by assumption)) | (refine Ex.of_grown ?_ (by assumption) (by intro k hk; cases hk; omega)))) h) (Pv.Own.ints hown) hR hs (by simp; omega) (by omega)) rfl (fun wq he => ?_); have hsz := he.size)
      | (refine W_call (IH (d - 1) (by omega) (plan ++ [(k : Int)]) (max used (k + 1)) _ vq _ (Prs.ex (by repeat (first | assumption | exact Ex.refl _ | (refine Ex.trans ?_ (by assumption)) | (refine Ex.of_grown ?_ (by assumption) (by intro k hk; cases hk; omega)))) h) (IntsK.ex (by repeat (first | assumption | exact Ex.refl _ | (refine Ex.trans ?_ (by assumption)) | (refine Ex.of_grown ?_ (by assumption) (by intro k hk; cases hk; omega)))) (Pv.Own.ints hown)) (Pv.Own.nn hown) (by simp; omega) (by omega) (can_app hcan (by omega)) (by assumption)) rfl ?_; rintro vq wq ⟨b2, rfl, hb2⟩ he; have hsz := he.size)
      | ((with_reducible (show C _ _ _ _ _ _)); refine c_loopG (fun (k : Nat) ps wr => ∃ b3 : Nat, ∃ b : Int, ∃ i : Int, ps = [(1, pv), (2, .int .i64 used), (3, .pointer (some ⟨b3, 0, none⟩)), (7, .int .i64 b), (8, .int .i64 i)] ∧ i = k ∧ k ≤ used + 1 ∧ (N : Int) ≤ b ∧ b ≤ sl.length ∧ Inv q plan used k N b ∧ Bx wr b3 [.int .i64 rest, v] 24 ∧ Ex w wr) (fun k => used + 1 - k) 0 _ ⟨_, _, _, rfl, rfl, Nat.zero_le _, by omega, by omega, (fun hc => .inr (by obtain ⟨p0, h1, h2⟩ := cons_next hcan hc; exact ⟨p0, Nat.zero_le _, h1, h2⟩)), (by repeat (first | assumption | ((with_reducible apply Bx.grownS); assumption; (first | omega | exact Bx.ne (by assumption) (by omega))) | ((with_reducible apply Bx.below); assumption; omega) | ((with_reducible apply Own.grownS); assumption; omega) | ((with_reducible apply Bx.ex); assumption) | ((with_reducible apply IntsK.ex); assumption) | ((with_reducible apply Own.ex); assumption) | ((with_reducible apply Prs.ex); assumption))), (by repeat (first | assumption | exact Ex.refl _ | (refine Ex.trans ?_ (by assumption)) | (refine Ex.of_grown ?_ (by assumption) (by intro k hk; cases hk; omega))))⟩ ⟨rfl, rfl, rfl, rfl, rfl, trivial⟩ (by ((conv => lhs; whnf) <;> exact rfl)) (by ((conv => lhs; whnf) <;> exact rfl)) ?_; rintro J hJ k u ps wr ⟨b3, b, i, rfl, rfl, hk, hbN, hbn, hinv, hx3, he⟩; have hsz := he.size)
      | ((with_reducible (show Exit.then _ _ _ _ _)); refine n_roundG (k + 1) (hJ _ _ _ _ ⟨_, _, _, rfl, by omega, by omega, by omega, by omega, inv_yes hinv hb2.2.2, (by repeat (first | assumption | ((with_reducible apply Bx.grownS); assumption; (first | omega | exact Bx.ne (by assumption) (by omega))) | ((with_reducible apply Bx.below); assumption; omega) | ((with_reducible apply Own.grownS); assumption; omega) | ((with_reducible apply Bx.ex); assumption) | ((with_reducible apply IntsK.ex); assumption) | ((with_reducible apply Own.ex); assumption) | ((with_reducible apply Prs.ex); assumption))), (by repeat (first | assumption | exact Ex.refl _ | (refine Ex.trans ?_ (by assumption)) | (refine Ex.of_grown ?_ (by assumption) (by intro k hk; cases hk; omega))))⟩ ⟨rfl, rfl, rfl, rfl, rfl, trivial⟩ rfl) (by omega))
      | ((with_reducible (show Exit.then _ _ _ _ _)); refine n_roundG (k + 1) (hJ _ _ _ _ ⟨_, _, _, rfl, by omega, by omega, by omega, by omega, inv_no hinv hap (by omega) (by assumption), (by repeat (first | assumption | ((with_reducible apply Bx.grownS); assumption; (first | omega | exact Bx.ne (by assumption) (by omega))) | ((with_reducible apply Bx.below); assumption; omega) | ((with_reducible apply Own.grownS); assumption; omega) | ((with_reducible apply Bx.ex); assumption) | ((with_reducible apply IntsK.ex); assumption) | ((with_reducible apply Own.ex); assumption) | ((with_reducible apply Prs.ex); assumption))), (by repeat (first | assumption | exact Ex.refl _ | (refine Ex.trans ?_ (by assumption)) | (refine Ex.of_grown ?_ (by assumption) (by intro k hk; cases hk; omega))))⟩ ⟨rfl, rfl, rfl, rfl, rfl, trivial⟩ rfl) (by omega))
      | (with_reducible apply W_nil)
      | ((with_reducible apply W_box); exact rfl; exact rfl; intro bq wq hbq he hnq; have hltq := Bx.lt hbq; have hsz := he.size)
      | ((with_reducible apply W_bsP); exact rfl; exact rfl; intro bq wq hbq he hnq; have hltq := Bx.lt hbq; have hsz := he.size)
      | ((with_reducible apply W_pass); exact rfl; exact rfl; exact rfl; exact rfl; exact rfl)
      | ((with_reducible apply W_take); exact rfl; exact rfl; exact rfl)
      | ((with_reducible apply W_passU); exact rfl; exact rfl; exact rfl; exact rfl)
      | ((with_reducible apply W_split); exact rfl; exact rfl; intro _; rotate_left 1; intro _)
      | ((with_reducible apply W_bs1); ((conv => lhs; whnf) <;> exact rfl); (first | exact rfl | assumption | exact IntsK.one (by assumption) | exact Prs.one (by assumption) | exact Own.one (by assumption)); decide; decide; exact rfl; exact rfl; ((simp only [lay, lset, List.replicate_succ, List.replicate_zero]) <;> exact rfl); intro bq wq hbq he hnq; have hltq := Bx.lt hbq; have hsz := he.size)
      | (with_reducible apply c_seq)
      | ((with_reducible apply c_region); kernel_rfl)
      | (with_reducible apply n_nq)
      | (with_reducible apply c_block)
      | (with_reducible apply c_skip)
      | (with_reducible apply c_ret)
      | (with_reducible apply c_exit)
      | ((with_reducible apply c_cond_true); exact rfl)
      | ((with_reducible apply c_cond_false); exact rfl)
      | ((with_reducible apply c_cond_dec); exact rfl; intro _; rotate_left 1; intro _)
      | ((with_reducible apply c_cond_bool); exact rfl; intro _; rotate_left 1; intro _)
      | (with_reducible apply n_then)
      | (with_reducible apply n_block)
      | (with_reducible apply e_then)
      | (with_reducible apply e_block)
      | (with_reducible apply r_then)
      | (with_reducible apply r_block)
      | ((with_reducible apply e_block'); decide)
      | ((with_reducible apply p_ret1); exact rfl; exact rfl; ((conv => lhs; whnf) <;> exact rfl); refine ⟨_, rfl, ?_, (by repeat (first | assumption | exact Ex.refl _ | (refine Ex.trans ?_ (by assumption)) | (refine Ex.of_grown ?_ (by assumption) (by intro k hk; cases hk; omega))))⟩)
      | ((with_reducible apply m_ret1); (focus ((repeat (first | assumption | exact Al.nil _ _ | ((with_reducible apply Al.grownS); assumption; (focus ((repeat (first | assumption | ((with_reducible apply Bx.grownS); assumption; (first | omega | exact Bx.ne (by assumption) (by omega))) | ((with_reducible apply Bx.below); assumption; omega) | ((with_reducible apply Bx.ex); assumption))); done))) | (refine Al.ex (by assumption) ?_))); done)); exact rfl; ((conv => lhs; whnf) <;> exact rfl); refine ⟨_, rfl, ?_, (shut_grown _ _ (by repeat (first | assumption | exact Al.nil _ _ | ((with_reducible apply Al.grownS); assumption; (focus ((repeat (first | assumption | ((with_reducible apply Bx.grownS); assumption; (first | omega | exact Bx.ne (by assumption) (by omega))) | ((with_reducible apply Bx.below); assumption; omega) | ((with_reducible apply Bx.ex); assumption))); done))) | (refine Al.ex (by assumption) ?_))) (by repeat (first | assumption | exact Ex.refl _ | (refine Ex.trans ?_ (by assumption)) | (refine Ex.of_grown ?_ (by assumption) (by intro k hk; cases hk; omega)))) (Nat.le_refl _))⟩)
      | ((with_reducible apply p_retct); exact rfl; exact rfl; exact inferInstance; exact inferInstance; exact rfl; (focus ((repeat (first | assumption | ((with_reducible apply Bx.grownS); assumption; (first | omega | exact Bx.ne (by assumption) (by omega))) | ((with_reducible apply Bx.below); assumption; omega) | ((with_reducible apply Bx.ex); assumption))); done)); exact rfl; exact rfl; refine ⟨_, rfl, ?_, (by repeat (first | assumption | exact Ex.refl _ | (refine Ex.trans ?_ (by assumption)) | (refine Ex.of_grown ?_ (by assumption) (by intro k hk; cases hk; omega))))⟩)
      | ((exfalso; omega)))
  all_goals first
    | exact ⟨b, rfl, hbN, hbn, inv_end hinv hcan (by omega) hq hbN (by omega)⟩
    | (have hlo := hlow plan used (by omega) hgp hcan.1; exact ⟨_, rfl, by omega, by omega, fun hc => by have h1 := used_le hcan hc (n := sl.length) (by omega) hq; omega⟩)
    | trace_state
end Go.Proofs.Ytjcigpakljfkeaa
