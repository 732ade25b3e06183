/-
  (heavy) What this text proves: the choices of shares come one after another, all of a size. Conditions: the values read as lists.
-/
import Derived.Test.YtngoipmdhliigaaVKq
import Derived.Test.YtngoipmdhliigaaY
set_option linter.unusedVariables false
set_option linter.unusedSimpArgs false
namespace Go.Pv
open Go.RowKit
/-- x[j:] of pairs. -/
def dropV : Value → Nat → Value
  | .slice a n c, j => .slice (if c = j then a else a.map (·.add (j * 2))) (n - j) (c - j)
  | v, _ => v
theorem Prs.drop {w : World} {v : Value} {xs : List (Int × Int)} (hv : Prs w v xs) {j : Nat} (hle : j ≤ xs.length) : Prs w (dropV v j) (xs.drop j) := by
  unfold Prs at hv ⊢
  obtain ⟨h0, a, cap, rfl, hc, hm, hall⟩ := hv
  have hln : (xs.drop j).length = xs.length - j := by simp
  refine ⟨by omega, (if cap = j then a else a.map (·.add (j * 2))), cap - j, by rw [hln]; rfl, by omega, by omega, fun i hi => ?_⟩
  rw [hln] at hi
  obtain ⟨p, rfl, hcel⟩ := hall (j + i) (by omega)
  refine ⟨p.add (j * 2), by rw [if_neg (by omega)]; rfl, ?_⟩
  rw [Addr.add_add, ← Nat.add_mul, List.getElem_drop]
  exact hcel
section
variable {P : Program} {l : St} {w : World} {od : Option Nat} {ty : TypeId} {pos : String} {af : Array Edge}
theorem r_dropP {x lo : Operand} {T e : TypeId} {v : Value} {i : Nat} {k : IntKind} {z : Value} {b : Nat} {xs : List (Int × Int)} [h : Und P T (.slice e)] [hs : Sz P e z 2 b] (hx : ev l x = v) (hv : Prs w v xs) (hi : ev l lo = .int k (i : Int)) (hle : i ≤ xs.length) :
    Runs P ⟨od, .slice T x (some lo) none none, ty, pos, af, none⟩ l w (dropV v i) := by
  unfold Prs at hv
  obtain ⟨_, a, cap, rfl, hc, hm, _⟩ := hv
  have h1 : i ≤ cap := by omega
  simp [Runs, execOp, hx, hi, Instr.sliceAt, Instr.slice, Instr.sliceBounds, Instr.sliceBound, asIntOf, h.run, hs.run, hle, h1, dropV]
end
section
variable {P : Program} {ol : List Oper} {Q : Exit → Act → World → Prop} {rest : List Oper} {l : St} {w : World}
theorem W_callE {d : Nat} {f : FuncId} {xs : List Operand} {vs : List Value} {tys : Array TypeId} {T : TypeId} {pos : String} {af : Array Edge} {φ : Value → World → Prop} {w0 : World} [Fun P f] (he : Ex w0 w)
    (hc : Calls P f vs.toArray w fun e w' => ∃ v, e = .returned v ∧ φ v w') (hx : evs l xs = vs)
    (k : ∀ v w', Ex w0 w → φ v w' → W P ol Q rest (upd l d v) w') :
    W P ol Q (⟨some d, .call { callee := .value (.func f), args := xs.toArray, argTypes := tys }, T, pos, af, none⟩ :: rest) l w := W_callR hc hx fun v w' h => k v w' he h
end
/-- The first element of a part of a list. -/
theorem sub_first {α : Type} : ∀ (xs : List α) (s : List α), s.Sublist xs → s ≠ [] → ∃ j, ∃ h : j < xs.length, ∃ t, s = xs[j] :: t ∧ t.Sublist (xs.drop (j + 1))
  | [], s, h, hn => by cases h; exact absurd rfl hn
  | x :: r, s, h, hn => by
    cases h with
    | cons _ h1 =>
      obtain ⟨j, hj, t, h2, h3⟩ := sub_first r s h1 hn
      exact ⟨j + 1, by simp; omega, t, by simpa using h2, by simpa using h3⟩
    | cons_cons _ h1 => exact ⟨0, by simp, _, rfl, by simpa using h1⟩
/-- A choice of k shares, and the slice that holds it. -/
abbrev CV := List (Int × Int) × Value
def TC (k : Nat) (sh : List (Int × Int)) (x : CV) (A : World) : Prop := (x.1.length = k ∧ x.1.Sublist sh) ∧ Prs A x.2 x.1
/-- The choices of m from rest whose first place is before k have come. -/
def CameC (ch rest : List (Int × Int)) (m k : Nat) (ys : List CV) : Prop := ∀ s j (h : j < rest.length) t, j < k → s = rest[j] :: t → t.Sublist (rest.drop (j + 1)) → s.length = m → ∃ u, (ch ++ s, u) ∈ ys
theorem came0 (ch rest : List (Int × Int)) (m : Nat) : CameC ch rest m 0 [] := fun s j h t hj => absurd hj (Nat.not_lt_zero j)
theorem came_next {ch rest : List (Int × Int)} {m k : Nat} {ys zs : List CV} (h : CameC ch rest (m + 1) k ys) (hk : k < rest.length) (hz : ∀ s, s.Sublist (rest.drop (k + 1)) → s.length = m → ∃ u, ((ch ++ [rest.getD k (0, 0)]) ++ s, u) ∈ zs) : CameC ch rest (m + 1) (k + 1) (ys ++ zs) := by
  intro s j hj t hjk hs ht hl
  rcases Nat.lt_succ_iff_lt_or_eq.1 hjk with h1 | rfl
  · obtain ⟨u, hu⟩ := h s j hj t h1 hs ht hl
    exact ⟨u, List.mem_append_left _ hu⟩
  · subst hs
    obtain ⟨u, hu⟩ := hz t ht (by simpa using hl)
    refine ⟨u, List.mem_append_right _ ?_⟩
    have e : rest.getD j (0, 0) = rest[j] := by simp [hj]
    rw [e, List.append_assoc] at hu
    exact hu
theorem came_all {ch rest : List (Int × Int)} {m k : Nat} {ys : List CV} (h : CameC ch rest (m + 1) k ys) (hk : rest.length ≤ k + m) : ∀ s, s.Sublist rest → s.length = m + 1 → ∃ u, (ch ++ s, u) ∈ ys := by
  intro s hs hl
  obtain ⟨j, hj, t, h1, h2⟩ := sub_first rest s hs (by intro e; subst e; simp at hl)
  have h3 := h2.length_le
  rw [h1] at hl
  simp at hl h3
  exact h s j hj t (by omega) h1 h2 (by rw [h1]; simpa using hl)
theorem sub_step {ch rest sh : List (Int × Int)} {k : Nat} (h : (ch ++ rest).Sublist sh) (hk : k < rest.length) : ((ch ++ [rest.getD k (0, 0)]) ++ rest.drop (k + 1)).Sublist sh := by
  refine List.Sublist.trans ?_ h
  have e : rest.getD k (0, 0) = rest[k] := by simp [hk]
  rw [e, List.append_assoc, List.singleton_append, List.getElem_cons_drop]
  exact List.Sublist.append_left (List.drop_sublist k rest) ch
end Go.Pv
namespace Go.Proofs.Ytngoipmdhliigaa
open Go.Pv Go.RowKit Go.Sort
set_option maxHeartbeats 8000000
set_option maxRecDepth 20000
/-- What a call of choose leaves. -/
def ChOk (y k : Nat) (sh : List (Int × Int)) (JJ JX : List CV → World → Prop) (m : Nat) : Prop :=
    ∀ (cv rv : Value) (ch rest : List (Int × Int)) (pre : List CV) (w : World), Prs w cv ch → Nn cv → Prs w rv rest → ch.length + m = k → m ≤ rest.length → (ch ++ rest).Sublist sh → JJ pre w →
    Calls Try.prog 93 [cv, rv, .int .i64 (m : Int), .func (.yield y) #[] #[]].toArray w fun e w' => ∃ v, e = .returned v ∧ ((v = .bool true ∧ ∃ xs, JJ (pre ++ xs) w' ∧ KC w w' ∧ ∀ s, s.Sublist rest → s.length = m → ∃ u, (ch ++ s, u) ∈ xs) ∨ (v = .bool false ∧ ∃ q, JX q w'))
theorem choose0_any (y k : Nat) (sh : List (Int × Int)) (B : Nat) (JJ JX : List CV → World → Prop) (hJ : AbidesFrom B JJ) (hX : AbidesFrom B JX) (hsl : sh.length ≤ 20)
    (hY : ∀ pre x A, JJ pre A → TC k sh x A → YieldAt Fence.wide 1 Try.prog y #[x.2] A fun e W' => (e = .returned (.bool true) ∧ JJ (pre ++ [x]) W' ∧ KC A W') ∨ (e = .returned (.bool false) ∧ JX (pre ++ [x]) W')) : ChOk y k sh JJ JX 0 := by
  intro cv rv ch rest pre w hc hcn hr hk hm hsub h0
  have hc1 := hc.one
  have hr1 := hr.one
  have hchs : ch.Sublist sh := List.Sublist.trans (List.sublist_append_left ch rest) hsub
  refine calls_of_c Try.func93 rfl Try.ntmps93 (Nat.le_of_ble_eq_true rfl) (by dsimp only [ini, Nat.reduceAdd] <;> exact rfl) ?_
  repeat' (first
      | (refine c_regionP (id := 2) [true, true, false, false] [false, false, true, true] (by dsimp only [sel] <;> exact rfl) (by dsimp only [sel] <;> exact rfl) rfl rfl ?_)
      | ((first | ((with_reducible apply W_op); exact rfl; exact rfl) | ((with_reducible apply WQ_op); exact rfl; exact rfl; intro wq he) | ((with_reducible apply WM_op); exact rfl; exact rfl; intro wq he) | ((with_reducible apply WB_op); exact rfl; exact rfl; intro wq)); (first | ((with_reducible apply r_move); ((conv => lhs; whnf) <;> exact rfl)) | ((with_reducible apply r_assign); ((conv => lhs; whnf) <;> exact rfl)) | ((with_reducible apply r_eql); exact rfl; exact rfl)))
      | (with_reducible apply WP_nil)
      | ((refine WI_yieldN rfl rfl (hY pre (ch, cv) _ (hJ _ _ _ none h0 (Ex.grownBy (by repeat (first | assumption | exact Ex.refl _ | (refine Ex.trans ?_ (by assumption)) | (refine Ex.of_grown ?_ (by assumption) (by intro k hk; cases hk; omega))))) (by intro r e; cases e)) ⟨⟨by omega, hchs⟩, Prs.ex (by repeat (first | assumption | exact Ex.refl _ | (refine Ex.trans ?_ (by assumption)) | (refine Ex.of_grown ?_ (by assumption) (by intro k hk; cases hk; omega)))) hc⟩) (by rintro e w' (⟨rfl, _⟩ | ⟨rfl, _⟩) <;> exact ⟨_, rfl⟩) ?_); (rintro bb wy (⟨e, hj1, hk1⟩ | ⟨e, hj1⟩) <;> cases e); all_goals (refine WI_rest rfl ?_))
      | (with_reducible apply W_nil)
      | (with_reducible apply c_seq)
      | ((with_reducible apply c_region); kernel_rfl)
      | (with_reducible apply n_nq)
      | (with_reducible apply c_ret)
      | ((with_reducible apply c_cond_true); exact rfl)
      | (with_reducible apply n_then)
      | (with_reducible apply r_then))
  · exact p_ret1 rfl rfl rfl ⟨_, rfl, .inl ⟨rfl, [(ch, cv)], hj1, hk1, fun s _ h2 => ⟨cv, by rw [List.length_eq_zero_iff.1 h2, List.append_nil]; exact List.mem_singleton_self _⟩⟩⟩
  · exact p_ret1 rfl rfl rfl ⟨_, rfl, .inr ⟨rfl, _, hj1⟩⟩
theorem chooseS_any (y k : Nat) (sh : List (Int × Int)) (B : Nat) (JJ JX : List CV → World → Prop) (hJ : AbidesFrom B JJ) (hX : AbidesFrom B JX) (hsl : sh.length ≤ 20) (m : Nat) (ih : ChOk y k sh JJ JX m) : ChOk y k sh JJ JX (m + 1) := by
  intro cv rv ch rest pre w0 hc hcn hr hk hm hsub h0
  have hc1 := hc.one
  have hr1 := hr.one
  have hln := hr.len
  have hrl : rest.length ≤ 20 := by have := hsub.length_le; simp at this; omega
  have hcl : ch.length ≤ 20 := by have := hsub.length_le; simp at this; omega
  obtain ⟨M, hM⟩ : ∃ M : Int, M = ((m + 1 : Nat) : Int) := ⟨_, rfl⟩
  rw [← hM]
  have hM1 : M = m + 1 := by omega
  clear hM
  obtain ⟨w, hw⟩ : ∃ w, w = w0 := ⟨_, rfl⟩
  refine @Eq.subst World (fun z => Calls Try.prog 93 [cv, rv, .int .i64 M, .func (.yield y) #[] #[]].toArray z _) w w0 hw ?_
  have hkc0 : KC w0 w := by rw [hw]; exact KC.refl _
  have hcw : Prs w cv ch := by rw [hw]; exact hc
  have hrw : Prs w rv rest := by rw [hw]; exact hr
  have h0w : JJ pre w := by rw [hw]; exact h0
  clear hw
  unfold ChOk at ih
  have hMm : (m : Int) = M - 1 := by omega
  rw [hMm] at ih
  have tk1 : True := trivial
  refine calls_of_c Try.func93 rfl Try.ntmps93 (Nat.le_of_ble_eq_true rfl) (by dsimp only [ini, Nat.reduceAdd] <;> exact rfl) ?_
  repeat' (first
      | ((with_reducible apply W_op); exact rfl; exact rfl; exact r_lenPrs rfl hrw)
      | (refine c_mixX (id := 6) [] [0, 2, 3, 4, 5] 4 #[true, false, true, true, true, true, false, false, false] [false, false, false, false, false, false, false, false, false] [true, false, true, true, true, true, false, false, false] (by kernel_rfl) (by kernel_rfl) (by kernel_rfl) (by dsimp only [sel] <;> exact rfl) (by dsimp only [sel] <;> exact rfl) ?_)
      | (refine WM_indexPr2 (i := k2) (v := rv) (xs := rest) rfl hrr rfl (by omega) ?_; intro pb po hpc hp0 hp1)
      | (refine W_appendP (w0 := w) (base := w.heap.size) (xs := ch) (m := (rest.getD k2 (0, 0)).1) (n := (rest.getD k2 (0, 0)).2) rfl (OwnP.lower (OwnP.ex (by repeat (first | exact Ex.refl _ | assumption | (refine Ex.of_grown ?_ (by assumption) (by intro k hk; cases hk; omega)) | (refine Ex.trans ?_ (by assumption)))) hcp) (by omega)) rfl (by repeat (first | assumption | ((with_reducible apply Bx.grownS); assumption; (first | omega | exact Bx.ne (by assumption) (by omega))) | ((with_reducible apply Bx.below); assumption; omega) | ((with_reducible apply Bx.ex); assumption))) (by omega) (by repeat (first | assumption | exact Ex.refl _ | (refine Ex.trans ?_ (by assumption)) | (refine Ex.of_grown ?_ (by assumption) (by intro k hk; cases hk; omega)))) (by omega) (by omega) ?_; intro mv wq hmo he hbw hgq; have hsz := he.size; have hmo1 := hmo.one)
      | ((with_reducible apply W_op); exact rfl; exact rfl; exact r_dropP (i := k2 + 1) rfl (Prs.ex (show Ex w _ from (by repeat (first | exact Ex.refl _ | assumption | (refine Ex.of_grown ?_ (by assumption) (by intro k hk; cases hk; omega)) | (refine Ex.trans ?_ (by assumption))))) hrr0) (Eq.trans (b := Value.int .i64 _) rfl (congrArg _ (by omega))) (by omega))
      | (refine W_callE (w0 := w) (by repeat (first | assumption | exact Ex.refl _ | (refine Ex.trans ?_ (by assumption)) | (refine Ex.of_grown ?_ (by assumption) (by intro k hk; cases hk; omega)))) (ih _ _ (ch ++ [rest.getD k2 (0, 0)]) (rest.drop (k2 + 1)) (pre ++ ys) _ (OwnP.prs (OwnP.ex (by repeat (first | exact Ex.refl _ | assumption | (refine Ex.of_grown ?_ (by assumption) (by intro k hk; cases hk; omega)) | (refine Ex.trans ?_ (by assumption)))) hmo)) (OwnP.nn hmo) (Prs.drop (Prs.ex (show Ex w _ from (by repeat (first | exact Ex.refl _ | assumption | (refine Ex.of_grown ?_ (by assumption) (by intro k hk; cases hk; omega)) | (refine Ex.trans ?_ (by assumption))))) hrr0) (by omega)) (by simp; omega) (by simp; omega) (sub_step hsub (by omega)) (hJ _ _ _ none hj0 (Ex.grownBy (by repeat (first | assumption | exact Ex.refl _ | (refine Ex.trans ?_ (by assumption)) | (refine Ex.of_grown ?_ (by assumption) (by intro k hk; cases hk; omega))))) (by intro r e; cases e))) rfl ?_; rintro vq wq hex (⟨rfl, zs, hjz, hkz, hallz⟩ | ⟨rfl, q, hjq⟩))
      | ((with_reducible (show C _ _ _ _ _ _)); clear tk1; refine c_loopG (fun (k2 : Nat) ps wr => ∃ i : Int, ∃ w : World, ∃ ys : List CV, ps = [(0, cv), (1, rv), (2, .int .i64 M), (3, .func (.yield y) #[] #[]), (20, .int .i64 (rest.length - M + 1)), (21, .int .i64 i)] ∧ i = k2 ∧ k2 + m ≤ rest.length ∧ JJ (pre ++ ys) w ∧ KC w0 w ∧ Prs w cv ch ∧ Prs w rv rest ∧ CameC ch rest (m + 1) k2 ys ∧ Prs wr rv rest ∧ Prs wr cv ch ∧ Ex w wr) (fun k2 => rest.length - m - k2) 0 _ ⟨_, _, ([] : List CV), rfl, rfl, (by omega), (by rw [List.append_nil]; exact h0w), hkc0, hcw, hrw, came0 _ _ _, hrw, hcw, Ex.refl _⟩ ⟨rfl, rfl, rfl, rfl, rfl, rfl, trivial⟩ (by ((conv => lhs; whnf) <;> exact rfl)) (by ((conv => lhs; whnf) <;> exact rfl)) ?_; rintro J2 hJ2 k2 u ps wr ⟨i, w, ys, rfl, rfl, hk2, hj0, hkc, hcc0, hrr0, hcame, hrr, hcc, he⟩; have hsz := he.size; have tk2 : True := trivial)
      | ((first | ((with_reducible apply W_op); exact rfl; exact rfl) | ((with_reducible apply WQ_op); exact rfl; exact rfl; intro wq he) | ((with_reducible apply WM_op); exact rfl; exact rfl; intro wq he) | ((with_reducible apply WB_op); exact rfl; exact rfl; intro wq)); (first | ((with_reducible apply r_move); ((conv => lhs; whnf) <;> exact rfl)) | ((with_reducible apply r_assign); ((conv => lhs; whnf) <;> exact rfl)) | ((with_reducible apply r_loadA); exact rfl; (first | assumption | exact Bx.cells (by repeat (first | assumption | ((with_reducible apply Bx.grownS); assumption; (first | omega | exact Bx.ne (by assumption) (by omega))) | ((with_reducible apply Bx.below); assumption; omega) | ((with_reducible apply Bx.ex); assumption))) | exact Cells.ex (by assumption) (by assumption)); exact rfl) | ((with_reducible apply r_lss); exact rfl; exact rfl) | ((with_reducible apply r_eql); exact rfl; exact rfl) | ((with_reducible apply r_add); exact rfl; exact rfl; omega) | ((with_reducible apply r_sub); exact rfl; exact rfl; omega) | ((with_reducible apply r_notb); exact rfl)))
      | (refine XT_two (t := 1) (t' := 6) (s := false) (s' := false) (listed := #[true, false, true, true, true, true, false, false, false]) (l1 := #[true, true, true, true, true, true, false, false, false]) (l1' := #[true, false, true, true, true, true, true, false, false]) (by kernel_rfl) rfl rfl (by kernel_rfl) (by kernel_rfl) (by kernel_rfl) (by kernel_rfl) ?_ ?_)
      | (refine XT_one (t := 6) (s := false) (listed := #[true, true, true, true, true, true, false, false, false]) (listed' := #[true, true, true, true, true, true, true, false, false]) (by kernel_rfl) rfl (by kernel_rfl) (by kernel_rfl) ?_)
      | (refine XT_one (t := 1) (s := false) (listed := #[true, false, true, true, true, true, true, false, false]) (listed' := #[true, true, true, true, true, true, true, false, false]) (by kernel_rfl) rfl (by kernel_rfl) (by kernel_rfl) ?_)
      | (refine XT_one (t := 7) (s := true) (listed := #[true, true, true, true, true, true, true, false, false]) (listed' := #[true, true, true, true, true, true, true, true, false]) (by kernel_rfl) rfl (by kernel_rfl) (by kernel_rfl) ?_)
      | (refine XT_pure (t := 8) (listed := #[true, true, true, true, true, true, true, true, false]) (listed' := #[true, true, true, true, true, true, true, true, true]) (by kernel_rfl) rfl rfl rfl (by kernel_rfl) (by intro wq; ((with_reducible apply r_assign); ((conv => lhs; whnf) <;> exact rfl))) ?_)
      | (with_reducible apply XB_nil)
      | ((with_reducible apply XM_nil); intro wq he; have hsz := he.size)
      | ((with_reducible apply XT_nil); kernel_rfl)
      | (with_reducible apply x_sink)
      | ((with_reducible apply x_keep); (focus ((repeat (first | assumption | exact Ex.refl _ | (refine Ex.trans ?_ (by assumption)) | (refine Ex.of_grown ?_ (by assumption) (by intro k hk; cases hk; omega)))); done)); intro wq he; have hsz := he.size)
      | (refine W_call (clone_any cv ch _ (Prs.ex (show Ex w _ from (by repeat (first | exact Ex.refl _ | assumption | (refine Ex.of_grown ?_ (by assumption) (by intro k hk; cases hk; omega)) | (refine Ex.trans ?_ (by assumption))))) hcc0) hcn (by omega)) rfl ?_; rintro vq wq hcp he; have hsz := he.size; have hcp1 := hcp.one)
      | ((with_reducible (show Exit.then _ _ _ _ _)); refine n_roundG (k2 + 1) (hJ2 _ _ _ _ ⟨_, wq, ys ++ zs, rfl, (by omega), (by omega), (by rw [← List.append_assoc]; exact hjz), (hkc.trans ((KC.ex hex).trans hkz)), (Prs.kc ((KC.ex hex).trans hkz) hcc0), (Prs.kc ((KC.ex hex).trans hkz) hrr0), (came_next hcame (by omega) hallz), (Prs.kc ((KC.ex hex).trans hkz) hrr0), (Prs.kc ((KC.ex hex).trans hkz) hcc0), Ex.refl _⟩ ⟨rfl, rfl, rfl, rfl, rfl, rfl, trivial⟩ rfl) (by omega))
      | (with_reducible apply W_nil)
      | ((with_reducible apply W_bsP); exact rfl; exact rfl; intro bq wq hbq he hnq; have hltq := Bx.lt hbq; have hsz := he.size)
      | (with_reducible apply c_seq)
      | ((with_reducible apply c_region); kernel_rfl)
      | (with_reducible apply n_nq)
      | (with_reducible apply c_block)
      | (with_reducible apply c_skip)
      | (with_reducible apply c_ret)
      | (with_reducible apply c_exit)
      | ((with_reducible apply c_cond_true); exact rfl)
      | ((with_reducible apply c_cond_false); exact rfl)
      | ((with_reducible apply c_cond_dec); exact rfl; intro _; rotate_left 1; intro _)
      | (with_reducible apply n_then)
      | (with_reducible apply n_block)
      | (with_reducible apply e_then)
      | (with_reducible apply e_block)
      | (with_reducible apply r_then)
      | (with_reducible apply r_block)
      | ((exfalso; omega)))
  all_goals first
    | exact p_ret1 rfl rfl rfl ⟨_, rfl, .inr ⟨rfl, _, by assumption⟩⟩
    | exact p_ret1 rfl rfl rfl ⟨_, rfl, .inl ⟨rfl, ys, hJ _ _ _ none hj0 (Ex.grownBy (by repeat (first | assumption | exact Ex.refl _ | (refine Ex.trans ?_ (by assumption)) | (refine Ex.of_grown ?_ (by assumption) (by intro k hk; cases hk; omega))))) (by intro r e; cases e), hkc.trans (KC.ex (by repeat (first | assumption | exact Ex.refl _ | (refine Ex.trans ?_ (by assumption)) | (refine Ex.of_grown ?_ (by assumption) (by intro k hk; cases hk; omega))))), came_all hcame (by omega)⟩⟩
    | trace_state
theorem choose_any (y k : Nat) (sh : List (Int × Int)) (B : Nat) (JJ JX : List CV → World → Prop) (hJ : AbidesFrom B JJ) (hX : AbidesFrom B JX) (hsl : sh.length ≤ 20)
    (hY : ∀ pre x A, JJ pre A → TC k sh x A → YieldAt Fence.wide 1 Try.prog y #[x.2] A fun e W' => (e = .returned (.bool true) ∧ JJ (pre ++ [x]) W' ∧ KC A W') ∨ (e = .returned (.bool false) ∧ JX (pre ++ [x]) W')) : ∀ m, ChOk y k sh JJ JX m
  | 0 => choose0_any y k sh B JJ JX hJ hX hsl hY
  | m + 1 => chooseS_any y k sh B JJ JX hJ hX hsl m (choose_any y k sh B JJ JX hJ hX hsl hY m)
end Go.Proofs.Ytngoipmdhliigaa
