/-
  What this text proves: what Clash answers is as the plain functions reckon it, where the chains end.
-/
import Derived.Sort.OwnSortedInts
import Derived.Test.YtbcbfeeidmggpaaSh
import Derived.Test.YtbcbfeeidmggpaaN
import Derived.Test.YtbcbfeeidmggpaaM
set_option linter.unusedVariables false
set_option linter.unusedSimpArgs false

namespace Go.Pv
open Go.Sort Go.RowKit
def sortL (xs : List Int) : List Int := xs.mergeSort fun x y => decide (x ≤ y)
theorem sortL_len (xs : List Int) : (sortL xs).length = xs.length := List.length_mergeSort xs
section
variable {P : Program} {ol : List Oper} {Q : Exit → Act → World → Prop} {rest : List Oper} {l : St} {w : World}
theorem W_callR {d : Nat} {f : FuncId} {xs : List Operand} {vs : List Value} {tys : Array TypeId} {T : TypeId} {pos : String} {af : Array Edge} {φ : Value → World → Prop} [Fun P f]
    (hc : Calls P f vs.toArray w fun e w' => ∃ v, e = .returned v ∧ φ v w') (hx : evs l xs = vs)
    (k : ∀ v w', φ v w' → W P ol Q rest (upd l d v) w') :
    W P ol Q (⟨some d, .call { callee := .value (.func f), args := xs.toArray, argTypes := tys }, T, pos, af, none⟩ :: rest) l w := by
  unfold W
  refine wpList_plain rfl fun K hK => ?_
  have hrun : (execOp (ev l) ⟨some d, .call { callee := .value (.func f), args := xs.toArray, argTypes := tys }, T, pos, af, none⟩).run P w = .ok (.enter f vs.toArray) w := by
    have := run_call (P := P) (f := f) (vs := vs) (w := w) (first := #[]) (captured := #[])
    simp only [execOp, resolve, List.map_toArray, map_evs, hx, ev]
    simpa using this
  simp only [Oper.wp, eval_act, hrun, Oper.upon_enter]
  refine Calls.mono hc ?_
  rintro e w' ⟨v, rfl, h1⟩
  show K ((act l).put (some d) v) w'
  rw [put_act]
  have hk := k v w' h1
  unfold W at hk
  exact hK _ _ hk
end
theorem sorted_own {P : Program} {f : FuncId} {E : TypeId} {base : Nat} {w : World} {v : Value} {xs : List Int}
    (hC : ∀ (blk off cap : Nat) (zs : List Int) (w : World), Holds (Value.int .i64) w blk off zs.toArray → blk < w.heap.size → zs.length < 4611686018427387904 →
      Calls P f #[.slice (some ⟨blk, off, none⟩) zs.length cap] w fun e w' => e = .returned (.tuple #[]) ∧ ∃ n os, w' = grow (putRow (Value.int .i64) (Sort.ahead w n) blk off (zs.mergeSort fun x y => decide (x ≤ y)).toArray) os)
    (hN : ∀ (p : Option Addr) (cap : Nat) (w : World), Calls P f #[.slice p 0 cap] w fun e w' => e = .returned (.tuple #[]) ∧ w' = w) (hlen : xs.length ≤ 1000000) (h : Own E base w v xs) :
    Calls P f [v].toArray w fun r w' => ∃ u, r = .returned u ∧ Own E base w' v (sortL xs) ∧ w.grownBy w' v.ownBlock := by
  unfold Own at h
  obtain ⟨h0, h1, h2⟩ := h
  rcases h2 with ⟨hv, he⟩ | ⟨g, cap, cur, rfl, hb, hg, h3, h4, h5, h6⟩
  · have e : xs = [] := List.length_eq_zero_iff.1 he
    subst e
    subst hv
    refine Calls.mono (hN none 0 w) ?_
    rintro r w' ⟨rfl, rfl⟩
    exact ⟨_, rfl, (by rw [show sortL [] = [] from by simp [sortL]]; exact Own.nil _ _ _), (Ex.refl w').grownBy⟩
  · have hsz : g < w.heap.size := (Array.getElem?_eq_some_iff.1 hg).1
    rw [Nat.mul_one] at h6
    refine Calls.mono (hC g 0 cap xs w (holds_of_blockI hg h6) hsz (by omega)) ?_
    rintro r w' ⟨rfl, n, os, rfl⟩
    refine ⟨_, rfl, ?_, grownBy_sortedI _⟩
    unfold Own
    have el := sortL_len xs
    have := ownsRow_sortedI (w := w) (n := n) (os := os) (base := base) (ss := xs) (ts := sortL xs) el hb hg h3 h4 h5
    rw [el]
    exact ⟨h0, this⟩
/-- The shortest of lists that a function makes of the first k elements. -/
def bestTo (F : Int → List Int) (es : List Int) : Nat → List Int
  | 0 => []
  | k + 1 => if k = 0 ∨ (F (es.getD k 0)).length < (bestTo F es k).length then F (es.getD k 0) else bestTo F es k
theorem bestTo_yes {F : Int → List Int} {es : List Int} {k : Nat} (h : (k : Int) = 0 ∨ ((F (es.getD k 0)).length : Int) < ((bestTo F es k).length : Int)) : bestTo F es (k + 1) = F (es.getD k 0) := by
  simp only [bestTo]; rw [if_pos (by omega)]
theorem bestTo_no {F : Int → List Int} {es : List Int} {k : Nat} (h1 : ¬ (k : Int) = 0) (h : ¬ ((F (es.getD k 0)).length : Int) < ((bestTo F es k).length : Int)) : bestTo F es (k + 1) = bestTo F es k := by
  simp only [bestTo]; rw [if_neg (by omega)]
/-- The sorted chain of an arc. -/
def chainS (xs : List (Int × Int)) (s : Int) (e : Int) : List Int := sortL ((chainOf xs s e.toNat).getD [])
/-- The error of Clash. -/
def clErr (off : Int) (xss : List (List Int)) (c s : Int) : Int := if askErr off xss c s ≠ 0 then askErr off xss c s else if offL off s (xss.getD c.toNat []) ≠ [] then 8 else 0
theorem chainF_len {xs : List (Int × Int)} {s st exc g : Int} : ∀ {m : Nat} {l l' : List Int} {reach : Int}, chainF xs s st exc g m l reach = some l' → l'.length ≤ l.length + m
  | 0, l, l', reach, h => by
    simp only [chainF] at h
    split at h
    · cases h
    · simp at h; subst h; omega
  | m + 1, l, l', reach, h => by
    simp only [chainF] at h
    split at h
    · have := chainF_len h
      simp at this
      omega
    · simp at h; subst h; omega
theorem chainOf_len {xs : List (Int × Int)} {s : Int} {g : Nat} {l' : List Int} (h : chainOf xs s g = some l') : l'.length ≤ 1001 := by
  have := chainF_len h
  simp at this
  omega
end Go.Pv
namespace Go.Proofs.Ytbcbfeeidmggpaa
open Go.Pv Go.RowKit Go.Shelf
set_option maxHeartbeats 8000000
set_option linter.unusedVariables false
set_option linter.unusedSimpArgs false

theorem distTo_in (xs : List (Int × Int)) : ∀ (k : Nat) (j : Nat), j < (distTo xs k).length → ∃ i : Nat, i < k ∧ (distTo xs k).getD j 0 = (i : Int)
  | 0, j, h => by simp [distTo] at h
  | k + 1, j, h => by
    simp only [distTo] at h ⊢
    split at h
    · rename_i h1
      rw [if_pos h1]
      rcases Nat.lt_or_ge j (distTo xs k).length with h2 | h2
      · obtain ⟨i, h3, h4⟩ := distTo_in xs k j h2
        refine ⟨i, by omega, ?_⟩
        rw [← h4]; simp [List.getElem?_append, h2]
      · refine ⟨k, by omega, ?_⟩
        have : j = (distTo xs k).length := by simp at h; omega
        subst this; simp
    · rename_i h1
      rw [if_neg h1]
      obtain ⟨i, h3, h4⟩ := distTo_in xs k j h
      exact ⟨i, by omega, h4⟩
/-- The clash of a ring. -/
def clashL (xs : List (Int × Int)) (s : Int) : List Int := bestTo (chainS xs s) (distTo xs xs.length) (distTo xs xs.length).length
theorem clash1_any (s : Int) (v : Value) (xs : List (Int × Int)) (g b : Nat) (w : World) (l' : List Int) (hbx : Bx w b [.int .i64 s, v] 65) (h : Prs w v xs) (hlen : xs.length ≤ 1000) (hg : g < xs.length) (hs : 1 ≤ s ∧ s ≤ 1000000)
    (hb : ∀ j, j < xs.length → 0 ≤ (xs.getD j (0, 0)).1 ∧ (xs.getD j (0, 0)).1 ≤ 1000000 ∧ 0 ≤ (xs.getD j (0, 0)).2 ∧ (xs.getD j (0, 0)).2 ≤ 1000000) (hc : chainOf xs s g = some l') :
    Ret Try.prog 46 [.int .i64 (g : Int), .pointer (some ⟨b, 0, none⟩)] w fun r w' => Pv.Own 3 w.heap.size w' r (sortL l') := by
  have hv1 := h.one
  have hll := chainOf_len hc
  refine ret_of_c Try.func46 rfl Try.ntmps46 (Nat.le_of_ble_eq_true rfl) (by dsimp only [ini, Nat.reduceAdd] <;> exact rfl) ?_
  repeat' (first
      | ((first | ((with_reducible apply W_op); exact rfl; exact rfl)); (first | ((with_reducible apply r_move); ((conv => lhs; whnf) <;> exact rfl)) | ((with_reducible apply r_assign); ((conv => lhs; whnf) <;> exact rfl)) | ((with_reducible apply r_load); exact rfl; exact rfl; (first | assumption | exact (Bx.cell (by repeat (first | assumption | ((with_reducible apply Bx.grownS); assumption; (first | omega | exact Nat.ne_of_lt (Nat.lt_of_lt_of_le (Bx.lt (by assumption)) (by omega)))) | ((with_reducible apply Bx.below); assumption; omega) | ((with_reducible apply OwnP.grownS); assumption; omega) | ((with_reducible apply Own.grownS); assumption; omega) | ((with_reducible apply OwnV.grownS); assumption; omega) | ((with_reducible apply OwnV.ex); assumption) | ((with_reducible apply Vals.ex); assumption) | ((with_reducible apply Bx.ex); assumption) | ((with_reducible apply IntsK.ex); assumption) | ((with_reducible apply Intss.ex); assumption) | ((with_reducible apply Own.ex); assumption) | ((with_reducible apply Prs.ex); assumption) | ((with_reducible apply OwnP.ex); assumption))) _).trans rfl | exact Ex.cell (by assumption) (by assumption))) | ((with_reducible apply r_loadF); exact rfl; (first | assumption | exact (Bx.cell (by repeat (first | assumption | ((with_reducible apply Bx.grownS); assumption; (first | omega | exact Nat.ne_of_lt (Nat.lt_of_lt_of_le (Bx.lt (by assumption)) (by omega)))) | ((with_reducible apply Bx.below); assumption; omega) | ((with_reducible apply OwnP.grownS); assumption; omega) | ((with_reducible apply Own.grownS); assumption; omega) | ((with_reducible apply OwnV.grownS); assumption; omega) | ((with_reducible apply OwnV.ex); assumption) | ((with_reducible apply Vals.ex); assumption) | ((with_reducible apply Bx.ex); assumption) | ((with_reducible apply IntsK.ex); assumption) | ((with_reducible apply Intss.ex); assumption) | ((with_reducible apply Own.ex); assumption) | ((with_reducible apply Prs.ex); assumption) | ((with_reducible apply OwnP.ex); assumption))) _).trans rfl | exact Ex.cell (by assumption) (by assumption))) | ((with_reducible apply r_loadA); exact rfl; (first | assumption | exact Bx.cells (by repeat (first | assumption | ((with_reducible apply Bx.grownS); assumption; (first | omega | exact Nat.ne_of_lt (Nat.lt_of_lt_of_le (Bx.lt (by assumption)) (by omega)))) | ((with_reducible apply Bx.below); assumption; omega) | ((with_reducible apply OwnP.grownS); assumption; omega) | ((with_reducible apply Own.grownS); assumption; omega) | ((with_reducible apply OwnV.grownS); assumption; omega) | ((with_reducible apply OwnV.ex); assumption) | ((with_reducible apply Vals.ex); assumption) | ((with_reducible apply Bx.ex); assumption) | ((with_reducible apply IntsK.ex); assumption) | ((with_reducible apply Intss.ex); assumption) | ((with_reducible apply Own.ex); assumption) | ((with_reducible apply Prs.ex); assumption) | ((with_reducible apply OwnP.ex); assumption))) | exact Cells.ex (by assumption) (by assumption)); exact rfl)))
      | (refine W_call (chain_any s v xs g _ l' (by repeat (first | assumption | ((with_reducible apply Bx.grownS); assumption; (first | omega | exact Nat.ne_of_lt (Nat.lt_of_lt_of_le (Bx.lt (by assumption)) (by omega)))) | ((with_reducible apply Bx.below); assumption; omega) | ((with_reducible apply OwnP.grownS); assumption; omega) | ((with_reducible apply Own.grownS); assumption; omega) | ((with_reducible apply OwnV.grownS); assumption; omega) | ((with_reducible apply OwnV.ex); assumption) | ((with_reducible apply Vals.ex); assumption) | ((with_reducible apply Bx.ex); assumption) | ((with_reducible apply IntsK.ex); assumption) | ((with_reducible apply Intss.ex); assumption) | ((with_reducible apply Own.ex); assumption) | ((with_reducible apply Prs.ex); assumption) | ((with_reducible apply OwnP.ex); assumption))) hlen hg hs hb hc) rfl ?_; rintro vq wq hown he; have hsz := he.size)
      | (refine W_callR (sorted_own Try.slices_Sort_int Try.slices_Sort_int_none (by omega) hown) rfl ?_; rintro uq wq ⟨hown2, hgo⟩; have he : Ex w wq := Ex.of_grown (by assumption) hgo (by intro k hk; have := hown.block k hk; omega))
      | (with_reducible apply W_nil)
      | (with_reducible apply c_seq)
      | (with_reducible apply c_region)
      | (with_reducible apply c_skip)
      | (with_reducible apply c_ret)
      | (with_reducible apply n_then)
      | (with_reducible apply e_then)
      | (with_reducible apply r_then)
      | ((with_reducible apply p_ret1); exact rfl; ((conv => lhs; whnf) <;> exact rfl); refine ⟨_, rfl, ?_, (by repeat (first | assumption | exact Ex.refl _ | (refine Ex.trans ?_ (by assumption)) | (refine Ex.of_grown ?_ (by assumption) (by intro k hk; cases hk; omega))))⟩)
      | ((with_reducible apply q_ret1); exact rfl; ((conv => lhs; whnf) <;> exact rfl); refine ⟨_, rfl, ?_, (by repeat (first | assumption | exact Ex.refl _ | (refine Ex.trans ?_ (by assumption)) | (refine Ex.of_grown ?_ (by assumption) (by intro k hk; cases hk; omega))))⟩)
      | ((exfalso; omega)))
  exact Pv.Own.mono hown2 (by omega)
theorem shortest_any (ev : Value) (es : List Int) (b : Nat) (F : Int → List Int) (w : World) (h : Ints w ev es)
    (hF : ∀ j, j < es.length → ∀ w', Ex w w' → Ret Try.prog 46 [.int .i64 (es.getD j 0), .pointer (some ⟨b, 0, none⟩)] w' fun r w'' => Pv.Own 3 w'.heap.size w'' r (F (es.getD j 0))) :
    Ret Try.prog 44 [ev, .func (.func 46) #[] #[.pointer (some ⟨b, 0, none⟩)]] w fun r w' => Pv.Own 3 w.heap.size w' r (bestTo F es es.length) := by
  have hl := h.len
  have hv1 := h.one
  refine ret_of_c Try.func44 rfl Try.ntmps44 (Nat.le_of_ble_eq_true rfl) (by dsimp only [ini, Nat.reduceAdd] <;> exact rfl) ?_
  repeat' (first
      | ((first | ((with_reducible apply W_op); exact rfl; exact rfl)); (first | ((with_reducible apply r_move); ((conv => lhs; whnf) <;> exact rfl)) | ((with_reducible apply r_assign); ((conv => lhs; whnf) <;> exact rfl)) | ((with_reducible apply r_load); exact rfl; exact rfl; (first | assumption | exact (Bx.cell (by repeat (first | assumption | ((with_reducible apply Bx.grownS); assumption; (first | omega | exact Nat.ne_of_lt (Nat.lt_of_lt_of_le (Bx.lt (by assumption)) (by omega)))) | ((with_reducible apply Bx.below); assumption; omega) | ((with_reducible apply OwnP.grownS); assumption; omega) | ((with_reducible apply Own.grownS); assumption; omega) | ((with_reducible apply OwnV.grownS); assumption; omega) | ((with_reducible apply OwnV.ex); assumption) | ((with_reducible apply Vals.ex); assumption) | ((with_reducible apply Bx.ex); assumption) | ((with_reducible apply IntsK.ex); assumption) | ((with_reducible apply Intss.ex); assumption) | ((with_reducible apply Own.ex); assumption) | ((with_reducible apply Prs.ex); assumption) | ((with_reducible apply OwnP.ex); assumption))) _).trans rfl | exact Ex.cell (by assumption) (by assumption))) | ((with_reducible apply r_loadF); exact rfl; (first | assumption | exact (Bx.cell (by repeat (first | assumption | ((with_reducible apply Bx.grownS); assumption; (first | omega | exact Nat.ne_of_lt (Nat.lt_of_lt_of_le (Bx.lt (by assumption)) (by omega)))) | ((with_reducible apply Bx.below); assumption; omega) | ((with_reducible apply OwnP.grownS); assumption; omega) | ((with_reducible apply Own.grownS); assumption; omega) | ((with_reducible apply OwnV.grownS); assumption; omega) | ((with_reducible apply OwnV.ex); assumption) | ((with_reducible apply Vals.ex); assumption) | ((with_reducible apply Bx.ex); assumption) | ((with_reducible apply IntsK.ex); assumption) | ((with_reducible apply Intss.ex); assumption) | ((with_reducible apply Own.ex); assumption) | ((with_reducible apply Prs.ex); assumption) | ((with_reducible apply OwnP.ex); assumption))) _).trans rfl | exact Ex.cell (by assumption) (by assumption))) | ((with_reducible apply r_loadA); exact rfl; (first | assumption | exact Bx.cells (by repeat (first | assumption | ((with_reducible apply Bx.grownS); assumption; (first | omega | exact Nat.ne_of_lt (Nat.lt_of_lt_of_le (Bx.lt (by assumption)) (by omega)))) | ((with_reducible apply Bx.below); assumption; omega) | ((with_reducible apply OwnP.grownS); assumption; omega) | ((with_reducible apply Own.grownS); assumption; omega) | ((with_reducible apply OwnV.grownS); assumption; omega) | ((with_reducible apply OwnV.ex); assumption) | ((with_reducible apply Vals.ex); assumption) | ((with_reducible apply Bx.ex); assumption) | ((with_reducible apply IntsK.ex); assumption) | ((with_reducible apply Intss.ex); assumption) | ((with_reducible apply Own.ex); assumption) | ((with_reducible apply Prs.ex); assumption) | ((with_reducible apply OwnP.ex); assumption))) | exact Cells.ex (by assumption) (by assumption)); exact rfl) | ((with_reducible apply r_lss); exact rfl; exact rfl) | ((with_reducible apply r_eql); exact rfl; exact rfl) | ((with_reducible apply r_add); exact rfl; exact rfl; omega) | ((with_reducible apply r_len); exact rfl) | ((with_reducible apply r_lenStr); exact rfl) | ((with_reducible apply r_lenInts); ((conv => lhs; whnf) <;> exact rfl); (focus ((repeat (first | assumption | ((with_reducible apply Bx.grownS); assumption; (first | omega | exact Nat.ne_of_lt (Nat.lt_of_lt_of_le (Bx.lt (by assumption)) (by omega)))) | ((with_reducible apply Bx.below); assumption; omega) | ((with_reducible apply OwnP.grownS); assumption; omega) | ((with_reducible apply Own.grownS); assumption; omega) | ((with_reducible apply OwnV.grownS); assumption; omega) | ((with_reducible apply OwnV.ex); assumption) | ((with_reducible apply Vals.ex); assumption) | ((with_reducible apply Bx.ex); assumption) | ((with_reducible apply IntsK.ex); assumption) | ((with_reducible apply Intss.ex); assumption) | ((with_reducible apply Own.ex); assumption) | ((with_reducible apply Prs.ex); assumption) | ((with_reducible apply OwnP.ex); assumption))); done))) | ((with_reducible apply r_lenIntss); ((conv => lhs; whnf) <;> exact rfl); (focus ((repeat (first | assumption | ((with_reducible apply Bx.grownS); assumption; (first | omega | exact Nat.ne_of_lt (Nat.lt_of_lt_of_le (Bx.lt (by assumption)) (by omega)))) | ((with_reducible apply Bx.below); assumption; omega) | ((with_reducible apply OwnP.grownS); assumption; omega) | ((with_reducible apply Own.grownS); assumption; omega) | ((with_reducible apply OwnV.grownS); assumption; omega) | ((with_reducible apply OwnV.ex); assumption) | ((with_reducible apply Vals.ex); assumption) | ((with_reducible apply Bx.ex); assumption) | ((with_reducible apply IntsK.ex); assumption) | ((with_reducible apply Intss.ex); assumption) | ((with_reducible apply Own.ex); assumption) | ((with_reducible apply Prs.ex); assumption) | ((with_reducible apply OwnP.ex); assumption))); done))) | ((with_reducible apply r_lenPrs); ((conv => lhs; whnf) <;> exact rfl); (focus ((repeat (first | assumption | ((with_reducible apply Bx.grownS); assumption; (first | omega | exact Nat.ne_of_lt (Nat.lt_of_lt_of_le (Bx.lt (by assumption)) (by omega)))) | ((with_reducible apply Bx.below); assumption; omega) | ((with_reducible apply OwnP.grownS); assumption; omega) | ((with_reducible apply Own.grownS); assumption; omega) | ((with_reducible apply OwnV.grownS); assumption; omega) | ((with_reducible apply OwnV.ex); assumption) | ((with_reducible apply Vals.ex); assumption) | ((with_reducible apply Bx.ex); assumption) | ((with_reducible apply IntsK.ex); assumption) | ((with_reducible apply Intss.ex); assumption) | ((with_reducible apply Own.ex); assumption) | ((with_reducible apply Prs.ex); assumption) | ((with_reducible apply OwnP.ex); assumption))); done))) | ((with_reducible apply r_pick_true); exact rfl; ((conv => lhs; whnf) <;> exact rfl)) | ((with_reducible apply r_pick_false); exact rfl; ((conv => lhs; whnf) <;> exact rfl)) | ((with_reducible apply r_eqlb); exact rfl; exact rfl) | ((with_reducible apply r_lenVals); ((conv => lhs; whnf) <;> exact rfl); (focus ((repeat (first | assumption | ((with_reducible apply Bx.grownS); assumption; (first | omega | exact Nat.ne_of_lt (Nat.lt_of_lt_of_le (Bx.lt (by assumption)) (by omega)))) | ((with_reducible apply Bx.below); assumption; omega) | ((with_reducible apply OwnP.grownS); assumption; omega) | ((with_reducible apply Own.grownS); assumption; omega) | ((with_reducible apply OwnV.grownS); assumption; omega) | ((with_reducible apply OwnV.ex); assumption) | ((with_reducible apply Vals.ex); assumption) | ((with_reducible apply Bx.ex); assumption) | ((with_reducible apply IntsK.ex); assumption) | ((with_reducible apply Intss.ex); assumption) | ((with_reducible apply Own.ex); assumption) | ((with_reducible apply Prs.ex); assumption) | ((with_reducible apply OwnP.ex); assumption))); done)))))
      | (refine W_callf (first := []) (captured := [.pointer (some ⟨b, 0, none⟩)]) rfl (hF k (by omega) _ (by repeat (first | assumption | exact Ex.refl _ | (refine Ex.trans ?_ (by assumption)) | (refine Ex.of_grown ?_ (by assumption) (by intro k hk; cases hk; omega))))) rfl ?_; rintro vq wq hown2 he; have hsz := he.size; have hin2 := Pv.Own.ints hown2; have hin1 := Pv.Own.ints (Pv.Own.ex he hown); have hl1 := hin1.len; have hl2 := hin2.len)
      | (refine c_loopG (fun (k : Nat) ps wr => ∃ r : Value, ∃ i : Int, ps = [(1, .func (.func 46) #[] #[.pointer (some ⟨b, 0, none⟩)]), (5, r), (9, ev), (10, .int .i64 es.length), (11, .int .i64 i)] ∧ i = k ∧ k ≤ es.length ∧ Pv.Own 3 w.heap.size wr r (bestTo F es k) ∧ Ex w wr) (fun k => es.length - k) 0 _ ⟨_, _, rfl, rfl, Nat.zero_le _, Pv.Own.nil _ _ _, (by repeat (first | assumption | exact Ex.refl _ | (refine Ex.trans ?_ (by assumption)) | (refine Ex.of_grown ?_ (by assumption) (by intro k hk; cases hk; omega))))⟩ ⟨rfl, rfl, rfl, rfl, rfl, trivial⟩ (by ((conv => lhs; whnf) <;> exact rfl)) ?_; rintro J hJ k u ps wr ⟨r, i, rfl, rfl, hk, hown, he⟩; have hsz := he.size)
      | (refine n_roundG (k + 1) (hJ _ _ _ _ ⟨_, _, rfl, by omega, by omega, (by rw [bestTo_yes (by omega)]; exact Pv.Own.mono (by repeat (first | assumption | ((with_reducible apply Bx.grownS); assumption; (first | omega | exact Nat.ne_of_lt (Nat.lt_of_lt_of_le (Bx.lt (by assumption)) (by omega)))) | ((with_reducible apply Bx.below); assumption; omega) | ((with_reducible apply OwnP.grownS); assumption; omega) | ((with_reducible apply Own.grownS); assumption; omega) | ((with_reducible apply OwnV.grownS); assumption; omega) | ((with_reducible apply OwnV.ex); assumption) | ((with_reducible apply Vals.ex); assumption) | ((with_reducible apply Bx.ex); assumption) | ((with_reducible apply IntsK.ex); assumption) | ((with_reducible apply Intss.ex); assumption) | ((with_reducible apply Own.ex); assumption) | ((with_reducible apply Prs.ex); assumption) | ((with_reducible apply OwnP.ex); assumption))) (by omega)), (by repeat (first | assumption | exact Ex.refl _ | (refine Ex.trans ?_ (by assumption)) | (refine Ex.of_grown ?_ (by assumption) (by intro k hk; cases hk; omega))))⟩ ⟨rfl, rfl, rfl, rfl, rfl, trivial⟩ rfl) (by omega))
      | (refine n_roundG (k + 1) (hJ _ _ _ _ ⟨_, _, rfl, by omega, by omega, (by rw [bestTo_no (by omega) (by omega)]; exact (by repeat (first | assumption | ((with_reducible apply Bx.grownS); assumption; (first | omega | exact Nat.ne_of_lt (Nat.lt_of_lt_of_le (Bx.lt (by assumption)) (by omega)))) | ((with_reducible apply Bx.below); assumption; omega) | ((with_reducible apply OwnP.grownS); assumption; omega) | ((with_reducible apply Own.grownS); assumption; omega) | ((with_reducible apply OwnV.grownS); assumption; omega) | ((with_reducible apply OwnV.ex); assumption) | ((with_reducible apply Vals.ex); assumption) | ((with_reducible apply Bx.ex); assumption) | ((with_reducible apply IntsK.ex); assumption) | ((with_reducible apply Intss.ex); assumption) | ((with_reducible apply Own.ex); assumption) | ((with_reducible apply Prs.ex); assumption) | ((with_reducible apply OwnP.ex); assumption)))), (by repeat (first | assumption | exact Ex.refl _ | (refine Ex.trans ?_ (by assumption)) | (refine Ex.of_grown ?_ (by assumption) (by intro k hk; cases hk; omega))))⟩ ⟨rfl, rfl, rfl, rfl, rfl, trivial⟩ rfl) (by omega))
      | (with_reducible apply W_nil)
      | ((with_reducible apply W_indexInt); ((conv => lhs; whnf) <;> exact rfl); (focus ((repeat (first | assumption | ((with_reducible apply Bx.grownS); assumption; (first | omega | exact Nat.ne_of_lt (Nat.lt_of_lt_of_le (Bx.lt (by assumption)) (by omega)))) | ((with_reducible apply Bx.below); assumption; omega) | ((with_reducible apply OwnP.grownS); assumption; omega) | ((with_reducible apply Own.grownS); assumption; omega) | ((with_reducible apply OwnV.grownS); assumption; omega) | ((with_reducible apply OwnV.ex); assumption) | ((with_reducible apply Vals.ex); assumption) | ((with_reducible apply Bx.ex); assumption) | ((with_reducible apply IntsK.ex); assumption) | ((with_reducible apply Intss.ex); assumption) | ((with_reducible apply Own.ex); assumption) | ((with_reducible apply Prs.ex); assumption) | ((with_reducible apply OwnP.ex); assumption))); done)); exact rfl; omega; intro pq hpq)
      | ((with_reducible apply W_indexIntss); ((conv => lhs; whnf) <;> exact rfl); assumption; (focus ((repeat (first | assumption | exact Ex.refl _ | (refine Ex.trans ?_ (by assumption)) | (refine Ex.of_grown ?_ (by assumption) (by intro k hk; cases hk; omega)))); done)); exact rfl; omega; intro pq uq hpq huq)
      | ((with_reducible apply W_indexPr); ((conv => lhs; whnf) <;> exact rfl); (focus ((repeat (first | assumption | ((with_reducible apply Bx.grownS); assumption; (first | omega | exact Nat.ne_of_lt (Nat.lt_of_lt_of_le (Bx.lt (by assumption)) (by omega)))) | ((with_reducible apply Bx.below); assumption; omega) | ((with_reducible apply OwnP.grownS); assumption; omega) | ((with_reducible apply Own.grownS); assumption; omega) | ((with_reducible apply OwnV.grownS); assumption; omega) | ((with_reducible apply OwnV.ex); assumption) | ((with_reducible apply Vals.ex); assumption) | ((with_reducible apply Bx.ex); assumption) | ((with_reducible apply IntsK.ex); assumption) | ((with_reducible apply Intss.ex); assumption) | ((with_reducible apply Own.ex); assumption) | ((with_reducible apply Prs.ex); assumption) | ((with_reducible apply OwnP.ex); assumption))); done)); exact rfl; omega; intro pq hpq)
      | ((with_reducible apply W_indexVals); ((conv => lhs; whnf) <;> exact rfl); (focus ((repeat (first | assumption | ((with_reducible apply Bx.grownS); assumption; (first | omega | exact Nat.ne_of_lt (Nat.lt_of_lt_of_le (Bx.lt (by assumption)) (by omega)))) | ((with_reducible apply Bx.below); assumption; omega) | ((with_reducible apply OwnP.grownS); assumption; omega) | ((with_reducible apply Own.grownS); assumption; omega) | ((with_reducible apply OwnV.grownS); assumption; omega) | ((with_reducible apply OwnV.ex); assumption) | ((with_reducible apply Vals.ex); assumption) | ((with_reducible apply Bx.ex); assumption) | ((with_reducible apply IntsK.ex); assumption) | ((with_reducible apply Intss.ex); assumption) | ((with_reducible apply Own.ex); assumption) | ((with_reducible apply Prs.ex); assumption) | ((with_reducible apply OwnP.ex); assumption))); done)); exact rfl; omega; intro pq hpq)
      | ((with_reducible apply W_pass); exact rfl; exact rfl; exact rfl; exact rfl; exact rfl)
      | ((with_reducible apply W_take); exact rfl; exact rfl; exact rfl)
      | ((with_reducible apply W_passU); exact rfl; exact rfl; exact rfl; exact rfl)
      | ((with_reducible apply W_split); exact rfl; exact rfl; intro _; rotate_left 1; intro _)
      | (with_reducible apply c_seq)
      | (with_reducible apply c_region)
      | (with_reducible apply c_block)
      | (with_reducible apply c_skip)
      | (with_reducible apply c_ret)
      | (with_reducible apply c_exit)
      | ((with_reducible apply c_cond_true); exact rfl)
      | ((with_reducible apply c_cond_false); exact rfl)
      | ((with_reducible apply c_cond_dec); exact rfl; intro _; rotate_left 1; intro _)
      | ((with_reducible apply c_cond_bool); exact rfl; intro _; rotate_left 1; intro _)
      | (with_reducible apply n_then)
      | (with_reducible apply n_block)
      | (with_reducible apply e_then)
      | (with_reducible apply e_block)
      | (with_reducible apply r_then)
      | (with_reducible apply r_block)
      | ((with_reducible apply e_block'); decide)
      | ((with_reducible apply p_ret1); exact rfl; ((conv => lhs; whnf) <;> exact rfl); refine ⟨_, rfl, ?_, (by repeat (first | assumption | exact Ex.refl _ | (refine Ex.trans ?_ (by assumption)) | (refine Ex.of_grown ?_ (by assumption) (by intro k hk; cases hk; omega))))⟩)
      | ((with_reducible apply q_ret1); exact rfl; ((conv => lhs; whnf) <;> exact rfl); refine ⟨_, rfl, ?_, (by repeat (first | assumption | exact Ex.refl _ | (refine Ex.trans ?_ (by assumption)) | (refine Ex.of_grown ?_ (by assumption) (by intro k hk; cases hk; omega))))⟩)
      | ((exfalso; omega)))
  rw [show k = es.length by omega] at hown
  exact hown
theorem chainS_ret (s : Int) (v : Value) (xs : List (Int × Int)) (b : Nat) (w0 w : World) (hw : Ex w0 w) (hbx : Bx w0 b [.int .i64 s, v] 65) (h : Prs w0 v xs) (hlen : xs.length ≤ 1000) (hs : 1 ≤ s ∧ s ≤ 1000000)
    (hb : ∀ j, j < xs.length → 0 ≤ (xs.getD j (0, 0)).1 ∧ (xs.getD j (0, 0)).1 ≤ 1000000 ∧ 0 ≤ (xs.getD j (0, 0)).2 ∧ (xs.getD j (0, 0)).2 ≤ 1000000) (hc : ∀ j, j < xs.length → ∃ l, chainOf xs s j = some l) (j : Nat) (hj : j < (distTo xs xs.length).length) :
    Ret Try.prog 46 [.int .i64 ((distTo xs xs.length).getD j 0), .pointer (some ⟨b, 0, none⟩)] w fun r w' => Pv.Own 3 w.heap.size w' r (chainS xs s ((distTo xs xs.length).getD j 0)) := by
  obtain ⟨i, hi, e⟩ := distTo_in xs _ j hj
  obtain ⟨l2, hl2⟩ := hc i hi
  have e2 : chainS xs s (i : Int) = sortL l2 := by unfold chainS; rw [Int.toNat_natCast, hl2]; rfl
  rw [e, e2]
  exact clash1_any s v xs i b w l2 (Bx.ex hw hbx) (Prs.ex hw h) hlen hi hs hb hl2
theorem clash_any (s : Int) (v : Value) (xs : List (Int × Int)) (w : World) (h : Prs w v xs) (hlen : xs.length ≤ 1000) (hs : 1 ≤ s ∧ s ≤ 1000000)
    (hb : ∀ j, j < xs.length → 0 ≤ (xs.getD j (0, 0)).1 ∧ (xs.getD j (0, 0)).1 ≤ 1000000 ∧ 0 ≤ (xs.getD j (0, 0)).2 ∧ (xs.getD j (0, 0)).2 ≤ 1000000) (hc : ∀ j, j < xs.length → ∃ l, chainOf xs s j = some l) :
    Ret Try.prog 29 [.agg #[.int .i64 s, v]] w fun r w' => Pv.Own 3 w.heap.size w' r (clashL xs s) := by
  have hv1 := h.one
  refine ret_of_c Try.func29 rfl Try.ntmps29 (Nat.le_of_ble_eq_true rfl) (by dsimp only [ini, Nat.reduceAdd] <;> exact rfl) ?_
  repeat' (first
      | ((first | ((with_reducible apply W_op); exact rfl; exact rfl)); (first | ((with_reducible apply r_assign); ((conv => lhs; whnf) <;> exact rfl)) | ((with_reducible apply r_load); exact rfl; exact rfl; (first | assumption | exact (Bx.cell (by repeat (first | assumption | ((with_reducible apply Bx.grownS); assumption; (first | omega | exact Nat.ne_of_lt (Nat.lt_of_lt_of_le (Bx.lt (by assumption)) (by omega)))) | ((with_reducible apply Bx.below); assumption; omega) | ((with_reducible apply OwnP.grownS); assumption; omega) | ((with_reducible apply Own.grownS); assumption; omega) | ((with_reducible apply OwnV.grownS); assumption; omega) | ((with_reducible apply OwnV.ex); assumption) | ((with_reducible apply Vals.ex); assumption) | ((with_reducible apply Bx.ex); assumption) | ((with_reducible apply IntsK.ex); assumption) | ((with_reducible apply Intss.ex); assumption) | ((with_reducible apply Own.ex); assumption) | ((with_reducible apply Prs.ex); assumption) | ((with_reducible apply OwnP.ex); assumption))) _).trans rfl | exact Ex.cell (by assumption) (by assumption))) | ((with_reducible apply r_loadF); exact rfl; (first | assumption | exact (Bx.cell (by repeat (first | assumption | ((with_reducible apply Bx.grownS); assumption; (first | omega | exact Nat.ne_of_lt (Nat.lt_of_lt_of_le (Bx.lt (by assumption)) (by omega)))) | ((with_reducible apply Bx.below); assumption; omega) | ((with_reducible apply OwnP.grownS); assumption; omega) | ((with_reducible apply Own.grownS); assumption; omega) | ((with_reducible apply OwnV.grownS); assumption; omega) | ((with_reducible apply OwnV.ex); assumption) | ((with_reducible apply Vals.ex); assumption) | ((with_reducible apply Bx.ex); assumption) | ((with_reducible apply IntsK.ex); assumption) | ((with_reducible apply Intss.ex); assumption) | ((with_reducible apply Own.ex); assumption) | ((with_reducible apply Prs.ex); assumption) | ((with_reducible apply OwnP.ex); assumption))) _).trans rfl | exact Ex.cell (by assumption) (by assumption))) | ((with_reducible apply r_loadA); exact rfl; (first | assumption | exact Bx.cells (by repeat (first | assumption | ((with_reducible apply Bx.grownS); assumption; (first | omega | exact Nat.ne_of_lt (Nat.lt_of_lt_of_le (Bx.lt (by assumption)) (by omega)))) | ((with_reducible apply Bx.below); assumption; omega) | ((with_reducible apply OwnP.grownS); assumption; omega) | ((with_reducible apply Own.grownS); assumption; omega) | ((with_reducible apply OwnV.grownS); assumption; omega) | ((with_reducible apply OwnV.ex); assumption) | ((with_reducible apply Vals.ex); assumption) | ((with_reducible apply Bx.ex); assumption) | ((with_reducible apply IntsK.ex); assumption) | ((with_reducible apply Intss.ex); assumption) | ((with_reducible apply Own.ex); assumption) | ((with_reducible apply Prs.ex); assumption) | ((with_reducible apply OwnP.ex); assumption))) | exact Cells.ex (by assumption) (by assumption)); exact rfl) | ((with_reducible apply r_mf1); ((conv => lhs; whnf) <;> exact rfl)) | ((with_reducible apply r_mfc); ((conv => lhs; whnf) <;> exact rfl)) | ((with_reducible apply r_makeFunc); exact rfl; exact rfl)))
      | (refine W_call (distinct_any s v xs _ (by repeat (first | assumption | ((with_reducible apply Bx.grownS); assumption; (first | omega | exact Nat.ne_of_lt (Nat.lt_of_lt_of_le (Bx.lt (by assumption)) (by omega)))) | ((with_reducible apply Bx.below); assumption; omega) | ((with_reducible apply OwnP.grownS); assumption; omega) | ((with_reducible apply Own.grownS); assumption; omega) | ((with_reducible apply OwnV.grownS); assumption; omega) | ((with_reducible apply OwnV.ex); assumption) | ((with_reducible apply Vals.ex); assumption) | ((with_reducible apply Bx.ex); assumption) | ((with_reducible apply IntsK.ex); assumption) | ((with_reducible apply Intss.ex); assumption) | ((with_reducible apply Own.ex); assumption) | ((with_reducible apply Prs.ex); assumption) | ((with_reducible apply OwnP.ex); assumption))) hlen) rfl ?_; rintro vq wq hown he; have hsz := he.size)
      | (refine W_call (shortest_any _ (distTo xs xs.length) bq (chainS xs s) _ (Pv.Own.ints (by repeat (first | assumption | ((with_reducible apply Bx.grownS); assumption; (first | omega | exact Nat.ne_of_lt (Nat.lt_of_lt_of_le (Bx.lt (by assumption)) (by omega)))) | ((with_reducible apply Bx.below); assumption; omega) | ((with_reducible apply OwnP.grownS); assumption; omega) | ((with_reducible apply Own.grownS); assumption; omega) | ((with_reducible apply OwnV.grownS); assumption; omega) | ((with_reducible apply OwnV.ex); assumption) | ((with_reducible apply Vals.ex); assumption) | ((with_reducible apply Bx.ex); assumption) | ((with_reducible apply IntsK.ex); assumption) | ((with_reducible apply Intss.ex); assumption) | ((with_reducible apply Own.ex); assumption) | ((with_reducible apply Prs.ex); assumption) | ((with_reducible apply OwnP.ex); assumption)))) (fun j hj w' hw' => chainS_ret s v xs bq _ w' hw' (by repeat (first | assumption | ((with_reducible apply Bx.grownS); assumption; (first | omega | exact Nat.ne_of_lt (Nat.lt_of_lt_of_le (Bx.lt (by assumption)) (by omega)))) | ((with_reducible apply Bx.below); assumption; omega) | ((with_reducible apply OwnP.grownS); assumption; omega) | ((with_reducible apply Own.grownS); assumption; omega) | ((with_reducible apply OwnV.grownS); assumption; omega) | ((with_reducible apply OwnV.ex); assumption) | ((with_reducible apply Vals.ex); assumption) | ((with_reducible apply Bx.ex); assumption) | ((with_reducible apply IntsK.ex); assumption) | ((with_reducible apply Intss.ex); assumption) | ((with_reducible apply Own.ex); assumption) | ((with_reducible apply Prs.ex); assumption) | ((with_reducible apply OwnP.ex); assumption))) (by repeat (first | assumption | ((with_reducible apply Bx.grownS); assumption; (first | omega | exact Nat.ne_of_lt (Nat.lt_of_lt_of_le (Bx.lt (by assumption)) (by omega)))) | ((with_reducible apply Bx.below); assumption; omega) | ((with_reducible apply OwnP.grownS); assumption; omega) | ((with_reducible apply Own.grownS); assumption; omega) | ((with_reducible apply OwnV.grownS); assumption; omega) | ((with_reducible apply OwnV.ex); assumption) | ((with_reducible apply Vals.ex); assumption) | ((with_reducible apply Bx.ex); assumption) | ((with_reducible apply IntsK.ex); assumption) | ((with_reducible apply Intss.ex); assumption) | ((with_reducible apply Own.ex); assumption) | ((with_reducible apply Prs.ex); assumption) | ((with_reducible apply OwnP.ex); assumption))) hlen hs hb hc j hj)) rfl ?_; rintro vq wq hown2 he; have hsz := he.size)
      | (with_reducible apply W_nil)
      | ((with_reducible apply W_box); exact rfl; exact rfl; intro bq wq hbq he hnq; have hltq := Bx.lt hbq; have hsz := he.size)
      | (with_reducible apply c_seq)
      | (with_reducible apply c_region)
      | (with_reducible apply c_skip)
      | (with_reducible apply c_ret)
      | (with_reducible apply n_then)
      | (with_reducible apply e_then)
      | (with_reducible apply r_then)
      | ((with_reducible apply p_ret1); exact rfl; ((conv => lhs; whnf) <;> exact rfl); refine ⟨_, rfl, ?_, (by repeat (first | assumption | exact Ex.refl _ | (refine Ex.trans ?_ (by assumption)) | (refine Ex.of_grown ?_ (by assumption) (by intro k hk; cases hk; omega))))⟩)
      | ((with_reducible apply q_ret1); exact rfl; ((conv => lhs; whnf) <;> exact rfl); refine ⟨_, rfl, ?_, (by repeat (first | assumption | exact Ex.refl _ | (refine Ex.trans ?_ (by assumption)) | (refine Ex.of_grown ?_ (by assumption) (by intro k hk; cases hk; omega))))⟩)
      | ((exfalso; omega)))
  exact Pv.Own.mono hown2 (by omega)
theorem stepClash_any (off c s : Int) (v : Value) (xss : List (List Int)) (w : World) (h : Intss w v xss) (hch : clErr off xss c s = 0 → ∀ j, j < (ringL off s (xss.getD c.toNat [])).length → ∃ l, chainOf (ringL off s (xss.getD c.toNat [])) s j = some l) :
    Ret Try.prog 9 [.agg #[.int .i64 off, v], .int .i64 c, .int .i64 s] w fun r w' =>
    ∃ u, r = .tuple #[u, .int .i64 (clErr off xss c s)] ∧ Ints w' u (if clErr off xss c s = 0 then clashL (ringL off s (xss.getD c.toNat [])) s else []) := by
  have hv1 := h.one
  have el : (ringL off s (xss.getD c.toNat [])).length = (xss.getD c.toNat []).length := List.length_map ..
  refine ret_of_c Try.func9 rfl Try.ntmps9 (Nat.le_of_ble_eq_true rfl) (by dsimp only [ini, Nat.reduceAdd] <;> exact rfl) ?_
  repeat' (first
      | ((first | ((with_reducible apply W_op); exact rfl; exact rfl)); (first | ((with_reducible apply r_move); ((conv => lhs; whnf) <;> exact rfl)) | ((with_reducible apply r_assign); ((conv => lhs; whnf) <;> exact rfl)) | ((with_reducible apply r_load); exact rfl; exact rfl; (first | assumption | exact (Bx.cell (by repeat (first | assumption | ((with_reducible apply Bx.grownS); assumption; (first | omega | exact Nat.ne_of_lt (Nat.lt_of_lt_of_le (Bx.lt (by assumption)) (by omega)))) | ((with_reducible apply Bx.below); assumption; omega) | ((with_reducible apply OwnP.grownS); assumption; omega) | ((with_reducible apply Own.grownS); assumption; omega) | ((with_reducible apply OwnV.grownS); assumption; omega) | ((with_reducible apply OwnV.ex); assumption) | ((with_reducible apply Vals.ex); assumption) | ((with_reducible apply Bx.ex); assumption) | ((with_reducible apply IntsK.ex); assumption) | ((with_reducible apply Intss.ex); assumption) | ((with_reducible apply Own.ex); assumption) | ((with_reducible apply Prs.ex); assumption) | ((with_reducible apply OwnP.ex); assumption))) _).trans rfl | exact Ex.cell (by assumption) (by assumption))) | ((with_reducible apply r_loadF); exact rfl; (first | assumption | exact (Bx.cell (by repeat (first | assumption | ((with_reducible apply Bx.grownS); assumption; (first | omega | exact Nat.ne_of_lt (Nat.lt_of_lt_of_le (Bx.lt (by assumption)) (by omega)))) | ((with_reducible apply Bx.below); assumption; omega) | ((with_reducible apply OwnP.grownS); assumption; omega) | ((with_reducible apply Own.grownS); assumption; omega) | ((with_reducible apply OwnV.grownS); assumption; omega) | ((with_reducible apply OwnV.ex); assumption) | ((with_reducible apply Vals.ex); assumption) | ((with_reducible apply Bx.ex); assumption) | ((with_reducible apply IntsK.ex); assumption) | ((with_reducible apply Intss.ex); assumption) | ((with_reducible apply Own.ex); assumption) | ((with_reducible apply Prs.ex); assumption) | ((with_reducible apply OwnP.ex); assumption))) _).trans rfl | exact Ex.cell (by assumption) (by assumption))) | ((with_reducible apply r_loadA); exact rfl; (first | assumption | exact Bx.cells (by repeat (first | assumption | ((with_reducible apply Bx.grownS); assumption; (first | omega | exact Nat.ne_of_lt (Nat.lt_of_lt_of_le (Bx.lt (by assumption)) (by omega)))) | ((with_reducible apply Bx.below); assumption; omega) | ((with_reducible apply OwnP.grownS); assumption; omega) | ((with_reducible apply Own.grownS); assumption; omega) | ((with_reducible apply OwnV.grownS); assumption; omega) | ((with_reducible apply OwnV.ex); assumption) | ((with_reducible apply Vals.ex); assumption) | ((with_reducible apply Bx.ex); assumption) | ((with_reducible apply IntsK.ex); assumption) | ((with_reducible apply Intss.ex); assumption) | ((with_reducible apply Own.ex); assumption) | ((with_reducible apply Prs.ex); assumption) | ((with_reducible apply OwnP.ex); assumption))) | exact Cells.ex (by assumption) (by assumption)); exact rfl) | ((with_reducible apply r_neq); exact rfl; exact rfl) | ((with_reducible apply r_neqb); exact rfl; exact rfl)))
      | (refine W_callv (checkStep_any off c s v xss _ (by repeat (first | assumption | ((with_reducible apply Bx.grownS); assumption; (first | omega | exact Nat.ne_of_lt (Nat.lt_of_lt_of_le (Bx.lt (by assumption)) (by omega)))) | ((with_reducible apply Bx.below); assumption; omega) | ((with_reducible apply OwnP.grownS); assumption; omega) | ((with_reducible apply Own.grownS); assumption; omega) | ((with_reducible apply OwnV.grownS); assumption; omega) | ((with_reducible apply OwnV.ex); assumption) | ((with_reducible apply Vals.ex); assumption) | ((with_reducible apply Bx.ex); assumption) | ((with_reducible apply IntsK.ex); assumption) | ((with_reducible apply Intss.ex); assumption) | ((with_reducible apply Own.ex); assumption) | ((with_reducible apply Prs.ex); assumption) | ((with_reducible apply OwnP.ex); assumption)))) rfl (fun wq he => ?_); have hsz := he.size)
      | (have hinv := ask_inv (off := off) (xss := xss) (c := c) (s := s) (by omega); refine W_call (copyOf_int off c v xss w _ h (by repeat (first | assumption | exact Ex.refl _ | (refine Ex.trans ?_ (by assumption)) | (refine Ex.of_grown ?_ (by assumption) (by intro k hk; cases hk; omega)))) (by omega)) rfl ?_; rintro vq wq ⟨u, rfl, hu⟩ he; have hsz := he.size)
      | (refine W_call (ring_any off s u (xss.getD c.toNat []) _ (by repeat (first | assumption | ((with_reducible apply Bx.grownS); assumption; (first | omega | exact Nat.ne_of_lt (Nat.lt_of_lt_of_le (Bx.lt (by assumption)) (by omega)))) | ((with_reducible apply Bx.below); assumption; omega) | ((with_reducible apply OwnP.grownS); assumption; omega) | ((with_reducible apply Own.grownS); assumption; omega) | ((with_reducible apply OwnV.grownS); assumption; omega) | ((with_reducible apply OwnV.ex); assumption) | ((with_reducible apply Vals.ex); assumption) | ((with_reducible apply Bx.ex); assumption) | ((with_reducible apply IntsK.ex); assumption) | ((with_reducible apply Intss.ex); assumption) | ((with_reducible apply Own.ex); assumption) | ((with_reducible apply Prs.ex); assumption) | ((with_reducible apply OwnP.ex); assumption))) (by omega) (by omega) (by omega) (fun j hj => by have := hinv.2.2.2.2.2.2.2.2.2 j hj; omega)) rfl ?_; rintro vq wq ⟨rv, rfl, hrv⟩ he; have hsz := he.size)
      | (have hrv2 := OwnP.ex (Ex.of_grown (by assumption) hgq (by intro k hk; cases hk; omega)) hrv; have hpo := possible_any s rv _ (ringL off s (xss.getD c.toNat [])) _ hrv2 (by omega) (ring_wf (by omega) (by omega)) (by omega); rw [ring_all (by omega) (by omega)] at hpo; refine W_callv (hpo) rfl (fun wq he => ?_); have hsz := he.size)
      | (have hwf := ring_wf (off := off) (s := s) (xs := xss.getD c.toNat []) (by omega) (by omega); have hz : clErr off xss c s = 0 := (by unfold clErr; rw [if_neg (by assumption), if_neg (by assumption)]); refine W_call (clash_any s rv (ringL off s (xss.getD c.toNat [])) _ (OwnP.prs (by repeat (first | assumption | ((with_reducible apply Bx.grownS); assumption; (first | omega | exact Nat.ne_of_lt (Nat.lt_of_lt_of_le (Bx.lt (by assumption)) (by omega)))) | ((with_reducible apply Bx.below); assumption; omega) | ((with_reducible apply OwnP.grownS); assumption; omega) | ((with_reducible apply Own.grownS); assumption; omega) | ((with_reducible apply OwnV.grownS); assumption; omega) | ((with_reducible apply OwnV.ex); assumption) | ((with_reducible apply Vals.ex); assumption) | ((with_reducible apply Bx.ex); assumption) | ((with_reducible apply IntsK.ex); assumption) | ((with_reducible apply Intss.ex); assumption) | ((with_reducible apply Own.ex); assumption) | ((with_reducible apply Prs.ex); assumption) | ((with_reducible apply OwnP.ex); assumption)))) (by omega) (by omega) (fun j hj => by have := hwf j hj; omega) (hch hz)) rfl ?_; rintro vq wq hown he; have hsz := he.size)
      | (with_reducible apply W_nil)
      | ((with_reducible apply W_box); exact rfl; exact rfl; intro bq wq hbq he hnq; have hltq := Bx.lt hbq; have hsz := he.size)
      | ((with_reducible apply W_alloc); exact rfl; intro bq wq hbq he hnq; have hltq := Bx.lt hbq; have hsz := he.size)
      | ((with_reducible apply W_storeA); exact rfl; (focus ((repeat (first | assumption | ((with_reducible apply Bx.grownS); assumption; (first | omega | exact Nat.ne_of_lt (Nat.lt_of_lt_of_le (Bx.lt (by assumption)) (by omega)))) | ((with_reducible apply Bx.below); assumption; omega) | ((with_reducible apply OwnP.grownS); assumption; omega) | ((with_reducible apply Own.grownS); assumption; omega) | ((with_reducible apply OwnV.grownS); assumption; omega) | ((with_reducible apply OwnV.ex); assumption) | ((with_reducible apply Vals.ex); assumption) | ((with_reducible apply Bx.ex); assumption) | ((with_reducible apply IntsK.ex); assumption) | ((with_reducible apply Intss.ex); assumption) | ((with_reducible apply Own.ex); assumption) | ((with_reducible apply Prs.ex); assumption) | ((with_reducible apply OwnP.ex); assumption))); done)); exact rfl; exact rfl; exact rfl; (repeat' (first | exact trivial | (first | exact rfl | assumption | exact IntsK.one (by assumption) | exact Intss.one (by assumption) | exact Prs.one (by assumption) | exact OwnP.one (by assumption) | exact OwnV.one (by assumption) | exact Vals.one (by assumption) | exact Own.one (by assumption)) | constructor)); intro wq hbq hgq; have he : Ex w wq := (by repeat (first | assumption | exact Ex.refl _ | (refine Ex.trans ?_ (by assumption)) | (refine Ex.of_grown ?_ (by assumption) (by intro k hk; cases hk; omega)))); have hsz := he.size)
      | ((with_reducible apply W_store); exact rfl; (focus ((repeat (first | assumption | ((with_reducible apply Bx.grownS); assumption; (first | omega | exact Nat.ne_of_lt (Nat.lt_of_lt_of_le (Bx.lt (by assumption)) (by omega)))) | ((with_reducible apply Bx.below); assumption; omega) | ((with_reducible apply OwnP.grownS); assumption; omega) | ((with_reducible apply Own.grownS); assumption; omega) | ((with_reducible apply OwnV.grownS); assumption; omega) | ((with_reducible apply OwnV.ex); assumption) | ((with_reducible apply Vals.ex); assumption) | ((with_reducible apply Bx.ex); assumption) | ((with_reducible apply IntsK.ex); assumption) | ((with_reducible apply Intss.ex); assumption) | ((with_reducible apply Own.ex); assumption) | ((with_reducible apply Prs.ex); assumption) | ((with_reducible apply OwnP.ex); assumption))); done)); exact Nat.le_of_ble_eq_true rfl; ((conv => lhs; whnf) <;> exact rfl); (first | exact rfl | assumption | exact IntsK.one (by assumption) | exact Intss.one (by assumption) | exact Prs.one (by assumption) | exact OwnP.one (by assumption) | exact OwnV.one (by assumption) | exact Vals.one (by assumption) | exact Own.one (by assumption)); simp only [lset]; intro wq hbq hgq; have he : Ex w wq := (by repeat (first | assumption | exact Ex.refl _ | (refine Ex.trans ?_ (by assumption)) | (refine Ex.of_grown ?_ (by assumption) (by intro k hk; cases hk; omega)))); have hsz := he.size)
      | (with_reducible apply c_seq)
      | (with_reducible apply c_region)
      | (with_reducible apply c_skip)
      | (with_reducible apply c_ret)
      | ((with_reducible apply c_cond_true); exact rfl)
      | ((with_reducible apply c_cond_false); exact rfl)
      | ((with_reducible apply c_cond_dec); exact rfl; intro _; rotate_left 1; intro _)
      | ((with_reducible apply c_cond_bool); exact rfl; intro _; rotate_left 1; intro _)
      | (with_reducible apply n_then)
      | (with_reducible apply e_then)
      | (with_reducible apply r_then)
      | ((with_reducible apply p_ret2); exact rfl; ((conv => lhs; whnf) <;> exact rfl); ((conv => lhs; whnf) <;> exact rfl); refine ⟨_, rfl, ?_, (by repeat (first | assumption | exact Ex.refl _ | (refine Ex.trans ?_ (by assumption)) | (refine Ex.of_grown ?_ (by assumption) (by intro k hk; cases hk; omega))))⟩)
      | ((with_reducible apply q_ret2); exact rfl; ((conv => lhs; whnf) <;> exact rfl); ((conv => lhs; whnf) <;> exact rfl); refine ⟨_, rfl, ?_, (by repeat (first | assumption | exact Ex.refl _ | (refine Ex.trans ?_ (by assumption)) | (refine Ex.of_grown ?_ (by assumption) (by intro k hk; cases hk; omega))))⟩)
      | ((exfalso; omega)))
  · rw [hz, if_pos rfl]
    exact ⟨_, rfl, hown.ints⟩
  · have hz : clErr off xss c s = 8 := by unfold clErr; rw [if_neg (by assumption), if_pos (by assumption)]
    rw [hz, if_neg (by omega)]
    exact ⟨_, rfl, (Pv.Own.nil 3 0 _).ints⟩
  · have hz : clErr off xss c s = askErr off xss c s := by unfold clErr; rw [if_pos (by assumption)]
    rw [hz, if_neg (by assumption)]
    exact ⟨_, rfl, (Pv.Own.nil 3 0 _).ints⟩
end Go.Proofs.Ytbcbfeeidmggpaa
