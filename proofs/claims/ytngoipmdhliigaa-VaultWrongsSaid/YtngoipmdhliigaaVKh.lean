/-
  What this text proves: ints of the call's own, sorted in place by the library; x[:j] of pairs. Over any program.
-/
import Derived.Sort.OwnSortedInts
import Derived.Test.YtngoipmdhliigaaSh
import Derived.Test.YtngoipmdhliigaaVg
import Derived.Test.YtngoipmdhliigaaFacts
import Derived.Test.YtngoipmdhliigaaFam
set_option linter.unusedVariables false
set_option linter.unusedSimpArgs false
namespace Go.Pv
open Go.Sort Go.RowKit
def sortL (xs : List Int) : List Int := xs.mergeSort fun x y => decide (x ≤ y)
theorem sortL_len (xs : List Int) : (sortL xs).length = xs.length := List.length_mergeSort xs
section
variable {P : Program} {ol : List Oper} {Q : Exit → Act → World → Prop} {rest : List Oper} {l : St} {w : World}
theorem W_callR {d : Nat} {f : FuncId} {xs : List Operand} {vs : List Value} {tys : Array TypeId} {T : TypeId} {pos : String} {af : Array Edge} {φ : Value → World → Prop} [Fun P f]
    (hc : Calls P f vs.toArray w fun e w' => ∃ v, e = .returned v ∧ φ v w') (hx : evs l xs = vs)
    (k : ∀ v w', φ v w' → W P ol Q rest (upd l d v) w') :
    W P ol Q (⟨some d, .call { callee := .value (.func f), args := xs.toArray, argTypes := tys }, T, pos, af, none⟩ :: rest) l w := by
  unfold W
  refine wpList_plain rfl fun K hK => ?_
  have hrun : (execOp (ev l) ⟨some d, .call { callee := .value (.func f), args := xs.toArray, argTypes := tys }, T, pos, af, none⟩).run P w = .ok (.enter f vs.toArray) w := by
    have := run_call (P := P) (f := f) (vs := vs) (w := w) (first := #[]) (captured := #[])
    simp only [execOp, resolve, List.map_toArray, map_evs, hx, ev]
    simpa using this
  simp only [Oper.wp, eval_act, hrun, Oper.upon_enter]
  refine Calls.mono hc ?_
  rintro e w' ⟨v, rfl, h1⟩
  show K ((act l).put (some d) v) w'
  rw [put_act]
  have hk := k v w' h1
  unfold W at hk
  exact hK _ _ hk
end
theorem sorted_own {P : Program} {f : FuncId} {E : TypeId} {base : Nat} {w : World} {v : Value} {xs : List Int}
    (hC : ∀ (blk off cap : Nat) (zs : List Int) (w : World), Holds (Value.int .i64) w blk off zs.toArray → blk < w.heap.size → zs.length < 4611686018427387904 →
      Calls P f #[.slice (some ⟨blk, off, none⟩) zs.length cap] w fun e w' => e = .returned (.tuple #[]) ∧ ∃ n os, w' = grow (putRow (Value.int .i64) (Sort.ahead w n) blk off (zs.mergeSort fun x y => decide (x ≤ y)).toArray) os)
    (hN : ∀ (p : Option Addr) (cap : Nat) (w : World), Calls P f #[.slice p 0 cap] w fun e w' => e = .returned (.tuple #[]) ∧ w' = w) (hlen : xs.length ≤ 1000000) (h : Own E base w v xs) :
    Calls P f [v].toArray w fun r w' => ∃ u, r = .returned u ∧ Own E base w' v (sortL xs) ∧ w.grownBy w' v.ownBlock := by
  unfold Own at h
  obtain ⟨h0, h1, h2⟩ := h
  rcases h2 with ⟨hv, he⟩ | ⟨g, cap, cur, rfl, hb, hg, h3, h4, h5, h6⟩
  · have e : xs = [] := List.length_eq_zero_iff.1 he
    subst e
    subst hv
    refine Calls.mono (hN none 0 w) ?_
    rintro r w' ⟨rfl, rfl⟩
    exact ⟨_, rfl, (by rw [show sortL [] = [] from by simp [sortL]]; exact Own.nil _ _ _), (Ex.refl w').grownBy⟩
  · have hsz : g < w.heap.size := (Array.getElem?_eq_some_iff.1 hg).1
    rw [Nat.mul_one] at h6
    refine Calls.mono (hC g 0 cap xs w (holds_of_blockI hg h6) hsz (by omega)) ?_
    rintro r w' ⟨rfl, n, os, rfl⟩
    refine ⟨_, rfl, ?_, grownBy_sortedI _⟩
    unfold Own
    have el := sortL_len xs
    have := ownsRow_sortedI (w := w) (n := n) (os := os) (base := base) (ss := xs) (ts := sortL xs) el hb hg h3 h4 h5
    rw [el]
    exact ⟨h0, this⟩
theorem Own.toVs {E : TypeId} {base : Nat} {w : World} {v : Value} {xs : List Int} (h : Own E base w v xs) : OwnV E base w v (xs.map (Value.int .i64)) := by
  unfold Own at h
  unfold OwnV
  simpa using h
theorem Own.ofVs {E : TypeId} {base : Nat} {w : World} {v : Value} {xs : List Int} (h : OwnV E base w v (xs.map (Value.int .i64))) : Own E base w v xs := by
  unfold OwnV at h
  unfold Own
  simpa using h
/-- append of an int to ints of the call's own. -/
theorem W_appendO {P : Program} {ol : List Oper} {Q : Exit → Act → World → Prop} {rest : List Oper} {l : St} {w : World} {ty : TypeId} {pos : String} {af : Array Edge} {d : Nat} {x y : Operand} {T e : TypeId} {bytes base b c : Nat} {v z : Value} {xs : List Int} {m : Int} {w0 : World} [hT : Und P T (.slice e)] [hz : Sz P e z 1 bytes] (hzc : z.cells.size = 1)
    (hx : ev l x = v) (hown : Own e base w v xs) (hy : ev l y = .slice (some ⟨b, 0, none⟩) 1 c) (hb : Bx w b [.int .i64 m] e) (hlen : (xs.length + 1) * bytes ≤ 140737488355328 ∧ xs.length + 1 ≤ 1000000) (h0 : Ex w0 w) (hb0 : w0.heap.size ≤ base) (hbase : base ≤ w.heap.size)
    (K : ∀ v' w', Own e base w' v' (xs ++ [m]) → v'.oneCell' = true → Ex w0 w' → Below base w w' → w.grownBy w' v.ownBlock → W P ol Q rest (upd l d v') w') :
    W P ol Q (⟨some d, .call { callee := .builtin .append, args := #[x, y], argTypes := #[T, T] }, ty, pos, af, none⟩ :: rest) l w :=
  W_appendF hzc rfl hx (Own.toVs hown) hy hb (by simpa using hlen) h0 hb0 hbase fun v' w' k1 k2 k3 k4 _ => by
    have h := Own.ofVs (xs := xs ++ [m]) (by rw [List.map_append]; exact k1)
    exact K v' w' h h.one k2 k3 k4
/-- x[:j] of a slice. -/
def takeV : Value → Nat → Value
  | .slice a n c, j => .slice a j c
  | v, _ => v
theorem Prs.take {w : World} {v : Value} {xs : List (Int × Int)} (hv : Prs w v xs) {j : Nat} (hle : j ≤ xs.length) : Prs w (takeV v j) (xs.take j) := by
  unfold Prs at hv ⊢
  obtain ⟨h0, a, cap, rfl, hc, hm, hall⟩ := hv
  refine ⟨by simp; omega, a, cap, by simp [takeV]; omega, by simp; omega, hm, fun i hi => ?_⟩
  simp at hi
  obtain ⟨p, hp, hcel⟩ := hall i (by omega)
  refine ⟨p, hp, ?_⟩
  rw [List.getElem_take]
  exact hcel
section
variable {P : Program} {l : St} {w : World} {od : Option Nat} {ty : TypeId} {pos : String} {af : Array Edge}
theorem r_takeP {x hx2 : Operand} {T e : TypeId} {v : Value} {i m : Nat} {k : IntKind} {z : Value} {b : Nat} {xs : List (Int × Int)} [h : Und P T (.slice e)] [hs : Sz P e z m b] (hx : ev l x = v) (hv : Prs w v xs) (hi : ev l hx2 = .int k (i : Int)) (hle : i ≤ xs.length) :
    Runs P ⟨od, .slice T x none (some hx2) none, ty, pos, af, none⟩ l w (takeV v i) := by
  unfold Prs at hv
  obtain ⟨_, a, cap, rfl, hc, hm, _⟩ := hv
  have h1 : i ≤ cap := by omega
  cases a <;> simp [Runs, execOp, hx, hi, Instr.sliceAt, Instr.slice, Instr.sliceBounds, Instr.sliceBound, asIntOf, h.run, hs.run, h1, takeV, Addr.add]
end
end Go.Pv
