/-
  What this text proves: slices of pairs that are made and filled. Over any program.
-/
import Derived.Test.YtngoipmdhliigaaVKm
set_option linter.unusedVariables false
set_option linter.unusedSimpArgs false
namespace Go.Pv
open Go.RowKit Go.Sort
section
variable {P : Program} {Q : Exit → Act → World → Prop} {ol rest : List Oper} {l : St} {w : World} {od : Option Nat} {ty : TypeId} {pos : String} {af : Array Edge}
theorem run_storeCells_mid (P : Program) (b o : Nat) (T' : TypeId) : ∀ (vs : List Value) (k : Nat) (pre c post : List Value) (w : World), pre.length = o + k → Bx w b (pre ++ (c ++ post)) T' → vs.length = c.length → (∀ v ∈ vs, v.oneCell' = true) →
    ∃ w', (storeCells ⟨b, o, none⟩ vs k).run P w = .ok () w' ∧ Bx w' b (pre ++ (vs ++ post)) T' ∧ w.grownBy w' (some b)
  | [], k, pre, c, post, w, hk, hb, hl, _ => by
    have : c = [] := by cases c <;> simp_all
    subst this
    exact ⟨w, rfl, hb, World.grownBy_refl' w _⟩
  | v :: vs, k, pre, [], post, w, hk, hb, hl, _ => by simp at hl
  | v :: vs, k, pre, u :: c, post, w, hk, hb, hl, h1 => by
    have hcell : w.cell? ⟨b, pre.length, none⟩ = some u := by rw [hb.cell]; simp
    have hfr := hb.frozen pre.length
    have hst := run_store P w ⟨b, pre.length, none⟩ v .plain (h1 v (by simp))
    rw [hcell] at hst
    simp only [hfr] at hst
    have hb' : Bx (w.setCell ⟨b, pre.length, none⟩ v) b ((pre ++ [v]) ++ (c ++ post)) T' := by
      unfold Bx at hb ⊢
      have : (w.heap.modify b fun | .cells c elem frozen => .cells (c.setIfInBounds pre.length v) elem frozen | o => o)[b]? = some (.cells ((pre ++ [v]) ++ (c ++ post)).toArray T' (0, 0)) := by
        rw [Array.getElem?_modify, if_pos rfl, hb]
        simp
      exact this
    have hg : w.grownBy (w.setCell ⟨b, pre.length, none⟩ v) (some b) := ⟨rfl, rfl, rfl, by simp [World.setCell], fun k _ hk => Below.heap_setCell _ _ _ _ (fun e => hk (by rw [e]))⟩
    obtain ⟨w', h2, h3, h4⟩ := run_storeCells_mid P b o T' vs (k + 1) (pre ++ [v]) c post _ (by simp; omega) hb' (by simpa using hl) (fun x hx => h1 x (by simp [hx]))
    refine ⟨w', ?_, by simpa using h3, hg.trans' h4⟩
    rw [hk] at hst h2
    simp only [storeCells, Sem.run_bind, add_mk, hst, Bool.false_eq_true, if_false, Result.andThen_ok]
    simpa using h2
theorem pairs_split {xs : List (Int × Int)} {m : Nat} (hm : m < xs.length) (g : Int × Int) : xs.flatMap pc = (xs.take m).flatMap pc ++ (pc xs[m] ++ (xs.drop (m + 1)).flatMap pc) ∧ (xs.set m g).flatMap pc = (xs.take m).flatMap pc ++ (pc g ++ (xs.drop (m + 1)).flatMap pc) ∧ ((xs.take m).flatMap pc).length = m * 2 := by
  refine ⟨?_, ?_, ?_⟩
  · have e : xs = xs.take m ++ (xs[m] :: xs.drop (m + 1)) := by
      rw [List.getElem_cons_drop]; exact (List.take_append_drop m xs).symm
    exact (congrArg (fun l => List.flatMap pc l) e).trans (by rw [List.flatMap_append, List.flatMap_cons])
  · rw [List.set_eq_take_append_cons_drop, if_pos hm]
    simp [List.flatMap_append]
  · have : ∀ (l : List (Int × Int)), (l.flatMap pc).length = l.length * 2 := by
      intro l
      induction l with
      | nil => rfl
      | cons x r ih => simp [List.flatMap_cons, pc, ih]; omega
    rw [this]; simp; omega
/-- A store of a pair into an array of pairs that lies in a box. -/
theorem W_storeP {b o m : Nat} {x y : Operand} {xs : List (Int × Int)} {g : Int × Int} {T T' : TypeId} {bytes : Nat} {z : Value} [hz : Sz P T z 2 bytes] (hx : ev l x = .pointer (some ⟨b, o, none⟩)) (ho : o = m * 2) (hm : m < xs.length) (hb : Bx w b (xs.flatMap pc) T') (hy : ev l y = .agg #[.int .i64 g.1, .int .i64 g.2])
    (K : ∀ w', Bx w' b ((xs.set m g).flatMap pc) T' → w.grownBy w' (some b) → W P ol Q rest l w') : W P ol Q (⟨none, .store T x y, ty, pos, af, none⟩ :: rest) l w := by
  subst ho
  obtain ⟨e1, e2, e3⟩ := pairs_split hm g
  rw [e1] at hb
  obtain ⟨w', h1, h2, h3⟩ := run_storeCells_mid P b (m * 2) T' (pc g) 0 _ (pc xs[m]) _ w (by simpa using e3) hb rfl (by intro v hv; unfold pc at hv; simp at hv; rcases hv with rfl | rfl <;> rfl)
  refine W_skp (w' := w') rfl rfl ?_ (K _ (by rw [e2]; exact h2) h3)
  have h1' : (storeCells ⟨b, m * 2, none⟩ [Value.int .i64 g.1, Value.int .i64 g.2] 0).run P w = .ok () w' := h1
  simp [execOp, hx, hy, Instr.storeAt, Instr.sureAddr, storeVar, hz.run, Value.cells, h1']
theorem pairs0 (m : Nat) : (List.replicate m ((0 : Int), (0 : Int))).flatMap pc = List.replicate (m * 2) (Value.int .i64 0) := by
  induction m with
  | zero => rfl
  | succ m ih => rw [List.replicate_succ, List.flatMap_cons, ih, show (m + 1) * 2 = m * 2 + 1 + 1 by omega, List.replicate_succ, List.replicate_succ]; rfl
theorem made_pairs (m : Nat) : (madeCells (Value.agg #[.int .i64 0, .int .i64 0]).cells (m * 2)).toList = (List.replicate m ((0 : Int), (0 : Int))).flatMap pc := by
  have e : (Value.agg #[.int .i64 0, .int .i64 0]).cells = #[.int .i64 0, .int .i64 0] := rfl
  rw [e, pairs0]
  apply List.ext_getElem
  · simp [madeCells]
  · intro i h1 h2
    have : i % 2 = 0 ∨ i % 2 = 1 := by omega
    rcases this with h | h <;> simp [madeCells, h]
/-- make of pairs, all 0. -/
theorem W_makeP {d m : Nat} {x y : Operand} {T e : TypeId} {b : Nat} [hT : Und P T (.slice e)] [hz : Sz P e (.agg #[.int .i64 0, .int .i64 0]) 2 b] (hx : ev l x = .int .i64 (m : Int)) (hy : ev l y = .int .i64 (m : Int)) (hm : m ≤ 1000) (hb : b ≤ 1000000)
    (K : ∀ b' w', Bx w' b' ((List.replicate m ((0 : Int), (0 : Int))).flatMap pc) e → Ex w w' → b' = w.heap.size → W P ol Q rest (upd l d (.slice (some ⟨b', 0, none⟩) m m)) w') : W P ol Q (⟨some d, .makeSlice T x y, ty, pos, af, none⟩ :: rest) l w :=
  W_make hx hy (made_pairs m) hm hb K
end
theorem pairs_len (xs : List (Int × Int)) : (xs.flatMap pc).length = xs.length * 2 := by
  induction xs with
  | nil => rfl
  | cons x r ih => rw [List.flatMap_cons, List.length_append, ih]; simp [pc]; omega
theorem OwnP.ofBx {w : World} {b m base : Nat} {E : TypeId} {xs : List (Int × Int)} (h : Bx w b (xs.flatMap pc) E) (hm : m = xs.length) (hl : xs.length ≤ 1000) (hb : base ≤ b) : OwnP E base w (.slice (some ⟨b, 0, none⟩) m m) xs := by
  subst hm
  unfold Bx at h
  unfold OwnP
  refine ⟨by unfold maxLen; omega, by rw [pairs_len], .inr ⟨b, xs.length, (xs.flatMap pc).toArray, rfl, hb, h, Nat.le_refl _, by unfold maxLen; omega, by have := pairs_len xs; simpa using this, ?_⟩⟩
  rw [List.take_of_length_le (by have := Nat.le_of_eq (pairs_len xs); simpa using this)]
def fillB (zs : List (Int × Int)) (k : Nat) : List (Int × Int) := zs.take k ++ List.replicate (zs.length - k) (0, 0)
theorem fillB_len {zs : List (Int × Int)} {k : Nat} (h : k ≤ zs.length) : (fillB zs k).length = zs.length := by simp [fillB]; omega
theorem fillB_set {zs : List (Int × Int)} {k : Nat} (h : k < zs.length) : (fillB zs k).set k (zs.getD k (0, 0)) = fillB zs (k + 1) := by
  have hg : zs.getD k (0, 0) = zs[k] := by simp [h]
  unfold fillB
  rw [hg, show zs.length - k = (zs.length - (k + 1)) + 1 by omega, List.replicate_succ, List.set_append_right _ _ (by simp; omega)]
  have e : k - (zs.take k).length = 0 := by simp; omega
  rw [e, List.set_cons_zero, List.take_succ_eq_append_getElem h, List.append_assoc]
  rfl
theorem fillB_zero (zs : List (Int × Int)) : fillB zs 0 = List.replicate zs.length (0, 0) := by simp [fillB]
theorem fillB_all (zs : List (Int × Int)) : fillB zs zs.length = zs := by simp [fillB]
end Go.Pv
