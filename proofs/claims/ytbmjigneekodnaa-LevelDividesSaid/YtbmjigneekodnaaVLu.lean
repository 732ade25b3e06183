/-
  (rows) What this text proves: laws for a part of a row, for an array of pairs in a box, and what a section of a valid coding is. Conditions: as stated in each.
-/
import Derived.Test.YtbmjigneekodnaaVLt
set_option linter.unusedVariables false
set_option linter.unusedSimpArgs false

namespace Go.Pv
open Go.RowKit
/-- x[i:k] of a slice of elements of n cells. -/
def subV (n : Nat) : Value → Nat → Nat → Value
  | .slice a _ c, i, k => .slice (if c = i then a else a.map (·.add (i * n))) (k - i) (c - i)
  | v, _, _ => v
section
variable {α : Type} {f : α → List Value} {n : Nat}
theorem Row.sub {w : World} {v : Value} {xs : List α} (hv : Row f n w v xs) {i k : Nat} (hik : i ≤ k) (hk : k ≤ xs.length) : Row f n w (subV n v i k) ((xs.take k).drop i) := by
  unfold Row at hv ⊢
  obtain ⟨h0, a, cap, rfl, hc, hm, hall⟩ := hv
  have hlen : ((xs.take k).drop i).length = k - i := by simp; omega
  refine ⟨by omega, (if cap = i then a else a.map (·.add (i * n))), cap - i, by rw [hlen]; rfl, by omega, by omega, fun j hj => ?_⟩
  rw [hlen] at hj
  obtain ⟨p, rfl, hcel⟩ := hall (i + j) (by omega)
  refine ⟨p.add (i * n), by rw [if_neg (by omega)]; rfl, ?_⟩
  rw [Addr.add_add, ← Nat.add_mul, List.getElem_drop, List.getElem_take]
  exact hcel
end
section
variable {P : Program} {ol rest : List Oper} {Q : Exit → Act → World → Prop} {l : St} {w : World} {od : Option Nat} {ty : TypeId} {pos : String} {af : Array Edge} {α : Type} {f : α → List Value} {n : Nat}
theorem r_subR {x lo hi : Operand} {T e : TypeId} {v : Value} {i j : Nat} {k k' : IntKind} {z : Value} {b : Nat} {xs : List α} [h : Und P T (.slice e)] [hs : Sz P e z n b] (hx : ev l x = v) (hv : Row f n w v xs) (hlo : ev l lo = .int k (i : Int)) (hi' : ev l hi = .int k' (j : Int)) (hij : i ≤ j) (hle : j ≤ xs.length) :
    Runs P ⟨od, .slice T x (some lo) (some hi) none, ty, pos, af, none⟩ l w (subV n v i j) := by
  unfold Row at hv
  obtain ⟨_, a, cap, rfl, hc, hm, _⟩ := hv
  have hle2 : j ≤ cap := by omega
  simp [Runs, execOp, hx, hi', hlo, Instr.sliceAt, Instr.slice, Instr.sliceBounds, Instr.sliceBound, asIntOf, h.run, hs.run, hle, hle2, hij, subV]
theorem run_storeCells_mid (P : Program) (b o : Nat) (T' : TypeId) : ∀ (vs : List Value) (k : Nat) (pre c post : List Value) (w : World), pre.length = o + k → Bx w b (pre ++ (c ++ post)) T' → vs.length = c.length → (∀ v ∈ vs, v.oneCell' = true) →
    ∃ w', (storeCells ⟨b, o, none⟩ vs k).run P w = .ok () w' ∧ Bx w' b (pre ++ (vs ++ post)) T' ∧ w.grownBy w' (some b)
  | [], k, pre, c, post, w, hk, hb, hl, _ => by
    have : c = [] := by cases c <;> simp_all
    subst this
    exact ⟨w, rfl, hb, World.grownBy_refl' w _⟩
  | v :: vs, k, pre, [], post, w, hk, hb, hl, _ => by simp at hl
  | v :: vs, k, pre, u :: c, post, w, hk, hb, hl, h1 => by
    have hcell : w.cell? ⟨b, pre.length, none⟩ = some u := by rw [hb.cell]; simp
    have hfr := hb.frozen pre.length
    have hst := run_store P w ⟨b, pre.length, none⟩ v .plain (h1 v (by simp))
    rw [hcell] at hst
    simp only [hfr] at hst
    have hb' : Bx (w.setCell ⟨b, pre.length, none⟩ v) b ((pre ++ [v]) ++ (c ++ post)) T' := by
      unfold Bx at hb ⊢
      have : (w.heap.modify b fun | .cells c elem frozen => .cells (c.setIfInBounds pre.length v) elem frozen | o => o)[b]? = some (.cells ((pre ++ [v]) ++ (c ++ post)).toArray T' (0, 0)) := by
        rw [Array.getElem?_modify, if_pos rfl, hb]
        simp
      exact this
    have hg : w.grownBy (w.setCell ⟨b, pre.length, none⟩ v) (some b) := ⟨rfl, rfl, rfl, by simp [World.setCell], fun k _ hk => Below.heap_setCell _ _ _ _ (fun e => hk (by rw [e]))⟩
    obtain ⟨w', h2, h3, h4⟩ := run_storeCells_mid P b o T' vs (k + 1) (pre ++ [v]) c post _ (by simp; omega) hb' (by simpa using hl) (fun x hx => h1 x (by simp [hx]))
    refine ⟨w', ?_, by simpa using h3, hg.trans' h4⟩
    rw [hk] at hst h2
    simp only [storeCells, Sem.run_bind, add_mk, hst, Bool.false_eq_true, if_false, Result.andThen_ok]
    simpa using h2
theorem pairs_split {xs : List (Int × Int)} {m : Nat} (hm : m < xs.length) (g : Int × Int) : xs.flatMap pc = (xs.take m).flatMap pc ++ (pc xs[m] ++ (xs.drop (m + 1)).flatMap pc) ∧ (xs.set m g).flatMap pc = (xs.take m).flatMap pc ++ (pc g ++ (xs.drop (m + 1)).flatMap pc) ∧ ((xs.take m).flatMap pc).length = m * 2 := by
  refine ⟨?_, ?_, ?_⟩
  · have e : xs = xs.take m ++ (xs[m] :: xs.drop (m + 1)) := by
      rw [List.getElem_cons_drop]; exact (List.take_append_drop m xs).symm
    exact (congrArg (fun l => List.flatMap pc l) e).trans (by rw [List.flatMap_append, List.flatMap_cons])
  · rw [List.set_eq_take_append_cons_drop, if_pos hm]
    simp [List.flatMap_append]
  · have : ∀ (l : List (Int × Int)), (l.flatMap pc).length = l.length * 2 := by
      intro l
      induction l with
      | nil => rfl
      | cons x r ih => simp [List.flatMap_cons, pc, ih]; omega
    rw [this]; simp; omega
/-- A store of a pair into an array of pairs that lies in a box. -/
theorem W_storeP {b o m : Nat} {x y : Operand} {xs : List (Int × Int)} {g : Int × Int} {T T' : TypeId} {bytes : Nat} {z : Value} [hz : Sz P T z 2 bytes] (hx : ev l x = .pointer (some ⟨b, o, none⟩)) (ho : o = m * 2) (hm : m < xs.length) (hb : Bx w b (xs.flatMap pc) T') (hy : ev l y = .agg #[.int .i64 g.1, .int .i64 g.2])
    (K : ∀ w', Bx w' b ((xs.set m g).flatMap pc) T' → w.grownBy w' (some b) → W P ol Q rest l w') : W P ol Q (⟨none, .store T x y, ty, pos, af, none⟩ :: rest) l w := by
  subst ho
  obtain ⟨e1, e2, e3⟩ := pairs_split hm g
  rw [e1] at hb
  obtain ⟨w', h1, h2, h3⟩ := run_storeCells_mid P b (m * 2) T' (pc g) 0 _ (pc xs[m]) _ w (by simpa using e3) hb rfl (by intro v hv; unfold pc at hv; simp at hv; rcases hv with rfl | rfl <;> rfl)
  refine W_skp (w' := w') rfl rfl ?_ (K _ (by rw [e2]; exact h2) h3)
  have h1' : (storeCells ⟨b, m * 2, none⟩ [Value.int .i64 g.1, Value.int .i64 g.2] 0).run P w = .ok () w' := h1
  simp [execOp, hx, hy, Instr.storeAt, Instr.sureAddr, storeVar, hz.run, Value.cells, h1']
theorem cells_pair {b m : Nat} {xs : List (Int × Int)} {T' : TypeId} (hb : Bx w b (xs.flatMap pc) T') (hm : m < xs.length) : Cells w ⟨b, m * 2, none⟩ [.int .i64 (xs.getD m (0, 0)).1, .int .i64 (xs.getD m (0, 0)).2] := by
  have e : xs.getD m (0, 0) = xs[m] := by simp [hm]
  rw [e]
  have h1 := hb.cells
  unfold Cells at h1 ⊢
  intro j v hj
  have := row_flat_get (f := pc) (n := 2) (fun x => rfl) xs m hm j v hj
  have := h1 _ _ this
  rw [add_mk] at this ⊢
  simpa using this
end
/-- A part of a coding. -/
def secL (l : List T3) (i k : Nat) : List T3 := (l.take k).drop i
theorem sec_get {l : List T3} {i k j : Nat} (h : j < k - i) : (secL l i k).getD j cD = l.getD (i + j) cD := by
  unfold secL
  simp only [List.getD, List.getElem?_drop, List.getElem?_take]
  rw [if_pos (by omega)]
theorem sec_len {l : List T3} {i k : Nat} (hk : k ≤ l.length) : (secL l i k).length = k - i := by
  unfold secL; simp; omega
theorem valid_sec {l : List T3} (hv : Valid l) {i k : Nat} (h : i < k) (hk : k ≤ l.length) : Valid (secL l i k) := by
  have hl := sec_len (i := i) hk
  have h1 := hv.1
  refine ⟨by omega, fun j hj => ?_, fun p q hpq hq => ?_⟩
  · rw [sec_get (by omega)]; exact hv.2.1 _ (by omega)
  · rw [sec_get (by omega), sec_get (by omega)]; exact hv.2.2 _ _ (by omega) (by omega)
/-- The best errors of all sections of a coding lie in a list of 24 times 25. -/
def secsOk (l : List T3) (xs : List (Int × Int)) : Prop := ∀ i k, i < k → k ≤ l.length → bestIs (secL l i k) (xs.getD (i * 25 + k) (0, 0))
def secsTo (l : List T3) (xs : List (Int × Int)) (p q : Nat) : Prop := xs.length = 600 ∧ ∀ i k, i < k → k ≤ l.length → (i < p ∨ (i = p ∧ k < q)) → bestIs (secL l i k) (xs.getD (i * 25 + k) (0, 0))
theorem secs_next {l : List T3} {xs : List (Int × Int)} {p q : Nat} {g : Int × Int} (hn : l.length ≤ 24) (h : secsTo l xs p q) (hp : p < q) (hq : q ≤ l.length) (hg : bestIs (secL l p q) g) : secsTo l (xs.set (p * 25 + q) g) p (q + 1) := by
  obtain ⟨h1, h2⟩ := h
  refine ⟨by simpa using h1, fun i k hik hk hc => ?_⟩
  by_cases e : i = p ∧ k = q
  · obtain ⟨rfl, rfl⟩ := e
    have : (xs.set (i * 25 + k) g).getD (i * 25 + k) (0, 0) = g := by
      simp [List.getD, List.getElem?_set, show i * 25 + k < xs.length by omega]
    rw [this]; exact hg
  · have : (xs.set (p * 25 + q) g).getD (i * 25 + k) (0, 0) = xs.getD (i * 25 + k) (0, 0) := by
      simp [List.getD, List.getElem?_set, show ¬ p * 25 + q = i * 25 + k by omega]
    rw [this]; exact h2 i k hik hk (by omega)
theorem secs_row {l : List T3} {xs : List (Int × Int)} {p q : Nat} (h : secsTo l xs p q) (hq : l.length < q) : secsTo l xs (p + 1) 0 := ⟨h.1, fun i k hik hk hc => h.2 i k hik hk (by omega)⟩
theorem secs_row1 {l : List T3} {xs : List (Int × Int)} {p : Nat} (h : secsTo l xs p 0) : secsTo l xs p (p + 1) := ⟨h.1, fun i k hik hk hc => h.2 i k hik hk (by omega)⟩
theorem secs_done {l : List T3} {xs : List (Int × Int)} {p : Nat} (h : secsTo l xs p 0) (hp : l.length ≤ p) : secsOk l xs := fun i k hik hk => h.2 i k hik hk (by omega)
end Go.Pv
namespace Go.Proofs.Ytbmjigneekodnaa
open Go.Pv Go.RowKit
set_option maxRecDepth 100000
instance szSec : Sz Try.prog 135 (.agg ((List.replicate 600 ((0 : Int), (0 : Int))).flatMap pc).toArray) 1200 9600 := ⟨by kernel_rfl⟩
end Go.Proofs.Ytbmjigneekodnaa
