/-
  (rows) What this text proves: the law for the first codes of a row of codes. Conditions: the part ends within the slice.
-/
import Derived.Test.YtbmjigneekodnaaVLm
set_option linter.unusedVariables false
set_option linter.unusedSimpArgs false

namespace Go.Pv
open Go.RowKit
/-- x[:j] of a slice. -/
def takeV : Value → Nat → Value
  | .slice a n c, j => .slice a j c
  | v, _ => v
section
variable {α : Type} {f : α → List Value} {n : Nat}
theorem Row.take {w : World} {v : Value} {xs : List α} (hv : Row f n w v xs) {j : Nat} (hle : j ≤ xs.length) : Row f n w (takeV v j) (xs.take j) := by
  unfold Row at hv ⊢
  obtain ⟨h0, a, cap, rfl, hc, hm, hall⟩ := hv
  refine ⟨by simp; omega, a, cap, by simp [takeV]; omega, by simp; omega, hm, fun i hi => ?_⟩
  simp at hi
  obtain ⟨p, hp, hcel⟩ := hall i (by omega)
  refine ⟨p, hp, ?_⟩
  rw [List.getElem_take]
  exact hcel
end
section
variable {P : Program} {l : St} {w : World} {od : Option Nat} {ty : TypeId} {pos : String} {af : Array Edge} {α : Type} {f : α → List Value} {n : Nat}
theorem r_takeR {x hi : Operand} {T e : TypeId} {v : Value} {j : Nat} {k : IntKind} {z : Value} {b m : Nat} {xs : List α} [h : Und P T (.slice e)] [hs : Sz P e z m b] (hx : ev l x = v) (hv : Row f n w v xs) (hi' : ev l hi = .int k (j : Int)) (hle : j ≤ xs.length) :
    Runs P ⟨od, .slice T x none (some hi) none, ty, pos, af, none⟩ l w (takeV v j) := by
  unfold Row at hv
  obtain ⟨_, a, cap, rfl, hc, hm, _⟩ := hv
  have hle2 : j ≤ cap := by omega
  simp [Runs, execOp, hx, hi', Instr.sliceAt, Instr.slice, Instr.sliceBounds, Instr.sliceBound, asIntOf, h.run, hs.run, hle, hle2, takeV]
  intro _
  cases a with
  | none => rfl
  | some p => simp [Addr.add]
/-- A return of two cells and a value. -/
theorem p_retcct {fn : Func} {t1 t2 u T1 T2 T1' T2' b1 b2 n1 n2 y1 y2 : Nat} {c1 c2 : List Value} {z1 z2 v : Value} {R : Ending → World → Prop} (hr : fn.results = #[.cell t1 T1, .cell t2 T2, .tmp u]) (h1 : Agg P T1) (h2 : Agg P T2) (hs1 : Sz P T1 z1 n1 y1) (hs2 : Sz P T2 z2 n2 y2)
    (ht1 : nth l t1 = .pointer (some ⟨b1, 0, none⟩)) (hb1 : Bx w b1 c1 T1') (hn1 : c1.length = n1) (ht2 : nth l t2 = .pointer (some ⟨b2, 0, none⟩)) (hb2 : Bx w b2 c2 T2') (hn2 : c2.length = n2) (hv : nth l u = v) (h : R (.returned (.tuple #[.agg c1.toArray, .agg c2.toArray, v])) w) : bodyPost P fn R .ret (act l) w := by
  refine ⟨rfl, .tuple #[.agg c1.toArray, .agg c2.toArray, v], ?_, h⟩
  have g1 := run_loadCells_list (P := P) w ⟨b1, 0, none⟩ c1 (by have := hb1.cells; unfold Cells at this; exact this)
  have g2 := run_loadCells_list (P := P) w ⟨b2, 0, none⟩ c2 (by have := hb2.cells; unfold Cells at this; exact this)
  rw [hn1] at g1
  rw [hn2] at g2
  obtain ⟨d1, e1, a1⟩ := h1.out
  obtain ⟨d2, e2, a2⟩ := h2.out
  have f1 : Und P T1 d1 := ⟨e1⟩
  have f2 : Und P T2 d2 := ⟨e2⟩
  have k1 : (act l).tmps[t1]?.getD undef = .pointer (some ⟨b1, 0, none⟩) := by rw [nth_eq]; exact ht1
  have k2 : (act l).tmps[t2]?.getD undef = .pointer (some ⟨b2, 0, none⟩) := by rw [nth_eq]; exact ht2
  have k3 : (act l).tmps[u]?.getD undef = v := by rw [nth_eq]; exact hv
  simp [results, hr, k1, k2, k3, asAddr, loadVar, f1.isAgg, f2.isAgg, a1, a2, hs1.run, hs2.run, g1, g2]
end
end Go.Pv
