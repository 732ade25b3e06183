/-
  What this text proves: laws for a part of a slice of pairs and for a field of a value. Conditions: the part begins within the slice.
-/
import Derived.Test.YtlphfobpheefkaaPv
set_option linter.unusedVariables false
set_option linter.unusedSimpArgs false

namespace Go.Pv
open Go.RowKit
/-- x[i:] of a slice of pairs. -/
def dropV : Value → Nat → Value
  | .slice a n c, i => .slice (if c = i then a else a.map (·.add (i * 2))) (n - i) (c - i)
  | v, _ => v
theorem Prs.drop {w : World} {v : Value} {xs : List (Int × Int)} (hv : Prs w v xs) {i : Nat} (hle : i ≤ xs.length) : Prs w (dropV v i) (xs.drop i) := by
  unfold Prs at hv ⊢
  obtain ⟨h0, a, cap, rfl, hc, hm, hall⟩ := hv
  refine ⟨by simp; omega, (if cap = i then a else a.map (·.add (i * 2))), cap - i, by simp [dropV], by simp; omega, by omega, fun j hj => ?_⟩
  simp at hj
  obtain ⟨p, rfl, hcel⟩ := hall (i + j) (by omega)
  refine ⟨p.add (i * 2), by rw [if_neg (by omega)]; rfl, ?_⟩
  rw [Addr.add_add, ← Nat.add_mul, List.getElem_drop]
  exact hcel
section
variable {P : Program} {l : St} {w : World} {od : Option Nat} {ty : TypeId} {pos : String} {af : Array Edge}
theorem r_dropP {x lo : Operand} {T e : TypeId} {v : Value} {i : Nat} {k : IntKind} {z : Value} {b : Nat} {xs : List (Int × Int)} [h : Und P T (.slice e)] [hs : Sz P e z 2 b] (hx : ev l x = v) (hv : Prs w v xs) (hi : ev l lo = .int k (i : Int)) (hle : i ≤ xs.length) :
    Runs P ⟨od, .slice T x (some lo) none none, ty, pos, af, none⟩ l w (dropV v i) := by
  unfold Prs at hv
  obtain ⟨_, a, cap, rfl, hc, hm, _⟩ := hv
  simp [Runs, execOp, hx, hi, Instr.sliceAt, Instr.slice, Instr.sliceBounds, Instr.sliceBound, asIntOf, h.run, hs.run, hle, dropV]
/-- Where a field of a plain type lies. -/
def fieldPl (P : Program) (S i : Nat) : Option Nat :=
  match P.underlying S with
  | some (.struct fs) => match fs[i]? with
    | some f => match P.underlying f.type with
      | some d => if aggD d then none else some f.offset
      | none => none
    | none => none
  | _ => none
theorem r_field {x : Operand} {S i off : Nat} {vs : List Value} {v : Value} (h : fieldPl P S i = some off) (hx : ev l x = .agg vs.toArray) (hv : vs[off]? = some v) : Runs P ⟨od, .field S x i, ty, pos, af, none⟩ l w v := by
  unfold fieldPl at h
  split at h
  · rename_i fs h1
    split at h
    · rename_i f h2
      split at h
      · rename_i d h3
        split at h
        · cases h
        · rename_i h4
          simp at h
          subst h
          have h5 : Und P f.type d := ⟨h3⟩
          simp [Runs, execOp, hx, Instr.field, run_underlying h1, h2, part, asAgg, h5.isAgg, h4, hv]
      · cases h
    · cases h
  · cases h
end
end Go.Pv
