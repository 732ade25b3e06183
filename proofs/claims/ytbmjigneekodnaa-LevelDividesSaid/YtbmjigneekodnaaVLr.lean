/-
  What this text proves: laws for structs of structs: two of two cells each, and one cell and one of two cells. Over any program.
-/
import Derived.Test.YtbmjigneekodnaaVg
set_option linter.unusedVariables false
set_option linter.unusedSimpArgs false

namespace Go.Pv
open Go.RowKit
section
variable {P : Program} {l : St} {w : World} {od : Option Nat} {ty : TypeId} {pos : String} {af : Array Edge}
/-- A struct of two structs of two cells. -/
theorem r_bldD {n m : Nat} {z0 z1 z2 z3 v0 v1 v2 v3 : Value} {x0 x1 : Operand} {T : TypeId} [hz : Sz P T (.agg #[z0, z1, z2, z3]) n m] (hp : plcs P T = some [(0, 2), (2, 2)]) (h0 : ev l x0 = .agg #[v0, v1]) (h1 : ev l x1 = .agg #[v2, v3]) :
    Runs P ⟨od, .build T #[(0, x0), (1, x1)], ty, pos, af, none⟩ l w (.agg #[v0, v1, v2, v3]) := by
  have := r_buildN (P := P) (l := l) (w := w) (od := od) (ty := ty) (pos := pos) (af := af) (zs := [z0, z1, z2, z3]) (ps := [(0, x0), (1, x1)]) (qs := [(0, .agg #[v0, v1]), (1, .agg #[v2, v3])]) (c := [v0, v1, v2, v3]) (T := T) hp (by simp [evps, h0, h1]) ?_
  · exact this
  · have ha : (Value.agg #[v0, v1]).cells = #[v0, v1] := rfl
    have hb : (Value.agg #[v2, v3]).cells = #[v2, v3] := rfl
    simp [Instr.fill, ha, hb]
/-- A struct's zero. -/
theorem r_bld0 {n m : Nat} {zs : List Value} {pl : List (Nat × Nat)} {T : TypeId} [hz : Sz P T (.agg zs.toArray) n m] (hp : plcs P T = some pl) : Runs P ⟨od, .build T #[], ty, pos, af, none⟩ l w (.agg zs.toArray) :=
  r_buildN (P := P) (l := l) (w := w) (od := od) (ty := ty) (pos := pos) (af := af) (zs := zs) (ps := []) (qs := []) (c := zs) (T := T) hp rfl rfl
/-- A struct of one cell and a struct of two cells. -/
theorem r_bldE {n m : Nat} {z0 z1 z2 u v0 v1 : Value} {x0 x1 : Operand} {T : TypeId} [hz : Sz P T (.agg #[z0, z1, z2]) n m] (hp : plcs P T = some [(0, 1), (1, 2)]) (h0 : ev l x0 = u) (h1 : ev l x1 = .agg #[v0, v1]) (hu : u.oneCell' = true) :
    Runs P ⟨od, .build T #[(0, x0), (1, x1)], ty, pos, af, none⟩ l w (.agg #[u, v0, v1]) := by
  have := r_buildN (P := P) (l := l) (w := w) (od := od) (ty := ty) (pos := pos) (af := af) (zs := [z0, z1, z2]) (ps := [(0, x0), (1, x1)]) (qs := [(0, u), (1, .agg #[v0, v1])]) (c := [u, v0, v1]) (T := T) hp (by simp [evps, h0, h1]) ?_
  · exact this
  · have hc := cells_one hu
    have ha : (Value.agg #[v0, v1]).cells = #[v0, v1] := rfl
    simp [Instr.fill, hc, ha]
end
end Go.Pv
