/-
  What this text proves: laws for slices of any one-cell values, over any program.
-/
import Derived.Test.YtbmjigneekodnaaR
namespace Go.Pv
open Go.RowKit
set_option linter.unusedVariables false
set_option linter.unusedSimpArgs false

/-- The call's own slice of values. -/
def OwnV (E : TypeId) (base : Nat) (w : World) (v : Value) (xs : List Value) : Prop := xs.length ≤ maxLen ∧ w.ownsRow base E 1 v xs.length xs
/-- A slice of values that is read. -/
def Vals (w : World) (v : Value) (xs : List Value) : Prop := Sl (fun _ u x => u = x) w v xs
theorem OwnV.nil (E : TypeId) (base : Nat) (w : World) : OwnV E base w (.slice none 0 0) [] := ⟨Nat.zero_le _, World.ownsRow_nil _ _ _ _⟩
theorem OwnV.ex {E : TypeId} {base : Nat} {w w' : World} {v : Value} {xs : List Value} (e : Ex w w') (h : OwnV E base w v xs) : OwnV E base w' v xs :=
  ⟨h.1, h.2.kept e.grownBy (by cases v.ownBlock <;> simp)⟩
theorem OwnV.grownS {E : TypeId} {base b : Nat} {w w' : World} {v : Value} {xs : List Value} (hg : w.grownBy w' (some b)) (hb : b < base) (h : OwnV E base w v xs) : OwnV E base w' v xs :=
  ⟨h.1, h.2.kept hg (by
    cases e : v.ownBlock with
    | none => exact .inl rfl
    | some k => right; have := (h.2.lt k e).1; simp; omega)⟩
theorem OwnV.one {E : TypeId} {base : Nat} {w : World} {v : Value} {xs : List Value} (h : OwnV E base w v xs) : v.oneCell' = true := by
  rcases h.2.2 with ⟨rfl, _⟩ | ⟨g, cap, cur, rfl, _⟩ <;> rfl
theorem Vals.ex {w w' : World} {v : Value} {xs : List Value} (e : Ex w w') (h : Vals w v xs) : Vals w' v xs := by
  obtain ⟨h0, a, cap, h1, h2, h3, h4⟩ := h
  refine ⟨h0, a, cap, h1, h2, h3, fun i h => ?_⟩
  obtain ⟨p, u, h5, h6, h7⟩ := h4 i h
  exact ⟨p, u, h5, e.cell h6, h7⟩
theorem Vals.one {w : World} {v : Value} {xs : List Value} (h : Vals w v xs) : v.oneCell' = true := by
  obtain ⟨_, a, cap, rfl, _⟩ := h; rfl
theorem Vals.len {w : World} {v : Value} {xs : List Value} (h : Vals w v xs) : xs.length ≤ 9223372036854775807 := h.1
section
variable {P : Program} {Q : Exit → Act → World → Prop} {ol rest : List Oper} {l : St} {w : World} {od : Option Nat} {ty : TypeId} {pos : String} {af : Array Edge}
theorem r_mf1 {fn : Fn} {x : Operand} {u : Value} (h : ev l x = u) : Runs P ⟨od, .makeFunc fn #[x] #[], ty, pos, af, none⟩ l w (.func fn #[u] #[]) := by
  have := r_makeFunc (P := P) (od := od) (ty := ty) (pos := pos) (af := af) (w := w) (l := l) (fn := fn) (first := [x]) (captured := []) (a := [u]) (b := []) (by simp [evs, h]) rfl
  exact this
theorem r_mfc {fn : Fn} {x : Operand} {u : Value} (h : ev l x = u) : Runs P ⟨od, .makeFunc fn #[] #[x], ty, pos, af, none⟩ l w (.func fn #[] #[u]) := by
  have := r_makeFunc (P := P) (od := od) (ty := ty) (pos := pos) (af := af) (w := w) (l := l) (fn := fn) (first := []) (captured := [x]) (a := []) (b := [u]) rfl (by simp [evs, h])
  exact this
end
attribute [irreducible] OwnV Vals
end Go.Pv
