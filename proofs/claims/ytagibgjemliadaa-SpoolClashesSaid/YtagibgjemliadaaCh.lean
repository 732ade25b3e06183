/-
  What this text proves: a piece of a function named by a path, and what it is left with. Over any program.
-/
import Derived.Test.YtagibgjemliadaaY
set_option linter.unusedVariables false
set_option linter.unusedSimpArgs false

namespace Go.Pv
open Go.RowKit
def cGo : List Nat → Code → Code
  | 0 :: p, .seq _ y => cGo p y
  | 1 :: p, .seq x _ => cGo p x
  | 2 :: p, .block _ c => cGo p c
  | 3 :: p, .loop c => cGo p c
  | _, c => c
theorem with_code {P : Program} {Q : Exit → Act → World → Prop} {a b : Code} {l : St} {w : World} (e : a = b) (h : C P b Q l w) : C P a Q l w := e ▸ h
theorem c_agree {P : Program} {Q : Exit → Act → World → Prop} {y : Code} {n : Nat} {ps : List (Nat × Value)} {l : St} {w : World} (h : ∀ u, C P y Q ⟨n, u, ps⟩ w) (ha : agree l ps) (hn : l.n = n) : C P y Q l w := by
  unfold C at h ⊢
  rw [act_agree l ps ha, hn]; exact h _
theorem q_end {Q : Exit → Act → World → Prop} {e : Exit} {n : Nat} {ps : List (Nat × Value)} {w0 w : World} {l : St} (hQ : ∀ u w', Ex w0 w' → Q e (act ⟨n, u, ps⟩) w') (ha : agree l ps) (hn : l.n = n) (he : Ex w0 w) : Q e (act l) w := by
  rw [act_agree l ps ha, hn]; exact hQ _ _ he
end Go.Pv
