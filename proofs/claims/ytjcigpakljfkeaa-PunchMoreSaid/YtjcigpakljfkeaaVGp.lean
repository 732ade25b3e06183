/-
  What this text proves: a piece of a function named by a path into its body, and what it is left with. Over any program.
-/
import Derived.Test.YtjcigpakljfkeaaR
set_option linter.unusedVariables false
set_option linter.unusedSimpArgs false
namespace Go.Pv
open Go.RowKit
def cGo : List Nat → Code → Code
  | 0 :: p, .seq _ y => cGo p y
  | 1 :: p, .seq x _ => cGo p x
  | 2 :: p, .block _ c => cGo p c
  | 3 :: p, .loop c => cGo p c
  | _, c => c
theorem with_code {ρ : Option Nat} {P : Program} {Q : Exit → Act → World → Prop} {a b : Code} {l : St} {w : World} (e : a = b) (h : C ρ P b Q l w) : C ρ P a Q l w := e ▸ h
theorem c_agree {ρ : Option Nat} {P : Program} {Q : Exit → Act → World → Prop} {y : Code} {n : Nat} {ds : List Nat} {ps : List (Nat × Value)} {l : St} {w : World} (h : ∀ u, C ρ P y Q ⟨n, u, ps, ds⟩ w) (ha : agree l ps) (hn : fin l = (n, ds)) : C ρ P y Q l w := by
  have := h (nth l)
  unfold C at this ⊢
  rw [fin_act ha hn]; exact this
theorem q_end1 {Q : Exit → Act → World → Prop} {e : Exit} {n : Nat} {ds : List Nat} {ps : List (Nat × Value)} {w : World} {l : St} (hQ : ∀ u, Q e (act ⟨n, u, ps, ds⟩) w) (ha : agree l ps) (hn : fin l = (n, ds)) : Q e (act l) w := by
  rw [fin_act ha hn]; exact hQ _
end Go.Pv
