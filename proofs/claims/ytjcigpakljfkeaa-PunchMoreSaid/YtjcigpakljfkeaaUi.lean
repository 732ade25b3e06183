/-
  What this text proves: steps of the layout of bars. It speaks of no program.
-/
import Derived.Test.YtjcigpakljfkeaaUh
import Derived.Test.YtjcigpakljfkeaaDr
set_option linter.unusedVariables false
set_option linter.unusedSimpArgs false

namespace Go.Pv
open Go.RowKit
theorem lay_step {to : Int} {pl : List (Int × Int)} {k : Nat} (hk : k < pl.length) (e : Bool) (A : Int) : layP to (pl.drop k) e A = if e then (A, min (A + (pl.getD k (0, 0)).2) (to - sumLo (pl.drop (k + 1)))) :: layP to (pl.drop (k + 1)) false (min (A + (pl.getD k (0, 0)).2) (to - sumLo (pl.drop (k + 1)))) else layP to (pl.drop (k + 1)) true (min (A + (pl.getD k (0, 0)).2) (to - sumLo (pl.drop (k + 1)))) := by
  rw [List.drop_eq_getElem_cons hk, show pl[k] = pl.getD k (0, 0) by simp [hk]]
  rfl
theorem lay_len (to : Int) : ∀ (pl : List (Int × Int)) (e : Bool) (A : Int), (layP to pl e A).length ≤ pl.length
  | [], _, _ => by simp [layP]
  | p :: r, e, A => by
    cases e
    · have := lay_len to r true (min (A + p.2) (to - sumLo r)); simp only [layP, List.length_cons]; simp; omega
    · have := lay_len to r false (min (A + p.2) (to - sumLo r)); simp only [layP, List.length_cons]; simp; omega
end Go.Pv
