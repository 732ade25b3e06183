/-
  What this text proves: steps of the error of a spool and measurements. It speaks of no program. Conditions: as stated in each.
-/
import Derived.Test.YtagibgjemliadaaVra
import Derived.Test.YtagibgjemliadaaVe
set_option linter.unusedVariables false
set_option linter.unusedSimpArgs false

namespace Go.Proofs.Ytagibgjemliadaa
open Go.Pv Go.RowKit
def MSt (co ti lo hi off : Int) (ms : List (Int × Int)) (e : Int) (k : Nat) : Prop := (e = 0 ∧ (spOk co ti lo hi ∧ 0 ≤ off ∧ off ≤ 1000000) ∧ ms.length ≤ 50 ∧ ∀ j, j < k → msOk (ms.getD j (0, 0))) ∨ (e ≠ 0 ∧ mErr co ti lo hi off ms = e)
theorem MSt.start {co ti lo hi off : Int} {ms : List (Int × Int)} {e : Int} (h : (spErr co ti lo hi = 0 ∧ (0 ≤ off ∧ off ≤ 1000000) ∧ ms.length ≤ 50 ∧ e = 0) ∨ (spErr co ti lo hi = 0 ∧ (0 ≤ off ∧ off ≤ 1000000) ∧ 50 < ms.length ∧ e = 5) ∨ (spErr co ti lo hi = 0 ∧ ¬ (0 ≤ off ∧ off ≤ 1000000) ∧ e = 3) ∨ (¬ spErr co ti lo hi = 0 ∧ e = spErr co ti lo hi)) : MSt co ti lo hi off ms e 0 := by
  have h1 := sp_err co ti lo hi
  unfold MSt
  rcases h with ⟨a, b, c, rfl⟩ | ⟨a, b, c, rfl⟩ | ⟨a, b, rfl⟩ | ⟨a, rfl⟩
  · rcases h1 with ⟨s, e⟩ | ⟨s, e⟩
    · exact .inl ⟨rfl, ⟨s, b⟩, c, fun j hj => absurd hj (Nat.not_lt_zero _)⟩
    · omega
  · rcases h1 with ⟨s, e⟩ | ⟨s, e⟩
    · exact .inr ⟨by omega, by unfold mErr; rw [if_pos ⟨s, b⟩, if_pos c]⟩
    · omega
  · exact .inr ⟨by omega, by unfold mErr; rw [if_neg fun h => b h.2]⟩
  · rcases h1 with ⟨s, e⟩ | ⟨s, e⟩
    · exact absurd e a
    · exact .inr ⟨a, by unfold mErr; rw [if_neg fun h => s h.1, e]⟩
theorem MSt.good {co ti lo hi off : Int} {ms : List (Int × Int)} {e : Int} {k : Nat} (h : MSt co ti lo hi off ms e k) (hm : msOk (ms.getD k (0, 0))) : MSt co ti lo hi off ms e (k + 1) := by
  rcases h with ⟨a, b, c, d⟩ | h
  · refine .inl ⟨a, b, c, fun j hj => ?_⟩
    by_cases e : j = k
    · subst e; exact hm
    · exact d j (by omega)
  · exact .inr h
theorem MSt.bad {co ti lo hi off : Int} {ms : List (Int × Int)} {e : Int} {k : Nat} (h : MSt co ti lo hi off ms e k) (h0 : e = 0) (hk : k < ms.length) (hm : ¬ msOk (ms.getD k (0, 0))) : MSt co ti lo hi off ms 3 (k + 1) := by
  rcases h with ⟨a, b, c, d⟩ | h
  · exact .inr ⟨by omega, by unfold mErr; rw [if_pos b, if_neg (by omega), if_neg fun h => hm (h k hk)]⟩
  · exact absurd h0 h.1
theorem MSt.fin {co ti lo hi off : Int} {ms : List (Int × Int)} {e : Int} {k : Nat} (h : MSt co ti lo hi off ms e k) (hx : e ≠ 0 ∨ k = ms.length) : e = mErr co ti lo hi off ms := by
  rcases h with ⟨a, b, c, d⟩ | h
  · have hk : k = ms.length := by omega
    subst hk
    rw [a]
    unfold mErr
    rw [if_pos b, if_neg (by omega)]; exact (if_pos d).symm
  · exact h.2.symm
end Go.Proofs.Ytagibgjemliadaa
