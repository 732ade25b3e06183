/-
  What this text proves: laws for arrays, for slices of pairs of bytes, and for a return of four results, over any program.
-/
import Derived.Test.YtbmjigneekodnaaFam
import Derived.Test.YtbmjigneekodnaaZ
set_option linter.unusedVariables false
set_option linter.unusedSimpArgs false

namespace Go.Pv
open Go.RowKit
/-- A slice of pairs of bytes that is read. -/
def Prs8 (w : World) (v : Value) (xs : List (Int × Int)) : Prop :=
  xs.length ≤ maxLen ∧ ∃ a cap, v = .slice a xs.length cap ∧ xs.length ≤ cap ∧ cap ≤ maxLen ∧ ∀ i, i < xs.length → ∃ p b o, a = some p ∧ p.add (i * 2) = ⟨b, o, none⟩ ∧ w.cell? ⟨b, o + 0, none⟩ = some (.int .u8 (xs.getD i (0, 0)).1) ∧ w.cell? ⟨b, o + 1, none⟩ = some (.int .u8 (xs.getD i (0, 0)).2)
theorem Prs8.ex {w w' : World} {v : Value} {xs : List (Int × Int)} (e : Ex w w') (h : Prs8 w v xs) : Prs8 w' v xs := by
  obtain ⟨h0, a, cap, h1, h2, h3, h4⟩ := h
  refine ⟨h0, a, cap, h1, h2, h3, fun i h => ?_⟩
  obtain ⟨p, b, o, h5, h6, h7, h8⟩ := h4 i h
  exact ⟨p, b, o, h5, h6, e.cell h7, e.cell h8⟩
theorem Prs8.len {w : World} {v : Value} {xs : List (Int × Int)} (h : Prs8 w v xs) : xs.length ≤ 9223372036854775807 := h.1
theorem Prs8.one {w : World} {v : Value} {xs : List (Int × Int)} (h : Prs8 w v xs) : v.oneCell' = true := by
  obtain ⟨_, a, cap, rfl, _⟩ := h; rfl
section
variable {P : Program} {Q : Exit → Act → World → Prop} {R : Act → Prop} {ol rest : List Oper} {l : St} {w : World} {od : Option Nat} {ty : TypeId} {pos : String} {af : Array Edge}
/-- The address of an array's element. -/
theorem r_indexArr {x ix : Operand} {T e : TypeId} {n b o i : Nat} {k : IntKind} {z : Value} {s bb : Nat} [h : Und P T (.array n e)] [hs : Sz P e z s bb] (hx : ev l x = .pointer (some ⟨b, o, none⟩)) (hi : ev l ix = .int k (i : Int)) (hlt : i < n) :
    Runs P ⟨od, .indexAddr T x ix, ty, pos, af, none⟩ l w (.pointer (some ⟨b, o + i * s, none⟩)) := by
  simp [Runs, execOp, hx, hi, Instr.indexAt, Instr.sureAddr, asIntOf, h.run, hs.run, hlt, add_mk]
theorem r_remE {x y : Operand} {T T2 : TypeId} {m n : Int} (hx : ev l x = .int .i64 m) (hy : ev l y = .int .i64 n) (hn : 1 ≤ n) (hm : 0 ≤ m) : Runs P ⟨od, .binOp .rem T x y T2, ty, pos, af, none⟩ l w (.int .i64 (m % n)) := by
  have := r_rem (P := P) (od := od) (ty := ty) (pos := pos) (af := af) (T := T) (T2 := T2) (w := w) hx hy hn
  rwa [Int.tmod_eq_emod_of_nonneg hm] at this
theorem OwnV.at {T : TypeId} {base : Nat} {w : World} {v : Value} {xs : List Value} {i : Nat} (h : OwnV T base w v xs) (hi : i < xs.length) : ∃ g cap, v = .slice (some ⟨g, 0, none⟩) xs.length cap ∧ v.ownBlock = some g ∧ base ≤ g ∧ w.cell? ⟨g, i, none⟩ = some (xs.getD i undef) := by
  unfold OwnV at h
  obtain ⟨h0, h1⟩ := h
  have h2 := h1.2
  rcases h2 with ⟨_, h2⟩ | ⟨g, cap, cur, rfl, hb, _⟩
  · omega
  · refine ⟨g, cap, rfl, rfl, hb, ?_⟩
    rw [h1.cellAt i (by omega)]
    simp [hi]
end
attribute [irreducible] Prs8
end Go.Pv
