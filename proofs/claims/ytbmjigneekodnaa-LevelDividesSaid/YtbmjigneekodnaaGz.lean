/-
  What this text proves: reading a slice of rows among operations while others write elsewhere. Over any program.
-/
import Derived.Test.YtbmjigneekodnaaGn
import Derived.Test.YtbmjigneekodnaaZ
set_option linter.unusedVariables false
set_option linter.unusedSimpArgs false
namespace Go.Pv
open Go Go.RowKit
theorem Cells.below {B : Nat} {w w' : World} {b o : Nat} {c : List Value} (e : Below B w w') (hb : b < B) (h : Cells w ⟨b, o, none⟩ c) : Cells w' ⟨b, o, none⟩ c := by
  unfold Cells at h ⊢
  intro j v hj
  have h1 := h j v hj
  have h2 := e.block b hb
  rw [add_mk] at h1 ⊢
  simp only [World.cell?, h2] at h1 ⊢
  exact h1
section
variable {P : Program} {ol rest : List Oper} {R : Act → Prop} {l : St} {w : World} {ρ : World → World → Prop} {α : Type} {f : α → List Value} {n : Nat} {ty : TypeId} {pos : String} {af : Array Edge} {T : TypeId}
theorem WMR_indexRw {bo : Bool} {rest : List (Bool × Oper)} {d : Nat} {x ix : Operand} {e : TypeId} {v : Value} {i : Nat} {k : IntKind} {z : Value} {b : Nat} {xs : List α} (dv : α) (hf : ∀ x, (f x).length = n) (hn : 0 < n) [h : Und P T (.slice e)] [hs : Sz P e z n b] (hx : ev l x = v) (hv : Row f n w v xs) (hi : ev l ix = .int k (i : Int)) (hlt : i < xs.length)
    (K : ∀ b o, b < w.heap.size → Cells w ⟨b, o, none⟩ (f (xs.getD i dv)) → WMR ρ P w ol R rest (upd l d (.pointer (some ⟨b, o, none⟩)))) : WMR ρ P w ol R ((bo, ⟨some d, .indexAddr T x ix, ty, pos, af, none⟩) :: rest) l := by
  obtain ⟨a, m, c, b, o, rfl, h1, h2, h5⟩ := row_at dv hf hn hv hlt
  refine WMR_op rfl rfl (fun w' _ => by have := r_indexAddr (P := P) (T := T) (od := some d) (ty := ty) (pos := pos) (af := af) (w := w') (e := e) hx hi h1; rwa [h2] at this) (K _ _ ?_ h5)
  have hl := hf (xs.getD i dv)
  unfold Cells at h5
  have := cell_lt (h5 0 _ (List.getElem?_eq_getElem (by omega)))
  rwa [add_mk] at this
end
end Go.Pv
