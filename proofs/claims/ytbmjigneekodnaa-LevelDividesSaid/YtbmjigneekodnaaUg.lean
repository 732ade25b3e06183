/-
  What this text proves: more laws over any program: slices of pairs read field by field, max and min of two, a struct's field by value, two results in cells, two pairs appended.
-/
import Derived.Laws.Small
import Derived.Test.YtbmjigneekodnaaMd
import Derived.Test.YtbmjigneekodnaaMath
set_option linter.unusedVariables false
set_option linter.unusedSimpArgs false

namespace Go.Pv
open Go.RowKit
section
variable {P : Program} {ol : List Oper} {Q : Exit → Act → World → Prop} {R : Act → Prop} {rest : List Oper} {l : St} {w : World} {ty : TypeId} {pos : String} {af : Array Edge} {od : Option Nat}
theorem Own.built {E : TypeId} {base b : Nat} {w : World} {m : Int} (h : Bx w b [.int .i64 m] E) (hb : base ≤ b) : Own E base w (.slice (some ⟨b, 0, none⟩) 1 1) [m] := by
  unfold Own
  unfold Bx at h
  exact ⟨(by unfold maxLen; simp), by simp, .inr ⟨b, 1, _, rfl, hb, h, Nat.le_refl _, by decide, rfl, rfl⟩⟩
theorem IntsK.built {k : IntKind} {w : World} {b : Nat} {E : TypeId} {xs : List Int} {n : Nat} (h : Bx w b (xs.map (Value.int k)) E) (hn : n = xs.length) (hm : xs.length ≤ 1000) : IntsK k w (.slice (some ⟨b, 0, none⟩) n n) xs := by
  subst hn
  unfold IntsK Sl
  refine ⟨by unfold maxLen; omega, some ⟨b, 0, none⟩, xs.length, rfl, Nat.le_refl _, by unfold maxLen; omega, fun i hi => ⟨⟨b, 0, none⟩, Value.int k xs[i], rfl, ?_, rfl⟩⟩
  have := Bx.cells h
  unfold Cells at this
  exact this i (.int k xs[i]) (by simp [hi])
theorem Prs.built {w : World} {b : Nat} {E : TypeId} {xs : List (Int × Int)} {n : Nat} (h : Bx w b (xs.flatMap pc) E) (hn : n = xs.length) (hm : xs.length ≤ 1000) : Prs w (.slice (some ⟨b, 0, none⟩) n n) xs := by
  subst hn
  unfold Prs
  refine ⟨by unfold maxLen; omega, some ⟨b, 0, none⟩, xs.length, rfl, Nat.le_refl _, by unfold maxLen; omega, fun i hi => ⟨_, rfl, ?_⟩⟩
  have := Bx.cells h
  unfold Cells at this ⊢
  intro j v hj
  have h2 := this (i * 2 + j) v (pc_flat_get xs i hi j v hj)
  have e : ((⟨b, 0, none⟩ : Addr).add (i * 2)).add j = (⟨b, 0, none⟩ : Addr).add (i * 2 + j) := by
    rw [add_mk, add_mk, add_mk]; congr 1; omega
  rw [e]; exact h2
variable {T : TypeId}
theorem r_max2 {x y : Operand} {ts : Array TypeId} {m n : Int} (hx : ev l x = .int .i64 m) (hy : ev l y = .int .i64 n) : Runs P ⟨od, .call { callee := .builtin .max, args := #[x, y], argTypes := ts }, ty, pos, af, none⟩ l w (.int .i64 (max m n)) := by
  have e : (if n > m then n else m) = max m n := by rw [Int.max_def]; split <;> split <;> omega
  simp [Runs, execOp, resolve, invoke, builtin, hx, hy, e, run_max_int2]
theorem r_build0 {n m b : Nat} {zs : List Value} [hF : Flat P T n] [hz : Sz P T (.agg zs.toArray) m b] (hl : zs.length = n) : Runs P ⟨od, .build T #[], ty, pos, af, none⟩ l w (.agg zs.toArray) :=
  r_build (ps := []) (qs := []) rfl hl rfl rfl
end
theorem ext_getD {α : Type} {d : α} {a b : List α} (hl : a.length = b.length) (h : ∀ j, j < a.length → a.getD j d = b.getD j d) : a = b := by
  apply List.ext_getElem hl
  intro j h1 h2
  have := h j h1
  simpa [h1, h2] using this
theorem Ret.monoU {P : Program} {f : FuncId} {vs : List Value} {w : World} {φ ψ : Value → World → Prop} (h : Ret P f vs w φ) (k : ∀ v w', Ex w w' → φ v w' → ψ v w') : Ret P f vs w ψ := by
  unfold Ret at *
  refine Calls.mono h ?_
  rintro e w' ⟨v, rfl, h1, h2⟩
  exact ⟨v, rfl, k v w' h2 h1, h2⟩
end Go.Pv
