/-
  What this text proves: an argument that is a slice of elements of n cells is read as rows. No condition beyond what stands in each.
-/
import Derived.Test.YtlphfobpheefkaaFacts
import Derived.Test.YtlphfobpheefkaaGn
import Derived.OpenShut
import Derived.Deep.Matrix
import Derived.Lib.SmallJoins
import Derived.Deep.Strs
import Derived.Laws.IdiomArrays
set_option linter.unusedVariables false
set_option linter.unusedSimpArgs false
set_option maxRecDepth 100000
namespace Go.Proofs.Ytlphfobpheefkaa
open Go.Pv Go.RowKit Go.ChangeShapes Go.WideShapes Go.ChangeAt Go.Joins Go.Deep

theorem open_rows {α : Type} {H : Type} {enc : TypeId × Value → H} {W : World} {base n : Nat} {T e : TypeId} {v : Value} {d : DataW H} {p : List MemPlace} (f : α → List Value) (q : α → Prop) (dv : α) (hq : q dv)
    (ht : Try.prog.underlying T = some (.slice e)) (hc : Try.prog.cellsOf e = n) (hel : ∀ (k : Nat) (cs : List Value) (x : DataW H × List MemPlace), DataW.trod enc Try.prog W 0 (fun _ => true) true k e cs = some x → ∃ y, cs = f y ∧ q y)
    (hv : Value.okWide Try.prog W .any base T v) (h : DataW.Trod enc Try.prog W 0 (fun _ => true) true T v d p) : ∃ xs : List α, Row f n W v xs ∧ (∀ j, q (xs.getD j dv)) ∧ (xs = [] ∨ ∃ el sp, d = .slice el sp ∧ el.length = xs.length) := by
  obtain ⟨a1, len0, cap0, rfl⟩ := okWide_slice ht hv
  obtain ⟨fuel, hf⟩ := h
  rcases open_slice ht hf with ⟨e1, -⟩ | ⟨a, len, cap, m, n3, D, Pl, e1, -, hl, hm, hmm, hde, hall⟩
  · have e1 : Value.slice a1 len0 cap0 = .slice none 0 0 := by simpa [Value.cells] using e1
    rw [e1]
    exact ⟨[], Row.nil _ _ _ (Nat.zero_le _), fun j => by simpa using hq, .inl rfl⟩
  · have e1 : Value.slice a1 len0 cap0 = .slice (some a) len cap := by simpa [Value.cells] using e1
    rw [e1]
    have hmm : m = cap := by simpa using hmm
    subst hmm
    rw [hc] at hall
    have each : ∀ i, i < len → ∃ y : α, Cells W (a.add (i * n)) (f y) ∧ q y := by
      intro i hi
      obtain ⟨cs', hcs, htr⟩ := hall i (by omega)
      obtain ⟨y, rfl, hy⟩ := hel _ _ _ htr
      obtain ⟨_, hlen, hget⟩ := World.cells?_some hcs
      refine ⟨y, ?_, hy⟩
      unfold Cells
      intro j u hj
      have hjn : j < n := by
        rcases Nat.lt_or_ge j n with h | h
        · exact h
        · rw [List.getElem?_eq_none (by omega)] at hj; cases hj
      rw [hget j hjn]; exact hj
    refine ⟨(List.range len).map fun i => if h : i < len then Classical.choose (each i h) else dv, ?_, fun j => ?_, .inr ⟨_, _, congrArg Prod.fst hde, by simp⟩⟩
    · refine ⟨by simp; unfold maxLen at *; omega, some a, m, by simp, by simpa using hl, hm, fun i hi => ⟨a, rfl, ?_⟩⟩
      have hi2 : i < len := by simpa using hi
      have := (Classical.choose_spec (each i hi2)).1
      simpa [hi2] using this
    · by_cases hj : j < len
      · have := (Classical.choose_spec (each j hj)).2
        simpa [List.getD, hj] using this
      · have : ((List.range len).map fun i => if h : i < len then Classical.choose (each i h) else dv).getD j dv = dv := by
          simp [List.getD, hj]
        rw [this]; exact hq
end Go.Proofs.Ytlphfobpheefkaa
