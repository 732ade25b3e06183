/-
  What this text proves: an argument that is a sheet is read as an error bound and lists of positions; a span as two numbers.
-/
import Derived.Test.YtbcbfeeidmggpaaFacts
import Derived.OpenShut
import Derived.Deep.Matrix
import Derived.Lib.SmallJoins
set_option linter.unusedVariables false
set_option maxRecDepth 100000
namespace Go.Proofs.Ytbcbfeeidmggpaa
open Go.Pv Go.RowKit Go.ChangeShapes Go.WideShapes Go.ChangeAt Go.Joins Go.Deep

theorem wf64 {n : Int} (h : (Lit.int .i64 n).wf = true) : -9223372036854775808 ≤ n ∧ n ≤ 9223372036854775807 := by
  simpa [Lit.wf, IntKind.min, IntKind.max, IntKind.signed, IntKind.bits] using h
theorem open_sheet {H : Type} {enc : TypeId × Value → H} {W : World} {base : Nat} {v : Value} {d : DataW H} {p : List MemPlace}
    (hv : Value.okWide Try.prog W .any base 24 v) (h : DataW.Trod enc Try.prog W 0 (fun _ => true) true 24 v d p) :
    ∃ off u xss, v = .agg #[.int .i64 off, u] ∧ (-9223372036854775808 ≤ off ∧ off ≤ 9223372036854775807) ∧ Intss W u xss := by
  obtain ⟨v0, v1, y0, y1, n, rfl, -, -, h0, h1⟩ := open_agg2 Try.underlying24 (by kernel_rfl) (by kernel_rfl) hv h
  obtain ⟨off, e0, -, hw⟩ := DataW.trod_int Try.underlying3 h0
  have e0 : v0 = .int .i64 off := by simpa using e0
  subst e0
  rcases open_int_rows Try.underlying22 Try.underlying25 Try.underlying3 (by kernel_rfl) (by kernel_rfl) h1 with ⟨e1, -⟩ | ⟨a, len, cap, A, L, C, Z, e1, -, hl, hm, -, hall⟩
  · have e1 : v1 = .slice none 0 0 := by simpa using e1
    subst e1
    refine ⟨off, _, [], rfl, wf64 hw, ?_⟩
    unfold Intss Sl
    exact ⟨Nat.zero_le _, none, 0, rfl, Nat.le_refl _, Nat.zero_le _, fun i hi => absurd hi (by simp)⟩
  · have e1 : v1 = .slice (some a) len cap := by simpa using e1
    subst e1
    refine ⟨off, _, (List.range len).map fun r => (Z r).take (L r), rfl, wf64 hw, ?_⟩
    unfold Intss Sl
    refine ⟨by simp; omega, some a, cap, by simp, by simpa using hl, hm, fun i hi => ?_⟩
    have hi' : i < len := by simpa using hi
    obtain ⟨c1, c2, c3, c4, c5, c6, c7⟩ := hall i (by omega)
    refine ⟨a, _, rfl, c1, ?_⟩
    have e2 : ((List.range len).map fun r => (Z r).take (L r))[i] = (Z i).take (L i) := by simp
    rw [e2]
    have e3 : ((Z i).take (L i)).length = L i := by simp; omega
    unfold Ints IntsK Sl
    refine ⟨by omega, A i, C i, by rw [e3], by omega, c3, fun j hj => ?_⟩
    cases hA : A i with
    | none => have := c6 hA; omega
    | some a' =>
      refine ⟨a', _, rfl, (c7 a' hA).2 j (by omega), ?_⟩
      unfold IntR
      have hj2 : j < L i := by omega
      simp [List.getElem?_eq_getElem (show j < (Z i).length by omega)]
theorem open_span {H : Type} {enc : TypeId × Value → H} {W : World} {base : Nat} {v : Value} {d : DataW H} {p : List MemPlace}
    (hv : Value.okWide Try.prog W .any base 48 v) (h : DataW.Trod enc Try.prog W 0 (fun _ => true) true 48 v d p) :
    ∃ lo hi, v = .agg #[.int .i64 lo, .int .i64 hi] ∧ (-9223372036854775808 ≤ lo ∧ lo ≤ 9223372036854775807) ∧ (-9223372036854775808 ≤ hi ∧ hi ≤ 9223372036854775807) := by
  obtain ⟨v0, v1, y0, y1, n, rfl, -, -, h0, h1⟩ := open_agg2 Try.underlying48 (by kernel_rfl) (by kernel_rfl) hv h
  obtain ⟨lo, e0, -, hw⟩ := DataW.trod_int Try.underlying3 h0
  have e0 : v0 = .int .i64 lo := by simpa using e0
  subst e0
  obtain ⟨hi, e1, -, hw1⟩ := DataW.trod_int Try.underlying3 h1
  have e1 : v1 = .int .i64 hi := by simpa using e1
  subst e1
  exact ⟨lo, hi, rfl, wf64 hw, wf64 hw1⟩
end Go.Proofs.Ytbcbfeeidmggpaa
