/-
  What this text proves: an argument that is a slice of measurements is read as pairs of integers, a slice of three bytes each as triples.
-/
import Derived.Test.YtagibgjemliadaaVz
import Derived.Test.YtagibgjemliadaaOpr
set_option linter.unusedVariables false
set_option linter.unusedSimpArgs false
set_option maxRecDepth 100000
namespace Go.Pv
/-- Three bytes. -/
def c3 (x : Int × Int × Int) : List Value := [.int .u8 x.1, .int .u8 x.2.1, .int .u8 x.2.2]
def by3 (x : Int × Int × Int) : Prop := (0 ≤ x.1 ∧ x.1 ≤ 255) ∧ (0 ≤ x.2.1 ∧ x.2.1 ≤ 255) ∧ (0 ≤ x.2.2 ∧ x.2.2 ≤ 255)
theorem Row.prs {w : World} {v : Value} {xs : List (Int × Int)} (h : Row pc 2 w v xs) : Prs w v xs := by
  unfold Prs
  exact h
end Go.Pv
namespace Go.Proofs.Ytagibgjemliadaa
open Go.Pv Go.RowKit Go.ChangeShapes Go.WideShapes Go.ChangeAt Go.Joins Go.Deep

theorem open_meas {H : Type} {enc : TypeId × Value → H} {W : World} {base : Nat} {v : Value} {d : DataW H} {p : List MemPlace}
    (hv : Value.okWide Try.prog W .any base 47 v) (h : DataW.Trod enc Try.prog W 0 (fun _ => true) true 47 v d p) : ∃ ms, Prs W v ms := by
  have k1 : Try.prog.cellsOf 3 = 1 := by kernel_rfl
  obtain ⟨xs, hx, -, -⟩ := open_rows (n := 2) pc (fun _ => True) (0, 0) trivial Try.underlying47 (by kernel_rfl) (fun k cs x hx => by
    obtain ⟨z0, z1, n2, -, hlen, g0, g1⟩ := trod_struct2 Try.underlying73 hx
    have k2 : Try.prog.cellsOf 73 = 2 := by kernel_rfl
    rw [k2] at hlen
    obtain ⟨u0, u1, rfl⟩ : ∃ u0 u1, cs = [u0, u1] := by
      match cs, hlen with
      | [u0, u1], _ => exact ⟨u0, u1, rfl⟩
    simp only [k1] at g0 g1
    obtain ⟨m0, rfl⟩ := open_i64 (c := u0) g0
    obtain ⟨m1, rfl⟩ := open_i64 (c := u1) g1
    exact ⟨(m0, m1), rfl, trivial⟩) hv h
  exact ⟨xs, hx.prs⟩
theorem okWide_arr {w : World} {base n : Nat} {e t : TypeId} {v : Value} (ht : Try.prog.underlying t = some (.array n e)) (h : Value.okWide Try.prog w .any base t v) : ∃ cs, v = .agg cs ∧ cs.size = Try.prog.cellsOf t := by
  simp only [Value.okWide, ht] at h
  obtain ⟨cs, h1, h2, _⟩ := h
  exact ⟨cs, h1, h2⟩
theorem open_two {H : Type} {enc : TypeId × Value → H} {W : World} {base : Nat} {v : Value} {d : DataW H} {p : List MemPlace}
    (hv : Value.okWide Try.prog W .any base 57 v) (h : DataW.Trod enc Try.prog W 0 (fun _ => true) true 57 v d p) : ∃ a b, v = .agg #[.int .u8 a, .int .u8 b] ∧ (0 ≤ a ∧ a ≤ 255) ∧ (0 ≤ b ∧ b ≤ 255) := by
  have k1 : Try.prog.cellsOf 5 = 1 := by kernel_rfl
  have k2 : Try.prog.cellsOf 57 = 2 := by kernel_rfl
  obtain ⟨cs, rfl, hsz⟩ := okWide_arr Try.underlying57 hv
  obtain ⟨c0, c1, rfl⟩ : ∃ c0 c1, cs = #[c0, c1] := by
    rw [k2] at hsz
    obtain ⟨l⟩ := cs
    match l, hsz with
    | [c0, c1], _ => exact ⟨c0, c1, rfl⟩
  obtain ⟨fuel, hf⟩ := h
  obtain ⟨ys, n4, -, -, hlen, hys, he⟩ := DataW.trod_array Try.underlying57 hf
  have t0 := he 0 (by decide)
  have t1 := he 1 (by decide)
  rw [k1] at t0 t1
  obtain ⟨m0, rfl, q0⟩ := open_u8 (c := c0) (t0.trans (List.getElem?_eq_getElem (by omega)))
  obtain ⟨m1, rfl, q1⟩ := open_u8 (c := c1) (t1.trans (List.getElem?_eq_getElem (by omega)))
  exact ⟨m0, m1, rfl, q0, q1⟩
theorem open_c3 {H : Type} {enc : TypeId × Value → H} {W : World} {base : Nat} {v : Value} {d : DataW H} {p : List MemPlace}
    (hv : Value.okWide Try.prog W .any base 68 v) (h : DataW.Trod enc Try.prog W 0 (fun _ => true) true 68 v d p) : ∃ xs, Row c3 3 W v xs ∧ (∀ j, by3 (xs.getD j (0, 0, 0))) ∧ (xs = [] ∨ ∃ el sp, d = .slice el sp ∧ el.length = xs.length) := by
  have k1 : Try.prog.cellsOf 5 = 1 := by kernel_rfl
  exact open_rows (n := 3) c3 by3 (0, 0, 0) ⟨by decide, by decide, by decide⟩ Try.underlying68 (by kernel_rfl) (fun k cs x hx => by
    obtain ⟨ys, n4, -, -, hlen, hys, he⟩ := DataW.trod_array Try.underlying69 hx
    have k3 : Try.prog.cellsOf 69 = 3 := by kernel_rfl
    rw [k3] at hlen
    obtain ⟨u0, u1, u2, rfl⟩ : ∃ u0 u1 u2, cs = [u0, u1, u2] := by
      match cs, hlen with
      | [u0, u1, u2], _ => exact ⟨u0, u1, u2, rfl⟩
    have t0 := he 0 (by decide)
    have t1 := he 1 (by decide)
    have t2 := he 2 (by decide)
    rw [k1] at t0 t1 t2
    obtain ⟨m0, rfl, q0⟩ := open_u8 (c := u0) (t0.trans (List.getElem?_eq_getElem (by omega)))
    obtain ⟨m1, rfl, q1⟩ := open_u8 (c := u1) (t1.trans (List.getElem?_eq_getElem (by omega)))
    obtain ⟨m2, rfl, q2⟩ := open_u8 (c := u2) (t2.trans (List.getElem?_eq_getElem (by omega)))
    exact ⟨(m0, m1, m2), rfl, q0, q1, q2⟩) hv h
end Go.Proofs.Ytagibgjemliadaa
