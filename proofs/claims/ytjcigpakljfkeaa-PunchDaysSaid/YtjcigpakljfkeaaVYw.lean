/-
  What this text proves: an argument that is a paper by numbers is read as five bytes.
-/
import Derived.Test.YtjcigpakljfkeaaVYz
set_option linter.unusedVariables false
set_option linter.unusedSimpArgs false
set_option maxRecDepth 100000
namespace Go.Proofs.Ytjcigpakljfkeaa
open Go.Pv Go.RowKit Go.ChangeShapes Go.WideShapes Go.ChangeAt Go.Joins Go.Deep

theorem open_paperN {H : Type} {enc : TypeId × Value → H} {W : World} {base : Nat} {v : Value} {d : DataW H} {p : List MemPlace}
    (hv : Value.okWide Try.prog W .any base 86 v) (h : DataW.Trod enc Try.prog W 0 (fun _ => true) true 86 v d p) :
    ∃ g0 g1 lo na sh, v = .agg #[.int .u8 g0, .int .u8 g1, .int .u8 lo, .int .u8 na, .int .u8 sh] ∧ (0 ≤ g0 ∧ g0 ≤ 255) ∧ (0 ≤ g1 ∧ g1 ≤ 255) ∧ (0 ≤ lo ∧ lo ≤ 255) ∧ (0 ≤ na ∧ na ≤ 255) ∧ (0 ≤ sh ∧ sh ≤ 255) := by
  obtain ⟨cs, rfl, hsz⟩ := okWide_struct Try.underlying86 hv
  have k5 : Try.prog.cellsOf 86 = 5 := by kernel_rfl
  obtain ⟨c0, c1, c2, c3, c4, rfl⟩ := array5 (hsz.trans k5)
  obtain ⟨fuel, hf⟩ := h
  obtain ⟨y0, y1, y2, y3, n, -, -, h0, h1, h2, h3⟩ := trod_struct4 Try.underlying86 hf
  have k1 : Try.prog.cellsOf 5 = 1 := by kernel_rfl
  have k2 : Try.prog.cellsOf 82 = 2 := by kernel_rfl
  simp only [Value.cells, k1, k2] at h0 h1 h2 h3
  obtain ⟨ys, n4, -, -, hlen, hys, he⟩ := DataW.trod_array Try.underlying82 h0
  have t0 := he 0 (by decide)
  have t1 := he 1 (by decide)
  rw [k1] at t0 t1
  obtain ⟨g0, rfl, q0⟩ := open_u8 (c := c0) (t0.trans (List.getElem?_eq_getElem (by omega)))
  obtain ⟨g1, rfl, q1⟩ := open_u8 (c := c1) (t1.trans (List.getElem?_eq_getElem (by omega)))
  obtain ⟨lo, rfl, b0⟩ := open_u8 (c := c2) h1
  obtain ⟨na, rfl, b1⟩ := open_u8 (c := c3) h2
  obtain ⟨sh, rfl, b2⟩ := open_u8 (c := c4) h3
  exact ⟨g0, g1, lo, na, sh, rfl, q0, q1, b0, b1, b2⟩
end Go.Proofs.Ytjcigpakljfkeaa
