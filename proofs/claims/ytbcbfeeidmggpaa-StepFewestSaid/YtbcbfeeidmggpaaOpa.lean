/-
  What this text proves: an argument that is an array of five bytes is read as five numbers from 0 to 255.
-/
import Derived.Test.YtbcbfeeidmggpaaOpm
set_option linter.unusedVariables false
set_option linter.unusedSimpArgs false
set_option maxRecDepth 100000
namespace Go.Proofs.Ytbcbfeeidmggpaa
open Go.Pv Go.RowKit Go.ChangeShapes Go.WideShapes Go.ChangeAt Go.Joins Go.Deep

theorem open_u8x5 {H : Type} {enc : TypeId × Value → H} {W : World} {base : Nat} {v : Value} {d : DataW H} {p : List MemPlace}
    (hv : Value.okWide Try.prog W .any base 41 v) (h : DataW.Trod enc Try.prog W 0 (fun _ => true) true 41 v d p) :
    ∃ m0 m1 m2 m3 m4, v = .agg #[.int .u8 m0, .int .u8 m1, .int .u8 m2, .int .u8 m3, .int .u8 m4] ∧ ∀ j, 0 ≤ [m0, m1, m2, m3, m4].getD j 0 ∧ [m0, m1, m2, m3, m4].getD j 0 ≤ 255 := by
  simp only [Value.okWide, Try.underlying41] at hv
  obtain ⟨cs, rfl, hsz, -⟩ := hv
  have k5 : Try.prog.cellsOf 41 = 5 := by kernel_rfl
  have k1 : Try.prog.cellsOf 5 = 1 := by kernel_rfl
  rw [k5] at hsz
  obtain ⟨l⟩ := cs
  obtain ⟨u0, u1, u2, u3, u4, rfl⟩ : ∃ u0 u1 u2 u3 u4, l = [u0, u1, u2, u3, u4] := by
    match l, hsz with
    | [u0, u1, u2, u3, u4], _ => exact ⟨u0, u1, u2, u3, u4, rfl⟩
  obtain ⟨fuel, hf⟩ := h
  simp only [Value.cells] at hf
  obtain ⟨ys, n4, -, -, hlen, hys, he⟩ := DataW.trod_array Try.underlying41 hf
  have t0 := he 0 (by decide)
  have t1 := he 1 (by decide)
  have t2 := he 2 (by decide)
  have t3 := he 3 (by decide)
  have t4 := he 4 (by decide)
  rw [k1] at t0 t1 t2 t3 t4
  obtain ⟨m0, rfl, q0⟩ := open_u8 (c := u0) (t0.trans (List.getElem?_eq_getElem (by omega)))
  obtain ⟨m1, rfl, q1⟩ := open_u8 (c := u1) (t1.trans (List.getElem?_eq_getElem (by omega)))
  obtain ⟨m2, rfl, q2⟩ := open_u8 (c := u2) (t2.trans (List.getElem?_eq_getElem (by omega)))
  obtain ⟨m3, rfl, q3⟩ := open_u8 (c := u3) (t3.trans (List.getElem?_eq_getElem (by omega)))
  obtain ⟨m4, rfl, q4⟩ := open_u8 (c := u4) (t4.trans (List.getElem?_eq_getElem (by omega)))
  refine ⟨m0, m1, m2, m3, m4, rfl, fun j => ?_⟩
  match j with
  | 0 => simpa using q0
  | 1 => simpa using q1
  | 2 => simpa using q2
  | 3 => simpa using q3
  | 4 => simpa using q4
  | j + 5 => simp
end Go.Proofs.Ytbcbfeeidmggpaa
