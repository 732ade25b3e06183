/-
  What this text proves: an argument that is a coding by numbers is read as a row of triples of bytes, pairs of bytes as two integers. Conditions: none.
-/
import Derived.Test.YtbmjigneekodnaaVMz
set_option linter.unusedVariables false
set_option linter.unusedSimpArgs false
set_option maxRecDepth 100000
namespace Go.Pv
/-- Three bytes. -/
def c3 (x : Int × Int × Int) : List Value := [.int .u8 x.1, .int .u8 x.2.1, .int .u8 x.2.2]
def by3 (x : Int × Int × Int) : Prop := (0 ≤ x.1 ∧ x.1 ≤ 255) ∧ (0 ≤ x.2.1 ∧ x.2.1 ≤ 255) ∧ (0 ≤ x.2.2 ∧ x.2.2 ≤ 255)
end Go.Pv
namespace Go.Proofs.Ytbmjigneekodnaa
open Go.Pv Go.RowKit Go.ChangeShapes Go.WideShapes Go.ChangeAt Go.Joins Go.Deep

theorem wf8 {n : Int} (h : (Lit.int .u8 n).wf = true) : 0 ≤ n ∧ n ≤ 255 := by
  simpa [Lit.wf, IntKind.min, IntKind.max, IntKind.signed, IntKind.bits] using h
theorem wfi8 {n : Int} (h : (Lit.int .i8 n).wf = true) : -128 ≤ n ∧ n ≤ 127 := by
  simpa [Lit.wf, IntKind.min, IntKind.max, IntKind.signed, IntKind.bits] using h
theorem open_u8 {H : Type} {enc : TypeId × Value → H} {W : World} {sp : Nat → Bool} {n : Nat} {c : Value} {x : DataW H × List MemPlace} (h : DataW.trod enc Try.prog W 0 sp true n 5 [c] = some x) : ∃ m, c = .int .u8 m ∧ 0 ≤ m ∧ m ≤ 255 := by
  obtain ⟨m, e, -, hw⟩ := DataW.trod_int Try.underlying5 h
  exact ⟨m, by simpa using e, wf8 hw⟩
theorem open_i8 {H : Type} {enc : TypeId × Value → H} {W : World} {sp : Nat → Bool} {n : Nat} {c : Value} {x : DataW H × List MemPlace} (h : DataW.trod enc Try.prog W 0 sp true n 54 [c] = some x) : ∃ m, c = .int .i8 m ∧ -128 ≤ m ∧ m ≤ 127 := by
  obtain ⟨m, e, -, hw⟩ := DataW.trod_int Try.underlying54 h
  exact ⟨m, by simpa using e, wfi8 hw⟩
theorem okWide_arr {w : World} {base n : Nat} {e t : TypeId} {v : Value} (ht : Try.prog.underlying t = some (.array n e)) (h : Value.okWide Try.prog w .any base t v) : ∃ cs, v = .agg cs ∧ cs.size = Try.prog.cellsOf t := by
  simp only [Value.okWide, ht] at h
  obtain ⟨cs, h1, h2, _⟩ := h
  exact ⟨cs, h1, h2⟩
theorem array2 {α : Type} {cs : Array α} (h : cs.size = 2) : ∃ c0 c1, cs = #[c0, c1] := by
  obtain ⟨l⟩ := cs
  match l, h with
  | [c0, c1], _ => exact ⟨c0, c1, rfl⟩
theorem open_i8x2 {H : Type} {enc : TypeId × Value → H} {W : World} {base : Nat} {v : Value} {d : DataW H} {p : List MemPlace}
    (hv : Value.okWide Try.prog W .any base 55 v) (h : DataW.Trod enc Try.prog W 0 (fun _ => true) true 55 v d p) : ∃ a b, v = .agg #[.int .i8 a, .int .i8 b] ∧ (-128 ≤ a ∧ a ≤ 127) ∧ (-128 ≤ b ∧ b ≤ 127) := by
  have k1 : Try.prog.cellsOf 54 = 1 := by kernel_rfl
  have k2 : Try.prog.cellsOf 55 = 2 := by kernel_rfl
  obtain ⟨cs, rfl, hsz⟩ := okWide_arr Try.underlying55 hv
  obtain ⟨c0, c1, rfl⟩ := array2 (hsz.trans k2)
  obtain ⟨fuel, hf⟩ := h
  obtain ⟨ys, n4, -, -, hlen, hys, he⟩ := DataW.trod_array Try.underlying55 hf
  have t0 := he 0 (by decide)
  have t1 := he 1 (by decide)
  rw [k1] at t0 t1
  obtain ⟨m0, rfl, q0⟩ := open_i8 (c := c0) (t0.trans (List.getElem?_eq_getElem (by omega)))
  obtain ⟨m1, rfl, q1⟩ := open_i8 (c := c1) (t1.trans (List.getElem?_eq_getElem (by omega)))
  exact ⟨m0, m1, rfl, q0, q1⟩
theorem open_u8x2 {H : Type} {enc : TypeId × Value → H} {W : World} {base : Nat} {v : Value} {d : DataW H} {p : List MemPlace}
    (hv : Value.okWide Try.prog W .any base 71 v) (h : DataW.Trod enc Try.prog W 0 (fun _ => true) true 71 v d p) : ∃ a b, v = .agg #[.int .u8 a, .int .u8 b] ∧ (0 ≤ a ∧ a ≤ 255) ∧ (0 ≤ b ∧ b ≤ 255) := by
  have k1 : Try.prog.cellsOf 5 = 1 := by kernel_rfl
  have k2 : Try.prog.cellsOf 71 = 2 := by kernel_rfl
  obtain ⟨cs, rfl, hsz⟩ := okWide_arr Try.underlying71 hv
  obtain ⟨c0, c1, rfl⟩ := array2 (hsz.trans k2)
  obtain ⟨fuel, hf⟩ := h
  obtain ⟨ys, n4, -, -, hlen, hys, he⟩ := DataW.trod_array Try.underlying71 hf
  have t0 := he 0 (by decide)
  have t1 := he 1 (by decide)
  rw [k1] at t0 t1
  obtain ⟨m0, rfl, q0⟩ := open_u8 (c := c0) (t0.trans (List.getElem?_eq_getElem (by omega)))
  obtain ⟨m1, rfl, q1⟩ := open_u8 (c := c1) (t1.trans (List.getElem?_eq_getElem (by omega)))
  exact ⟨m0, m1, rfl, q0, q1⟩
theorem open_scale {H : Type} {enc : TypeId × Value → H} {W : World} {base : Nat} {v : Value} {d : DataW H} {p : List MemPlace}
    (hv : Value.okWide Try.prog W .any base 52 v) (h : DataW.Trod enc Try.prog W 0 (fun _ => true) true 52 v d p) : ∃ xs, Row c3 3 W v xs ∧ (∀ j, by3 (xs.getD j (0, 0, 0))) ∧ (xs = [] ∨ ∃ el sp, d = .slice el sp ∧ el.length = xs.length) := by
  have k1 : Try.prog.cellsOf 5 = 1 := by kernel_rfl
  exact open_rows (n := 3) c3 by3 (0, 0, 0) ⟨by decide, by decide, by decide⟩ Try.underlying52 (by kernel_rfl) (fun k cs x hx => by
    obtain ⟨ys, n4, -, -, hlen, hys, he⟩ := DataW.trod_array Try.underlying53 hx
    have k3 : Try.prog.cellsOf 53 = 3 := by kernel_rfl
    rw [k3] at hlen
    obtain ⟨u0, u1, u2, rfl⟩ : ∃ u0 u1 u2, cs = [u0, u1, u2] := by
      match cs, hlen with
      | [u0, u1, u2], _ => exact ⟨u0, u1, u2, rfl⟩
    have t0 := he 0 (by decide)
    have t1 := he 1 (by decide)
    have t2 := he 2 (by decide)
    rw [k1] at t0 t1 t2
    obtain ⟨m0, rfl, q0⟩ := open_u8 (c := u0) (t0.trans (List.getElem?_eq_getElem (by omega)))
    obtain ⟨m1, rfl, q1⟩ := open_u8 (c := u1) (t1.trans (List.getElem?_eq_getElem (by omega)))
    obtain ⟨m2, rfl, q2⟩ := open_u8 (c := u2) (t2.trans (List.getElem?_eq_getElem (by omega)))
    exact ⟨(m0, m1, m2), rfl, q0, q1, q2⟩) hv h
end Go.Proofs.Ytbmjigneekodnaa
