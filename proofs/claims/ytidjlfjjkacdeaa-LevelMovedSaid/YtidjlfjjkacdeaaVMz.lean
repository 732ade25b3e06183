/-
  What this text proves: an argument that is a slice of codes is read as a row of triples of integers, a line as four integers.
-/
import Derived.Test.YtidjlfjjkacdeaaVLs
import Derived.Test.YtidjlfjjkacdeaaOpr
set_option linter.unusedVariables false
set_option linter.unusedSimpArgs false
set_option maxRecDepth 100000
namespace Go.Proofs.Ytidjlfjjkacdeaa
open Go.Pv Go.RowKit Go.ChangeShapes Go.WideShapes Go.ChangeAt Go.Joins Go.Deep

theorem array4 {α : Type} {cs : Array α} (h : cs.size = 4) : ∃ c0 c1 c2 c3, cs = #[c0, c1, c2, c3] := by
  obtain ⟨l⟩ := cs
  match l, h with
  | [c0, c1, c2, c3], _ => exact ⟨c0, c1, c2, c3, rfl⟩
theorem open_i64 {H : Type} {enc : TypeId × Value → H} {W : World} {sp : Nat → Bool} {n : Nat} {c : Value} {x : DataW H × List MemPlace} (h : DataW.trod enc Try.prog W 0 sp true n 3 [c] = some x) : ∃ m, c = .int .i64 m := by
  obtain ⟨m, e, -, hw⟩ := DataW.trod_int Try.underlying3 h
  exact ⟨m, by simpa using e⟩
theorem open_codes {H : Type} {enc : TypeId × Value → H} {W : World} {base : Nat} {v : Value} {d : DataW H} {p : List MemPlace}
    (hv : Value.okWide Try.prog W .any base 22 v) (h : DataW.Trod enc Try.prog W 0 (fun _ => true) true 22 v d p) : ∃ xs, Row cC 3 W v xs := by
  have k1 : Try.prog.cellsOf 3 = 1 := by kernel_rfl
  have k2 : Try.prog.cellsOf 66 = 2 := by kernel_rfl
  obtain ⟨xs, hx, -, -⟩ := open_rows (n := 3) cC (fun _ => True) (0, 0, 0) trivial Try.underlying22 (by kernel_rfl) (fun k cs x hx => by
    obtain ⟨z0, z1, n2, -, hlen, g0, g1⟩ := trod_struct2 Try.underlying68 hx
    have k3 : Try.prog.cellsOf 68 = 3 := by kernel_rfl
    rw [k3] at hlen
    obtain ⟨u0, u1, u2, rfl⟩ : ∃ u0 u1 u2, cs = [u0, u1, u2] := by
      match cs, hlen with
      | [u0, u1, u2], _ => exact ⟨u0, u1, u2, rfl⟩
    simp only [k1, k2] at g0 g1
    obtain ⟨m0, rfl⟩ := open_i64 (c := u0) g0
    obtain ⟨y0, y1, n4, -, -, f0, f1⟩ := trod_struct2 Try.underlying66 g1
    simp only [k1] at f0 f1
    obtain ⟨m1, rfl⟩ := open_i64 (c := u1) f0
    obtain ⟨m2, rfl⟩ := open_i64 (c := u2) f1
    exact ⟨(m0, m1, m2), rfl, trivial⟩) hv h
  exact ⟨xs, hx⟩
theorem open_line {H : Type} {enc : TypeId × Value → H} {W : World} {base : Nat} {v : Value} {d : DataW H} {p : List MemPlace}
    (hv : Value.okWide Try.prog W .any base 26 v) (h : DataW.Trod enc Try.prog W 0 (fun _ => true) true 26 v d p) :
    ∃ gn gd on od, v = .agg #[.int .i64 gn, .int .i64 gd, .int .i64 on, .int .i64 od] := by
  obtain ⟨cs, rfl, hsz⟩ := okWide_struct Try.underlying26 hv
  have k4 : Try.prog.cellsOf 26 = 4 := by kernel_rfl
  obtain ⟨c0, c1, c2, c3, rfl⟩ := array4 (hsz.trans k4)
  obtain ⟨fuel, hf⟩ := h
  obtain ⟨y0, y1, n, -, -, h0, h1⟩ := trod_struct2 Try.underlying26 hf
  have k1 : Try.prog.cellsOf 3 = 1 := by kernel_rfl
  have k2 : Try.prog.cellsOf 24 = 2 := by kernel_rfl
  simp only [Value.cells, k1, k2] at h0 h1
  obtain ⟨z0, z1, n2, -, -, f0, f1⟩ := trod_struct2 Try.underlying24 h0
  obtain ⟨z2, z3, n3, -, -, g0, g1⟩ := trod_struct2 Try.underlying24 h1
  simp only [k1] at f0 f1 g0 g1
  obtain ⟨gn, rfl⟩ := open_i64 (c := c0) f0
  obtain ⟨gd, rfl⟩ := open_i64 (c := c1) f1
  obtain ⟨on, rfl⟩ := open_i64 (c := c2) g0
  obtain ⟨od, rfl⟩ := open_i64 (c := c3) g1
  exact ⟨gn, gd, on, od, rfl⟩
end Go.Proofs.Ytidjlfjjkacdeaa
