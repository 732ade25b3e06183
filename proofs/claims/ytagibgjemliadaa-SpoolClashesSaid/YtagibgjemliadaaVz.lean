/-
  What this text proves: an argument that is a reel is read as four bytes, a spool as four integers.
-/
import Derived.Test.YtagibgjemliadaaFacts
import Derived.OpenShut
import Derived.Deep.Matrix
import Derived.Lib.SmallJoins
import Derived.Deep.Strs
set_option linter.unusedVariables false
set_option linter.unusedSimpArgs false
set_option maxRecDepth 100000
namespace Go.Proofs.Ytagibgjemliadaa
open Go.Pv Go.RowKit Go.ChangeShapes Go.WideShapes Go.ChangeAt Go.Joins Go.Deep

theorem wf8 {n : Int} (h : (Lit.int .u8 n).wf = true) : 0 ≤ n ∧ n ≤ 255 := by
  simpa [Lit.wf, IntKind.min, IntKind.max, IntKind.signed, IntKind.bits] using h
theorem wf16 {n : Int} (h : (Lit.int .u16 n).wf = true) : 0 ≤ n ∧ n ≤ 65535 := by
  simpa [Lit.wf, IntKind.min, IntKind.max, IntKind.signed, IntKind.bits] using h
theorem array4 {α : Type} {cs : Array α} (h : cs.size = 4) : ∃ c0 c1 c2 c3, cs = #[c0, c1, c2, c3] := by
  obtain ⟨l⟩ := cs
  match l, h with
  | [c0, c1, c2, c3], _ => exact ⟨c0, c1, c2, c3, rfl⟩
theorem open_u8 {H : Type} {enc : TypeId × Value → H} {W : World} {sp : Nat → Bool} {n : Nat} {c : Value} {x : DataW H × List MemPlace} (h : DataW.trod enc Try.prog W 0 sp true n 5 [c] = some x) : ∃ m, c = .int .u8 m ∧ 0 ≤ m ∧ m ≤ 255 := by
  obtain ⟨m, e, -, hw⟩ := DataW.trod_int Try.underlying5 h
  exact ⟨m, by simpa using e, wf8 hw⟩
theorem open_i64 {H : Type} {enc : TypeId × Value → H} {W : World} {sp : Nat → Bool} {n : Nat} {c : Value} {x : DataW H × List MemPlace} (h : DataW.trod enc Try.prog W 0 sp true n 3 [c] = some x) : ∃ m, c = .int .i64 m := by
  obtain ⟨m, e, -, hw⟩ := DataW.trod_int Try.underlying3 h
  exact ⟨m, by simpa using e⟩
theorem open_reel {H : Type} {enc : TypeId × Value → H} {W : World} {base : Nat} {v : Value} {d : DataW H} {p : List MemPlace}
    (hv : Value.okWide Try.prog W .any base 59 v) (h : DataW.Trod enc Try.prog W 0 (fun _ => true) true 59 v d p) :
    ∃ c t g0 g1, v = .agg #[.int .u8 c, .int .u8 t, .int .u8 g0, .int .u8 g1] ∧ (0 ≤ c ∧ c ≤ 255) ∧ (0 ≤ t ∧ t ≤ 255) ∧ (0 ≤ g0 ∧ g0 ≤ 255) ∧ (0 ≤ g1 ∧ g1 ≤ 255) := by
  obtain ⟨cs, rfl, hsz⟩ := okWide_struct Try.underlying59 hv
  have k4 : Try.prog.cellsOf 59 = 4 := by kernel_rfl
  obtain ⟨c0, c1, c2, c3, rfl⟩ := array4 (hsz.trans k4)
  obtain ⟨fuel, hf⟩ := h
  obtain ⟨y0, y1, y2, n, -, -, h0, h1, h2⟩ := trod_struct3 Try.underlying59 hf
  have k1 : Try.prog.cellsOf 5 = 1 := by kernel_rfl
  have k2 : Try.prog.cellsOf 57 = 2 := by kernel_rfl
  simp only [Value.cells, k1, k2] at h0 h1 h2
  obtain ⟨c, rfl, b0⟩ := open_u8 (c := c0) h0
  obtain ⟨t, rfl, b1⟩ := open_u8 (c := c1) h1
  obtain ⟨ys, n4, -, -, hlen, hys, he⟩ := DataW.trod_array Try.underlying57 h2
  have t0 := he 0 (by decide)
  have t1 := he 1 (by decide)
  rw [k1] at t0 t1
  obtain ⟨g0, rfl, q0⟩ := open_u8 (c := c2) (t0.trans (List.getElem?_eq_getElem (by omega)))
  obtain ⟨g1, rfl, q1⟩ := open_u8 (c := c3) (t1.trans (List.getElem?_eq_getElem (by omega)))
  exact ⟨c, t, g0, g1, rfl, b0, b1, q0, q1⟩
theorem open_spool {H : Type} {enc : TypeId × Value → H} {W : World} {base : Nat} {v : Value} {d : DataW H} {p : List MemPlace}
    (hv : Value.okWide Try.prog W .any base 25 v) (h : DataW.Trod enc Try.prog W 0 (fun _ => true) true 25 v d p) :
    ∃ co ti lo hi, v = .agg #[.int .i64 co, .int .i64 ti, .int .i64 lo, .int .i64 hi] := by
  obtain ⟨cs, rfl, hsz⟩ := okWide_struct Try.underlying25 hv
  have k4 : Try.prog.cellsOf 25 = 4 := by kernel_rfl
  obtain ⟨c0, c1, c2, c3, rfl⟩ := array4 (hsz.trans k4)
  obtain ⟨fuel, hf⟩ := h
  obtain ⟨y0, y1, y2, n, -, -, h0, h1, h2⟩ := trod_struct3 Try.underlying25 hf
  have k1 : Try.prog.cellsOf 3 = 1 := by kernel_rfl
  have k2 : Try.prog.cellsOf 23 = 2 := by kernel_rfl
  simp only [Value.cells, k1, k2] at h0 h1 h2
  obtain ⟨co, rfl⟩ := open_i64 (c := c0) h0
  obtain ⟨ti, rfl⟩ := open_i64 (c := c1) h1
  obtain ⟨z0, z1, n2, -, -, g0, g1⟩ := trod_struct2 Try.underlying23 h2
  simp only [k1] at g0 g1
  obtain ⟨lo, rfl⟩ := open_i64 (c := c2) g0
  obtain ⟨hi, rfl⟩ := open_i64 (c := c3) g1
  exact ⟨co, ti, lo, hi, rfl⟩
theorem open_i64s {H : Type} {enc : TypeId × Value → H} {W : World} {base : Nat} {v : Value} {d : DataW H} {p : List MemPlace}
    (hv : Value.okWide Try.prog W .any base 39 v) (h : DataW.Trod enc Try.prog W 0 (fun _ => true) true 39 v d p) : ∃ ms, Ints W v ms := by
  obtain ⟨a1, len, cap, rfl⟩ := okWide_slice Try.underlying39 hv
  obtain ⟨fuel, hf⟩ := h
  rcases open_ints Try.underlying39 Try.underlying3 (by kernel_rfl) hf with ⟨hcs, hx⟩ | ⟨a, len', cap', zs, hcs, _, hl, hm, hz, hx, hcell, hwz⟩
  · simp [Value.cells] at hcs
    obtain ⟨rfl, rfl, rfl⟩ := hcs
    exact ⟨[], IntsK.nil _ _ _ (Nat.zero_le _)⟩
  · simp [Value.cells] at hcs
    obtain ⟨rfl, rfl, rfl⟩ := hcs
    simp only [if_true] at hz
    refine ⟨zs.take len, ?_⟩
    have e3 : (zs.take len).length = len := by simp; omega
    unfold Ints IntsK Sl
    refine ⟨by omega, some a, cap, by rw [e3], by omega, hm, fun j hj => ⟨a, _, rfl, hcell j (by omega), ?_⟩⟩
    unfold IntR
    have hj2 : j < zs.length := by omega
    simp [hj2]
end Go.Proofs.Ytagibgjemliadaa
