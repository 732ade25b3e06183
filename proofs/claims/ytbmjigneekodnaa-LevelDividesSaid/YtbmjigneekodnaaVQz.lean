/-
  What this text proves: an argument that is a slice of codes is read as a row of triples of integers, a slice of ints as a list of integers, a fraction as two integers. Conditions: none.
-/
import Derived.Test.YtbmjigneekodnaaVLs
import Derived.Test.YtbmjigneekodnaaOpr
set_option linter.unusedVariables false
set_option linter.unusedSimpArgs false
set_option maxRecDepth 100000
namespace Go.Proofs.Ytbmjigneekodnaa
open Go.Pv Go.RowKit Go.ChangeShapes Go.WideShapes Go.ChangeAt Go.Joins Go.Deep

theorem open_i64Q {H : Type} {enc : TypeId × Value → H} {W : World} {sp : Nat → Bool} {n : Nat} {c : Value} {x : DataW H × List MemPlace} (h : DataW.trod enc Try.prog W 0 sp true n 3 [c] = some x) : ∃ m, c = .int .i64 m := by
  obtain ⟨m, e, -, hw⟩ := DataW.trod_int Try.underlying3 h
  exact ⟨m, by simpa using e⟩
theorem open_codesQ {H : Type} {enc : TypeId × Value → H} {W : World} {base : Nat} {v : Value} {d : DataW H} {p : List MemPlace}
    (hv : Value.okWide Try.prog W .any base 22 v) (h : DataW.Trod enc Try.prog W 0 (fun _ => true) true 22 v d p) : ∃ xs, Row cC 3 W v xs := by
  have k1 : Try.prog.cellsOf 3 = 1 := by kernel_rfl
  have k2 : Try.prog.cellsOf 66 = 2 := by kernel_rfl
  obtain ⟨xs, hx, -, -⟩ := open_rows (n := 3) cC (fun _ => True) (0, 0, 0) trivial Try.underlying22 (by kernel_rfl) (fun k cs x hx => by
    obtain ⟨z0, z1, n2, -, hlen, g0, g1⟩ := trod_struct2 Try.underlying68 hx
    have k3 : Try.prog.cellsOf 68 = 3 := by kernel_rfl
    rw [k3] at hlen
    obtain ⟨u0, u1, u2, rfl⟩ : ∃ u0 u1 u2, cs = [u0, u1, u2] := by
      match cs, hlen with
      | [u0, u1, u2], _ => exact ⟨u0, u1, u2, rfl⟩
    simp only [k1, k2] at g0 g1
    obtain ⟨m0, rfl⟩ := open_i64Q (c := u0) g0
    obtain ⟨y0, y1, n4, -, -, f0, f1⟩ := trod_struct2 Try.underlying66 g1
    simp only [k1] at f0 f1
    obtain ⟨m1, rfl⟩ := open_i64Q (c := u1) f0
    obtain ⟨m2, rfl⟩ := open_i64Q (c := u2) f1
    exact ⟨(m0, m1, m2), rfl, trivial⟩) hv h
  exact ⟨xs, hx⟩
theorem open_i64sQ {H : Type} {enc : TypeId × Value → H} {W : World} {base : Nat} {v : Value} {d : DataW H} {p : List MemPlace}
    (hv : Value.okWide Try.prog W .any base 38 v) (h : DataW.Trod enc Try.prog W 0 (fun _ => true) true 38 v d p) : ∃ ms, Ints W v ms := by
  obtain ⟨a1, len, cap, rfl⟩ := okWide_slice Try.underlying38 hv
  obtain ⟨fuel, hf⟩ := h
  rcases open_ints Try.underlying38 Try.underlying3 (by kernel_rfl) hf with ⟨hcs, hx⟩ | ⟨a, len', cap', zs, hcs, _, hl, hm, hz, hx, hcell, hwz⟩
  · simp [Value.cells] at hcs
    obtain ⟨rfl, rfl, rfl⟩ := hcs
    exact ⟨[], IntsK.nil _ _ _ (Nat.zero_le _)⟩
  · simp [Value.cells] at hcs
    obtain ⟨rfl, rfl, rfl⟩ := hcs
    simp only [if_true] at hz
    refine ⟨zs.take len, ?_⟩
    have e3 : (zs.take len).length = len := by simp; omega
    unfold Ints IntsK Sl
    refine ⟨by omega, some a, cap, by rw [e3], by omega, hm, fun j hj => ⟨a, _, rfl, hcell j (by omega), ?_⟩⟩
    unfold IntR
    have hj2 : j < zs.length := by omega
    simp [hj2]
theorem open_ratioQ {H : Type} {enc : TypeId × Value → H} {W : World} {base : Nat} {v : Value} {d : DataW H} {p : List MemPlace}
    (hv : Value.okWide Try.prog W .any base 24 v) (h : DataW.Trod enc Try.prog W 0 (fun _ => true) true 24 v d p) :
    ∃ rn rd, v = .agg #[.int .i64 rn, .int .i64 rd] := by
  obtain ⟨cs, rfl, hsz⟩ := okWide_struct Try.underlying24 hv
  have k1 : Try.prog.cellsOf 3 = 1 := by kernel_rfl
  have k2 : Try.prog.cellsOf 24 = 2 := by kernel_rfl
  obtain ⟨c0, c1, rfl⟩ : ∃ c0 c1, cs = #[c0, c1] := by
    obtain ⟨l⟩ := cs
    match l, (hsz.trans k2 : l.length = 2) with
    | [c0, c1], _ => exact ⟨c0, c1, rfl⟩
  obtain ⟨fuel, hf⟩ := h
  obtain ⟨y0, y1, n, -, -, h0, h1⟩ := trod_struct2 Try.underlying24 hf
  simp only [Value.cells, k1] at h0 h1
  obtain ⟨rn, rfl⟩ := open_i64Q (c := c0) h0
  obtain ⟨rd, rfl⟩ := open_i64Q (c := c1) h1
  exact ⟨rn, rd, rfl⟩
end Go.Proofs.Ytbmjigneekodnaa
