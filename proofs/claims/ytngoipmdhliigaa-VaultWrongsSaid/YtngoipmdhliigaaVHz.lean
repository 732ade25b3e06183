/-
  What this text proves: arguments that are lists of integers or of shares are read as such lists.
-/
import Derived.Test.YtngoipmdhliigaaUs
import Derived.Test.YtngoipmdhliigaaOpr
set_option linter.unusedVariables false
set_option linter.unusedSimpArgs false
set_option maxRecDepth 100000
namespace Go.Pv
theorem Row.prs {w : World} {v : Value} {xs : List (Int × Int)} (h : Row pc 2 w v xs) : Prs w v xs := by
  unfold Prs
  exact h
end Go.Pv
namespace Go.Proofs.Ytngoipmdhliigaa
open Go.Pv Go.RowKit Go.ChangeShapes Go.WideShapes Go.ChangeAt Go.Joins Go.Deep

theorem open_i64 {H : Type} {enc : TypeId × Value → H} {W : World} {sp : Nat → Bool} {n : Nat} {c : Value} {x : DataW H × List MemPlace} (h : DataW.trod enc Try.prog W 0 sp true n 3 [c] = some x) : ∃ m, c = .int .i64 m := by
  obtain ⟨m, e, -, hw⟩ := DataW.trod_int Try.underlying3 h
  exact ⟨m, by simpa using e⟩
theorem open_i64s {H : Type} {enc : TypeId × Value → H} {W : World} {base : Nat} {v : Value} {d : DataW H} {p : List MemPlace}
    (hv : Value.okWide Try.prog W .any base 22 v) (h : DataW.Trod enc Try.prog W 0 (fun _ => true) true 22 v d p) : ∃ ms, Ints W v ms := by
  obtain ⟨a1, len, cap, rfl⟩ := okWide_slice Try.underlying22 hv
  obtain ⟨fuel, hf⟩ := h
  rcases open_ints Try.underlying22 Try.underlying3 (by kernel_rfl) hf with ⟨hcs, hx⟩ | ⟨a, len', cap', zs, hcs, _, hl, hm, hz, hx, hcell, hwz⟩
  · simp [Value.cells] at hcs
    obtain ⟨rfl, rfl, rfl⟩ := hcs
    exact ⟨[], IntsK.nil _ _ _ (Nat.zero_le _)⟩
  · simp [Value.cells] at hcs
    obtain ⟨rfl, rfl, rfl⟩ := hcs
    simp only [if_true] at hz
    refine ⟨zs.take len, ?_⟩
    have e3 : (zs.take len).length = len := by simp; omega
    unfold Ints IntsK Sl
    refine ⟨by omega, some a, cap, by rw [e3], by omega, hm, fun j hj => ⟨a, _, rfl, hcell j (by omega), ?_⟩⟩
    unfold IntR
    have hj2 : j < zs.length := by omega
    simp [hj2]
theorem share_cells {H : Type} {enc : TypeId × Value → H} {W : World} {sp : Nat → Bool} {k : Nat} {cs : List Value} {x : DataW H × List MemPlace} (hx : DataW.trod enc Try.prog W 0 sp true k 61 cs = some x) : ∃ y : Int × Int, cs = pc y := by
  have k1 : Try.prog.cellsOf 3 = 1 := by kernel_rfl
  have k2 : Try.prog.cellsOf 61 = 2 := by kernel_rfl
  obtain ⟨z0, z1, n2, -, hlen, g0, g1⟩ := trod_struct2 Try.underlying61 hx
  rw [k2] at hlen
  obtain ⟨u0, u1, rfl⟩ : ∃ u0 u1, cs = [u0, u1] := by
    match cs, hlen with
    | [u0, u1], _ => exact ⟨u0, u1, rfl⟩
  simp only [k1] at g0 g1
  obtain ⟨m0, rfl⟩ := open_i64 (c := u0) g0
  obtain ⟨m1, rfl⟩ := open_i64 (c := u1) g1
  exact ⟨(m0, m1), rfl⟩
theorem open_shares {H : Type} {enc : TypeId × Value → H} {W : World} {base : Nat} {v : Value} {d : DataW H} {p : List MemPlace}
    (hv : Value.okWide Try.prog W .any base 28 v) (h : DataW.Trod enc Try.prog W 0 (fun _ => true) true 28 v d p) : ∃ sl, Prs W v sl := by
  obtain ⟨xs, hx, -, -⟩ := open_rows (n := 2) pc (fun _ => True) (0, 0) trivial Try.underlying28 (by kernel_rfl) (fun k cs x hx => by
    obtain ⟨y, rfl⟩ := share_cells hx
    exact ⟨y, rfl, trivial⟩) hv h
  exact ⟨xs, hx.prs⟩
end Go.Proofs.Ytngoipmdhliigaa
