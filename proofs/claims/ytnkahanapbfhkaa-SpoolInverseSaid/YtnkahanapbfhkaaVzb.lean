/-
  What this text proves: an argument that is a slice of bytes is read as numbers from 0 to 255.
-/
import Derived.Test.YtnkahanapbfhkaaVz
set_option linter.unusedVariables false
set_option linter.unusedSimpArgs false
set_option maxRecDepth 100000
namespace Go.Proofs.Ytnkahanapbfhkaa
open Go.Pv Go.RowKit Go.ChangeShapes Go.WideShapes Go.ChangeAt Go.Joins Go.Deep

theorem open_u8s {H : Type} {enc : TypeId × Value → H} {W : World} {base : Nat} {v : Value} {d : DataW H} {p : List MemPlace}
    (hv : Value.okWide Try.prog W .any base 63 v) (h : DataW.Trod enc Try.prog W 0 (fun _ => true) true 63 v d p) :
    ∃ ms, IntsK .u8 W v ms ∧ ∀ j, 0 ≤ ms.getD j 0 ∧ ms.getD j 0 ≤ 255 := by
  obtain ⟨a1, len, cap, rfl⟩ := okWide_slice Try.underlying63 hv
  obtain ⟨fuel, hf⟩ := h
  rcases open_ints Try.underlying63 Try.underlying5 (by kernel_rfl) hf with ⟨hcs, hx⟩ | ⟨a, len', cap', zs, hcs, _, hl, hm, hz, hx, hcell, hwz⟩
  · simp [Value.cells] at hcs
    obtain ⟨rfl, rfl, rfl⟩ := hcs
    exact ⟨[], IntsK.nil _ _ _ (Nat.zero_le _), by simp⟩
  · simp [Value.cells] at hcs
    obtain ⟨rfl, rfl, rfl⟩ := hcs
    simp only [if_true] at hz
    refine ⟨zs.take len, ?_, fun j => ?_⟩
    · have e3 : (zs.take len).length = len := by simp; omega
      unfold IntsK Sl
      refine ⟨by omega, some a, cap, by rw [e3], by omega, hm, fun j hj => ⟨a, _, rfl, hcell j (by omega), ?_⟩⟩
      unfold IntR
      have hj2 : j < zs.length := by omega
      simp [hj2]
    · by_cases hj : j < (zs.take len).length
      · have h1 : (zs.take len).getD j 0 ∈ zs := (by have e : (zs.take len).getD j 0 = (zs.take len)[j] := (by simp only [List.getD_eq_getElem?_getD, List.getElem?_eq_getElem hj]; rfl); rw [e]; exact List.mem_of_mem_take (List.getElem_mem hj))
        exact wf8 (hwz _ h1)
      · have : (zs.take len).getD j 0 = 0 := by
          simp only [List.getD_eq_getElem?_getD]
          rw [List.getElem?_eq_none (by omega)]; rfl
        omega
end Go.Proofs.Ytnkahanapbfhkaa
