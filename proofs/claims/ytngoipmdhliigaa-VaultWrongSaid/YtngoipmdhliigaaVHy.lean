/-
  What this text proves: arguments that are bytes, locks, slices and pairs of bytes are read as numbers.
-/
import Derived.Test.YtngoipmdhliigaaVHz
import Derived.Test.YtngoipmdhliigaaMd
set_option linter.unusedVariables false
set_option linter.unusedSimpArgs false
set_option maxRecDepth 100000
namespace Go.Proofs.Ytngoipmdhliigaa
open Go.Pv Go.RowKit Go.ChangeShapes Go.WideShapes Go.ChangeAt Go.Joins Go.Deep

theorem wf8 {n : Int} (h : (Lit.int .u8 n).wf = true) : 0 ≤ n ∧ n ≤ 255 := by
  simpa [Lit.wf, IntKind.min, IntKind.max, IntKind.signed, IntKind.bits] using h
theorem open_u8 {H : Type} {enc : TypeId × Value → H} {W : World} {sp : Nat → Bool} {n : Nat} {c : Value} {x : DataW H × List MemPlace} (h : DataW.trod enc Try.prog W 0 sp true n 5 [c] = some x) : ∃ m, c = .int .u8 m ∧ 0 ≤ m ∧ m ≤ 255 := by
  obtain ⟨m, e, -, hw⟩ := DataW.trod_int Try.underlying5 h
  exact ⟨m, by simpa using e, wf8 hw⟩
theorem open_u8s {H : Type} {enc : TypeId × Value → H} {W : World} {base : Nat} {v : Value} {d : DataW H} {p : List MemPlace}
    (hv : Value.okWide Try.prog W .any base 56 v) (h : DataW.Trod enc Try.prog W 0 (fun _ => true) true 56 v d p) :
    ∃ ms, IntsK .u8 W v ms ∧ (∀ j, 0 ≤ ms.getD j 0 ∧ ms.getD j 0 ≤ 255) ∧ (ms = [] ∨ ∃ el sp, d = .slice el sp ∧ el.length = ms.length) := by
  obtain ⟨a1, len, cap, rfl⟩ := okWide_slice Try.underlying56 hv
  obtain ⟨fuel, hf⟩ := h
  rcases open_ints Try.underlying56 Try.underlying5 (by kernel_rfl) hf with ⟨hcs, hx⟩ | ⟨a, len', cap', zs, hcs, _, hl, hm, hz, hx, hcell, hwz⟩
  · simp [Value.cells] at hcs
    obtain ⟨rfl, rfl, rfl⟩ := hcs
    exact ⟨[], IntsK.nil _ _ _ (Nat.zero_le _), by simp, .inl rfl⟩
  · simp [Value.cells] at hcs
    obtain ⟨rfl, rfl, rfl⟩ := hcs
    simp only [if_true] at hz
    refine ⟨zs.take len, ?_, fun j => ?_, .inr ⟨_, _, congrArg Prod.fst hx, by simp [lits]⟩⟩
    · have e3 : (zs.take len).length = len := by simp; omega
      unfold IntsK Sl
      refine ⟨by omega, some a, cap, by rw [e3], by omega, hm, fun j hj => ⟨a, _, rfl, hcell j (by omega), ?_⟩⟩
      unfold IntR
      have hj2 : j < zs.length := by omega
      simp [hj2]
    · by_cases hj : j < (zs.take len).length
      · have h1 : (zs.take len).getD j 0 ∈ zs := List.mem_of_mem_take (mem_getDz (d := 0) hj)
        exact wf8 (hwz _ h1)
      · have : (zs.take len).getD j 0 = 0 := by
          simp only [List.getD_eq_getElem?_getD]
          rw [List.getElem?_eq_none (by omega)]; rfl
        omega
theorem open_lock {H : Type} {enc : TypeId × Value → H} {W : World} {base : Nat} {v : Value} {d : DataW H} {p : List MemPlace}
    (hv : Value.okWide Try.prog W .any base 57 v) (h : DataW.Trod enc Try.prog W 0 (fun _ => true) true 57 v d p) :
    ∃ ms, IntsK .u8 W v ms ∧ (∀ j, 0 ≤ ms.getD j 0 ∧ ms.getD j 0 ≤ 255) ∧ (ms = [] ∨ ∃ el sp, d = .slice el sp ∧ el.length = ms.length) := by
  obtain ⟨a1, len, cap, rfl⟩ := okWide_slice Try.underlying57 hv
  obtain ⟨fuel, hf⟩ := h
  rcases open_ints Try.underlying57 Try.underlying5 (by kernel_rfl) hf with ⟨hcs, hx⟩ | ⟨a, len', cap', zs, hcs, _, hl, hm, hz, hx, hcell, hwz⟩
  · simp [Value.cells] at hcs
    obtain ⟨rfl, rfl, rfl⟩ := hcs
    exact ⟨[], IntsK.nil _ _ _ (Nat.zero_le _), by simp, .inl rfl⟩
  · simp [Value.cells] at hcs
    obtain ⟨rfl, rfl, rfl⟩ := hcs
    simp only [if_true] at hz
    refine ⟨zs.take len, ?_, fun j => ?_, .inr ⟨_, _, congrArg Prod.fst hx, by simp [lits]⟩⟩
    · have e3 : (zs.take len).length = len := by simp; omega
      unfold IntsK Sl
      refine ⟨by omega, some a, cap, by rw [e3], by omega, hm, fun j hj => ⟨a, _, rfl, hcell j (by omega), ?_⟩⟩
      unfold IntR
      have hj2 : j < zs.length := by omega
      simp [hj2]
    · by_cases hj : j < (zs.take len).length
      · have h1 : (zs.take len).getD j 0 ∈ zs := List.mem_of_mem_take (mem_getDz (d := 0) hj)
        exact wf8 (hwz _ h1)
      · have : (zs.take len).getD j 0 = 0 := by
          simp only [List.getD_eq_getElem?_getD]
          rw [List.getElem?_eq_none (by omega)]; rfl
        omega
theorem okWide_arr {w : World} {base n : Nat} {e t : TypeId} {v : Value} (ht : Try.prog.underlying t = some (.array n e)) (h : Value.okWide Try.prog w .any base t v) : ∃ cs, v = .agg cs ∧ cs.size = Try.prog.cellsOf t := by
  simp only [Value.okWide, ht] at h
  obtain ⟨cs, h1, h2, _⟩ := h
  exact ⟨cs, h1, h2⟩
theorem open_two {H : Type} {enc : TypeId × Value → H} {W : World} {base : Nat} {v : Value} {d : DataW H} {p : List MemPlace}
    (hv : Value.okWide Try.prog W .any base 64 v) (h : DataW.Trod enc Try.prog W 0 (fun _ => true) true 64 v d p) : ∃ a b, v = .agg #[.int .u8 a, .int .u8 b] ∧ (0 ≤ a ∧ a ≤ 255) ∧ (0 ≤ b ∧ b ≤ 255) := by
  have k1 : Try.prog.cellsOf 5 = 1 := by kernel_rfl
  have k2 : Try.prog.cellsOf 64 = 2 := by kernel_rfl
  obtain ⟨cs, rfl, hsz⟩ := okWide_arr Try.underlying64 hv
  obtain ⟨c0, c1, rfl⟩ : ∃ c0 c1, cs = #[c0, c1] := by
    rw [k2] at hsz
    obtain ⟨l⟩ := cs
    match l, hsz with
    | [c0, c1], _ => exact ⟨c0, c1, rfl⟩
  obtain ⟨fuel, hf⟩ := h
  obtain ⟨ys, n4, -, -, hlen, hys, he⟩ := DataW.trod_array Try.underlying64 hf
  have t0 := he 0 (by decide)
  have t1 := he 1 (by decide)
  rw [k1] at t0 t1
  obtain ⟨m0, rfl, q0⟩ := open_u8 (c := c0) (t0.trans (List.getElem?_eq_getElem (by omega)))
  obtain ⟨m1, rfl, q1⟩ := open_u8 (c := c1) (t1.trans (List.getElem?_eq_getElem (by omega)))
  exact ⟨m0, m1, rfl, q0, q1⟩
end Go.Proofs.Ytngoipmdhliigaa
