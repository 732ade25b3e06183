/-
  What this text proves: arguments that are slices of pairs of bytes are read as numbers.
-/
import Derived.Test.YtngoipmdhliigaaVHy
set_option linter.unusedVariables false
set_option linter.unusedSimpArgs false
set_option maxRecDepth 100000
namespace Go.Proofs.Ytngoipmdhliigaa
open Go.Pv Go.RowKit Go.ChangeShapes Go.WideShapes Go.ChangeAt Go.Joins Go.Deep

theorem open_pairs {H : Type} {enc : TypeId × Value → H} {W : World} {base : Nat} {v : Value} {d : DataW H} {p : List MemPlace}
    (hv : Value.okWide Try.prog W .any base 67 v) (h : DataW.Trod enc Try.prog W 0 (fun _ => true) true 67 v d p) :
    ∃ hs, Prs8 W v hs ∧ ∀ j, 0 ≤ (hs.getD j (0, 0)).1 ∧ (hs.getD j (0, 0)).1 ≤ 255 ∧ 0 ≤ (hs.getD j (0, 0)).2 ∧ (hs.getD j (0, 0)).2 ≤ 255 := by
  have k1 : Try.prog.cellsOf 5 = 1 := by kernel_rfl
  have k2 : Try.prog.cellsOf 64 = 2 := by kernel_rfl
  obtain ⟨a1, len, cap, rfl⟩ := okWide_slice Try.underlying67 hv
  obtain ⟨fuel, hf⟩ := h
  rcases open_slice Try.underlying67 hf with ⟨e1, -⟩ | ⟨a, len1, cap1, m, n3, D, Pl, e1, -, hl, hm, hmm, -, hall⟩
  · simp [Value.cells] at e1
    obtain ⟨rfl, rfl, rfl⟩ := e1
    refine ⟨[], ?_, by simp⟩
    unfold Prs8
    exact ⟨Nat.zero_le _, none, 0, rfl, Nat.le_refl _, Nat.zero_le _, fun i hi => absurd hi (by simp)⟩
  · simp [Value.cells] at e1
    obtain ⟨rfl, rfl, rfl⟩ := e1
    have hmm : m = cap := by simpa using hmm
    subst hmm
    have each : ∀ i, i < len → ∃ y : Int × Int, (∃ b o, a.add (i * 2) = ⟨b, o, none⟩ ∧ W.cell? ⟨b, o + 0, none⟩ = some (.int .u8 y.1) ∧ W.cell? ⟨b, o + 1, none⟩ = some (.int .u8 y.2)) ∧ 0 ≤ y.1 ∧ y.1 ≤ 255 ∧ 0 ≤ y.2 ∧ y.2 ≤ 255 := by
      intro i hi
      obtain ⟨cs', hc, ht⟩ := hall i (by omega)
      rw [k2] at hc
      obtain ⟨ys, n4, -, -, hlen, hys, he⟩ := DataW.trod_array Try.underlying64 ht
      rw [k2] at hlen
      obtain ⟨u0, u1, rfl⟩ : ∃ u0 u1, cs' = [u0, u1] := by
        match cs', hlen with
        | [u0, u1], _ => exact ⟨u0, u1, rfl⟩
      have t0 := he 0 (by decide)
      have t1 := he 1 (by decide)
      rw [k1] at t0 t1
      obtain ⟨m0, rfl, q0⟩ := open_u8 (c := u0) (t0.trans (List.getElem?_eq_getElem (by omega)))
      obtain ⟨m1, rfl, q1⟩ := open_u8 (c := u1) (t1.trans (List.getElem?_eq_getElem (by omega)))
      have r2 : List.range 2 = [0, 1] := rfl
      simp only [World.cells?, Nat.zero_le, if_true, r2, List.mapM_cons, List.mapM_nil] at hc
      cases d0 : W.cell? ((a.add (i * 2)).add 0) with
      | none => simp [d0] at hc
      | some v0 =>
        cases d1 : W.cell? ((a.add (i * 2)).add 1) with
        | none => simp [d0, d1] at hc
        | some v1 =>
          simp [d0, d1] at hc
          obtain ⟨rfl, rfl⟩ := hc
          refine ⟨(m0, m1), ?_, q0.1, q0.2, q1.1, q1.2⟩
          cases hq : a.add (i * 2) with
          | mk b o s =>
            rw [hq] at d0 d1
            have hs : s = none := by
              cases s with
              | none => rfl
              | some t =>
                simp [World.cell?, Addr.add] at d0
                split at d0 <;> cases d0
            subst hs
            exact ⟨b, o, rfl, by simpa [Addr.add] using d0, by simpa [Addr.add] using d1⟩
    refine ⟨(List.range len).map fun i => if h : i < len then Classical.choose (each i h) else (0, 0), ?_, fun j => ?_⟩
    · unfold Prs8
      refine ⟨by simp; omega, some a, m, by simp, by simpa using hl, hm, fun i hi => ?_⟩
      have hi' : i < len := by simpa using hi
      obtain ⟨b, o, w1, w2, w3⟩ := (Classical.choose_spec (each i hi')).1
      have e : ((List.range len).map fun i => if h : i < len then Classical.choose (each i h) else ((0, 0) : Int × Int)).getD i (0, 0) = Classical.choose (each i hi') := by simp [hi']
      exact ⟨a, b, o, rfl, w1, by rw [e]; exact w2, by rw [e]; exact w3⟩
    · by_cases hj : j < len
      · have e : ((List.range len).map fun i => if h : i < len then Classical.choose (each i h) else ((0, 0) : Int × Int)).getD j (0, 0) = Classical.choose (each j hj) := by simp [hj]
        rw [e]
        exact (Classical.choose_spec (each j hj)).2
      · simp [hj]
end Go.Proofs.Ytngoipmdhliigaa
