/-
  What this text proves: an argument that is a plant by numbers is read as four lists of pairs of bytes and two truth values.
-/
import Derived.Test.YtlphfobpheefkaaVBz
import Derived.Deep.Strs
set_option linter.unusedVariables false
set_option linter.unusedSimpArgs false
set_option maxRecDepth 100000
namespace Go.Proofs.Ytlphfobpheefkaa
open Go.Pv Go.RowKit Go.ChangeShapes Go.WideShapes Go.ChangeAt Go.Joins Go.Deep
theorem open_setT {H : Type} {enc : TypeId × Value → H} {W : World} {fuel : Nat} {c : Value} {x : DataW H × List MemPlace} (hf : DataW.trod enc Try.prog W 0 (fun _ => true) true fuel 39 [c] = some x) :
    ∃ hs, Prs8 W c hs ∧ ∀ j, 0 ≤ (hs.getD j (0, 0)).1 ∧ (hs.getD j (0, 0)).1 ≤ 255 ∧ 0 ≤ (hs.getD j (0, 0)).2 ∧ (hs.getD j (0, 0)).2 ≤ 255 := by
  have k1 : Try.prog.cellsOf 5 = 1 := by kernel_rfl
  have k2 : Try.prog.cellsOf 73 = 2 := by kernel_rfl
  rcases open_slice Try.underlying39 hf with ⟨e1, -⟩ | ⟨a, len, cap, m, n3, D, Pl, e1, -, hl, hm, hmm, -, hall⟩
  · have e1 : c = .slice none 0 0 := by simpa using e1
    subst e1
    refine ⟨[], ?_, by simp⟩
    unfold Prs8
    exact ⟨Nat.zero_le _, none, 0, rfl, Nat.le_refl _, Nat.zero_le _, fun i hi => absurd hi (by simp)⟩
  · have e1 : c = .slice (some a) len cap := by simpa using e1
    subst e1
    have hmm : m = cap := by simpa using hmm
    subst hmm
    have each : ∀ i, i < len → ∃ y : Int × Int, (∃ b o, a.add (i * 2) = ⟨b, o, none⟩ ∧ W.cell? ⟨b, o + 0, none⟩ = some (.int .u8 y.1) ∧ W.cell? ⟨b, o + 1, none⟩ = some (.int .u8 y.2)) ∧ 0 ≤ y.1 ∧ y.1 ≤ 255 ∧ 0 ≤ y.2 ∧ y.2 ≤ 255 := by
      intro i hi
      obtain ⟨cs', hc, ht⟩ := hall i (by omega)
      rw [k2] at hc
      obtain ⟨ys, n4, -, -, hlen, hys, he⟩ := DataW.trod_array Try.underlying73 ht
      rw [k2] at hlen
      obtain ⟨u0, u1, rfl⟩ : ∃ u0 u1, cs' = [u0, u1] := by
        match cs', hlen with
        | [u0, u1], _ => exact ⟨u0, u1, rfl⟩
      have t0 := he 0 (by decide)
      have t1 := he 1 (by decide)
      rw [k1] at t0 t1
      obtain ⟨m0, rfl, q0⟩ := open_u8 (c := u0) (t0.trans (List.getElem?_eq_getElem (by omega)))
      obtain ⟨m1, rfl, q1⟩ := open_u8 (c := u1) (t1.trans (List.getElem?_eq_getElem (by omega)))
      have r2 : List.range 2 = [0, 1] := rfl
      simp only [World.cells?, Nat.zero_le, if_true, r2, List.mapM_cons, List.mapM_nil] at hc
      cases d0 : W.cell? ((a.add (i * 2)).add 0) with
      | none => simp [d0] at hc
      | some v0 =>
        cases d1 : W.cell? ((a.add (i * 2)).add 1) with
        | none => simp [d0, d1] at hc
        | some v1 =>
          simp [d0, d1] at hc
          obtain ⟨rfl, rfl⟩ := hc
          refine ⟨(m0, m1), ?_, q0.1, q0.2, q1.1, q1.2⟩
          cases hq : a.add (i * 2) with
          | mk b o s =>
            rw [hq] at d0 d1
            have hs : s = none := by
              cases s with
              | none => rfl
              | some t =>
                simp [World.cell?, Addr.add] at d0
                split at d0 <;> cases d0
            subst hs
            exact ⟨b, o, rfl, by simpa [Addr.add] using d0, by simpa [Addr.add] using d1⟩
    refine ⟨(List.range len).map fun i => if h : i < len then Classical.choose (each i h) else (0, 0), ?_, fun j => ?_⟩
    · unfold Prs8
      refine ⟨by simp; omega, some a, m, by simp, by simpa using hl, hm, fun i hi => ?_⟩
      have hi' : i < len := by simpa using hi
      obtain ⟨b, o, w1, w2, w3⟩ := (Classical.choose_spec (each i hi')).1
      have e : ((List.range len).map fun i => if h : i < len then Classical.choose (each i h) else ((0, 0) : Int × Int)).getD i (0, 0) = Classical.choose (each i hi') := by simp [hi']
      exact ⟨a, b, o, rfl, w1, by rw [e]; exact w2, by rw [e]; exact w3⟩
    · by_cases hj : j < len
      · have e : ((List.range len).map fun i => if h : i < len then Classical.choose (each i h) else ((0, 0) : Int × Int)).getD j (0, 0) = Classical.choose (each j hj) := by simp [hj]
        rw [e]
        exact (Classical.choose_spec (each j hj)).2
      · simp [hj]
theorem arr2 {H : Type} {enc : TypeId × Value → H} {W : World} {t e : TypeId} {fuel : Nat} {c0 c1 : Value} {x : DataW H × List MemPlace} (ht : Try.prog.underlying t = some (.array 2 e)) (hce : Try.prog.cellsOf e = 1) (h : DataW.trod enc Try.prog W 0 (fun _ => true) true fuel t [c0, c1] = some x) :
    ∃ y0 y1 n, DataW.trod enc Try.prog W 0 (fun _ => true) true n e [c0] = some y0 ∧ DataW.trod enc Try.prog W 0 (fun _ => true) true n e [c1] = some y1 := by
  obtain ⟨ys, n4, -, -, hlen, hys, he⟩ := DataW.trod_array ht h
  have t0 := he 0 (by decide)
  have t1 := he 1 (by decide)
  rw [hce] at t0 t1
  exact ⟨_, _, n4, t0.trans (List.getElem?_eq_getElem (by omega)), t1.trans (List.getElem?_eq_getElem (by omega))⟩
theorem open_engine {H : Type} {enc : TypeId × Value → H} {W : World} {base : Nat} {v : Value} {d : DataW H} {p : List MemPlace}
    (hv : Value.okWide Try.prog W .any base 52 v) (h : DataW.Trod enc Try.prog W 0 (fun _ => true) true 52 v d p) :
    ∃ p0 p1 r0 r1 P0 P1 R0 R1 d0 d1, v = .agg #[p0, p1, r0, r1, .bool d0, .bool d1] ∧ (Prs8 W p0 P0 ∧ Prs8 W p1 P1 ∧ Prs8 W r0 R0 ∧ Prs8 W r1 R1) ∧
      (∀ j, 0 ≤ (P0.getD j (0, 0)).1 ∧ (P0.getD j (0, 0)).1 ≤ 255 ∧ 0 ≤ (P0.getD j (0, 0)).2 ∧ (P0.getD j (0, 0)).2 ≤ 255) ∧ (∀ j, 0 ≤ (P1.getD j (0, 0)).1 ∧ (P1.getD j (0, 0)).1 ≤ 255 ∧ 0 ≤ (P1.getD j (0, 0)).2 ∧ (P1.getD j (0, 0)).2 ≤ 255) ∧ (∀ j, 0 ≤ (R0.getD j (0, 0)).1 ∧ (R0.getD j (0, 0)).1 ≤ 255 ∧ 0 ≤ (R0.getD j (0, 0)).2 ∧ (R0.getD j (0, 0)).2 ≤ 255) ∧ ∀ j, 0 ≤ (R1.getD j (0, 0)).1 ∧ (R1.getD j (0, 0)).1 ≤ 255 ∧ 0 ≤ (R1.getD j (0, 0)).2 ∧ (R1.getD j (0, 0)).2 ≤ 255 := by
  obtain ⟨cs, rfl, hsz⟩ := okWide_struct Try.underlying52 hv
  have k6 : Try.prog.cellsOf 52 = 6 := by kernel_rfl
  obtain ⟨c0, c1, c2, c3, c4, c5, rfl⟩ : ∃ c0 c1 c2 c3 c4 c5, cs = #[c0, c1, c2, c3, c4, c5] := by
    rw [k6] at hsz
    obtain ⟨l⟩ := cs
    match l, hsz with
    | [c0, c1, c2, c3, c4, c5], _ => exact ⟨c0, c1, c2, c3, c4, c5, rfl⟩
  obtain ⟨fuel, hf⟩ := h
  obtain ⟨y0, y1, y2, n, -, -, h0, h1, h2⟩ := trod_struct3 Try.underlying52 hf
  have ks : Try.prog.cellsOf 39 = 1 := by kernel_rfl
  have kb : Try.prog.cellsOf 4 = 1 := by kernel_rfl
  have k2 : Try.prog.cellsOf 49 = 2 := by kernel_rfl
  have k3 : Try.prog.cellsOf 50 = 2 := by kernel_rfl
  simp only [Value.cells, k2, k3] at h0 h1 h2
  obtain ⟨z0, z1, n0, a0, a1⟩ := arr2 (c0 := c0) (c1 := c1) Try.underlying49 ks h0
  obtain ⟨z2, z3, n1, b0, b1⟩ := arr2 (c0 := c2) (c1 := c3) Try.underlying49 ks h1
  obtain ⟨z4, z5, n2, g0, g1⟩ := arr2 (c0 := c4) (c1 := c5) Try.underlying50 kb h2
  obtain ⟨P0, q0, o0⟩ := open_setT a0
  obtain ⟨P1, q1, o1⟩ := open_setT a1
  obtain ⟨R0, q2, o2⟩ := open_setT b0
  obtain ⟨R1, q3, o3⟩ := open_setT b1
  obtain ⟨d0, e0, -⟩ := DataW.trod_bool Try.underlying4 g0
  obtain ⟨d1, e1, -⟩ := DataW.trod_bool Try.underlying4 g1
  have e0 : c4 = .bool d0 := by simpa using e0
  have e1 : c5 = .bool d1 := by simpa using e1
  subst e0; subst e1
  exact ⟨c0, c1, c2, c3, P0, P1, R0, R1, d0, d1, rfl, ⟨q0, q1, q2, q3⟩, o0, o1, o2, o3⟩
end Go.Proofs.Ytlphfobpheefkaa
