/-
  What this text proves: an argument that is a master is read as five bytes and pairs of bytes.
-/
import Derived.Test.YtbcbfeeidmggpaaOpen
import Derived.Test.YtbcbfeeidmggpaaMq
import Derived.Laws.IdiomArrays
set_option linter.unusedVariables false
set_option linter.unusedSimpArgs false
set_option maxRecDepth 100000
namespace Go.Proofs.Ytbcbfeeidmggpaa
open Go.Pv Go.RowKit Go.ChangeShapes Go.WideShapes Go.ChangeAt Go.Joins Go.Deep

theorem wf8 {n : Int} (h : (Lit.int .u8 n).wf = true) : 0 ≤ n ∧ n ≤ 255 := by
  simpa [Lit.wf, IntKind.min, IntKind.max, IntKind.signed, IntKind.bits] using h
theorem wf16 {n : Int} (h : (Lit.int .u16 n).wf = true) : 0 ≤ n ∧ n ≤ 65535 := by
  simpa [Lit.wf, IntKind.min, IntKind.max, IntKind.signed, IntKind.bits] using h
theorem array6 {α : Type} {cs : Array α} (h : cs.size = 6) : ∃ c0 c1 c2 c3 c4 c5, cs = #[c0, c1, c2, c3, c4, c5] := by
  obtain ⟨l⟩ := cs
  match l, h with
  | [c0, c1, c2, c3, c4, c5], _ => exact ⟨c0, c1, c2, c3, c4, c5, rfl⟩
theorem open_u8 {H : Type} {enc : TypeId × Value → H} {W : World} {sp : Nat → Bool} {n : Nat} {c : Value} {x : DataW H × List MemPlace} (h : DataW.trod enc Try.prog W 0 sp true n 5 [c] = some x) : ∃ m, c = .int .u8 m ∧ 0 ≤ m ∧ m ≤ 255 := by
  obtain ⟨m, e, -, hw⟩ := DataW.trod_int Try.underlying5 h
  exact ⟨m, by simpa using e, wf8 hw⟩
theorem open_master {H : Type} {enc : TypeId × Value → H} {W : World} {base : Nat} {v : Value} {d : DataW H} {p : List MemPlace}
    (hv : Value.okWide Try.prog W .any base 40 v) (h : DataW.Trod enc Try.prog W 0 (fun _ => true) true 40 v d p) :
    ∃ st of o0 o1 o2 hv' hs, v = .agg #[.int .u8 st, .int .u8 of, .int .u8 o0, .int .u8 o1, .int .u8 o2, hv'] ∧ Prs8 W hv' hs ∧ (0 ≤ st ∧ st ≤ 255) ∧ (0 ≤ of ∧ of ≤ 255) ∧ (0 ≤ o0 ∧ o0 ≤ 255) ∧ (0 ≤ o1 ∧ o1 ≤ 255) ∧ (0 ≤ o2 ∧ o2 ≤ 255) ∧
      ∀ j, 0 ≤ (hs.getD j (0, 0)).1 ∧ (hs.getD j (0, 0)).1 ≤ 255 ∧ 0 ≤ (hs.getD j (0, 0)).2 ∧ (hs.getD j (0, 0)).2 ≤ 255 := by
  obtain ⟨cs, rfl, hsz⟩ := okWide_struct Try.underlying40 hv
  have k6 : Try.prog.cellsOf 40 = 6 := by kernel_rfl
  obtain ⟨c0, c1, c2, c3, c4, c5, rfl⟩ := array6 (hsz.trans k6)
  obtain ⟨fuel, hf⟩ := h
  obtain ⟨y0, y1, y2, y3, n, -, -, h0, h1, h2, h3⟩ := trod_struct4 Try.underlying40 hf
  have k1 : Try.prog.cellsOf 5 = 1 := by kernel_rfl
  have k3 : Try.prog.cellsOf 37 = 3 := by kernel_rfl
  have ks : Try.prog.cellsOf 38 = 1 := by kernel_rfl
  have k2 : Try.prog.cellsOf 77 = 2 := by kernel_rfl
  simp only [Value.cells, k1, k3, ks] at h0 h1 h2 h3
  obtain ⟨st, rfl, b0⟩ := open_u8 (c := c0) h0
  obtain ⟨of, rfl, b1⟩ := open_u8 (c := c1) h1
  obtain ⟨z0, z1, z2, n2, -, g0, g1, g2⟩ := trod_array3 (c0 := c2) (c1 := c3) (c2 := c4) Try.underlying37 k1 h2
  obtain ⟨o0, rfl, b2⟩ := open_u8 g0
  obtain ⟨o1, rfl, b3⟩ := open_u8 g1
  obtain ⟨o2, rfl, b4⟩ := open_u8 g2
  rcases open_slice Try.underlying38 h3 with ⟨e1, -⟩ | ⟨a, len, cap, m, n3, D, Pl, e1, -, hl, hm, hmm, -, hall⟩
  · have e1 : c5 = .slice none 0 0 := by simpa using e1
    subst e1
    refine ⟨st, of, o0, o1, o2, _, [], rfl, ?_, b0, b1, b2, b3, b4, by simp⟩
    unfold Prs8
    exact ⟨Nat.zero_le _, none, 0, rfl, Nat.le_refl _, Nat.zero_le _, fun i hi => absurd hi (by simp)⟩
  · have e1 : c5 = .slice (some a) len cap := by simpa using e1
    subst e1
    have hmm : m = cap := by simpa using hmm
    subst hmm
    have each : ∀ i, i < len → ∃ y : Int × Int, (∃ b o, a.add (i * 2) = ⟨b, o, none⟩ ∧ W.cell? ⟨b, o + 0, none⟩ = some (.int .u8 y.1) ∧ W.cell? ⟨b, o + 1, none⟩ = some (.int .u8 y.2)) ∧ 0 ≤ y.1 ∧ y.1 ≤ 255 ∧ 0 ≤ y.2 ∧ y.2 ≤ 255 := by
      intro i hi
      obtain ⟨cs', hc, ht⟩ := hall i (by omega)
      rw [k2] at hc
      obtain ⟨ys, n4, -, -, hlen, hys, he⟩ := DataW.trod_array Try.underlying77 ht
      rw [k2] at hlen
      obtain ⟨u0, u1, rfl⟩ : ∃ u0 u1, cs' = [u0, u1] := by
        match cs', hlen with
        | [u0, u1], _ => exact ⟨u0, u1, rfl⟩
      have t0 := he 0 (by decide)
      have t1 := he 1 (by decide)
      rw [k1] at t0 t1
      obtain ⟨m0, rfl, q0⟩ := open_u8 (c := u0) (t0.trans (List.getElem?_eq_getElem (by omega)))
      obtain ⟨m1, rfl, q1⟩ := open_u8 (c := u1) (t1.trans (List.getElem?_eq_getElem (by omega)))
      have r2 : List.range 2 = [0, 1] := rfl
      simp only [World.cells?, Nat.zero_le, if_true, r2, List.mapM_cons, List.mapM_nil] at hc
      cases d0 : W.cell? ((a.add (i * 2)).add 0) with
      | none => simp [d0] at hc
      | some v0 =>
        cases d1 : W.cell? ((a.add (i * 2)).add 1) with
        | none => simp [d0, d1] at hc
        | some v1 =>
          simp [d0, d1] at hc
          obtain ⟨rfl, rfl⟩ := hc
          refine ⟨(m0, m1), ?_, q0.1, q0.2, q1.1, q1.2⟩
          cases hq : a.add (i * 2) with
          | mk b o s =>
            rw [hq] at d0 d1
            have hs : s = none := by
              cases s with
              | none => rfl
              | some t =>
                simp [World.cell?, Addr.add] at d0
                split at d0 <;> cases d0
            subst hs
            exact ⟨b, o, rfl, by simpa [Addr.add] using d0, by simpa [Addr.add] using d1⟩
    refine ⟨st, of, o0, o1, o2, _, (List.range len).map fun i => if h : i < len then Classical.choose (each i h) else (0, 0), rfl, ?_, b0, b1, b2, b3, b4, fun j => ?_⟩
    · unfold Prs8
      refine ⟨by simp; omega, some a, m, by simp, by simpa using hl, hm, fun i hi => ?_⟩
      have hi' : i < len := by simpa using hi
      obtain ⟨b, o, w1, w2, w3⟩ := (Classical.choose_spec (each i hi')).1
      have e : ((List.range len).map fun i => if h : i < len then Classical.choose (each i h) else ((0, 0) : Int × Int)).getD i (0, 0) = Classical.choose (each i hi') := by simp [hi']
      exact ⟨a, b, o, rfl, w1, by rw [e]; exact w2, by rw [e]; exact w3⟩
    · by_cases hj : j < len
      · have e : ((List.range len).map fun i => if h : i < len then Classical.choose (each i h) else ((0, 0) : Int × Int)).getD j (0, 0) = Classical.choose (each j hj) := by simp [hj]
        rw [e]
        exact (Classical.choose_spec (each j hj)).2
      · simp [hj]
end Go.Proofs.Ytbcbfeeidmggpaa
