/-
  What this text proves: arguments that are bytes, slices and pairs of bytes, and bounds by numbers, are read as numbers.
-/
import Derived.Test.YtlphfobpheefkaaOpr
import Derived.Test.YtlphfobpheefkaaMd
set_option linter.unusedVariables false
set_option linter.unusedSimpArgs false
set_option maxRecDepth 100000
namespace Go.Pv
theorem mem_getDz {α : Type} {l : List α} {d : α} {i : Nat} (h : i < l.length) : l.getD i d ∈ l := by
  have e : l.getD i d = l[i] := by simp [h]
  rw [e]
  exact List.getElem_mem h
end Go.Pv
namespace Go.Proofs.Ytlphfobpheefkaa
open Go.Pv Go.RowKit Go.ChangeShapes Go.WideShapes Go.ChangeAt Go.Joins Go.Deep

theorem wf8 {n : Int} (h : (Lit.int .u8 n).wf = true) : 0 ≤ n ∧ n ≤ 255 := by
  simpa [Lit.wf, IntKind.min, IntKind.max, IntKind.signed, IntKind.bits] using h
theorem open_u8 {H : Type} {enc : TypeId × Value → H} {W : World} {sp : Nat → Bool} {n : Nat} {c : Value} {x : DataW H × List MemPlace} (h : DataW.trod enc Try.prog W 0 sp true n 5 [c] = some x) : ∃ m, c = .int .u8 m ∧ 0 ≤ m ∧ m ≤ 255 := by
  obtain ⟨m, e, -, hw⟩ := DataW.trod_int Try.underlying5 h
  exact ⟨m, by simpa using e, wf8 hw⟩
theorem open_u8s {H : Type} {enc : TypeId × Value → H} {W : World} {base : Nat} {v : Value} {d : DataW H} {p : List MemPlace}
    (hv : Value.okWide Try.prog W .any base 40 v) (h : DataW.Trod enc Try.prog W 0 (fun _ => true) true 40 v d p) :
    ∃ ms, IntsK .u8 W v ms ∧ (∀ j, 0 ≤ ms.getD j 0 ∧ ms.getD j 0 ≤ 255) ∧ (ms = [] ∨ ∃ el sp, d = .slice el sp ∧ el.length = ms.length) := by
  obtain ⟨a1, len, cap, rfl⟩ := okWide_slice Try.underlying40 hv
  obtain ⟨fuel, hf⟩ := h
  rcases open_ints Try.underlying40 Try.underlying5 (by kernel_rfl) hf with ⟨hcs, hx⟩ | ⟨a, len', cap', zs, hcs, _, hl, hm, hz, hx, hcell, hwz⟩
  · simp [Value.cells] at hcs
    obtain ⟨rfl, rfl, rfl⟩ := hcs
    exact ⟨[], IntsK.nil _ _ _ (Nat.zero_le _), by simp, .inl rfl⟩
  · simp [Value.cells] at hcs
    obtain ⟨rfl, rfl, rfl⟩ := hcs
    simp only [if_true] at hz
    refine ⟨zs.take len, ?_, fun j => ?_, .inr ⟨_, _, congrArg Prod.fst hx, by simp [lits]⟩⟩
    · have e3 : (zs.take len).length = len := by simp; omega
      unfold IntsK Sl
      refine ⟨by omega, some a, cap, by rw [e3], by omega, hm, fun j hj => ⟨a, _, rfl, hcell j (by omega), ?_⟩⟩
      unfold IntR
      have hj2 : j < zs.length := by omega
      simp [hj2]
    · by_cases hj : j < (zs.take len).length
      · have h1 : (zs.take len).getD j 0 ∈ zs := List.mem_of_mem_take (mem_getDz (d := 0) hj)
        exact wf8 (hwz _ h1)
      · have : (zs.take len).getD j 0 = 0 := by
          simp only [List.getD_eq_getElem?_getD]
          rw [List.getElem?_eq_none (by omega)]; rfl
        omega
theorem okWide_arr {w : World} {base n : Nat} {e t : TypeId} {v : Value} (ht : Try.prog.underlying t = some (.array n e)) (h : Value.okWide Try.prog w .any base t v) : ∃ cs, v = .agg cs ∧ cs.size = Try.prog.cellsOf t := by
  simp only [Value.okWide, ht] at h
  obtain ⟨cs, h1, h2, _⟩ := h
  exact ⟨cs, h1, h2⟩
theorem open_two {H : Type} {enc : TypeId × Value → H} {W : World} {base : Nat} {v : Value} {d : DataW H} {p : List MemPlace}
    (hv : Value.okWide Try.prog W .any base 73 v) (h : DataW.Trod enc Try.prog W 0 (fun _ => true) true 73 v d p) : ∃ a b, v = .agg #[.int .u8 a, .int .u8 b] ∧ (0 ≤ a ∧ a ≤ 255) ∧ (0 ≤ b ∧ b ≤ 255) := by
  have k1 : Try.prog.cellsOf 5 = 1 := by kernel_rfl
  have k2 : Try.prog.cellsOf 73 = 2 := by kernel_rfl
  obtain ⟨cs, rfl, hsz⟩ := okWide_arr Try.underlying73 hv
  obtain ⟨c0, c1, rfl⟩ : ∃ c0 c1, cs = #[c0, c1] := by
    rw [k2] at hsz
    obtain ⟨l⟩ := cs
    match l, hsz with
    | [c0, c1], _ => exact ⟨c0, c1, rfl⟩
  obtain ⟨fuel, hf⟩ := h
  obtain ⟨ys, n4, -, -, hlen, hys, he⟩ := DataW.trod_array Try.underlying73 hf
  have t0 := he 0 (by decide)
  have t1 := he 1 (by decide)
  rw [k1] at t0 t1
  obtain ⟨m0, rfl, q0⟩ := open_u8 (c := c0) (t0.trans (List.getElem?_eq_getElem (by omega)))
  obtain ⟨m1, rfl, q1⟩ := open_u8 (c := c1) (t1.trans (List.getElem?_eq_getElem (by omega)))
  exact ⟨m0, m1, rfl, q0, q1⟩
theorem open_set {H : Type} {enc : TypeId × Value → H} {W : World} {base : Nat} {v : Value} {d : DataW H} {p : List MemPlace}
    (hv : Value.okWide Try.prog W .any base 39 v) (h : DataW.Trod enc Try.prog W 0 (fun _ => true) true 39 v d p) :
    ∃ hs, Prs8 W v hs ∧ ∀ j, 0 ≤ (hs.getD j (0, 0)).1 ∧ (hs.getD j (0, 0)).1 ≤ 255 ∧ 0 ≤ (hs.getD j (0, 0)).2 ∧ (hs.getD j (0, 0)).2 ≤ 255 := by
  have k1 : Try.prog.cellsOf 5 = 1 := by kernel_rfl
  have k2 : Try.prog.cellsOf 73 = 2 := by kernel_rfl
  obtain ⟨a1, len, cap, rfl⟩ := okWide_slice Try.underlying39 hv
  obtain ⟨fuel, hf⟩ := h
  rcases open_slice Try.underlying39 hf with ⟨e1, -⟩ | ⟨a, len1, cap1, m, n3, D, Pl, e1, -, hl, hm, hmm, -, hall⟩
  · simp [Value.cells] at e1
    obtain ⟨rfl, rfl, rfl⟩ := e1
    refine ⟨[], ?_, by simp⟩
    unfold Prs8
    exact ⟨Nat.zero_le _, none, 0, rfl, Nat.le_refl _, Nat.zero_le _, fun i hi => absurd hi (by simp)⟩
  · simp [Value.cells] at e1
    obtain ⟨rfl, rfl, rfl⟩ := e1
    have hmm : m = cap := by simpa using hmm
    subst hmm
    have each : ∀ i, i < len → ∃ y : Int × Int, (∃ b o, a.add (i * 2) = ⟨b, o, none⟩ ∧ W.cell? ⟨b, o + 0, none⟩ = some (.int .u8 y.1) ∧ W.cell? ⟨b, o + 1, none⟩ = some (.int .u8 y.2)) ∧ 0 ≤ y.1 ∧ y.1 ≤ 255 ∧ 0 ≤ y.2 ∧ y.2 ≤ 255 := by
      intro i hi
      obtain ⟨cs', hc, ht⟩ := hall i (by omega)
      rw [k2] at hc
      obtain ⟨ys, n4, -, -, hlen, hys, he⟩ := DataW.trod_array Try.underlying73 ht
      rw [k2] at hlen
      obtain ⟨u0, u1, rfl⟩ : ∃ u0 u1, cs' = [u0, u1] := by
        match cs', hlen with
        | [u0, u1], _ => exact ⟨u0, u1, rfl⟩
      have t0 := he 0 (by decide)
      have t1 := he 1 (by decide)
      rw [k1] at t0 t1
      obtain ⟨m0, rfl, q0⟩ := open_u8 (c := u0) (t0.trans (List.getElem?_eq_getElem (by omega)))
      obtain ⟨m1, rfl, q1⟩ := open_u8 (c := u1) (t1.trans (List.getElem?_eq_getElem (by omega)))
      have r2 : List.range 2 = [0, 1] := rfl
      simp only [World.cells?, Nat.zero_le, if_true, r2, List.mapM_cons, List.mapM_nil] at hc
      cases d0 : W.cell? ((a.add (i * 2)).add 0) with
      | none => simp [d0] at hc
      | some v0 =>
        cases d1 : W.cell? ((a.add (i * 2)).add 1) with
        | none => simp [d0, d1] at hc
        | some v1 =>
          simp [d0, d1] at hc
          obtain ⟨rfl, rfl⟩ := hc
          refine ⟨(m0, m1), ?_, q0.1, q0.2, q1.1, q1.2⟩
          cases hq : a.add (i * 2) with
          | mk b o s =>
            rw [hq] at d0 d1
            have hs : s = none := by
              cases s with
              | none => rfl
              | some t =>
                simp [World.cell?, Addr.add] at d0
                split at d0 <;> cases d0
            subst hs
            exact ⟨b, o, rfl, by simpa [Addr.add] using d0, by simpa [Addr.add] using d1⟩
    refine ⟨(List.range len).map fun i => if h : i < len then Classical.choose (each i h) else (0, 0), ?_, fun j => ?_⟩
    · unfold Prs8
      refine ⟨by simp; omega, some a, m, by simp, by simpa using hl, hm, fun i hi => ?_⟩
      have hi' : i < len := by simpa using hi
      obtain ⟨b, o, w1, w2, w3⟩ := (Classical.choose_spec (each i hi')).1
      have e : ((List.range len).map fun i => if h : i < len then Classical.choose (each i h) else ((0, 0) : Int × Int)).getD i (0, 0) = Classical.choose (each i hi') := by simp [hi']
      exact ⟨a, b, o, rfl, w1, by rw [e]; exact w2, by rw [e]; exact w3⟩
    · by_cases hj : j < len
      · have e : ((List.range len).map fun i => if h : i < len then Classical.choose (each i h) else ((0, 0) : Int × Int)).getD j (0, 0) = Classical.choose (each j hj) := by simp [hj]
        rw [e]
        exact (Classical.choose_spec (each j hj)).2
      · simp [hj]
end Go.Proofs.Ytlphfobpheefkaa
