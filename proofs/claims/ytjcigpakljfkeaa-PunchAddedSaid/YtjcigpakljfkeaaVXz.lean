/-
  What this text proves: arguments that are slots, jobs, papers or lists of them are read as integers and lists of integers.
-/
import Derived.Test.YtjcigpakljfkeaaUs
import Derived.Test.YtjcigpakljfkeaaOpr
set_option linter.unusedVariables false
set_option linter.unusedSimpArgs false
set_option maxRecDepth 100000
namespace Go.Pv
theorem Row.prs {w : World} {v : Value} {xs : List (Int × Int)} (h : Row pc 2 w v xs) : Prs w v xs := by
  unfold Prs
  exact h
end Go.Pv
namespace Go.Proofs.Ytjcigpakljfkeaa
open Go.Pv Go.RowKit Go.ChangeShapes Go.WideShapes Go.ChangeAt Go.Joins Go.Deep

theorem open_i64 {H : Type} {enc : TypeId × Value → H} {W : World} {sp : Nat → Bool} {n : Nat} {c : Value} {x : DataW H × List MemPlace} (h : DataW.trod enc Try.prog W 0 sp true n 3 [c] = some x) : ∃ m, c = .int .i64 m := by
  obtain ⟨m, e, -, hw⟩ := DataW.trod_int Try.underlying3 h
  exact ⟨m, by simpa using e⟩
theorem open_i64s {H : Type} {enc : TypeId × Value → H} {W : World} {base : Nat} {v : Value} {d : DataW H} {p : List MemPlace}
    (hv : Value.okWide Try.prog W .any base 26 v) (h : DataW.Trod enc Try.prog W 0 (fun _ => true) true 26 v d p) : ∃ ms, Ints W v ms := by
  obtain ⟨a1, len, cap, rfl⟩ := okWide_slice Try.underlying26 hv
  obtain ⟨fuel, hf⟩ := h
  rcases open_ints Try.underlying26 Try.underlying3 (by kernel_rfl) hf with ⟨hcs, hx⟩ | ⟨a, len', cap', zs, hcs, _, hl, hm, hz, hx, hcell, hwz⟩
  · simp [Value.cells] at hcs
    obtain ⟨rfl, rfl, rfl⟩ := hcs
    exact ⟨[], IntsK.nil _ _ _ (Nat.zero_le _)⟩
  · simp [Value.cells] at hcs
    obtain ⟨rfl, rfl, rfl⟩ := hcs
    simp only [if_true] at hz
    refine ⟨zs.take len, ?_⟩
    have e3 : (zs.take len).length = len := by simp; omega
    unfold Ints IntsK Sl
    refine ⟨by omega, some a, cap, by rw [e3], by omega, hm, fun j hj => ⟨a, _, rfl, hcell j (by omega), ?_⟩⟩
    unfold IntR
    have hj2 : j < zs.length := by omega
    simp [hj2]
theorem slot_cells {H : Type} {enc : TypeId × Value → H} {W : World} {sp : Nat → Bool} {k : Nat} {cs : List Value} {x : DataW H × List MemPlace} (hx : DataW.trod enc Try.prog W 0 sp true k 47 cs = some x) : ∃ y : Int × Int, cs = pc y := by
  have k1 : Try.prog.cellsOf 3 = 1 := by kernel_rfl
  have k2 : Try.prog.cellsOf 47 = 2 := by kernel_rfl
  obtain ⟨z0, z1, n2, -, hlen, g0, g1⟩ := trod_struct2 Try.underlying47 hx
  rw [k2] at hlen
  obtain ⟨u0, u1, rfl⟩ : ∃ u0 u1, cs = [u0, u1] := by
    match cs, hlen with
    | [u0, u1], _ => exact ⟨u0, u1, rfl⟩
  simp only [k1] at g0 g1
  obtain ⟨m0, rfl⟩ := open_i64 (c := u0) g0
  obtain ⟨m1, rfl⟩ := open_i64 (c := u1) g1
  exact ⟨(m0, m1), rfl⟩
theorem open_slot {H : Type} {enc : TypeId × Value → H} {W : World} {base : Nat} {v : Value} {d : DataW H} {p : List MemPlace}
    (hv : Value.okWide Try.prog W .any base 47 v) (h : DataW.Trod enc Try.prog W 0 (fun _ => true) true 47 v d p) : ∃ a b, v = .agg #[.int .i64 a, .int .i64 b] := by
  obtain ⟨v0, v1, y0, y1, n, rfl, -, -, h0, h1⟩ := open_agg2 Try.underlying47 (by kernel_rfl) (by kernel_rfl) hv h
  obtain ⟨m0, e0, -, -⟩ := DataW.trod_int Try.underlying3 h0
  obtain ⟨m1, e1, -, -⟩ := DataW.trod_int Try.underlying3 h1
  exact ⟨m0, m1, by simp_all⟩
theorem open_slots {H : Type} {enc : TypeId × Value → H} {W : World} {base : Nat} {v : Value} {d : DataW H} {p : List MemPlace}
    (hv : Value.okWide Try.prog W .any base 22 v) (h : DataW.Trod enc Try.prog W 0 (fun _ => true) true 22 v d p) : ∃ sl, Prs W v sl := by
  obtain ⟨xs, hx, -, -⟩ := open_rows (n := 2) pc (fun _ => True) (0, 0) trivial Try.underlying22 (by kernel_rfl) (fun k cs x hx => by
    obtain ⟨y, rfl⟩ := slot_cells hx
    exact ⟨y, rfl, trivial⟩) hv h
  exact ⟨xs, hx.prs⟩
theorem open_job {H : Type} {enc : TypeId × Value → H} {W : World} {base : Nat} {v : Value} {d : DataW H} {p : List MemPlace}
    (hv : Value.okWide Try.prog W .any base 24 v) (h : DataW.Trod enc Try.prog W 0 (fun _ => true) true 24 v d p) : ∃ rest u sl, v = .agg #[.int .i64 rest, u] ∧ Prs W u sl := by
  obtain ⟨v0, v1, y0, y1, n, rfl, -, -, h0, h1⟩ := open_agg2 Try.underlying24 (by kernel_rfl) (by kernel_rfl) hv h
  obtain ⟨m0, e0, -, -⟩ := DataW.trod_int Try.underlying3 h0
  have e0 : v0 = .int .i64 m0 := by simpa using e0
  subst e0
  have k2 : Try.prog.cellsOf 47 = 2 := by kernel_rfl
  rcases open_slice Try.underlying22 h1 with ⟨e1, -⟩ | ⟨a, len, cap, m, n3, D, Pl, e1, -, hl, hm, hmm, -, hall⟩
  · have e1 : v1 = .slice none 0 0 := by simpa using e1
    subst e1
    exact ⟨m0, _, [], rfl, Row.prs (Row.nil _ _ _ (Nat.zero_le _))⟩
  · have e1 : v1 = .slice (some a) len cap := by simpa using e1
    subst e1
    have hmm : m = cap := by simpa using hmm
    subst hmm
    have each : ∀ i, i < len → ∃ y : Int × Int, Cells W (a.add (i * 2)) (pc y) := by
      intro i hi
      obtain ⟨cs', hc, ht⟩ := hall i (by omega)
      rw [k2] at hc
      obtain ⟨y, rfl⟩ := slot_cells ht
      obtain ⟨_, hlen, hget⟩ := World.cells?_some hc
      refine ⟨y, ?_⟩
      unfold Cells
      intro j u hj
      have hjn : j < 2 := by
        rcases Nat.lt_or_ge j 2 with h | h
        · exact h
        · rw [List.getElem?_eq_none (by simp [pc]; omega)] at hj; cases hj
      rw [hget j hjn]; exact hj
    refine ⟨m0, _, (List.range len).map fun i => if h : i < len then Classical.choose (each i h) else (0, 0), rfl, Row.prs ⟨by simp; unfold maxLen at *; omega, some a, m, by simp, by simpa using hl, hm, fun i hi => ⟨a, rfl, ?_⟩⟩⟩
    have hi2 : i < len := by simpa using hi
    have := Classical.choose_spec (each i hi2)
    simpa [hi2] using this
theorem array5 {α : Type} {cs : Array α} (h : cs.size = 5) : ∃ c0 c1 c2 c3 c4, cs = #[c0, c1, c2, c3, c4] := by
  obtain ⟨l⟩ := cs
  match l, h with
  | [c0, c1, c2, c3, c4], _ => exact ⟨c0, c1, c2, c3, c4, rfl⟩
theorem open_paper {H : Type} {enc : TypeId × Value → H} {W : World} {base : Nat} {v : Value} {d : DataW H} {p : List MemPlace}
    (hv : Value.okWide Try.prog W .any base 57 v) (h : DataW.Trod enc Try.prog W 0 (fun _ => true) true 57 v d p) :
    ∃ gl gh lo na sh, v = .agg #[.int .i64 gl, .int .i64 gh, .int .i64 lo, .int .i64 na, .int .i64 sh] := by
  obtain ⟨cs, rfl, hsz⟩ := okWide_struct Try.underlying57 hv
  have k5 : Try.prog.cellsOf 57 = 5 := by kernel_rfl
  obtain ⟨c0, c1, c2, c3, c4, rfl⟩ := array5 (hsz.trans k5)
  obtain ⟨fuel, hf⟩ := h
  obtain ⟨y0, y1, y2, y3, n, -, -, h0, h1, h2, h3⟩ := trod_struct4 Try.underlying57 hf
  have k1 : Try.prog.cellsOf 3 = 1 := by kernel_rfl
  have k2 : Try.prog.cellsOf 55 = 2 := by kernel_rfl
  simp only [Value.cells, k1, k2] at h0 h1 h2 h3
  obtain ⟨z0, z1, n2, -, -, f0, f1⟩ := trod_struct2 Try.underlying55 h0
  simp only [k1] at f0 f1
  obtain ⟨gl, rfl⟩ := open_i64 (c := c0) f0
  obtain ⟨gh, rfl⟩ := open_i64 (c := c1) f1
  obtain ⟨lo, rfl⟩ := open_i64 (c := c2) h1
  obtain ⟨na, rfl⟩ := open_i64 (c := c3) h2
  obtain ⟨sh, rfl⟩ := open_i64 (c := c4) h3
  exact ⟨gl, gh, lo, na, sh, rfl⟩
end Go.Proofs.Ytjcigpakljfkeaa
