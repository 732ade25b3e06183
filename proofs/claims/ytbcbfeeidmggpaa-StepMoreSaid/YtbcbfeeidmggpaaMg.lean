/-
  What this text proves: the calls that the laws on masters share, with what they need to know of the answers.
-/
import Derived.Test.YtbcbfeeidmggpaaMade
set_option linter.unusedVariables false
set_option linter.unusedSimpArgs false

namespace Go.Pv
open Go.RowKit
theorem Ret.mono {P : Program} {f : FuncId} {vs : List Value} {w : World} {φ ψ : Value → World → Prop} (h : Ret P f vs w φ) (k : ∀ v w', Ex w w' → φ v w' → ψ v w') : Ret P f vs w ψ := by
  unfold Ret at h ⊢
  refine Calls.mono h ?_
  rintro e w' ⟨v, rfl, h1, h2⟩
  exact ⟨v, rfl, k v w' h2 h1, h2⟩
theorem setF_self {α : Type} (f : Nat → α) (c : Nat) : setF f c (f c) = f := by
  funext j; unfold setF; split
  · next h => rw [h]
  · rfl
theorem range_setF {α : Type} (f : Nat → α) (n : Nat) (a : α) (d : α) {c : Nat} (hc : c < n) : ((List.range n).map (setF f 0 a)).getD c d = if c = 0 then a else f c := by simp [hc, setF]
/-- The bytes of a master. -/
def Bytes5 (st of o0 o1 o2 : Int) (hs : List (Int × Int)) : Prop := (0 ≤ st ∧ st ≤ 255) ∧ (0 ≤ of ∧ of ≤ 255) ∧ (0 ≤ o0 ∧ o0 ≤ 255) ∧ (0 ≤ o1 ∧ o1 ≤ 255) ∧ (0 ≤ o2 ∧ o2 ≤ 255) ∧
      ∀ j, 0 ≤ (hs.getD j (0, 0)).1 ∧ (hs.getD j (0, 0)).1 ≤ 255 ∧ 0 ≤ (hs.getD j (0, 0)).2 ∧ (hs.getD j (0, 0)).2 ≤ 255
end Go.Pv
namespace Go.Proofs.Ytbcbfeeidmggpaa
open Go.Pv Go.RowKit
set_option maxHeartbeats 4000000

theorem made_good (st of o0 o1 o2 : Int) (hv : Value) (hs : List (Int × Int)) (w : World) (h : Prs8 w hv hs) (hb : Bytes5 st of o0 o1 o2 hs) :
    Ret Try.prog 13 [.agg #[.int .u8 st, .int .u8 of, .int .u8 o0, .int .u8 o1, .int .u8 o2, hv]] w fun r w' => ∃ s off n O C R x rr o cv rv, (1 ≤ s ∧ s ≤ 40) ∧ (0 ≤ off ∧ off ≤ 6) ∧ MadeOk s off n O C R ∧ r = .tuple #[.agg #[.int .i64 off, x], .int .i64 s, o, rr] ∧
      Fam w.heap.size w' (mkE 25 3 x ((List.range n).map cv) rr ((List.range n).map rv) o O cv C rv R) := by
  obtain ⟨h1, h2, h3, h4, h5, h6⟩ := hb
  refine (made_any st of o0 o1 o2 hv hs w h h1 h2 h3 h4 h5 h6).mono ?_
  rintro r w' - ⟨x, rr, o, cv, rv, rfl, hF⟩
  exact ⟨_, _, _, _, _, _, x, rr, o, cv, rv, by omega, by omega, made_ok (1 + st % 40) (of % 7) (fun c => [o0, o1, o2].getD c 0) hs (by omega) (by omega) h6, rfl, hF⟩
theorem steps_good (off lo hi : Int) (v : Value) (xss : List (List Int)) (w : World) (h : Intss w v xss) (hc : chk off xss = 0) (hlo : 1 ≤ lo ∧ lo ≤ hi ∧ hi ≤ 1000) : Ret Try.prog 16 [.agg #[.int .i64 off, v], .agg #[.int .i64 lo, .int .i64 hi]] w fun r w' =>
    ∃ u L, r = .tuple #[u, .int .i64 0] ∧ Ints w' u L ∧ L = stepL off xss lo (hi - lo + 1).toNat ∧ ∀ n, n ∈ L ↔ lo ≤ n ∧ n ≤ hi ∧ okStep off xss n := by
  refine (steps_any off lo hi v xss w h).mono ?_
  have e : spanErr off xss lo hi = 0 := span_ok hc (by omega)
  rw [e]
  rintro r w' - ⟨u, rfl, hu⟩
  rw [if_pos rfl] at hu
  exact ⟨u, _, rfl, hu, rfl, fun n => by rw [mem_stepL]; constructor <;> rintro ⟨a, b, c⟩ <;> exact ⟨a, by omega, c⟩⟩
theorem offsets_good (off c s : Int) (v : Value) (xss : List (List Int)) (w : World) (h : Intss w v xss) (hc : chk off xss = 0) (hcc : 0 ≤ c ∧ c < xss.length) (hs : 1 ≤ s ∧ s ≤ 1000) : Ret Try.prog 14 [.agg #[.int .i64 off, v], .int .i64 c, .int .i64 s] w fun r w' =>
    ∃ u, r = .tuple #[u, .int .i64 0] ∧ Ints w' u (offL off s (xss.getD c.toNat [])) := by
  refine (stepOffsets_any off c s v xss w h).mono ?_
  have e : askErr off xss c s = 0 := ask_ok hc (by omega) (by omega)
  rw [e]
  rintro r w' - ⟨u, rfl, hu⟩
  rw [if_pos rfl] at hu
  exact ⟨u, rfl, hu⟩
theorem okStep_div {off s d : Int} {xss : List (List Int)} (hs : 1 ≤ s) (hd : 1 ≤ d) (hdv : s % d = 0) (h : okStep off xss s) : okStep off xss d := by
  rw [okStep_iff (by omega)] at h ⊢
  intro c hc
  obtain ⟨o, h1, h2, h3⟩ := h c hc
  refine ⟨o % d, Int.emod_nonneg _ (by omega), Int.emod_lt_of_pos _ (by omega), fun j hj => ?_⟩
  obtain ⟨r, h4, h5⟩ := (fits1_row hs).1 (h3 j hj)
  refine (fits1_row hd).2 ⟨o / d + r * (s / d), ?_⟩
  have e1 := Int.mul_ediv_add_emod o d
  have e2 := Int.mul_ediv_add_emod s d
  rw [hdv, Int.add_zero] at e2
  have e3 : (o / d + r * (s / d)) * d = d * (o / d) + r * s := by
    rw [Int.add_mul, Int.mul_comm (o / d) d, Int.mul_assoc, Int.mul_comm (s / d) d, e2]
  rw [e3]
  generalize r * s = q at *
  generalize d * (o / d) = q2 at *
  omega
theorem fits_small {off s o p : Int} (hs : 1 ≤ s ∧ s ≤ 2 * off + 1) : fits1 off s o p := by
  refine (fits1_row hs.1).2 ⟨(p - o + off) / s, ?_⟩
  have e1 := Int.mul_ediv_add_emod (p - o + off) s
  have e2 := Int.emod_nonneg (p - o + off) (show s ≠ 0 by omega)
  have e3 := Int.emod_lt_of_pos (p - o + off) (show 0 < s by omega)
  rw [Int.mul_comm ((p - o + off) / s) s]
  generalize s * ((p - o + off) / s) = q at *
  omega
theorem offTo_small {off s : Int} {xs : List Int} (hs : 1 ≤ s ∧ s ≤ 2 * off + 1) : ∀ k, offTo off s xs k = (List.range k).map (fun (i : Nat) => (i : Int))
  | 0 => rfl
  | k + 1 => by rw [offTo_yes (fun j _ => fits_small hs), offTo_small hs k, List.range_succ, List.map_append]; rfl
theorem okStep_small {off s : Int} {xss : List (List Int)} (hs : 1 ≤ s ∧ s ≤ 2 * off + 1) : okStep off xss s :=
  (okStep_iff (by omega)).2 fun c hc => ⟨0, by omega, by omega, fun j _ => fits_small hs⟩
theorem offsets_small (off c s : Int) (v : Value) (xss : List (List Int)) (w : World) (h : Intss w v xss) (hc : chk off xss = 0) (hcc : 0 ≤ c ∧ c < xss.length) (hs : 1 ≤ s ∧ s ≤ 2 * off + 1) (hs2 : s ≤ 1000) : Ret Try.prog 14 [.agg #[.int .i64 off, v], .int .i64 c, .int .i64 s] w fun r w' =>
    ∃ u M, r = .tuple #[u, .int .i64 0] ∧ Ints w' u M ∧ (M.length : Int) = s ∧ ∀ k, k < M.length → M.getD k 0 = k := by
  refine (offsets_good off c s v xss w h hc hcc (by omega)).mono ?_
  rintro r w' - ⟨u, rfl, hu⟩
  unfold offL at hu
  rw [offTo_small hs] at hu
  exact ⟨u, _, rfl, hu, by simp; omega, fun k hk => by simp at hk; simp [hk]⟩
theorem made_chkSet {s off : Int} {n : Nat} {O : List Int} {C R : Nat → List Int} (h : MadeOk s off n O C R) (hs : 1 ≤ s ∧ s ≤ 40) (hoff : 0 ≤ off ∧ off ≤ 6) {d : Int} (hd : 0 ≤ d ∧ d ≤ 19) : chk off ((List.range n).map (setF C 0 ((C 0).set 0 ((C 0).getD 0 0 + d)))) = 0 := by
  refine chk_of (by omega) (by have := h.1; have := h.2.1; simp; omega) fun c hc => ?_
  have hc' : c < n := by simpa using hc
  rw [made_at _ hc']
  have h1 := h.2.2.2 c hc'
  unfold setF
  by_cases e : c = 0
  · subst e
    rw [if_pos rfl]
    refine ⟨by simp; omega, by simp; omega, fun j hj => ?_⟩
    have hj' : j < (C 0).length := by simpa using hj
    have h2 := h.pos hs hoff hc' hj'
    have h3 := h.pos hs hoff (c := 0) (j := 0) (by omega) (by omega)
    by_cases e2 : j = 0
    · subst e2
      rw [show ((C 0).set 0 ((C 0).getD 0 0 + d)).getD 0 0 = (C 0).getD 0 0 + d by simp [hj']]
      omega
    · rw [show ((C 0).set 0 ((C 0).getD 0 0 + d)).getD j 0 = (C 0).getD j 0 by simp only [List.getD_eq_getElem?_getD]; rw [List.getElem?_set_ne (by omega)]]
      omega
  · rw [if_neg e]
    exact ⟨by omega, by omega, fun j hj => by have := h.pos hs hoff hc' hj; omega⟩
end Go.Proofs.Ytbcbfeeidmggpaa
