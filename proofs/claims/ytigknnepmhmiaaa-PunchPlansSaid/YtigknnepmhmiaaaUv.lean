/-
  What this text proves: the reference's Bridge is as the plain functions say. Conditions: the values read as lists.
-/
import Derived.Test.YtigknnepmhmiaaaUq
set_option linter.unusedVariables false
set_option linter.unusedSimpArgs false

namespace Go.Pv
/-- What is known at the start of a round: the sums behind the hole, and a length that fits. -/
theorem round_hole {a b : Int × Int} {to A : Int} {M : Nat} (hr : canK a b (to - A) M) (ha : 1 ≤ a.1 ∧ a.1 ≤ a.2 ∧ a.2 ≤ 1111) (hb : 0 ≤ b.1 ∧ b.1 ≤ b.2 ∧ b.2 ≤ 1111) (hM : M ≤ 200) : ∃ S1 S2 h0 : Int, (M : Int) * a.1 + (M : Int) * b.1 = S1 ∧ (M : Int) * a.2 + (M : Int) * b.2 = S2 ∧ 0 ≤ S1 ∧ S1 ≤ S2 ∧ S2 ≤ 1000000 ∧ S1 + a.1 ≤ to - A ∧ to - A ≤ S2 + a.2 ∧ a.1 ≤ h0 ∧ h0 ≤ a.2 ∧ S1 ≤ to - A - h0 ∧ to - A - h0 ≤ S2 := by
  have m1 := Int.mul_le_mul_of_nonneg_left ha.2.1 (show 0 ≤ (M : Int) by omega)
  have m2 := Int.mul_le_mul_of_nonneg_left hb.2.1 (show 0 ≤ (M : Int) by omega)
  have m3 := Int.mul_nonneg (show 0 ≤ (M : Int) by omega) (show 0 ≤ a.1 by omega)
  have m4 := Int.mul_nonneg (show 0 ≤ (M : Int) by omega) hb.1
  have m5 := mul_bd (n := a.2) (g := (M : Int)) (by omega) (by omega)
  have m6 := Int.mul_le_mul_of_nonneg_left ha.2.2 (show 0 ≤ (M : Int) by omega)
  have m7 := Int.mul_le_mul_of_nonneg_left hb.2.2 (show 0 ≤ (M : Int) by omega)
  obtain ⟨h0, h1, h2, h3⟩ := hole_ex hr (by omega) ha.2.1
  unfold canK at hr
  rw [(alt_sum a b M).1, (alt_sum a b M).2] at hr
  simp only [Int.add_mul] at hr
  exact ⟨_, _, h0, rfl, rfl, by omega, by omega, by omega, by omega, by omega, h2, h1, h3.1, h3.2⟩
theorem round_bridge {a b : Int × Int} {to A : Int} {m : Nat} (hr : ((m + 1 : Nat) : Int) * a.1 + ((m + 1 : Nat) : Int) * b.1 ≤ to - A ∧ to - A ≤ ((m + 1 : Nat) : Int) * a.2 + ((m + 1 : Nat) : Int) * b.2) (ha : 1 ≤ a.1 ∧ a.1 ≤ a.2 ∧ a.2 ≤ 1111) (hb : 0 ≤ b.1 ∧ b.1 ≤ b.2 ∧ b.2 ≤ 1111) (hM : m ≤ 200) : ∃ T1 T2 g0 : Int, ((m + 1 : Nat) : Int) * a.1 + (m : Int) * b.1 = T1 ∧ ((m + 1 : Nat) : Int) * a.2 + (m : Int) * b.2 = T2 ∧ 0 ≤ T1 ∧ T1 ≤ T2 ∧ T2 ≤ 1000000 ∧ T1 + b.1 ≤ to - A ∧ to - A ≤ T2 + b.2 ∧ b.1 ≤ g0 ∧ g0 ≤ b.2 ∧ T1 ≤ to - A - g0 ∧ to - A - g0 ≤ T2 := by
  have m1 := Int.mul_le_mul_of_nonneg_left ha.2.1 (show 0 ≤ (m : Int) by omega)
  have m2 := Int.mul_le_mul_of_nonneg_left hb.2.1 (show 0 ≤ (m : Int) by omega)
  have m3 := Int.mul_nonneg (show 0 ≤ (m : Int) by omega) (show 0 ≤ a.1 by omega)
  have m4 := Int.mul_nonneg (show 0 ≤ (m : Int) by omega) hb.1
  have m6 := Int.mul_le_mul_of_nonneg_left ha.2.2 (show 0 ≤ (m : Int) by omega)
  have m7 := Int.mul_le_mul_of_nonneg_left hb.2.2 (show 0 ≤ (m : Int) by omega)
  simp only [Int.natCast_add, Int.add_mul] at hr ⊢
  obtain ⟨T1, hT1⟩ : ∃ T, (m : Int) * a.1 + ((1 : Nat) : Int) * a.1 + (m : Int) * b.1 = T := ⟨_, rfl⟩
  obtain ⟨T2, hT2⟩ : ∃ T, (m : Int) * a.2 + ((1 : Nat) : Int) * a.2 + (m : Int) * b.2 = T := ⟨_, rfl⟩
  refine ⟨T1, T2, min b.2 (to - A - T1), hT1, hT2, by omega, by omega, by omega, by omega, by omega, by omega, by omega, by omega, by omega⟩
theorem canK_of {a b : Int × Int} {len T1 T2 : Int} {m : Nat} (h1 : ((m + 1 : Nat) : Int) * a.1 + (m : Int) * b.1 = T1) (h2 : ((m + 1 : Nat) : Int) * a.2 + (m : Int) * b.2 = T2) : canK a b len m ↔ T1 ≤ len ∧ len ≤ T2 := by
  unfold canK
  rw [(alt_sum a b m).1, (alt_sum a b m).2, ← h1, ← h2]
  exact Iff.rfl
/-- The hole found is the one of layP; so is the bridge. -/
theorem hole_min {a b : Int × Int} {to A h S1 S2 : Int} (hS : S1 ≤ S2) (hr : to - A ≤ S2 + a.2) (h1 : h ≤ a.2) (h2 : S1 ≤ to - A - h ∧ to - A - h ≤ S2) (hmax : ∀ g, h < g → g ≤ a.2 → ¬ (S1 ≤ to - A - g ∧ to - A - g ≤ S2)) : min (A + a.2) (to - S1) = A + h := by
  by_cases hh : h = a.2
  · omega
  · have h2 := hmax (h + 1) (by omega) (by omega)
    omega
end Go.Pv
namespace Go.Proofs.Ytigknnepmhmiaaa
open Go.Pv Go.RowKit
set_option maxHeartbeats 8000000

theorem rcanS_any (a1 a2 b1 b2 len h1 g1 M G S1 S2 : Int) (w : World) (ha : (0 ≤ a1 ∧ a1 ≤ 100000) ∧ (0 ≤ a2 ∧ a2 ≤ 100000)) (hb : (0 ≤ b1 ∧ b1 ≤ 100000) ∧ (0 ≤ b2 ∧ b2 ≤ 100000)) (hh : h1 = M) (hg : g1 = G) (hM : -1000000 ≤ M ∧ M ≤ 1000000) (hG : -1000000 ≤ G ∧ G ≤ 1000000) (hS1 : M * a1 + G * b1 = S1) (hS2 : M * a2 + G * b2 = S2) : Ret Try.prog 76 [.agg #[.int .i64 a1, .int .i64 a2], .agg #[.int .i64 b1, .int .i64 b2], .int .i64 len, .int .i64 h1, .int .i64 g1] w fun r _ => r = .bool (decide (S1 ≤ len ∧ len ≤ S2)) := by
  subst hh hg hS1 hS2
  exact rcan_any a1 a2 b1 b2 len h1 g1 w ha hb hM hG
end Go.Proofs.Ytigknnepmhmiaaa
