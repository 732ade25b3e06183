/-
  What this text proves: the bridged slot that is returned holds, and has the fewest holes. It speaks of plain functions.
-/
import Derived.Test.YtjcigpakljfkeaaVYg
set_option linter.unusedVariables false
set_option linter.unusedSimpArgs false
namespace Go.Pv
open Go.RowKit
/-- A bridged slot whose holes and bridges are within bounds. -/
def GoodL (a2 B1 B2 A to : Int) (L : List (Int × Int)) : Prop := (L ≠ [] ∧ (L.getD 0 (0, 0)).1 = A ∧ (L.getD (L.length - 1) (0, 0)).2 = to) ∧ (∀ x ∈ lensL L, 1 ≤ x ∧ x ≤ a2) ∧ (∀ x ∈ gapsL L, B1 ≤ x ∧ x ≤ B2) ∧ ∀ p ∈ L, A ≤ p.1 ∧ p.1 < p.2 ∧ p.2 ≤ to
theorem good_cons {a2 B1 B2 A to e1 e2 : Int} {L : List (Int × Int)} (h : GoodL a2 B1 B2 e2 to L) (h1 : 1 ≤ e1 - A ∧ e1 - A ≤ a2) (h2 : B1 ≤ e2 - e1 ∧ e2 - e1 ≤ B2) (h3 : 0 ≤ B1) : GoodL a2 B1 B2 A to ((A, e1) :: L) := by
  obtain ⟨⟨g1, g2, g3⟩, g4, g5, g6⟩ := h
  cases L with
  | nil => exact absurd rfl g1
  | cons p r =>
    have g7 := g6 p (by simp)
    refine ⟨⟨by simp, by simp, by simpa using g3⟩, fun x hx => ?_, fun x hx => ?_, fun q hq => ?_⟩
    · simp only [lensL, List.map_cons, List.mem_cons] at hx
      rcases hx with rfl | hx
      · exact h1
      · exact g4 x (by simpa [lensL] using hx)
    · simp only [gapsL, List.mem_cons] at hx
      rcases hx with rfl | hx
      · have : p.1 = e2 := by simpa using g2
        rw [this]; exact h2
      · exact g5 x hx
    · rcases List.mem_cons.1 hq with rfl | hq
      · simp only; omega
      · have := g6 q hq
        omega
theorem lay_zero {a2 B1 B2 A to : Int} (h : canK (1, a2) (B1, B2) (to - A) 0) : layP to (altL (1, a2) (B1, B2) 0) true A = [(A, to)] := by
  unfold canK at h
  have h0 := alt_zero (1, a2) (B1, B2)
  rw [h0.1, h0.2] at h
  simp only [altL, layP, sumLo, if_true]
  simp only at h
  have : min (A + a2) (to - 0) = to := by omega
  rw [this]
theorem lay_succ {a2 B1 B2 A to : Int} (k : Nat) : layP to (altL (1, a2) (B1, B2) (k + 1)) true A = (A, min (A + a2) (to - (B1 + sumLo (altL (1, a2) (B1, B2) k)))) :: layP to (altL (1, a2) (B1, B2) k) true (min (min (A + a2) (to - (B1 + sumLo (altL (1, a2) (B1, B2) k))) + B2) (to - sumLo (altL (1, a2) (B1, B2) k))) := by
  rw [altL_cons]
  rfl
theorem lay_good {a2 B1 B2 to : Int} (ha : 1 ≤ a2) (hb : B1 ≤ B2) (h0 : 0 ≤ B1) : ∀ (k : Nat) (A : Int), canK (1, a2) (B1, B2) (to - A) k → GoodL a2 B1 B2 A to (layP to (altL (1, a2) (B1, B2) k) true A) ∧ (layP to (altL (1, a2) (B1, B2) k) true A).length = k + 1
  | 0, A, h => by
    rw [lay_zero h]
    unfold canK at h
    have e0 := alt_zero (1, a2) (B1, B2)
    rw [e0.1, e0.2] at h
    simp only at h
    refine ⟨⟨⟨by simp, by simp, by simp⟩, fun x hx => ?_, fun x hx => by simp [gapsL] at hx, fun p hp => ?_⟩, rfl⟩
    · simp [lensL] at hx; omega
    · simp at hp; subst hp; simp only; omega
  | k + 1, A, h => by
    have hs := alt_succ (1, a2) (B1, B2) k
    have ho := alt_ord ha hb h0 k
    unfold canK at h
    rw [hs.1, hs.2] at h
    rw [lay_succ]
    obtain ⟨S1, hS1⟩ : ∃ S1, sumLo (altL (1, a2) (B1, B2) k) = S1 := ⟨_, rfl⟩
    obtain ⟨S2, hS2⟩ : ∃ S2, sumHi (altL (1, a2) (B1, B2) k) = S2 := ⟨_, rfl⟩
    rw [hS1, hS2] at ho
    rw [hS1, hS2] at h
    rw [hS1]
    simp only at h
    obtain ⟨e1, he1⟩ : ∃ e1, min (A + a2) (to - (B1 + S1)) = e1 := ⟨_, rfl⟩
    rw [he1]
    obtain ⟨e2, he2⟩ : ∃ e2, min (e1 + B2) (to - S1) = e2 := ⟨_, rfl⟩
    rw [he2]
    obtain ⟨g1, g2⟩ := lay_good (to := to) ha hb h0 k e2 (by unfold canK; rw [hS1, hS2]; omega)
    exact ⟨good_cons g1 (by omega) (by omega) h0, by simp [g2]⟩
/-- The length of the first hole. -/
theorem lay_first {a2 B1 B2 A to : Int} (k : Nat) (h : canK (1, a2) (B1, B2) (to - A) (k + 1)) : ((layP to (altL (1, a2) (B1, B2) (k + 1)) true A).getD 0 (0, 0)) = (A, min (A + a2) (to - (B1 + sumLo (altL (1, a2) (B1, B2) k)))) := by
  rw [lay_succ]; rfl
theorem few_some {a b : Int × Int} {len : Int} : ∀ (f k0 k : Nat), fewK a b len f k0 = some k → canK a b len k ∧ (k0 ≤ k ∧ k < k0 + f) ∧ (∀ j, k0 ≤ j → j < k → ¬ canK a b len j) ∧ (b = (0, 0) → k = k0)
  | 0, k0, k, h => by simp [fewK] at h
  | f + 1, k0, k, h => by
    simp only [fewK] at h
    split at h
    · next hc =>
      obtain rfl : k0 = k := by simpa using h
      exact ⟨hc, by omega, fun j h1 h2 => absurd h2 (by omega), fun _ => rfl⟩
    · next hc =>
      split at h
      · cases h
      · next hb =>
        obtain ⟨h1, h2, h3, h4⟩ := few_some f (k0 + 1) k h
        refine ⟨h1, by omega, fun j h5 h6 => ?_, fun e => absurd e hb⟩
        rcases Nat.eq_or_lt_of_le h5 with rfl | h7
        · exact hc
        · exact h3 j h7 h6
theorem few_none {a b : Int × Int} {len : Int} : ∀ (f k0 : Nat), fewK a b len f k0 = none → ∀ j, k0 ≤ j → j < k0 + f → (b = (0, 0) → j = k0) → ¬ canK a b len j
  | 0, k0, h, j, h1, h2, _ => absurd h2 (by omega)
  | f + 1, k0, h, j, h1, h2, hb => by
    simp only [fewK] at h
    split at h
    · cases h
    · next hc =>
      rcases Nat.eq_or_lt_of_le h1 with rfl | h3
      · exact hc
      · split at h
        · next hb0 => exact absurd (hb hb0) (by omega)
        · next hb0 => exact few_none f (k0 + 1) h j h3 (by omega) (fun e => absurd e hb0)
theorem holds_ok {gl gh lo na sh a2 B1 B2 A to : Int} {L : List (Int × Int)} (h0 : barsErr gl gh lo na sh = 0) (hA : barsA gl gh lo na sh = (1, a2)) (hB : barsB gl gh lo na sh = (B1, B2)) (hs : slotOk (A, to)) (hg : GoodL a2 B1 B2 A to L) (hl : L.length ≤ 200) (h1 : L.length = 1 ∨ 1 ≤ B1) : holdsErr gl gh lo na sh (A, to) L = 0 := by
  obtain ⟨⟨g1, g2, g3⟩, g4, g5, g6⟩ := hg
  have hp := (bars_inv h0).1
  have hs2 := hs
  unfold slotOk at hs2
  simp only at hs2
  have hne : ¬ L.length = 0 := fun e => g1 (List.length_eq_zero_iff.1 e)
  have hsh : shapeErr (A, to) L = 0 := by
    refine shape_good (by omega) hne (fun j hj => ?_) (fun hc => hc g2) (fun hc => hc g3) (fun x hx => ?_)
    · have := g6 _ (mem_getDz (d := (0, 0)) hj)
      unfold slotOk
      omega
    · rcases h1 with h1 | h1
      · match L, h1, hx with
        | [_], _, hx => simp [gapsL] at hx
      · have := g5 x hx; omega
  unfold holdsErr
  rw [if_neg (by simpa using hp), if_neg (by simpa using hs), if_neg (by simp [hsh]), hA, hB, if_pos ⟨g4, g5⟩]
/-- Of a length that is small: either the fewest holes are found, or no number of holes will do. -/
theorem few_case {gl gh lo na sh a2 B1 B2 n A to : Int} (h0 : barsErr gl gh lo na sh = 0) (hA : barsA gl gh lo na sh = (1, a2)) (hB : barsB gl gh lo na sh = (B1, B2)) (ha : 1 ≤ a2) (hb : (B1 = 0 ∧ B2 = 0) ∨ (1 ≤ B1 ∧ B1 ≤ B2)) (hs : slotOk (A, to)) (hn : to - A = n) (hn2 : n ≤ 26) :
    (∃ K, K ≤ 13 ∧ divD a2 B1 B2 K n ∧ (∀ j, j < K → ¬ divD a2 B1 B2 j n) ∧ bridgeErr gl gh lo na sh (A, to) = 0 ∧ bridgeL gl gh lo na sh (A, to) = layP to (altL (1, a2) (B1, B2) K) true A) ∨
    ((∀ j, ¬ divD a2 B1 B2 j n) ∧ bridgeErr gl gh lo na sh (A, to) = 20 ∧ bridgeL gl gh lo na sh (A, to) = []) := by
  have hbig : ∀ j : Nat, 1 ≤ B1 → canK (1, a2) (B1, B2) n j → j ≤ 13 := by
    intro j hB1 hc
    have h := altL_lo (1, a2) (B1, B2) j
    unfold canK at hc
    rw [h] at hc
    simp only at hc
    have : (j : Int) * 1 ≤ (j : Int) * B1 := Int.mul_le_mul_of_nonneg_left hB1 (by omega)
    omega
  have e0 : ¬ (barsErr gl gh lo na sh ≠ 0) := by simp [h0]
  have e1 : ¬ (¬ slotOk (A, to) ∨ 10000 < (A, to).2 - (A, to).1) := by simp only; simp [hs]; omega
  unfold bridgeErr bridgeL
  rw [if_neg e0, if_neg e0, if_neg e1, if_neg e1, hA, hB]
  simp only [hn]
  cases hf : fewK (1, a2) (B1, B2) n 200 0 with
  | some k =>
    obtain ⟨h1, h2, h3, h4⟩ := few_some _ _ _ hf
    have hk : k = 0 ∨ 1 ≤ B1 := by
      rcases hb with ⟨r1, r2⟩ | hb
      · exact .inl (h4 (by rw [r1, r2]))
      · exact .inr hb.1
    refine .inl ⟨k, ?_, ⟨hk, h1⟩, fun j hj hd => h3 j (by omega) hj hd.2, rfl, rfl⟩
    rcases hk with rfl | hk
    · omega
    · exact hbig k hk h1
  | none =>
    have h1 := few_none _ _ hf
    refine .inr ⟨fun j hd => ?_, rfl, rfl⟩
    rcases hd.1 with rfl | hB1
    · exact h1 0 (by omega) (by omega) (fun _ => rfl) hd.2
    · have := hbig j hB1 hd.2
      exact h1 j (by omega) (by omega) (fun e => by simp at e; omega) hd.2
end Go.Pv
