/-
  What this text proves: the mathematics of the growths that fit all measurements: what bounds them is a clash if none fits. It speaks of no program.
-/
import Derived.Test.YtagibgjemliadaaVe
set_option linter.unusedVariables false
set_option linter.unusedSimpArgs false

namespace Go.Pv
/-- A measurement's number. -/
abbrev MNo (ms : List (Int × Int)) := { i : Nat // i < ms.length }
/-- Each measurement is one of those with these numbers. -/
def AllIn (ms : List (Int × Int)) (ys : List (MNo ms)) (k : Nat) : Prop := ∀ j, j < k → ∃ i ∈ ys, ms.getD i.1 (0, 0) = ms.getD j (0, 0)
theorem AllIn.yes {ms : List (Int × Int)} {ys : List (MNo ms)} {k : Nat} (h : AllIn ms ys k) (hk : k < ms.length) : AllIn ms (ys ++ [⟨k, hk⟩]) (k + 1) := by
  intro j hj
  by_cases e : j < k
  · obtain ⟨i, h1, h2⟩ := h j e
    exact ⟨i, by simp [h1], h2⟩
  · have : j = k := by omega
    subst this
    exact ⟨⟨j, hk⟩, by simp, rfl⟩
theorem AllIn.no {ms : List (Int × Int)} {ys : List (MNo ms)} {k : Nat} {m : Int} (h : AllIn ms ys k) (hk : k < ms.length) (hp : placeOf ms (ms.getD k (0, 0)) m) (hm : ¬ m = k) : AllIn ms ys (k + 1) := by
  intro j hj
  by_cases e : j < k
  · exact h j e
  · have : j = k := by omega
    subst this
    rcases hp with ⟨_, hp⟩ | ⟨q, rfl, h1, h2, h3⟩
    · exact absurd rfl (hp j hk)
    · have : q < j := by
        rcases Nat.lt_trichotomy q j with c | c | c
        · exact c
        · exact absurd (by rw [c]) hm
        · exact absurd rfl (h3 j c)
      obtain ⟨i, h4, h5⟩ := h q this
      exact ⟨i, h4, h5.trans h2⟩
/-- The measurement with a number. -/
def mOf (ms : List (Int × Int)) (i : MNo ms) : Int × Int := ms.getD i.1 (0, 0)
def CInv (co off lo hi : Int) (ms : List (Int × Int)) (pre : List (MNo ms)) (a b low high : Int) : Prop :=
  (lo ≤ a ∧ b ≤ hi) ∧ (∀ g, lo ≤ g → g ≤ hi → ((∀ i ∈ pre, fitG co off g (mOf ms i)) ↔ a ≤ g ∧ g ≤ b)) ∧
  ((a = lo) ∨ ∃ i : MNo ms, low = i.1 ∧ a = fitLo co off lo hi (mOf ms i) ∧ a ≤ fitHi co off lo hi (mOf ms i) - 1) ∧
  ((b = hi) ∨ ∃ i : MNo ms, high = i.1 ∧ b = fitHi co off lo hi (mOf ms i) - 1 ∧ fitLo co off lo hi (mOf ms i) ≤ b)
theorem CInv.nil {co off lo hi : Int} {ms : List (Int × Int)} (low high : Int) : CInv co off lo hi ms [] lo hi low high :=
  ⟨by omega, fun g h1 h2 => ⟨fun _ => ⟨h1, h2⟩, fun _ i hi => absurd hi (by simp)⟩, .inl rfl, .inl rfl⟩
theorem m_ok {ms : List (Int × Int)} (hok : allOk ms) (i : MNo ms) : msOk (mOf ms i) := hok i.1 i.2
theorem CInv.step {co off lo hi : Int} {ms : List (Int × Int)} {pre : List (MNo ms)} {a b low high a' b' low' high' : Int} {x : MNo ms} (h : CInv co off lo hi ms pre a b low high) (hok : allOk ms) (hlo : lo ≤ hi)
    (hx : fitLo co off lo hi (mOf ms x) ≤ fitHi co off lo hi (mOf ms x) - 1)
    (ha : (a < fitLo co off lo hi (mOf ms x) ∧ a' = fitLo co off lo hi (mOf ms x) ∧ low' = x.1) ∨ (¬ a < fitLo co off lo hi (mOf ms x) ∧ a' = a ∧ low' = low))
    (hb : (fitHi co off lo hi (mOf ms x) - 1 < b ∧ b' = fitHi co off lo hi (mOf ms x) - 1 ∧ high' = x.1) ∨ (¬ fitHi co off lo hi (mOf ms x) - 1 < b ∧ b' = b ∧ high' = high)) :
    CInv co off lo hi ms (pre ++ [x]) a' b' low' high' := by
  obtain ⟨h1, h2, h3, h4⟩ := h
  obtain ⟨f1, f2⟩ := fit_spec (co := co) (off := off) (lo := lo) (hi := hi) (m := mOf ms x) (m_ok hok x).1.1 hlo
  refine ⟨by clear h3 h4; omega, fun g g1 g2 => ?_, ?_, ?_⟩
  · clear h3 h4
    constructor
    · intro hh
      have k1 := (h2 g g1 g2).1 fun i hi => hh i (by simp [hi])
      have k2 := (f2 g g1 g2).1 (hh x (by simp))
      omega
    · intro hh i hi
      rcases List.mem_append.1 hi with hi | hi
      · exact (h2 g g1 g2).2 (by omega) i hi
      · simp at hi
        subst hi
        exact (f2 g g1 g2).2 (by omega)
  · rcases ha with ⟨c, rfl, rfl⟩ | ⟨c, rfl, rfl⟩
    · exact .inr ⟨x, rfl, rfl, hx⟩
    · exact h3
  · rcases hb with ⟨c, rfl, rfl⟩ | ⟨c, rfl, rfl⟩
    · exact .inr ⟨x, rfl, rfl, hx⟩
    · exact h4
theorem mem_mOf {ms : List (Int × Int)} (i : MNo ms) : mOf ms i ∈ ms := by
  have := i.2
  unfold mOf
  simp [List.getD, List.getElem?_eq_getElem this]
theorem CInv.good {co off lo hi : Int} {ms : List (Int × Int)} {ys : List (MNo ms)} {a b low high : Int} (h : CInv co off lo hi ms ys a b low high) (hin : AllIn ms ys ms.length) (hab : a ≤ b) : spanM co off lo hi ms a b := by
  obtain ⟨h1, h2, h3, h4⟩ := h
  refine ⟨by clear h3 h4; omega, fun g g1 g2 => ?_⟩
  rw [← h2 g g1 g2]
  constructor
  · intro hh i hi
    exact hh _ (mem_mOf i)
  · intro hh m hm
    obtain ⟨j, hj, rfl⟩ := List.getElem_of_mem hm
    obtain ⟨i, hi1, hi2⟩ := hin j hj
    have := hh i hi1
    unfold mOf at this
    rw [hi2] at this
    simpa [hj] using this
/-- What common returns: the growths that fit, or a clash. -/
def ComRes (co off lo hi : Int) (ms : List (Int × Int)) (a b : Int) (cl : List Int) : Prop :=
  (cl = [] ∧ spanM co off lo hi ms a b) ∨ (cl ≠ [] ∧ a = 0 ∧ b = 0 ∧ clsErr ms.length cl = 0 ∧ clashM co off lo hi ms cl)
theorem clash_one {co off lo hi : Int} {ms : List (Int × Int)} (hok : allOk ms) (hlo : lo ≤ hi) (x : MNo ms) (hx : fitHi co off lo hi (mOf ms x) - 1 < fitLo co off lo hi (mOf ms x)) : ComRes co off lo hi ms 0 0 [(x.1 : Int)] := by
  refine .inr ⟨by simp, rfl, rfl, ?_, ?_⟩
  · have := x.2
    simp only [clsErr, List.length_singleton, clStep]
    rw [if_neg (by omega), if_neg (by omega), if_neg (by omega), if_neg (by omega)]
  · intro g g1 g2 hf
    obtain ⟨f1, f2⟩ := fit_spec (co := co) (off := off) (lo := lo) (hi := hi) (m := mOf ms x) (m_ok hok x).1.1 hlo
    have := (f2 g g1 g2).1 (hf _ (by simp [pickM, mOf]))
    omega
theorem CInv.clash {co off lo hi : Int} {ms : List (Int × Int)} {ys : List (MNo ms)} {a b low high : Int} (h : CInv co off lo hi ms ys a b low high) (hok : allOk ms) (hlo : lo ≤ hi) (hab : b < a) : ComRes co off lo hi ms 0 0 [min low high, max low high] := by
  obtain ⟨h1, h2, h3, h4⟩ := h
  obtain ⟨i, rfl, e1, e2⟩ : ∃ i : MNo ms, low = i.1 ∧ a = fitLo co off lo hi (mOf ms i) ∧ a ≤ fitHi co off lo hi (mOf ms i) - 1 := by
    rcases h3 with h3 | h3
    · rcases h4 with h4 | ⟨j, _, k1, k2⟩
      · omega
      · have := (fit_spec (co := co) (off := off) (lo := lo) (hi := hi) (m := mOf ms j) (m_ok hok j).1.1 hlo).1
        omega
    · exact h3
  obtain ⟨j, rfl, e3, e4⟩ : ∃ j : MNo ms, high = j.1 ∧ b = fitHi co off lo hi (mOf ms j) - 1 ∧ fitLo co off lo hi (mOf ms j) ≤ b := by
    rcases h4 with h4 | h4
    · have := (fit_spec (co := co) (off := off) (lo := lo) (hi := hi) (m := mOf ms i) (m_ok hok i).1.1 hlo).1
      omega
    · exact h4
  have hij : i.1 ≠ j.1 := by
    intro e
    have : i = j := Subtype.ext e
    subst this
    omega
  have hi2 := i.2
  have hj2 := j.2
  refine .inr ⟨by simp, rfl, rfl, ?_, ?_⟩
  · simp only [clsErr, List.length_cons, List.length_nil, clStep]
    rw [if_neg (by omega), if_neg (by omega), if_neg (by omega), if_neg (by omega), if_neg (by omega), if_neg (by omega)]
  · intro g g1 g2 hf
    have k1 := ((fit_spec (co := co) (off := off) (lo := lo) (hi := hi) (m := mOf ms i) (m_ok hok i).1.1 hlo).2 g g1 g2).1 (hf _ (by
      simp only [pickM, List.map_cons, List.map_nil, List.mem_cons, List.not_mem_nil, or_false, mOf]
      by_cases c : (i.1 : Int) ≤ j.1
      · left; rw [show (min (i.1 : Int) (j.1 : Int)).toNat = i.1 by omega]
      · right; rw [show (max (i.1 : Int) (j.1 : Int)).toNat = i.1 by omega]))
    have k2 := ((fit_spec (co := co) (off := off) (lo := lo) (hi := hi) (m := mOf ms j) (m_ok hok j).1.1 hlo).2 g g1 g2).1 (hf _ (by
      simp only [pickM, List.map_cons, List.map_nil, List.mem_cons, List.not_mem_nil, or_false, mOf]
      by_cases c : (i.1 : Int) ≤ j.1
      · right; rw [show (max (i.1 : Int) (j.1 : Int)).toNat = j.1 by omega]
      · left; rw [show (min (i.1 : Int) (j.1 : Int)).toNat = j.1 by omega]))
    omega
end Go.Pv
