/-
  What this text proves: lengths of holes and bridges, and bridged slots, as plain functions on integers and lists, and facts on them. It speaks of no program.
-/
import Derived.Test.YtjcigpakljfkeaaUs
set_option linter.unusedVariables false
set_option linter.unusedSimpArgs false

namespace Go.Pv
def paperOk (gl gh lo na sh : Int) : Prop := 900 ≤ gl ∧ gl ≤ gh ∧ gh ≤ 1100 ∧ (1 ≤ lo ∧ lo ≤ 1000) ∧ (1 ≤ na ∧ na ≤ 1000) ∧ (1 ≤ sh ∧ sh ≤ 1000)
instance (gl gh lo na sh : Int) : Decidable (paperOk gl gh lo na sh) := by unfold paperOk; exact inferInstance
/-- The greatest length of a hole; the least and the greatest of a bridge. -/
def aHi (gh lo : Int) : Int := lo * 1000 / gh
def bLo (gl na : Int) : Int := (na * 1000 + gl - 1) / gl
def bHi (gh sh : Int) : Int := (sh * 1000 - 1) / gh
theorem aHi_iff {gh lo n : Int} (hg : 1 ≤ gh) : n ≤ aHi gh lo ↔ n * gh ≤ 1000 * lo := by
  unfold aHi; rw [Int.le_ediv_iff_mul_le (by omega)]; omega
theorem bHi_iff {gh sh n : Int} (hg : 1 ≤ gh) : n ≤ bHi gh sh ↔ n * gh < 1000 * sh := by
  unfold bHi; rw [Int.le_ediv_iff_mul_le (by omega)]; omega
theorem bLo_iff {gl na n : Int} (hg : 1 ≤ gl) : bLo gl na ≤ n ↔ 1000 * na ≤ n * gl := by
  have h : bLo gl na ≤ n ↔ bLo gl na < n + 1 := by omega
  rw [h]
  unfold bLo
  rw [Int.ediv_lt_iff_lt_mul (by omega), Int.add_mul]
  omega
theorem aHi_bd {gl gh lo na sh : Int} (h : paperOk gl gh lo na sh) : 0 ≤ aHi gh lo ∧ aHi gh lo ≤ 1111 := by
  unfold paperOk at h
  have h1 := (aHi_iff (gh := gh) (lo := lo) (n := 0) (by omega)).2 (by omega)
  refine ⟨h1, Classical.byContradiction fun hc => ?_⟩
  have h2 := (aHi_iff (gh := gh) (lo := lo) (n := 1112) (by omega)).1 (by omega)
  omega
theorem bHi_bd {gl gh lo na sh : Int} (h : paperOk gl gh lo na sh) : 0 ≤ bHi gh sh ∧ bHi gh sh ≤ 1111 := by
  unfold paperOk at h
  have h1 := (bHi_iff (gh := gh) (sh := sh) (n := 0) (by omega)).2 (by omega)
  refine ⟨h1, Classical.byContradiction fun hc => ?_⟩
  have h2 := (bHi_iff (gh := gh) (sh := sh) (n := 1112) (by omega)).1 (by omega)
  omega
theorem bLo_bd {gl gh lo na sh : Int} (h : paperOk gl gh lo na sh) : 1 ≤ bLo gl na ∧ bLo gl na ≤ 1112 := by
  unfold paperOk at h
  refine ⟨Classical.byContradiction fun hc => ?_, (bLo_iff (by omega)).2 (by omega)⟩
  have h2 := (bLo_iff (gl := gl) (na := na) (n := 0) (by omega)).1 (by omega)
  omega
/-- The error of Bars, and its spans. -/
def barsErr (gl gh lo na sh : Int) : Int := if ¬ paperOk gl gh lo na sh then 3 else if aHi gh lo < 1 then 20 else 0
def barsA (gl gh lo na sh : Int) : Int × Int := if barsErr gl gh lo na sh ≠ 0 then (0, 0) else (1, aHi gh lo)
def barsB (gl gh lo na sh : Int) : Int × Int := if barsErr gl gh lo na sh ≠ 0 then (0, 0) else if bHi gh sh < bLo gl na then (0, 0) else (bLo gl na, bHi gh sh)
theorem bars_inv {gl gh lo na sh : Int} (h : barsErr gl gh lo na sh = 0) : paperOk gl gh lo na sh ∧ 1 ≤ aHi gh lo := by
  unfold barsErr at h
  split at h
  · omega
  · next h1 =>
    split at h
    · omega
    · exact ⟨Classical.not_not.1 h1, by omega⟩
/-- What is known of the spans that Bars returns. -/
def SpanOk (a b : Int × Int) : Prop := a.1 = 1 ∧ 1 ≤ a.2 ∧ a.2 ≤ 1111 ∧ (b = (0, 0) ∨ (1 ≤ b.1 ∧ b.1 ≤ b.2 ∧ b.2 ≤ 1111))
theorem bars_ok {gl gh lo na sh : Int} (h : barsErr gl gh lo na sh = 0) : SpanOk (barsA gl gh lo na sh) (barsB gl gh lo na sh) := by
  obtain ⟨h1, h2⟩ := bars_inv h
  have h3 := aHi_bd h1
  have h4 := bHi_bd h1
  have h5 := bLo_bd h1
  unfold SpanOk barsA barsB
  rw [if_neg (by omega), if_neg (by omega)]
  refine ⟨rfl, h2, h3.2, ?_⟩
  split
  · exact .inl rfl
  · exact .inr ⟨h5.1, by omega, h4.2⟩
/-- Sums of the bounds of parts. -/
def sumLo : List (Int × Int) → Int
  | [] => 0
  | p :: r => p.1 + sumLo r
def sumHi : List (Int × Int) → Int
  | [] => 0
  | p :: r => p.2 + sumHi r
theorem sumLo_app (a b : List (Int × Int)) : sumLo (a ++ b) = sumLo a + sumLo b := by
  induction a with
  | nil => simp [sumLo]
  | cons p r ih => simp only [List.cons_append, sumLo, ih]; omega
theorem sumHi_app (a b : List (Int × Int)) : sumHi (a ++ b) = sumHi a + sumHi b := by
  induction a with
  | nil => simp [sumHi]
  | cons p r ih => simp only [List.cons_append, sumHi, ih]; omega
/-- A hole, a bridge, a hole, and so on, with k bridges. -/
def altL (a b : Int × Int) : Nat → List (Int × Int)
  | 0 => [a]
  | k + 1 => altL a b k ++ [b, a]
theorem altL_len (a b : Int × Int) : ∀ k, (altL a b k).length = 2 * k + 1
  | 0 => rfl
  | k + 1 => by simp [altL, altL_len a b k]; omega
theorem altL_cons (a b : Int × Int) : ∀ k, altL a b (k + 1) = a :: b :: altL a b k
  | 0 => rfl
  | k + 1 => by
    have h1 := altL_cons a b k
    show altL a b (k + 1) ++ [b, a] = a :: b :: (altL a b k ++ [b, a])
    rw [h1]; rfl
theorem altL_lo (a b : Int × Int) : ∀ k : Nat, sumLo (altL a b k) = (k + 1) * a.1 + k * b.1
  | 0 => by simp [altL, sumLo]
  | k + 1 => by
    simp only [altL, sumLo_app, altL_lo a b k, sumLo]
    have e1 : ((k : Int) + 1 + 1) * a.1 = ((k : Int) + 1) * a.1 + a.1 := by rw [Int.add_mul]; omega
    have e2 : ((k : Int) + 1) * b.1 = (k : Int) * b.1 + b.1 := by rw [Int.add_mul]; omega
    push_cast
    rw [e1, e2]; omega
theorem altL_hi (a b : Int × Int) : ∀ k : Nat, sumHi (altL a b k) = (k + 1) * a.2 + k * b.2
  | 0 => by simp [altL, sumHi]
  | k + 1 => by
    simp only [altL, sumHi_app, altL_hi a b k, sumHi]
    have e1 : ((k : Int) + 1 + 1) * a.2 = ((k : Int) + 1) * a.2 + a.2 := by rw [Int.add_mul]; omega
    have e2 : ((k : Int) + 1) * b.2 = (k : Int) * b.2 + b.2 := by rw [Int.add_mul]; omega
    push_cast
    rw [e1, e2]; omega
/-- So many parts can have a length together. -/
def canK (a b : Int × Int) (len : Int) (k : Nat) : Prop := sumLo (altL a b k) ≤ len ∧ len ≤ sumHi (altL a b k)
instance (a b : Int × Int) (len : Int) (k : Nat) : Decidable (canK a b len k) := by unfold canK; exact inferInstance
/-- The least number of bridges, from k on, with fuel; none. -/
def fewK (a b : Int × Int) (len : Int) : Nat → Nat → Option Nat
  | 0, _ => none
  | f + 1, k => if canK a b len k then some k else if b = (0, 0) then none else fewK a b len f (k + 1)
/-- The holes that parts are filled with: e: the first part is a hole. -/
def layP (to : Int) : List (Int × Int) → Bool → Int → List (Int × Int)
  | [], _, _ => []
  | p :: r, e, at_ => if e then (at_, min (at_ + p.2) (to - sumLo r)) :: layP to r false (min (at_ + p.2) (to - sumLo r)) else layP to r true (min (at_ + p.2) (to - sumLo r))
/-- The error of Bridge, and its holes. -/
def bridgeErr (gl gh lo na sh : Int) (s : Int × Int) : Int :=
  if barsErr gl gh lo na sh ≠ 0 then barsErr gl gh lo na sh else if ¬ slotOk s ∨ 10000 < s.2 - s.1 then 3 else
    match fewK (barsA gl gh lo na sh) (barsB gl gh lo na sh) (s.2 - s.1) 200 0 with
    | none => 20
    | some _ => 0
def bridgeL (gl gh lo na sh : Int) (s : Int × Int) : List (Int × Int) :=
  if barsErr gl gh lo na sh ≠ 0 then [] else if ¬ slotOk s ∨ 10000 < s.2 - s.1 then [] else
    match fewK (barsA gl gh lo na sh) (barsB gl gh lo na sh) (s.2 - s.1) 200 0 with
    | none => []
    | some k => layP s.2 (altL (barsA gl gh lo na sh) (barsB gl gh lo na sh) k) true s.1
/-- The error of holes that are not a bridged slot, and that of holes that do not hold. -/
def lensL (hl : List (Int × Int)) : List Int := hl.map fun h => h.2 - h.1
def gapsL : List (Int × Int) → List Int
  | [] => []
  | [_] => []
  | a :: b :: r => (b.1 - a.2) :: gapsL (b :: r)
def shapeErr (s : Int × Int) (hl : List (Int × Int)) : Int :=
  if 200 < hl.length then 5 else if hl.length = 0 ∨ ¬ slotsOk hl then 6 else if (hl.getD 0 (0, 0)).1 ≠ s.1 ∨ (hl.getD (hl.length - 1) (0, 0)).2 ≠ s.2 then 13 else if ∀ x ∈ gapsL hl, 1 ≤ x then 0 else 13
def holdsErr (gl gh lo na sh : Int) (s : Int × Int) (hl : List (Int × Int)) : Int :=
  if ¬ paperOk gl gh lo na sh then 3 else if ¬ slotOk s then 3 else if shapeErr s hl ≠ 0 then shapeErr s hl else
    if (∀ x ∈ lensL hl, (barsA gl gh lo na sh).1 ≤ x ∧ x ≤ (barsA gl gh lo na sh).2) ∧ (∀ x ∈ gapsL hl, (barsB gl gh lo na sh).1 ≤ x ∧ x ≤ (barsB gl gh lo na sh).2) then 0 else 21
end Go.Pv
