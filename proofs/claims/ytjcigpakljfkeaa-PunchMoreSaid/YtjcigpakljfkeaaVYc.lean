/-
  What this text proves: the beginning of a slice of integers, the numbers of a crowd, and the law on crowds. Conditions: the values read as lists.
-/
import Derived.Test.YtjcigpakljfkeaaVYb
set_option linter.unusedVariables false
set_option linter.unusedSimpArgs false
namespace Go.Pv
open Go.RowKit
/-- x[:i] of a slice. -/
def takeV : Value → Nat → Value
  | .slice a n c, i => .slice a i c
  | v, _ => v
theorem IntsK.take {kk : IntKind} {w : World} {v : Value} {xs : List Int} (hv : IntsK kk w v xs) {i : Nat} (hle : i ≤ xs.length) : IntsK kk w (takeV v i) (xs.take i) := by
  unfold IntsK Sl at hv ⊢
  obtain ⟨h0, a, cap, rfl, hc, hm, hall⟩ := hv
  have hl : (xs.take i).length = i := by simp; omega
  refine ⟨by omega, a, cap, by simp only [takeV]; rw [hl], by omega, hm, fun j hj => ?_⟩
  rw [hl] at hj
  obtain ⟨b, u, e1, e2, e3⟩ := hall j (by omega)
  refine ⟨b, u, e1, e2, ?_⟩
  rw [List.getElem_take]
  exact e3
section
variable {P : Program} {l : St} {w : World} {od : Option Nat} {ty : TypeId} {pos : String} {af : Array Edge}
theorem r_takeI {x hx2 : Operand} {T e : TypeId} {v : Value} {i : Nat} {k kk : IntKind} {z : Value} {b : Nat} {xs : List Int} [h : Und P T (.slice e)] [hs : Sz P e z 1 b] (hx : ev l x = v) (hv : IntsK kk w v xs) (hi : ev l hx2 = .int k (i : Int)) (hle : i ≤ xs.length) :
    Runs P ⟨od, .slice T x none (some hx2) none, ty, pos, af, none⟩ l w (takeV v i) := by
  unfold IntsK Sl at hv
  obtain ⟨_, a, cap, rfl, hc, hm, _⟩ := hv
  have h1 : i ≤ cap := by omega
  cases a <;> simp [Runs, execOp, hx, hi, Instr.sliceAt, Instr.slice, Instr.sliceBounds, Instr.sliceBound, asIntOf, h.run, hs.run, h1, takeV, Addr.add]
end
/-- The numbers that the law on crowds makes of bytes. -/
def planC (ms : List Int) (n : Nat) : List Int := (List.range n).map fun i => if i < ms.length then ms.getD i 0 % 5 else (i : Int)
theorem planC_len (ms : List Int) (n : Nat) : (planC ms n).length = n := by simp [planC]
theorem planC_get (ms : List Int) {n i : Nat} (h : i < n) : (planC ms n).getD i 0 = if i < ms.length then ms.getD i 0 % 5 else (i : Int) := by simp [planC, List.getD, h]
theorem planC_succ (ms : List Int) (n : Nat) : planC ms (n + 1) = planC ms n ++ [if n < ms.length then ms.getD n 0 % 5 else (n : Int)] := by simp [planC, List.range_succ]
theorem planC_bd (ms : List Int) {n i : Nat} (hm : ∀ j, 0 ≤ ms.getD j 0) (hn : n ≤ 7) : 0 ≤ (planC ms n).getD i 0 ∧ (planC ms n).getD i 0 ≤ 6 := by
  by_cases h : i < n
  · rw [planC_get ms h]
    have := hm i
    split <;> omega
  · rw [List.getD, List.getElem?_eq_none (by rw [planC_len]; omega)]
    simp
theorem passTo_ext {p q : List Int} : ∀ {k : Nat}, (∀ j, j < k → p.getD j 0 = q.getD j 0) → passTo p k = passTo q k
  | 0, _ => rfl
  | k + 1, h => by
    simp only [passTo]
    rw [passTo_ext (k := k) fun j hj => h j (by omega), h k (by omega)]
theorem passC_succ (ms : List Int) (n : Nat) : passL (planC ms (n + 1)) = max (passL (planC ms n)) ((if n < ms.length then ms.getD n 0 % 5 else (n : Int)) + 1) := by
  unfold passL
  rw [planC_len, planC_len]
  show max (passTo _ n) _ = _
  rw [passTo_ext (q := planC ms n) fun j hj => ?_, planC_get ms (by omega)]
  rw [planC_get ms (by omega), planC_get ms hj]
theorem crowd_facts {rest m : Int} {sl : List (Int × Int)} {L : List Int} (h : crowdL rest sl m = L) : ∃ cN : Nat → Nat, (∀ i, i < L.length → L.getD i 0 = (cN i : Int) ∧ cN i < sl.length ∧ (sl.getD (cN i) (0, 0)).1 ≤ m ∧ m < (sl.getD (cN i) (0, 0)).2 + rest) ∧ ∀ i j, i < j → j < L.length → cN i < cN j := by
  subst h
  have hm : ∀ i, i < (crowdL rest sl m).length → ∃ x : Nat, x < sl.length ∧ (crowdL rest sl m).getD i 0 = (x : Int) ∧ inC rest m (sl.getD x (0, 0)) := by
    intro i hi
    have := List.getElem_mem hi
    obtain ⟨x, h1, h2, h3⟩ := crowd_mem.1 this
    exact ⟨x, h1, by simpa [List.getD, hi] using h2, h3⟩
  have hg : ∀ i, i < (crowdL rest sl m).length → (crowdL rest sl m).getD i 0 = (((crowdL rest sl m).getD i 0).toNat : Int) ∧ ((crowdL rest sl m).getD i 0).toNat < sl.length ∧ inC rest m (sl.getD ((crowdL rest sl m).getD i 0).toNat (0, 0)) := by
    intro i hi
    obtain ⟨x, h1, h2, h3⟩ := hm i hi
    rw [h2]
    exact ⟨by simp, by simpa using h1, by simpa using h3⟩
  refine ⟨fun i => ((crowdL rest sl m).getD i 0).toNat, fun i hi => ⟨(hg i hi).1, (hg i hi).2.1, (hg i hi).2.2.1, (hg i hi).2.2.2⟩, fun i j hij hj => ?_⟩
  have hp : (crowdL rest sl m).Pairwise (· < ·) := crowd_lt rest m sl sl.length
  have hi : i < (crowdL rest sl m).length := by omega
  have h1 := List.pairwise_iff_getElem.1 hp i j hi hj hij
  have h2 := (hg i hi).1
  have h3 := (hg j hj).1
  have e1 : (crowdL rest sl m).getD i 0 = (crowdL rest sl m)[i] := by simp [List.getD, hi]
  have e2 : (crowdL rest sl m).getD j 0 = (crowdL rest sl m)[j] := by simp [List.getD, hj]
  show ((crowdL rest sl m).getD i 0).toNat < ((crowdL rest sl m).getD j 0).toNat
  omega
end Go.Pv
