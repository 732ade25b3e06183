/-
  (rows) What this text proves: laws that gains need: which answer Gains gives, comparisons of fractions whose result is known, '&' with a mask. Conditions: as stated in each.
-/
import Derived.Test.YtbmjigneekodnaaVNb
set_option linter.unusedVariables false
set_option linter.unusedSimpArgs false

namespace Go.Pv
/-- The ends between which an offset lies, times all denominators: the bound f, the gain g. -/
def dnG (f g : Int × Int) (c : T3) : Int := c.2.2 * (g.2 * f.2) - f.1 * g.2 - g.1 * c.1 * f.2
def upG (f g : Int × Int) (c : T3) : Int := c.2.1 * (g.2 * f.2) + f.1 * g.2 - g.1 * c.1 * f.2
def gainKeeps (l : List T3) (f g : Int × Int) : Prop := ∀ i j, i < l.length → j < l.length → dnG f g (l.getD j cD) ≤ upG f g (l.getD i cD)
theorem dn_up_self {f g : Int × Int} {a : T3} (hg : 1 ≤ g.2) : dnG f g a ≤ upG f g a ↔ (a.2.2 - a.2.1) * f.2 ≤ 2 * f.1 := by
  have e : dnG f g a - upG f g a = ((a.2.2 - a.2.1) * f.2 - 2 * f.1) * g.2 := by
    unfold dnG upG
    grind
  constructor
  · intro h
    have h1 : ((a.2.2 - a.2.1) * f.2 - 2 * f.1) * g.2 ≤ 0 * g.2 := by rw [Int.zero_mul]; omega
    have := cut_mul (show 0 < g.2 by omega) h1
    omega
  · intro h
    have h1 := Int.mul_le_mul_of_nonneg_right (show (a.2.2 - a.2.1) * f.2 - 2 * f.1 ≤ 0 by omega) (show 0 ≤ g.2 by omega)
    rw [Int.zero_mul] at h1
    omega
theorem fN_trans {p q x : Int × Int} (hp : 1 ≤ p.2) (hq : 1 ≤ q.2) (hx : 1 ≤ x.2) (h1 : ¬ fLt p q) (h2 : ¬ fLt q x) : ¬ fLt p x := by
  unfold fLt at *
  intro h3
  have m1 := Int.mul_le_mul_of_nonneg_right (Int.not_lt.1 h1) (show 0 ≤ x.2 by omega)
  have m2 := Int.mul_le_mul_of_nonneg_right (Int.not_lt.1 h2) (show 0 ≤ p.2 by omega)
  have m3 := Int.mul_lt_mul_of_pos_right h3 (show 0 < q.2 by omega)
  have e1 : p.1 * x.2 * q.2 = p.1 * q.2 * x.2 := by ac_rfl
  have e2 : x.1 * p.2 * q.2 = x.1 * q.2 * p.2 := by ac_rfl
  have e3 : q.1 * x.2 * p.2 = q.1 * p.2 * x.2 := by ac_rfl
  omega
theorem fLt_low_l {g a : Int × Int} (ha : 1 ≤ a.2) : fLt (low a) g ↔ fLt a g := by
  have h1 := low_cross ha
  have h2 := (low_den ha).1.1
  generalize low a = b at *
  unfold fLt
  have e1 : b.1 * g.2 * a.2 = a.1 * g.2 * b.2 := by
    have : b.1 * g.2 * a.2 = b.1 * a.2 * g.2 := by ac_rfl
    rw [this, ← h1]; ac_rfl
  have e2 : g.1 * b.2 * a.2 = g.1 * a.2 * b.2 := by ac_rfl
  constructor
  · intro h
    have := Int.mul_lt_mul_of_pos_right h (show 0 < a.2 by omega)
    rw [e1, e2] at this
    exact Int.lt_of_mul_lt_mul_right this (show 0 ≤ b.2 by omega)
  · intro h
    have := Int.mul_lt_mul_of_pos_right h (show 0 < b.2 by omega)
    rw [← e1, ← e2] at this
    exact Int.lt_of_mul_lt_mul_right this (show 0 ≤ a.2 by omega)
/-- Where a line keeps a bound, no codes prove more. -/
theorem line_fits {l : List T3} {f g : Int × Int} (hv : Valid l) (hf : 1 ≤ f.2) (hg : 1 ≤ g.2) (h : gainKeeps l f g) : fitsL l f := by
  rintro ⟨p1, p2, p3⟩ hq
  unfold isProof at hq
  simp only at hq
  unfold fLt prvL
  simp only
  by_cases e : p1 = p2 ∧ p2 = p3
  · rw [if_pos e]
    have := (dn_up_self hg).1 (h p1 p1 (by omega) (by omega))
    unfold oneP
    simp only
    omega
  · rw [if_neg e]
    have s1 := hv.2.2 p1 p2 (by omega) (by omega)
    have s2 := hv.2.2 p2 p3 (by omega) (by omega)
    have k1 := h p1 p2 (by omega) (by omega)
    have k2 := h p3 p2 (by omega) (by omega)
    have k3 := h p2 p1 (by omega) (by omega)
    have k4 := h p2 p3 (by omega) (by omega)
    generalize l.getD p1 cD = a at *
    generalize l.getD p2 cD = b at *
    generalize l.getD p3 cD = c at *
    have m1 := Int.mul_le_mul_of_nonneg_right k1 (show 0 ≤ c.1 - b.1 by omega)
    have m2 := Int.mul_le_mul_of_nonneg_right k2 (show 0 ≤ b.1 - a.1 by omega)
    have m3 := Int.mul_le_mul_of_nonneg_right k3 (show 0 ≤ c.1 - b.1 by omega)
    have m4 := Int.mul_le_mul_of_nonneg_right k4 (show 0 ≤ b.1 - a.1 by omega)
    have e1 : (dnG f g b * (c.1 - b.1) + dnG f g b * (b.1 - a.1)) - (upG f g a * (c.1 - b.1) + upG f g c * (b.1 - a.1)) = (abv a b c * f.2 - f.1 * (2 * ((b.1 - a.1) + (c.1 - b.1)))) * g.2 := by
      unfold dnG upG abv
      grind
    have e2 : (dnG f g a * (c.1 - b.1) + dnG f g c * (b.1 - a.1)) - (upG f g b * (c.1 - b.1) + upG f g b * (b.1 - a.1)) = (blw a b c * f.2 - f.1 * (2 * ((b.1 - a.1) + (c.1 - b.1)))) * g.2 := by
      unfold dnG upG blw
      grind
    have n1 := cut_mul (x := abv a b c * f.2 - f.1 * (2 * ((b.1 - a.1) + (c.1 - b.1)))) (y := 0) (show 0 < g.2 by omega) (by rw [Int.zero_mul]; omega)
    have n2 := cut_mul (x := blw a b c * f.2 - f.1 * (2 * ((b.1 - a.1) + (c.1 - b.1)))) (y := 0) (show 0 < g.2 by omega) (by rw [Int.zero_mul]; omega)
    unfold threeP
    simp only
    rcases Int.le_total (abv a b c) (blw a b c) with c | c
    · rw [Int.max_eq_right c]; omega
    · rw [Int.max_eq_left c]; omega
open Go.RowKit
/-- Fractions that are small enough for all products here. -/
def sF (f : Int × Int) : Prop := (-1000000 ≤ f.1 ∧ f.1 ≤ 1000000) ∧ 1 ≤ f.2 ∧ f.2 ≤ 1000000
theorem sF_mul {f g : Int × Int} (hf : sF f) (hg : sF g) : -9000000000000000000 ≤ f.1 * g.2 ∧ f.1 * g.2 ≤ 9000000000000000000 := by
  unfold sF at hf hg
  have := smul_bd (a := f.1) (b := g.2) (A := 1000000) (B := 1000000) hf.1 (by omega)
  omega
theorem and7_bd {m : Int} (h : -128 ≤ m ∧ m ≤ 127) : 0 ≤ bits .and .i64 m 7 ∧ bits .and .i64 m 7 ≤ 7 := by
  have key : ∀ n : Fin 256, 0 ≤ bits .and .i64 ((n.1 : Int) - 128) 7 ∧ bits .and .i64 ((n.1 : Int) - 128) 7 ≤ 7 := by decide +kernel
  have := key ⟨(m + 128).toNat, by omega⟩
  have e : (((m + 128).toNat : Nat) : Int) - 128 = m := by omega
  simp only [e] at this
  exact this
section
variable {P : Program} {l : St} {w : World} {od : Option Nat} {ty : TypeId} {pos : String} {af : Array Edge}
theorem r_andI {x y : Operand} {T T2 : TypeId} {k : IntKind} {m n : Int} (hx : ev l x = .int k m) (hy : ev l y = .int k n) : Runs P ⟨od, .binOp .and T x y T2, ty, pos, af, none⟩ l w (.int k (bits .and k m n)) :=
  r_bin hx hy (by rw [Go.binOp_and]; rfl)
theorem r_convS {x : Operand} {src dst : TypeId} {ds : TypeDesc} {k : IntKind} {m : Int} [Und P src ds] [hd : Und P dst (.int .i64)] (hx : ev l x = .int k m) (h : -128 ≤ m ∧ m ≤ 127) : Runs P ⟨od, .convert src dst x, ty, pos, af, none⟩ l w (.int .i64 m) := by
  have h1 := r_conv (P := P) (od := od) (ty := ty) (pos := pos) (af := af) (w := w) (src := src) (dst := dst) (k' := .i64) hx
  rwa [IntWalk.i64_in _ (by omega)] at h1
end
end Go.Pv
namespace Go.Proofs.Ytbmjigneekodnaa
open Go.Pv Go.RowKit
set_option maxHeartbeats 8000000
set_option maxRecDepth 20000

theorem llessT (a b : Int × Int) (w : World) (ha : sF a) (hb : sF b) (h : fLt a b) : Ret Try.prog 29 [v2 a, v2 b] w fun r _ => r = .bool true := by
  have := lless_any a b w (sF_mul ha hb) (sF_mul hb ha)
  rw [decide_eq_true h] at this
  exact this
theorem llessF (a b : Int × Int) (w : World) (ha : sF a) (hb : sF b) (h : ¬ fLt a b) : Ret Try.prog 29 [v2 a, v2 b] w fun r _ => r = .bool false := by
  have := lless_any a b w (sF_mul ha hb) (sF_mul hb ha)
  rw [decide_eq_false h] at this
  exact this
end Go.Proofs.Ytbmjigneekodnaa
