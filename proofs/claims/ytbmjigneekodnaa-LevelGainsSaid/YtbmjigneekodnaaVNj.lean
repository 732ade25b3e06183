/-
  (rows) What this text proves: LevelGains returns true. Conditions: the first argument is a row of triples of bytes, the others are pairs of small integers. (Before it: which answer Gains gives, ends of offsets.)
-/
import Derived.Test.YtbmjigneekodnaaVMw
import Derived.Test.YtbmjigneekodnaaVNh
set_option linter.unusedVariables false
set_option linter.unusedSimpArgs false

namespace Go.Pv
open Go.RowKit
section
variable {P : Program} {l : St} {w : World} {od : Option Nat} {ty : TypeId} {pos : String} {af : Array Edge}
theorem r_leqT {x y : Operand} {T T2 : TypeId} {k : IntKind} {m n : Int} (hx : ev l x = .int k m) (hy : ev l y = .int k n) (h : m ≤ n) : Runs P ⟨od, .binOp .leq T x y T2, ty, pos, af, none⟩ l w (.bool true) := by
  have := r_leq (P := P) (od := od) (ty := ty) (pos := pos) (af := af) (T := T) (T2 := T2) (w := w) hx hy
  rwa [decide_eq_true h] at this
theorem r_leqF {x y : Operand} {T T2 : TypeId} {k : IntKind} {m n : Int} (hx : ev l x = .int k m) (hy : ev l y = .int k n) (h : ¬ m ≤ n) : Runs P ⟨od, .binOp .leq T x y T2, ty, pos, af, none⟩ l w (.bool false) := by
  have := r_leq (P := P) (od := od) (ty := ty) (pos := pos) (af := af) (T := T) (T2 := T2) (w := w) hx hy
  rwa [decide_eq_false h] at this
end
theorem dn_up_low (f g : Int × Int) (a b : T3) : dnG f g b ≤ upG f g a ↔ ¬ fLt g (lowF f a b) := by
  unfold fLt lowF
  simp only
  have e : dnG f g b - upG f g a = ((b.2.2 - a.2.1) * f.2 - 2 * f.1) * g.2 - g.1 * ((b.1 - a.1) * f.2) := by
    unfold dnG upG
    grind
  omega
theorem dn_up_high (f g : Int × Int) (a b : T3) : dnG f g a ≤ upG f g b ↔ ¬ fLt (highF f a b) g := by
  unfold fLt highF
  simp only
  have e : dnG f g a - upG f g b = g.1 * ((b.1 - a.1) * f.2) - ((b.2.1 - a.2.2) * f.2 + 2 * f.1) * g.2 := by
    unfold dnG upG
    grind
  omega
theorem fLt_low_r {g a : Int × Int} (ha : 1 ≤ a.2) : fLt g (low a) ↔ fLt g a := by
  have h1 := low_cross ha
  have h2 := (low_den ha).1.1
  generalize low a = b at *
  unfold fLt
  have e1 : g.1 * b.2 * a.2 = g.1 * a.2 * b.2 := by ac_rfl
  have e2 : b.1 * g.2 * a.2 = a.1 * g.2 * b.2 := by
    have : b.1 * g.2 * a.2 = b.1 * a.2 * g.2 := by ac_rfl
    rw [this, ← h1]; ac_rfl
  constructor
  · intro h
    have := Int.mul_lt_mul_of_pos_right h (show 0 < a.2 by omega)
    rw [e1, e2] at this
    exact Int.lt_of_mul_lt_mul_right this (show 0 ≤ b.2 by omega)
  · intro h
    have := Int.mul_lt_mul_of_pos_right h (show 0 < b.2 by omega)
    rw [← e1, ← e2] at this
    exact Int.lt_of_mul_lt_mul_right this (show 0 ≤ a.2 by omega)
/-- With a gain there is an offset that keeps the bound, just if it lies between the least and the greatest one. -/
theorem line_iff {l : List T3} {f g a b : Int × Int} (hv : Valid l) (hf : gB f) (hg : 1 ≤ g.2) (h2 : 2 ≤ l.length) (hw : ∀ j, j < l.length → ((l.getD j cD).2.2 - (l.getD j cD).2.1) * f.2 ≤ 2 * f.1)
    (ha : lowI l f l.length 0 a) (hb : highI l f l.length 0 b) : gainKeeps l f g ↔ ¬ fLt g (low a) ∧ ¬ fLt (low b) g := by
  obtain ⟨⟨p, q, k1, k2, ea⟩, k4⟩ := low_pair h2 ha
  obtain ⟨⟨r, s, m1, m2, eb⟩, m4⟩ := high_pair h2 hb
  have ga := (pair_gF hv hf k1 k2).1
  have gb := (pair_gF hv hf m1 m2).2
  rw [← ea] at ga
  rw [← eb] at gb
  rw [fLt_low_r ga.2.1, fLt_low_l gb.2.1]
  constructor
  · intro h
    refine ⟨?_, ?_⟩
    · rw [ea]; exact (dn_up_low f g _ _).1 (h p q (by omega) k2)
    · rw [eb]; exact (dn_up_high f g _ _).1 (h s r m2 (by omega))
  · rintro ⟨h3, h4⟩ i j hi hj
    rcases Nat.lt_trichotomy i j with c | c | c
    · refine (dn_up_low f g _ _).2 fun hc => ?_
      have g1 := (pair_gF hv hf c hj).1
      exact fN_trans hg ga.2.1 g1.2.1 h3 (k4 i j c hj) hc
    · subst c
      exact (dn_up_self hg).2 (hw i hi)
    · refine (dn_up_high f g _ _).2 fun hc => ?_
      have g1 := (pair_gF hv hf c hi).2
      exact fN_trans g1.2.1 gb.2.1 hg (m4 j i c hi) h4 hc
theorem gains_one {l : List T3} {f x y : Int × Int} {e : Int} (hv : Valid l) (hf : bOk f) (h1 : l.length = 1) (hg : gainsE l f x y e) : e = 13 := by
  rcases hg with ⟨hx, hy, ⟨h1, _⟩ | ⟨_, h2, _⟩ | ⟨_, _, h3, h4⟩ | ⟨_, _, h3, _⟩⟩ | ⟨_, _, h3, _⟩
  · exact absurd (cErr_valid hv) h1
  · exact absurd hf h2
  · exact h4
  · exact absurd h1 h3
  · exact absurd h1 h3
/-- Either the bound is less than the best error, or gains are found. -/
theorem gains_either {l : List T3} {f f0 x y : Int × Int} {e : Int} (hv : Valid l) (hf : bOk f) (h1 : ¬ l.length = 1) (hb : bestIs l f0) (hg : gainsE l f x y e) :
    (fLt f (low f0) ∧ e = 11 ∧ x = (0, 0) ∧ y = (0, 0)) ∨ (¬ fLt f (low f0) ∧ e = 0 ∧ fitsL l f ∧ ∃ a b, lowI l f l.length 0 a ∧ highI l f l.length 0 b ∧ ¬ fLt b a ∧ x = low a ∧ y = low b) := by
  have hf2 : 1 ≤ f.2 := by unfold bOk at hf; omega
  have hb0 := best_nn hv hb
  have h2 : 2 ≤ l.length := by have := hv.1.1; omega
  by_cases c : fLt f (low f0)
  · left
    have c0 := (fLt_low_r (g := f) hb0.2).1 c
    have hno : ¬ fitsL l f := fun h => by
      obtain ⟨⟨p, hp, rfl⟩, _⟩ := hb
      exact h p hp c0
    rcases hg with ⟨hx, hy, ⟨h1, _⟩ | ⟨_, h2, _⟩ | ⟨_, _, h3, h4⟩ | ⟨_, _, _, h4, _⟩⟩ | ⟨_, _, h3, h4, a, b, h5, h6, h7⟩
    · exact absurd (cErr_valid hv) h1
    · exact absurd hf h2
    · exact absurd h3 h1
    · exact ⟨c, h4, hx, hy⟩
    · exfalso
      rcases h5 with ⟨_, k1, k2, k3, k4⟩ | ⟨h, _⟩
      · have ga : 1 ≤ a.2 := by
          obtain ⟨⟨p, q, m1, m2, rfl⟩, _⟩ := low_pair h2 k1
          exact (pair_gF hv (bOk_gB hf) m1 m2).1.2.1
        have gb : 1 ≤ b.2 := by
          obtain ⟨⟨p, q, m1, m2, rfl⟩, _⟩ := high_pair h2 k2
          exact (pair_gF hv (bOk_gB hf) m1 m2).2.2.1
        exact hno (line_fits hv hf2 ga ((line_iff hv (bOk_gB hf) ga h2 k4 k1 k2).2 ⟨fun h => fLt_irr _ ((fLt_low_r ga).1 h), fun h => k3 ((fLt_low_l gb).1 h)⟩))
      · cases h
  · right
    have hfit : fitsL l f := fun q hq => by
      have hp := prv_ok hv hq
      unfold fOk at hp
      exact fN_trans hf2 (low_den hb0.2).1.1 hp.2.1 c (fun h => hb.2 q hq ((fLt_low_l hb0.2).1 h))
    obtain ⟨k1, k2, k3⟩ := gains_ok hv hf hfit hg
    exact ⟨c, k2 h1, hfit, k3 h1⟩
/-- With a greater bound the least gain is no greater, the greatest one no less. -/
theorem gains_more {l : List T3} {f a a' b b' : Int × Int} (hv : Valid l) (hf : gB f) (hf' : gB (f.1 + 1, f.2)) (h2 : 2 ≤ l.length) (ha : lowI l f l.length 0 a) (ha' : lowI l (f.1 + 1, f.2) l.length 0 a') (hb : highI l f l.length 0 b) (hb' : highI l (f.1 + 1, f.2) l.length 0 b') : ¬ fLt (low a) (low a') ∧ ¬ fLt (low b') (low b) := by
  obtain ⟨⟨p, q, k1, k2, ea⟩, k4⟩ := low_pair h2 ha
  obtain ⟨⟨r, s, m1, m2, eb⟩, m4⟩ := high_pair h2 hb
  obtain ⟨⟨p', q', k1', k2', ea'⟩, _⟩ := low_pair h2 ha'
  obtain ⟨⟨r', s', m1', m2', eb'⟩, m4'⟩ := high_pair h2 hb'
  have ga := (pair_gF hv hf k1 k2).1
  have gb := (pair_gF hv hf m1 m2).2
  have ga' := (pair_gF hv hf' k1' k2').1
  have gb' := (pair_gF hv hf' m1' m2').2
  have gx := (pair_gF hv hf k1' k2').1
  have gy := (pair_gF hv hf m1' m2').2
  have n1 := k4 p' q' k1' k2'
  have n2 := m4 r' s' m1' m2'
  rw [← ea] at ga
  rw [← eb] at gb
  rw [← ea'] at ga'
  rw [← eb'] at gb'
  constructor
  · intro h
    have h3 := (fLt_low_l ga.2.1).1 ((fLt_low_r ga'.2.1).1 h)
    refine fN_trans ga.2.1 gx.2.1 ga'.2.1 n1 ?_ h3
    rw [ea']
    unfold fLt lowF
    simp only
    intro hc
    have := Int.lt_of_mul_lt_mul_right hc (by have := gx.2.1; unfold lowF at this; simp only at this; omega)
    omega
  · intro h
    have h3 := (fLt_low_l gb'.2.1).1 ((fLt_low_r gb.2.1).1 h)
    refine fN_trans gb'.2.1 gy.2.1 gb.2.1 ?_ n2 h3
    rw [eb']
    unfold fLt highF
    simp only
    intro hc
    have := Int.lt_of_mul_lt_mul_right hc (by have := gy.2.1; unfold highF at this; simp only at this; omega)
    omega
theorem fits_plus {l : List T3} {f : Int × Int} (hv : Valid l) (h : fitsL l f) : fitsL l (f.1 + 1, f.2) := by
  intro q hq
  have h1 := h q hq
  have h2 := prv_ok hv hq
  unfold fOk at h2
  unfold fLt at *
  simp only
  have : (f.1 + 1) * (prvL l q).2 = f.1 * (prvL l q).2 + (prvL l q).2 := by rw [Int.add_mul, Int.one_mul]
  omega
theorem gain_sF {l : List T3} {f a : Int × Int} (hs : smallL l) (hf : (0 ≤ f.1 ∧ f.1 ≤ 1900) ∧ 1 ≤ f.2 ∧ f.2 ≤ 40) (h2 : 2 ≤ l.length) (h : lowI l f l.length 0 a ∨ highI l f l.length 0 a) : (-8000 ≤ (low a).1 ∧ (low a).1 ≤ 8000) ∧ 1 ≤ (low a).2 ∧ (low a).2 ≤ 700 := by
  have h1 := gain_small hs hf h2 h
  have h5 := low_den h1.2.1
  have h6 := h5.2 8000 h1.1
  omega
/-- What the greatest lower end and the smallest upper one are behind k codes. -/
def dnK (l : List T3) (f g : Int × Int) (k : Nat) (d : Int) : Prop := (∀ j, j < k → dnG f g (l.getD j cD) ≤ d) ∧ (k = 0 ∨ ∃ j, j < k ∧ d = dnG f g (l.getD j cD))
def upK (l : List T3) (f g : Int × Int) (k : Nat) (u : Int) : Prop := (∀ j, j < k → u ≤ upG f g (l.getD j cD)) ∧ (k = 0 ∨ ∃ j, j < k ∧ u = upG f g (l.getD j cD))
theorem dnK_next {l : List T3} {f g : Int × Int} {k : Nat} {d : Int} (h0 : k = 0 → d ≤ dnG f g (l.getD 0 cD)) (h : dnK l f g k d) : dnK l f g (k + 1) (max d (dnG f g (l.getD k cD))) := by
  refine ⟨fun j hj => ?_, Or.inr ?_⟩
  · by_cases c : j = k
    · subst c; omega
    · have := h.1 j (by omega); omega
  · by_cases c : d ≤ dnG f g (l.getD k cD)
    · exact ⟨k, by omega, by omega⟩
    · rcases h.2 with h3 | ⟨j, hj, h3⟩
      · subst h3; exact absurd (h0 rfl) c
      · exact ⟨j, by omega, by omega⟩
theorem upK_next {l : List T3} {f g : Int × Int} {k : Nat} {u : Int} (h0 : k = 0 → upG f g (l.getD 0 cD) ≤ u) (h : upK l f g k u) : upK l f g (k + 1) (min u (upG f g (l.getD k cD))) := by
  refine ⟨fun j hj => ?_, Or.inr ?_⟩
  · by_cases c : j = k
    · subst c; omega
    · have := h.1 j (by omega); omega
  · by_cases c : upG f g (l.getD k cD) ≤ u
    · exact ⟨k, by omega, by omega⟩
    · rcases h.2 with h3 | ⟨j, hj, h3⟩
      · subst h3; exact absurd (h0 rfl) c
      · exact ⟨j, by omega, by omega⟩
theorem ends_iff {l : List T3} {f g : Int × Int} {d u : Int} (hl : 1 ≤ l.length) (hd : dnK l f g l.length d) (hu : upK l f g l.length u) : d ≤ u ↔ gainKeeps l f g := by
  constructor
  · intro h i j hi hj
    have h1 := hd.1 j hj
    have h2 := hu.1 i hi
    omega
  · intro h
    rcases hd.2 with h1 | ⟨j, hj, rfl⟩
    · omega
    rcases hu.2 with h1 | ⟨i, hi, rfl⟩
    · omega
    exact h i j hi hj
/-- Bounds of the products. -/
theorem ends_bd {f g : Int × Int} {c : T3} (hf : (0 ≤ f.1 ∧ f.1 ≤ 60) ∧ 1 ≤ f.2 ∧ f.2 ≤ 4) (hg : (-8000 ≤ g.1 ∧ g.1 ≤ 8000) ∧ 1 ≤ g.2 ∧ g.2 ≤ 700) (hc : (-3 ≤ c.1 ∧ c.1 ≤ 13) ∧ (0 ≤ c.2.1 ∧ c.2.1 ≤ 39) ∧ c.2.1 ≤ c.2.2 ∧ c.2.2 ≤ 50) :
    (0 ≤ g.2 * f.2 ∧ g.2 * f.2 ≤ 2800) ∧ (-104000 ≤ g.1 * c.1 ∧ g.1 * c.1 ≤ 104000) ∧ (-416000 ≤ g.1 * c.1 * f.2 ∧ g.1 * c.1 * f.2 ≤ 416000) ∧ (0 ≤ c.2.2 * (g.2 * f.2) ∧ c.2.2 * (g.2 * f.2) ≤ 140000) ∧ (0 ≤ c.2.1 * (g.2 * f.2) ∧ c.2.1 * (g.2 * f.2) ≤ 140000) ∧ (0 ≤ f.1 * g.2 ∧ f.1 * g.2 ≤ 42000) := by
  have h1 := lmul_bd (a := g.2) (b := f.2) (A := 700) (B := 4) (by omega) (by omega)
  have h2 := smul_bd (a := g.1) (b := c.1) (A := 8000) (B := 13) (by omega) (by omega)
  have h3 := smul_bd (a := g.1 * c.1) (b := f.2) (A := 104000) (B := 4) (by omega) (by omega)
  have h4 := lmul_bd (a := c.2.2) (b := g.2 * f.2) (A := 50) (B := 2800) (by omega) (by omega)
  have h5 := lmul_bd (a := c.2.1) (b := g.2 * f.2) (A := 50) (B := 2800) (by omega) (by omega)
  have h6 := lmul_bd (a := f.1) (b := g.2) (A := 60) (B := 700) (by omega) (by omega)
  omega
end Go.Pv
namespace Go.Proofs.Ytbmjigneekodnaa
open Go.Pv Go.RowKit
set_option maxHeartbeats 8000000
set_option maxRecDepth 20000

theorem eqRatio (x y : Int × Int) (w : World) : (binOp .eql 24 (.agg (pc x).toArray) (.agg (pc y).toArray)).run Try.prog w = .ok (.bool (decide (x = y))) w := by
  have hS : Try.prog.underlying 24 = some (.struct (Try.prog.fieldsOf 24)) := by kernel_rfl
  have hp : Try.prog.stoodInHeld 24 = false := by kernel_rfl
  simp only [pc]
  rw [run_eql_struct, show (10000 : Nat) = 9999 + 1 from rfl, run_equalIn_agg w 9999 24 _ _ hS hp]
  simp only [Program.fieldsOf, Try.underlying24]
  go_simp
  obtain ⟨a, b⟩ := x
  obtain ⟨c, d⟩ := y
  by_cases h1 : a = c <;> by_cases h2 : b = d <;> simp [h1, h2]
theorem neRatio (x y : Int × Int) (w : World) : (binOp .neq 24 (.agg (pc x).toArray) (.agg (pc y).toArray)).run Try.prog w = .ok (.bool (!decide (x = y))) w := by
  have hS : Try.prog.underlying 24 = some (.struct (Try.prog.fieldsOf 24)) := by kernel_rfl
  have hp : Try.prog.stoodInHeld 24 = false := by kernel_rfl
  simp only [pc]
  rw [run_neq_struct, show (10000 : Nat) = 9999 + 1 from rfl, run_equalIn_agg w 9999 24 _ _ hS hp]
  simp only [Program.fieldsOf, Try.underlying24]
  go_simp
  obtain ⟨a, b⟩ := x
  obtain ⟨c, d⟩ := y
  by_cases h1 : a = c <;> by_cases h2 : b = d <;> simp [h1, h2]
theorem r_eqRatioT {l : St} {w : World} {od : Option Nat} {ty : TypeId} {pos : String} {af : Array Edge} {x y : Operand} {a0 a1 : Int} (hx : ev l x = .agg #[.int .i64 a0, .int .i64 a1]) (hy : ev l y = .agg #[.int .i64 a0, .int .i64 a1]) : Runs Try.prog ⟨od, .binOp .eql 24 x y 24, ty, pos, af, none⟩ l w (.bool true) := by
  have hg : Try.prog.eqGuardType Try.prog.depth 24 = false := by kernel_rfl
  have h := eqRatio (a0, a1) (a0, a1) w
  rw [decide_eq_true rfl] at h
  simp only [pc] at h
  unfold Runs
  simp only [execOp, hx, hy, Sem.run_bind, run_eqGuard_agg (w := w) .eql 24 x y _ _ hg, Result.andThen_ok, h, Sem.run_pure]
theorem r_neRatioF {l : St} {w : World} {od : Option Nat} {ty : TypeId} {pos : String} {af : Array Edge} {x y : Operand} {a0 a1 : Int} (hx : ev l x = .agg #[.int .i64 a0, .int .i64 a1]) (hy : ev l y = .agg #[.int .i64 a0, .int .i64 a1]) : Runs Try.prog ⟨od, .binOp .neq 24 x y 24, ty, pos, af, none⟩ l w (.bool false) := by
  have hg : Try.prog.eqGuardType Try.prog.depth 24 = false := by kernel_rfl
  have h := neRatio (a0, a1) (a0, a1) w
  rw [decide_eq_true rfl] at h
  simp only [pc, Bool.not_true] at h
  unfold Runs
  simp only [execOp, hx, hy, Sem.run_bind, run_eqGuard_agg (w := w) .neq 24 x y _ _ hg, Result.andThen_ok, h, Sem.run_pure]
end Go.Proofs.Ytbmjigneekodnaa

namespace Go.Pv
/-- A fact that is kept out of sight of those who split cases. -/
def Hdn (p : Prop) : Prop := p
def j0P (j : Nat) (d u : Int) : Prop := j = 0 → d = -1152921504606846976 ∧ u = 1152921504606846976
def gs3 (a b c : Int × Int) : List (Int × Int) := [a, b, c]
theorem gs3_all {p : Int × Int → Prop} {a b c : Int × Int} (ha : p a) (hb : p b) (hc : p c) {k : Nat} (hk : k < 3) : p ((gs3 a b c).getD k (0, 0)) := by
  have : k = 0 ∨ k = 1 ∨ k = 2 := by omega
  rcases this with rfl | rfl | rfl
  · exact ha
  · exact hb
  · exact hc
theorem cells_eq {w : World} {p : Addr} {xs : List (Int × Int)} {k : Nat} {g : Int × Int} (hgk : g = xs.getD k (0, 0)) (h : Cells w p (pc (xs.getD k (0, 0)))) : Cells w p [.int .i64 g.1, .int .i64 g.2] := by
  subst hgk
  exact h
end Go.Pv
namespace Go.Proofs.Ytbmjigneekodnaa
open Go.Pv Go.RowKit
set_option maxHeartbeats 20000000
set_option maxRecDepth 20000

theorem gainsL_any (v : Value) (xs : List T3) (b0 b1 g0 g1 : Int) (w : World) (h : Row c3 3 w v xs) (hx : ∀ j, by3 (xs.getD j cD)) (hb0 : 0 ≤ b0 ∧ b0 ≤ 255) (hb1 : 0 ≤ b1 ∧ b1 ≤ 255) (hg0 : -128 ≤ g0 ∧ g0 ≤ 127) (hg1 : -128 ≤ g1 ∧ g1 ≤ 127) :
    Ret Try.prog 8 [v, .agg #[.int .u8 b0, .int .u8 b1], .agg #[.int .i8 g0, .int .i8 g1]] w fun r _ => r = .bool true := by
  have hv1 := h.one
  have h7 := and7_bd hg1
  obtain ⟨f, hfe⟩ : ∃ f : Int × Int, f = (b0 % 60, 1 + b1 % 4) := ⟨_, rfl⟩
  have hf1 : f.1 = b0 % 60 := by rw [hfe]
  have hf2 : f.2 = 1 + b1 % 4 := by rw [hfe]
  have hfb : (0 ≤ f.1 ∧ f.1 ≤ 60) ∧ 1 ≤ f.2 ∧ f.2 ≤ 4 := by omega
  have hbo : bOk f := by unfold bOk; omega
  have hgB : gB f := bOk_gB hbo
  have hbo2 : bOk (f.1 + 1, f.2) := by unfold bOk; simp only; omega
  have hsf : sF f := by unfold sF; omega
  have hpart : ∀ w', Ret Try.prog 27 [.int .i64 (b0 % 60), .int .i64 (1 + b1 % 4)] w' fun r _ => r = .agg #[.int .i64 f.1, .int .i64 f.2] := fun w' => by rw [hf1, hf2]; exact part_any _ _ w'
  obtain ⟨gg, hge⟩ : ∃ g : Int × Int, g = (g0, 1 + bits .and .i64 g1 7) := ⟨_, rfl⟩
  have hgg1 : gg.1 = g0 := by rw [hge]
  have hgg2 : gg.2 = 1 + bits .and .i64 g1 7 := by rw [hge]
  have hpart2 : ∀ w', Ret Try.prog 27 [.int .i64 g0, .int .i64 (1 + bits .and .i64 g1 7)] w' fun r _ => r = .agg #[.int .i64 gg.1, .int .i64 gg.2] := fun w' => by rw [hgg1, hgg2]; exact part_any _ _ w'
  have hgb : (-8000 ≤ gg.1 ∧ gg.1 ≤ 8000) ∧ 1 ≤ gg.2 ∧ gg.2 ≤ 700 := by omega
  clear hfe hge
  refine ret_of_c Try.func8 rfl Try.ntmps8 (Nat.le_of_ble_eq_true rfl) (by dsimp only [ini, Nat.reduceAdd] <;> exact rfl) ?_
  repeat' (first
      | (((with_reducible apply W_split); exact rfl; exact rfl; (all_goals intro _); (all_goals (try (exfalso; (focus (omega; done)))))))
      | (((with_reducible apply c_cond_dec); exact rfl; (all_goals intro _); (all_goals (try (exfalso; (focus (omega; done)))))))
      | ((with_reducible (show C _ _ _ _ _)); refine c_cutG (x := .region 1 _ _) (n := 221) (fun ps wr => ∃ (b4 b5 : Nat) (ul : Value) (l : List T3), ps = ([(4, .pointer (some ⟨b4, 0, none⟩)), (5, .pointer (some ⟨b5, 0, none⟩)), (7, ul)] : List (Nat × Value)) ∧ smallL l ∧ Row cC 3 wr ul l ∧ Bx wr b4 [.int .u8 b0, .int .u8 b1] 71 ∧ Bx wr b5 [.int .i8 g0, .int .i8 g1] 55 ∧ Ex w wr) (fun J1 hJ1 => ?_) (fun u1 ps1 wr1 hI1 => ?_); rotate_left 1; obtain ⟨b4, b5, ul, l, rfl, hsm, hl1, hx4, hx5, he⟩ := hI1; have hsz := he.size; have hlo := hl1.one; have hlen := hl1.len; have hvl := hsm.valid; have hl5 := hsm.1; (have hw1 := he); by_cases hl1e : l.length = 1; rotate_left 2)
      | ((with_reducible apply W_op); exact rfl; exact rfl; ((with_reducible apply r_lenR (f := cC) (n := 3) (xs := l) (v := ul)); exact rfl; (first | exact Row.ex (by repeat (first | exact Ex.refl _ | assumption | (refine Ex.of_grown ?_ (by assumption) (by intro k hk; cases hk; omega)) | (refine Ex.trans ?_ (by assumption)))) hlm | exact Row.ex (by repeat (first | exact Ex.refl _ | assumption | (refine Ex.of_grown ?_ (by assumption) (by intro k hk; cases hk; omega)) | (refine Ex.trans ?_ (by assumption)))) hl1)))
      | ((with_reducible (show C _ _ _ _ _)); refine c_cutG (x := .region 5 _ _) (n := 221) (fun ps wr => ∃ (b11 : Nat), ps = ([(5, .pointer (some ⟨b5, 0, none⟩)), (7, ul), (11, .pointer (some ⟨b11, 0, none⟩))] : List (Nat × Value)) ∧ Bx wr b11 [.int .i64 f.1, .int .i64 f.2] 24 ∧ Ex wr1 wr) (fun J5 hJ5 => ?_) (fun u5 ps5 wr5 hI5 => ?_); rotate_left 1; obtain ⟨b11, rfl, hx11, he⟩ := hI5; have hsz := he.size; rotate_left 1)
      | ((with_reducible (show C _ _ _ _ _)); refine c_cutG (x := .region 6 _ _) (n := 221) (fun ps wr => ∃ (b12 b13 : Nat) (lo hi : Int × Int) (e1 : Int), ps = ([(5, .pointer (some ⟨b5, 0, none⟩)), (7, ul), (11, .pointer (some ⟨b11, 0, none⟩)), (12, .pointer (some ⟨b12, 0, none⟩)), (13, .pointer (some ⟨b13, 0, none⟩)), (14, .int .i64 e1)] : List (Nat × Value)) ∧ gainsE l f lo hi e1 ∧ Bx wr b12 [.int .i64 lo.1, .int .i64 lo.2] 24 ∧ Bx wr b13 [.int .i64 hi.1, .int .i64 hi.2] 24 ∧ Ex wr5 wr) (fun J6 hJ6 => ?_) (fun u6 ps6 wr6 hI6 => ?_); rotate_left 1; obtain ⟨b12, b13, lo, hi, e1, rfl, hgE, hx12, hx13, he⟩ := hI6; have hsz := he.size; rotate_left 1)
      | ((with_reducible (show C _ _ _ _ _)); refine c_cutG (x := .region 7 _ _) (n := 221) (fun ps wr => ∃ (b16 : Nat) (x1 f0 : Int × Int), ps = ([(5, .pointer (some ⟨b5, 0, none⟩)), (7, ul), (11, .pointer (some ⟨b11, 0, none⟩)), (12, .pointer (some ⟨b12, 0, none⟩)), (13, .pointer (some ⟨b13, 0, none⟩)), (14, .int .i64 e1), (16, .pointer (some ⟨b16, 0, none⟩)), (17, .int .i64 0)] : List (Nat × Value)) ∧ bestIs l f0 ∧ x1 = low f0 ∧ Bx wr b16 [.int .i64 x1.1, .int .i64 x1.2] 24 ∧ Ex wr6 wr) (fun J7 hJ7 => ?_) (fun u7 ps7 wr7 hI7 => ?_); rotate_left 1; obtain ⟨b16, x1, f0, rfl, hf0, hx1, hx16, he⟩ := hI7; have hsz := he.size; (have hl4 : Row cC 3 wr7 ul l := Row.ex (by repeat (first | exact Ex.refl _ | assumption | (refine Ex.of_grown ?_ (by assumption) (by intro k hk; cases hk; omega)) | (refine Ex.trans ?_ (by assumption)))) hl1); (have hy5 : Bx wr7 b5 [.int .i8 g0, .int .i8 g1] 55 := (by repeat (first | assumption | ((with_reducible apply Bx.grownS); assumption; (first | omega | exact Bx.ne (by assumption) (by omega))) | ((with_reducible apply Bx.below); assumption; omega) | ((with_reducible apply Bx.ex); assumption)))); (have hy11 : Bx wr7 b11 [.int .i64 f.1, .int .i64 f.2] 24 := (by repeat (first | assumption | ((with_reducible apply Bx.grownS); assumption; (first | omega | exact Bx.ne (by assumption) (by omega))) | ((with_reducible apply Bx.below); assumption; omega) | ((with_reducible apply Bx.ex); assumption)))); (have hy12 : Bx wr7 b12 [.int .i64 lo.1, .int .i64 lo.2] 24 := (by repeat (first | assumption | ((with_reducible apply Bx.grownS); assumption; (first | omega | exact Bx.ne (by assumption) (by omega))) | ((with_reducible apply Bx.below); assumption; omega) | ((with_reducible apply Bx.ex); assumption)))); (have hy13 : Bx wr7 b13 [.int .i64 hi.1, .int .i64 hi.2] 24 := (by repeat (first | assumption | ((with_reducible apply Bx.grownS); assumption; (first | omega | exact Bx.ne (by assumption) (by omega))) | ((with_reducible apply Bx.below); assumption; omega) | ((with_reducible apply Bx.ex); assumption)))); (have hw7 : Ex w wr7 := (by repeat (first | assumption | exact Ex.refl _ | (refine Ex.trans ?_ (by assumption)) | (refine Ex.of_grown ?_ (by assumption) (by intro k hk; cases hk; omega))))); clear he hl1 hx4 hx5 hx11 hx12 hx13; (have hxs := low_small (small_best hsm hf0)); rw [← hx1] at hxs; (have hsx : sF x1 := by unfold sF; omega); (rcases gains_either hvl hbo hl1e hf0 hgE with ⟨c1, rfl, rfl, rfl⟩ | ⟨c1, rfl, hfit, A, B, kA, kB, kC, kx, ky⟩); rw [← hx1] at c1; rotate_left 1; rw [← hx1] at c1; (have hLo := gain_sF hsm (f := f) (by omega) (by omega) (Or.inl kA)); (have hHi := gain_sF hsm (f := f) (by omega) (by omega) (Or.inr kB)); (have hA2 := (gain_small hsm (f := f) (by omega) (by omega) (Or.inl kA)).2.1); (have hB2 := (gain_small hsm (f := f) (by omega) (by omega) (Or.inr kB)).2.1); (have hkeep : ∀ g : Int × Int, 1 ≤ g.2 → (gainKeeps l f g ↔ ¬ fLt g (low A) ∧ ¬ fLt (low B) g) := fun g hg => line_iff hvl hgB hg (by omega) (fun j hj => fits_one hfit hj) kA kB); (have hlh : ¬ fLt (low B) (low A) := fun hc => kC ((fLt_low_l hB2).1 ((fLt_low_r hA2).1 hc))); rw [← kx] at hLo hkeep hlh; rw [← ky] at hHi hkeep hlh; (have hsl : sF lo := by unfold sF; omega); (have hsh : sF hi := by unfold sF; omega); (have hH1 : Hdn (¬ l.length = 1) := hl1e); (have h2l : 2 ≤ l.length := by omega); clear hl1e hf1 hf2 hgg1 hgg2 hb0 hb1; rotate_left 1)
      | ((with_reducible (show C _ _ _ _ _)); refine c_cutG (x := .seq (.region 12 _ _) (.cond _ _ _)) (n := 221) (fun ps wr => ps = ([(5, .pointer (some ⟨b5, 0, none⟩)), (7, ul), (11, .pointer (some ⟨b11, 0, none⟩)), (12, .pointer (some ⟨b12, 0, none⟩)), (13, .pointer (some ⟨b13, 0, none⟩))] : List (Nat × Value)) ∧ Ex wr7 wr) (fun JC hJC => ?_) (fun uC psC wrC hIC => ?_); rotate_left 1; obtain ⟨rfl, he⟩ := hIC; have hsz := he.size; rotate_left 1)
      | ((with_reducible apply W_op); exact rfl; exact rfl; ((with_reducible apply r_eqRatioT); exact rfl; exact rfl))
      | ((with_reducible apply W_op); exact rfl; exact rfl; ((with_reducible apply r_leqT); exact rfl; exact rfl; exact hdu))
      | ((with_reducible apply W_op); exact rfl; exact rfl; ((with_reducible apply r_leqF); exact rfl; exact rfl; exact hdu))
      | ((with_reducible apply W_op); exact rfl; exact rfl; ((with_reducible apply r_loadA); exact rfl; exact rfl; exact hpc2; exact rfl); clear hpc2)
      | ((with_reducible apply W_op); exact rfl; exact rfl; ((with_reducible apply r_loadA); exact rfl; exact rfl; exact hpc3; exact rfl); clear hpc3)
      | ((with_reducible apply WM_op); exact rfl; exact rfl; (intro wq he2; (with_reducible apply r_andI); exact rfl; exact rfl))
      | ((with_reducible apply WM_op); exact rfl; exact rfl; (intro wq he2; (with_reducible apply r_convS); exact rfl; exact hg0))
      | ((with_reducible apply WM_op); exact rfl; exact rfl; (intro wq he2; (with_reducible apply r_convS); exact rfl; exact hg1))
      | ((with_reducible apply W_bsP3); exact rfl; exact rfl; exact rfl; intro bm wm hbm he hnm; have hltm := Bx.lt hbm; have hsz := he.size; (have hgs : Prs wm (.slice (some ⟨bm, 0, none⟩) 3 3) (gs3 lo hi gg) := Prs.built hbm rfl (by simp [gs3])); (have hlm : Row cC 3 wm ul l := Row.ex (by repeat (first | exact Ex.refl _ | assumption | (refine Ex.of_grown ?_ (by assumption) (by intro k hk; cases hk; omega)) | (refine Ex.trans ?_ (by assumption)))) hl4); (have hz11 : Bx wm b11 [.int .i64 f.1, .int .i64 f.2] 24 := (by repeat (first | assumption | ((with_reducible apply Bx.grownS); assumption; (first | omega | exact Bx.ne (by assumption) (by omega))) | ((with_reducible apply Bx.below); assumption; omega) | ((with_reducible apply Bx.ex); assumption)))); (have hz12 : Bx wm b12 [.int .i64 lo.1, .int .i64 lo.2] 24 := (by repeat (first | assumption | ((with_reducible apply Bx.grownS); assumption; (first | omega | exact Bx.ne (by assumption) (by omega))) | ((with_reducible apply Bx.below); assumption; omega) | ((with_reducible apply Bx.ex); assumption)))); (have hz13 : Bx wm b13 [.int .i64 hi.1, .int .i64 hi.2] 24 := (by repeat (first | assumption | ((with_reducible apply Bx.grownS); assumption; (first | omega | exact Bx.ne (by assumption) (by omega))) | ((with_reducible apply Bx.below); assumption; omega) | ((with_reducible apply Bx.ex); assumption)))); (have hem : Ex w wm := (by repeat (first | assumption | exact Ex.refl _ | (refine Ex.trans ?_ (by assumption)) | (refine Ex.of_grown ?_ (by assumption) (by intro k hk; cases hk; omega))))); (have he := he); clear hl4 hy5 hy11 hy12 hy13 hx16; (have tkO : True := trivial))
      | ((with_reducible (show C _ _ _ _ _)); refine c_cutG (x := .region 29 _ _) (n := 221) (fun ps wr => ∃ (b26 b27 : Nat) (mo mt : Int × Int), ps = ([(12, .pointer (some ⟨b12, 0, none⟩)), (13, .pointer (some ⟨b13, 0, none⟩)), (14, .int .i64 0), (26, .pointer (some ⟨b26, 0, none⟩)), (27, .pointer (some ⟨b27, 0, none⟩))] : List (Nat × Value)) ∧ sF mo ∧ sF mt ∧ ¬ fLt lo mo ∧ ¬ fLt mt hi ∧ Bx wr b26 [.int .i64 mo.1, .int .i64 mo.2] 24 ∧ Bx wr b27 [.int .i64 mt.1, .int .i64 mt.2] 24 ∧ Ex wm wr) (fun JZ hJZ => ?_) (fun uZ psZ wrZ hIZ => ?_); rotate_left 1; obtain ⟨b26, b27, mo, mt, rfl, hsmo, hsmt, hm1, hm2, hx26, hx27, he⟩ := hIZ; have hsz := he.size; rotate_left 1)
      | (clear tkA; by_cases hk3 : k < 3; (obtain ⟨g, hgk⟩ : ∃ g, g = (gs3 lo hi gg).getD k (0, 0) := ⟨_, rfl⟩); (have hgX : (-8000 ≤ g.1 ∧ g.1 ≤ 8000) ∧ 1 ≤ g.2 ∧ g.2 ≤ 700 := by rw [hgk]; exact gs3_all (p := fun g => (-8000 ≤ g.1 ∧ g.1 ≤ 8000) ∧ 1 ≤ g.2 ∧ g.2 ≤ 700) hLo hHi hgb hk3); (have hsg : sF g := by unfold sF; omega); (have hbd0 := ends_bd hfb hgX (hsm.2.1 0 (by omega))); (have tkB : True := trivial); rotate_left 1; (have tkZ : True := trivial); rotate_left 1)
      | ((with_reducible (show C _ _ _ _ _)); clear tkB; refine c_cutG (x := .region 16 _ _) (n := 221) (fun ps wr => ∃ (b19 : Nat), ps = ([(7, ul), (11, .pointer (some ⟨b11, 0, none⟩)), (12, .pointer (some ⟨b12, 0, none⟩)), (13, .pointer (some ⟨b13, 0, none⟩)), (19, .pointer (some ⟨b19, 0, none⟩)), (121, .slice (some ⟨bm, 0, none⟩) 3 3), (122, .int .i64 3), (123, .int .i64 k)] : List (Nat × Value)) ∧ Bx wr b19 [.int .i64 g.1, .int .i64 g.2] 24 ∧ Ex wm wr) (fun JA hJA => ?_) (fun uA psA wrA hIA => ?_); rotate_left 1; obtain ⟨b19, rfl, hx19, he⟩ := hIA; have hsz := he.size; (have hl19 := Bx.lt hx19); (have tkI : True := trivial); rotate_left 1)
      | (refine W_indexPr2 (xs := gs3 lo hi gg) (i := k) rfl (Prs.ex (by repeat (first | exact Ex.refl _ | assumption | (refine Ex.of_grown ?_ (by assumption) (by intro k hk; cases hk; omega)) | (refine Ex.trans ?_ (by assumption)))) hgs) rfl (by simp only [gs3, List.length_cons, List.length_nil]; omega) ?_; intro pb po hpc hp0 hp1; (have hpc2 := cells_eq hgk hpc); clear hpc hp0 hp1)
      | (refine W_indexRw (f := cC) (n := 3) (v := ul) (xs := l) (i := j) cD cC_len (by decide) rfl (Row.ex (by repeat (first | exact Ex.refl _ | assumption | (refine Ex.of_grown ?_ (by assumption) (by intro k hk; cases hk; omega)) | (refine Ex.trans ?_ (by assumption)))) hlm) rfl (by omega) ?_; intro pb po hpc; (have hpc3 : Cells _ ⟨pb, po, none⟩ [_, _, _] := hpc))
      | (clear tkJ; by_cases hjl : j < l.length; (have hcc := hsm.2.1 j hjl); (have hbd := ends_bd hfb hgX hcc); rotate_left 1; (have hje : j = l.length := (by omega)); subst hje; (have hkg := hkeep g hgX.2.1); (have hends := ends_iff hl5.1 hdn hup); by_cases hck : gainKeeps l f g; (have hdu := hends.2 hck); (have hg12 := hkg.1 hck); (have hgl : ¬ fLt g lo := hg12.1); (have hgh : ¬ fLt hi g := hg12.2); clear hends hkg hg12; rotate_left 1; (have hdu : ¬ d ≤ u := fun hc => hck (hends.1 hc)); by_cases hgl : fLt g lo; clear hends hkg; rotate_left 1; (have hgh : fLt hi g := Classical.not_not.1 (fun hc => hck (hkg.2 ⟨hgl, hc⟩))); clear hends hkg; rotate_left 1)
      | ((first | ((with_reducible apply W_op); exact rfl; exact rfl) | ((with_reducible apply WQ_op); exact rfl; exact rfl; intro wq he) | ((with_reducible apply WM_op); exact rfl; exact rfl; intro wq he) | ((with_reducible apply WB_op); exact rfl; exact rfl; intro wq)); (first | ((with_reducible apply r_conv8); exact rfl; omega) | ((with_reducible apply r_conv16); exact rfl; omega) | ((with_reducible apply r_remE); exact rfl; exact rfl; omega; omega) | ((with_reducible apply r_indexArr); exact rfl; exact rfl; omega) | (exact r_indexArr (i := 0) rfl rfl (by decide)) | (exact r_indexArr (i := 1) rfl rfl (by decide)) | (exact r_indexArr (i := 2) rfl rfl (by decide)) | ((with_reducible apply r_move); ((conv => lhs; whnf) <;> exact rfl)) | ((with_reducible apply r_assign); ((conv => lhs; whnf) <;> exact rfl)) | ((with_reducible apply r_fieldAddr); exact rfl) | ((with_reducible apply r_load); exact rfl; exact rfl; (first | assumption | exact (Bx.cell (by repeat (first | assumption | ((with_reducible apply Bx.grownS); assumption; (first | omega | exact Bx.ne (by assumption) (by omega))) | ((with_reducible apply Bx.below); assumption; omega) | ((with_reducible apply Bx.ex); assumption))) _).trans rfl | exact Ex.cell (by assumption) (by assumption))) | ((with_reducible apply r_loadF); exact rfl; (first | assumption | exact (Bx.cell (by repeat (first | assumption | ((with_reducible apply Bx.grownS); assumption; (first | omega | exact Bx.ne (by assumption) (by omega))) | ((with_reducible apply Bx.below); assumption; omega) | ((with_reducible apply Bx.ex); assumption))) _).trans rfl | exact Ex.cell (by assumption) (by assumption))) | ((with_reducible apply r_loadA); exact rfl; (first | assumption | exact Bx.cells (by repeat (first | assumption | ((with_reducible apply Bx.grownS); assumption; (first | omega | exact Bx.ne (by assumption) (by omega))) | ((with_reducible apply Bx.below); assumption; omega) | ((with_reducible apply Bx.ex); assumption))) | exact Cells.ex (by assumption) (by assumption)); exact rfl) | ((with_reducible apply r_lss); exact rfl; exact rfl) | ((with_reducible apply r_leq); exact rfl; exact rfl) | ((with_reducible apply r_eql); exact rfl; exact rfl) | ((with_reducible apply r_neq); exact rfl; exact rfl) | ((with_reducible apply r_add); exact rfl; exact rfl; omega) | ((with_reducible apply r_sub); exact rfl; exact rfl; omega) | ((with_reducible apply r_len); exact rfl) | ((with_reducible apply r_lenStr); exact rfl) | ((with_reducible apply r_lenInts); ((conv => lhs; whnf) <;> exact rfl); (focus ((repeat (first | assumption | ((with_reducible apply OwnR.grownS); assumption; omega) | ((with_reducible apply Row.ex); assumption) | ((with_reducible apply OwnR.ex); assumption) | ((with_reducible apply Bx.grownS); assumption; (first | omega | exact Bx.ne (by assumption) (by omega))) | ((with_reducible apply Bx.below); assumption; omega) | ((with_reducible apply Own.grownS); assumption; omega) | ((with_reducible apply Bx.ex); assumption) | ((with_reducible apply IntsK.ex); assumption) | ((with_reducible apply Own.ex); assumption) | ((with_reducible apply Prs.ex); assumption))); done))) | ((with_reducible apply r_lenPrs); ((conv => lhs; whnf) <;> exact rfl); (focus ((repeat (first | assumption | ((with_reducible apply OwnR.grownS); assumption; omega) | ((with_reducible apply Row.ex); assumption) | ((with_reducible apply OwnR.ex); assumption) | ((with_reducible apply Bx.grownS); assumption; (first | omega | exact Bx.ne (by assumption) (by omega))) | ((with_reducible apply Bx.below); assumption; omega) | ((with_reducible apply Own.grownS); assumption; omega) | ((with_reducible apply Bx.ex); assumption) | ((with_reducible apply IntsK.ex); assumption) | ((with_reducible apply Own.ex); assumption) | ((with_reducible apply Prs.ex); assumption))); done))) | ((with_reducible apply r_pick_true); exact rfl; ((conv => lhs; whnf) <;> exact rfl)) | ((with_reducible apply r_pick_false); exact rfl; ((conv => lhs; whnf) <;> exact rfl)) | ((with_reducible apply r_not); exact rfl) | ((with_reducible apply r_notb); exact rfl) | ((with_reducible apply r_rem); exact rfl; exact rfl; omega) | ((with_reducible apply r_mul); exact rfl; exact rfl; omega) | ((with_reducible apply r_eqlb); exact rfl; exact rfl) | ((with_reducible apply r_neqb); exact rfl; exact rfl) | ((with_reducible apply r_extract); exact rfl; exact rfl) | ((with_reducible apply r_conv); exact rfl) | ((with_reducible apply r_loadSub); exact rfl; (focus ((repeat (first | assumption | ((with_reducible apply Bx.grownS); assumption; (first | omega | exact Bx.ne (by assumption) (by omega))) | ((with_reducible apply Bx.below); assumption; omega) | ((with_reducible apply Bx.ex); assumption))); done)); ((simp only [Nat.add_zero, Nat.zero_add, Nat.reduceAdd, List.drop_zero, List.drop_succ_cons, List.take_succ_cons, List.take_zero]) <;> exact rfl); exact rfl) | ((with_reducible apply r_min2); exact rfl; exact rfl) | ((with_reducible apply r_max2); exact rfl; exact rfl) | ((with_reducible apply r_build0); exact rfl) | ((with_reducible apply r_lenR); ((conv => lhs; whnf) <;> exact rfl); (focus ((repeat (first | assumption | ((with_reducible apply OwnR.grownS); assumption; omega) | ((with_reducible apply Row.ex); assumption) | ((with_reducible apply OwnR.ex); assumption) | ((with_reducible apply Bx.grownS); assumption; (first | omega | exact Bx.ne (by assumption) (by omega))) | ((with_reducible apply Bx.below); assumption; omega) | ((with_reducible apply Own.grownS); assumption; omega) | ((with_reducible apply Bx.ex); assumption) | ((with_reducible apply IntsK.ex); assumption) | ((with_reducible apply Own.ex); assumption) | ((with_reducible apply Prs.ex); assumption))); done))) | ((with_reducible apply r_arr3); ((conv => lhs; whnf) <;> exact rfl); ((conv => lhs; whnf) <;> exact rfl); ((conv => lhs; whnf) <;> exact rfl); (first | exact rfl | assumption | exact IntsK.one (by assumption) | exact Prs.one (by assumption) | exact Own.one (by assumption) | exact Row.one (by assumption) | exact OwnR.one (by assumption)); (first | exact rfl | assumption | exact IntsK.one (by assumption) | exact Prs.one (by assumption) | exact Own.one (by assumption) | exact Row.one (by assumption) | exact OwnR.one (by assumption)); (first | exact rfl | assumption | exact IntsK.one (by assumption) | exact Prs.one (by assumption) | exact Own.one (by assumption) | exact Row.one (by assumption) | exact OwnR.one (by assumption)))))
      | (refine W_call (made_any v xs _ (h.ex (by repeat (first | assumption | exact Ex.refl _ | (refine Ex.trans ?_ (by assumption)) | (refine Ex.of_grown ?_ (by assumption) (by intro k hk; cases hk; omega))))) hx) rfl ?_; rintro uln wq hln he; have hsz := he.size; (have hlno := hln.one))
      | ((with_reducible (show Exit.then _ _ _ _ _)); refine n_cutG (hJ1 _ _ _ ⟨_, _, _, _, rfl, madeL_small xs, Row.ex (by repeat (first | exact Ex.refl _ | assumption | (refine Ex.of_grown ?_ (by assumption) (by intro k hk; cases hk; omega)) | (refine Ex.trans ?_ (by assumption)))) hln, (by repeat (first | assumption | ((with_reducible apply Bx.grownS); assumption; (first | omega | exact Bx.ne (by assumption) (by omega))) | ((with_reducible apply Bx.below); assumption; omega) | ((with_reducible apply Bx.ex); assumption))), (by repeat (first | assumption | ((with_reducible apply Bx.grownS); assumption; (first | omega | exact Bx.ne (by assumption) (by omega))) | ((with_reducible apply Bx.below); assumption; omega) | ((with_reducible apply Bx.ex); assumption))), (by repeat (first | assumption | exact Ex.refl _ | (refine Ex.trans ?_ (by assumption)) | (refine Ex.of_grown ?_ (by assumption) (by intro k hk; cases hk; omega))))⟩ ⟨rfl, rfl, rfl, trivial⟩ rfl))
      | (refine W_call (Gains_any ul l (1, 1) _ (Row.ex (by repeat (first | exact Ex.refl _ | assumption | (refine Ex.of_grown ?_ (by assumption) (by intro k hk; cases hk; omega)) | (refine Ex.trans ?_ (by assumption)))) hl1)) rfl ?_; rintro vq wq ⟨lo1, hi1, e1, rfl, hgE⟩ he; have hsz := he.size; obtain rfl := gains_one hvl (by unfold bOk; decide) hl1e hgE)
      | ((with_reducible (show Exit.then _ _ _ _ _)); refine n_cutG (hJ5 _ _ _ ⟨_, rfl, (by repeat (first | assumption | ((with_reducible apply Bx.grownS); assumption; (first | omega | exact Bx.ne (by assumption) (by omega))) | ((with_reducible apply Bx.below); assumption; omega) | ((with_reducible apply Bx.ex); assumption))), (by repeat (first | exact Ex.refl _ | assumption | (refine Ex.of_grown ?_ (by assumption) (by intro k hk; cases hk; omega)) | (refine Ex.trans ?_ (by assumption))))⟩ ⟨rfl, rfl, rfl, trivial⟩ rfl))
      | (refine W_call (Gains_any ul l f _ (Row.ex (by repeat (first | exact Ex.refl _ | assumption | (refine Ex.of_grown ?_ (by assumption) (by intro k hk; cases hk; omega)) | (refine Ex.trans ?_ (by assumption)))) hl1)) rfl ?_; rintro vq wq ⟨lon, hin, en, rfl, hgEn⟩ he; have hsz := he.size)
      | ((with_reducible (show Exit.then _ _ _ _ _)); refine n_cutG (hJ6 _ _ _ ⟨_, _, lon, hin, _, rfl, hgEn, (by repeat (first | assumption | ((with_reducible apply Bx.grownS); assumption; (first | omega | exact Bx.ne (by assumption) (by omega))) | ((with_reducible apply Bx.below); assumption; omega) | ((with_reducible apply Bx.ex); assumption))), (by repeat (first | assumption | ((with_reducible apply Bx.grownS); assumption; (first | omega | exact Bx.ne (by assumption) (by omega))) | ((with_reducible apply Bx.below); assumption; omega) | ((with_reducible apply Bx.ex); assumption))), (by repeat (first | exact Ex.refl _ | assumption | (refine Ex.of_grown ?_ (by assumption) (by intro k hk; cases hk; omega)) | (refine Ex.trans ?_ (by assumption))))⟩ ⟨rfl, rfl, rfl, rfl, rfl, rfl, trivial⟩ rfl))
      | (refine W_call (Best_any ul l _ (Row.ex (by repeat (first | exact Ex.refl _ | assumption | (refine Ex.of_grown ?_ (by assumption) (by intro k hk; cases hk; omega)) | (refine Ex.trans ?_ (by assumption)))) hl1)) rfl ?_; rintro vq wq ⟨bg, bo, x1n, e2, rfl, hbR⟩ he; have hsz := he.size; obtain ⟨rfl, f0n, hf0n, hx1n⟩ := bestR_ok hvl hbR)
      | ((with_reducible (show Exit.then _ _ _ _ _)); refine n_cutG (hJ7 _ _ _ ⟨_, x1n, f0n, rfl, hf0n, hx1n, (by repeat (first | assumption | ((with_reducible apply Bx.grownS); assumption; (first | omega | exact Bx.ne (by assumption) (by omega))) | ((with_reducible apply Bx.below); assumption; omega) | ((with_reducible apply Bx.ex); assumption))), (by repeat (first | exact Ex.refl _ | assumption | (refine Ex.of_grown ?_ (by assumption) (by intro k hk; cases hk; omega)) | (refine Ex.trans ?_ (by assumption))))⟩ ⟨rfl, rfl, rfl, rfl, rfl, rfl, rfl, rfl, trivial⟩ rfl))
      | (refine W_callv (smallT x1 _ (by omega)) rfl (fun wq he => ?_); have hsz := he.size)
      | (refine W_callv (smallT lo _ (by omega)) rfl (fun wq he => ?_); have hsz := he.size)
      | (refine W_callv (smallT hi _ (by omega)) rfl (fun wq he => ?_); have hsz := he.size)
      | (refine W_callv (llessT f x1 _ hsf hsx c1) rfl (fun wq he => ?_); have hsz := he.size)
      | (refine W_callv (llessF f x1 _ hsf hsx c1) rfl (fun wq he => ?_); have hsz := he.size)
      | (refine W_callv (llessF hi lo _ hsh hsl hlh) rfl (fun wq he => ?_); have hsz := he.size)
      | ((with_reducible (show Exit.then _ _ _ _ _)); refine n_cutG (hJC _ _ _ ⟨rfl, (by repeat (first | exact Ex.refl _ | assumption | (refine Ex.of_grown ?_ (by assumption) (by intro k hk; cases hk; omega)) | (refine Ex.trans ?_ (by assumption))))⟩ ⟨rfl, rfl, rfl, rfl, rfl, trivial⟩ rfl))
      | (refine c_mix (id := 14) [] [0, 1, 2, 3, 4, 5, 6, 7, 8, 9, 10, 13] [11, 12] [false, false, false, false, false, false, false, false, false, false, false, false, false, false] [true, true, true, true, true, true, true, true, true, true, true, false, false, true] [none, none, none, none, none, none, none, none, none, none, none, some false, some false, none] (by kernel_rfl) (by kernel_rfl) (by kernel_rfl) (by kernel_rfl) (by kernel_rfl) (by kernel_rfl) (by dsimp only [sel] <;> exact rfl) (by dsimp only [sel] <;> exact rfl) (by dsimp only [selT] <;> exact rfl) ?_)
      | (refine WM_callv (fun wq he => hpart2 wq) rfl ?_)
      | (refine W_callv (works_any _) rfl (fun wq he => ?_); have hsz := he.size)
      | (refine W_call (Gains_any ul l (f.1 + 1, f.2) _ (Row.ex (by repeat (first | exact Ex.refl _ | assumption | (refine Ex.of_grown ?_ (by assumption) (by intro k hk; cases hk; omega)) | (refine Ex.trans ?_ (by assumption)))) hlm)) rfl ?_; rintro vq wq ⟨mo, mt, e3, rfl, hgM⟩ he; have hsz := he.size; obtain ⟨k1, k2, k3⟩ := gains_ok hvl hbo2 (fits_plus hvl hfit) hgM; obtain rfl := k2 hH1; obtain ⟨A', B', kA', kB', kC', kx', ky'⟩ := k3 hH1; clear k1 k2 k3; (have hmore := gains_more hvl hgB (bOk_gB hbo2) (by omega) kA kA' kB kB'); rw [← kx, ← kx', ← ky', ← ky] at hmore; (have hMo := gain_sF hsm (f := (f.1 + 1, f.2)) (by simp only; omega) (by omega) (Or.inl kA')); (have hMt := gain_sF hsm (f := (f.1 + 1, f.2)) (by simp only; omega) (by omega) (Or.inr kB')); rw [← kx'] at hMo; rw [← ky'] at hMt; (have hsmo : sF mo := by unfold sF; omega); (have hsmt : sF mt := by unfold sF; omega))
      | ((with_reducible (show Exit.then _ _ _ _ _)); refine n_cutG (hJZ _ _ _ ⟨_, _, mo, mt, rfl, hsmo, hsmt, hmore.1, hmore.2, (by repeat (first | assumption | ((with_reducible apply Bx.grownS); assumption; (first | omega | exact Bx.ne (by assumption) (by omega))) | ((with_reducible apply Bx.below); assumption; omega) | ((with_reducible apply Bx.ex); assumption))), (by repeat (first | assumption | ((with_reducible apply Bx.grownS); assumption; (first | omega | exact Bx.ne (by assumption) (by omega))) | ((with_reducible apply Bx.below); assumption; omega) | ((with_reducible apply Bx.ex); assumption))), (by repeat (first | exact Ex.refl _ | assumption | (refine Ex.of_grown ?_ (by assumption) (by intro k hk; cases hk; omega)) | (refine Ex.trans ?_ (by assumption))))⟩ ⟨rfl, rfl, rfl, rfl, rfl, trivial⟩ rfl))
      | (refine W_callv (llessF lo mo _ hsl hsmo hm1) rfl (fun wq he => ?_); have hsz := he.size)
      | (refine W_callv (llessF mt hi _ hsmt hsh hm2) rfl (fun wq he => ?_); have hsz := he.size)
      | (refine W_callv (hpart _) rfl (fun wq he => ?_); have hsz := he.size)
      | (refine W_callv (part_any _ _ _) rfl (fun wq he => ?_); have hsz := he.size)
      | ((with_reducible (show Exit.then _ _ _ _ _)); refine n_cutG (hJA _ _ _ ⟨_, rfl, (by repeat (first | assumption | ((with_reducible apply Bx.grownS); assumption; (first | omega | exact Bx.ne (by assumption) (by omega))) | ((with_reducible apply Bx.below); assumption; omega) | ((with_reducible apply Bx.ex); assumption))), (by repeat (first | exact Ex.refl _ | assumption | (refine Ex.of_grown ?_ (by assumption) (by intro k hk; cases hk; omega)) | (refine Ex.trans ?_ (by assumption))))⟩ ⟨rfl, rfl, rfl, rfl, rfl, rfl, rfl, rfl, trivial⟩ rfl))
      | (refine W_callv (llessF g lo _ hsg hsl hgl) rfl (fun wq he => ?_); have hsz := he.size)
      | (refine W_callv (llessT g lo _ hsg hsl hgl) rfl (fun wq he => ?_); have hsz := he.size)
      | (refine W_callv (llessF hi g _ hsh hsg hgh) rfl (fun wq he => ?_); have hsz := he.size)
      | (refine W_callv (llessT hi g _ hsh hsg hgh) rfl (fun wq he => ?_); have hsz := he.size)
      | ((with_reducible (show C _ _ _ _ _)); clear tkI; refine c_loopG (fun (j : Nat) ps wr => ∃ d u : Int, ∃ jj : Int, ps = [(7, ul), (11, .pointer (some ⟨b11, 0, none⟩)), (12, .pointer (some ⟨b12, 0, none⟩)), (13, .pointer (some ⟨b13, 0, none⟩)), (19, .pointer (some ⟨b19, 0, none⟩)), (20, .int .i64 (g.2 * f.2)), (21, .int .i64 d), (22, .int .i64 u), (121, .slice (some ⟨bm, 0, none⟩) 3 3), (122, .int .i64 3), (123, .int .i64 k), (132, ul), (133, .int .i64 l.length), (134, .int .i64 jj)] ∧ jj = j ∧ j ≤ l.length ∧ dnK l f g j d ∧ upK l f g j u ∧ j0P j d u ∧ Ex wrA wr) (fun j => l.length - j) 0 _ ⟨_, _, _, rfl, rfl, Nat.zero_le _, ⟨fun j hj => absurd hj (Nat.not_lt_zero _), Or.inl rfl⟩, ⟨fun j hj => absurd hj (Nat.not_lt_zero _), Or.inl rfl⟩, fun _ => ⟨rfl, rfl⟩, (by repeat (first | exact Ex.refl _ | assumption | (refine Ex.of_grown ?_ (by assumption) (by intro k hk; cases hk; omega)) | (refine Ex.trans ?_ (by assumption))))⟩ ⟨rfl, rfl, rfl, rfl, rfl, rfl, rfl, rfl, rfl, rfl, rfl, rfl, rfl, rfl, trivial⟩ (by ((conv => lhs; whnf) <;> exact rfl)) ?_; rintro JI hJI j u ps wr ⟨d, u, jj, rfl, rfl, hj, hdn, hup, hj0, he⟩; have hsz := he.size; have tkJ : True := trivial)
      | ((with_reducible (show Exit.then _ _ _ _ _)); refine n_roundG (j + 1) (hJI _ _ _ _ ⟨_, _, _, rfl, by omega, by omega, (dnK_next (fun e => by subst e; have := (hj0 rfl).1; unfold dnG; omega) hdn), (upK_next (fun e => by subst e; have := (hj0 rfl).2; unfold upG; omega) hup), (fun e => by omega), (by repeat (first | exact Ex.refl _ | assumption | (refine Ex.of_grown ?_ (by assumption) (by intro k hk; cases hk; omega)) | (refine Ex.trans ?_ (by assumption))))⟩ ⟨rfl, rfl, rfl, rfl, rfl, rfl, rfl, rfl, rfl, rfl, rfl, rfl, rfl, rfl, trivial⟩ rfl) (by omega))
      | ((with_reducible (show C _ _ _ _ _)); clear tkO; refine c_loopG (fun (k : Nat) ps wr => ∃ i : Int, ps = [(7, ul), (11, .pointer (some ⟨b11, 0, none⟩)), (12, .pointer (some ⟨b12, 0, none⟩)), (13, .pointer (some ⟨b13, 0, none⟩)), (121, .slice (some ⟨bm, 0, none⟩) 3 3), (122, .int .i64 3), (123, .int .i64 i)] ∧ i = k ∧ k ≤ 3 ∧ Ex wm wr) (fun k => 3 - k) 0 _ ⟨_, rfl, rfl, Nat.zero_le _, (by repeat (first | exact Ex.refl _ | assumption | (refine Ex.of_grown ?_ (by assumption) (by intro k hk; cases hk; omega)) | (refine Ex.trans ?_ (by assumption))))⟩ ⟨rfl, rfl, rfl, rfl, rfl, rfl, rfl, trivial⟩ (by ((conv => lhs; whnf) <;> exact rfl)) ?_; rintro JO hJO k u ps wr ⟨i, rfl, rfl, hk, he⟩; have hsz := he.size; have tkA : True := trivial)
      | ((with_reducible (show Exit.then _ _ _ _ _)); refine n_roundG (k + 1) (hJO _ _ _ _ ⟨_, rfl, by omega, by omega, (by repeat (first | exact Ex.refl _ | assumption | (refine Ex.of_grown ?_ (by assumption) (by intro k hk; cases hk; omega)) | (refine Ex.trans ?_ (by assumption))))⟩ ⟨rfl, rfl, rfl, rfl, rfl, rfl, rfl, trivial⟩ rfl) (by omega))
      | (with_reducible apply W_nil)
      | ((with_reducible apply WQ_nil); exact rfl; intro wq he; have hsz := he.size)
      | (with_reducible apply WM_nil; intro wq he; have hsz := he.size)
      | (with_reducible apply WB_nil)
      | (with_reducible apply WT_nil)
      | (with_reducible apply WT_cons)
      | (with_reducible apply t_sink)
      | ((with_reducible apply t_keep); (focus ((repeat (first | assumption | exact Ex.refl _ | (refine Ex.trans ?_ (by assumption)) | (refine Ex.of_grown ?_ (by assumption) (by intro k hk; cases hk; omega)))); done)); intro wq he; have hsz := he.size)
      | ((with_reducible apply W_box); exact rfl; exact rfl; intro bq wq hbq he hnq; have hltq := Bx.lt hbq; have hsz := he.size)
      | ((with_reducible apply W_alloc); exact rfl; intro bq wq hbq he hnq; have hltq := Bx.lt hbq; have hsz := he.size)
      | ((with_reducible apply W_indexInt); ((conv => lhs; whnf) <;> exact rfl); (focus ((repeat (first | assumption | ((with_reducible apply OwnR.grownS); assumption; omega) | ((with_reducible apply Row.ex); assumption) | ((with_reducible apply OwnR.ex); assumption) | ((with_reducible apply Bx.grownS); assumption; (first | omega | exact Bx.ne (by assumption) (by omega))) | ((with_reducible apply Bx.below); assumption; omega) | ((with_reducible apply Own.grownS); assumption; omega) | ((with_reducible apply Bx.ex); assumption) | ((with_reducible apply IntsK.ex); assumption) | ((with_reducible apply Own.ex); assumption) | ((with_reducible apply Prs.ex); assumption))); done)); exact rfl; omega; intro pq hpq)
      | ((with_reducible apply W_indexIntss); ((conv => lhs; whnf) <;> exact rfl); assumption; (focus ((repeat (first | assumption | exact Ex.refl _ | (refine Ex.trans ?_ (by assumption)) | (refine Ex.of_grown ?_ (by assumption) (by intro k hk; cases hk; omega)))); done)); exact rfl; omega; intro pq uq hpq huq)
      | ((with_reducible apply WQ_indexInt); ((conv => lhs; whnf) <;> exact rfl); (focus ((repeat (first | assumption | ((with_reducible apply OwnR.grownS); assumption; omega) | ((with_reducible apply Row.ex); assumption) | ((with_reducible apply OwnR.ex); assumption) | ((with_reducible apply Bx.grownS); assumption; (first | omega | exact Bx.ne (by assumption) (by omega))) | ((with_reducible apply Bx.below); assumption; omega) | ((with_reducible apply Own.grownS); assumption; omega) | ((with_reducible apply Bx.ex); assumption) | ((with_reducible apply IntsK.ex); assumption) | ((with_reducible apply Own.ex); assumption) | ((with_reducible apply Prs.ex); assumption))); done)); exact rfl; omega; intro pq hpq)
      | ((with_reducible apply WQ_indexIntss); ((conv => lhs; whnf) <;> exact rfl); assumption; (focus ((repeat (first | assumption | exact Ex.refl _ | (refine Ex.trans ?_ (by assumption)) | (refine Ex.of_grown ?_ (by assumption) (by intro k hk; cases hk; omega)))); done)); exact rfl; omega; intro pq uq hpq huq)
      | ((with_reducible apply WM_indexInt); ((conv => lhs; whnf) <;> exact rfl); (focus ((repeat (first | assumption | ((with_reducible apply OwnR.grownS); assumption; omega) | ((with_reducible apply Row.ex); assumption) | ((with_reducible apply OwnR.ex); assumption) | ((with_reducible apply Bx.grownS); assumption; (first | omega | exact Bx.ne (by assumption) (by omega))) | ((with_reducible apply Bx.below); assumption; omega) | ((with_reducible apply Own.grownS); assumption; omega) | ((with_reducible apply Bx.ex); assumption) | ((with_reducible apply IntsK.ex); assumption) | ((with_reducible apply Own.ex); assumption) | ((with_reducible apply Prs.ex); assumption))); done)); exact rfl; omega; intro pq hpq)
      | ((with_reducible apply WM_indexIntss); ((conv => lhs; whnf) <;> exact rfl); assumption; (focus ((repeat (first | assumption | exact Ex.refl _ | (refine Ex.trans ?_ (by assumption)) | (refine Ex.of_grown ?_ (by assumption) (by intro k hk; cases hk; omega)))); done)); exact rfl; omega; intro pq uq hpq huq)
      | ((with_reducible apply W_indexPr); ((conv => lhs; whnf) <;> exact rfl); (focus ((repeat (first | assumption | ((with_reducible apply OwnR.grownS); assumption; omega) | ((with_reducible apply Row.ex); assumption) | ((with_reducible apply OwnR.ex); assumption) | ((with_reducible apply Bx.grownS); assumption; (first | omega | exact Bx.ne (by assumption) (by omega))) | ((with_reducible apply Bx.below); assumption; omega) | ((with_reducible apply Own.grownS); assumption; omega) | ((with_reducible apply Bx.ex); assumption) | ((with_reducible apply IntsK.ex); assumption) | ((with_reducible apply Own.ex); assumption) | ((with_reducible apply Prs.ex); assumption))); done)); exact rfl; omega; intro pq hpq)
      | ((with_reducible apply WQ_indexPr); ((conv => lhs; whnf) <;> exact rfl); (focus ((repeat (first | assumption | ((with_reducible apply OwnR.grownS); assumption; omega) | ((with_reducible apply Row.ex); assumption) | ((with_reducible apply OwnR.ex); assumption) | ((with_reducible apply Bx.grownS); assumption; (first | omega | exact Bx.ne (by assumption) (by omega))) | ((with_reducible apply Bx.below); assumption; omega) | ((with_reducible apply Own.grownS); assumption; omega) | ((with_reducible apply Bx.ex); assumption) | ((with_reducible apply IntsK.ex); assumption) | ((with_reducible apply Own.ex); assumption) | ((with_reducible apply Prs.ex); assumption))); done)); exact rfl; omega; intro pq hpq)
      | ((with_reducible apply W_bsP); exact rfl; exact rfl; intro bq wq hbq he hnq; have hltq := Bx.lt hbq; have hsz := he.size)
      | ((with_reducible apply W_storeA); exact rfl; (focus ((repeat (first | assumption | ((with_reducible apply Bx.grownS); assumption; (first | omega | exact Bx.ne (by assumption) (by omega))) | ((with_reducible apply Bx.below); assumption; omega) | ((with_reducible apply Bx.ex); assumption))); done)); exact rfl; exact rfl; exact rfl; (repeat' (first | exact trivial | (first | exact rfl | assumption | exact IntsK.one (by assumption) | exact Prs.one (by assumption) | exact Own.one (by assumption) | exact Row.one (by assumption) | exact OwnR.one (by assumption)) | constructor)); intro wq hbq hgq; have he : Ex w wq := (by repeat (first | assumption | exact Ex.refl _ | (refine Ex.trans ?_ (by assumption)) | (refine Ex.of_grown ?_ (by assumption) (by intro k hk; cases hk; omega)))); have hsz := he.size; have hgz := hgq.size)
      | ((with_reducible apply W_store); exact rfl; (focus ((repeat (first | assumption | ((with_reducible apply Bx.grownS); assumption; (first | omega | exact Bx.ne (by assumption) (by omega))) | ((with_reducible apply Bx.below); assumption; omega) | ((with_reducible apply Bx.ex); assumption))); done)); exact Nat.le_of_ble_eq_true rfl; ((conv => lhs; whnf) <;> exact rfl); (first | exact rfl | assumption | exact IntsK.one (by assumption) | exact Prs.one (by assumption) | exact Own.one (by assumption) | exact Row.one (by assumption) | exact OwnR.one (by assumption)); simp only [lset]; intro wq hbq hgq; have he : Ex w wq := (by repeat (first | assumption | exact Ex.refl _ | (refine Ex.trans ?_ (by assumption)) | (refine Ex.of_grown ?_ (by assumption) (by intro k hk; cases hk; omega)))); have hsz := he.size; have hgz := hgq.size)
      | ((with_reducible apply W_pass); exact rfl; exact rfl; exact rfl; exact rfl; exact rfl)
      | ((with_reducible apply W_take); exact rfl; exact rfl; exact rfl)
      | ((with_reducible apply W_passU); exact rfl; exact rfl; exact rfl; exact rfl)
      | ((with_reducible apply W_split); exact rfl; exact rfl; intro _; rotate_left 1; intro _)
      | ((with_reducible apply WQ_pass); exact rfl; exact rfl; exact rfl; exact rfl; exact rfl)
      | ((with_reducible apply WQ_take); exact rfl; exact rfl; exact rfl)
      | ((with_reducible apply WQ_passU); exact rfl; exact rfl; exact rfl; exact rfl)
      | ((with_reducible apply WQ_split); exact rfl; exact rfl; intro _; rotate_left 1; intro _)
      | ((with_reducible apply WM_pass); exact rfl; exact rfl; exact rfl; exact rfl; exact rfl)
      | ((with_reducible apply WM_take); exact rfl; exact rfl; exact rfl)
      | ((with_reducible apply WM_passU); exact rfl; exact rfl; exact rfl; exact rfl)
      | ((with_reducible apply WM_split); exact rfl; exact rfl; intro _; rotate_left 1; intro _)
      | ((with_reducible apply c_quiet); kernel_rfl)
      | ((with_reducible apply W_convBytes); exact rfl; (first | assumption | (unfold maxLen; omega)); intro vq wq hvq he; have hsz := he.size)
      | ((with_reducible apply W_bs3); ((conv => lhs; whnf) <;> exact rfl); ((conv => lhs; whnf) <;> exact rfl); ((conv => lhs; whnf) <;> exact rfl); (first | exact rfl | assumption | exact IntsK.one (by assumption) | exact Prs.one (by assumption) | exact Own.one (by assumption) | exact Row.one (by assumption) | exact OwnR.one (by assumption)); (first | exact rfl | assumption | exact IntsK.one (by assumption) | exact Prs.one (by assumption) | exact Own.one (by assumption) | exact Row.one (by assumption) | exact OwnR.one (by assumption)); (first | exact rfl | assumption | exact IntsK.one (by assumption) | exact Prs.one (by assumption) | exact Own.one (by assumption) | exact Row.one (by assumption) | exact OwnR.one (by assumption)); decide; decide; exact rfl; exact rfl; ((simp only [lay, lset, List.replicate_succ, List.replicate_zero]) <;> exact rfl); intro bq wq hbq he hnq; have hltq := Bx.lt hbq; have hsz := he.size)
      | (with_reducible apply c_seq)
      | (with_reducible apply c_region)
      | (with_reducible apply c_block)
      | (with_reducible apply c_skip)
      | (with_reducible apply c_ret)
      | (with_reducible apply c_exit)
      | ((with_reducible apply c_cond_true); exact rfl)
      | ((with_reducible apply c_cond_false); exact rfl)
      | ((with_reducible apply c_cond_dec); exact rfl; intro _; rotate_left 1; intro _)
      | ((with_reducible apply c_cond_bool); exact rfl; intro _; rotate_left 1; intro _)
      | (with_reducible apply n_then)
      | (with_reducible apply n_block)
      | (with_reducible apply e_then)
      | (with_reducible apply e_block)
      | (with_reducible apply r_then)
      | (with_reducible apply r_block)
      | ((with_reducible apply e_block'); decide)
      | ((with_reducible apply p_ret1); exact rfl; ((conv => lhs; whnf) <;> exact rfl); refine ⟨_, rfl, ?_, (by repeat (first | assumption | exact Ex.refl _ | (refine Ex.trans ?_ (by assumption)) | (refine Ex.of_grown ?_ (by assumption) (by intro k hk; cases hk; omega))))⟩)
      | ((with_reducible apply q_ret1); exact rfl; ((conv => lhs; whnf) <;> exact rfl); refine ⟨_, rfl, ?_, (by repeat (first | assumption | exact Ex.refl _ | (refine Ex.trans ?_ (by assumption)) | (refine Ex.of_grown ?_ (by assumption) (by intro k hk; cases hk; omega))))⟩)
      | ((with_reducible apply p_retct); exact rfl; exact inferInstance; exact inferInstance; exact rfl; (focus ((repeat (first | assumption | ((with_reducible apply Bx.grownS); assumption; (first | omega | exact Bx.ne (by assumption) (by omega))) | ((with_reducible apply Bx.below); assumption; omega) | ((with_reducible apply Bx.ex); assumption))); done)); exact rfl; exact rfl; refine ⟨_, rfl, ?_, (by repeat (first | assumption | exact Ex.refl _ | (refine Ex.trans ?_ (by assumption)) | (refine Ex.of_grown ?_ (by assumption) (by intro k hk; cases hk; omega))))⟩)
      | ((exfalso; omega)))
  all_goals first | rfl | skip
end Go.Proofs.Ytbmjigneekodnaa

