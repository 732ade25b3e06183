/-
  What this text proves: what the promises of layer 6 say, as plain functions on integers and lists. It speaks of no program.
-/
import Derived.Test.YtbmjigneekodnaaMath
import Derived.Test.YtbmjigneekodnaaGn
set_option linter.unusedVariables false
set_option linter.unusedSimpArgs false

namespace Go.Pv
abbrev T3 := Int × Int × Int
theorem lmul_bd {a b A B : Int} (ha : 0 ≤ a ∧ a ≤ A) (hb : 0 ≤ b ∧ b ≤ B) : 0 ≤ a * b ∧ a * b ≤ A * B :=
  ⟨Int.mul_nonneg ha.1 hb.1, Int.mul_le_mul ha.2 hb.2 hb.1 (by omega)⟩
/-- A product of numbers that may be below 0. -/
theorem smul_bd {a b A B : Int} (ha : -A ≤ a ∧ a ≤ A) (hb : -B ≤ b ∧ b ≤ B) : -(A * B) ≤ a * b ∧ a * b ≤ A * B := by
  have hA : 0 ≤ A := by omega
  have hB : 0 ≤ B := by omega
  rcases Int.le_total 0 a with h1 | h1 <;> rcases Int.le_total 0 b with h2 | h2
  · have := lmul_bd (a := a) (b := b) (A := A) (B := B) ⟨h1, ha.2⟩ ⟨h2, hb.2⟩
    have h3 := Int.mul_nonneg hA hB
    omega
  · have := lmul_bd (a := a) (b := -b) (A := A) (B := B) ⟨h1, ha.2⟩ (by omega)
    rw [Int.mul_neg] at this
    have h3 := Int.mul_nonneg hA hB
    omega
  · have := lmul_bd (a := -a) (b := b) (A := A) (B := B) (by omega) ⟨h2, hb.2⟩
    rw [Int.neg_mul] at this
    have h3 := Int.mul_nonneg hA hB
    omega
  · have := lmul_bd (a := -a) (b := -b) (A := A) (B := B) (by omega) (by omega)
    rw [Int.neg_mul_neg] at this
    have h3 := Int.mul_nonneg hA hB
    omega
/-- A code's cells. -/
def cC (c : T3) : List Value := [.int .i64 c.1, .int .i64 c.2.1, .int .i64 c.2.2]
abbrev cD : T3 := (0, 0, 0)
/-- A code's numbers are as stated. -/
def codeOk (c : T3) : Prop := (-10000 ≤ c.1 ∧ c.1 ≤ 10000) ∧ (0 ≤ c.2.1 ∧ c.2.1 ≤ 10000) ∧ (c.2.1 ≤ c.2.2 ∧ c.2.2 ≤ 10000)
instance (c : T3) : Decidable (codeOk c) := by unfold codeOk; exact inferInstance
/-- The error of codes behind one with the Set b. -/
def cStep (b : Int) : List T3 → Int
  | [] => 0
  | c :: r => if ¬ codeOk c then 3 else if c.1 ≤ b then 7 else cStep c.1 r
def cErr (l : List T3) : Int := if l.length = 0 then 4 else if 24 < l.length then 5 else cStep (-10001) l
theorem cs_drop {l : List T3} {k : Nat} (hk : k < l.length) (b : Int) : cStep b (l.drop k) = if ¬ codeOk (l.getD k cD) then 3 else if (l.getD k cD).1 ≤ b then 7 else cStep (l.getD k cD).1 (l.drop (k + 1)) := by
  rw [List.drop_eq_getElem_cons hk]
  have e : l.getD k cD = l[k] := by simp [hk]
  rw [e]
  rfl
/-- All are as stated, and in order. -/
def Valid (l : List T3) : Prop := (1 ≤ l.length ∧ l.length ≤ 24) ∧ (∀ j, j < l.length → codeOk (l.getD j cD)) ∧ ∀ i j, i < j → j < l.length → (l.getD i cD).1 < (l.getD j cD).1
theorem cs_inv : ∀ {l : List T3} {b : Int}, cStep b l = 0 → (∀ j, j < l.length → codeOk (l.getD j cD) ∧ b < (l.getD j cD).1) ∧ ∀ i j, i < j → j < l.length → (l.getD i cD).1 < (l.getD j cD).1
  | [], b, _ => ⟨fun j hj => absurd hj (by simp), fun i j _ hj => absurd hj (by simp)⟩
  | c :: r, b, h => by
    simp only [cStep] at h
    by_cases h1 : ¬ codeOk c
    · rw [if_pos h1] at h; cases h
    · rw [if_neg h1] at h
      by_cases h2 : c.1 ≤ b
      · rw [if_pos h2] at h; cases h
      · rw [if_neg h2] at h
        obtain ⟨k1, k2⟩ := cs_inv h
        refine ⟨fun j hj => ?_, fun i j hij hj => ?_⟩
        · cases j with
          | zero => exact ⟨by simpa using Classical.not_not.1 h1, by simpa using (by omega : b < c.1)⟩
          | succ j =>
            have := k1 j (by simpa using hj)
            exact ⟨by simpa using this.1, by have h3 := this.2; simp only [List.getD_cons_succ]; omega⟩
        · cases j with
          | zero => omega
          | succ j =>
            cases i with
            | zero => have := (k1 j (by simpa using hj)).2; simpa using this
            | succ i => have := k2 i j (by omega) (by simpa using hj); simpa using this
theorem valid_of {l : List T3} (h : cErr l = 0) : Valid l := by
  unfold cErr at h
  by_cases c1 : l.length = 0
  · rw [if_pos c1] at h; cases h
  · rw [if_neg c1] at h
    by_cases c2 : 24 < l.length
    · rw [if_pos c2] at h; cases h
    · rw [if_neg c2] at h
      have := cs_inv h
      exact ⟨by omega, fun j hj => (this.1 j hj).1, this.2⟩
/-- A fraction is less than another one. -/
def fLt (f g : Int × Int) : Prop := f.1 * g.2 < g.1 * f.2
instance (f g : Int × Int) : Decidable (fLt f g) := by unfold fLt; exact inferInstance
/-- Lowest terms. -/
def low (f : Int × Int) : Int × Int := (f.1 / (Int.gcd f.1 f.2 : Int), f.2 / (Int.gcd f.1 f.2 : Int))
/-- What one code, and three codes, prove. -/
def oneP (c : T3) : Int × Int := (c.2.2 - c.2.1, 2)
def abv (a b c : T3) : Int := b.2.2 * ((b.1 - a.1) + (c.1 - b.1)) - a.2.1 * (c.1 - b.1) - c.2.1 * (b.1 - a.1)
def blw (a b c : T3) : Int := a.2.2 * (c.1 - b.1) + c.2.2 * (b.1 - a.1) - b.2.1 * ((b.1 - a.1) + (c.1 - b.1))
def threeP (a b c : T3) : Int × Int := (max (abv a b c) (blw a b c), 2 * ((b.1 - a.1) + (c.1 - b.1)))
/-- A proof: one index three times, or three ones in order. -/
def isProof (n : Nat) (p : Nat × Nat × Nat) : Prop := (p.1 = p.2.1 ∧ p.2.1 = p.2.2 ∧ p.1 < n) ∨ (p.1 < p.2.1 ∧ p.2.1 < p.2.2 ∧ p.2.2 < n)
def prvL (l : List T3) (p : Nat × Nat × Nat) : Int × Int := if p.1 = p.2.1 ∧ p.2.1 = p.2.2 then oneP (l.getD p.1 cD) else threeP (l.getD p.1 cD) (l.getD p.2.1 cD) (l.getD p.2.2 cD)
theorem three_bd {a b c : T3} (ha : codeOk a) (hb : codeOk b) (hc : codeOk c) (h1 : a.1 < b.1) (h2 : b.1 < c.1) :
    (0 ≤ b.2.2 * ((b.1 - a.1) + (c.1 - b.1)) ∧ b.2.2 * ((b.1 - a.1) + (c.1 - b.1)) ≤ 200000000) ∧ (0 ≤ a.2.1 * (c.1 - b.1) ∧ a.2.1 * (c.1 - b.1) ≤ 200000000) ∧ (0 ≤ c.2.1 * (b.1 - a.1) ∧ c.2.1 * (b.1 - a.1) ≤ 200000000) ∧
    (0 ≤ a.2.2 * (c.1 - b.1) ∧ a.2.2 * (c.1 - b.1) ≤ 200000000) ∧ (0 ≤ c.2.2 * (b.1 - a.1) ∧ c.2.2 * (b.1 - a.1) ≤ 200000000) ∧ (0 ≤ b.2.1 * ((b.1 - a.1) + (c.1 - b.1)) ∧ b.2.1 * ((b.1 - a.1) + (c.1 - b.1)) ≤ 200000000) := by
  unfold codeOk at ha hb hc
  have f : ∀ {x y : Int}, 0 ≤ x ∧ x ≤ 10000 → 0 ≤ y ∧ y ≤ 20000 → 0 ≤ x * y ∧ x * y ≤ 200000000 := fun hx hy => by
    have := lmul_bd hx hy; omega
  exact ⟨f (by omega) (by omega), f (by omega) (by omega), f (by omega) (by omega), f (by omega) (by omega), f (by omega) (by omega), f (by omega) (by omega)⟩
/-- What is proved is small, and its Den is above 0. -/
def fOk (f : Int × Int) : Prop := (-600000000 ≤ f.1 ∧ f.1 ≤ 600000000) ∧ 1 ≤ f.2 ∧ f.2 ≤ 40000
theorem prv_ok {l : List T3} (hv : Valid l) {p : Nat × Nat × Nat} (hp : isProof l.length p) : fOk (prvL l p) := by
  obtain ⟨p1, p2, p3⟩ := p
  unfold prvL
  rcases hp with ⟨h1, h2, h3⟩ | ⟨h1, h2, h3⟩
  · simp only at h1 h2 h3
    subst h1; subst h2
    rw [if_pos ⟨rfl, rfl⟩]
    have := hv.2.1 p1 h3
    unfold codeOk at this
    unfold fOk oneP
    simp only
    omega
  · simp only at h1 h2 h3
    rw [if_neg (by simp only; omega)]
    have ha := hv.2.1 p1 (by omega)
    have hb := hv.2.1 p2 (by omega)
    have hc := hv.2.1 p3 (by omega)
    have k1 := hv.2.2 p1 p2 h1 (by omega)
    have k2 := hv.2.2 p2 p3 h2 h3
    obtain ⟨b1, b2, b3, b4, b5, b6⟩ := three_bd ha hb hc k1 k2
    unfold codeOk at ha hb hc
    unfold fOk threeP abv blw
    simp only
    omega
/-- The fraction is proved by a proof, and none proves a greater one. -/
def bestIs (l : List T3) (f : Int × Int) : Prop := (∃ p, isProof l.length p ∧ f = prvL l p) ∧ ∀ q, isProof l.length q → ¬ fLt f (prvL l q)
theorem fOk_mul {f g : Int × Int} (hf : fOk f) (hg : fOk g) : -24000000000000 ≤ f.1 * g.2 ∧ f.1 * g.2 ≤ 24000000000000 := by
  have := smul_bd (a := f.1) (b := g.2) (A := 600000000) (B := 40000) hf.1 (by have := hg.2; omega)
  omega
/-- Equal fractions have the same lowest terms. -/
theorem low_eq {f g : Int × Int} (hf : 1 ≤ f.2) (hg : 1 ≤ g.2) (h : f.1 * g.2 = g.1 * f.2) : low f = low g := by
  obtain ⟨n, d⟩ := f
  obtain ⟨m, e⟩ := g
  simp only at hf hg h
  have key : ∀ {n d m e : Int}, 1 ≤ d → 1 ≤ e → n * e = m * d → n / (Int.gcd n d : Int) = m / (Int.gcd m e : Int) ∧ d / (Int.gcd n d : Int) = e / (Int.gcd m e : Int) := by
    intro n d m e hd he h
    have g1 : (0 : Int) < Int.gcd n d := by
      have := Int.gcd_pos_of_ne_zero_right n (show d ≠ 0 by omega)
      omega
    have g2 : (0 : Int) < Int.gcd m e := by
      have := Int.gcd_pos_of_ne_zero_right m (show e ≠ 0 by omega)
      omega
    have en := Int.ediv_mul_cancel (Int.gcd_dvd_left (a := n) (b := d))
    have ed := Int.ediv_mul_cancel (Int.gcd_dvd_right (a := n) (b := d))
    have em := Int.ediv_mul_cancel (Int.gcd_dvd_left (a := m) (b := e))
    have ee := Int.ediv_mul_cancel (Int.gcd_dvd_right (a := m) (b := e))
    have c1 := Int.gcd_ediv_gcd_ediv_gcd (i := n) (j := d) (by omega)
    have c2 := Int.gcd_ediv_gcd_ediv_gcd (i := m) (j := e) (by omega)
    generalize n / (Int.gcd n d : Int) = n1 at *
    generalize d / (Int.gcd n d : Int) = d1 at *
    generalize m / (Int.gcd m e : Int) = m1 at *
    generalize e / (Int.gcd m e : Int) = e1 at *
    generalize (Int.gcd n d : Int) = g at *
    generalize (Int.gcd m e : Int) = k at *
    subst en; subst ed; subst em; subst ee
    have h1 : n1 * e1 = m1 * d1 := by
      have e1' : n1 * g * (e1 * k) = g * k * (n1 * e1) := by ac_rfl
      have e2' : m1 * k * (d1 * g) = g * k * (m1 * d1) := by ac_rfl
      rw [e1', e2'] at h
      exact Int.eq_of_mul_eq_mul_left (Int.ne_of_gt (Int.mul_pos g1 g2)) h
    have hd1 : 0 < d1 := by
      refine Classical.byContradiction fun hc => ?_
      have := Int.mul_nonneg (show 0 ≤ -d1 by omega) (show 0 ≤ g by omega)
      rw [Int.neg_mul] at this
      omega
    have he1 : 0 < e1 := by
      refine Classical.byContradiction fun hc => ?_
      have := Int.mul_nonneg (show 0 ≤ -e1 by omega) (show 0 ≤ k by omega)
      rw [Int.neg_mul] at this
      omega
    have h2 := congrArg Int.natAbs h1
    rw [Int.natAbs_mul, Int.natAbs_mul] at h2
    rw [Int.gcd_eq_natAbs_gcd_natAbs] at c1 c2
    have k1 : d1.natAbs ∣ e1.natAbs := Nat.Coprime.dvd_of_dvd_mul_left (k := d1.natAbs) (m := n1.natAbs) ((Nat.gcd_comm _ _).trans c1) ⟨m1.natAbs, by rw [h2, Nat.mul_comm]⟩
    have k2 : e1.natAbs ∣ d1.natAbs := Nat.Coprime.dvd_of_dvd_mul_left (k := e1.natAbs) (m := m1.natAbs) ((Nat.gcd_comm _ _).trans c2) ⟨n1.natAbs, by rw [← h2, Nat.mul_comm]⟩
    have k3 := Nat.dvd_antisymm k1 k2
    have k4 : d1 = e1 := by omega
    subst k4
    exact ⟨Int.eq_of_mul_eq_mul_right (Int.ne_of_gt hd1) h1, rfl⟩
  have := key hf hg h
  unfold low
  simp only [this.1, this.2]
end Go.Pv
