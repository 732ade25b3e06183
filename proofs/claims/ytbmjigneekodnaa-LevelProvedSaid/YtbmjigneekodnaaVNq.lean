/-
  (rows) What this text proves: LevelProved returns true. Conditions: the first argument is a row of triples of bytes, the others are small integers.
-/
import Derived.Laws.Cover1
import Derived.Test.YtbmjigneekodnaaVLj
import Derived.Test.YtbmjigneekodnaaVMw
import Derived.Test.YtbmjigneekodnaaVNh
set_option linter.unusedVariables false
set_option linter.unusedSimpArgs false

namespace Go.Pv
theorem cErr_ok {l : List T3} (h : Valid l) : cErr l = 0 := by
  have key : ∀ {l : List T3} {b : Int}, (∀ j, j < l.length → codeOk (l.getD j cD) ∧ b < (l.getD j cD).1) → (∀ i j, i < j → j < l.length → (l.getD i cD).1 < (l.getD j cD).1) → cStep b l = 0 := by
    intro l
    induction l with
    | nil => intro b _ _; rfl
    | cons c r ih =>
      intro b h1 h2
      have h0 := h1 0 (by simp)
      simp only [List.getD_cons_zero] at h0
      simp only [cStep]
      rw [if_neg (fun h => h h0.1), if_neg (by omega)]
      refine ih (fun j hj => ⟨?_, ?_⟩) (fun i j h3 h4 => ?_)
      · have := (h1 (j + 1) (by simpa using hj)).1
        simpa using this
      · have := h2 0 (j + 1) (by omega) (by simpa using hj)
        simpa using this
      · have := h2 (i + 1) (j + 1) (by omega) (by simpa using h4)
        simpa using this
  unfold cErr
  rw [if_neg (by have := h.1.1; omega), if_neg (by have := h.1.2; omega)]
  refine key (fun j hj => ⟨h.2.1 j hj, ?_⟩) h.2.2
  have := h.2.1 j hj
  unfold codeOk at this
  omega
theorem pErr_codes {n : Nat} {p : Nat × Nat × Nat} (h : isProof n p) : pErr n (codesL p) = 0 ∧ pOf (codesL p) = p := by
  obtain ⟨p1, p2, p3⟩ := p
  unfold isProof at h
  simp only at h
  unfold codesL
  simp only
  by_cases e : p1 = p2 ∧ p2 = p3
  · obtain ⟨rfl, rfl⟩ := e
    rw [if_pos ⟨rfl, rfl⟩]
    refine ⟨?_, ?_⟩
    · unfold pErr
      rw [if_neg (by simp)]
      simp only [pStep]
      rw [if_neg (by omega), if_neg (by omega)]
    · simp [pOf]
  · rw [if_neg e]
    refine ⟨?_, ?_⟩
    · unfold pErr
      rw [if_neg (by simp)]
      simp only [pStep]
      rw [if_neg (by omega), if_neg (by omega), if_neg (by omega), if_neg (by omega), if_neg (by omega), if_neg (by omega)]
    · simp [pOf]
theorem vf_ok {l : List T3} {p : Nat × Nat × Nat} {f : Int × Int} (hv : Valid l) (hp : isProof l.length p) (hf : bOk f) (h : ¬ fLt (prvL l p) f) : vfE l (codesL p) f = 0 := by
  have := pErr_codes hp
  unfold vfE
  rw [if_neg (fun h => h (cErr_ok hv)), if_neg (fun h => h this.1), if_neg (fun h => h hf), this.2, if_neg h]
theorem vf_no {l : List T3} {p : Nat × Nat × Nat} {f : Int × Int} (hv : Valid l) (hp : isProof l.length p) (hf : bOk f) (h : fLt (prvL l p) f) : vfE l (codesL p) f = 14 := by
  have := pErr_codes hp
  unfold vfE
  rw [if_neg (fun h => h (cErr_ok hv)), if_neg (fun h => h this.1), if_neg (fun h => h hf), this.2, if_pos h]
theorem vf_inv {l : List T3} {cs : List Int} {f : Int × Int} (h : vfE l cs f = 0) : isProof l.length (pOf cs) ∧ ¬ fLt (prvL l (pOf cs)) f := by
  unfold vfE at h
  by_cases c1 : cErr l ≠ 0
  · rw [if_pos c1] at h; exact absurd h c1
  · rw [if_neg c1] at h
    by_cases c2 : pErr l.length cs ≠ 0
    · rw [if_pos c2] at h; exact absurd h c2
    · rw [if_neg c2] at h
      by_cases c3 : ¬ bOk f
      · rw [if_pos c3] at h; cases h
      · rw [if_neg c3] at h
        by_cases c4 : fLt (prvL l (pOf cs)) f
        · rw [if_pos c4] at h; cases h
        · exact ⟨(pe_inv (Classical.not_not.1 c2)).2, c4⟩
/-- Twice what codes prove, as the law computes it. -/
def dblL (l : List T3) (p : Nat × Nat × Nat) : Int × Int := if p.1 = p.2.1 ∧ p.2.1 = p.2.2 then ((l.getD p.1 cD).2.2 - (l.getD p.1 cD).2.1, 1) else (max (abv (l.getD p.1 cD) (l.getD p.2.1 cD) (l.getD p.2.2 cD)) (blw (l.getD p.1 cD) (l.getD p.2.1 cD) (l.getD p.2.2 cD)), ((l.getD p.2.1 cD).1 - (l.getD p.1 cD).1) + ((l.getD p.2.2 cD).1 - (l.getD p.2.1 cD).1))
theorem prv_dbl (l : List T3) (p : Nat × Nat × Nat) : prvL l p = ((dblL l p).1, 2 * (dblL l p).2) := by
  unfold prvL dblL
  by_cases e : p.1 = p.2.1 ∧ p.2.1 = p.2.2
  · rw [if_pos e, if_pos e]; rfl
  · rw [if_neg e, if_neg e]; rfl
theorem small_dbl {l : List T3} (h : smallL l) {p : Nat × Nat × Nat} (hp : isProof l.length p) : (-1600 ≤ (dblL l p).1 ∧ (dblL l p).1 ≤ 1600) ∧ 1 ≤ (dblL l p).2 ∧ (dblL l p).2 ≤ 16 := by
  have := small_prv h hp
  rw [prv_dbl] at this
  simp only at this
  omega
/-- Which ones the law has seen, and the greatest of them. -/
def seen3 (i j k : Nat) (p : Nat × Nat × Nat) : Prop := p.1 < i ∨ (p.1 = i ∧ (p.2.1 < j ∨ (p.2.1 = j ∧ p.2.2 < k)))
def bestK (l : List T3) (i j k : Nat) (b : Int × Int) : Prop := (b = (0, 1) ∨ ∃ p, isProof l.length p ∧ b = dblL l p) ∧ ¬ fLt b (0, 1) ∧ ∀ p, isProof l.length p → seen3 i j k p → ¬ fLt b (dblL l p)
theorem bestK_sF {l : List T3} (hs : smallL l) {i j k : Nat} {b : Int × Int} (h : bestK l i j k b) : (0 ≤ b.1 ∧ b.1 ≤ 1600) ∧ 1 ≤ b.2 ∧ b.2 ≤ 16 := by
  have h2 := h.2.1
  rcases h.1 with rfl | ⟨p, hp, rfl⟩
  · decide
  · have := small_dbl hs hp
    unfold fLt at h2
    simp only at h2
    omega
theorem bestK_skip {l : List T3} {i j k : Nat} {b : Int × Int} (h : bestK l i j k b) (hn : ¬ isProof l.length (i, j, k)) : bestK l i j (k + 1) b := by
  refine ⟨h.1, h.2.1, fun p hp hs => ?_⟩
  by_cases e : p = (i, j, k)
  · subst e; exact absurd hp hn
  · refine h.2.2 p hp ?_
    obtain ⟨p1, p2, p3⟩ := p
    unfold seen3 at *
    simp only [Prod.mk.injEq] at *
    omega
theorem bestK_keep {l : List T3} {i j k : Nat} {b : Int × Int} (h : bestK l i j k b) (hn : ¬ fLt b (dblL l (i, j, k))) : bestK l i j (k + 1) b := by
  refine ⟨h.1, h.2.1, fun p hp hs => ?_⟩
  by_cases e : p = (i, j, k)
  · subst e; exact hn
  · refine h.2.2 p hp ?_
    obtain ⟨p1, p2, p3⟩ := p
    unfold seen3 at *
    simp only [Prod.mk.injEq] at *
    omega
theorem bestK_take {l : List T3} (hsm : smallL l) {i j k : Nat} {b : Int × Int} (h : bestK l i j k b) (hp0 : isProof l.length (i, j, k)) (hn : fLt b (dblL l (i, j, k))) : bestK l i j (k + 1) (dblL l (i, j, k)) := by
  have hb := bestK_sF hsm h
  have hd := small_dbl hsm hp0
  have key : ∀ g : Int × Int, 1 ≤ g.2 → ¬ fLt b g → ¬ fLt (dblL l (i, j, k)) g := fun g hg h1 => by
    refine fN_trans hd.2.1 hb.2.1 hg ?_ h1
    intro hc
    unfold fLt at hn hc
    omega
  refine ⟨Or.inr ⟨_, hp0, rfl⟩, key _ (by decide) h.2.1, fun p hp hs => ?_⟩
  by_cases e : p = (i, j, k)
  · subst e; exact fun h => by unfold fLt at h; omega
  · refine key _ (small_dbl hsm hp).2.1 (h.2.2 p hp ?_)
    obtain ⟨p1, p2, p3⟩ := p
    unfold seen3 at *
    simp only [Prod.mk.injEq] at *
    omega
theorem bestK_row {l : List T3} {i j : Nat} {b : Int × Int} (h : bestK l i j l.length b) : bestK l i (j + 1) (j + 1) b := by
  refine ⟨h.1, h.2.1, fun p hp hs => h.2.2 p hp ?_⟩
  obtain ⟨p1, p2, p3⟩ := p
  unfold seen3 isProof at *
  simp only at *
  omega
theorem bestK_next {l : List T3} {i j : Nat} {b : Int × Int} (h : bestK l i l.length j b) : bestK l (i + 1) (i + 1) (i + 1) b := by
  refine ⟨h.1, h.2.1, fun p hp hs => h.2.2 p hp ?_⟩
  obtain ⟨p1, p2, p3⟩ := p
  unfold seen3 isProof at *
  simp only at *
  omega
theorem bestK_end {l : List T3} (hsm : smallL l) {i j k : Nat} {b f0 : Int × Int} (h : bestK l l.length j k b) (hf : bestIs l f0) : b.1 * (low f0).2 = 2 * (low f0).1 * b.2 := by
  have hb := bestK_sF hsm h
  have hf2 := best_nn hsm.valid hf
  have hlc := low_cross hf2.2
  have hld := (low_den hf2.2).1
  obtain ⟨⟨q, hq, hfq⟩, hall⟩ := hf
  have hdq := small_dbl hsm hq
  have hs : seen3 l.length j k q := by
    unfold seen3 isProof at *
    omega
  have h1 := h.2.2 q hq hs
  rw [prv_dbl] at hfq
  have e1 : f0.1 = (dblL l q).1 := by rw [hfq]
  have e2 : f0.2 = 2 * (dblL l q).2 := by rw [hfq]
  have h2 : b.1 * (dblL l q).2 = (dblL l q).1 * b.2 := by
    rcases h.1 with hb1 | ⟨p, hp, hbp⟩
    · subst hb1
      unfold fLt at h1
      simp only at h1 ⊢
      omega
    · have h3 := hall p hp
      rw [prv_dbl, ← hbp] at h3
      unfold fLt at h1 h3
      rw [e1, e2] at h3
      simp only at h3
      have e3 : b.1 * (2 * (dblL l q).2) = 2 * (b.1 * (dblL l q).2) := by ac_rfl
      have e4 : (dblL l q).1 * (2 * b.2) = 2 * ((dblL l q).1 * b.2) := by ac_rfl
      omega
  rw [e1, e2] at hlc
  generalize (dblL l q).1 = n at *
  generalize (dblL l q).2 = d at *
  generalize (low f0).1 = x at *
  generalize (low f0).2 = y at *
  have e5 : (b.1 * y) * d = (2 * x * b.2) * d := by
    have a1 : (b.1 * y) * d = (b.1 * d) * y := by ac_rfl
    have a2 : (2 * x * b.2) * d = (x * (2 * d)) * b.2 := by ac_rfl
    rw [a1, a2, h2, ← hlc]
    ac_rfl
  exact Int.eq_of_mul_eq_mul_right (by omega) e5
/-- The error of a line, behind k codes. -/
def loudL (g o : Int × Int) (c : T3) : Int := g.1 * c.1 * o.2 + o.1 * g.2
def offK (l : List T3) (g o : Int × Int) (k : Nat) (w : Int) : Prop := 0 ≤ w ∧ ∀ j, j < k → loudL g o (l.getD j cD) - (l.getD j cD).2.1 * (g.2 * o.2) ≤ w ∧ (l.getD j cD).2.2 * (g.2 * o.2) - loudL g o (l.getD j cD) ≤ w
theorem offK_next {l : List T3} {g o : Int × Int} {k : Nat} {w : Int} (h : offK l g o k w) : offK l g o (k + 1) (max (max w (loudL g o (l.getD k cD) - (l.getD k cD).2.1 * (g.2 * o.2))) ((l.getD k cD).2.2 * (g.2 * o.2) - loudL g o (l.getD k cD))) := by
  refine ⟨by have := h.1; omega, fun j hj => ?_⟩
  by_cases c : j = k
  · subst c; omega
  · have := h.2 j (by omega); omega
/-- What codes prove, no line has an error below it. -/
theorem off_proves {l : List T3} {g o b : Int × Int} {w : Int} {p : Nat × Nat × Nat} (hv : Valid l) (hg : 1 ≤ g.2) (ho : 1 ≤ o.2) (hb : 1 ≤ b.2) (h : offK l g o l.length w) (hp : isProof l.length p) (hpb : ¬ fLt (prvL l p) b) : ¬ fLt (w, g.2 * o.2) b := by
  have hD : 1 ≤ g.2 * o.2 := by
    have := Int.mul_pos (show 0 < g.2 by omega) (show 0 < o.2 by omega)
    omega
  have hk : gainKeeps l (w, g.2 * o.2) g := by
    intro i j hi hj
    have h1 := (h.2 i hi).1
    have h2 := (h.2 j hj).2
    generalize l.getD i cD = a at *
    generalize l.getD j cD = c at *
    unfold loudL at h1 h2
    have m1 := Int.mul_le_mul_of_nonneg_right h1 (show 0 ≤ g.2 by omega)
    have m2 := Int.mul_le_mul_of_nonneg_right h2 (show 0 ≤ g.2 by omega)
    have e1 : (g.1 * a.1 * o.2 + o.1 * g.2 - a.2.1 * (g.2 * o.2)) * g.2 - w * g.2 = o.1 * g.2 * g.2 - upG (w, g.2 * o.2) g a := by
      unfold upG
      grind
    have e2 : (c.2.2 * (g.2 * o.2) - (g.1 * c.1 * o.2 + o.1 * g.2)) * g.2 - w * g.2 = dnG (w, g.2 * o.2) g c - o.1 * g.2 * g.2 := by
      unfold dnG
      grind
    omega
  have hfit := line_fits hv hD hg hk p hp
  have hpo := prv_ok hv hp
  unfold fOk at hpo
  exact fN_trans hD hpo.2.1 hb hfit hpb
end Go.Pv

namespace Go.Pv
open Go.RowKit
section
variable {P : Program} {l : St} {w : World} {od : Option Nat} {ty : TypeId} {pos : String} {af : Array Edge}
theorem r_max3 {x y z : Operand} {ts : Array TypeId} {m n k : Int} (hx : ev l x = .int .i64 m) (hy : ev l y = .int .i64 n) (hz : ev l z = .int .i64 k) : Runs P ⟨od, .call { callee := .builtin .max, args := #[x, y, z], argTypes := ts }, ty, pos, af, none⟩ l w (.int .i64 (max (max m n) k)) := by
  have e : (if k > (if n > m then n else m) then k else (if n > m then n else m)) = max (max m n) k := by
    rw [show (if n > m then n else m) = max m n by rw [Int.max_def]; split <;> split <;> omega]
    rw [Int.max_def (max m n) k]; split <;> split <;> omega
  simp [Runs, execOp, resolve, invoke, builtin, hx, hy, hz, e, run_max_int3]
end
/-- The error of a line behind k codes, as the law computes it. -/
def offF (l : List T3) (g o : Int × Int) : Nat → Int
  | 0 => 0
  | k + 1 => max (max (offF l g o k) (loudL g o (l.getD k cD) - (l.getD k cD).2.1 * (g.2 * o.2))) ((l.getD k cD).2.2 * (g.2 * o.2) - loudL g o (l.getD k cD))
theorem offF_K (l : List T3) (g o : Int × Int) (k : Nat) : offK l g o k (offF l g o k) := by
  induction k with
  | zero => exact ⟨Int.le_refl 0, fun j hj => absurd hj (Nat.not_lt_zero _)⟩
  | succ k ih => exact offK_next ih
/-- Bounds of the products of an error. -/
theorem lof_bd {g o : Int × Int} {c : T3} (hg : (-128 ≤ g.1 ∧ g.1 ≤ 127) ∧ 1 ≤ g.2 ∧ g.2 ≤ 8) (ho : (-128 ≤ o.1 ∧ o.1 ≤ 127) ∧ 1 ≤ o.2 ∧ o.2 ≤ 8) (hc : (-3 ≤ c.1 ∧ c.1 ≤ 13) ∧ (0 ≤ c.2.1 ∧ c.2.1 ≤ 39) ∧ c.2.1 ≤ c.2.2 ∧ c.2.2 ≤ 50) :
    (-1664 ≤ g.1 * c.1 ∧ g.1 * c.1 ≤ 1664) ∧ (-13312 ≤ g.1 * c.1 * o.2 ∧ g.1 * c.1 * o.2 ≤ 13312) ∧ (-1024 ≤ o.1 * g.2 ∧ o.1 * g.2 ≤ 1024) ∧ (0 ≤ c.2.1 * (g.2 * o.2) ∧ c.2.1 * (g.2 * o.2) ≤ 3200) ∧ (0 ≤ c.2.2 * (g.2 * o.2) ∧ c.2.2 * (g.2 * o.2) ≤ 3200) := by
  have h1 := lmul_bd (a := g.2) (b := o.2) (A := 8) (B := 8) (by omega) (by omega)
  have h2 := smul_bd (a := g.1) (b := c.1) (A := 128) (B := 13) (by omega) (by omega)
  have h3 := smul_bd (a := g.1 * c.1) (b := o.2) (A := 1664) (B := 8) (by omega) (by omega)
  have h4 := smul_bd (a := o.1) (b := g.2) (A := 128) (B := 8) (by omega) (by omega)
  have h5 := lmul_bd (a := c.2.1) (b := g.2 * o.2) (A := 50) (B := 64) (by omega) (by omega)
  have h6 := lmul_bd (a := c.2.2) (b := g.2 * o.2) (A := 50) (B := 64) (by omega) (by omega)
  omega
theorem dD_bd {g o : Int × Int} (hg : 1 ≤ g.2 ∧ g.2 ≤ 8) (ho : 1 ≤ o.2 ∧ o.2 ≤ 8) : 1 ≤ g.2 * o.2 ∧ g.2 * o.2 ≤ 64 := by
  have h1 := lmul_bd (a := g.2) (b := o.2) (A := 8) (B := 8) (by omega) (by omega)
  have h2 := Int.mul_pos (show 0 < g.2 by omega) (show 0 < o.2 by omega)
  omega
theorem Ints.at3 {w : World} {v : Value} {xs : List Int} (h : Ints w v xs) {i : Nat} (hi : i < xs.length) : ∃ a cap, v = .slice (some a) xs.length cap ∧ ∀ j, j < xs.length → w.cell? (a.add (j * 1)) = some (.int .i64 (xs.getD j 0)) := by
  change IntsK .i64 w v xs at h
  unfold IntsK Sl at h
  obtain ⟨h0, a, cap, rfl, h1, h2, h3⟩ := h
  obtain ⟨p, q, rfl, -, -⟩ := h3 i hi
  refine ⟨p, cap, rfl, fun j hj => ?_⟩
  obtain ⟨p', q', e1, e2, e3⟩ := h3 j hj
  cases e1
  unfold IntR at e3
  rw [Nat.mul_one, e2, e3]; simp [hj]
theorem Row.at3 {w : World} {v : Value} {xs : List T3} (h : Row cC 3 w v xs) (h0 : 0 < xs.length) : ∃ a cap, v = .slice (some a) xs.length cap ∧ ∀ j, j < xs.length → Cells w (a.add (j * 3)) (cC (xs.getD j cD)) := by
  obtain ⟨_, a, cap, rfl, hc, hm, hall⟩ := h
  obtain ⟨p, rfl, _⟩ := hall 0 h0
  refine ⟨p, cap, rfl, fun j hj => ?_⟩
  obtain ⟨p', e1, e2⟩ := hall j hj
  cases e1
  rw [show xs.getD j cD = xs[j] by simp [hj]]
  exact e2
theorem law_bd {a b c : T3} (ha : (-3 ≤ a.1 ∧ a.1 ≤ 13) ∧ (0 ≤ a.2.1 ∧ a.2.1 ≤ 39) ∧ a.2.1 ≤ a.2.2 ∧ a.2.2 ≤ 50) (hb : (-3 ≤ b.1 ∧ b.1 ≤ 13) ∧ (0 ≤ b.2.1 ∧ b.2.1 ≤ 39) ∧ b.2.1 ≤ b.2.2 ∧ b.2.2 ≤ 50) (hc : (-3 ≤ c.1 ∧ c.1 ≤ 13) ∧ (0 ≤ c.2.1 ∧ c.2.1 ≤ 39) ∧ c.2.1 ≤ c.2.2 ∧ c.2.2 ≤ 50) (h1 : a.1 < b.1) (h2 : b.1 < c.1) :
    (0 ≤ b.2.2 * (c.1 - a.1) ∧ b.2.2 * (c.1 - a.1) ≤ 800) ∧ (0 ≤ a.2.1 * (c.1 - a.1 - (b.1 - a.1)) ∧ a.2.1 * (c.1 - a.1 - (b.1 - a.1)) ≤ 800) ∧ (0 ≤ c.2.1 * (b.1 - a.1) ∧ c.2.1 * (b.1 - a.1) ≤ 800) ∧
    (0 ≤ a.2.2 * (c.1 - a.1 - (b.1 - a.1)) ∧ a.2.2 * (c.1 - a.1 - (b.1 - a.1)) ≤ 800) ∧ (0 ≤ c.2.2 * (b.1 - a.1) ∧ c.2.2 * (b.1 - a.1) ≤ 800) ∧ (0 ≤ b.2.1 * (c.1 - a.1) ∧ b.2.1 * (c.1 - a.1) ≤ 800) := by
  have f : ∀ {x y : Int}, 0 ≤ x ∧ x ≤ 50 → 0 ≤ y ∧ y ≤ 16 → 0 ≤ x * y ∧ x * y ≤ 800 := fun hx hy => by
    have := lmul_bd hx hy; omega
  exact ⟨f (by omega) (by omega), f (by omega) (by omega), f (by omega) (by omega), f (by omega) (by omega), f (by omega) (by omega), f (by omega) (by omega)⟩
theorem dbl_eq (a b c : T3) : (Value.agg #[.int .i64 (max (b.2.2 * (c.1 - a.1) - a.2.1 * (c.1 - a.1 - (b.1 - a.1)) - c.2.1 * (b.1 - a.1)) (a.2.2 * (c.1 - a.1 - (b.1 - a.1)) + c.2.2 * (b.1 - a.1) - b.2.1 * (c.1 - a.1))), .int .i64 (c.1 - a.1)]) = v2 (max (abv a b c) (blw a b c), (b.1 - a.1) + (c.1 - b.1)) := by
  have e1 : b.2.2 * (c.1 - a.1) - a.2.1 * (c.1 - a.1 - (b.1 - a.1)) - c.2.1 * (b.1 - a.1) = abv a b c := by
    unfold abv
    grind
  have e2 : a.2.2 * (c.1 - a.1 - (b.1 - a.1)) + c.2.2 * (b.1 - a.1) - b.2.1 * (c.1 - a.1) = blw a b c := by
    unfold blw
    grind
  rw [e1, e2]
  unfold v2
  simp only
  rw [show c.1 - a.1 = (b.1 - a.1) + (c.1 - b.1) by omega]
end Go.Pv
namespace Go.Proofs.Ytbmjigneekodnaa
open Go.Pv Go.RowKit
set_option maxHeartbeats 8000000
set_option maxRecDepth 20000

theorem off_any (v : Value) (l : List T3) (g o : Int × Int) (w : World) (h : Row cC 3 w v l) (hsm : smallL l) (hg : (-128 ≤ g.1 ∧ g.1 ≤ 127) ∧ 1 ≤ g.2 ∧ g.2 ≤ 8) (ho : (-128 ≤ o.1 ∧ o.1 ≤ 127) ∧ 1 ≤ o.2 ∧ o.2 ≤ 8) :
    Ret Try.prog 30 [v, v2 g, v2 o] w fun r _ => r = v2 (offF l g o l.length, g.2 * o.2) ∧ offF l g o l.length ≤ 20000 := by
  unfold v2
  have hl := h.len
  have hv1 := h.one
  have hD := dD_bd hg.2 ho.2
  have tk1 : True := trivial
  refine ret_of_c Try.func30 rfl Try.ntmps30 (Nat.le_of_ble_eq_true rfl) (by dsimp only [ini, Nat.reduceAdd] <;> exact rfl) ?_
  repeat' (first
      | (clear tkA; by_cases hkl : k < l.length; (have hbd := lof_bd hg ho (hsm.2.1 k hkl)); rotate_left 1)
      | (refine W_indexRw (f := cC) (n := 3) (v := v) (xs := l) (i := k) cD cC_len (by decide) rfl (Row.ex (by repeat (first | exact Ex.refl _ | assumption | (refine Ex.of_grown ?_ (by assumption) (by intro k hk; cases hk; omega)) | (refine Ex.trans ?_ (by assumption)))) h) rfl (by omega) ?_; intro pb po hpc; (have hpc3 : Cells _ ⟨pb, po, none⟩ [_, _, _] := hpc))
      | ((with_reducible apply W_op); exact rfl; exact rfl; exact r_lenR (f := cC) (n := 3) (xs := l) (v := v) rfl (Row.ex (by repeat (first | exact Ex.refl _ | assumption | (refine Ex.of_grown ?_ (by assumption) (by intro k hk; cases hk; omega)) | (refine Ex.trans ?_ (by assumption)))) h))
      | ((with_reducible apply W_op); exact rfl; exact rfl; exact r_max3 rfl rfl rfl)
      | ((first | ((with_reducible apply W_op); exact rfl; exact rfl)); (first | ((with_reducible apply r_indexArr); exact rfl; exact rfl; omega) | (exact r_indexArr (i := 0) rfl rfl (by decide)) | (exact r_indexArr (i := 1) rfl rfl (by decide)) | (exact r_indexArr (i := 2) rfl rfl (by decide)) | ((with_reducible apply r_move); ((conv => lhs; whnf) <;> exact rfl)) | ((with_reducible apply r_assign); ((conv => lhs; whnf) <;> exact rfl)) | ((with_reducible apply r_fieldAddr); exact rfl) | ((with_reducible apply r_load); exact rfl; exact rfl; (first | assumption | exact (Bx.cell (by repeat (first | assumption | ((with_reducible apply Bx.grownS); assumption; (first | omega | exact Bx.ne (by assumption) (by omega))) | ((with_reducible apply Bx.below); assumption; omega) | ((with_reducible apply Bx.ex); assumption))) _).trans rfl | exact Ex.cell (by assumption) (by assumption))) | ((with_reducible apply r_loadF); exact rfl; (first | assumption | exact (Bx.cell (by repeat (first | assumption | ((with_reducible apply Bx.grownS); assumption; (first | omega | exact Bx.ne (by assumption) (by omega))) | ((with_reducible apply Bx.below); assumption; omega) | ((with_reducible apply Bx.ex); assumption))) _).trans rfl | exact Ex.cell (by assumption) (by assumption))) | ((with_reducible apply r_loadA); exact rfl; (first | assumption | exact Bx.cells (by repeat (first | assumption | ((with_reducible apply Bx.grownS); assumption; (first | omega | exact Bx.ne (by assumption) (by omega))) | ((with_reducible apply Bx.below); assumption; omega) | ((with_reducible apply Bx.ex); assumption))) | exact Cells.ex (by assumption) (by assumption)); exact rfl) | ((with_reducible apply r_lss); exact rfl; exact rfl) | ((with_reducible apply r_add); exact rfl; exact rfl; omega) | ((with_reducible apply r_sub); exact rfl; exact rfl; omega) | ((with_reducible apply r_len); exact rfl) | ((with_reducible apply r_lenStr); exact rfl) | ((with_reducible apply r_lenInts); ((conv => lhs; whnf) <;> exact rfl); (focus ((repeat (first | assumption | ((with_reducible apply OwnR.grownS); assumption; omega) | ((with_reducible apply Row.ex); assumption) | ((with_reducible apply OwnR.ex); assumption) | ((with_reducible apply Bx.grownS); assumption; (first | omega | exact Bx.ne (by assumption) (by omega))) | ((with_reducible apply Bx.below); assumption; omega) | ((with_reducible apply Own.grownS); assumption; omega) | ((with_reducible apply Bx.ex); assumption) | ((with_reducible apply IntsK.ex); assumption) | ((with_reducible apply Own.ex); assumption) | ((with_reducible apply Prs.ex); assumption))); done))) | ((with_reducible apply r_lenPrs); ((conv => lhs; whnf) <;> exact rfl); (focus ((repeat (first | assumption | ((with_reducible apply OwnR.grownS); assumption; omega) | ((with_reducible apply Row.ex); assumption) | ((with_reducible apply OwnR.ex); assumption) | ((with_reducible apply Bx.grownS); assumption; (first | omega | exact Bx.ne (by assumption) (by omega))) | ((with_reducible apply Bx.below); assumption; omega) | ((with_reducible apply Own.grownS); assumption; omega) | ((with_reducible apply Bx.ex); assumption) | ((with_reducible apply IntsK.ex); assumption) | ((with_reducible apply Own.ex); assumption) | ((with_reducible apply Prs.ex); assumption))); done))) | ((with_reducible apply r_mul); exact rfl; exact rfl; omega) | ((with_reducible apply r_loadSub); exact rfl; (focus ((repeat (first | assumption | ((with_reducible apply Bx.grownS); assumption; (first | omega | exact Bx.ne (by assumption) (by omega))) | ((with_reducible apply Bx.below); assumption; omega) | ((with_reducible apply Bx.ex); assumption))); done)); ((simp only [Nat.add_zero, Nat.zero_add, Nat.reduceAdd, List.drop_zero, List.drop_succ_cons, List.take_succ_cons, List.take_zero]) <;> exact rfl); exact rfl) | ((with_reducible apply r_max2); exact rfl; exact rfl) | ((with_reducible apply r_lenR); ((conv => lhs; whnf) <;> exact rfl); (focus ((repeat (first | assumption | ((with_reducible apply OwnR.grownS); assumption; omega) | ((with_reducible apply Row.ex); assumption) | ((with_reducible apply OwnR.ex); assumption) | ((with_reducible apply Bx.grownS); assumption; (first | omega | exact Bx.ne (by assumption) (by omega))) | ((with_reducible apply Bx.below); assumption; omega) | ((with_reducible apply Own.grownS); assumption; omega) | ((with_reducible apply Bx.ex); assumption) | ((with_reducible apply IntsK.ex); assumption) | ((with_reducible apply Own.ex); assumption) | ((with_reducible apply Prs.ex); assumption))); done)))))
      | (refine W_callv (part_any _ _ _) rfl (fun wq he => ?_); have hsz := he.size)
      | ((with_reducible (show C _ _ _ _ _)); clear tk1; refine c_loopG (fun (k : Nat) ps wr => ∃ b4 : Nat, ∃ b5 : Nat, ∃ b6 : Nat, ∃ b7 : Nat, ∃ i : Int, ps = [(4, .pointer (some ⟨b4, 0, none⟩)), (5, .pointer (some ⟨b5, 0, none⟩)), (6, .pointer (some ⟨b6, 0, none⟩)), (7, .pointer (some ⟨b7, 0, none⟩)), (17, v), (18, .int .i64 l.length), (19, .int .i64 i)] ∧ i = k ∧ k ≤ l.length ∧ (w.heap.size ≤ b4 ∧ b4 < b5 ∧ b5 < b6 ∧ b6 < b7) ∧ Bx wr b4 [.int .i64 g.1, .int .i64 g.2] 24 ∧ Bx wr b5 [.int .i64 o.1, .int .i64 o.2] 24 ∧ Bx wr b6 [.int .i64 0, .int .i64 0] 24 ∧ Bx wr b7 [.int .i64 (offF l g o k), .int .i64 (g.2 * o.2)] 24 ∧ (0 ≤ offF l g o k ∧ offF l g o k ≤ 20000) ∧ Ex w wr) (fun k => l.length - k) 0 _ ⟨_, _, _, _, _, rfl, rfl, Nat.zero_le _, (by omega), (by repeat (first | assumption | ((with_reducible apply OwnR.grownS); assumption; omega) | ((with_reducible apply Row.ex); assumption) | ((with_reducible apply OwnR.ex); assumption) | ((with_reducible apply Bx.grownS); assumption; (first | omega | exact Bx.ne (by assumption) (by omega))) | ((with_reducible apply Bx.below); assumption; omega) | ((with_reducible apply Own.grownS); assumption; omega) | ((with_reducible apply Bx.ex); assumption) | ((with_reducible apply IntsK.ex); assumption) | ((with_reducible apply Own.ex); assumption) | ((with_reducible apply Prs.ex); assumption))), (by repeat (first | assumption | ((with_reducible apply OwnR.grownS); assumption; omega) | ((with_reducible apply Row.ex); assumption) | ((with_reducible apply OwnR.ex); assumption) | ((with_reducible apply Bx.grownS); assumption; (first | omega | exact Bx.ne (by assumption) (by omega))) | ((with_reducible apply Bx.below); assumption; omega) | ((with_reducible apply Own.grownS); assumption; omega) | ((with_reducible apply Bx.ex); assumption) | ((with_reducible apply IntsK.ex); assumption) | ((with_reducible apply Own.ex); assumption) | ((with_reducible apply Prs.ex); assumption))), (by repeat (first | assumption | ((with_reducible apply OwnR.grownS); assumption; omega) | ((with_reducible apply Row.ex); assumption) | ((with_reducible apply OwnR.ex); assumption) | ((with_reducible apply Bx.grownS); assumption; (first | omega | exact Bx.ne (by assumption) (by omega))) | ((with_reducible apply Bx.below); assumption; omega) | ((with_reducible apply Own.grownS); assumption; omega) | ((with_reducible apply Bx.ex); assumption) | ((with_reducible apply IntsK.ex); assumption) | ((with_reducible apply Own.ex); assumption) | ((with_reducible apply Prs.ex); assumption))), (by repeat (first | assumption | ((with_reducible apply OwnR.grownS); assumption; omega) | ((with_reducible apply Row.ex); assumption) | ((with_reducible apply OwnR.ex); assumption) | ((with_reducible apply Bx.grownS); assumption; (first | omega | exact Bx.ne (by assumption) (by omega))) | ((with_reducible apply Bx.below); assumption; omega) | ((with_reducible apply Own.grownS); assumption; omega) | ((with_reducible apply Bx.ex); assumption) | ((with_reducible apply IntsK.ex); assumption) | ((with_reducible apply Own.ex); assumption) | ((with_reducible apply Prs.ex); assumption))), (by unfold offF; omega), (by repeat (first | assumption | exact Ex.refl _ | (refine Ex.trans ?_ (by assumption)) | (refine Ex.of_grown ?_ (by assumption) (by intro k hk; cases hk; omega))))⟩ ⟨rfl, rfl, rfl, rfl, rfl, rfl, rfl, trivial⟩ (by ((conv => lhs; whnf) <;> exact rfl)) ?_; rintro J hJ k u ps wr ⟨b4, b5, b6, b7, i, rfl, rfl, hk, hbs, hx4, hx5, hx6, hx7, hd, he⟩; have hsz := he.size; have tkA : True := trivial)
      | ((with_reducible (show Exit.then _ _ _ _ _)); refine n_roundG (k + 1) (hJ _ _ _ _ ⟨_, _, _, _, _, rfl, by omega, by omega, hbs, (by repeat (first | assumption | ((with_reducible apply OwnR.grownS); assumption; omega) | ((with_reducible apply Row.ex); assumption) | ((with_reducible apply OwnR.ex); assumption) | ((with_reducible apply Bx.grownS); assumption; (first | omega | exact Bx.ne (by assumption) (by omega))) | ((with_reducible apply Bx.below); assumption; omega) | ((with_reducible apply Own.grownS); assumption; omega) | ((with_reducible apply Bx.ex); assumption) | ((with_reducible apply IntsK.ex); assumption) | ((with_reducible apply Own.ex); assumption) | ((with_reducible apply Prs.ex); assumption))), (by repeat (first | assumption | ((with_reducible apply OwnR.grownS); assumption; omega) | ((with_reducible apply Row.ex); assumption) | ((with_reducible apply OwnR.ex); assumption) | ((with_reducible apply Bx.grownS); assumption; (first | omega | exact Bx.ne (by assumption) (by omega))) | ((with_reducible apply Bx.below); assumption; omega) | ((with_reducible apply Own.grownS); assumption; omega) | ((with_reducible apply Bx.ex); assumption) | ((with_reducible apply IntsK.ex); assumption) | ((with_reducible apply Own.ex); assumption) | ((with_reducible apply Prs.ex); assumption))), (by repeat (first | assumption | ((with_reducible apply OwnR.grownS); assumption; omega) | ((with_reducible apply Row.ex); assumption) | ((with_reducible apply OwnR.ex); assumption) | ((with_reducible apply Bx.grownS); assumption; (first | omega | exact Bx.ne (by assumption) (by omega))) | ((with_reducible apply Bx.below); assumption; omega) | ((with_reducible apply Own.grownS); assumption; omega) | ((with_reducible apply Bx.ex); assumption) | ((with_reducible apply IntsK.ex); assumption) | ((with_reducible apply Own.ex); assumption) | ((with_reducible apply Prs.ex); assumption))), (by repeat (first | assumption | ((with_reducible apply OwnR.grownS); assumption; omega) | ((with_reducible apply Row.ex); assumption) | ((with_reducible apply OwnR.ex); assumption) | ((with_reducible apply Bx.grownS); assumption; (first | omega | exact Bx.ne (by assumption) (by omega))) | ((with_reducible apply Bx.below); assumption; omega) | ((with_reducible apply Own.grownS); assumption; omega) | ((with_reducible apply Bx.ex); assumption) | ((with_reducible apply IntsK.ex); assumption) | ((with_reducible apply Own.ex); assumption) | ((with_reducible apply Prs.ex); assumption))), (by simp only [offF]; unfold loudL; omega), (by repeat (first | assumption | exact Ex.refl _ | (refine Ex.trans ?_ (by assumption)) | (refine Ex.of_grown ?_ (by assumption) (by intro k hk; cases hk; omega))))⟩ ⟨rfl, rfl, rfl, rfl, rfl, rfl, rfl, trivial⟩ rfl) (by omega))
      | (with_reducible apply W_nil)
      | ((with_reducible apply W_box); exact rfl; exact rfl; intro bq wq hbq he hnq; have hltq := Bx.lt hbq; have hsz := he.size)
      | ((with_reducible apply W_alloc); exact rfl; intro bq wq hbq he hnq; have hltq := Bx.lt hbq; have hsz := he.size)
      | ((with_reducible apply W_indexInt); ((conv => lhs; whnf) <;> exact rfl); (focus ((repeat (first | assumption | ((with_reducible apply OwnR.grownS); assumption; omega) | ((with_reducible apply Row.ex); assumption) | ((with_reducible apply OwnR.ex); assumption) | ((with_reducible apply Bx.grownS); assumption; (first | omega | exact Bx.ne (by assumption) (by omega))) | ((with_reducible apply Bx.below); assumption; omega) | ((with_reducible apply Own.grownS); assumption; omega) | ((with_reducible apply Bx.ex); assumption) | ((with_reducible apply IntsK.ex); assumption) | ((with_reducible apply Own.ex); assumption) | ((with_reducible apply Prs.ex); assumption))); done)); exact rfl; omega; intro pq hpq)
      | ((with_reducible apply W_indexIntss); ((conv => lhs; whnf) <;> exact rfl); assumption; (focus ((repeat (first | assumption | exact Ex.refl _ | (refine Ex.trans ?_ (by assumption)) | (refine Ex.of_grown ?_ (by assumption) (by intro k hk; cases hk; omega)))); done)); exact rfl; omega; intro pq uq hpq huq)
      | ((with_reducible apply W_indexPr); ((conv => lhs; whnf) <;> exact rfl); (focus ((repeat (first | assumption | ((with_reducible apply OwnR.grownS); assumption; omega) | ((with_reducible apply Row.ex); assumption) | ((with_reducible apply OwnR.ex); assumption) | ((with_reducible apply Bx.grownS); assumption; (first | omega | exact Bx.ne (by assumption) (by omega))) | ((with_reducible apply Bx.below); assumption; omega) | ((with_reducible apply Own.grownS); assumption; omega) | ((with_reducible apply Bx.ex); assumption) | ((with_reducible apply IntsK.ex); assumption) | ((with_reducible apply Own.ex); assumption) | ((with_reducible apply Prs.ex); assumption))); done)); exact rfl; omega; intro pq hpq)
      | ((with_reducible apply W_storeA); exact rfl; (focus ((repeat (first | assumption | ((with_reducible apply Bx.grownS); assumption; (first | omega | exact Bx.ne (by assumption) (by omega))) | ((with_reducible apply Bx.below); assumption; omega) | ((with_reducible apply Bx.ex); assumption))); done)); exact rfl; exact rfl; exact rfl; (repeat' (first | exact trivial | (first | exact rfl | assumption | exact IntsK.one (by assumption) | exact Prs.one (by assumption) | exact Own.one (by assumption) | exact Row.one (by assumption) | exact OwnR.one (by assumption)) | constructor)); intro wq hbq hgq; have he : Ex w wq := (by repeat (first | assumption | exact Ex.refl _ | (refine Ex.trans ?_ (by assumption)) | (refine Ex.of_grown ?_ (by assumption) (by intro k hk; cases hk; omega)))); have hsz := he.size; have hgz := hgq.size)
      | ((with_reducible apply W_store); exact rfl; (focus ((repeat (first | assumption | ((with_reducible apply Bx.grownS); assumption; (first | omega | exact Bx.ne (by assumption) (by omega))) | ((with_reducible apply Bx.below); assumption; omega) | ((with_reducible apply Bx.ex); assumption))); done)); exact Nat.le_of_ble_eq_true rfl; ((conv => lhs; whnf) <;> exact rfl); (first | exact rfl | assumption | exact IntsK.one (by assumption) | exact Prs.one (by assumption) | exact Own.one (by assumption) | exact Row.one (by assumption) | exact OwnR.one (by assumption)); simp only [lset]; intro wq hbq hgq; have he : Ex w wq := (by repeat (first | assumption | exact Ex.refl _ | (refine Ex.trans ?_ (by assumption)) | (refine Ex.of_grown ?_ (by assumption) (by intro k hk; cases hk; omega)))); have hsz := he.size; have hgz := hgq.size)
      | (with_reducible apply c_seq)
      | (with_reducible apply c_region)
      | (with_reducible apply c_block)
      | (with_reducible apply c_skip)
      | (with_reducible apply c_ret)
      | (with_reducible apply c_exit)
      | ((with_reducible apply c_cond_true); exact rfl)
      | ((with_reducible apply c_cond_false); exact rfl)
      | ((with_reducible apply c_cond_dec); exact rfl; intro _; rotate_left 1; intro _)
      | ((with_reducible apply c_cond_bool); exact rfl; intro _; rotate_left 1; intro _)
      | (with_reducible apply n_then)
      | (with_reducible apply n_block)
      | (with_reducible apply e_then)
      | (with_reducible apply e_block)
      | (with_reducible apply r_then)
      | (with_reducible apply r_block)
      | ((with_reducible apply e_block'); decide)
      | ((with_reducible apply p_retc); exact rfl; exact inferInstance; exact inferInstance; exact rfl; (focus ((repeat (first | assumption | ((with_reducible apply Bx.grownS); assumption; (first | omega | exact Bx.ne (by assumption) (by omega))) | ((with_reducible apply Bx.below); assumption; omega) | ((with_reducible apply Bx.ex); assumption))); done)); exact rfl; refine ⟨_, rfl, ?_, (by repeat (first | assumption | exact Ex.refl _ | (refine Ex.trans ?_ (by assumption)) | (refine Ex.of_grown ?_ (by assumption) (by intro k hk; cases hk; omega))))⟩)
      | ((with_reducible apply p_retct); exact rfl; exact inferInstance; exact inferInstance; exact rfl; (focus ((repeat (first | assumption | ((with_reducible apply Bx.grownS); assumption; (first | omega | exact Bx.ne (by assumption) (by omega))) | ((with_reducible apply Bx.below); assumption; omega) | ((with_reducible apply Bx.ex); assumption))); done)); exact rfl; exact rfl; refine ⟨_, rfl, ?_, (by repeat (first | assumption | exact Ex.refl _ | (refine Ex.trans ?_ (by assumption)) | (refine Ex.of_grown ?_ (by assumption) (by intro k hk; cases hk; omega))))⟩)
      | ((exfalso; omega)))
  all_goals first | (rw [show l.length = k by omega]; exact ⟨rfl, hd.2⟩) | skip
theorem proof1_any (v vp : Value) (l : List T3) (i : Nat) (w : World) (h : Row cC 3 w v l) (hsm : smallL l) (hi : i < l.length) (hc : Ints w vp [(i : Int)]) : Ret Try.prog 28 [v, vp] w fun r _ => r = v2 ((l.getD i cD).2.2 - (l.getD i cD).2.1, 1) := by
  have hv1 := h.one
  have hvp := hc.one
  have hci := hsm.2.1 i hi
  refine ret_of_c Try.func28 rfl Try.ntmps28 (Nat.le_of_ble_eq_true rfl) (by dsimp only [ini, Nat.reduceAdd] <;> exact rfl) ?_
  repeat' (first
      | (refine W_indexInt (i := 0) (xs := [(i : Int)]) rfl (IntsK.ex (by repeat (first | exact Ex.refl _ | assumption | (refine Ex.of_grown ?_ (by assumption) (by intro k hk; cases hk; omega)) | (refine Ex.trans ?_ (by assumption)))) hc) rfl (by simp) ?_; intro pq hpq)
      | (refine W_indexRw (f := cC) (n := 3) (v := v) (xs := l) (i := i) cD cC_len (by decide) rfl (Row.ex (by repeat (first | exact Ex.refl _ | assumption | (refine Ex.of_grown ?_ (by assumption) (by intro k hk; cases hk; omega)) | (refine Ex.trans ?_ (by assumption)))) h) rfl (by omega) ?_; intro pb po hpc; (have hpc3 : Cells _ ⟨pb, po, none⟩ [_, _, _] := hpc))
      | ((with_reducible apply W_op); exact rfl; exact rfl; exact r_lenN (v := vp) (n := 1) rfl (IntsK.ex (by repeat (first | exact Ex.refl _ | assumption | (refine Ex.of_grown ?_ (by assumption) (by intro k hk; cases hk; omega)) | (refine Ex.trans ?_ (by assumption)))) hc) rfl)
      | ((first | ((with_reducible apply W_op); exact rfl; exact rfl) | ((with_reducible apply WQ_op); exact rfl; exact rfl; intro wq he) | ((with_reducible apply WM_op); exact rfl; exact rfl; intro wq he) | ((with_reducible apply WB_op); exact rfl; exact rfl; intro wq)); (first | ((with_reducible apply r_indexArr); exact rfl; exact rfl; omega) | (exact r_indexArr (i := 0) rfl rfl (by decide)) | (exact r_indexArr (i := 1) rfl rfl (by decide)) | (exact r_indexArr (i := 2) rfl rfl (by decide)) | ((with_reducible apply r_move); ((conv => lhs; whnf) <;> exact rfl)) | ((with_reducible apply r_assign); ((conv => lhs; whnf) <;> exact rfl)) | ((with_reducible apply r_fieldAddr); exact rfl) | ((with_reducible apply r_load); exact rfl; exact rfl; (first | assumption | exact (Bx.cell (by repeat (first | assumption | ((with_reducible apply Bx.grownS); assumption; (first | omega | exact Bx.ne (by assumption) (by omega))) | ((with_reducible apply Bx.below); assumption; omega) | ((with_reducible apply Bx.ex); assumption))) _).trans rfl | exact Ex.cell (by assumption) (by assumption))) | ((with_reducible apply r_loadF); exact rfl; (first | assumption | exact (Bx.cell (by repeat (first | assumption | ((with_reducible apply Bx.grownS); assumption; (first | omega | exact Bx.ne (by assumption) (by omega))) | ((with_reducible apply Bx.below); assumption; omega) | ((with_reducible apply Bx.ex); assumption))) _).trans rfl | exact Ex.cell (by assumption) (by assumption))) | ((with_reducible apply r_loadA); exact rfl; (first | assumption | exact Bx.cells (by repeat (first | assumption | ((with_reducible apply Bx.grownS); assumption; (first | omega | exact Bx.ne (by assumption) (by omega))) | ((with_reducible apply Bx.below); assumption; omega) | ((with_reducible apply Bx.ex); assumption))) | exact Cells.ex (by assumption) (by assumption)); exact rfl) | ((with_reducible apply r_eql); exact rfl; exact rfl) | ((with_reducible apply r_add); exact rfl; exact rfl; omega) | ((with_reducible apply r_sub); exact rfl; exact rfl; omega) | ((with_reducible apply r_len); exact rfl) | ((with_reducible apply r_lenStr); exact rfl) | ((with_reducible apply r_lenInts); ((conv => lhs; whnf) <;> exact rfl); (focus ((repeat (first | assumption | ((with_reducible apply OwnR.grownS); assumption; omega) | ((with_reducible apply Row.ex); assumption) | ((with_reducible apply OwnR.ex); assumption) | ((with_reducible apply Bx.grownS); assumption; (first | omega | exact Bx.ne (by assumption) (by omega))) | ((with_reducible apply Bx.below); assumption; omega) | ((with_reducible apply Own.grownS); assumption; omega) | ((with_reducible apply Bx.ex); assumption) | ((with_reducible apply IntsK.ex); assumption) | ((with_reducible apply Own.ex); assumption) | ((with_reducible apply Prs.ex); assumption))); done))) | ((with_reducible apply r_lenPrs); ((conv => lhs; whnf) <;> exact rfl); (focus ((repeat (first | assumption | ((with_reducible apply OwnR.grownS); assumption; omega) | ((with_reducible apply Row.ex); assumption) | ((with_reducible apply OwnR.ex); assumption) | ((with_reducible apply Bx.grownS); assumption; (first | omega | exact Bx.ne (by assumption) (by omega))) | ((with_reducible apply Bx.below); assumption; omega) | ((with_reducible apply Own.grownS); assumption; omega) | ((with_reducible apply Bx.ex); assumption) | ((with_reducible apply IntsK.ex); assumption) | ((with_reducible apply Own.ex); assumption) | ((with_reducible apply Prs.ex); assumption))); done))) | ((with_reducible apply r_mul); exact rfl; exact rfl; omega) | ((with_reducible apply r_eqlb); exact rfl; exact rfl) | ((with_reducible apply r_loadSub); exact rfl; (focus ((repeat (first | assumption | ((with_reducible apply Bx.grownS); assumption; (first | omega | exact Bx.ne (by assumption) (by omega))) | ((with_reducible apply Bx.below); assumption; omega) | ((with_reducible apply Bx.ex); assumption))); done)); ((simp only [Nat.add_zero, Nat.zero_add, Nat.reduceAdd, List.drop_zero, List.drop_succ_cons, List.take_succ_cons, List.take_zero]) <;> exact rfl); exact rfl) | ((with_reducible apply r_max2); exact rfl; exact rfl) | ((with_reducible apply r_lenR); ((conv => lhs; whnf) <;> exact rfl); (focus ((repeat (first | assumption | ((with_reducible apply OwnR.grownS); assumption; omega) | ((with_reducible apply Row.ex); assumption) | ((with_reducible apply OwnR.ex); assumption) | ((with_reducible apply Bx.grownS); assumption; (first | omega | exact Bx.ne (by assumption) (by omega))) | ((with_reducible apply Bx.below); assumption; omega) | ((with_reducible apply Own.grownS); assumption; omega) | ((with_reducible apply Bx.ex); assumption) | ((with_reducible apply IntsK.ex); assumption) | ((with_reducible apply Own.ex); assumption) | ((with_reducible apply Prs.ex); assumption))); done)))))
      | (refine W_callv (part_any _ _ _) rfl (fun wq he => ?_); have hsz := he.size)
      | (with_reducible apply W_nil)
      | ((with_reducible apply WQ_nil); exact rfl; intro wq he; have hsz := he.size)
      | (with_reducible apply WM_nil; intro wq he; have hsz := he.size)
      | (with_reducible apply WB_nil)
      | (with_reducible apply WT_nil)
      | (with_reducible apply WT_cons)
      | (with_reducible apply t_sink)
      | ((with_reducible apply t_keep); (focus ((repeat (first | assumption | exact Ex.refl _ | (refine Ex.trans ?_ (by assumption)) | (refine Ex.of_grown ?_ (by assumption) (by intro k hk; cases hk; omega)))); done)); intro wq he; have hsz := he.size)
      | ((with_reducible apply W_alloc); exact rfl; intro bq wq hbq he hnq; have hltq := Bx.lt hbq; have hsz := he.size)
      | ((with_reducible apply W_indexInt); ((conv => lhs; whnf) <;> exact rfl); (focus ((repeat (first | assumption | ((with_reducible apply OwnR.grownS); assumption; omega) | ((with_reducible apply Row.ex); assumption) | ((with_reducible apply OwnR.ex); assumption) | ((with_reducible apply Bx.grownS); assumption; (first | omega | exact Bx.ne (by assumption) (by omega))) | ((with_reducible apply Bx.below); assumption; omega) | ((with_reducible apply Own.grownS); assumption; omega) | ((with_reducible apply Bx.ex); assumption) | ((with_reducible apply IntsK.ex); assumption) | ((with_reducible apply Own.ex); assumption) | ((with_reducible apply Prs.ex); assumption))); done)); exact rfl; omega; intro pq hpq)
      | ((with_reducible apply W_indexIntss); ((conv => lhs; whnf) <;> exact rfl); assumption; (focus ((repeat (first | assumption | exact Ex.refl _ | (refine Ex.trans ?_ (by assumption)) | (refine Ex.of_grown ?_ (by assumption) (by intro k hk; cases hk; omega)))); done)); exact rfl; omega; intro pq uq hpq huq)
      | ((with_reducible apply WQ_indexInt); ((conv => lhs; whnf) <;> exact rfl); (focus ((repeat (first | assumption | ((with_reducible apply OwnR.grownS); assumption; omega) | ((with_reducible apply Row.ex); assumption) | ((with_reducible apply OwnR.ex); assumption) | ((with_reducible apply Bx.grownS); assumption; (first | omega | exact Bx.ne (by assumption) (by omega))) | ((with_reducible apply Bx.below); assumption; omega) | ((with_reducible apply Own.grownS); assumption; omega) | ((with_reducible apply Bx.ex); assumption) | ((with_reducible apply IntsK.ex); assumption) | ((with_reducible apply Own.ex); assumption) | ((with_reducible apply Prs.ex); assumption))); done)); exact rfl; omega; intro pq hpq)
      | ((with_reducible apply WQ_indexIntss); ((conv => lhs; whnf) <;> exact rfl); assumption; (focus ((repeat (first | assumption | exact Ex.refl _ | (refine Ex.trans ?_ (by assumption)) | (refine Ex.of_grown ?_ (by assumption) (by intro k hk; cases hk; omega)))); done)); exact rfl; omega; intro pq uq hpq huq)
      | ((with_reducible apply WM_indexInt); ((conv => lhs; whnf) <;> exact rfl); (focus ((repeat (first | assumption | ((with_reducible apply OwnR.grownS); assumption; omega) | ((with_reducible apply Row.ex); assumption) | ((with_reducible apply OwnR.ex); assumption) | ((with_reducible apply Bx.grownS); assumption; (first | omega | exact Bx.ne (by assumption) (by omega))) | ((with_reducible apply Bx.below); assumption; omega) | ((with_reducible apply Own.grownS); assumption; omega) | ((with_reducible apply Bx.ex); assumption) | ((with_reducible apply IntsK.ex); assumption) | ((with_reducible apply Own.ex); assumption) | ((with_reducible apply Prs.ex); assumption))); done)); exact rfl; omega; intro pq hpq)
      | ((with_reducible apply WM_indexIntss); ((conv => lhs; whnf) <;> exact rfl); assumption; (focus ((repeat (first | assumption | exact Ex.refl _ | (refine Ex.trans ?_ (by assumption)) | (refine Ex.of_grown ?_ (by assumption) (by intro k hk; cases hk; omega)))); done)); exact rfl; omega; intro pq uq hpq huq)
      | ((with_reducible apply W_indexPr); ((conv => lhs; whnf) <;> exact rfl); (focus ((repeat (first | assumption | ((with_reducible apply OwnR.grownS); assumption; omega) | ((with_reducible apply Row.ex); assumption) | ((with_reducible apply OwnR.ex); assumption) | ((with_reducible apply Bx.grownS); assumption; (first | omega | exact Bx.ne (by assumption) (by omega))) | ((with_reducible apply Bx.below); assumption; omega) | ((with_reducible apply Own.grownS); assumption; omega) | ((with_reducible apply Bx.ex); assumption) | ((with_reducible apply IntsK.ex); assumption) | ((with_reducible apply Own.ex); assumption) | ((with_reducible apply Prs.ex); assumption))); done)); exact rfl; omega; intro pq hpq)
      | ((with_reducible apply WQ_indexPr); ((conv => lhs; whnf) <;> exact rfl); (focus ((repeat (first | assumption | ((with_reducible apply OwnR.grownS); assumption; omega) | ((with_reducible apply Row.ex); assumption) | ((with_reducible apply OwnR.ex); assumption) | ((with_reducible apply Bx.grownS); assumption; (first | omega | exact Bx.ne (by assumption) (by omega))) | ((with_reducible apply Bx.below); assumption; omega) | ((with_reducible apply Own.grownS); assumption; omega) | ((with_reducible apply Bx.ex); assumption) | ((with_reducible apply IntsK.ex); assumption) | ((with_reducible apply Own.ex); assumption) | ((with_reducible apply Prs.ex); assumption))); done)); exact rfl; omega; intro pq hpq)
      | ((with_reducible apply W_storeA); exact rfl; (focus ((repeat (first | assumption | ((with_reducible apply Bx.grownS); assumption; (first | omega | exact Bx.ne (by assumption) (by omega))) | ((with_reducible apply Bx.below); assumption; omega) | ((with_reducible apply Bx.ex); assumption))); done)); exact rfl; exact rfl; exact rfl; (repeat' (first | exact trivial | (first | exact rfl | assumption | exact IntsK.one (by assumption) | exact Prs.one (by assumption) | exact Own.one (by assumption) | exact Row.one (by assumption) | exact OwnR.one (by assumption)) | constructor)); intro wq hbq hgq; have he : Ex w wq := (by repeat (first | assumption | exact Ex.refl _ | (refine Ex.trans ?_ (by assumption)) | (refine Ex.of_grown ?_ (by assumption) (by intro k hk; cases hk; omega)))); have hsz := he.size; have hgz := hgq.size)
      | ((with_reducible apply W_store); exact rfl; (focus ((repeat (first | assumption | ((with_reducible apply Bx.grownS); assumption; (first | omega | exact Bx.ne (by assumption) (by omega))) | ((with_reducible apply Bx.below); assumption; omega) | ((with_reducible apply Bx.ex); assumption))); done)); exact Nat.le_of_ble_eq_true rfl; ((conv => lhs; whnf) <;> exact rfl); (first | exact rfl | assumption | exact IntsK.one (by assumption) | exact Prs.one (by assumption) | exact Own.one (by assumption) | exact Row.one (by assumption) | exact OwnR.one (by assumption)); simp only [lset]; intro wq hbq hgq; have he : Ex w wq := (by repeat (first | assumption | exact Ex.refl _ | (refine Ex.trans ?_ (by assumption)) | (refine Ex.of_grown ?_ (by assumption) (by intro k hk; cases hk; omega)))); have hsz := he.size; have hgz := hgq.size)
      | ((with_reducible apply c_quiet); kernel_rfl)
      | (with_reducible apply c_seq)
      | (with_reducible apply c_region)
      | (with_reducible apply c_skip)
      | (with_reducible apply c_ret)
      | ((with_reducible apply c_cond_true); exact rfl)
      | ((with_reducible apply c_cond_false); exact rfl)
      | ((with_reducible apply c_cond_dec); exact rfl; intro _; rotate_left 1; intro _)
      | ((with_reducible apply c_cond_bool); exact rfl; intro _; rotate_left 1; intro _)
      | (with_reducible apply n_then)
      | (with_reducible apply e_then)
      | (with_reducible apply r_then)
      | ((with_reducible apply p_retc); exact rfl; exact inferInstance; exact inferInstance; exact rfl; (focus ((repeat (first | assumption | ((with_reducible apply Bx.grownS); assumption; (first | omega | exact Bx.ne (by assumption) (by omega))) | ((with_reducible apply Bx.below); assumption; omega) | ((with_reducible apply Bx.ex); assumption))); done)); exact rfl; refine ⟨_, rfl, ?_, (by repeat (first | assumption | exact Ex.refl _ | (refine Ex.trans ?_ (by assumption)) | (refine Ex.of_grown ?_ (by assumption) (by intro k hk; cases hk; omega))))⟩)
      | ((with_reducible apply p_retct); exact rfl; exact inferInstance; exact inferInstance; exact rfl; (focus ((repeat (first | assumption | ((with_reducible apply Bx.grownS); assumption; (first | omega | exact Bx.ne (by assumption) (by omega))) | ((with_reducible apply Bx.below); assumption; omega) | ((with_reducible apply Bx.ex); assumption))); done)); exact rfl; exact rfl; refine ⟨_, rfl, ?_, (by repeat (first | assumption | exact Ex.refl _ | (refine Ex.trans ?_ (by assumption)) | (refine Ex.of_grown ?_ (by assumption) (by intro k hk; cases hk; omega))))⟩)
      | ((exfalso; omega)))
  all_goals first | rfl | skip
theorem proof3_any (v vp : Value) (l : List T3) (i j k : Nat) (w : World) (h : Row cC 3 w v l) (hsm : smallL l) (hij : i < j) (hjk : j < k) (hk : k < l.length) (hc : Ints w vp [(i : Int), (j : Int), (k : Int)]) : Ret Try.prog 28 [v, vp] w fun r _ => r = v2 (dblL l (i, j, k)) := by
  have hv1 := h.one
  have hvp := hc.one
  have hci := hsm.2.1 i (by omega)
  have hcj := hsm.2.1 j (by omega)
  have hck := hsm.2.1 k hk
  have s1 := hsm.2.2 i j hij (by omega)
  have s2 := hsm.2.2 j k hjk hk
  obtain ⟨a, ha⟩ : ∃ a, a = l.getD i cD := ⟨_, rfl⟩
  obtain ⟨b, hb⟩ : ∃ b, b = l.getD j cD := ⟨_, rfl⟩
  obtain ⟨c, hcc⟩ : ∃ c, c = l.getD k cD := ⟨_, rfl⟩
  rw [← ha] at hci s1
  rw [← hb] at hcj s1 s2
  rw [← hcc] at hck s2
  obtain ⟨e1, e2, e3, e4, e5, e6⟩ := law_bd hci hcj hck s1 s2
  obtain ⟨ax, capx, hvpe, hxc⟩ := Ints.at3 hc (i := 0) (by simp)
  obtain ⟨ay, capy, hve, hyc⟩ := Row.at3 h (by omega)
  have hcb : Cells w (ay.add (j * 3)) (cC b) := by rw [hb]; exact hyc j (by omega)
  have hcx : Cells w (ay.add (k * 3)) (cC c) := by rw [hcc]; exact hyc k hk
  refine ret_of_c Try.func28 rfl Try.ntmps28 (Nat.le_of_ble_eq_true rfl) (by dsimp only [ini, Nat.reduceAdd] <;> exact rfl) ?_
  repeat' (first
      | (refine W_indexInt (i := 0) (xs := [(i : Int), (j : Int), (k : Int)]) rfl (IntsK.ex (by repeat (first | exact Ex.refl _ | assumption | (refine Ex.of_grown ?_ (by assumption) (by intro k hk; cases hk; omega)) | (refine Ex.trans ?_ (by assumption)))) hc) rfl (by simp) ?_; intro pq hpq)
      | (refine W_indexRw (f := cC) (n := 3) (v := v) (xs := l) (i := i) cD cC_len (by decide) rfl (Row.ex (by repeat (first | exact Ex.refl _ | assumption | (refine Ex.of_grown ?_ (by assumption) (by intro k hk; cases hk; omega)) | (refine Ex.trans ?_ (by assumption)))) h) rfl (by omega) ?_; rw [← ha]; intro pb po hpc; (have hpc3 : Cells _ ⟨pb, po, none⟩ [_, _, _] := hpc))
      | ((with_reducible apply WMR_op); exact rfl; exact rfl; (intro wq hkb; (with_reducible apply r_indexAddr (i := 1)); exact Eq.trans (show _ = vp from rfl) hvpe; exact rfl; simp))
      | ((with_reducible apply WMR_op); exact rfl; exact rfl; (intro wq hkb; (with_reducible apply r_indexAddr (i := 2)); exact Eq.trans (show _ = vp from rfl) hvpe; exact rfl; simp))
      | ((with_reducible apply WMR_op); exact rfl; exact rfl; (intro wq hkb; (with_reducible apply r_indexAddr (i := j)); exact Eq.trans (show _ = v from rfl) hve; exact rfl; omega))
      | ((with_reducible apply WMR_op); exact rfl; exact rfl; (intro wq hkb; (with_reducible apply r_indexAddr (i := k)); exact Eq.trans (show _ = v from rfl) hve; exact rfl; omega))
      | ((with_reducible apply WMR_op); exact rfl; exact rfl; (intro wq hkb; (with_reducible apply r_load); exact rfl; exact rfl; exact Ex.cell (Ex.tb he (Below.mono (hkb rfl) (by omega))) (hxc 1 (by simp))))
      | ((with_reducible apply WMR_op); exact rfl; exact rfl; (intro wq hkb; (with_reducible apply r_load); exact rfl; exact rfl; exact Ex.cell (Ex.tb he (Below.mono (hkb rfl) (by omega))) (hxc 2 (by simp))))
      | ((with_reducible apply WMR_op); exact rfl; exact rfl; (intro wq hkb; (with_reducible apply r_loadA); exact rfl; exact Cells.ex (Ex.tb he (Below.mono (hkb rfl) (by omega))) hcb; exact rfl))
      | ((with_reducible apply WMR_op); exact rfl; exact rfl; (intro wq hkb; (with_reducible apply r_loadA); exact rfl; exact Cells.ex (Ex.tb he (Below.mono (hkb rfl) (by omega))) hcx; exact rfl))
      | ((first | ((with_reducible apply W_op); exact rfl; exact rfl) | ((with_reducible apply WQ_op); exact rfl; exact rfl; intro wq he) | ((with_reducible apply WM_op); exact rfl; exact rfl; intro wq he) | ((with_reducible apply WB_op); exact rfl; exact rfl; intro wq)); (first | ((with_reducible apply r_indexArr); exact rfl; exact rfl; omega) | (exact r_indexArr (i := 0) rfl rfl (by decide)) | (exact r_indexArr (i := 1) rfl rfl (by decide)) | (exact r_indexArr (i := 2) rfl rfl (by decide)) | ((with_reducible apply r_move); ((conv => lhs; whnf) <;> exact rfl)) | ((with_reducible apply r_assign); ((conv => lhs; whnf) <;> exact rfl)) | ((with_reducible apply r_fieldAddr); exact rfl) | ((with_reducible apply r_load); exact rfl; exact rfl; (first | assumption | exact (Bx.cell (by repeat (first | assumption | ((with_reducible apply Bx.grownS); assumption; (first | omega | exact Bx.ne (by assumption) (by omega))) | ((with_reducible apply Bx.below); assumption; omega) | ((with_reducible apply Bx.ex); assumption))) _).trans rfl | exact Ex.cell (by assumption) (by assumption))) | ((with_reducible apply r_loadF); exact rfl; (first | assumption | exact (Bx.cell (by repeat (first | assumption | ((with_reducible apply Bx.grownS); assumption; (first | omega | exact Bx.ne (by assumption) (by omega))) | ((with_reducible apply Bx.below); assumption; omega) | ((with_reducible apply Bx.ex); assumption))) _).trans rfl | exact Ex.cell (by assumption) (by assumption))) | ((with_reducible apply r_loadA); exact rfl; (first | assumption | exact Bx.cells (by repeat (first | assumption | ((with_reducible apply Bx.grownS); assumption; (first | omega | exact Bx.ne (by assumption) (by omega))) | ((with_reducible apply Bx.below); assumption; omega) | ((with_reducible apply Bx.ex); assumption))) | exact Cells.ex (by assumption) (by assumption)); exact rfl) | ((with_reducible apply r_eql); exact rfl; exact rfl) | ((with_reducible apply r_add); exact rfl; exact rfl; omega) | ((with_reducible apply r_sub); exact rfl; exact rfl; omega) | ((with_reducible apply r_len); exact rfl) | ((with_reducible apply r_lenStr); exact rfl) | ((with_reducible apply r_lenInts); ((conv => lhs; whnf) <;> exact rfl); (focus ((repeat (first | assumption | ((with_reducible apply OwnR.grownS); assumption; omega) | ((with_reducible apply Row.ex); assumption) | ((with_reducible apply OwnR.ex); assumption) | ((with_reducible apply Bx.grownS); assumption; (first | omega | exact Bx.ne (by assumption) (by omega))) | ((with_reducible apply Bx.below); assumption; omega) | ((with_reducible apply Own.grownS); assumption; omega) | ((with_reducible apply Bx.ex); assumption) | ((with_reducible apply IntsK.ex); assumption) | ((with_reducible apply Own.ex); assumption) | ((with_reducible apply Prs.ex); assumption))); done))) | ((with_reducible apply r_lenPrs); ((conv => lhs; whnf) <;> exact rfl); (focus ((repeat (first | assumption | ((with_reducible apply OwnR.grownS); assumption; omega) | ((with_reducible apply Row.ex); assumption) | ((with_reducible apply OwnR.ex); assumption) | ((with_reducible apply Bx.grownS); assumption; (first | omega | exact Bx.ne (by assumption) (by omega))) | ((with_reducible apply Bx.below); assumption; omega) | ((with_reducible apply Own.grownS); assumption; omega) | ((with_reducible apply Bx.ex); assumption) | ((with_reducible apply IntsK.ex); assumption) | ((with_reducible apply Own.ex); assumption) | ((with_reducible apply Prs.ex); assumption))); done))) | ((with_reducible apply r_mul); exact rfl; exact rfl; omega) | ((with_reducible apply r_eqlb); exact rfl; exact rfl) | ((with_reducible apply r_loadSub); exact rfl; (focus ((repeat (first | assumption | ((with_reducible apply Bx.grownS); assumption; (first | omega | exact Bx.ne (by assumption) (by omega))) | ((with_reducible apply Bx.below); assumption; omega) | ((with_reducible apply Bx.ex); assumption))); done)); ((simp only [Nat.add_zero, Nat.zero_add, Nat.reduceAdd, List.drop_zero, List.drop_succ_cons, List.take_succ_cons, List.take_zero]) <;> exact rfl); exact rfl) | ((with_reducible apply r_max2); exact rfl; exact rfl) | ((with_reducible apply r_lenR); ((conv => lhs; whnf) <;> exact rfl); (focus ((repeat (first | assumption | ((with_reducible apply OwnR.grownS); assumption; omega) | ((with_reducible apply Row.ex); assumption) | ((with_reducible apply OwnR.ex); assumption) | ((with_reducible apply Bx.grownS); assumption; (first | omega | exact Bx.ne (by assumption) (by omega))) | ((with_reducible apply Bx.below); assumption; omega) | ((with_reducible apply Own.grownS); assumption; omega) | ((with_reducible apply Bx.ex); assumption) | ((with_reducible apply IntsK.ex); assumption) | ((with_reducible apply Own.ex); assumption) | ((with_reducible apply Prs.ex); assumption))); done)))))
      | (refine c_mixR (id := 4) (keepN (w.heap.size)) [2, 3, 4, 5, 8, 9, 10, 11] [0, 1, 2, 3, 4, 5, 6, 7, 8, 9, 10, 11] 4 #[true, true, true, true, true, true, true, true, true, true, true, true, false, false, false, false] [some false, some false, some true, some true, some true, some true, some false, some false, some true, some true, some true, some true, none, none, none, none] (by kernel_rfl) (by kernel_rfl) (by kernel_rfl) (by dsimp only [selT] <;> exact rfl) ?_)
      | (refine XTR_two (t := 12) (t' := 13) (s := false) (s' := false) (listed := #[true, true, true, true, true, true, true, true, true, true, true, true, false, false, false, false]) (l1 := #[true, true, true, true, true, true, true, true, true, true, true, true, true, false, false, false]) (l1' := #[true, true, true, true, true, true, true, true, true, true, true, true, false, true, false, false]) (by kernel_rfl) rfl rfl (by kernel_rfl) (by kernel_rfl) (by kernel_rfl) (by kernel_rfl) ?_ ?_)
      | (refine XTR_one (t := 13) (s := false) (listed := #[true, true, true, true, true, true, true, true, true, true, true, true, true, false, false, false]) (listed' := #[true, true, true, true, true, true, true, true, true, true, true, true, true, true, false, false]) (by kernel_rfl) rfl (by kernel_rfl) (by kernel_rfl) ?_)
      | (refine XTR_one (t := 12) (s := false) (listed := #[true, true, true, true, true, true, true, true, true, true, true, true, false, true, false, false]) (listed' := #[true, true, true, true, true, true, true, true, true, true, true, true, true, true, false, false]) (by kernel_rfl) rfl (by kernel_rfl) (by kernel_rfl) ?_)
      | (refine XTR_one (t := 14) (s := false) (listed := #[true, true, true, true, true, true, true, true, true, true, true, true, true, true, false, false]) (listed' := #[true, true, true, true, true, true, true, true, true, true, true, true, true, true, true, false]) (by kernel_rfl) rfl (by kernel_rfl) (by kernel_rfl) ?_)
      | (refine XTR_one (t := 15) (s := true) (listed := #[true, true, true, true, true, true, true, true, true, true, true, true, true, true, true, false]) (listed' := #[true, true, true, true, true, true, true, true, true, true, true, true, true, true, true, true]) (by kernel_rfl) rfl (by kernel_rfl) (by kernel_rfl) ?_)
      | ((with_reducible apply WMR_op); exact rfl; exact rfl; (intro wq hkb; (first | ((with_reducible apply r_indexArr); exact rfl; exact rfl; omega) | (exact r_indexArr (i := 0) rfl rfl (by decide)) | (exact r_indexArr (i := 1) rfl rfl (by decide)) | (exact r_indexArr (i := 2) rfl rfl (by decide)) | ((with_reducible apply r_move); ((conv => lhs; whnf) <;> exact rfl)) | ((with_reducible apply r_assign); ((conv => lhs; whnf) <;> exact rfl)) | ((with_reducible apply r_fieldAddr); exact rfl) | ((with_reducible apply r_load); exact rfl; exact rfl; (first | assumption | exact (Bx.cell (by repeat (first | assumption | ((with_reducible apply Bx.grownS); assumption; (first | omega | exact Bx.ne (by assumption) (by omega))) | ((with_reducible apply Bx.below); assumption; omega) | ((with_reducible apply Bx.ex); assumption))) _).trans rfl | exact Ex.cell (by assumption) (by assumption))) | ((with_reducible apply r_loadF); exact rfl; (first | assumption | exact (Bx.cell (by repeat (first | assumption | ((with_reducible apply Bx.grownS); assumption; (first | omega | exact Bx.ne (by assumption) (by omega))) | ((with_reducible apply Bx.below); assumption; omega) | ((with_reducible apply Bx.ex); assumption))) _).trans rfl | exact Ex.cell (by assumption) (by assumption))) | ((with_reducible apply r_loadA); exact rfl; (first | assumption | exact Bx.cells (by repeat (first | assumption | ((with_reducible apply Bx.grownS); assumption; (first | omega | exact Bx.ne (by assumption) (by omega))) | ((with_reducible apply Bx.below); assumption; omega) | ((with_reducible apply Bx.ex); assumption))) | exact Cells.ex (by assumption) (by assumption)); exact rfl) | ((with_reducible apply r_eql); exact rfl; exact rfl) | ((with_reducible apply r_add); exact rfl; exact rfl; omega) | ((with_reducible apply r_sub); exact rfl; exact rfl; omega) | ((with_reducible apply r_len); exact rfl) | ((with_reducible apply r_lenStr); exact rfl) | ((with_reducible apply r_lenInts); ((conv => lhs; whnf) <;> exact rfl); (focus ((repeat (first | assumption | ((with_reducible apply OwnR.grownS); assumption; omega) | ((with_reducible apply Row.ex); assumption) | ((with_reducible apply OwnR.ex); assumption) | ((with_reducible apply Bx.grownS); assumption; (first | omega | exact Bx.ne (by assumption) (by omega))) | ((with_reducible apply Bx.below); assumption; omega) | ((with_reducible apply Own.grownS); assumption; omega) | ((with_reducible apply Bx.ex); assumption) | ((with_reducible apply IntsK.ex); assumption) | ((with_reducible apply Own.ex); assumption) | ((with_reducible apply Prs.ex); assumption))); done))) | ((with_reducible apply r_lenPrs); ((conv => lhs; whnf) <;> exact rfl); (focus ((repeat (first | assumption | ((with_reducible apply OwnR.grownS); assumption; omega) | ((with_reducible apply Row.ex); assumption) | ((with_reducible apply OwnR.ex); assumption) | ((with_reducible apply Bx.grownS); assumption; (first | omega | exact Bx.ne (by assumption) (by omega))) | ((with_reducible apply Bx.below); assumption; omega) | ((with_reducible apply Own.grownS); assumption; omega) | ((with_reducible apply Bx.ex); assumption) | ((with_reducible apply IntsK.ex); assumption) | ((with_reducible apply Own.ex); assumption) | ((with_reducible apply Prs.ex); assumption))); done))) | ((with_reducible apply r_mul); exact rfl; exact rfl; omega) | ((with_reducible apply r_eqlb); exact rfl; exact rfl) | ((with_reducible apply r_loadSub); exact rfl; (focus ((repeat (first | assumption | ((with_reducible apply Bx.grownS); assumption; (first | omega | exact Bx.ne (by assumption) (by omega))) | ((with_reducible apply Bx.below); assumption; omega) | ((with_reducible apply Bx.ex); assumption))); done)); ((simp only [Nat.add_zero, Nat.zero_add, Nat.reduceAdd, List.drop_zero, List.drop_succ_cons, List.take_succ_cons, List.take_zero]) <;> exact rfl); exact rfl) | ((with_reducible apply r_max2); exact rfl; exact rfl) | ((with_reducible apply r_lenR); ((conv => lhs; whnf) <;> exact rfl); (focus ((repeat (first | assumption | ((with_reducible apply OwnR.grownS); assumption; omega) | ((with_reducible apply Row.ex); assumption) | ((with_reducible apply OwnR.ex); assumption) | ((with_reducible apply Bx.grownS); assumption; (first | omega | exact Bx.ne (by assumption) (by omega))) | ((with_reducible apply Bx.below); assumption; omega) | ((with_reducible apply Own.grownS); assumption; omega) | ((with_reducible apply Bx.ex); assumption) | ((with_reducible apply IntsK.ex); assumption) | ((with_reducible apply Own.ex); assumption) | ((with_reducible apply Prs.ex); assumption))); done))))))
      | ((with_reducible apply WMR_nil); intro wq he hszq; have hsz := he.size)
      | ((with_reducible apply XTR_nil); kernel_rfl)
      | (with_reducible apply xR_sink)
      | ((with_reducible apply xR_keep); first | exact (keepN _).refl _ | exact Below.mono (Ex.below he) (by omega) | exact (Below.refl _ _).grown hgq (by omega) (by intro k hk; cases hk; omega) | exact Below.mono hkn (by omega))
      | (refine c_mix (id := 5) [] [0, 1, 2, 3, 4, 5, 6, 7, 8, 9, 10] [11] [false, false, false, false, false, false, false, false, false, false, false, false] [true, true, true, true, true, true, true, true, true, true, true, false] [none, none, none, none, none, none, none, none, none, none, none, some true] (by kernel_rfl) (by kernel_rfl) (by kernel_rfl) (by kernel_rfl) (by kernel_rfl) (by kernel_rfl) (by dsimp only [sel] <;> exact rfl) (by dsimp only [sel] <;> exact rfl) (by dsimp only [selT] <;> exact rfl) ?_)
      | (refine W_callv (part_any _ _ _) rfl (fun wq he => ?_); have hsz := he.size)
      | (with_reducible apply W_nil)
      | ((with_reducible apply WQ_nil); exact rfl; intro wq he; have hsz := he.size)
      | (with_reducible apply WM_nil; intro wq he; have hsz := he.size)
      | (with_reducible apply WB_nil)
      | (with_reducible apply WT_nil)
      | (with_reducible apply WT_cons)
      | (with_reducible apply t_sink)
      | ((with_reducible apply t_keep); (focus ((repeat (first | assumption | exact Ex.refl _ | (refine Ex.trans ?_ (by assumption)) | (refine Ex.of_grown ?_ (by assumption) (by intro k hk; cases hk; omega)))); done)); intro wq he; have hsz := he.size)
      | ((with_reducible apply W_alloc); exact rfl; intro bq wq hbq he hnq; have hltq := Bx.lt hbq; have hsz := he.size)
      | ((with_reducible apply W_indexInt); ((conv => lhs; whnf) <;> exact rfl); (focus ((repeat (first | assumption | ((with_reducible apply OwnR.grownS); assumption; omega) | ((with_reducible apply Row.ex); assumption) | ((with_reducible apply OwnR.ex); assumption) | ((with_reducible apply Bx.grownS); assumption; (first | omega | exact Bx.ne (by assumption) (by omega))) | ((with_reducible apply Bx.below); assumption; omega) | ((with_reducible apply Own.grownS); assumption; omega) | ((with_reducible apply Bx.ex); assumption) | ((with_reducible apply IntsK.ex); assumption) | ((with_reducible apply Own.ex); assumption) | ((with_reducible apply Prs.ex); assumption))); done)); exact rfl; omega; intro pq hpq)
      | ((with_reducible apply W_indexIntss); ((conv => lhs; whnf) <;> exact rfl); assumption; (focus ((repeat (first | assumption | exact Ex.refl _ | (refine Ex.trans ?_ (by assumption)) | (refine Ex.of_grown ?_ (by assumption) (by intro k hk; cases hk; omega)))); done)); exact rfl; omega; intro pq uq hpq huq)
      | ((with_reducible apply WQ_indexInt); ((conv => lhs; whnf) <;> exact rfl); (focus ((repeat (first | assumption | ((with_reducible apply OwnR.grownS); assumption; omega) | ((with_reducible apply Row.ex); assumption) | ((with_reducible apply OwnR.ex); assumption) | ((with_reducible apply Bx.grownS); assumption; (first | omega | exact Bx.ne (by assumption) (by omega))) | ((with_reducible apply Bx.below); assumption; omega) | ((with_reducible apply Own.grownS); assumption; omega) | ((with_reducible apply Bx.ex); assumption) | ((with_reducible apply IntsK.ex); assumption) | ((with_reducible apply Own.ex); assumption) | ((with_reducible apply Prs.ex); assumption))); done)); exact rfl; omega; intro pq hpq)
      | ((with_reducible apply WQ_indexIntss); ((conv => lhs; whnf) <;> exact rfl); assumption; (focus ((repeat (first | assumption | exact Ex.refl _ | (refine Ex.trans ?_ (by assumption)) | (refine Ex.of_grown ?_ (by assumption) (by intro k hk; cases hk; omega)))); done)); exact rfl; omega; intro pq uq hpq huq)
      | ((with_reducible apply WM_indexInt); ((conv => lhs; whnf) <;> exact rfl); (focus ((repeat (first | assumption | ((with_reducible apply OwnR.grownS); assumption; omega) | ((with_reducible apply Row.ex); assumption) | ((with_reducible apply OwnR.ex); assumption) | ((with_reducible apply Bx.grownS); assumption; (first | omega | exact Bx.ne (by assumption) (by omega))) | ((with_reducible apply Bx.below); assumption; omega) | ((with_reducible apply Own.grownS); assumption; omega) | ((with_reducible apply Bx.ex); assumption) | ((with_reducible apply IntsK.ex); assumption) | ((with_reducible apply Own.ex); assumption) | ((with_reducible apply Prs.ex); assumption))); done)); exact rfl; omega; intro pq hpq)
      | ((with_reducible apply WM_indexIntss); ((conv => lhs; whnf) <;> exact rfl); assumption; (focus ((repeat (first | assumption | exact Ex.refl _ | (refine Ex.trans ?_ (by assumption)) | (refine Ex.of_grown ?_ (by assumption) (by intro k hk; cases hk; omega)))); done)); exact rfl; omega; intro pq uq hpq huq)
      | ((with_reducible apply W_indexPr); ((conv => lhs; whnf) <;> exact rfl); (focus ((repeat (first | assumption | ((with_reducible apply OwnR.grownS); assumption; omega) | ((with_reducible apply Row.ex); assumption) | ((with_reducible apply OwnR.ex); assumption) | ((with_reducible apply Bx.grownS); assumption; (first | omega | exact Bx.ne (by assumption) (by omega))) | ((with_reducible apply Bx.below); assumption; omega) | ((with_reducible apply Own.grownS); assumption; omega) | ((with_reducible apply Bx.ex); assumption) | ((with_reducible apply IntsK.ex); assumption) | ((with_reducible apply Own.ex); assumption) | ((with_reducible apply Prs.ex); assumption))); done)); exact rfl; omega; intro pq hpq)
      | ((with_reducible apply WQ_indexPr); ((conv => lhs; whnf) <;> exact rfl); (focus ((repeat (first | assumption | ((with_reducible apply OwnR.grownS); assumption; omega) | ((with_reducible apply Row.ex); assumption) | ((with_reducible apply OwnR.ex); assumption) | ((with_reducible apply Bx.grownS); assumption; (first | omega | exact Bx.ne (by assumption) (by omega))) | ((with_reducible apply Bx.below); assumption; omega) | ((with_reducible apply Own.grownS); assumption; omega) | ((with_reducible apply Bx.ex); assumption) | ((with_reducible apply IntsK.ex); assumption) | ((with_reducible apply Own.ex); assumption) | ((with_reducible apply Prs.ex); assumption))); done)); exact rfl; omega; intro pq hpq)
      | ((with_reducible apply W_storeA); exact rfl; (focus ((repeat (first | assumption | ((with_reducible apply Bx.grownS); assumption; (first | omega | exact Bx.ne (by assumption) (by omega))) | ((with_reducible apply Bx.below); assumption; omega) | ((with_reducible apply Bx.ex); assumption))); done)); exact rfl; exact rfl; exact rfl; (repeat' (first | exact trivial | (first | exact rfl | assumption | exact IntsK.one (by assumption) | exact Prs.one (by assumption) | exact Own.one (by assumption) | exact Row.one (by assumption) | exact OwnR.one (by assumption)) | constructor)); intro wq hbq hgq; have he : Ex w wq := (by repeat (first | assumption | exact Ex.refl _ | (refine Ex.trans ?_ (by assumption)) | (refine Ex.of_grown ?_ (by assumption) (by intro k hk; cases hk; omega)))); have hsz := he.size; have hgz := hgq.size)
      | ((with_reducible apply W_store); exact rfl; (focus ((repeat (first | assumption | ((with_reducible apply Bx.grownS); assumption; (first | omega | exact Bx.ne (by assumption) (by omega))) | ((with_reducible apply Bx.below); assumption; omega) | ((with_reducible apply Bx.ex); assumption))); done)); exact Nat.le_of_ble_eq_true rfl; ((conv => lhs; whnf) <;> exact rfl); (first | exact rfl | assumption | exact IntsK.one (by assumption) | exact Prs.one (by assumption) | exact Own.one (by assumption) | exact Row.one (by assumption) | exact OwnR.one (by assumption)); simp only [lset]; intro wq hbq hgq; have he : Ex w wq := (by repeat (first | assumption | exact Ex.refl _ | (refine Ex.trans ?_ (by assumption)) | (refine Ex.of_grown ?_ (by assumption) (by intro k hk; cases hk; omega)))); have hsz := he.size; have hgz := hgq.size)
      | ((with_reducible apply c_quiet); kernel_rfl)
      | (with_reducible apply c_seq)
      | (with_reducible apply c_region)
      | (with_reducible apply c_skip)
      | (with_reducible apply c_ret)
      | ((with_reducible apply c_cond_true); exact rfl)
      | ((with_reducible apply c_cond_false); exact rfl)
      | ((with_reducible apply c_cond_dec); exact rfl; intro _; rotate_left 1; intro _)
      | ((with_reducible apply c_cond_bool); exact rfl; intro _; rotate_left 1; intro _)
      | (with_reducible apply n_then)
      | (with_reducible apply e_then)
      | (with_reducible apply r_then)
      | ((with_reducible apply p_retc); exact rfl; exact inferInstance; exact inferInstance; exact rfl; (focus ((repeat (first | assumption | ((with_reducible apply Bx.grownS); assumption; (first | omega | exact Bx.ne (by assumption) (by omega))) | ((with_reducible apply Bx.below); assumption; omega) | ((with_reducible apply Bx.ex); assumption))); done)); exact rfl; refine ⟨_, rfl, ?_, (by repeat (first | assumption | exact Ex.refl _ | (refine Ex.trans ?_ (by assumption)) | (refine Ex.of_grown ?_ (by assumption) (by intro k hk; cases hk; omega))))⟩)
      | ((with_reducible apply p_retct); exact rfl; exact inferInstance; exact inferInstance; exact rfl; (focus ((repeat (first | assumption | ((with_reducible apply Bx.grownS); assumption; (first | omega | exact Bx.ne (by assumption) (by omega))) | ((with_reducible apply Bx.below); assumption; omega) | ((with_reducible apply Bx.ex); assumption))); done)); exact rfl; exact rfl; refine ⟨_, rfl, ?_, (by repeat (first | assumption | exact Ex.refl _ | (refine Ex.trans ?_ (by assumption)) | (refine Ex.of_grown ?_ (by assumption) (by intro k hk; cases hk; omega))))⟩)
      | ((exfalso; omega)))
  all_goals first | (unfold dblL; rw [if_neg (by simp only; omega)]; simp only; rw [← ha, ← hb, ← hcc]; exact dbl_eq a b c) | skip
end Go.Proofs.Ytbmjigneekodnaa

namespace Go.Pv
open Go.RowKit
theorem and127_bd {m : Int} (h : -128 ≤ m ∧ m ≤ 127) : 0 ≤ bits .and .i64 m 127 ∧ bits .and .i64 m 127 ≤ 127 := by
  have key : ∀ n : Fin 256, 0 ≤ bits .and .i64 ((n.1 : Int) - 128) 127 ∧ bits .and .i64 ((n.1 : Int) - 128) 127 ≤ 127 := by decide +kernel
  have := key ⟨(m + 128).toNat, by omega⟩
  have e : (((m + 128).toNat : Nat) : Int) - 128 = m := by omega
  simp only [e] at this
  exact this
/-- The half of what codes prove, and a number above it, are bounds. -/
theorem half_ok {l : List T3} (hs : smallL l) {p : Nat × Nat × Nat} (hp : isProof l.length p) (h0 : 0 ≤ (dblL l p).1) :
    vfE l (codesL p) ((dblL l p).1, 2 * (dblL l p).2) = 0 ∧ vfE l (codesL p) ((dblL l p).1 * 3 + 1, 2 * (dblL l p).2 * 3) = 14 := by
  have hd := small_dbl hs hp
  constructor
  · refine vf_ok hs.valid hp (by unfold bOk; simp only; omega) ?_
    rw [prv_dbl]
    exact fLt_irr _
  · refine vf_no hs.valid hp (by unfold bOk; simp only; omega) ?_
    rw [prv_dbl]
    unfold fLt
    simp only
    have e1 : (dblL l p).1 * (2 * (dblL l p).2 * 3) = 6 * ((dblL l p).1 * (dblL l p).2) := by grind
    have e2 : ((dblL l p).1 * 3 + 1) * (2 * (dblL l p).2) = 6 * ((dblL l p).1 * (dblL l p).2) + 2 * (dblL l p).2 := by grind
    omega
theorem dbl_one (l : List T3) (i : Nat) : dblL l (i, i, i) = ((l.getD i cD).2.2 - (l.getD i cD).2.1, 1) := if_pos ⟨rfl, rfl⟩
theorem codes_one (i : Nat) : codesL (i, i, i) = [(i : Int)] := if_pos ⟨rfl, rfl⟩
theorem codes_three {i j k : Nat} (h : i < j) : codesL (i, j, k) = [(i : Int), (j : Int), (k : Int)] := if_neg (by simp only; omega)
end Go.Pv
namespace Go.Proofs.Ytbmjigneekodnaa
open Go.Pv Go.RowKit Go.ChangeShapes Go.WideShapes Go.ChangeAt Go.Joins Go.Deep
set_option maxHeartbeats 8000000
set_option maxRecDepth 100000

theorem open_u8x3 {H : Type} {enc : TypeId × Value → H} {W : World} {base : Nat} {v : Value} {d : DataW H} {p : List MemPlace}
    (hv : Value.okWide Try.prog W .any base 53 v) (h : DataW.Trod enc Try.prog W 0 (fun _ => true) true 53 v d p) : ∃ a b c, v = .agg #[.int .u8 a, .int .u8 b, .int .u8 c] ∧ (0 ≤ a ∧ a ≤ 255) ∧ (0 ≤ b ∧ b ≤ 255) ∧ (0 ≤ c ∧ c ≤ 255) := by
  have k1 : Try.prog.cellsOf 5 = 1 := by kernel_rfl
  have k2 : Try.prog.cellsOf 53 = 3 := by kernel_rfl
  obtain ⟨cs, rfl, hsz⟩ := okWide_arr Try.underlying53 hv
  obtain ⟨c0, c1, c2, rfl⟩ : ∃ c0 c1 c2, cs = #[c0, c1, c2] := by
    rw [k2] at hsz
    obtain ⟨l⟩ := cs
    match l, hsz with
    | [c0, c1, c2], _ => exact ⟨c0, c1, c2, rfl⟩
  obtain ⟨fuel, hf⟩ := h
  obtain ⟨ys, n4, -, -, hlen, hys, he⟩ := DataW.trod_array Try.underlying53 hf
  have t0 := he 0 (by decide)
  have t1 := he 1 (by decide)
  have t2 := he 2 (by decide)
  rw [k1] at t0 t1 t2
  obtain ⟨m0, rfl, q0⟩ := open_u8 (c := c0) (t0.trans (List.getElem?_eq_getElem (by omega)))
  obtain ⟨m1, rfl, q1⟩ := open_u8 (c := c1) (t1.trans (List.getElem?_eq_getElem (by omega)))
  obtain ⟨m2, rfl, q2⟩ := open_u8 (c := c2) (t2.trans (List.getElem?_eq_getElem (by omega)))
  exact ⟨m0, m1, m2, rfl, q0, q1, q2⟩
theorem verifyE (v vp : Value) (l : List T3) (cs : List Int) (f : Int × Int) (e : Int) (w : World) (h : Row cC 3 w v l) (hp : Ints w vp cs) (he : vfE l cs f = e) : Ret Try.prog 19 [v, vp, .agg #[.int .i64 f.1, .int .i64 f.2]] w fun r _ => r = .int .i64 e := by
  subst he
  exact Verify_any v vp l cs f w h hp
theorem proofL_any (v vp : Value) (l : List T3) (p : Nat × Nat × Nat) (w : World) (h : Row cC 3 w v l) (hsm : smallL l) (hp : isProof l.length p) (hc : Ints w vp (codesL p)) : Ret Try.prog 28 [v, vp] w fun r _ => r = .agg #[.int .i64 (dblL l p).1, .int .i64 (dblL l p).2] := by
  obtain ⟨i, j, k⟩ := p
  rcases hp with ⟨h1, h2, h3⟩ | ⟨h1, h2, h3⟩
  · simp only at h1 h2 h3
    subst h1; subst h2
    rw [codes_one] at hc
    rw [dbl_one]
    exact proof1_any v vp l i w h hsm h3 hc
  · simp only at h1 h2 h3
    rw [codes_three h1] at hc
    exact proof3_any v vp l i j k w h hsm h1 h2 h3 hc
end Go.Proofs.Ytbmjigneekodnaa

namespace Go.Pv
open Go.RowKit
/-- A fact that is kept out of sight of those who split cases. -/
def Hdn (p : Prop) : Prop := p
theorem bestK_start (l : List T3) : bestK l 0 0 0 (0, 1) := ⟨Or.inl rfl, fLt_irr _, fun p hp hs => by unfold seen3 at hs; omega⟩
theorem ints1 {w : World} {b : Nat} {E : TypeId} {i j k : Nat} (h1 : i = j) (h2 : j = k) (h : Bx w b [.int .i64 (i : Int)] E) : Ints w (.slice (some ⟨b, 0, none⟩) 1 1) (codesL (i, j, k)) := by
  subst h1; subst h2
  rw [codes_one]
  exact IntsK.built (xs := [(i : Int)]) h rfl (by simp)
theorem ints3 {w : World} {b : Nat} {E : TypeId} {i j k : Nat} (h1 : i < j) (h : Bx w b [.int .i64 (i : Int), .int .i64 (j : Int), .int .i64 (k : Int)] E) : Ints w (.slice (some ⟨b, 0, none⟩) 3 3) (codesL (i, j, k)) := by
  rw [codes_three h1]
  exact IntsK.built (xs := [(i : Int), (j : Int), (k : Int)]) h rfl (by simp)
/-- The law's list of codes, in a block of its own behind the block b0. -/
def LBx (E : TypeId) (w : World) (vp : Value) (i j k b0 : Nat) : Prop := ∃ bl, b0 < bl ∧ ((i = j ∧ j = k ∧ vp = .slice (some ⟨bl, 0, none⟩) 1 1 ∧ Bx w bl [.int .i64 (i : Int)] E) ∨ (i < j ∧ vp = .slice (some ⟨bl, 0, none⟩) 3 3 ∧ Bx w bl [.int .i64 (i : Int), .int .i64 (j : Int), .int .i64 (k : Int)] E))
theorem offF_le {l : List T3} {g o : Int × Int} (hs : smallL l) (hg : (-128 ≤ g.1 ∧ g.1 ≤ 127) ∧ 1 ≤ g.2 ∧ g.2 ≤ 8) (ho : (-128 ≤ o.1 ∧ o.1 ≤ 127) ∧ 1 ≤ o.2 ∧ o.2 ≤ 8) : ∀ k, k ≤ l.length → offF l g o k ≤ 20000
  | 0, _ => by simp [offF]
  | k + 1, hk => by
    have h1 := offF_le hs hg ho k (by omega)
    have h2 := lof_bd hg ho (hs.2.1 k (by omega))
    simp only [offF]
    unfold loudL
    omega
theorem LBx.mk1 {E : TypeId} {w : World} {bl i j k b0 : Nat} (h1 : i = j) (h2 : j = k) (h : Bx w bl [.int .i64 (i : Int)] E) (h0 : b0 < bl) : LBx E w (.slice (some ⟨bl, 0, none⟩) 1 1) i j k b0 := ⟨bl, h0, .inl ⟨h1, h2, rfl, h⟩⟩
theorem LBx.mk3 {E : TypeId} {w : World} {bl i j k b0 : Nat} (h1 : i < j) (h : Bx w bl [.int .i64 (i : Int), .int .i64 (j : Int), .int .i64 (k : Int)] E) (h0 : b0 < bl) : LBx E w (.slice (some ⟨bl, 0, none⟩) 3 3) i j k b0 := ⟨bl, h0, .inr ⟨h1, rfl, h⟩⟩
theorem ints13 {w : World} {b : Nat} {E : TypeId} {x y z : Int} (h : Bx w b [.int .i64 x, .int .i64 y, .int .i64 z] E) : Ints w (.slice (some ⟨b, 0, none⟩) 1 3) [x] := by
  change IntsK .i64 w _ _
  unfold IntsK Sl
  refine ⟨by unfold maxLen; simp, some ⟨b, 0, none⟩, 3, rfl, by simp, by unfold maxLen; omega, fun i hi => ⟨⟨b, 0, none⟩, Value.int .i64 [x][i], rfl, ?_, rfl⟩⟩
  have := Bx.cells h
  unfold Cells at this
  have hi0 : i = 0 := by simpa using hi
  subst hi0
  exact this 0 (.int .i64 x) rfl
theorem LBx.ints {E : TypeId} {w : World} {vp : Value} {i j k b0 : Nat} (h : LBx E w vp i j k b0) : Ints w vp (codesL (i, j, k)) := by
  obtain ⟨bl, _, ⟨h1, h2, rfl, h3⟩ | ⟨h1, rfl, h3⟩⟩ := h
  · exact ints1 h1 h2 h3
  · exact ints3 h1 h3
theorem LBx.ex {E : TypeId} {w w' : World} {vp : Value} {i j k b0 : Nat} (e : Ex w w') (h : LBx E w vp i j k b0) : LBx E w' vp i j k b0 := by
  obtain ⟨bl, h0, ⟨h1, h2, h4, h3⟩ | ⟨h1, h4, h3⟩⟩ := h
  · exact ⟨bl, h0, .inl ⟨h1, h2, h4, h3.ex e⟩⟩
  · exact ⟨bl, h0, .inr ⟨h1, h4, h3.ex e⟩⟩
theorem LBx.st {E : TypeId} {w w' : World} {vp : Value} {i j k b0 : Nat} (hg : w.grownBy w' (some b0)) (h : LBx E w vp i j k b0) : LBx E w' vp i j k b0 := by
  obtain ⟨bl, h0, ⟨h1, h2, h4, h3⟩ | ⟨h1, h4, h3⟩⟩ := h
  · exact ⟨bl, h0, .inl ⟨h1, h2, h4, h3.grownS hg (by omega)⟩⟩
  · exact ⟨bl, h0, .inr ⟨h1, h4, h3.grownS hg (by omega)⟩⟩
theorem LBx.one {E : TypeId} {w : World} {vp : Value} {i j k b0 : Nat} (h : LBx E w vp i j k b0) : vp.oneCell' = true := h.ints.one
end Go.Pv
namespace Go.Proofs.Ytbmjigneekodnaa
open Go.Pv Go.RowKit
set_option maxHeartbeats 20000000
set_option maxRecDepth 20000

theorem provedL_any (v : Value) (xs : List T3) (q0 q1 q2 b0 b1 g0 g1 o0 o1 : Int) (w : World) (h : Row c3 3 w v xs) (hx : ∀ j, by3 (xs.getD j cD)) (hq0 : 0 ≤ q0 ∧ q0 ≤ 255) (hq1 : 0 ≤ q1 ∧ q1 ≤ 255) (hq2 : 0 ≤ q2 ∧ q2 ≤ 255) (hb0 : -128 ≤ b0 ∧ b0 ≤ 127) (hb1 : -128 ≤ b1 ∧ b1 ≤ 127) (hg0 : -128 ≤ g0 ∧ g0 ≤ 127) (hg1 : -128 ≤ g1 ∧ g1 ≤ 127) (ho0 : -128 ≤ o0 ∧ o0 ≤ 127) (ho1 : -128 ≤ o1 ∧ o1 ≤ 127) :
    Ret Try.prog 6 [v, .agg #[.int .u8 q0, .int .u8 q1, .int .u8 q2], .agg #[.int .i8 b0, .int .i8 b1], .agg #[.int .i8 g0, .int .i8 g1], .agg #[.int .i8 o0, .int .i8 o1]] w fun r _ => r = .bool true := by
  have hv1 := h.one
  have h127 := and127_bd hb0
  have h7b := and7_bd hb1
  have h7g := and7_bd hg1
  have h7o := and7_bd ho1
  obtain ⟨bb, hbb1, hbb2⟩ : ∃ b : Int × Int, b.1 = bits .and .i64 b0 127 ∧ b.2 = 1 + bits .and .i64 b1 7 := ⟨(_, _), rfl, rfl⟩
  obtain ⟨gg, hgg1, hgg2⟩ : ∃ b : Int × Int, b.1 = g0 ∧ b.2 = 1 + bits .and .i64 g1 7 := ⟨(_, _), rfl, rfl⟩
  obtain ⟨oo, hoo1, hoo2⟩ : ∃ b : Int × Int, b.1 = o0 ∧ b.2 = 1 + bits .and .i64 o1 7 := ⟨(_, _), rfl, rfl⟩
  have hbbd : (0 ≤ bb.1 ∧ bb.1 ≤ 127) ∧ 1 ≤ bb.2 ∧ bb.2 ≤ 8 := by omega
  have hggd : (-128 ≤ gg.1 ∧ gg.1 ≤ 127) ∧ 1 ≤ gg.2 ∧ gg.2 ≤ 8 := by omega
  have hood : (-128 ≤ oo.1 ∧ oo.1 ≤ 127) ∧ 1 ≤ oo.2 ∧ oo.2 ≤ 8 := by omega
  have hDD := dD_bd hggd.2 hood.2
  have hpb : ∀ w', Ret Try.prog 27 [.int .i64 (bits .and .i64 b0 127), .int .i64 (1 + bits .and .i64 b1 7)] w' fun r _ => r = .agg #[.int .i64 bb.1, .int .i64 bb.2] := fun w' => by rw [hbb1, hbb2]; exact part_any _ _ w'
  have hpg : ∀ w', Ret Try.prog 27 [.int .i64 g0, .int .i64 (1 + bits .and .i64 g1 7)] w' fun r _ => r = v2 gg := fun w' => by unfold v2; rw [hgg1, hgg2]; exact part_any _ _ w'
  have hpo : ∀ w', Ret Try.prog 27 [.int .i64 o0, .int .i64 (1 + bits .and .i64 o1 7)] w' fun r _ => r = v2 oo := fun w' => by unfold v2; rw [hoo1, hoo2]; exact part_any _ _ w'
  clear hbb1 hbb2 hgg1 hgg2 hoo1 hoo2
  refine ret_of_c Try.func6 rfl Try.ntmps6 (Nat.le_of_ble_eq_true rfl) (by dsimp only [ini, Nat.reduceAdd] <;> exact rfl) ?_
  repeat' (first
      | (((with_reducible apply W_split); exact rfl; exact rfl; (all_goals intro _); (all_goals (try (exfalso; (focus (omega; done)))))))
      | (((with_reducible apply c_cond_dec); exact rfl; (all_goals intro _); (all_goals (try (exfalso; (focus (omega; done)))))))
      | ((with_reducible (show C _ _ _ _ _)); refine c_cutG (x := .region 1 _ _) (n := 200) (fun ps wr => ∃ (b6 b7 b8 b9 : Nat) (ul : Value) (l : List T3), ps = ([(6, .pointer (some ⟨b6, 0, none⟩)), (7, .pointer (some ⟨b7, 0, none⟩)), (8, .pointer (some ⟨b8, 0, none⟩)), (9, .pointer (some ⟨b9, 0, none⟩)), (11, ul)] : List (Nat × Value)) ∧ smallL l ∧ Row cC 3 wr ul l ∧ Bx wr b6 [.int .u8 q0, .int .u8 q1, .int .u8 q2] 53 ∧ Bx wr b7 [.int .i8 b0, .int .i8 b1] 55 ∧ Bx wr b8 [.int .i8 g0, .int .i8 g1] 55 ∧ Bx wr b9 [.int .i8 o0, .int .i8 o1] 55 ∧ Ex w wr) (fun J1 hJ1 => ?_) (fun u1 ps1 wr1 hI1 => ?_); rotate_left 1; obtain ⟨b6, b7, b8, b9, ul, l, rfl, hsm, hl1, hx6, hx7, hx8, hx9, he⟩ := hI1; have hsz := he.size; have hlo := hl1.one; have hlen := hl1.len; have hvl := hsm.valid; have hl5 := hsm.1; (have tk2 : True := trivial); rotate_left 1)
      | ((with_reducible apply W_op); exact rfl; exact rfl; ((with_reducible apply r_lenR (f := cC) (n := 3) (xs := l) (v := ul)); exact rfl; exact Row.ex (by repeat (first | exact Ex.refl _ | assumption | (refine Ex.of_grown ?_ (by assumption) (by intro k hk; cases hk; omega)) | (refine Ex.trans ?_ (by assumption)))) hl1))
      | ((with_reducible (show C _ _ _ _ _)); clear tk2; refine c_cutG (x := .region 2 _ _) (n := 200) (fun ps wr => ps = ([(6, .pointer (some ⟨b6, 0, none⟩)), (7, .pointer (some ⟨b7, 0, none⟩)), (8, .pointer (some ⟨b8, 0, none⟩)), (9, .pointer (some ⟨b9, 0, none⟩)), (11, ul), (12, .int .i64 l.length)] : List (Nat × Value)) ∧ Ex wr1 wr) (fun J2 hJ2 => ?_) (fun u2 ps2 wr2 hI2 => ?_); rotate_left 1; obtain ⟨rfl, he⟩ := hI2; have hsz := he.size; rotate_left 1)
      | ((with_reducible (show C _ _ _ _ _)); refine c_cutG (x := .region 3 _ _) (n := 200) (fun ps wr => ∃ (b14 : Nat) (x1 f0 : Int × Int), ps = ([(6, .pointer (some ⟨b6, 0, none⟩)), (7, .pointer (some ⟨b7, 0, none⟩)), (8, .pointer (some ⟨b8, 0, none⟩)), (9, .pointer (some ⟨b9, 0, none⟩)), (11, ul), (12, .int .i64 l.length), (14, .pointer (some ⟨b14, 0, none⟩)), (15, .int .i64 0)] : List (Nat × Value)) ∧ bestIs l f0 ∧ x1 = low f0 ∧ Bx wr b14 [.int .i64 x1.1, .int .i64 x1.2] 24 ∧ Ex wr1 wr) (fun J3 hJ3 => ?_) (fun u3 ps3 wr3 hI3 => ?_); rotate_left 1; obtain ⟨b14, x1, f0, rfl, hf0, hx1, hx14, he⟩ := hI3; have hsz := he.size; (have hw3 := he); (have hxs := low_small (small_best hsm hf0)); rw [← hx1] at hxs; (have hsx : sF x1 := by unfold sF; omega); (have hl3 : Row cC 3 wr3 ul l := Row.ex he hl1); (have hy6 := Bx.ex he hx6); (have hy7 := Bx.ex he hx7); (have hy8 := Bx.ex he hx8); (have hy9 := Bx.ex he hx9); rotate_left 1)
      | ((with_reducible apply W_op); exact rfl; exact rfl; ((with_reducible apply r_convS); exact rfl; (first | exact hb0 | exact hb1)))
      | ((with_reducible apply W_op); exact rfl; exact rfl; ((with_reducible apply r_andI); exact rfl; exact rfl))
      | ((with_reducible apply WM_op); exact rfl; exact rfl; (intro wq he2; (with_reducible apply r_convS); exact rfl; (first | exact hg0 | exact hg1 | exact ho0 | exact ho1)))
      | ((with_reducible apply WM_op); exact rfl; exact rfl; (intro wq he2; (with_reducible apply r_andI); exact rfl; exact rfl))
      | ((with_reducible (show C _ _ _ _ _)); refine c_cutG (x := .region 31 _ _) (n := 200) (fun ps wr => ∃ (b24 : Nat), ps = ([(8, .pointer (some ⟨b8, 0, none⟩)), (9, .pointer (some ⟨b9, 0, none⟩)), (11, ul), (14, .pointer (some ⟨b14, 0, none⟩)), (23, vp), (24, .pointer (some ⟨b24, 0, none⟩))] : List (Nat × Value)) ∧ Ints wr vp cs ∧ Bx wr b24 [.int .i64 bb.1, .int .i64 bb.2] 24 ∧ Ex wr3 wr) (fun JF hJF => ?_) (fun uF psF wrF hIF => ?_); rotate_left 1; obtain ⟨b24, rfl, hvpF, hx24, he⟩ := hIF; have hsz := he.size; rotate_left 1)
      | (refine c_mix (id := 34) [] [0, 1, 2, 3, 4, 5, 6, 7, 8, 9, 10, 11, 12, 13, 14, 15, 16, 17, 18, 19, 20, 21, 22, 23, 24, 25, 26, 27, 28, 29, 30, 31] [32] [false, false, false, false, false, false, false, false, false, false, false, false, false, false, false, false, false, false, false, false, false, false, false, false, false, false, false, false, false, false, false, false, false] [true, true, true, true, true, true, true, true, true, true, true, true, true, true, true, true, true, true, true, true, true, true, true, true, true, true, true, true, true, true, true, true, false] [none, none, none, none, none, none, none, none, none, none, none, none, none, none, none, none, none, none, none, none, none, none, none, none, none, none, none, none, none, none, none, none, some true] (by kernel_rfl) (by kernel_rfl) (by kernel_rfl) (by kernel_rfl) (by kernel_rfl) (by kernel_rfl) (by dsimp only [sel] <;> exact rfl) (by dsimp only [sel] <;> exact rfl) (by dsimp only [selT] <;> exact rfl) ?_)
      | ((with_reducible (show C _ _ _ _ _)); clear tkI; by_cases hil : i < l.length; (have tkJ : True := trivial); rotate_left 1; (have hie : i = l.length := (by omega)); subst hie; (have hend := bestK_end (i := 0) hsm hbk hf0); rw [← hx1] at hend; (have hbs := bestK_sF hsm hbk); (have hm1 := lmul_bd (a := b.1) (b := x1.2) (A := 1600) (B := 32) hbs.1 (by omega)); (have hm2 := lmul_bd (a := 2 * x1.1) (b := b.2) (A := 3200) (B := 16) (by omega) (by omega)); (have tkE : True := trivial); rotate_left 1)
      | ((with_reducible (show C _ _ _ _ _)); clear tkJ2; by_cases hjl : j < l.length; (have tkK : True := trivial); rotate_left 1; (have hje : j = l.length := (by omega)); subst hje; rotate_left 1)
      | ((with_reducible (show C _ _ _ _ _)); clear tkK2; by_cases hkl : k < l.length; (have hl16 := Bx.lt hx16); (have tkA : True := trivial); rotate_left 1; (have hke : k = l.length := (by omega)); subst hke; rotate_left 1)
      | ((with_reducible (show C _ _ _ _ _)); refine c_cutG (x := .seq (.region 17 _ _) (.cond _ _ _)) (n := 200) (fun ps wr => ∃ (vp : Value), ps = ([(6, .pointer (some ⟨b6, 0, none⟩)), (7, .pointer (some ⟨b7, 0, none⟩)), (8, .pointer (some ⟨b8, 0, none⟩)), (9, .pointer (some ⟨b9, 0, none⟩)), (11, ul), (12, .int .i64 l.length), (14, .pointer (some ⟨b14, 0, none⟩)), (16, .pointer (some ⟨b16, 0, none⟩)), (17, .int .i64 i), (18, .int .i64 j), (19, .int .i64 k), (20, vp)] : List (Nat × Value)) ∧ isProof l.length (i, j, k) ∧ LBx 3 wr vp i j k b16 ∧ wr3.heap.size ≤ b16 ∧ Bx wr b16 [.int .i64 b.1, .int .i64 b.2] 24 ∧ Ex wr3 wr) (fun JA hJA => ?_) (fun uA psA wrA hIA => ?_); rotate_left 1; obtain ⟨vp, rfl, hpr, hvp, hb16, hx16, he⟩ := hIA; have hsz := he.size; (have hvp1 := hvp.one); (have hl16 := Bx.lt hx16); (have hdb := small_dbl hsm hpr); (have hbs := bestK_sF hsm hbk); rotate_left 1)
      | ((with_reducible (show C _ _ _ _ _)); refine c_cutG (x := .region 20 _ _) (n := 200) (fun ps wr => ∃ (b21 : Nat), ps = ([(6, .pointer (some ⟨b6, 0, none⟩)), (7, .pointer (some ⟨b7, 0, none⟩)), (8, .pointer (some ⟨b8, 0, none⟩)), (9, .pointer (some ⟨b9, 0, none⟩)), (11, ul), (12, .int .i64 l.length), (14, .pointer (some ⟨b14, 0, none⟩)), (16, .pointer (some ⟨b16, 0, none⟩)), (17, .int .i64 i), (18, .int .i64 j), (19, .int .i64 k), (20, vp), (21, .pointer (some ⟨b21, 0, none⟩))] : List (Nat × Value)) ∧ LBx 3 wr vp i j k b16 ∧ (wr3.heap.size ≤ b16 ∧ b16 < b21) ∧ Bx wr b16 [.int .i64 b.1, .int .i64 b.2] 24 ∧ Bx wr b21 [.int .i64 (dblL l (i, j, k)).1, .int .i64 (dblL l (i, j, k)).2] 24 ∧ Ex wr3 wr) (fun JB hJB => ?_) (fun uB psB wrB hIB => ?_); rotate_left 1; obtain ⟨b21, rfl, hvpB, hbb, hx16, hx21, he⟩ := hIB; have hsz := he.size; (have hl16 := Bx.lt hx16); (have hl21 := Bx.lt hx21); rotate_left 1)
      | ((with_reducible (show C _ _ _ _ _)); refine c_cutG (x := .seq (.region 21 _ _) (.cond _ _ _)) (n := 200) (fun ps wr => ∃ (c : Int × Int), ps = ([(6, .pointer (some ⟨b6, 0, none⟩)), (7, .pointer (some ⟨b7, 0, none⟩)), (8, .pointer (some ⟨b8, 0, none⟩)), (9, .pointer (some ⟨b9, 0, none⟩)), (11, ul), (12, .int .i64 l.length), (14, .pointer (some ⟨b14, 0, none⟩)), (16, .pointer (some ⟨b16, 0, none⟩)), (17, .int .i64 i), (18, .int .i64 j), (19, .int .i64 k), (20, vp), (21, .pointer (some ⟨b21, 0, none⟩))] : List (Nat × Value)) ∧ LBx 3 wr vp i j k b16 ∧ bestK l i j (k + 1) c ∧ Bx wr b16 [.int .i64 c.1, .int .i64 c.2] 24 ∧ Bx wr b21 [.int .i64 (dblL l (i, j, k)).1, .int .i64 (dblL l (i, j, k)).2] 24 ∧ Ex wr3 wr) (fun JC hJC => ?_) (fun uC psC wrC hIC => ?_); rotate_left 1; obtain ⟨c, rfl, hvpC, hbkC, hx16, hx21, he⟩ := hIC; have hsz := he.size; rotate_left 1; by_cases hlt : fLt b (dblL l (i, j, k)))
      | (refine c_mix (id := 28) [] [0, 1, 2, 3, 4, 5, 6, 7, 8, 9, 10, 11, 12, 13, 14] [15, 16] [false, false, false, false, false, false, false, false, false, false, false, false, false, false, false, false, false] [true, true, true, true, true, true, true, true, true, true, true, true, true, true, true, false, false] [none, none, none, none, none, none, none, none, none, none, none, none, none, none, none, some true, some true] (by kernel_rfl) (by kernel_rfl) (by kernel_rfl) (by kernel_rfl) (by kernel_rfl) (by kernel_rfl) (by dsimp only [sel] <;> exact rfl) (by dsimp only [sel] <;> exact rfl) (by dsimp only [selT] <;> exact rfl) ?_)
      | ((with_reducible (show C _ _ _ _ _)); refine c_cutG (x := .region 28 _ _) (n := 200) (fun ps wr => ∃ (bl : Nat), ps = ([(6, .pointer (some ⟨b6, 0, none⟩)), (7, .pointer (some ⟨b7, 0, none⟩)), (8, .pointer (some ⟨b8, 0, none⟩)), (9, .pointer (some ⟨b9, 0, none⟩)), (11, ul), (14, .pointer (some ⟨b14, 0, none⟩)), (23, .slice (some ⟨bl, 0, none⟩) 3 3)] : List (Nat × Value)) ∧ Bx wr bl [.int .i64 (q0 % l.length), .int .i64 (q1 % l.length), .int .i64 (q2 % l.length)] 3 ∧ Ex wr3 wr) (fun JD hJD => ?_) (fun uD psD wrD hID => ?_); rotate_left 1; obtain ⟨bl, rfl, hxl, he⟩ := hID; have hsz := he.size; rotate_left 1)
      | ((with_reducible (show C _ _ _ _ _)); refine c_cutG (x := .seq (.region 29 _ _) (.cond _ _ _)) (n := 200) (fun ps wr => ∃ (vp : Value) (cs : List Int), ps = ([(7, .pointer (some ⟨b7, 0, none⟩)), (8, .pointer (some ⟨b8, 0, none⟩)), (9, .pointer (some ⟨b9, 0, none⟩)), (11, ul), (14, .pointer (some ⟨b14, 0, none⟩)), (23, vp)] : List (Nat × Value)) ∧ Ints wr vp cs ∧ Ex wr3 wr) (fun JE hJE => ?_) (fun uE psE wrE hIE => ?_); rotate_left 1; obtain ⟨vp, cs, rfl, hvp, he⟩ := hIE; have hsz := he.size; (have hvp1 := hvp.one); rotate_left 1)
      | ((with_reducible apply W_op); exact rfl; exact rfl; ((with_reducible apply r_takeR (f := fun x : Int => [Value.int .i64 x]) (n := 1) (j := 1) (xs := [q0 % l.length, q1 % l.length, q2 % l.length]) (v := .slice (some ⟨bl, 0, none⟩) 3 3)); exact rfl; exact Row.built (fun _ => rfl) (xs := [q0 % l.length, q1 % l.length, q2 % l.length]) (by repeat (first | assumption | ((with_reducible apply Bx.grownS); assumption; (first | omega | exact Bx.ne (by assumption) (by omega))) | ((with_reducible apply Bx.below); assumption; omega) | ((with_reducible apply Bx.ex); assumption))) rfl (by simp); exact rfl; (simp)))
      | ((first | ((with_reducible apply W_op); exact rfl; exact rfl) | ((with_reducible apply WQ_op); exact rfl; exact rfl; intro wq he) | ((with_reducible apply WM_op); exact rfl; exact rfl; intro wq he) | ((with_reducible apply WB_op); exact rfl; exact rfl; intro wq)); (first | ((with_reducible apply r_conv8); exact rfl; omega) | ((with_reducible apply r_conv16); exact rfl; omega) | ((with_reducible apply r_remE); exact rfl; exact rfl; omega; omega) | ((with_reducible apply r_indexArr); exact rfl; exact rfl; omega) | (exact r_indexArr (i := 0) rfl rfl (by decide)) | (exact r_indexArr (i := 1) rfl rfl (by decide)) | (exact r_indexArr (i := 2) rfl rfl (by decide)) | ((with_reducible apply r_move); ((conv => lhs; whnf) <;> exact rfl)) | ((with_reducible apply r_assign); ((conv => lhs; whnf) <;> exact rfl)) | ((with_reducible apply r_fieldAddr); exact rfl) | ((with_reducible apply r_load); exact rfl; exact rfl; (first | assumption | exact (Bx.cell (by repeat (first | assumption | ((with_reducible apply Bx.grownS); assumption; (first | omega | exact Bx.ne (by assumption) (by omega))) | ((with_reducible apply Bx.below); assumption; omega) | ((with_reducible apply Bx.ex); assumption))) _).trans rfl | exact Ex.cell (by assumption) (by assumption))) | ((with_reducible apply r_loadF); exact rfl; (first | assumption | exact (Bx.cell (by repeat (first | assumption | ((with_reducible apply Bx.grownS); assumption; (first | omega | exact Bx.ne (by assumption) (by omega))) | ((with_reducible apply Bx.below); assumption; omega) | ((with_reducible apply Bx.ex); assumption))) _).trans rfl | exact Ex.cell (by assumption) (by assumption))) | ((with_reducible apply r_loadA); exact rfl; (first | assumption | exact Bx.cells (by repeat (first | assumption | ((with_reducible apply Bx.grownS); assumption; (first | omega | exact Bx.ne (by assumption) (by omega))) | ((with_reducible apply Bx.below); assumption; omega) | ((with_reducible apply Bx.ex); assumption))) | exact Cells.ex (by assumption) (by assumption)); exact rfl) | ((with_reducible apply r_lss); exact rfl; exact rfl) | ((with_reducible apply r_geq); exact rfl; exact rfl) | ((with_reducible apply r_eql); exact rfl; exact rfl) | ((with_reducible apply r_neq); exact rfl; exact rfl) | ((with_reducible apply r_add); exact rfl; exact rfl; omega) | ((with_reducible apply r_len); exact rfl) | ((with_reducible apply r_lenStr); exact rfl) | ((with_reducible apply r_lenInts); ((conv => lhs; whnf) <;> exact rfl); (focus ((repeat (first | assumption | ((with_reducible apply OwnR.grownS); assumption; omega) | ((with_reducible apply Row.ex); assumption) | ((with_reducible apply OwnR.ex); assumption) | ((with_reducible apply Bx.grownS); assumption; (first | omega | exact Bx.ne (by assumption) (by omega))) | ((with_reducible apply Bx.below); assumption; omega) | ((with_reducible apply Own.grownS); assumption; omega) | ((with_reducible apply Bx.ex); assumption) | ((with_reducible apply IntsK.ex); assumption) | ((with_reducible apply Own.ex); assumption) | ((with_reducible apply Prs.ex); assumption))); done))) | ((with_reducible apply r_lenPrs); ((conv => lhs; whnf) <;> exact rfl); (focus ((repeat (first | assumption | ((with_reducible apply OwnR.grownS); assumption; omega) | ((with_reducible apply Row.ex); assumption) | ((with_reducible apply OwnR.ex); assumption) | ((with_reducible apply Bx.grownS); assumption; (first | omega | exact Bx.ne (by assumption) (by omega))) | ((with_reducible apply Bx.below); assumption; omega) | ((with_reducible apply Own.grownS); assumption; omega) | ((with_reducible apply Bx.ex); assumption) | ((with_reducible apply IntsK.ex); assumption) | ((with_reducible apply Own.ex); assumption) | ((with_reducible apply Prs.ex); assumption))); done))) | ((with_reducible apply r_pick_true); exact rfl; ((conv => lhs; whnf) <;> exact rfl)) | ((with_reducible apply r_pick_false); exact rfl; ((conv => lhs; whnf) <;> exact rfl)) | ((with_reducible apply r_not); exact rfl) | ((with_reducible apply r_notb); exact rfl) | ((with_reducible apply r_rem); exact rfl; exact rfl; omega) | ((with_reducible apply r_mul); exact rfl; exact rfl; omega) | ((with_reducible apply r_eqlb); exact rfl; exact rfl) | ((with_reducible apply r_neqb); exact rfl; exact rfl) | ((with_reducible apply r_extract); exact rfl; exact rfl) | ((with_reducible apply r_conv); exact rfl) | ((with_reducible apply r_loadSub); exact rfl; (focus ((repeat (first | assumption | ((with_reducible apply Bx.grownS); assumption; (first | omega | exact Bx.ne (by assumption) (by omega))) | ((with_reducible apply Bx.below); assumption; omega) | ((with_reducible apply Bx.ex); assumption))); done)); ((simp only [Nat.add_zero, Nat.zero_add, Nat.reduceAdd, List.drop_zero, List.drop_succ_cons, List.take_succ_cons, List.take_zero]) <;> exact rfl); exact rfl) | ((with_reducible apply r_lenR); ((conv => lhs; whnf) <;> exact rfl); (focus ((repeat (first | assumption | ((with_reducible apply OwnR.grownS); assumption; omega) | ((with_reducible apply Row.ex); assumption) | ((with_reducible apply OwnR.ex); assumption) | ((with_reducible apply Bx.grownS); assumption; (first | omega | exact Bx.ne (by assumption) (by omega))) | ((with_reducible apply Bx.below); assumption; omega) | ((with_reducible apply Own.grownS); assumption; omega) | ((with_reducible apply Bx.ex); assumption) | ((with_reducible apply IntsK.ex); assumption) | ((with_reducible apply Own.ex); assumption) | ((with_reducible apply Prs.ex); assumption))); done)))))
      | (refine W_call (made_any v xs _ (h.ex (by repeat (first | assumption | exact Ex.refl _ | (refine Ex.trans ?_ (by assumption)) | (refine Ex.of_grown ?_ (by assumption) (by intro k hk; cases hk; omega))))) hx) rfl ?_; rintro uln wq hln he; have hsz := he.size; (have hlno := hln.one))
      | ((with_reducible (show Exit.then _ _ _ _ _)); refine n_cutG (hJ1 _ _ _ ⟨_, _, _, _, _, _, rfl, madeL_small xs, Row.ex (by repeat (first | exact Ex.refl _ | assumption | (refine Ex.of_grown ?_ (by assumption) (by intro k hk; cases hk; omega)) | (refine Ex.trans ?_ (by assumption)))) hln, (by repeat (first | assumption | ((with_reducible apply Bx.grownS); assumption; (first | omega | exact Bx.ne (by assumption) (by omega))) | ((with_reducible apply Bx.below); assumption; omega) | ((with_reducible apply Bx.ex); assumption))), (by repeat (first | assumption | ((with_reducible apply Bx.grownS); assumption; (first | omega | exact Bx.ne (by assumption) (by omega))) | ((with_reducible apply Bx.below); assumption; omega) | ((with_reducible apply Bx.ex); assumption))), (by repeat (first | assumption | ((with_reducible apply Bx.grownS); assumption; (first | omega | exact Bx.ne (by assumption) (by omega))) | ((with_reducible apply Bx.below); assumption; omega) | ((with_reducible apply Bx.ex); assumption))), (by repeat (first | assumption | ((with_reducible apply Bx.grownS); assumption; (first | omega | exact Bx.ne (by assumption) (by omega))) | ((with_reducible apply Bx.below); assumption; omega) | ((with_reducible apply Bx.ex); assumption))), (by repeat (first | assumption | exact Ex.refl _ | (refine Ex.trans ?_ (by assumption)) | (refine Ex.of_grown ?_ (by assumption) (by intro k hk; cases hk; omega))))⟩ ⟨rfl, rfl, rfl, rfl, rfl, trivial⟩ rfl))
      | ((with_reducible (show Exit.then _ _ _ _ _)); refine n_cutG (hJ2 _ _ _ ⟨rfl, (by repeat (first | exact Ex.refl _ | assumption | (refine Ex.of_grown ?_ (by assumption) (by intro k hk; cases hk; omega)) | (refine Ex.trans ?_ (by assumption))))⟩ ⟨rfl, rfl, rfl, rfl, rfl, rfl, trivial⟩ rfl))
      | (refine W_call (Best_any ul l _ (Row.ex (by repeat (first | exact Ex.refl _ | assumption | (refine Ex.of_grown ?_ (by assumption) (by intro k hk; cases hk; omega)) | (refine Ex.trans ?_ (by assumption)))) hl1)) rfl ?_; rintro vq wq ⟨bg, bo, x1n, e2, rfl, hbR⟩ he; have hsz := he.size; obtain ⟨rfl, f0n, hf0n, hx1n⟩ := bestR_ok hvl hbR)
      | ((with_reducible (show Exit.then _ _ _ _ _)); refine n_cutG (hJ3 _ _ _ ⟨_, x1n, f0n, rfl, hf0n, hx1n, (by repeat (first | assumption | ((with_reducible apply Bx.grownS); assumption; (first | omega | exact Bx.ne (by assumption) (by omega))) | ((with_reducible apply Bx.below); assumption; omega) | ((with_reducible apply Bx.ex); assumption))), (by repeat (first | exact Ex.refl _ | assumption | (refine Ex.of_grown ?_ (by assumption) (by intro k hk; cases hk; omega)) | (refine Ex.trans ?_ (by assumption))))⟩ ⟨rfl, rfl, rfl, rfl, rfl, rfl, rfl, rfl, trivial⟩ rfl))
      | (refine W_callv (smallT x1 _ (by omega)) rfl (fun wq he => ?_); have hsz := he.size)
      | (refine W_callv (hpb _) rfl (fun wq he => ?_); have hsz := he.size)
      | ((with_reducible (show Exit.then _ _ _ _ _)); refine n_cutG (hJF _ _ _ ⟨_, rfl, IntsK.ex (by repeat (first | exact Ex.refl _ | assumption | (refine Ex.of_grown ?_ (by assumption) (by intro k hk; cases hk; omega)) | (refine Ex.trans ?_ (by assumption)))) hvp, (by repeat (first | assumption | ((with_reducible apply Bx.grownS); assumption; (first | omega | exact Bx.ne (by assumption) (by omega))) | ((with_reducible apply Bx.below); assumption; omega) | ((with_reducible apply Bx.ex); assumption))), (by repeat (first | exact Ex.refl _ | assumption | (refine Ex.of_grown ?_ (by assumption) (by intro k hk; cases hk; omega)) | (refine Ex.trans ?_ (by assumption))))⟩ ⟨rfl, rfl, rfl, rfl, rfl, rfl, trivial⟩ rfl))
      | (by_cases hv0 : vfE l cs bb = 0; refine W_callv (verifyE ul vp l cs bb (vfE l cs bb) _ (Row.ex (by repeat (first | exact Ex.refl _ | assumption | (refine Ex.of_grown ?_ (by assumption) (by intro k hk; cases hk; omega)) | (refine Ex.trans ?_ (by assumption)))) hl3) (IntsK.ex (by repeat (first | exact Ex.refl _ | assumption | (refine Ex.of_grown ?_ (by assumption) (by intro k hk; cases hk; omega)) | (refine Ex.trans ?_ (by assumption)))) hvpF) rfl) rfl (fun wq he => ?_); have hsz := he.size; rotate_left 1; refine W_callv (verifyE ul vp l cs bb (vfE l cs bb) _ (Row.ex (by repeat (first | exact Ex.refl _ | assumption | (refine Ex.of_grown ?_ (by assumption) (by intro k hk; cases hk; omega)) | (refine Ex.trans ?_ (by assumption)))) hl3) (IntsK.ex (by repeat (first | exact Ex.refl _ | assumption | (refine Ex.of_grown ?_ (by assumption) (by intro k hk; cases hk; omega)) | (refine Ex.trans ?_ (by assumption)))) hvpF) rfl) rfl (fun wq he => ?_); have hsz := he.size; rotate_left 1; (have hpi := vf_inv hv0); (have hpo1 := prv_ok hvl hpi.1); (have hof := off_proves hvl hggd.2.1 hood.2.1 hbbd.2.1 (offF_K l gg oo l.length) hpi.1 hpi.2); (have hxb : ¬ fLt x1 bb := by rw [hx1]; intro hc; have hn := best_nn hvl hf0; unfold fOk at hpo1; exact fN_trans hn.2 hpo1.2.1 hbbd.2.1 (hf0.2 _ hpi.1) hpi.2 ((fLt_low_l hn.2).1 hc)); (have hsb : sF bb := by unfold sF; omega))
      | (refine WM_callv (fun wq he => hpg wq) rfl ?_)
      | (refine WM_callv (fun wq he => hpo wq) rfl ?_)
      | (refine WM_callv (fun wq he => Ret.monoU (off_any ul l gg oo wq (Row.ex (by repeat (first | exact Ex.refl _ | assumption | (refine Ex.of_grown ?_ (by assumption) (by intro k hk; cases hk; omega)) | (refine Ex.trans ?_ (by assumption)))) hl3) hsm hggd hood) (fun r w' _ hr => hr.1)) rfl ?_)
      | (refine WM_callv (fun wq he => llessF (offF l gg oo l.length, gg.2 * oo.2) bb wq (by have h9 := (offF_K l gg oo l.length).1; have h8 := offF_le hsm hggd hood l.length (Nat.le_refl _); unfold sF; simp only; omega) hsb hof) rfl ?_)
      | (refine WM_callv (fun wq he => llessF x1 bb wq hsx hsb hxb) rfl ?_)
      | (refine WM_callv (fun wq he => works_any wq) rfl ?_)
      | (refine W_callv (part_any _ _ _) rfl (fun wq he => ?_); have hsz := he.size)
      | (refine W_callv (works_any _) rfl (fun wq he => ?_); have hsz := he.size)
      | ((with_reducible (show Exit.then _ _ _ _ _)); refine n_cutG (hJA _ _ _ ⟨_, rfl, (by unfold isProof; simp only; omega), (by first | exact LBx.mk1 (by omega) (by omega) (by repeat (first | assumption | ((with_reducible apply Bx.grownS); assumption; (first | omega | exact Bx.ne (by assumption) (by omega))) | ((with_reducible apply Bx.below); assumption; omega) | ((with_reducible apply Bx.ex); assumption))) (by omega) | exact LBx.mk3 (by omega) (by repeat (first | assumption | ((with_reducible apply Bx.grownS); assumption; (first | omega | exact Bx.ne (by assumption) (by omega))) | ((with_reducible apply Bx.below); assumption; omega) | ((with_reducible apply Bx.ex); assumption))) (by omega)), hb16, (by repeat (first | assumption | ((with_reducible apply Bx.grownS); assumption; (first | omega | exact Bx.ne (by assumption) (by omega))) | ((with_reducible apply Bx.below); assumption; omega) | ((with_reducible apply Bx.ex); assumption))), (by repeat (first | exact Ex.refl _ | assumption | (refine Ex.of_grown ?_ (by assumption) (by intro k hk; cases hk; omega)) | (refine Ex.trans ?_ (by assumption))))⟩ ⟨rfl, rfl, rfl, rfl, rfl, rfl, rfl, rfl, rfl, rfl, rfl, rfl, trivial⟩ rfl))
      | (refine W_callv (proofL_any ul vp l (i, j, k) _ (Row.ex (by repeat (first | exact Ex.refl _ | assumption | (refine Ex.of_grown ?_ (by assumption) (by intro k hk; cases hk; omega)) | (refine Ex.trans ?_ (by assumption)))) hl3) hsm hpr (LBx.ints (LBx.ex (by repeat (first | exact Ex.refl _ | assumption | (refine Ex.of_grown ?_ (by assumption) (by intro k hk; cases hk; omega)) | (refine Ex.trans ?_ (by assumption)))) hvp))) rfl (fun wq he => ?_); have hsz := he.size)
      | ((with_reducible (show Exit.then _ _ _ _ _)); refine n_cutG (hJB _ _ _ ⟨_, rfl, LBx.ex (by repeat (first | exact Ex.refl _ | assumption | (refine Ex.of_grown ?_ (by assumption) (by intro k hk; cases hk; omega)) | (refine Ex.trans ?_ (by assumption)))) hvp, ⟨hb16, by omega⟩, (by repeat (first | assumption | ((with_reducible apply Bx.grownS); assumption; (first | omega | exact Bx.ne (by assumption) (by omega))) | ((with_reducible apply Bx.below); assumption; omega) | ((with_reducible apply Bx.ex); assumption))), (by repeat (first | assumption | ((with_reducible apply Bx.grownS); assumption; (first | omega | exact Bx.ne (by assumption) (by omega))) | ((with_reducible apply Bx.below); assumption; omega) | ((with_reducible apply Bx.ex); assumption))), (by repeat (first | exact Ex.refl _ | assumption | (refine Ex.of_grown ?_ (by assumption) (by intro k hk; cases hk; omega)) | (refine Ex.trans ?_ (by assumption))))⟩ ⟨rfl, rfl, rfl, rfl, rfl, rfl, rfl, rfl, rfl, rfl, rfl, rfl, rfl, trivial⟩ rfl))
      | (refine W_callv (llessT b (dblL l (i, j, k)) _ (by unfold sF; omega) (by unfold sF; omega) hlt) rfl (fun wq he => ?_); have hsz := he.size)
      | (refine W_callv (llessF b (dblL l (i, j, k)) _ (by unfold sF; omega) (by unfold sF; omega) hlt) rfl (fun wq he => ?_); have hsz := he.size)
      | ((with_reducible (show Exit.then _ _ _ _ _)); refine n_cutG (hJC _ _ _ ⟨_, rfl, (by first | exact LBx.st (by assumption) (LBx.ex (by repeat (first | exact Ex.refl _ | assumption | (refine Ex.of_grown ?_ (by assumption) (by intro k hk; cases hk; omega)) | (refine Ex.trans ?_ (by assumption)))) hvpB) | exact LBx.ex (by repeat (first | exact Ex.refl _ | assumption | (refine Ex.of_grown ?_ (by assumption) (by intro k hk; cases hk; omega)) | (refine Ex.trans ?_ (by assumption)))) hvpB), (by first | exact bestK_take hsm hbk hpr hlt | exact bestK_keep hbk hlt), (by repeat (first | assumption | ((with_reducible apply Bx.grownS); assumption; (first | omega | exact Bx.ne (by assumption) (by omega))) | ((with_reducible apply Bx.below); assumption; omega) | ((with_reducible apply Bx.ex); assumption))), (by repeat (first | assumption | ((with_reducible apply Bx.grownS); assumption; (first | omega | exact Bx.ne (by assumption) (by omega))) | ((with_reducible apply Bx.below); assumption; omega) | ((with_reducible apply Bx.ex); assumption))), (by repeat (first | exact Ex.refl _ | assumption | (refine Ex.of_grown ?_ (by assumption) (by intro k hk; cases hk; omega)) | (refine Ex.trans ?_ (by assumption))))⟩ ⟨rfl, rfl, rfl, rfl, rfl, rfl, rfl, rfl, rfl, rfl, rfl, rfl, rfl, trivial⟩ rfl))
      | (refine W_callv (verifyE ul vp l (codesL (i, j, k)) ((dblL l (i, j, k)).1, 2 * (dblL l (i, j, k)).2) 0 _ (Row.ex (by repeat (first | exact Ex.refl _ | assumption | (refine Ex.of_grown ?_ (by assumption) (by intro k hk; cases hk; omega)) | (refine Ex.trans ?_ (by assumption)))) hl3) (LBx.ints (LBx.ex (by repeat (first | exact Ex.refl _ | assumption | (refine Ex.of_grown ?_ (by assumption) (by intro k hk; cases hk; omega)) | (refine Ex.trans ?_ (by assumption)))) hvpC)) (half_ok hsm hpr (by omega)).1) rfl (fun wq he => ?_); have hsz := he.size)
      | (refine W_callv (verifyE ul vp l (codesL (i, j, k)) ((dblL l (i, j, k)).1 * 3 + 1, 2 * (dblL l (i, j, k)).2 * 3) 14 _ (Row.ex (by repeat (first | exact Ex.refl _ | assumption | (refine Ex.of_grown ?_ (by assumption) (by intro k hk; cases hk; omega)) | (refine Ex.trans ?_ (by assumption)))) hl3) (LBx.ints (LBx.ex (by repeat (first | exact Ex.refl _ | assumption | (refine Ex.of_grown ?_ (by assumption) (by intro k hk; cases hk; omega)) | (refine Ex.trans ?_ (by assumption)))) hvpC)) (half_ok hsm hpr (by omega)).2) rfl (fun wq he => ?_); have hsz := he.size)
      | ((with_reducible (show Exit.then _ _ _ _ _)); refine n_cutG (hJD _ _ _ ⟨_, rfl, (by repeat (first | assumption | ((with_reducible apply Bx.grownS); assumption; (first | omega | exact Bx.ne (by assumption) (by omega))) | ((with_reducible apply Bx.below); assumption; omega) | ((with_reducible apply Bx.ex); assumption))), (by repeat (first | exact Ex.refl _ | assumption | (refine Ex.of_grown ?_ (by assumption) (by intro k hk; cases hk; omega)) | (refine Ex.trans ?_ (by assumption))))⟩ ⟨rfl, rfl, rfl, rfl, rfl, rfl, rfl, trivial⟩ rfl))
      | ((with_reducible (show Exit.then _ _ _ _ _)); refine n_cutG (hJE _ _ _ ⟨_, _, rfl, (by first | exact IntsK.built (xs := [q0 % l.length, q1 % l.length, q2 % l.length]) (by repeat (first | assumption | ((with_reducible apply Bx.grownS); assumption; (first | omega | exact Bx.ne (by assumption) (by omega))) | ((with_reducible apply Bx.below); assumption; omega) | ((with_reducible apply Bx.ex); assumption))) rfl (by simp) | exact ints13 (by repeat (first | assumption | ((with_reducible apply Bx.grownS); assumption; (first | omega | exact Bx.ne (by assumption) (by omega))) | ((with_reducible apply Bx.below); assumption; omega) | ((with_reducible apply Bx.ex); assumption)))), (by repeat (first | exact Ex.refl _ | assumption | (refine Ex.of_grown ?_ (by assumption) (by intro k hk; cases hk; omega)) | (refine Ex.trans ?_ (by assumption))))⟩ ⟨rfl, rfl, rfl, rfl, rfl, rfl, trivial⟩ rfl))
      | ((with_reducible (show C _ _ _ _ _)); refine c_loopG (fun (i : Nat) ps wr => ∃ b16 : Nat, ∃ ii : Int, ∃ b : Int × Int, ps = [(6, .pointer (some ⟨b6, 0, none⟩)), (7, .pointer (some ⟨b7, 0, none⟩)), (8, .pointer (some ⟨b8, 0, none⟩)), (9, .pointer (some ⟨b9, 0, none⟩)), (11, ul), (12, .int .i64 l.length), (14, .pointer (some ⟨b14, 0, none⟩)), (16, .pointer (some ⟨b16, 0, none⟩)), (17, .int .i64 ii)] ∧ ii = i ∧ i ≤ l.length ∧ wr3.heap.size ≤ b16 ∧ Bx wr b16 [.int .i64 b.1, .int .i64 b.2] 24 ∧ bestK l i i i b ∧ Ex wr3 wr) (fun i => l.length - i) 0 _ ⟨_, _, (0, 1), rfl, rfl, Nat.zero_le _, (by omega), (by repeat (first | assumption | ((with_reducible apply Bx.grownS); assumption; (first | omega | exact Bx.ne (by assumption) (by omega))) | ((with_reducible apply Bx.below); assumption; omega) | ((with_reducible apply Bx.ex); assumption))), bestK_start l, (by repeat (first | exact Ex.refl _ | assumption | (refine Ex.of_grown ?_ (by assumption) (by intro k hk; cases hk; omega)) | (refine Ex.trans ?_ (by assumption))))⟩ ⟨rfl, rfl, rfl, rfl, rfl, rfl, rfl, rfl, rfl, trivial⟩ (by ((conv => lhs; whnf) <;> exact rfl)) ?_; rintro JI hJI i u ps wr ⟨b16, ii, b, rfl, rfl, hi, hb16, hx16, hbk, he⟩; have hsz := he.size; have tkI : True := trivial)
      | ((with_reducible (show Exit.then _ _ _ _ _)); refine n_roundG (i + 1) (hJI _ _ _ _ ⟨_, _, _, rfl, by omega, by omega, hb16, (by repeat (first | assumption | ((with_reducible apply Bx.grownS); assumption; (first | omega | exact Bx.ne (by assumption) (by omega))) | ((with_reducible apply Bx.below); assumption; omega) | ((with_reducible apply Bx.ex); assumption))), bestK_next hbk, (by repeat (first | exact Ex.refl _ | assumption | (refine Ex.of_grown ?_ (by assumption) (by intro k hk; cases hk; omega)) | (refine Ex.trans ?_ (by assumption))))⟩ ⟨rfl, rfl, rfl, rfl, rfl, rfl, rfl, rfl, rfl, trivial⟩ rfl) (by omega))
      | ((with_reducible (show C _ _ _ _ _)); clear tkJ; refine c_loopG (fun (j : Nat) ps wr => ∃ jj : Int, ∃ b : Int × Int, ps = [(6, .pointer (some ⟨b6, 0, none⟩)), (7, .pointer (some ⟨b7, 0, none⟩)), (8, .pointer (some ⟨b8, 0, none⟩)), (9, .pointer (some ⟨b9, 0, none⟩)), (11, ul), (12, .int .i64 l.length), (14, .pointer (some ⟨b14, 0, none⟩)), (16, .pointer (some ⟨b16, 0, none⟩)), (17, .int .i64 i), (18, .int .i64 jj)] ∧ jj = j ∧ i ≤ j ∧ j ≤ l.length ∧ wr3.heap.size ≤ b16 ∧ Bx wr b16 [.int .i64 b.1, .int .i64 b.2] 24 ∧ bestK l i j j b ∧ Ex wr3 wr) (fun j => l.length - j) i _ ⟨_, _, rfl, rfl, Nat.le_refl _, hi, hb16, (by repeat (first | assumption | ((with_reducible apply Bx.grownS); assumption; (first | omega | exact Bx.ne (by assumption) (by omega))) | ((with_reducible apply Bx.below); assumption; omega) | ((with_reducible apply Bx.ex); assumption))), hbk, (by repeat (first | exact Ex.refl _ | assumption | (refine Ex.of_grown ?_ (by assumption) (by intro k hk; cases hk; omega)) | (refine Ex.trans ?_ (by assumption))))⟩ ⟨rfl, rfl, rfl, rfl, rfl, rfl, rfl, rfl, rfl, rfl, trivial⟩ (by ((conv => lhs; whnf) <;> exact rfl)) ?_; rintro JJ hJJ j u ps wr ⟨jj, b, rfl, rfl, hij, hj, hb16, hx16, hbk, he⟩; have hsz := he.size; have tkJ2 : True := trivial)
      | ((with_reducible (show Exit.then _ _ _ _ _)); refine n_roundG (j + 1) (hJJ _ _ _ _ ⟨_, _, rfl, by omega, by omega, by omega, hb16, (by repeat (first | assumption | ((with_reducible apply Bx.grownS); assumption; (first | omega | exact Bx.ne (by assumption) (by omega))) | ((with_reducible apply Bx.below); assumption; omega) | ((with_reducible apply Bx.ex); assumption))), bestK_row hbk, (by repeat (first | exact Ex.refl _ | assumption | (refine Ex.of_grown ?_ (by assumption) (by intro k hk; cases hk; omega)) | (refine Ex.trans ?_ (by assumption))))⟩ ⟨rfl, rfl, rfl, rfl, rfl, rfl, rfl, rfl, rfl, rfl, trivial⟩ rfl) (by omega))
      | ((with_reducible (show C _ _ _ _ _)); clear tkK; refine c_loopG (fun (k : Nat) ps wr => ∃ kk : Int, ∃ b : Int × Int, ps = [(6, .pointer (some ⟨b6, 0, none⟩)), (7, .pointer (some ⟨b7, 0, none⟩)), (8, .pointer (some ⟨b8, 0, none⟩)), (9, .pointer (some ⟨b9, 0, none⟩)), (11, ul), (12, .int .i64 l.length), (14, .pointer (some ⟨b14, 0, none⟩)), (16, .pointer (some ⟨b16, 0, none⟩)), (17, .int .i64 i), (18, .int .i64 j), (19, .int .i64 kk)] ∧ kk = k ∧ j ≤ k ∧ k ≤ l.length ∧ wr3.heap.size ≤ b16 ∧ Bx wr b16 [.int .i64 b.1, .int .i64 b.2] 24 ∧ bestK l i j k b ∧ Ex wr3 wr) (fun k => l.length - k) j _ ⟨_, _, rfl, rfl, Nat.le_refl _, hj, hb16, (by repeat (first | assumption | ((with_reducible apply Bx.grownS); assumption; (first | omega | exact Bx.ne (by assumption) (by omega))) | ((with_reducible apply Bx.below); assumption; omega) | ((with_reducible apply Bx.ex); assumption))), hbk, (by repeat (first | exact Ex.refl _ | assumption | (refine Ex.of_grown ?_ (by assumption) (by intro k hk; cases hk; omega)) | (refine Ex.trans ?_ (by assumption))))⟩ ⟨rfl, rfl, rfl, rfl, rfl, rfl, rfl, rfl, rfl, rfl, rfl, trivial⟩ (by ((conv => lhs; whnf) <;> exact rfl)) ?_; rintro JK hJK k u ps wr ⟨kk, b, rfl, rfl, hjk, hk, hb16, hx16, hbk, he⟩; have hsz := he.size; have tkK2 : True := trivial)
      | ((with_reducible (show Exit.then _ _ _ _ _)); refine n_roundG (k + 1) (hJK _ _ _ _ ⟨_, _, rfl, by omega, by omega, by omega, hb16, (by repeat (first | assumption | ((with_reducible apply Bx.grownS); assumption; (first | omega | exact Bx.ne (by assumption) (by omega))) | ((with_reducible apply Bx.below); assumption; omega) | ((with_reducible apply Bx.ex); assumption))), (by first | exact hbkC | exact bestK_skip hbk (by unfold isProof; simp only; omega)), (by repeat (first | exact Ex.refl _ | assumption | (refine Ex.of_grown ?_ (by assumption) (by intro k hk; cases hk; omega)) | (refine Ex.trans ?_ (by assumption))))⟩ ⟨rfl, rfl, rfl, rfl, rfl, rfl, rfl, rfl, rfl, rfl, rfl, trivial⟩ rfl) (by omega))
      | (with_reducible apply W_nil)
      | ((with_reducible apply WQ_nil); exact rfl; intro wq he; have hsz := he.size)
      | (with_reducible apply WM_nil; intro wq he; have hsz := he.size)
      | (with_reducible apply WB_nil)
      | (with_reducible apply WT_nil)
      | (with_reducible apply WT_cons)
      | (with_reducible apply t_sink)
      | ((with_reducible apply t_keep); (focus ((repeat (first | assumption | exact Ex.refl _ | (refine Ex.trans ?_ (by assumption)) | (refine Ex.of_grown ?_ (by assumption) (by intro k hk; cases hk; omega)))); done)); intro wq he; have hsz := he.size)
      | ((with_reducible apply W_box); exact rfl; exact rfl; intro bq wq hbq he hnq; have hltq := Bx.lt hbq; have hsz := he.size)
      | ((with_reducible apply W_alloc); exact rfl; intro bq wq hbq he hnq; have hltq := Bx.lt hbq; have hsz := he.size)
      | ((with_reducible apply W_indexInt); ((conv => lhs; whnf) <;> exact rfl); (focus ((repeat (first | assumption | ((with_reducible apply OwnR.grownS); assumption; omega) | ((with_reducible apply Row.ex); assumption) | ((with_reducible apply OwnR.ex); assumption) | ((with_reducible apply Bx.grownS); assumption; (first | omega | exact Bx.ne (by assumption) (by omega))) | ((with_reducible apply Bx.below); assumption; omega) | ((with_reducible apply Own.grownS); assumption; omega) | ((with_reducible apply Bx.ex); assumption) | ((with_reducible apply IntsK.ex); assumption) | ((with_reducible apply Own.ex); assumption) | ((with_reducible apply Prs.ex); assumption))); done)); exact rfl; omega; intro pq hpq)
      | ((with_reducible apply W_indexIntss); ((conv => lhs; whnf) <;> exact rfl); assumption; (focus ((repeat (first | assumption | exact Ex.refl _ | (refine Ex.trans ?_ (by assumption)) | (refine Ex.of_grown ?_ (by assumption) (by intro k hk; cases hk; omega)))); done)); exact rfl; omega; intro pq uq hpq huq)
      | ((with_reducible apply WQ_indexInt); ((conv => lhs; whnf) <;> exact rfl); (focus ((repeat (first | assumption | ((with_reducible apply OwnR.grownS); assumption; omega) | ((with_reducible apply Row.ex); assumption) | ((with_reducible apply OwnR.ex); assumption) | ((with_reducible apply Bx.grownS); assumption; (first | omega | exact Bx.ne (by assumption) (by omega))) | ((with_reducible apply Bx.below); assumption; omega) | ((with_reducible apply Own.grownS); assumption; omega) | ((with_reducible apply Bx.ex); assumption) | ((with_reducible apply IntsK.ex); assumption) | ((with_reducible apply Own.ex); assumption) | ((with_reducible apply Prs.ex); assumption))); done)); exact rfl; omega; intro pq hpq)
      | ((with_reducible apply WQ_indexIntss); ((conv => lhs; whnf) <;> exact rfl); assumption; (focus ((repeat (first | assumption | exact Ex.refl _ | (refine Ex.trans ?_ (by assumption)) | (refine Ex.of_grown ?_ (by assumption) (by intro k hk; cases hk; omega)))); done)); exact rfl; omega; intro pq uq hpq huq)
      | ((with_reducible apply WM_indexInt); ((conv => lhs; whnf) <;> exact rfl); (focus ((repeat (first | assumption | ((with_reducible apply OwnR.grownS); assumption; omega) | ((with_reducible apply Row.ex); assumption) | ((with_reducible apply OwnR.ex); assumption) | ((with_reducible apply Bx.grownS); assumption; (first | omega | exact Bx.ne (by assumption) (by omega))) | ((with_reducible apply Bx.below); assumption; omega) | ((with_reducible apply Own.grownS); assumption; omega) | ((with_reducible apply Bx.ex); assumption) | ((with_reducible apply IntsK.ex); assumption) | ((with_reducible apply Own.ex); assumption) | ((with_reducible apply Prs.ex); assumption))); done)); exact rfl; omega; intro pq hpq)
      | ((with_reducible apply WM_indexIntss); ((conv => lhs; whnf) <;> exact rfl); assumption; (focus ((repeat (first | assumption | exact Ex.refl _ | (refine Ex.trans ?_ (by assumption)) | (refine Ex.of_grown ?_ (by assumption) (by intro k hk; cases hk; omega)))); done)); exact rfl; omega; intro pq uq hpq huq)
      | ((with_reducible apply W_indexPr); ((conv => lhs; whnf) <;> exact rfl); (focus ((repeat (first | assumption | ((with_reducible apply OwnR.grownS); assumption; omega) | ((with_reducible apply Row.ex); assumption) | ((with_reducible apply OwnR.ex); assumption) | ((with_reducible apply Bx.grownS); assumption; (first | omega | exact Bx.ne (by assumption) (by omega))) | ((with_reducible apply Bx.below); assumption; omega) | ((with_reducible apply Own.grownS); assumption; omega) | ((with_reducible apply Bx.ex); assumption) | ((with_reducible apply IntsK.ex); assumption) | ((with_reducible apply Own.ex); assumption) | ((with_reducible apply Prs.ex); assumption))); done)); exact rfl; omega; intro pq hpq)
      | ((with_reducible apply WQ_indexPr); ((conv => lhs; whnf) <;> exact rfl); (focus ((repeat (first | assumption | ((with_reducible apply OwnR.grownS); assumption; omega) | ((with_reducible apply Row.ex); assumption) | ((with_reducible apply OwnR.ex); assumption) | ((with_reducible apply Bx.grownS); assumption; (first | omega | exact Bx.ne (by assumption) (by omega))) | ((with_reducible apply Bx.below); assumption; omega) | ((with_reducible apply Own.grownS); assumption; omega) | ((with_reducible apply Bx.ex); assumption) | ((with_reducible apply IntsK.ex); assumption) | ((with_reducible apply Own.ex); assumption) | ((with_reducible apply Prs.ex); assumption))); done)); exact rfl; omega; intro pq hpq)
      | ((with_reducible apply W_bsP); exact rfl; exact rfl; intro bq wq hbq he hnq; have hltq := Bx.lt hbq; have hsz := he.size)
      | ((with_reducible apply W_storeA); exact rfl; (focus ((repeat (first | assumption | ((with_reducible apply Bx.grownS); assumption; (first | omega | exact Bx.ne (by assumption) (by omega))) | ((with_reducible apply Bx.below); assumption; omega) | ((with_reducible apply Bx.ex); assumption))); done)); exact rfl; exact rfl; exact rfl; (repeat' (first | exact trivial | (first | exact rfl | assumption | exact IntsK.one (by assumption) | exact Prs.one (by assumption) | exact Own.one (by assumption) | exact Row.one (by assumption) | exact OwnR.one (by assumption)) | constructor)); intro wq hbq hgq; have he : Ex w wq := (by repeat (first | assumption | exact Ex.refl _ | (refine Ex.trans ?_ (by assumption)) | (refine Ex.of_grown ?_ (by assumption) (by intro k hk; cases hk; omega)))); have hsz := he.size; have hgz := hgq.size)
      | ((with_reducible apply W_store); exact rfl; (focus ((repeat (first | assumption | ((with_reducible apply Bx.grownS); assumption; (first | omega | exact Bx.ne (by assumption) (by omega))) | ((with_reducible apply Bx.below); assumption; omega) | ((with_reducible apply Bx.ex); assumption))); done)); exact Nat.le_of_ble_eq_true rfl; ((conv => lhs; whnf) <;> exact rfl); (first | exact rfl | assumption | exact IntsK.one (by assumption) | exact Prs.one (by assumption) | exact Own.one (by assumption) | exact Row.one (by assumption) | exact OwnR.one (by assumption)); simp only [lset]; intro wq hbq hgq; have he : Ex w wq := (by repeat (first | assumption | exact Ex.refl _ | (refine Ex.trans ?_ (by assumption)) | (refine Ex.of_grown ?_ (by assumption) (by intro k hk; cases hk; omega)))); have hsz := he.size; have hgz := hgq.size)
      | ((with_reducible apply W_pass); exact rfl; exact rfl; exact rfl; exact rfl; exact rfl)
      | ((with_reducible apply W_take); exact rfl; exact rfl; exact rfl)
      | ((with_reducible apply W_passU); exact rfl; exact rfl; exact rfl; exact rfl)
      | ((with_reducible apply W_split); exact rfl; exact rfl; intro _; rotate_left 1; intro _)
      | ((with_reducible apply WQ_pass); exact rfl; exact rfl; exact rfl; exact rfl; exact rfl)
      | ((with_reducible apply WQ_take); exact rfl; exact rfl; exact rfl)
      | ((with_reducible apply WQ_passU); exact rfl; exact rfl; exact rfl; exact rfl)
      | ((with_reducible apply WQ_split); exact rfl; exact rfl; intro _; rotate_left 1; intro _)
      | ((with_reducible apply WM_pass); exact rfl; exact rfl; exact rfl; exact rfl; exact rfl)
      | ((with_reducible apply WM_take); exact rfl; exact rfl; exact rfl)
      | ((with_reducible apply WM_passU); exact rfl; exact rfl; exact rfl; exact rfl)
      | ((with_reducible apply WM_split); exact rfl; exact rfl; intro _; rotate_left 1; intro _)
      | ((with_reducible apply c_quiet); kernel_rfl)
      | ((with_reducible apply W_convBytes); exact rfl; (first | assumption | (unfold maxLen; omega)); intro vq wq hvq he; have hsz := he.size)
      | ((with_reducible apply W_bs1); ((conv => lhs; whnf) <;> exact rfl); (first | exact rfl | assumption | exact IntsK.one (by assumption) | exact Prs.one (by assumption) | exact Own.one (by assumption) | exact Row.one (by assumption) | exact OwnR.one (by assumption)); decide; decide; exact rfl; exact rfl; ((simp only [lay, lset, List.replicate_succ, List.replicate_zero]) <;> exact rfl); intro bq wq hbq he hnq; have hltq := Bx.lt hbq; have hsz := he.size)
      | ((with_reducible apply W_bs3); ((conv => lhs; whnf) <;> exact rfl); ((conv => lhs; whnf) <;> exact rfl); ((conv => lhs; whnf) <;> exact rfl); (first | exact rfl | assumption | exact IntsK.one (by assumption) | exact Prs.one (by assumption) | exact Own.one (by assumption) | exact Row.one (by assumption) | exact OwnR.one (by assumption)); (first | exact rfl | assumption | exact IntsK.one (by assumption) | exact Prs.one (by assumption) | exact Own.one (by assumption) | exact Row.one (by assumption) | exact OwnR.one (by assumption)); (first | exact rfl | assumption | exact IntsK.one (by assumption) | exact Prs.one (by assumption) | exact Own.one (by assumption) | exact Row.one (by assumption) | exact OwnR.one (by assumption)); decide; decide; exact rfl; exact rfl; ((simp only [lay, lset, List.replicate_succ, List.replicate_zero]) <;> exact rfl); intro bq wq hbq he hnq; have hltq := Bx.lt hbq; have hsz := he.size)
      | (with_reducible apply c_seq)
      | (with_reducible apply c_region)
      | (with_reducible apply c_block)
      | (with_reducible apply c_skip)
      | (with_reducible apply c_ret)
      | (with_reducible apply c_exit)
      | ((with_reducible apply c_cond_true); exact rfl)
      | ((with_reducible apply c_cond_false); exact rfl)
      | ((with_reducible apply c_cond_dec); exact rfl; intro _; rotate_left 1; intro _)
      | ((with_reducible apply c_cond_bool); exact rfl; intro _; rotate_left 1; intro _)
      | (with_reducible apply n_then)
      | (with_reducible apply n_block)
      | (with_reducible apply e_then)
      | (with_reducible apply e_block)
      | (with_reducible apply r_then)
      | (with_reducible apply r_block)
      | ((with_reducible apply e_block'); decide)
      | ((with_reducible apply p_ret1); exact rfl; ((conv => lhs; whnf) <;> exact rfl); refine ⟨_, rfl, ?_, (by repeat (first | assumption | exact Ex.refl _ | (refine Ex.trans ?_ (by assumption)) | (refine Ex.of_grown ?_ (by assumption) (by intro k hk; cases hk; omega))))⟩)
      | ((with_reducible apply q_ret1); exact rfl; ((conv => lhs; whnf) <;> exact rfl); refine ⟨_, rfl, ?_, (by repeat (first | assumption | exact Ex.refl _ | (refine Ex.trans ?_ (by assumption)) | (refine Ex.of_grown ?_ (by assumption) (by intro k hk; cases hk; omega))))⟩)
      | ((with_reducible apply p_retct); exact rfl; exact inferInstance; exact inferInstance; exact rfl; (focus ((repeat (first | assumption | ((with_reducible apply Bx.grownS); assumption; (first | omega | exact Bx.ne (by assumption) (by omega))) | ((with_reducible apply Bx.below); assumption; omega) | ((with_reducible apply Bx.ex); assumption))); done)); exact rfl; exact rfl; refine ⟨_, rfl, ?_, (by repeat (first | assumption | exact Ex.refl _ | (refine Ex.trans ?_ (by assumption)) | (refine Ex.of_grown ?_ (by assumption) (by intro k hk; cases hk; omega))))⟩)
      | ((exfalso; omega)))
  all_goals first | rfl | skip
end Go.Proofs.Ytbmjigneekodnaa
