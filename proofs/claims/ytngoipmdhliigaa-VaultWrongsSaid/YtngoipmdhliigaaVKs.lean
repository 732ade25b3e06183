/-
  What this text proves: the mathematics of shares: values of polynomials modulo 251, one polynomial alone goes through as many points as it has coefficients, and how it is built. It speaks of plain functions.
-/
import Derived.KernelRfl
set_option linter.unusedVariables false
set_option linter.unusedSimpArgs false
namespace Go.Pv
/-- The same modulo 251. -/
def Cg (a b : Int) : Prop := a % 251 = b % 251
theorem Cg.refl (a : Int) : Cg a a := rfl
theorem Cg.symm {a b : Int} (h : Cg a b) : Cg b a := Eq.symm h
theorem Cg.trans {a b c : Int} (h : Cg a b) (k : Cg b c) : Cg a c := Eq.trans h k
theorem Cg.add {a b c d : Int} (h : Cg a b) (k : Cg c d) : Cg (a + c) (b + d) := by
  unfold Cg at *; rw [Int.add_emod, h, k, ← Int.add_emod]
theorem Cg.mul {a b c d : Int} (h : Cg a b) (k : Cg c d) : Cg (a * c) (b * d) := by
  unfold Cg at *; rw [Int.mul_emod, h, k, ← Int.mul_emod]
theorem Cg.sub {a b c d : Int} (h : Cg a b) (k : Cg c d) : Cg (a - c) (b - d) := by
  unfold Cg at *; rw [Int.sub_emod, h, k, ← Int.sub_emod]
theorem Cg.md (a : Int) : Cg (a % 251) a := Int.emod_emod_of_dvd _ (Int.dvd_refl _)
theorem Cg.eq {a b : Int} (h : Cg a b) (ha : 0 ≤ a ∧ a < 251) (hb : 0 ≤ b ∧ b < 251) : a = b := by unfold Cg at h; omega
theorem Cg.zero {a : Int} : Cg a 0 ↔ a % 251 = 0 := by unfold Cg; simp
theorem md_bd (a : Int) : 0 ≤ a % 251 ∧ a % 251 < 251 := ⟨Int.emod_nonneg _ (by decide), Int.emod_lt_of_pos _ (by decide)⟩
/-- The inverse as the program reckons it: a power, by squares. -/
def invTo : Nat → Int → Int → Int → Int
  | 0, _, inv, _ => inv
  | f + 1, left, inv, n => if left > 0 then invTo f (left / 2) (if left % 2 = 1 then inv * n % 251 else inv) (n * n % 251) else inv
def invN (n : Int) : Int := invTo 8 249 1 n
def invAll : Nat → Bool
  | 0 => true
  | k + 1 => (decide (invN ((k : Int) + 1) * ((k : Int) + 1) % 251 = 1) && decide (0 ≤ invN ((k : Int) + 1)) && decide (invN ((k : Int) + 1) < 251)) && invAll k
theorem invAll_ok : invAll 250 = true := by kernel_rfl
theorem invAll_at : ∀ {m : Nat}, invAll m = true → ∀ k : Nat, k < m → invN ((k : Int) + 1) * ((k : Int) + 1) % 251 = 1 ∧ 0 ≤ invN ((k : Int) + 1) ∧ invN ((k : Int) + 1) < 251
  | 0, _, k, hk => absurd hk (by omega)
  | m + 1, h, k, hk => by
    simp only [invAll, Bool.and_eq_true, decide_eq_true_eq] at h
    rcases Nat.lt_or_ge k m with h1 | h1
    · exact invAll_at h.2 k h1
    · obtain rfl : k = m := by omega
      exact ⟨h.1.1.1, h.1.1.2, h.1.2⟩
theorem inv_ok {n : Int} (h : 1 ≤ n ∧ n ≤ 250) : Cg (invN n * n) 1 ∧ 0 ≤ invN n ∧ invN n < 251 := by
  have := invAll_at invAll_ok (n - 1).toNat (by omega)
  rw [show (((n - 1).toNat : Nat) : Int) + 1 = n by omega] at this
  exact ⟨this.1, this.2⟩
theorem inv_zero : invN 0 = 0 := by decide
theorem cg_cancel {a b : Int} (ha : ¬ Cg a 0) (h : Cg (a * b) 0) : Cg b 0 := by
  have h1 := md_bd a
  have h2 : a % 251 ≠ 0 := fun e => ha (Cg.zero.2 e)
  have hi := (inv_ok (n := a % 251) (by omega)).1
  have h3 : Cg (invN (a % 251) * (a % 251) * b) (invN (a % 251) * (a * b)) := by
    have := Cg.mul (Cg.refl (invN (a % 251))) (Cg.mul (Cg.md a) (Cg.refl b))
    rwa [← Int.mul_assoc] at this
  have h4 := (Cg.mul hi (Cg.refl b)).symm.trans (h3.trans (Cg.mul (Cg.refl _) h))
  simpa using h4
/-! ### Values of polynomials -/
def evP : List Int → Int → Int
  | [], _ => 0
  | c :: r, x => c + x * evP r x
def pw (x : Int) : Nat → Int
  | 0 => 1
  | k + 1 => pw x k * x
theorem evP_app (x : Int) (c : Int) : ∀ l : List Int, evP (l ++ [c]) x = evP l x + c * pw x l.length
  | [] => by simp [evP, pw]
  | a :: r => by
    have ih := evP_app x c r
    simp only [List.cons_append, evP, ih, List.length_cons, pw, Int.mul_add]
    have : x * (c * pw x r.length) = c * (pw x r.length * x) := by rw [Int.mul_comm x, Int.mul_assoc]
    omega
theorem evP_cg : ∀ {a b : List Int} {x y : Int}, a.length = b.length → (∀ i, i < a.length → Cg (a.getD i 0) (b.getD i 0)) → Cg x y → Cg (evP a x) (evP b y)
  | [], [], _, _, _, _, _ => rfl
  | [], _ :: _, _, _, h, _, _ => by simp at h
  | _ :: _, [], _, _, h, _, _ => by simp at h
  | a :: r, b :: s, x, y, h, hc, hx => by
    have h0 := hc 0 (by simp)
    have ih := evP_cg (a := r) (b := s) (by simpa using h) (fun i hi => by have := hc (i + 1) (by simpa using hi); simpa using this) hx
    exact Cg.add (by simpa using h0) (Cg.mul hx ih)
theorem evP_x {l : List Int} {x y : Int} (h : Cg x y) : Cg (evP l x) (evP l y) := evP_cg rfl (fun _ _ => rfl) h
/-- What is left of a polynomial when a zero is divided out. -/
def dvP : List Int → Int → List Int
  | [], _ => []
  | c :: r, a => evP (c :: r) a :: dvP r a
theorem dvP_len : ∀ (l : List Int) (a : Int), (dvP l a).length = l.length
  | [], _ => rfl
  | c :: r, a => by simp [dvP, dvP_len r a]
theorem dvP_ev (x a : Int) : ∀ (c : Int) (r : List Int), evP (c :: r) x - evP (c :: r) a = (x - a) * evP (dvP r a) x
  | c, [] => by simp [evP, dvP]
  | c, d :: s => by
    have ih := dvP_ev x a d s
    have e1 : evP (c :: d :: s) x = c + x * evP (d :: s) x := rfl
    have e2 : evP (c :: d :: s) a = c + a * evP (d :: s) a := rfl
    have e3 : evP (dvP (d :: s) a) x = evP (d :: s) a + x * evP (dvP s a) x := rfl
    rw [e1, e2, e3]
    have e4 : evP (d :: s) x = (x - a) * evP (dvP s a) x + evP (d :: s) a := by omega
    rw [e4, Int.mul_add, Int.mul_add, Int.sub_mul x a (evP (d :: s) a)]
    have e5 : (x - a) * (x * evP (dvP s a) x) = x * ((x - a) * evP (dvP s a) x) := by
      rw [← Int.mul_assoc, ← Int.mul_assoc, Int.mul_comm (x - a) x]
    rw [e5]; omega
theorem dvP_zero {a : Int} : ∀ {r : List Int}, (∀ i, i < r.length → Cg ((dvP r a).getD i 0) 0) → Cg (evP r a) 0 ∧ ∀ i, i < r.length → Cg (r.getD i 0) 0
  | [], _ => ⟨rfl, fun i hi => by simp at hi⟩
  | c :: r, h => by
    have h0 : Cg (evP (c :: r) a) 0 := by have := h 0 (by simp); simpa [dvP] using this
    have ih := dvP_zero (a := a) (r := r) fun i hi => by have := h (i + 1) (by simpa using hi); simpa [dvP] using this
    refine ⟨h0, fun i hi => ?_⟩
    cases i with
    | zero =>
      have e1 : evP (c :: r) a = c + a * evP r a := rfl
      rw [e1] at h0
      have h2 := Cg.sub h0 (Cg.mul (Cg.refl a) ih.1)
      simp only [List.getD_cons_zero]
      have e2 : c + a * evP r a - a * evP r a = c := by omega
      rw [e2] at h2
      simpa using h2
    | succ i => simpa using ih.2 i (by simpa using hi)
/-- A polynomial that is 0 at as many places as it has coefficients is 0. -/
theorem roots_zero : ∀ (l xs : List Int), xs.length = l.length → (∀ i k, k < i → i < xs.length → ¬ Cg (xs.getD i 0) (xs.getD k 0)) → (∀ i, i < xs.length → Cg (evP l (xs.getD i 0)) 0) → ∀ i, i < l.length → Cg (l.getD i 0) 0
  | [], _, _, _, _, i, hi => by simp at hi
  | c :: r, [], h, _, _, _, _ => by simp at h
  | c :: r, a :: s, h, hd, hz, i, hi => by
    have ha : Cg (evP (c :: r) a) 0 := by have := hz 0 (by simp); simpa using this
    have hq := roots_zero (dvP r a) s (by rw [dvP_len]; simpa using h) (fun i k hk hi => by have := hd (i + 1) (k + 1) (by omega) (by simpa using hi); simpa using this) (fun i hi => by
      have h1 : Cg (evP (c :: r) (s.getD i 0)) 0 := by have := hz (i + 1) (by simpa using hi); simpa using this
      have h2 : ¬ Cg (s.getD i 0) a := by have := hd (i + 1) 0 (by omega) (by simpa using hi); simpa using this
      have h3 := dvP_ev (s.getD i 0) a c r
      have h4 : Cg ((s.getD i 0 - a) * evP (dvP r a) (s.getD i 0)) 0 := by
        rw [← h3]; simpa using Cg.sub h1 ha
      refine cg_cancel (fun h5 => h2 ?_) h4
      have := Cg.add h5 (Cg.refl a)
      have e : s.getD i 0 - a + a = s.getD i 0 := by omega
      rw [e] at this
      simpa using this)
    have hr := dvP_zero (a := a) (r := r) fun i hi => hq i (by rw [dvP_len]; exact hi)
    cases i with
    | zero =>
      have e1 : evP (c :: r) a = c + a * evP r a := rfl
      rw [e1] at ha
      have h2 := Cg.sub ha (Cg.mul (Cg.refl a) hr.1)
      have e2 : c + a * evP r a - a * evP r a = c := by omega
      rw [e2] at h2
      simpa using h2
    | succ i => simpa using hr.2 i (by simpa using hi)
def zipS : List Int → List Int → List Int
  | a :: r, b :: s => (a - b) :: zipS r s
  | _, _ => []
theorem zipS_len : ∀ {a b : List Int}, a.length = b.length → (zipS a b).length = a.length
  | [], [], _ => rfl
  | [], _ :: _, h => by simp at h
  | _ :: _, [], h => by simp at h
  | a :: r, b :: s, h => by simp [zipS, zipS_len (a := r) (b := s) (by simpa using h)]
theorem zipS_ev (x : Int) : ∀ {a b : List Int}, a.length = b.length → evP (zipS a b) x = evP a x - evP b x
  | [], [], _ => rfl
  | [], _ :: _, h => by simp at h
  | _ :: _, [], h => by simp at h
  | a :: r, b :: s, h => by
    have ih := zipS_ev x (a := r) (b := s) (by simpa using h)
    simp only [zipS, evP, ih, Int.mul_sub]; omega
theorem zipS_get : ∀ {a b : List Int} {i : Nat}, a.length = b.length → i < a.length → (zipS a b).getD i 0 = a.getD i 0 - b.getD i 0
  | [], _, _, _, h => by simp at h
  | _ :: _, [], _, h, _ => by simp at h
  | a :: r, b :: s, 0, _, _ => by simp [zipS]
  | a :: r, b :: s, i + 1, h, hi => by
    have := zipS_get (a := r) (b := s) (i := i) (by simpa using h) (by simpa using hi)
    simpa [zipS] using this
/-- One polynomial alone has these values. -/
theorem poly_uniq {a b xs : List Int} (hab : a.length = b.length) (hx : xs.length = a.length) (hd : ∀ i k, k < i → i < xs.length → ¬ Cg (xs.getD i 0) (xs.getD k 0)) (he : ∀ i, i < xs.length → Cg (evP a (xs.getD i 0)) (evP b (xs.getD i 0))) : ∀ i, i < a.length → Cg (a.getD i 0) (b.getD i 0) := by
  intro i hi
  have := roots_zero (zipS a b) xs (by rw [zipS_len hab]; exact hx) hd (fun i hi => by
    rw [zipS_ev _ hab]
    have := Cg.sub (he i hi) (Cg.refl (evP b (xs.getD i 0)))
    simpa using this) i (by rw [zipS_len hab]; exact hi)
  rw [zipS_get hab hi] at this
  have h2 := Cg.add this (Cg.refl (b.getD i 0))
  have e : a.getD i 0 - b.getD i 0 + b.getD i 0 = a.getD i 0 := by omega
  rw [e] at h2
  simpa using h2
theorem list_ext {a b : List Int} (h : a.length = b.length) (hh : ∀ i, i < a.length → a.getD i 0 = b.getD i 0) : a = b := by
  apply List.ext_getElem h
  intro i h1 h2
  have := hh i h1
  simpa [List.getD, h1, h2] using this
theorem poly_eq {a b xs : List Int} (hab : a.length = b.length) (hx : xs.length = a.length) (hd : ∀ i k, k < i → i < xs.length → ¬ Cg (xs.getD i 0) (xs.getD k 0)) (he : ∀ i, i < xs.length → Cg (evP a (xs.getD i 0)) (evP b (xs.getD i 0)))
    (ha : ∀ i, i < a.length → 0 ≤ a.getD i 0 ∧ a.getD i 0 < 251) (hb : ∀ i, i < b.length → 0 ≤ b.getD i 0 ∧ b.getD i 0 < 251) : a = b :=
  list_ext hab fun i hi => (poly_uniq hab hx hd he i hi).eq (ha i hi) (hb i (by omega))
end Go.Pv
