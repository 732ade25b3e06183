/-
  What this text proves: plain facts on spools: lengths, places, arrivals, and growths that fit. It speaks of no program. No condition but those that stand in each.
-/
import Derived.Test.YtagibgjemliadaaMath
set_option linter.unusedVariables false
set_option linter.unusedSimpArgs false

namespace Go.Pv
/-- A spool is as stated. -/
def spOk (co ti lo hi : Int) : Prop := (1 ≤ co ∧ co ≤ 100000) ∧ (1 ≤ ti ∧ ti ≤ co) ∧ (0 ≤ lo ∧ lo ≤ 1000) ∧ (0 ≤ hi ∧ hi ≤ 1000) ∧ lo ≤ hi
instance (co ti lo hi : Int) : Decidable (spOk co ti lo hi) := by unfold spOk; exact inferInstance
def spErr (co ti lo hi : Int) : Int := if spOk co ti lo hi then 0 else 3
/-- The length of n turns. -/
def lenOf (co g n : Int) : Int := n * co + g * n * (n - 1) / 2
/-- The place at a time. -/
def plOf (co ti g t : Int) : Int := lenOf co g (t / ti) + (co + t / ti * g) * (t % ti) / ti
theorem mul_bd {a b A B : Int} (ha : 0 ≤ a ∧ a ≤ A) (hb : 0 ≤ b ∧ b ≤ B) : 0 ≤ a * b ∧ a * b ≤ A * B := by
  refine ⟨Int.mul_nonneg ha.1 hb.1, Int.mul_le_mul ha.2 hb.2 hb.1 (by omega)⟩
/-- What is computed on the way to a length stays small. -/
theorem len_bd {co g n : Int} (hc : 1 ≤ co ∧ co ≤ 100000) (hg : 0 ≤ g ∧ g ≤ 1000) (hn : 0 ≤ n ∧ n ≤ 1000) :
    (0 ≤ n * co ∧ n * co ≤ 100000000) ∧ (0 ≤ g * n ∧ g * n ≤ 1000000) ∧ (0 ≤ g * n * (n - 1) ∧ g * n * (n - 1) ≤ 1000000000) ∧ (0 ≤ lenOf co g n ∧ lenOf co g n ≤ 600000000) := by
  have h1 := mul_bd (a := n) (b := co) (A := 1000) (B := 100000) hn (by omega)
  have h2 := mul_bd (a := g) (b := n) (A := 1000) (B := 1000) hg hn
  have h3 : 0 ≤ g * n * (n - 1) ∧ g * n * (n - 1) ≤ 1000000000 := by
    by_cases h0 : n = 0
    · subst h0; simp
    · have := mul_bd (a := g * n) (b := n - 1) (A := 1000000) (B := 1000) (by omega) (by omega)
      omega
  unfold lenOf
  omega
theorem len_succ (co g n : Int) : lenOf co g (n + 1) = lenOf co g n + (co + n * g) := by
  unfold lenOf
  have e : g * (n + 1) * (n + 1 - 1) = g * n * (n - 1) + 2 * (n * g) := by
    have a1 : n + 1 - 1 = n := by omega
    rw [a1, Int.mul_add, Int.mul_one, Int.add_mul, Int.mul_sub, Int.mul_one, Int.mul_comm n g]
    omega
  rw [e, Int.add_mul, Int.one_mul]
  omega
theorem len_zero (co g : Int) : lenOf co g 0 = 0 := by simp [lenOf]
theorem sq_nonneg' (n : Int) (h : 0 ≤ n) : 0 ≤ n * (n - 1) := by
  by_cases h0 : n = 0
  · subst h0; simp
  · exact Int.mul_nonneg h (by omega)
theorem len_mono_g {co g g' n : Int} (hn : 0 ≤ n) (h : g ≤ g') : lenOf co g n ≤ lenOf co g' n := by
  unfold lenOf
  have h1 : g * (n * (n - 1)) ≤ g' * (n * (n - 1)) := Int.mul_le_mul_of_nonneg_right h (sq_nonneg' n hn)
  rw [Int.mul_assoc, Int.mul_assoc]
  omega
theorem div_at (ti t : Int) (h : 1 ≤ ti) (ht : 0 ≤ t) : 0 ≤ t / ti ∧ 0 ≤ t % ti ∧ t % ti < ti ∧ ti * (t / ti) + t % ti = t := by
  refine ⟨Int.ediv_nonneg ht (by omega), Int.emod_nonneg _ (by omega), Int.emod_lt_of_pos _ (by omega), Int.mul_ediv_add_emod _ _⟩
theorem div_next {ti t : Int} (h : 1 ≤ ti) (ht : 0 ≤ t) : (t % ti + 1 < ti ∧ (t + 1) / ti = t / ti ∧ (t + 1) % ti = t % ti + 1) ∨ (t % ti + 1 = ti ∧ (t + 1) / ti = t / ti + 1 ∧ (t + 1) % ti = 0) := by
  obtain ⟨h1, h2, h3, h4⟩ := div_at ti t h ht
  obtain ⟨k1, k2, k3, k4⟩ := div_at ti (t + 1) h (by omega)
  generalize t / ti = q at *
  generalize t % ti = r at *
  generalize (t + 1) / ti = q' at *
  generalize (t + 1) % ti = r' at *
  have e : ti * (q' - q) = r + 1 - r' := by rw [Int.mul_sub]; omega
  by_cases c : r + 1 < ti
  · left
    have : q' - q = 0 := by
      generalize q' - q = d at *
      by_cases d1 : 1 ≤ d
      · have : ti * 1 ≤ ti * d := Int.mul_le_mul_of_nonneg_left d1 (by omega)
        omega
      · by_cases d2 : d ≤ -1
        · have : ti * d ≤ ti * (-1) := Int.mul_le_mul_of_nonneg_left d2 (by omega)
          omega
        · omega
    rw [this] at e
    omega
  · right
    have : q' - q = 1 := by
      generalize q' - q = d at *
      by_cases d1 : 2 ≤ d
      · have : ti * 2 ≤ ti * d := Int.mul_le_mul_of_nonneg_left d1 (by omega)
        omega
      · by_cases d2 : d ≤ 0
        · have : ti * d ≤ ti * 0 := Int.mul_le_mul_of_nonneg_left d2 (by omega)
          omega
        · omega
    rw [this] at e
    omega
theorem div_add_self {a d : Int} (h : 1 ≤ d) : (a + d) / d = a / d + 1 := by rw [Int.add_ediv_of_dvd_right (Int.dvd_refl d), Int.ediv_self (by omega)]
theorem pl_succ {co ti g t : Int} (hc : 1 ≤ ti ∧ ti ≤ co) (hg : 0 ≤ g) (ht : 0 ≤ t) : plOf co ti g t < plOf co ti g (t + 1) := by
  obtain ⟨h1, h2, h3, h4⟩ := div_at ti t hc.1 ht
  have hx : 0 ≤ t / ti * g := Int.mul_nonneg h1 hg
  unfold plOf
  rcases div_next hc.1 ht with ⟨c, e1, e2⟩ | ⟨c, e1, e2⟩
  · rw [e1, e2]
    generalize hX : co + t / ti * g = X
    have h5 : X * (t % ti) + ti ≤ X * (t % ti + 1) := by rw [Int.mul_add, Int.mul_one]; omega
    have h6 : (X * (t % ti) + ti) / ti ≤ X * (t % ti + 1) / ti := Int.ediv_le_ediv (by omega) h5
    rw [div_add_self hc.1] at h6
    omega
  · rw [e1, e2, len_succ]
    simp only [Int.mul_zero, Int.zero_ediv]
    generalize hX : co + t / ti * g = X
    have e3 : t % ti = ti - 1 := by omega
    have h5 : X * (t % ti) < X * ti := Int.mul_lt_mul_of_pos_left (by omega) (by omega)
    have h6 : X * (t % ti) / ti < X := Int.ediv_lt_of_lt_mul (by omega) h5
    omega
theorem pl_lt {co ti g : Int} (hc : 1 ≤ ti ∧ ti ≤ co) (hg : 0 ≤ g) {s : Int} (hs : 0 ≤ s) : ∀ k : Nat, plOf co ti g s + k ≤ plOf co ti g (s + k)
  | 0 => by simp
  | k + 1 => by
    have h1 := pl_lt hc hg hs k
    have h2 := pl_succ (t := s + k) hc hg (by omega)
    have e : s + ((k + 1 : Nat) : Int) = s + k + 1 := by omega
    rw [e]
    omega
theorem pl_far {co ti g s t : Int} (hc : 1 ≤ ti ∧ ti ≤ co) (hg : 0 ≤ g) (hs : 0 ≤ s) (h : s ≤ t) : plOf co ti g s + (t - s) ≤ plOf co ti g t := by
  have := pl_lt hc hg hs (t - s).toNat
  have e : s + ((t - s).toNat : Int) = t := by omega
  rw [e] at this
  omega
theorem pl_mono_g {co ti g g' t : Int} (hc : 1 ≤ ti) (ht : 0 ≤ t) (h : g ≤ g') : plOf co ti g t ≤ plOf co ti g' t := by
  obtain ⟨h1, h2, h3, h4⟩ := div_at ti t hc ht
  unfold plOf
  have a1 := len_mono_g (co := co) h1 h
  have a2 : t / ti * g ≤ t / ti * g' := Int.mul_le_mul_of_nonneg_left h h1
  have a3 : (co + t / ti * g) * (t % ti) ≤ (co + t / ti * g') * (t % ti) := Int.mul_le_mul_of_nonneg_right (by omega) h2
  have a4 := Int.ediv_le_ediv (c := ti) (by omega) a3
  omega
theorem pl_turn (co ti g n : Int) (h : 1 ≤ ti) : plOf co ti g (n * ti) = lenOf co g n := by
  unfold plOf
  rw [Int.mul_ediv_cancel _ (by omega), Int.mul_emod_left]
  simp
theorem pl_zero (co ti g : Int) : plOf co ti g 0 = 0 := by simp [plOf, len_zero]
/-- What is computed on the way to a place stays small. -/
theorem pl_bd {co ti g t : Int} (hc : 1 ≤ co ∧ co ≤ 100000) (hi : 1 ≤ ti ∧ ti ≤ co) (hg : 0 ≤ g ∧ g ≤ 1000) (ht : 0 ≤ t ∧ t ≤ 1000 * ti) :
    (0 ≤ t / ti ∧ t / ti ≤ 1000) ∧ (0 ≤ t % ti ∧ t % ti < ti) ∧ (0 ≤ t / ti * g ∧ t / ti * g ≤ 1000000) ∧ (0 ≤ (co + t / ti * g) * (t % ti) ∧ (co + t / ti * g) * (t % ti) ≤ 110000000000) ∧
    (0 ≤ (co + t / ti * g) * (t % ti) / ti ∧ (co + t / ti * g) * (t % ti) / ti ≤ 110000000000) ∧ (0 ≤ plOf co ti g t ∧ plOf co ti g t ≤ lenOf co g 1000) := by
  obtain ⟨h1, h2, h3, h4⟩ := div_at ti t hi.1 ht.1
  have hq : t / ti ≤ 1000 := by
    by_cases c : t / ti ≤ 1000
    · exact c
    · have : ti * 1001 ≤ ti * (t / ti) := Int.mul_le_mul_of_nonneg_left (by omega) (by omega)
      omega
  have h5 := mul_bd (a := t / ti) (b := g) (A := 1000) (B := 1000) ⟨h1, hq⟩ hg
  have h6 := mul_bd (a := co + t / ti * g) (b := t % ti) (A := 1100000) (B := 100000) (by omega) (by omega)
  have h7 : 0 ≤ (co + t / ti * g) * (t % ti) / ti := Int.ediv_nonneg h6.1 (by omega)
  have h8 := ediv_bd ((co + t / ti * g) * (t % ti)) ti hi.1 110000000000 (by omega)
  have h9 := pl_far (co := co) (g := g) hi hg.1 (Int.le_refl 0) ht.1
  rw [pl_zero] at h9
  have h10 := pl_far (co := co) (g := g) hi hg.1 ht.1 ht.2
  rw [pl_turn _ _ _ _ hi.1] at h10
  exact ⟨⟨h1, hq⟩, ⟨h2, h3⟩, ⟨h5.1, by omega⟩, ⟨h6.1, by omega⟩, ⟨h7, h8.2⟩, by omega, by omega⟩

/-- The first number from t on, before t + k, for which a condition holds; t + k if there is none. -/
def fstOf (f : Int → Bool) (t : Int) : Nat → Int
  | 0 => t
  | k + 1 => if f t = true then t else fstOf f (t + 1) k
theorem fst_spec (f : Int → Bool) : ∀ (k : Nat) (t : Int), t ≤ fstOf f t k ∧ fstOf f t k ≤ t + k ∧ (∀ x, t ≤ x → x < fstOf f t k → f x = false) ∧ (fstOf f t k < t + k → f (fstOf f t k) = true)
  | 0, t => by simp only [fstOf]; refine ⟨by omega, by omega, fun x h1 h2 => by omega, fun h => by omega⟩
  | k + 1, t => by
    simp only [fstOf]
    by_cases h : f t = true
    · rw [if_pos h]
      exact ⟨by omega, by omega, fun x h1 h2 => by omega, fun _ => h⟩
    · rw [if_neg h]
      obtain ⟨h1, h2, h3, h4⟩ := fst_spec f k (t + 1)
      refine ⟨by omega, by omega, fun x h5 h6 => ?_, fun h5 => h4 (by omega)⟩
      by_cases e : x = t
      · subst e; simpa using h
      · exact h3 x (by omega) h6
theorem fst_eq {f : Int → Bool} {k : Nat} {t r : Int} (h1 : t ≤ r) (h2 : r ≤ t + k) (h3 : ∀ x, t ≤ x → x < r → f x = false) (h4 : r < t + k → f r = true) : fstOf f t k = r := by
  obtain ⟨a1, a2, a3, a4⟩ := fst_spec f k t
  rcases Int.lt_trichotomy (fstOf f t k) r with h | h | h
  · have := h3 _ a1 h
    rw [a4 (by omega)] at this
    cases this
  · exact h
  · have := a3 _ h1 h
    rw [h4 (by omega)] at this
    cases this
/-- The arrival of a place, which is at most that at the last time. -/
def arrOf (co ti g p : Int) : Int := fstOf (fun t => decide (p ≤ plOf co ti g t)) 0 (1000 * ti).toNat
theorem arr_spec {co ti g p : Int} (hi : 1 ≤ ti ∧ ti ≤ co) (hg : 0 ≤ g) (hp : p ≤ lenOf co g 1000) : (0 ≤ arrOf co ti g p ∧ arrOf co ti g p ≤ 1000 * ti) ∧ p ≤ plOf co ti g (arrOf co ti g p) ∧ ∀ x, 0 ≤ x → x < arrOf co ti g p → plOf co ti g x < p := by
  obtain ⟨a1, a2, a3, a4⟩ := fst_spec (fun t => decide (p ≤ plOf co ti g t)) (1000 * ti).toNat 0
  have e : arrOf co ti g p = fstOf (fun t => decide (p ≤ plOf co ti g t)) 0 (1000 * ti).toNat := rfl
  rw [← e] at a1 a2 a3 a4
  refine ⟨⟨a1, by omega⟩, ?_, fun x h1 h2 => by have := a3 x h1 h2; simp at this; exact this⟩
  by_cases c : arrOf co ti g p < 1000 * ti
  · have := a4 (by omega)
    simpa using this
  · have : arrOf co ti g p = 1000 * ti := by omega
    rw [this, pl_turn _ _ _ _ hi.1]
    exact hp
theorem arr_eq {co ti g p t : Int} (hi : 1 ≤ ti ∧ ti ≤ co) (hg : 0 ≤ g) (ht : 0 ≤ t ∧ t ≤ 1000 * ti) (h1 : p ≤ plOf co ti g t) (h2 : t = 0 ∨ plOf co ti g (t - 1) < p) : arrOf co ti g p = t := by
  refine fst_eq ht.1 (by omega) (fun x h3 h4 => ?_) (fun _ => by simpa using h1)
  rcases h2 with h2 | h2
  · omega
  · have := pl_far hi hg h3 (show x ≤ t - 1 by omega)
    simp
    omega
/-- A place that is cut for a time arrives at this time. -/
theorem arr_pl {co ti g t : Int} (hi : 1 ≤ ti ∧ ti ≤ co) (hg : 0 ≤ g) (ht : 0 ≤ t ∧ t ≤ 1000 * ti) : arrOf co ti g (plOf co ti g t) = t := by
  refine arr_eq hi hg ht (Int.le_refl _) ?_
  by_cases h : t = 0
  · exact .inl h
  · right
    have := pl_far (co := co) (g := g) hi hg (show 0 ≤ t - 1 by omega) (show t - 1 ≤ t by omega)
    omega
/-- With a greater growth a place arrives no later. -/
theorem arr_mono_g {co ti g g' p : Int} (hi : 1 ≤ ti ∧ ti ≤ co) (hg : 0 ≤ g) (h : g ≤ g') (hp : p ≤ lenOf co g 1000) : arrOf co ti g' p ≤ arrOf co ti g p := by
  obtain ⟨a1, a2, a3⟩ := arr_spec hi hg hp
  obtain ⟨b1, b2, b3⟩ := arr_spec (g := g') hi (by omega) (Int.le_trans hp (len_mono_g (by omega) h))
  by_cases c : arrOf co ti g' p ≤ arrOf co ti g p
  · exact c
  · have := b3 _ a1.1 (by omega)
    have := pl_mono_g (co := co) hi.1 a1.1 h
    omega
/-- How many ticks a governor lets the first turns take together. -/
def govOf (co ti g n : Int) : Int := lenOf co g n * ti / co
theorem gov_bd {co ti g n : Int} (hc : 1 ≤ co ∧ co ≤ 100000) (hi : 1 ≤ ti ∧ ti ≤ co) (hg : 0 ≤ g ∧ g ≤ 1000) (hn : 0 ≤ n ∧ n ≤ 1000) : (0 ≤ lenOf co g n * ti ∧ lenOf co g n * ti ≤ 60000000000000) ∧ (0 ≤ govOf co ti g n ∧ govOf co ti g n ≤ 60000000000000) := by
  have h1 := (len_bd hc hg hn).2.2.2
  have h2 := mul_bd (a := lenOf co g n) (b := ti) (A := 600000000) (B := 100000) h1 (by omega)
  have h3 := ediv_bd (lenOf co g n * ti) co hc.1 60000000000000 (by omega)
  exact ⟨by omega, Int.ediv_nonneg h2.1 (by omega), h3.2⟩
/-- A growth fits a measurement. -/
def fitG (co off g : Int) (m : Int × Int) : Prop := m.2 - off ≤ lenOf co g m.1 ∧ lenOf co g m.1 ≤ m.2 + off
instance (co off g : Int) (m : Int × Int) : Decidable (fitG co off g m) := by unfold fitG; exact inferInstance
/-- The growths that fit a measurement: from fitLo on and before fitHi. -/
def fitLo (co off lo hi : Int) (m : Int × Int) : Int := fstOf (fun g => decide (m.2 - off ≤ lenOf co g m.1)) lo (hi + 1 - lo).toNat
def fitHi (co off lo hi : Int) (m : Int × Int) : Int := fstOf (fun g => decide (m.2 + off < lenOf co g m.1)) (fitLo co off lo hi m) (hi + 1 - fitLo co off lo hi m).toNat
theorem fit_spec {co off lo hi : Int} {m : Int × Int} (hm : 0 ≤ m.1) (h : lo ≤ hi) :
    (lo ≤ fitLo co off lo hi m ∧ fitLo co off lo hi m ≤ fitHi co off lo hi m ∧ fitHi co off lo hi m ≤ hi + 1) ∧ ∀ g, lo ≤ g → g ≤ hi → (fitG co off g m ↔ fitLo co off lo hi m ≤ g ∧ g ≤ fitHi co off lo hi m - 1) := by
  obtain ⟨a1, a2, a3, a4⟩ := fst_spec (fun g => decide (m.2 - off ≤ lenOf co g m.1)) (hi + 1 - lo).toNat lo
  obtain ⟨b1, b2, b3, b4⟩ := fst_spec (fun g => decide (m.2 + off < lenOf co g m.1)) (hi + 1 - fitLo co off lo hi m).toNat (fitLo co off lo hi m)
  have e1 : fitLo co off lo hi m = fstOf (fun g => decide (m.2 - off ≤ lenOf co g m.1)) lo (hi + 1 - lo).toNat := rfl
  have e2 : fitHi co off lo hi m = fstOf (fun g => decide (m.2 + off < lenOf co g m.1)) (fitLo co off lo hi m) (hi + 1 - fitLo co off lo hi m).toNat := rfl
  rw [← e1] at a1 a2 a3 a4
  rw [← e2] at b1 b2 b3 b4
  refine ⟨⟨a1, b1, by omega⟩, fun g h1 h2 => ⟨fun hf => ?_, fun hg => ?_⟩⟩
  · unfold fitG at hf
    constructor
    · by_cases c : fitLo co off lo hi m ≤ g
      · exact c
      · have := a3 g h1 (by omega)
        simp at this
        omega
    · by_cases c : g ≤ fitHi co off lo hi m - 1
      · exact c
      · have := b4 (by omega)
        simp at this
        have := len_mono_g (co := co) hm (show fitHi co off lo hi m ≤ g by omega)
        omega
  · unfold fitG
    constructor
    · have := a4 (by omega)
      simp at this
      have := len_mono_g (co := co) hm hg.1
      omega
    · have := b3 g hg.1 (by omega)
      simp at this
      omega
/-- A growth fits all measurements. -/
def fitAll (co off g : Int) (ms : List (Int × Int)) : Prop := ∀ m ∈ ms, fitG co off g m
instance (co off g : Int) (ms : List (Int × Int)) : Decidable (fitAll co off g ms) := by unfold fitAll; exact inferInstance
/-- The measurements with some numbers. -/
def pickM (ms : List (Int × Int)) (ns : List Int) : List (Int × Int) := ns.map fun n => ms.getD n.toNat (0, 0)
/-- The numbers are a clash. -/
def clashM (co off lo hi : Int) (ms : List (Int × Int)) (ns : List Int) : Prop := ∀ g, lo ≤ g → g ≤ hi → ¬ fitAll co off g (pickM ms ns)
/-- The span is that of the growths that fit. -/
def spanM (co off lo hi : Int) (ms : List (Int × Int)) (a b : Int) : Prop := (lo ≤ a ∧ a ≤ b ∧ b ≤ hi) ∧ ∀ g, lo ≤ g → g ≤ hi → (fitAll co off g ms ↔ a ≤ g ∧ g ≤ b)
theorem span_uniq {co off lo hi a b a' b' : Int} {ms : List (Int × Int)} (h : spanM co off lo hi ms a b) (h' : spanM co off lo hi ms a' b') : a = a' ∧ b = b' := by
  obtain ⟨⟨p1, p2, p3⟩, p4⟩ := h
  obtain ⟨⟨q1, q2, q3⟩, q4⟩ := h'
  have r1 := (q4 a p1 (by omega)).1 ((p4 a p1 (by omega)).2 ⟨by omega, by omega⟩)
  have r2 := (q4 b (by omega) p3).1 ((p4 b (by omega) p3).2 ⟨by omega, by omega⟩)
  have r3 := (p4 a' q1 (by omega)).1 ((q4 a' q1 (by omega)).2 ⟨by omega, by omega⟩)
  have r4 := (p4 b' (by omega) q3).1 ((q4 b' (by omega) q3).2 ⟨by omega, by omega⟩)
  omega
end Go.Pv
