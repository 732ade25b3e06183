/-
  What this text proves: the polynomial that the program builds goes through all its shares, and the value that it reckons from shares is that polynomial's. It speaks of plain functions.
-/
import Derived.Test.YtngoipmdhliigaaVKs
set_option linter.unusedVariables false
set_option linter.unusedSimpArgs false
namespace Go.Pv
def pls (a b : Int) : Int := (a + b) % 251
def mns (a b : Int) : Int := (a - b + 251) % 251
def tms (a b : Int) : Int := a * b % 251
def ovr (a b : Int) : Int := tms a (invN b)
def atP (l : List Int) (x : Int) : Int := evP l x % 251
theorem pls_cg (a b : Int) : Cg (pls a b) (a + b) := Cg.md _
theorem mns_cg (a b : Int) : Cg (mns a b) (a - b) := by unfold mns Cg; rw [Int.emod_emod_of_dvd _ (Int.dvd_refl _)]; omega
theorem tms_cg (a b : Int) : Cg (tms a b) (a * b) := Cg.md _
theorem atP_cg (l : List Int) (x : Int) : Cg (atP l x) (evP l x) := Cg.md _
theorem inv_cg {a b : Int} (hb : 0 ≤ b ∧ b < 251) (h : ¬ Cg b 0) : Cg (ovr a b * b) a := by
  have h1 : b ≠ 0 := fun e => h (by rw [e]; rfl)
  have h2 := (inv_ok (n := b) (by omega)).1
  have h3 : Cg (ovr a b * b) (a * invN b * b) := Cg.mul (tms_cg _ _) (Cg.refl b)
  rw [Int.mul_assoc] at h3
  have h4 := h3.trans (Cg.mul (Cg.refl a) h2)
  simpa using h4
theorem prime_mul {a b : Int} (ha : ¬ Cg a 0) (hb : ¬ Cg b 0) : ¬ Cg (a * b) 0 := fun h => hb (cg_cancel ha h)
/-! ### Products of differences -/
def prT (x : Int) (ks : List Int) (i : Nat) : Nat → Int
  | 0 => 1
  | j + 1 => if j = i then prT x ks i j else prT x ks i j * (x - ks.getD j 0)
def mulX (l : List Int) (a : Int) : List Int := zipS (0 :: l) (l.map (a * ·) ++ [0])
theorem smul_ev (x a : Int) : ∀ l : List Int, evP (l.map (a * ·)) x = a * evP l x
  | [] => by simp [evP]
  | c :: r => by
    have ih := smul_ev x a r
    simp only [List.map_cons, evP, ih, Int.mul_add]
    rw [← Int.mul_assoc, ← Int.mul_assoc, Int.mul_comm x a]
theorem mulX_len (l : List Int) (a : Int) : (mulX l a).length = l.length + 1 := by unfold mulX; rw [zipS_len (by simp)]; simp
theorem mulX_ev (l : List Int) (a x : Int) : evP (mulX l a) x = evP l x * (x - a) := by
  unfold mulX
  rw [zipS_ev _ (by simp), evP_app, smul_ev]
  simp only [evP, Int.zero_mul, Int.add_zero, Int.zero_add]
  rw [Int.mul_sub, Int.mul_comm x, Int.mul_comm a]
def pdL (ks : List Int) (i : Nat) : Nat → List Int
  | 0 => [1]
  | j + 1 => if j = i then pdL ks i j else mulX (pdL ks i j) (ks.getD j 0)
theorem pdL_len (ks : List Int) (i : Nat) : ∀ j, (pdL ks i j).length = if i < j then j else j + 1
  | 0 => by simp [pdL]
  | j + 1 => by
    have ih := pdL_len ks i j
    simp only [pdL]
    by_cases h : j = i
    · rw [if_pos h, ih, if_neg (by omega), if_pos (by omega)]
    · rw [if_neg h, mulX_len, ih]
      by_cases h2 : i < j
      · rw [if_pos h2, if_pos (by omega)]
      · rw [if_neg h2, if_neg (by omega)]
theorem pdL_ev (x : Int) (ks : List Int) (i : Nat) : ∀ j, evP (pdL ks i j) x = prT x ks i j
  | 0 => by simp [pdL, prT, evP]
  | j + 1 => by
    have ih := pdL_ev x ks i j
    simp only [pdL, prT]
    split
    · exact ih
    · rw [mulX_ev, ih]
theorem prT_zero {ks : List Int} {i t : Nat} (ht : t ≠ i) : ∀ j, t < j → prT (ks.getD t 0) ks i j = 0
  | 0, h => absurd h (by omega)
  | j + 1, h => by
    simp only [prT]
    by_cases hj : j = t
    · subst hj
      rw [if_neg ht, Int.sub_self, Int.mul_zero]
    · have ih := prT_zero (ks := ks) ht j (by omega)
      split
      · exact ih
      · rw [ih, Int.zero_mul]
theorem prT_ne {ks : List Int} {i : Nat} {x : Int} : ∀ j, (∀ t, t < j → t ≠ i → ¬ Cg x (ks.getD t 0)) → ¬ Cg (prT x ks i j) 0
  | 0, _ => by unfold Cg; simp [prT]
  | j + 1, h => by
    have ih := prT_ne (ks := ks) (i := i) (x := x) j fun t ht hti => h t (by omega) hti
    simp only [prT]
    split
    · exact ih
    · next hj =>
      refine prime_mul ih fun hc => h j (by omega) hj ?_
      have := Cg.add hc (Cg.refl (ks.getD j 0))
      have e : x - ks.getD j 0 + ks.getD j 0 = x := by omega
      rw [e] at this
      simpa using this
/-- What the program reckons of a share: a value times differences. -/
def abT (x : Int) (ks : List Int) (i : Nat) (a : Int) : Nat → Int
  | 0 => a
  | j + 1 => if j = i then abT x ks i a j else tms (abT x ks i a j) (mns x (ks.getD j 0))
theorem abT_cg (x : Int) (ks : List Int) (i : Nat) (a : Int) : ∀ j, Cg (abT x ks i a j) (a * prT x ks i j)
  | 0 => by simp [abT, prT]; rfl
  | j + 1 => by
    have ih := abT_cg x ks i a j
    simp only [abT, prT]
    split
    · exact ih
    · have := (tms_cg (abT x ks i a j) (mns x (ks.getD j 0))).trans (Cg.mul ih (mns_cg x (ks.getD j 0)))
      rwa [Int.mul_assoc] at this
theorem abT_bd {x a : Int} {ks : List Int} {i : Nat} (ha : 0 ≤ a ∧ a < 251) : ∀ j, 0 ≤ abT x ks i a j ∧ abT x ks i a j < 251
  | 0 => ha
  | j + 1 => by
    simp only [abT]
    split
    · exact abT_bd ha j
    · exact md_bd _
def lgI (x : Int) (ks vs : List Int) (i : Nat) : Int := ovr (abT x ks i (vs.getD i 0) ks.length) (abT (ks.getD i 0) ks i 1 ks.length)
def lgT (x : Int) (ks vs : List Int) : Nat → Int
  | 0 => 0
  | n + 1 => pls (lgT x ks vs n) (lgI x ks vs n)
/-- The value at x that the program reckons from shares. -/
def lgA (ks vs : List Int) (x : Int) : Int := lgT x ks vs ks.length
theorem lgT_bd (x : Int) (ks vs : List Int) : ∀ n, 0 ≤ lgT x ks vs n ∧ lgT x ks vs n < 251
  | 0 => by simp [lgT]
  | n + 1 => md_bd _
def addL : List Int → List Int → List Int
  | a :: r, b :: s => (a + b) :: addL r s
  | _, _ => []
theorem addL_len : ∀ {a b : List Int}, a.length = b.length → (addL a b).length = a.length
  | [], [], _ => rfl
  | [], _ :: _, h => by simp at h
  | _ :: _, [], h => by simp at h
  | a :: r, b :: s, h => by simp [addL, addL_len (a := r) (b := s) (by simpa using h)]
theorem addL_ev (x : Int) : ∀ {a b : List Int}, a.length = b.length → evP (addL a b) x = evP a x + evP b x
  | [], [], _ => rfl
  | [], _ :: _, h => by simp at h
  | _ :: _, [], h => by simp at h
  | a :: r, b :: s, h => by
    have ih := addL_ev x (a := r) (b := s) (by simpa using h)
    simp only [addL, evP, ih, Int.mul_add]; omega
theorem rep_ev (x : Int) : ∀ m, evP (List.replicate m 0) x = 0
  | 0 => rfl
  | m + 1 => by simp [List.replicate_succ, evP, rep_ev x m]
/-- The polynomial whose values are reckoned from shares. -/
def lgL (ks vs : List Int) : Nat → List Int
  | 0 => List.replicate ks.length 0
  | n + 1 => addL (lgL ks vs n) ((pdL ks n ks.length).map ((vs.getD n 0 * invN (abT (ks.getD n 0) ks n 1 ks.length)) * ·))
theorem lgL_len (ks vs : List Int) : ∀ n, n ≤ ks.length → (lgL ks vs n).length = ks.length
  | 0, _ => by simp [lgL]
  | n + 1, h => by
    have ih := lgL_len ks vs n (by omega)
    simp only [lgL]
    rw [addL_len (by rw [ih, List.length_map, pdL_len, if_pos (by omega)]), ih]
theorem lgL_ev (x : Int) (ks vs : List Int) : ∀ n, n ≤ ks.length → Cg (lgT x ks vs n) (evP (lgL ks vs n) x)
  | 0, _ => by simp [lgL, lgT, rep_ev]; rfl
  | n + 1, h => by
    have ih := lgL_ev x ks vs n (by omega)
    have hl := lgL_len ks vs n (by omega)
    simp only [lgL, lgT]
    rw [addL_ev _ (by rw [hl, List.length_map, pdL_len, if_pos (by omega)]), smul_ev, pdL_ev]
    refine (pls_cg _ _).trans (Cg.add ih ?_)
    unfold lgI ovr
    refine (tms_cg _ _).trans ((Cg.mul (abT_cg x ks n (vs.getD n 0) ks.length) (Cg.refl _)).trans ?_)
    rw [Int.mul_assoc, Int.mul_comm (prT x ks n ks.length), ← Int.mul_assoc]
    rfl
def Dist (ks : List Int) : Prop := ∀ i k, k < i → i < ks.length → ¬ Cg (ks.getD i 0) (ks.getD k 0)
theorem Dist.ne {ks : List Int} (h : Dist ks) {i k : Nat} (hi : i < ks.length) (hk : k < ks.length) (hne : k ≠ i) : ¬ Cg (ks.getD i 0) (ks.getD k 0) := by
  rcases Nat.lt_or_ge k i with h1 | h1
  · exact h i k h1 hi
  · exact fun e => h k i (by omega) hk e.symm
theorem lgI_at {ks vs : List Int} (hd : Dist ks) {t i : Nat} (ht : t < ks.length) (hi : i < ks.length) : Cg (lgI (ks.getD t 0) ks vs i) (if i = t then vs.getD t 0 else 0) := by
  unfold lgI
  by_cases h : i = t
  · subst h
    rw [if_pos rfl]
    have hne : ¬ Cg (prT (ks.getD i 0) ks i ks.length) 0 := prT_ne _ fun s hs hsi => hd.ne hi hs hsi
    have hb := abT_bd (x := ks.getD i 0) (ks := ks) (i := i) (a := 1) (by decide) ks.length
    have hc := abT_cg (ks.getD i 0) ks i 1 ks.length
    rw [Int.one_mul] at hc
    have hbn : ¬ Cg (abT (ks.getD i 0) ks i 1 ks.length) 0 := fun e => hne (hc.symm.trans e)
    have h1 := inv_cg (a := abT (ks.getD i 0) ks i (vs.getD i 0) ks.length) hb hbn
    have h2 := abT_cg (ks.getD i 0) ks i (vs.getD i 0) ks.length
    have h3 : Cg ((ovr (abT (ks.getD i 0) ks i (vs.getD i 0) ks.length) (abT (ks.getD i 0) ks i 1 ks.length) - vs.getD i 0) * prT (ks.getD i 0) ks i ks.length) 0 := by
      rw [Int.sub_mul]
      have := Cg.sub ((Cg.mul (Cg.refl (ovr (abT (ks.getD i 0) ks i (vs.getD i 0) ks.length) (abT (ks.getD i 0) ks i 1 ks.length))) hc.symm).trans (h1.trans h2)) (Cg.refl (vs.getD i 0 * prT (ks.getD i 0) ks i ks.length))
      simpa using this
    rw [Int.mul_comm] at h3
    have h4 := Cg.add (cg_cancel hne h3) (Cg.refl (vs.getD i 0))
    have e : ∀ a b : Int, a - b + b = a := fun a b => by omega
    rw [e] at h4
    simpa using h4
  · rw [if_neg h]
    have hz := prT_zero (ks := ks) (i := i) (t := t) (fun e => h e.symm) ks.length ht
    have h2 := abT_cg (ks.getD t 0) ks i (vs.getD i 0) ks.length
    rw [hz, Int.mul_zero] at h2
    have := (tms_cg (abT (ks.getD t 0) ks i (vs.getD i 0) ks.length) (invN (abT (ks.getD i 0) ks i 1 ks.length))).trans (Cg.mul h2 (Cg.refl _))
    simpa [ovr] using this
theorem lgT_at {ks vs : List Int} (hd : Dist ks) {t : Nat} (ht : t < ks.length) : ∀ n, n ≤ ks.length → Cg (lgT (ks.getD t 0) ks vs n) (if t < n then vs.getD t 0 else 0)
  | 0, _ => by simp [lgT]; rfl
  | n + 1, h => by
    have ih := lgT_at (vs := vs) hd ht n (by omega)
    have hi := lgI_at (vs := vs) hd ht (show n < ks.length by omega)
    simp only [lgT]
    have := (pls_cg (lgT (ks.getD t 0) ks vs n) (lgI (ks.getD t 0) ks vs n)).trans (Cg.add ih hi)
    by_cases h1 : n = t
    · subst h1
      rw [if_neg (by omega), if_pos rfl] at this
      rw [if_pos (by omega)]
      simpa using this
    · rw [if_neg h1] at this
      by_cases h2 : t < n
      · rw [if_pos h2] at this
        rw [if_pos (by omega)]
        simpa using this
      · rw [if_neg h2] at this
        rw [if_neg (by omega)]
        simpa using this
/-- Values reckoned from shares are those of the polynomial through them. -/
theorem lag_poly {ks vs P : List Int} (hd : Dist ks) (hP : P.length = ks.length) (hv : ∀ t, t < ks.length → Cg (evP P (ks.getD t 0)) (vs.getD t 0)) (x : Int) : lgA ks vs x = atP P x := by
  have hl := lgL_len ks vs ks.length (Nat.le_refl _)
  have h1 := poly_uniq (a := lgL ks vs ks.length) (b := P) (xs := ks) (by omega) (by omega) hd fun i hi => by
    have a := lgL_ev (ks.getD i 0) ks vs ks.length (Nat.le_refl _)
    have b := lgT_at (vs := vs) hd hi ks.length (Nat.le_refl _)
    rw [if_pos hi] at b
    exact a.symm.trans (b.trans (hv i hi).symm)
  have h2 := (lgL_ev x ks vs ks.length (Nat.le_refl _)).trans (evP_cg (x := x) (y := x) (by omega) h1 rfl)
  exact (h2.trans (atP_cg P x).symm).eq (lgT_bd x ks vs _) (md_bd _)
/-! ### The polynomial, share by share -/
def plsL (a b : List Int) : List Int := List.zipWith pls a b
def mnsL (a b : List Int) : List Int := List.zipWith mns a b
def scaL (l : List Int) (f : Int) : List Int := l.map fun c => tms c f
def wzL (l : List Int) (x : Int) : List Int := mnsL ((0 :: l).take l.length) (scaL l x)
theorem plsL_len {a b : List Int} (h : a.length = b.length) : (plsL a b).length = a.length := by simp [plsL, h]
theorem scaL_len (l : List Int) (f : Int) : (scaL l f).length = l.length := by simp [scaL]
theorem wzL_len (l : List Int) (x : Int) : (wzL l x).length = l.length := by simp [wzL, mnsL, scaL]
theorem plsL_ev (x : Int) {a b : List Int} (h : a.length = b.length) : Cg (evP (plsL a b) x) (evP a x + evP b x) := by
  rw [← addL_ev x h]
  refine evP_cg (by rw [plsL_len h, addL_len h]) (fun i hi => ?_) rfl
  rw [plsL_len h] at hi
  have hg : ∀ (a b : List Int) i, a.length = b.length → i < a.length → (addL a b).getD i 0 = a.getD i 0 + b.getD i 0 := by
    intro a
    induction a with
    | nil => intro b i _ hi; simp at hi
    | cons c r ih =>
      intro b i hl hi
      cases b with
      | nil => simp at hl
      | cons d s =>
        cases i with
        | zero => simp [addL]
        | succ i => have := ih s i (by simpa using hl) (by simpa using hi); simpa [addL] using this
  rw [hg a b i h hi]
  have e : (plsL a b).getD i 0 = pls (a.getD i 0) (b.getD i 0) := by
    have hb : i < b.length := by omega
    simp [plsL, List.getD, List.getElem?_zipWith, hi, hb]
  rw [e]; exact pls_cg _ _
theorem scaL_ev (x f : Int) (l : List Int) : Cg (evP (scaL l f) x) (f * evP l x) := by
  rw [← smul_ev]
  refine evP_cg (by simp [scaL]) (fun i hi => ?_) rfl
  simp [scaL] at hi
  have e : (scaL l f).getD i 0 = tms (l.getD i 0) f := by simp [scaL, List.getD, hi]
  have e2 : (l.map (f * ·)).getD i 0 = f * l.getD i 0 := by simp [List.getD, hi]
  rw [e, e2, Int.mul_comm f]; exact tms_cg _ _
theorem wzL_ev (x a : Int) {l : List Int} (hl : 0 < l.length) (h0 : l.getD (l.length - 1) 0 = 0) : Cg (evP (wzL l a) x) (evP l x * (x - a)) := by
  have hs := scaL_ev x a l
  have hz : evP ((0 :: l).take l.length) x = x * evP l x := by
    have e : (0 :: l) = (0 :: l).take l.length ++ [0] := by
      have h1 : (0 :: l) = (0 :: l).take l.length ++ (0 :: l).drop l.length := (List.take_append_drop _ _).symm
      have h2 : (0 :: l).drop l.length = [0] := by
        have h3 : ((0 :: l).drop l.length).length = 1 := by simp
        obtain ⟨c, hc⟩ := List.length_eq_one_iff.1 h3
        rw [hc]
        congr 1
        have h4 : ((0 :: l).drop l.length)[0]? = some c := by rw [hc]; rfl
        rw [List.getElem?_drop] at h4
        have h5 : (0 :: l)[l.length + 0]? = some (l.getD (l.length - 1) 0) := by
          obtain ⟨k, hk⟩ : ∃ k, l.length = k + 1 := ⟨l.length - 1, by omega⟩
          rw [hk]
          simp [List.getD, show k < l.length by omega]
        rw [h5, h0] at h4
        exact (Option.some.inj h4).symm
      rw [h2] at h1; exact h1
    have h5 : evP (0 :: l) x = evP ((0 :: l).take l.length) x := by
      conv => lhs; rw [e]
      rw [evP_app]; omega
    rw [← h5]; simp [evP]
  have h6 : Cg (evP (wzL l a) x) (evP ((0 :: l).take l.length) x - evP (scaL l a) x) := by
    rw [← zipS_ev x (by simp [scaL])]
    refine evP_cg (by rw [wzL_len, zipS_len (by simp [scaL])]; simp) (fun i hi => ?_) rfl
    rw [wzL_len] at hi
    rw [zipS_get (by simp [scaL]) (by simp; omega)]
    have e : (wzL l a).getD i 0 = mns (((0 :: l).take l.length).getD i 0) ((scaL l a).getD i 0) := by
      have h7 : i < ((0 :: l).take l.length).length := by simp; omega
      have h8 : i < (scaL l a).length := by rw [scaL_len]; exact hi
      simp only [wzL, mnsL, List.getD, List.getElem?_zipWith, List.getElem?_eq_getElem h7, List.getElem?_eq_getElem h8]
      rfl
    rw [e]; exact mns_cg _ _
  refine h6.trans ?_
  rw [hz]
  have := Cg.sub (Cg.refl (x * evP l x)) hs
  rw [Int.mul_sub, Int.mul_comm (evP l x) x, Int.mul_comm (evP l x) a]
  exact this
def npt (m : Nat) (ks : List Int) : Nat → List Int
  | 0 => 1 :: List.replicate (m - 1) 0
  | n + 1 => wzL (npt m ks n) (ks.getD n 0)
def nsm (m : Nat) (ks vs : List Int) : Nat → List Int
  | 0 => List.replicate m 0
  | n + 1 => plsL (nsm m ks vs n) (scaL (npt m ks n) (ovr (mns (vs.getD n 0) (atP (nsm m ks vs n) (ks.getD n 0))) (atP (npt m ks n) (ks.getD n 0))))
def newtonL (ks vs : List Int) : List Int := nsm ks.length ks vs ks.length
theorem npt_len {m : Nat} (hm : 0 < m) (ks : List Int) : ∀ n, (npt m ks n).length = m
  | 0 => by simp [npt]; omega
  | n + 1 => by simp only [npt]; rw [wzL_len, npt_len hm ks n]
theorem nsm_len {m : Nat} (hm : 0 < m) (ks vs : List Int) : ∀ n, (nsm m ks vs n).length = m
  | 0 => by simp [nsm]
  | n + 1 => by
    have ih := nsm_len hm ks vs n
    simp only [nsm]
    rw [plsL_len (by rw [ih, scaL_len, npt_len hm]), ih]
theorem inl_bd {l : List Int} (h : ∀ c ∈ l, 0 ≤ c ∧ c < 251) (i : Nat) : 0 ≤ l.getD i 0 ∧ l.getD i 0 < 251 := by
  by_cases hi : i < l.length
  · have e : l.getD i 0 = l[i] := by simp [hi]
    rw [e]; exact h _ (List.getElem_mem hi)
  · have e : l.getD i 0 = 0 := by simp [List.getD, Nat.le_of_not_lt hi]
    rw [e]; decide
theorem zip_bd {f : Int → Int → Int} (hf : ∀ a b, 0 ≤ f a b ∧ f a b < 251) : ∀ (a b : List Int), ∀ c ∈ List.zipWith f a b, 0 ≤ c ∧ c < 251
  | [], _, c, h => by simp at h
  | _ :: _, [], c, h => by simp at h
  | a :: r, b :: s, c, h => by
    simp only [List.zipWith_cons_cons, List.mem_cons] at h
    rcases h with rfl | h
    · exact hf _ _
    · exact zip_bd hf r s c h
theorem npt_bd {m : Nat} (ks : List Int) : ∀ n, ∀ c ∈ npt m ks n, 0 ≤ c ∧ c < 251
  | 0, c, h => by
    simp only [npt, List.mem_cons] at h
    rcases h with rfl | h
    · decide
    · rw [List.eq_of_mem_replicate h]; decide
  | n + 1, c, h => by simp only [npt, wzL, mnsL] at h; exact zip_bd (fun a b => md_bd _) _ _ c h
theorem nsm_bd {m : Nat} (ks vs : List Int) : ∀ n, ∀ c ∈ nsm m ks vs n, 0 ≤ c ∧ c < 251
  | 0, c, h => by simp only [nsm] at h; rw [List.eq_of_mem_replicate h]; decide
  | n + 1, c, h => by simp only [nsm, plsL] at h; exact zip_bd (fun a b => md_bd _) _ _ c h
theorem zw_get {f : Int → Int → Int} {a b : List Int} {i : Nat} (ha : i < a.length) (hb : i < b.length) : (List.zipWith f a b).getD i 0 = f (a.getD i 0) (b.getD i 0) := by
  simp [List.getD, List.getElem?_zipWith, ha, hb]
theorem npt_high {m : Nat} (hm : 0 < m) (ks : List Int) : ∀ n i, n < i → i < m → (npt m ks n).getD i 0 = 0
  | 0, i, h, hi => by
    obtain ⟨j, rfl⟩ : ∃ j, i = j + 1 := ⟨i - 1, by omega⟩
    simp [npt, List.getD, List.getElem?_replicate]
    split <;> rfl
  | n + 1, i, h, hi => by
    have hl := npt_len hm ks n
    have a := npt_high hm ks n i (by omega) hi
    have b := npt_high hm ks n (i - 1) (by omega) (by omega)
    obtain ⟨j, rfl⟩ : ∃ j, i = j + 1 := ⟨i - 1, by omega⟩
    have h7 : j + 1 < ((0 :: npt m ks n).take (npt m ks n).length).length := by simp; omega
    have h8 : j + 1 < (scaL (npt m ks n) (ks.getD n 0)).length := by rw [scaL_len]; omega
    have e : (npt m ks (n + 1)).getD (j + 1) 0 = mns (((0 :: npt m ks n).take (npt m ks n).length).getD (j + 1) 0) ((scaL (npt m ks n) (ks.getD n 0)).getD (j + 1) 0) := zw_get h7 h8
    rw [e]
    have e1 : ((0 :: npt m ks n).take (npt m ks n).length).getD (j + 1) 0 = (npt m ks n).getD j 0 := by
      simp only [List.getD]
      rw [List.getElem?_take_of_lt (by omega)]; rfl
    have e2 : (scaL (npt m ks n) (ks.getD n 0)).getD (j + 1) 0 = tms ((npt m ks n).getD (j + 1) 0) (ks.getD n 0) := by
      simp [scaL, List.getD, show j + 1 < (npt m ks n).length by omega]
    rw [e1, e2, a]
    have b2 : (npt m ks n).getD j 0 = 0 := by simpa using b
    rw [b2]; unfold mns tms; rw [Int.zero_mul]; rfl
theorem npt_ev {m : Nat} (hm : 0 < m) (ks : List Int) (x : Int) : ∀ n, n < m → n ≤ ks.length → Cg (evP (npt m ks n) x) (prT x ks ks.length n)
  | 0, _, _ => by simp [npt, prT, evP, rep_ev]; rfl
  | n + 1, h, h2 => by
    have ih := npt_ev hm ks x n (by omega) (by omega)
    have hl := npt_len hm ks n
    have hz := npt_high hm ks n (m - 1) (by omega) (by omega)
    have := wzL_ev x (ks.getD n 0) (l := npt m ks n) (by omega) (by rw [hl]; exact hz)
    simp only [npt, prT]
    rw [if_neg (by omega)]
    exact this.trans (Cg.mul ih (Cg.refl _))
theorem nsm_ev {ks vs : List Int} (hd : Dist ks) : ∀ n, n ≤ ks.length → ∀ t, t < n → Cg (evP (nsm ks.length ks vs n) (ks.getD t 0)) (vs.getD t 0)
  | 0, _, t, ht => absurd ht (by omega)
  | n + 1, h, t, ht => by
    have hm : 0 < ks.length := by omega
    have hl := nsm_len hm ks vs n
    have hl2 := npt_len hm ks n
    obtain ⟨f, hf⟩ : ∃ f, f = ovr (mns (vs.getD n 0) (atP (nsm ks.length ks vs n) (ks.getD n 0))) (atP (npt ks.length ks n) (ks.getD n 0)) := ⟨_, rfl⟩
    have hp := fun x => npt_ev hm ks x n (by omega) (by omega)
    have h1 : Cg (evP (nsm ks.length ks vs (n + 1)) (ks.getD t 0)) (evP (nsm ks.length ks vs n) (ks.getD t 0) + f * evP (npt ks.length ks n) (ks.getD t 0)) := by
      simp only [nsm]
      rw [← hf]
      exact (plsL_ev _ (by rw [hl, scaL_len, hl2])).trans (Cg.add (Cg.refl _) (scaL_ev _ _ _))
    refine h1.trans ?_
    by_cases htn : t < n
    · have ih := nsm_ev (vs := vs) hd n (by omega) t htn
      have hz := prT_zero (ks := ks) (i := ks.length) (t := t) (by omega) n htn
      have h2 := hp (ks.getD t 0)
      rw [hz] at h2
      have := Cg.add ih (Cg.mul (Cg.refl f) h2)
      simpa using this
    · obtain rfl : t = n := by omega
      have hne : ¬ Cg (prT (ks.getD t 0) ks ks.length t) 0 := prT_ne _ fun s hs _ => hd t s hs (by omega)
      have h2 := hp (ks.getD t 0)
      have h3 : ¬ Cg (atP (npt ks.length ks t) (ks.getD t 0)) 0 := fun e => hne (h2.symm.trans ((atP_cg _ _).symm.trans e))
      have h4 := inv_cg (a := mns (vs.getD t 0) (atP (nsm ks.length ks vs t) (ks.getD t 0))) (b := atP (npt ks.length ks t) (ks.getD t 0)) (md_bd _) h3
      rw [show ovr (mns (vs.getD t 0) (atP (nsm ks.length ks vs t) (ks.getD t 0))) (atP (npt ks.length ks t) (ks.getD t 0)) = f from hf.symm] at h4
      have h5 := (Cg.mul (Cg.refl f) (atP_cg (npt ks.length ks t) (ks.getD t 0)).symm).trans h4
      have h6 := h5.trans ((mns_cg _ _).trans (Cg.sub (Cg.refl (vs.getD t 0)) (atP_cg (nsm ks.length ks vs t) (ks.getD t 0))))
      have h7 := Cg.add (Cg.refl (evP (nsm ks.length ks vs t) (ks.getD t 0))) h6
      have e : evP (nsm ks.length ks vs t) (ks.getD t 0) + (vs.getD t 0 - evP (nsm ks.length ks vs t) (ks.getD t 0)) = vs.getD t 0 := by omega
      rw [e] at h7
      exact h7
theorem newton_ok {ks vs : List Int} (hd : Dist ks) {t : Nat} (ht : t < ks.length) : Cg (evP (newtonL ks vs) (ks.getD t 0)) (vs.getD t 0) := nsm_ev hd _ (Nat.le_refl _) t ht
theorem newton_len (ks vs : List Int) (h : 0 < ks.length) : (newtonL ks vs).length = ks.length := nsm_len h ks vs _
theorem newton_bd (ks vs : List Int) (i : Nat) : 0 ≤ (newtonL ks vs).getD i 0 ∧ (newtonL ks vs).getD i 0 < 251 := inl_bd (nsm_bd ks vs _) i
/-- The value reckoned from shares is that of the polynomial that is built from them. -/
theorem lag_newton {ks vs : List Int} (hd : Dist ks) (h : 0 < ks.length) (x : Int) : lgA ks vs x = atP (newtonL ks vs) x := lag_poly hd (newton_len ks vs h) (fun t ht => newton_ok hd ht) x
/-- Whatever polynomial has as many coefficients, and the shares lie on it, is the one that is built. -/
theorem newton_eq {ks vs P : List Int} (hd : Dist ks) (h : 0 < ks.length) (hP : P.length = ks.length) (hb : ∀ i, i < P.length → 0 ≤ P.getD i 0 ∧ P.getD i 0 < 251) (hv : ∀ t, t < ks.length → Cg (evP P (ks.getD t 0)) (vs.getD t 0)) : newtonL ks vs = P :=
  poly_eq (xs := ks) (by rw [newton_len ks vs h, hP]) (by rw [newton_len ks vs h]) hd (fun i hi => (newton_ok hd hi).trans (hv i hi).symm) (fun i _ => newton_bd ks vs i) hb
end Go.Pv
