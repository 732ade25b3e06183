/-
  (rows) What this text proves: LevelPlayers returns true. Conditions: the first argument is a row of triples of bytes, the second one a byte. (Before it: divisions of a coding as lists of starts by the bits of a number, their errors, the best one of them; one player more; as many players as codes.)
-/
import Derived.Test.YtbmjigneekodnaaVMw
import Derived.Test.YtbmjigneekodnaaVNh
import Derived.Test.YtbmjigneekodnaaVNa
import Derived.Test.YtbmjigneekodnaaVLx
set_option linter.unusedVariables false
set_option linter.unusedSimpArgs false

namespace Go.Pv
open Go.RowKit
/-- The numbers below k whose bit is set, in ascending order. -/
def bitsL : Nat → Nat → List Int
  | 0, _ => []
  | k + 1, set => if set.testBit k then bitsL k set ++ [(k : Int)] else bitsL k set
theorem bitsL_in : ∀ {k set : Nat} {x : Int}, x ∈ bitsL k set → 0 ≤ x ∧ x < k
  | 0, _, x, h => by simp [bitsL] at h
  | k + 1, set, x, h => by
    simp only [bitsL] at h
    split at h
    · rcases List.mem_append.1 h with h | h
      · have := bitsL_in h; omega
      · simp at h; omega
    · have := bitsL_in h; omega
theorem bitsL_lt : ∀ k set : Nat, (bitsL k set).Pairwise (· < ·)
  | 0, _ => by simp [bitsL]
  | k + 1, set => by
    simp only [bitsL]
    split
    · refine List.pairwise_append.2 ⟨bitsL_lt k set, by simp, fun a ha b hb => ?_⟩
      have := bitsL_in ha
      simp at hb; omega
    · exact bitsL_lt k set
theorem bitsL_len : ∀ k set : Nat, (bitsL k set).length ≤ k
  | 0, _ => by simp [bitsL]
  | k + 1, set => by
    have := bitsL_len k set
    simp only [bitsL]
    split
    · simp; omega
    · omega
theorem bitsL_congr {a b : Nat} : ∀ {k : Nat}, (∀ i, i < k → a.testBit i = b.testBit i) → bitsL k a = bitsL k b
  | 0, _ => rfl
  | k + 1, h => by
    simp only [bitsL]
    rw [h k (by omega), bitsL_congr fun i hi => h i (by omega)]
theorem bitsL_yes {k set : Nat} (h : set / 2 ^ k % 2 = 1) : bitsL (k + 1) set = bitsL k set ++ [(k : Int)] := by
  simp only [bitsL]; rw [if_pos (by rw [Nat.testBit_eq_decide_div_mod_eq]; simpa using h)]
theorem bitsL_no {k set : Nat} (h : ¬ set / 2 ^ k % 2 = 1) : bitsL (k + 1) set = bitsL k set := by
  simp only [bitsL]; rw [if_neg (by rw [Nat.testBit_eq_decide_div_mod_eq]; simpa using h)]
theorem bitsL_some {set : Nat} (h0 : 1 ≤ set) : ∀ {k : Nat}, set < 2 ^ k → bitsL k set ≠ [] := by
  intro k hk e
  have hz : ∀ {m : Nat}, m ≤ k → bitsL m set = [] → ∀ i, i < m → set.testBit i = false := by
    intro m
    induction m with
    | zero => intro _ _ i hi; omega
    | succ m ih =>
      intro hm he i hi
      simp only [bitsL] at he
      split at he
      · simp at he
      · next hb =>
        by_cases e2 : i = m
        · subst e2; simpa using hb
        · exact ih (by omega) he i (by omega)
  have h1 := hz (Nat.le_refl k) e
  obtain ⟨i, hi⟩ := Nat.exists_testBit_of_ne_zero (show set ≠ 0 by omega)
  by_cases hik : i < k
  · rw [h1 i hik] at hi; cases hi
  · have := Nat.testBit_lt_two_pow (x := set) (i := i) (Nat.lt_of_lt_of_le hk (Nat.pow_le_pow_right (by omega) (by omega)))
    rw [this] at hi; cases hi
/-- Each list in ascending order is that of some number. -/
theorem bitsL_sur : ∀ (n : Nat) (H : List Int), H.Pairwise (· < ·) → (∀ x ∈ H, 0 ≤ x ∧ x < n) → ∃ set, set < 2 ^ n ∧ bitsL n set = H
  | 0, H, _, h => by
    cases H with
    | nil => exact ⟨0, by simp, rfl⟩
    | cons x r => have := h x (by simp); omega
  | n + 1, H, hp, h => by
    rcases List.eq_nil_or_concat H with rfl | ⟨H', x, rfl⟩
    · obtain ⟨set, h1, h2⟩ := bitsL_sur n [] (by simp) (by simp)
      refine ⟨set, by rw [Nat.pow_succ]; omega, ?_⟩
      simp only [bitsL]
      rw [if_neg (by rw [Nat.testBit_lt_two_pow h1]; simp), h2]
    · rw [List.concat_eq_append] at hp h ⊢
      obtain ⟨p1, -, p2⟩ := List.pairwise_append.1 hp
      have hx := h x (by simp)
      have hH : ∀ y ∈ H', 0 ≤ y ∧ y < x := fun y hy => ⟨(h y (by simp [hy])).1, p2 y hy x (by simp)⟩
      by_cases e : x = n
      · subst e
        obtain ⟨set, h1, h2⟩ := bitsL_sur n H' p1 hH
        refine ⟨2 ^ n + set, by rw [Nat.pow_succ]; omega, ?_⟩
        simp only [bitsL]
        rw [if_pos (by rw [Nat.testBit_two_pow_add_eq, Nat.testBit_lt_two_pow h1]; rfl)]
        rw [bitsL_congr (b := set) fun i hi => Nat.testBit_two_pow_add_gt hi set, h2]
      · obtain ⟨set, h1, h2⟩ := bitsL_sur n (H' ++ [x]) hp (fun y hy => by
          rcases List.mem_append.1 hy with hy | hy
          · have := hH y hy; omega
          · simp at hy; omega)
        refine ⟨set, by rw [Nat.pow_succ]; omega, ?_⟩
        simp only [bitsL]
        rw [if_neg (by rw [Nat.testBit_lt_two_pow h1]; simp), h2]
section
variable {P : Program} {l : St} {w : World} {od : Option Nat} {ty : TypeId} {pos : String} {af : Array Edge}
theorem and_one (m : Nat) (hm : m < 9223372036854775808) : bits .and .i64 (m : Int) 1 = ((m % 2 : Nat) : Int) := by
  have h1 : (BitVec.ofInt 64 (m : Int)).toNat = m := by
    rw [BitVec.ofInt_natCast, BitVec.toNat_ofNat]; exact Nat.mod_eq_of_lt (by omega)
  have h2 : (BitVec.ofInt 64 (1 : Int)).toNat = 1 := by decide
  show IntKind.i64.wrap ((BitVec.ofInt 64 (m : Int) &&& BitVec.ofInt 64 (1 : Int)).toNat : Int) = _
  rw [BitVec.toNat_and, h1, h2, Nat.and_one_is_mod]
  exact IntWalk.i64_in _ (by omega)
theorem r_shr0 {x y : Operand} {T T2 : TypeId} {k k2 : IntKind} {m n : Int} (hx : ev l x = .int k m) (hy : ev l y = .int k2 n) (hn : 0 ≤ n) : Runs P ⟨od, .binOp .shr T x y T2, ty, pos, af, none⟩ l w (.int k (m / 2 ^ min n.toNat k.bits)) :=
  by simp [Runs, execOp, hx, hy, run_guard_int, binOp, Go.shift_shr_any k k2 m n hn]
theorem r_and0 {x y : Operand} {T T2 : TypeId} {k : IntKind} {m n : Int} (hx : ev l x = .int k m) (hy : ev l y = .int k n) : Runs P ⟨od, .binOp .and T x y T2, ty, pos, af, none⟩ l w (.int k (bits .and k m n)) :=
  r_bin hx hy (by rw [Go.binOp_and]; rfl)
theorem r_and1 {x y : Operand} {T T2 : TypeId} {m : Nat} (hx : ev l x = .int .i64 (m : Int)) (hy : ev l y = .int .i64 1) {q : Nat} (hq : m % 2 = q) (hm : m < 9223372036854775808) : Runs P ⟨od, .binOp .and T x y T2, ty, pos, af, none⟩ l w (.int .i64 (q : Int)) := by
  subst hq
  have := r_and0 (P := P) (od := od) (ty := ty) (pos := pos) (af := af) (T := T) (T2 := T2) (w := w) hx hy
  rwa [and_one m hm] at this
theorem r_shrN {x y : Operand} {T T2 : TypeId} {m n : Nat} (hx : ev l x = .int .i64 (m : Int)) (hy : ev l y = .int .i64 (n : Int)) {q : Nat} (hq : m / 2 ^ n = q) (hn : n ≤ 64) : Runs P ⟨od, .binOp .shr T x y T2, ty, pos, af, none⟩ l w (.int .i64 (q : Int)) := by
  subst hq
  have := r_shr0 (P := P) (od := od) (ty := ty) (pos := pos) (af := af) (T := T) (T2 := T2) (w := w) hx hy (by omega)
  have e : (m : Int) / 2 ^ min (n : Int).toNat (IntKind.bits .i64) = ((m / 2 ^ n : Nat) : Int) := by
    rw [show min (n : Int).toNat (IntKind.bits .i64) = n by simp [IntKind.bits]; omega]
    simp
  rwa [e] at this
theorem r_shl1 {x y : Operand} {T T2 : TypeId} {n : Nat} (hx : ev l x = .int .i64 1) (hy : ev l y = .int .i64 (n : Int)) {M : Nat} (hM : 2 ^ n = M) (hn : n ≤ 62) : Runs P ⟨od, .binOp .shl T x y T2, ty, pos, af, none⟩ l w (.int .i64 (M : Int)) := by
  subst hM
  have hp : 2 ^ n ≤ 2 ^ 62 := Nat.pow_le_pow_right (by omega) hn
  have e : IntKind.i64.wrap (1 * 2 ^ min (n : Int).toNat (IntKind.bits .i64)) = ((2 ^ n : Nat) : Int) := by
    rw [show min (n : Int).toNat (IntKind.bits .i64) = n by simp [IntKind.bits]; omega, Int.one_mul, show (2 : Int) ^ n = ((2 ^ n : Nat) : Int) by simp]
    obtain ⟨q, hq⟩ : ∃ q : Nat, q = 2 ^ n := ⟨_, rfl⟩
    rw [← hq] at hp ⊢
    exact IntWalk.i64_in _ (by omega)
  simp only [Runs, execOp, hx, hy, run_guard_int, binOp, Go.shift_shl_any .i64 .i64 1 (n : Int) (by omega), e, Sem.run_bind, Result.andThen_ok, Sem.run_pure]
end
end Go.Pv

namespace Go.Pv
/-- The starts that a number says, among the codes before k. -/
def lstS (set k : Nat) : List Int := 0 :: (bitsL (k - 1) set).map (· + 1)
theorem lst_one (set : Nat) : lstS set 1 = [0] := rfl
theorem lst_yes {set k : Nat} (hk : 1 ≤ k) (h : set / 2 ^ (k - 1) % 2 = 1) : lstS set (k + 1) = lstS set k ++ [(k : Int)] := by
  unfold lstS
  rw [show k + 1 - 1 = (k - 1) + 1 by omega, bitsL_yes h]
  simp only [List.map_append, List.map_cons, List.map_nil, List.cons_append]
  rw [show ((k - 1 : Nat) : Int) + 1 = (k : Int) by omega]
theorem lst_no {set k : Nat} (hk : 1 ≤ k) (h : ¬ set / 2 ^ (k - 1) % 2 = 1) : lstS set (k + 1) = lstS set k := by
  unfold lstS
  rw [show k + 1 - 1 = (k - 1) + 1 by omega, bitsL_no h]
theorem lst_len {set k : Nat} (hk : 1 ≤ k) : 1 ≤ (lstS set k).length ∧ (lstS set k).length ≤ k := by
  unfold lstS
  have := bitsL_len (k - 1) set
  simp
  omega
/-- Starts in ascending order, the first one 0, all before t. -/
def Asc (S : List Int) (t : Nat) : Prop := 1 ≤ S.length ∧ S.getD 0 0 = 0 ∧ (∀ i j, i < j → j < S.length → S.getD i 0 < S.getD j 0) ∧ ∀ i, i < S.length → 0 ≤ S.getD i 0 ∧ S.getD i 0 < t
theorem pw_get : ∀ {H : List Int}, H.Pairwise (· < ·) → ∀ i j, i < j → j < H.length → H.getD i 0 < H.getD j 0
  | [], _, i, j, _, hj => absurd hj (Nat.not_lt_zero _)
  | x :: r, h, i, j, hij, hj => by
    rw [List.pairwise_cons] at h
    cases j with
    | zero => omega
    | succ j =>
      have hj' : j < r.length := by simpa using hj
      cases i with
      | zero =>
        have := h.1 (r.getD j 0) (by simp [List.getD, hj'])
        simpa using this
      | succ i =>
        have := pw_get h.2 i j (by omega) hj'
        simpa using this
theorem get_pw : ∀ {H : List Int}, (∀ i j, i < j → j < H.length → H.getD i 0 < H.getD j 0) → H.Pairwise (· < ·)
  | [], _ => List.Pairwise.nil
  | x :: r, h => by
    rw [List.pairwise_cons]
    constructor
    · intro y hy
      obtain ⟨k, hk, rfl⟩ := List.getElem_of_mem hy
      have := h 0 (k + 1) (by omega) (by simpa using hk)
      simpa [List.getD, hk] using this
    · refine get_pw fun i j h1 h2 => ?_
      have := h (i + 1) (j + 1) (by omega) (by simpa using h2)
      simpa using this
theorem lst_asc (set : Nat) {k : Nat} (hk : 1 ≤ k) : Asc (lstS set k) k := by
  have hp : (lstS set k).Pairwise (· < ·) := by
    unfold lstS
    rw [List.pairwise_cons]
    constructor
    · intro y hy
      obtain ⟨x, hx, rfl⟩ := List.mem_map.1 hy
      have := bitsL_in hx
      omega
    · rw [List.pairwise_map]
      exact (bitsL_lt (k - 1) set).imp fun h => by omega
  refine ⟨(lst_len hk).1, rfl, pw_get hp, fun i hi => ?_⟩
  have hm : (lstS set k).getD i 0 ∈ lstS set k := by simp [List.getD, hi]
  unfold lstS at hm ⊢
  rcases List.mem_cons.1 hm with h | h
  · rw [h]; omega
  · obtain ⟨x, hx, hxe⟩ := List.mem_map.1 h
    have := bitsL_in hx
    rw [← hxe]
    omega
theorem asc_sur {S : List Int} {t : Nat} (h : Asc S t) : ∃ set, set < 2 ^ (t - 1) ∧ lstS set t = S := by
  obtain ⟨h1, h2, h3, h4⟩ := h
  cases S with
  | nil => simp at h1
  | cons x r =>
    simp only [List.getD_cons_zero] at h2
    subst h2
    have hp := get_pw h3
    rw [List.pairwise_cons] at hp
    have h40 := h4 0 (by simp)
    obtain ⟨set, k1, k2⟩ := bitsL_sur (t - 1) (r.map (· - 1)) (by
      rw [List.pairwise_map]
      exact hp.2.imp fun h => by omega) (by
      intro y hy
      obtain ⟨z, hz, rfl⟩ := List.mem_map.1 hy
      obtain ⟨k, hk, rfl⟩ := List.getElem_of_mem hz
      have a := hp.1 _ hz
      have b := h4 (k + 1) (by simpa using hk)
      simp [List.getD, hk] at b
      omega)
    refine ⟨set, k1, ?_⟩
    unfold lstS
    rw [k2, List.map_map]
    congr 1
    have : ((fun x : Int => x + 1) ∘ fun x : Int => x - 1) = id := by
      funext x
      simp only [Function.comp, id]
      omega
    rw [this, List.map_id]
theorem asc_more {S : List Int} {s t : Nat} (h : Asc S s) (hs : s < t) : Asc (S ++ [(s : Int)]) t := by
  obtain ⟨h1, h2, h3, h4⟩ := h
  have e1 : ∀ i, i < S.length → (S ++ [(s : Int)]).getD i 0 = S.getD i 0 := fun i hi => by
    simp only [List.getD, List.getElem?_append_left hi]
  have e2 : (S ++ [(s : Int)]).getD S.length 0 = s := by simp [List.getD]
  refine ⟨by simp, by rw [e1 0 (by omega)]; exact h2, fun i j hij hj => ?_, fun i hi => ?_⟩
  · have hj' : j ≤ S.length := by simp at hj; omega
    by_cases e : j = S.length
    · subst e
      rw [e2, e1 i hij]
      exact (h4 i hij).2
    · rw [e1 i (by omega), e1 j (by omega)]
      exact h3 i j hij (by omega)
  · have hi' : i ≤ S.length := by simp at hi; omega
    by_cases e : i = S.length
    · subst e
      rw [e2]
      omega
    · rw [e1 i (by omega)]
      have := h4 i (by omega)
      omega
theorem div_asc {l : List T3} (hv : Valid l) {p t : Nat} {S : List Int} {f : Int × Int} (h : DivE l p t S f) : Asc S t := by
  induction h with
  | one h1 h2 h3 => exact ⟨by simp, rfl, fun i j a b => by simp at b; omega, fun i hi => by
      have : i = 0 := by simpa using hi
      subst this
      simp
      omega⟩
  | more h1 h2 h3 h4 ih => exact asc_more ih h2
theorem one_ok {n : Int} : fOk (0, 1) := by unfold fOk; decide
theorem low_z0 {f : Int × Int} (h0 : f.1 = 0) (h : 1 ≤ f.2) : low f = (0, 1) := by
  have := low_eq (f := f) (g := (0, 1)) h (by simp) (by simp [h0])
  rw [this]
  decide
theorem fLt_low2 {f g : Int × Int} (hf : 1 ≤ f.2) (hg : 1 ≤ g.2) : fLt (low f) (low g) ↔ fLt f g := by
  have a := low_cross hf
  have b := low_cross hg
  have a2 := (low_den hf).1.1
  have b2 := (low_den hg).1.1
  obtain ⟨n, d⟩ := f
  obtain ⟨m, e⟩ := g
  generalize low (n, d) = x at *
  generalize low (m, e) = y at *
  obtain ⟨xn, xd⟩ := x
  obtain ⟨yn, yd⟩ := y
  simp only at *
  unfold fLt
  simp only
  have e1 : xn * yd * (d * e) = (xn * d) * (yd * e) := by ac_rfl
  have e2 : yn * xd * (d * e) = (yn * e) * (xd * d) := by ac_rfl
  have e3 : n * e * (xd * yd) = (n * xd) * (yd * e) := by ac_rfl
  have e4 : m * d * (xd * yd) = (m * yd) * (xd * d) := by ac_rfl
  rw [← a] at e1
  rw [← b] at e2
  have p1 : 0 < d * e := Int.mul_pos (by omega) (by omega)
  have p2 : 0 < xd * yd := Int.mul_pos (by omega) (by omega)
  constructor
  · intro h
    have := Int.mul_lt_mul_of_pos_right h p1
    rw [e1, e2, ← e3, ← e4] at this
    exact Int.lt_of_mul_lt_mul_right this (by omega)
  · intro h
    have := Int.mul_lt_mul_of_pos_right h p2
    rw [e3, e4, ← e1, ← e2] at this
    exact Int.lt_of_mul_lt_mul_right this (by omega)
/-- Where part k ends. -/
def endS (S : List Int) (t k : Nat) : Nat := if k + 1 < S.length then (S.getD (k + 1) 0).toNat else t
theorem end_bd {S : List Int} {t k : Nat} (h : Asc S t) (hk : k < S.length) : (S.getD k 0).toNat < endS S t k ∧ endS S t k ≤ t := by
  have h0 := h.2.2.2 k hk
  unfold endS
  split
  · have h1 := h.2.2.1 k (k + 1) (by omega) (by assumption)
    have h2 := h.2.2.2 (k + 1) (by assumption)
    omega
  · omega
/-- The worst part of the first k ones. -/
def partsTo (l : List T3) (S : List Int) (k : Nat) (x : Int × Int) : Prop := (k = 0 ∧ x = (0, 1)) ∨ (1 ≤ k ∧ ∃ f, DivE l k (endS S l.length (k - 1)) (S.take k) f ∧ x = low f)
theorem parts_next {l : List T3} (hv : Valid l) {S : List Int} {k : Nat} {x h : Int × Int} (hS : Asc S l.length) (hk : k < S.length) (hp : partsTo l S k x) (hb : bestIs (secL l (S.getD k 0).toNat (endS S l.length k)) h) : partsTo l S (k + 1) (if fLt x (low h) then low h else x) := by
  have hbd := end_bd hS hk
  have hsv := valid_sec hv hbd.1 hbd.2
  have hh := best_nn hsv hb
  rcases hp with ⟨rfl, rfl⟩ | ⟨h1, f, h2, rfl⟩
  · have e0 := hS.2.1
    refine Or.inr ⟨by omega, h, ?_, ?_⟩
    · rw [e0] at hb
      have et : S.take (0 + 1) = [0] := by
        cases S with
        | nil => simp at hk
        | cons a r => simp only [List.getD_cons_zero] at e0; subst e0; rfl
      rw [et]
      exact DivE.one (Nat.lt_of_le_of_lt (Nat.zero_le _) hbd.1) hbd.2 hb
    · by_cases c : fLt (0, 1) (low h)
      · rw [if_pos c]
      · rw [if_neg c]
        have hl := low_z0 (f := (0, 1)) rfl (by simp)
        rw [← hl, fLt_low2 (by simp) hh.2] at c
        unfold fLt at c
        simp only at c
        exact (low_z0 (by omega) hh.2).symm
  · have ee : endS S l.length (k - 1) = (S.getD k 0).toNat := by
      unfold endS
      rw [show k - 1 + 1 = k by omega, if_pos hk]
    rw [ee] at h2
    have hf := (DivE.bd hv h2).2.2
    have h0 := hS.2.2.2 k hk
    refine Or.inr ⟨by omega, fMax f h, ?_, ?_⟩
    · have := DivE.more h2 hbd.1 hbd.2 hb
      rw [show k + 1 - 1 = k by omega]
      have et : S.take (k + 1) = S.take k ++ [((S.getD k 0).toNat : Int)] := by
        rw [List.take_add_one, show S[k]? = some (S.getD k 0) by simp [List.getD, hk]]
        simp only [Option.toList]
        rw [show ((S.getD k 0).toNat : Int) = S.getD k 0 by omega]
      rw [et]
      exact this
    · unfold fMax
      by_cases c : fLt f h
      · rw [if_pos c, if_pos ((fLt_low2 hf.2.1 hh.2).2 c)]
      · rw [if_neg c, if_neg (fun c2 => c ((fLt_low2 hf.2.1 hh.2).1 c2))]
theorem parts_end {l : List T3} {S : List Int} {x : Int × Int} (hS : 1 ≤ S.length) (hp : partsTo l S S.length x) : ∃ f, DivE l S.length l.length S f ∧ x = low f := by
  rcases hp with ⟨h, _⟩ | ⟨h1, f, h2, rfl⟩
  · omega
  · refine ⟨f, ?_, rfl⟩
    unfold endS at h2
    rw [if_neg (by omega), List.take_length] at h2
    exact h2
theorem DivE.same {l : List T3} (hv : Valid l) {p t : Nat} {S : List Int} {f : Int × Int} (h : DivE l p t S f) : ∀ {f' : Int × Int}, DivE l p t S f' → ¬ fLt f f' := by
  induction h with
  | one h1 h2 h3 =>
    intro f' h
    generalize hp : 1 = p at h
    generalize hS : ([0] : List Int) = S at h
    cases h with
    | one k1 k2 k3 => exact best_le h3 k3
    | @more p' t' r S' g h k1 k2 k3 k4 =>
      obtain rfl : p' = 0 := by omega
      exact absurd (DivE.bd hv k1).1 (by omega)
  | @more p t s S g h a1 a2 a3 a4 ih =>
    intro f' hh
    generalize hp : p + 1 = p1 at hh
    generalize hS : S ++ [(s : Int)] = S1 at hh
    cases hh with
    | one k1 k2 k3 =>
      have := (DivE.bd hv a1).1
      omega
    | @more p' t' r S' g' h' k1 k2 k3 k4 =>
      obtain rfl : p = p' := by omega
      have e := List.append_inj' hS rfl
      have e1 := e.1
      have e2 : (s : Int) = r := by simpa using e.2
      obtain rfl : s = r := by omega
      subst e1
      have o1 := (DivE.bd hv a1).2.2
      have o2 := (DivE.bd hv k1).2.2
      have o3 := best_ok (valid_sec hv a2 a3) a4
      have o4 := best_ok (valid_sec hv k2 k3) k4
      exact fMax_le o2.2.1 o4.2.1 o1.2.1 o3.2.1 (ih k1) (best_le a4 k4)
/-- What is known when the numbers below q were tried. -/
def setInv (l : List T3) (n : Nat) (S0 : List Int) (g : Int × Int) (q : Nat) (x y : Int × Int) (b : Bool) : Prop :=
  (b = true ↔ ∃ set, set < q ∧ lstS set l.length = S0) ∧ (b = true → y = low g) ∧ ((x = (1000000, 1) ∧ b = false) ∨ ∃ f S, x = low f ∧ DivE l n l.length S f ∧ (b = true → low f = low g))
theorem set_zero {l : List T3} {n : Nat} {S0 : List Int} {g y : Int × Int} : setInv l n S0 g 0 (1000000, 1) y false :=
  ⟨by simp, by simp, Or.inl ⟨rfl, rfl⟩⟩
theorem set_skip {l : List T3} {n : Nat} {S0 : List Int} {g x y : Int × Int} {q : Nat} {b : Bool} (hn : S0.length = n) (h : setInv l n S0 g q x y b) (hq : ¬ (lstS q l.length).length = n) : setInv l n S0 g (q + 1) x y b := by
  refine ⟨h.1.trans ⟨fun ⟨s, a, b⟩ => ⟨s, by omega, b⟩, fun ⟨s, a, b⟩ => ⟨s, ?_, b⟩⟩, h.2⟩
  by_cases e : s = q
  · subst e; rw [b] at hq; exact absurd hn hq
  · omega
theorem low_same {l : List T3} (hv : Valid l) {p t : Nat} {S S' : List Int} {f g : Int × Int} (h1 : DivE l p t S f) (h2 : DivE l p t S' g) (h : ¬ fLt f g) (h' : ¬ fLt g f) : low f = low g := by
  unfold fLt at h h'
  exact low_eq (DivE.bd hv h1).2.2.2.1 (DivE.bd hv h2).2.2.2.1 (by omega)
theorem small_div {l : List T3} (hs : smallL l) {p t : Nat} {S : List Int} {f : Int × Int} (h : DivE l p t S f) : (0 ≤ f.1 ∧ f.1 ≤ 1600) ∧ 1 ≤ f.2 ∧ f.2 ≤ 32 := by
  have sec : ∀ {i k : Nat} {f : Int × Int}, i < k → k ≤ l.length → bestIs (secL l i k) f → (0 ≤ f.1 ∧ f.1 ≤ 1600) ∧ 1 ≤ f.2 ∧ f.2 ≤ 32 := fun {i k f} h1 h2 h3 => by
    refine small_best (l := secL l i k) ⟨?_, fun j hj => ?_, fun a b hab hb => ?_⟩ h3
    · rw [sec_len h2]; have := hs.1; omega
    · rw [sec_len h2] at hj; rw [sec_get (by omega)]; exact hs.2.1 _ (by omega)
    · rw [sec_len h2] at hb; rw [sec_get (by omega), sec_get (by omega)]; exact hs.2.2 _ _ (by omega) (by omega)
  induction h with
  | one h1 h2 h3 => exact sec (by omega) h2 h3
  | more h1 h2 h3 h4 ih =>
    unfold fMax
    split
    · exact sec h2 h3 h4
    · exact ih
theorem set_take {l : List T3} (hs : smallL l) {n : Nat} {S0 : List Int} {g x y f : Int × Int} {q : Nat} {b : Bool} (hg : bestDiv l n l.length S0 g) (h : setInv l n S0 g q x y b) (hf : DivE l n l.length (lstS q l.length) f) :
    setInv l n S0 g (q + 1) (if fLt (low f) x then low f else x) (if lstS q l.length = S0 then low f else y) (if lstS q l.length = S0 then true else b) := by
  have hv := hs.valid
  have hsame : lstS q l.length = S0 → low f = low g := fun e => by
    subst e
    exact low_same hv hf hg.1 (DivE.same hv hf hg.1) (hg.2 _ _ hf |> fun _ => DivE.same hv hg.1 hf)
  refine ⟨?_, ?_, ?_⟩
  · by_cases e : lstS q l.length = S0
    · rw [if_pos e]
      exact ⟨fun _ => ⟨q, by omega, e⟩, fun _ => rfl⟩
    · rw [if_neg e]
      refine h.1.trans ⟨fun ⟨s, a, b⟩ => ⟨s, by omega, b⟩, fun ⟨s, a, b⟩ => ⟨s, ?_, b⟩⟩
      by_cases e2 : s = q
      · subst e2; exact absurd b e
      · omega
  · by_cases e : lstS q l.length = S0
    · rw [if_pos e, if_pos e]
      exact fun _ => hsame e
    · rw [if_neg e, if_neg e]
      exact h.2.1
  · have hfs := small_div hs hf
    rcases h.2.2 with ⟨rfl, rfl⟩ | ⟨f1, S1, rfl, h1, h2⟩
    · have hl := low_small hfs
      rw [if_pos (by unfold fLt; simp only; omega)]
      refine Or.inr ⟨f, _, rfl, hf, fun hb => ?_⟩
      by_cases e : lstS q l.length = S0
      · exact hsame e
      · rw [if_neg e] at hb; cases hb
    · have hf1 := small_div hs h1
      have hgs := small_div hs hg.1
      by_cases c : fLt (low f) (low f1)
      · rw [if_pos c]
        refine Or.inr ⟨f, _, rfl, hf, fun hb => ?_⟩
        by_cases e : lstS q l.length = S0
        · exact hsame e
        · rw [if_neg e] at hb
          rw [h2 hb, fLt_low2 hfs.2.1 hgs.2.1] at c
          exact absurd c (hg.2 _ _ hf)
      · rw [if_neg c]
        refine Or.inr ⟨f1, S1, rfl, h1, fun hb => ?_⟩
        by_cases e : lstS q l.length = S0
        · rw [hsame e, fLt_low2 hgs.2.1 hf1.2.1] at c
          exact low_same hv h1 hg.1 (hg.2 _ _ h1) c
        · rw [if_neg e] at hb
          exact h2 hb
theorem set_end {l : List T3} (hs : smallL l) {n q : Nat} {S0 : List Int} {g x y : Int × Int} {b : Bool} (hg : bestDiv l n l.length S0 g) (hq : 2 ^ (l.length - 1) = q) (h : setInv l n S0 g q x y b) : b = true ∧ y = low g ∧ x = low g := by
  subst hq
  obtain ⟨set, h1, h2⟩ := asc_sur (div_asc hs.valid hg.1)
  have hb : b = true := h.1.2 ⟨set, h1, h2⟩
  refine ⟨hb, h.2.1 hb, ?_⟩
  rcases h.2.2 with ⟨_, e⟩ | ⟨f, S, rfl, k1, k2⟩
  · rw [e] at hb; cases hb
  · exact k2 hb
theorem set_x {l : List T3} (hs : smallL l) {n : Nat} {S0 : List Int} {g x y : Int × Int} {q : Nat} {b : Bool} (h : setInv l n S0 g q x y b) : (0 ≤ x.1 ∧ x.1 ≤ 1000000) ∧ 1 ≤ x.2 ∧ x.2 ≤ 32 := by
  rcases h.2.2 with ⟨rfl, _⟩ | ⟨f, S, rfl, k1, _⟩
  · simp
  · have := low_small (small_div hs k1)
    omega
theorem parts_x {l : List T3} (hs : smallL l) {S : List Int} {k : Nat} {x : Int × Int} (h : partsTo l S k x) : (0 ≤ x.1 ∧ x.1 ≤ 1600) ∧ 1 ≤ x.2 ∧ x.2 ≤ 32 := by
  rcases h with ⟨_, rfl⟩ | ⟨_, f, h1, rfl⟩
  · simp
  · exact low_small (small_div hs h1)
end Go.Pv

namespace Go.Pv
theorem best_of {l : List T3} (hv : Valid l) : ∀ L : List (Nat × Nat × Nat), L ≠ [] → (∀ p ∈ L, isProof l.length p) → ∃ p, p ∈ L ∧ ∀ q ∈ L, ¬ fLt (prvL l p) (prvL l q)
  | [], h, _ => absurd rfl h
  | [a], _, _ => ⟨a, by simp, fun q hq => by
      have : q = a := by simpa using hq
      subst this
      exact fLt_irr _⟩
  | a :: b :: r, _, h => by
    obtain ⟨p, hp, hall⟩ := best_of hv (b :: r) (by simp) (fun p hp => h p (List.mem_cons_of_mem _ hp))
    have oa := prv_ok hv (h a (by simp))
    have op := prv_ok hv (h p (List.mem_cons_of_mem _ hp))
    by_cases c : fLt (prvL l p) (prvL l a)
    · refine ⟨a, by simp, fun q hq => ?_⟩
      rcases List.mem_cons.1 hq with rfl | hq
      · exact fLt_irr _
      · have oq := prv_ok hv (h q (List.mem_cons_of_mem _ hq))
        exact fLt_trans2 oa.2.1 op.2.1 oq.2.1 (by unfold fLt at *; omega) (hall q hq)
    · refine ⟨p, List.mem_cons_of_mem _ hp, fun q hq => ?_⟩
      rcases List.mem_cons.1 hq with rfl | hq
      · exact c
      · exact hall q hq
theorem best_ex {l : List T3} (hv : Valid l) : ∃ f, bestIs l f := by
  classical
  have hl := hv.1.1
  obtain ⟨n, hn⟩ : ∃ n, n = l.length := ⟨_, rfl⟩
  obtain ⟨p, hp, hall⟩ := best_of hv (((List.range n).flatMap fun i => (List.range n).flatMap fun j => (List.range n).map fun k => (i, j, k)).filter fun p => decide (isProof n p)) (by
    intro e
    have : (0, 0, 0) ∈ ((List.range n).flatMap fun i => (List.range n).flatMap fun j => (List.range n).map fun k => (i, j, k)).filter fun p => decide (isProof n p) := by
      simp only [List.mem_filter, List.mem_flatMap, List.mem_map, List.mem_range, decide_eq_true_eq]
      exact ⟨⟨0, by omega, 0, by omega, 0, by omega, rfl⟩, Or.inl ⟨rfl, rfl, by simp only; omega⟩⟩
    rw [e] at this
    simp at this) (by
    intro p hp
    have := (List.mem_filter.1 hp).2
    rw [← hn]
    exact of_decide_eq_true this)
  refine ⟨prvL l p, ⟨p, ?_, rfl⟩, fun q hq => hall q ?_⟩
  · have := (List.mem_filter.1 hp).2
    rw [← hn]
    exact of_decide_eq_true this
  · rw [← hn] at hq
    obtain ⟨i, j, k⟩ := q
    simp only [List.mem_filter, List.mem_flatMap, List.mem_map, List.mem_range, decide_eq_true_eq]
    refine ⟨?_, hq⟩
    unfold isProof at hq
    simp only at hq
    exact ⟨i, by omega, j, by omega, k, by omega, rfl⟩
theorem sub_best {l : List T3} {a b a' b' : Nat} {f f' : Int × Int} (h1 : a ≤ a') (h2 : a' < b') (h3 : b' ≤ b) (h4 : b ≤ l.length) (h : bestIs (secL l a b) f) (h' : bestIs (secL l a' b') f') : ¬ fLt f f' := by
  obtain ⟨⟨⟨p1, p2, p3⟩, hp, rfl⟩, _⟩ := h'
  have hlen' := sec_len (l := l) (i := a') (k := b') (by omega)
  have hlen := sec_len (l := l) (i := a) (k := b) h4
  rw [hlen'] at hp
  have g : ∀ j, j < b' - a' → (secL l a' b').getD j cD = (secL l a b).getD (j + (a' - a)) cD := fun j hj => by
    rw [sec_get hj, sec_get (by omega)]
    congr 1
    omega
  unfold isProof at hp
  simp only at hp
  have e : prvL (secL l a' b') (p1, p2, p3) = prvL (secL l a b) (p1 + (a' - a), p2 + (a' - a), p3 + (a' - a)) := by
    unfold prvL
    simp only
    rw [g p1 (by omega), g p2 (by omega), g p3 (by omega)]
    by_cases c : p1 = p2 ∧ p2 = p3
    · rw [if_pos c, if_pos (by omega)]
    · rw [if_neg c, if_neg (by omega)]
  rw [e]
  refine h.2 _ ?_
  rw [hlen]
  unfold isProof
  simp only
  omega
/-- With one player more there is a division that is not worse. -/
theorem div_more {l : List T3} (hv : Valid l) {p t : Nat} {S : List Int} {f : Int × Int} (h : DivE l p t S f) : p < t → ∃ S' f', DivE l (p + 1) t S' f' ∧ ¬ fLt f f' := by
  induction h with
  | @one t f h1 h2 h3 =>
    intro hpt
    obtain ⟨g, hg⟩ := best_ex (valid_sec hv (i := 0) (k := t - 1) (by omega) (by omega))
    obtain ⟨h, hh⟩ := best_ex (valid_sec hv (i := t - 1) (k := t) (by omega) (by omega))
    refine ⟨_, _, DivE.more (DivE.one (by omega) (by omega) hg) (by omega) h2 hh, ?_⟩
    unfold fMax
    split
    · exact sub_best (Nat.zero_le _) (by omega) (Nat.le_refl _) h2 h3 hh
    · exact sub_best (Nat.zero_le _) (by omega) (by omega) h2 h3 hg
  | @more p t s S g h a1 a2 a3 a4 ih =>
    intro hpt
    have o1 := (DivE.bd hv a1).2.2
    have o3 := best_ok (valid_sec hv a2 a3) a4
    by_cases c : p < s
    · obtain ⟨S', g', k1, k2⟩ := ih c
      have o2 := (DivE.bd hv k1).2.2
      exact ⟨_, _, DivE.more k1 a2 a3 a4, fMax_le o2.2.1 o3.2.1 o1.2.1 o3.2.1 k2 (fLt_irr _)⟩
    · have hps := (DivE.bd hv a1).1
      obtain ⟨g2, hg2⟩ := best_ex (valid_sec hv (i := s) (k := s + 1) (by omega) (by omega))
      obtain ⟨g3, hg3⟩ := best_ex (valid_sec hv (i := s + 1) (k := t) (by omega) (by omega))
      refine ⟨_, _, DivE.more (DivE.more a1 (show s < s + 1 by omega) (by omega) hg2) (show s + 1 < t by omega) a3 hg3, ?_⟩
      have o4 := best_ok (valid_sec hv (i := s) (k := s + 1) (by omega) (by omega)) hg2
      have o5 := best_ok (valid_sec hv (i := s + 1) (k := t) (by omega) (by omega)) hg3
      have k1 := sub_best (Nat.le_refl s) (by omega) (show s + 1 ≤ t by omega) a3 a4 hg2
      have k2 := sub_best (show s ≤ s + 1 by omega) (by omega) (Nat.le_refl t) a3 a4 hg3
      have m1 := fMax_le o1.2.1 o4.2.1 o1.2.1 o3.2.1 (fLt_irr g) k1
      have m2 : ¬ fLt (fMax g h) h := by
        unfold fMax
        split
        · exact fLt_irr _
        · assumption
      have m3 := fLt_trans2 (fMax_ok o1 o3).2.1 o3.2.1 o5.2.1 m2 k2
      unfold fMax at m1 m3 ⊢
      by_cases c1 : fLt g g2
      · simp only [c1, if_true] at m1 ⊢
        by_cases c2 : fLt g2 g3
        · simp only [c2, if_true]; exact m3
        · simp only [c2, if_false]; exact m1
      · simp only [c1, if_false] at m1 ⊢
        by_cases c2 : fLt g g3
        · simp only [c2, if_true]; exact m3
        · simp only [c2, if_false]; exact m1
theorem more_le {l : List T3} (hs : smallL l) {n : Nat} {S S' : List Int} {g g' : Int × Int} (h : bestDiv l n l.length S g) (hn : n < l.length) (h' : bestDiv l (n + 1) l.length S' g') : ¬ fLt (low g) (low g') := by
  obtain ⟨S1, f1, k1, k2⟩ := div_more hs.valid h.1 hn
  have k3 := h'.2 _ _ k1
  have b1 := (small_div hs h.1).2.1
  have b2 := (small_div hs h'.1).2.1
  have b3 := (small_div hs k1).2.1
  rw [fLt_low2 b1 b2]
  exact fLt_trans2 b1 b3 b2 k2 k3
theorem best_single {l : List T3} {s : Nat} {h : Int × Int} (hs : s < l.length) (hb : bestIs (secL l s (s + 1)) h) : h = oneP (l.getD s cD) := by
  obtain ⟨⟨⟨p1, p2, p3⟩, hp, rfl⟩, _⟩ := hb
  rw [sec_len (by omega)] at hp
  unfold isProof at hp
  simp only at hp
  have : p1 = 0 ∧ p2 = 0 ∧ p3 = 0 := by omega
  obtain ⟨rfl, rfl, rfl⟩ := this
  unfold prvL
  simp only [and_self, if_true]
  rw [sec_get (by omega)]
  rfl
/-- As many players as codes. -/
theorem div_all {l : List T3} (hv : Valid l) {p t : Nat} {S : List Int} {f : Int × Int} (h : DivE l p t S f) : p = t → (∃ j, j < t ∧ f = oneP (l.getD j cD)) ∧ ∀ j, j < t → ¬ fLt f (oneP (l.getD j cD)) := by
  induction h with
  | @one t f h1 h2 h3 =>
    intro e
    subst e
    have := best_single (s := 0) (by omega) h3
    subst this
    exact ⟨⟨0, by omega, rfl⟩, fun j hj => by
      obtain rfl : j = 0 := by omega
      exact fLt_irr _⟩
  | @more p t s S g h a1 a2 a3 a4 ih =>
    intro e
    have hb := (DivE.bd hv a1).1
    obtain rfl : s = p := by omega
    obtain rfl : t = s + 1 := by omega
    obtain ⟨⟨j, hj, hg⟩, hall⟩ := ih rfl
    have hh := best_single (by omega) a4
    subst hh
    have o1 : ∀ j, 1 ≤ (oneP (l.getD j cD)).2 := fun j => by unfold oneP; simp
    unfold fMax
    by_cases c : fLt g (oneP (l.getD s cD))
    · rw [if_pos c]
      refine ⟨⟨s, by omega, rfl⟩, fun k hk => ?_⟩
      by_cases e : k = s
      · subst e; exact fLt_irr _
      · exact fLt_trans2 (o1 s) (by rw [hg]; exact o1 j) (o1 k) (by unfold fLt at *; omega) (hall k (by omega))
    · rw [if_neg c]
      refine ⟨⟨j, by omega, hg⟩, fun k hk => ?_⟩
      by_cases e : k = s
      · subst e; exact c
      · exact hall k (by omega)
/-- The widest Want of the first k codes. -/
def wideK (l : List T3) (k : Nat) (m : Int) : Prop := (∀ j, j < k → (l.getD j cD).2.2 - (l.getD j cD).2.1 ≤ m) ∧ (m = 0 ∨ ∃ j, j < k ∧ m = (l.getD j cD).2.2 - (l.getD j cD).2.1)
theorem wide_zero (l : List T3) : wideK l 0 0 := ⟨fun j hj => absurd hj (Nat.not_lt_zero _), Or.inl rfl⟩
theorem wide_next {l : List T3} {k : Nat} {m : Int} (h : wideK l k m) : wideK l (k + 1) (max m ((l.getD k cD).2.2 - (l.getD k cD).2.1)) := by
  refine ⟨fun j hj => ?_, ?_⟩
  · by_cases e : j = k
    · subst e; omega
    · have := h.1 j (by omega); omega
  · by_cases c : (l.getD k cD).2.2 - (l.getD k cD).2.1 ≤ m
    · rw [Int.max_eq_left c]
      rcases h.2 with h | ⟨j, h1, h2⟩
      · exact Or.inl h
      · exact Or.inr ⟨j, by omega, h2⟩
    · rw [Int.max_eq_right (by omega)]
      exact Or.inr ⟨k, by omega, rfl⟩
theorem wide_bd {l : List T3} (hs : smallL l) {k : Nat} {m : Int} (hk : k ≤ l.length) (h : wideK l k m) : 0 ≤ m ∧ m ≤ 50 := by
  rcases h.2 with h | ⟨j, h1, h2⟩
  · omega
  · have := hs.2.1 j (by omega)
    omega
theorem wide_end {l : List T3} (hs : smallL l) {S : List Int} {g : Int × Int} {m : Int} (hw : wideK l l.length m) (h : bestDiv l l.length l.length S g) : 2 * (low g).1 = m * (low g).2 := by
  obtain ⟨⟨j, hj, rfl⟩, hall⟩ := div_all hs.valid h.1 rfl
  have hl := low_cross (f := oneP (l.getD j cD)) (by unfold oneP; simp)
  have e : m = (l.getD j cD).2.2 - (l.getD j cD).2.1 := by
    have h1 := hw.1 j hj
    have hjs := hs.2.1 j hj
    rcases hw.2 with h2 | ⟨k, h2, h3⟩
    · omega
    · have := hall k h2
      unfold fLt oneP at this
      simp only at this
      omega
  subst e
  generalize low (oneP (l.getD j cD)) = x at *
  unfold oneP at hl
  simp only at hl
  omega
end Go.Pv

namespace Go.Pv
open Go.RowKit
theorem divR_ok {l : List T3} {m e : Int} {n : Nat} {S : List Int} {x : Int × Int} (hv : Valid l) (hm : m = n) (h1 : 1 ≤ n ∧ n ≤ l.length) (h : divR l m S x e) : e = 0 ∧ ∃ g, bestDiv l n l.length S g ∧ x = low g := by
  subst hm
  rcases h with ⟨_, _, ⟨h2, _⟩ | ⟨_, h2, _⟩⟩ | ⟨_, _, h2, g, h3, h4⟩
  · exact absurd (cErr_valid hv) h2
  · omega
  · exact ⟨h2, g, h3, h4⟩
theorem small_sec {l : List T3} {i k : Nat} (hs : smallL l) (h1 : i < k) (h2 : k ≤ l.length) : smallL (secL l i k) := by
  refine ⟨?_, fun j hj => ?_, fun a b hab hb => ?_⟩
  · rw [sec_len h2]; have := hs.1; omega
  · rw [sec_len h2] at hj; rw [sec_get (by omega)]; exact hs.2.1 _ (by omega)
  · rw [sec_len h2] at hb; rw [sec_get (by omega), sec_get (by omega)]; exact hs.2.2 _ _ (by omega) (by omega)
theorem pow_bd {n M : Nat} (h : 1 ≤ n ∧ n ≤ 5) (hM : 2 ^ (n - 1) = M) : 1 ≤ M ∧ M ≤ 16 := by
  have : n = 1 ∨ n = 2 ∨ n = 3 ∨ n = 4 ∨ n = 5 := by omega
  rcases this with rfl | rfl | rfl | rfl | rfl <;> simp at hM <;> omega
theorem end_yes {S : List Int} {t k : Nat} (h : Asc S t) (hk : k + 1 < S.length) : S.getD (k + 1) 0 = (endS S t k : Int) := by
  have := h.2.2.2 (k + 1) hk
  unfold endS
  rw [if_pos hk]
  omega
theorem end_no {S : List Int} {t k : Nat} (hk : ¬ k + 1 < S.length) : (t : Int) = (endS S t k : Int) := by
  unfold endS
  rw [if_neg hk]
section
variable {P : Program} {l : St} {w : World} {od : Option Nat} {ty : TypeId} {pos : String} {af : Array Edge}
theorem r_shl2 {x y : Operand} {T T2 : TypeId} {k M : Nat} {m : Int} (hx : ev l x = .int .i64 1) (hy : ev l y = .int .i64 m) (hm : m = (k : Int)) (hM : 2 ^ k = M) (hn : k ≤ 62) : Runs P ⟨od, .binOp .shl T x y T2, ty, pos, af, none⟩ l w (.int .i64 (M : Int)) := by
  subst hm
  exact r_shl1 hx hy hM hn
theorem r_shr2 {x y : Operand} {T T2 : TypeId} {m k D : Nat} {u : Int} (hx : ev l x = .int .i64 (m : Int)) (hy : ev l y = .int .i64 u) (hu : u = (k : Int)) (hD : m / 2 ^ k = D) (hn : k ≤ 64) : Runs P ⟨od, .binOp .shr T x y T2, ty, pos, af, none⟩ l w (.int .i64 (D : Int)) := by
  subst hu
  exact r_shrN hx hy hD hn
end
section
variable {P : Program} {Q : Exit → Act → World → Prop} {ol rest : List Oper} {l : St} {w : World} {ty : TypeId} {pos : String} {af : Array Edge} {T : TypeId} {x y : Operand}
theorem W_append2 {d : Nat} {e : TypeId} {bytes base b c : Nat} {v : Value} {xs : List Int} {m : Int} {w0 : World} [hT : Und P T (.slice e)] [hz : Sz P e (.int .i64 0) 1 bytes]
    (hx : ev l x = v) (hown : Pv.Own e base w v xs) (hy : ev l y = .slice (some ⟨b, 0, none⟩) 1 c) (hb : Bx w b [.int .i64 m] e) (hlen : (xs.length + 1) * bytes ≤ 140737488355328 ∧ xs.length + 1 ≤ 9223372036854775807) (h0 : Ex w0 w) (hbase : w0.heap.size ≤ base) (hbase2 : base ≤ w.heap.size)
    (K : ∀ v' w', Pv.Own e base w' v' (xs ++ [m]) → Ex w0 w' → Below base w w' → w.grownBy w' v.ownBlock → W P ol Q rest (upd l d v') w') :
    W P ol Q (⟨some d, .call { callee := .builtin .append, args := #[x, y], argTypes := #[T, T] }, ty, pos, af, none⟩ :: rest) l w := by
  obtain ⟨i, h1, h2, h3, h4⟩ := hz.parts
  have ho := hown
  have hcb := hb.cells
  unfold Pv.Own at ho
  unfold Cells at hcb
  unfold W at K ⊢
  refine wpList_append_own w rfl x y T rfl base e i (.int .i64 0) 1 bytes hT.out h1 h2 h3 h4 rfl (by decide) v xs.length (xs.map (Value.int .i64)) (by rw [eval_act]; exact hx) ho.2 ⟨b, 0, none⟩ 1 c [.int .i64 m] (by rw [eval_act]; exact hy) rfl hcb (by simp [Value.oneCell']) (by unfold maxLen; omega) hlen.1 hbase2 ?_
  intro v' w' hown' hg _
  rw [put_act]
  refine K v' w' (by unfold Pv.Own; exact ⟨by unfold maxLen; simp; omega, by simpa using hown'⟩) (h0.of_grown hg fun k hk => ?_) ((Below.refl base w).grown hg hbase2 fun k hk => (hown.block k hk).1) hg
  have := hown.block k hk
  omega
end
end Go.Pv
namespace Go.Proofs.Ytbmjigneekodnaa
open Go.Pv Go.RowKit
set_option maxHeartbeats 20000000
set_option maxRecDepth 20000

theorem numbersT (va vb : Value) (a b : List Int) (w : World) (ha : Ints w va a) (hb : Ints w vb b) (h : a = b) : Ret Try.prog 32 [va, vb] w fun r _ => r = .bool true := by
  have := numbers_any va vb a b w ha hb
  rw [decide_eq_true h] at this
  exact this
theorem numbersF (va vb : Value) (a b : List Int) (w : World) (ha : Ints w va a) (hb : Ints w vb b) (h : ¬ a = b) : Ret Try.prog 32 [va, vb] w fun r _ => r = .bool false := by
  have := numbers_any va vb a b w ha hb
  rw [decide_eq_false h] at this
  exact this
theorem neRatio (x y : Int × Int) (w : World) : (binOp .neq 24 (.agg (pc x).toArray) (.agg (pc y).toArray)).run Try.prog w = .ok (.bool (!decide (x = y))) w := by
  have hS : Try.prog.underlying 24 = some (.struct (Try.prog.fieldsOf 24)) := by kernel_rfl
  have hp : Try.prog.stoodInHeld 24 = false := by kernel_rfl
  simp only [pc]
  rw [run_neq_struct, show (10000 : Nat) = 9999 + 1 from rfl, run_equalIn_agg w 9999 24 _ _ hS hp]
  simp only [Program.fieldsOf, Try.underlying24]
  go_simp
  obtain ⟨a, b⟩ := x
  obtain ⟨c, d⟩ := y
  by_cases h1 : a = c <;> by_cases h2 : b = d <;> simp [h1, h2]
theorem r_neRatioF {l : St} {w : World} {od : Option Nat} {ty : TypeId} {pos : String} {af : Array Edge} {x y : Operand} {a0 a1 : Int} (hx : ev l x = .agg #[.int .i64 a0, .int .i64 a1]) (hy : ev l y = .agg #[.int .i64 a0, .int .i64 a1]) : Runs Try.prog ⟨od, .binOp .neq 24 x y 24, ty, pos, af, none⟩ l w (.bool false) := by
  have hg : Try.prog.eqGuardType Try.prog.depth 24 = false := by kernel_rfl
  have h := neRatio (a0, a1) (a0, a1) w
  rw [decide_eq_true rfl] at h
  simp only [pc, Bool.not_true] at h
  unfold Runs
  simp only [execOp, hx, hy, Sem.run_bind, run_eqGuard_agg (w := w) .neq 24 x y _ _ hg, Result.andThen_ok, h, Sem.run_pure]
theorem playersL_any (v : Value) (xs : List T3) (pl : Int) (w : World) (h : Row c3 3 w v xs) (hx : ∀ j, by3 (xs.getD j cD)) (hpl : 0 ≤ pl ∧ pl ≤ 255) :
    Ret Try.prog 9 [v, .int .u8 pl] w fun r _ => r = .bool true := by
  have hv1 := h.one
  refine ret_of_c Try.func9 rfl Try.ntmps9 (Nat.le_of_ble_eq_true rfl) (by dsimp only [ini, Nat.reduceAdd] <;> exact rfl) ?_
  repeat' (first
      | (((with_reducible apply W_split); exact rfl; exact rfl; (all_goals intro _); (all_goals (try (exfalso; (focus (omega; done)))))))
      | (((with_reducible apply c_cond_dec); exact rfl; (all_goals intro _); (all_goals (try (exfalso; (focus (omega; done)))))))
      | ((with_reducible (show C _ _ _ _ _)); refine c_cutG (x := .region 1 _ _) (n := 202) (fun ps wr => ∃ (ul : Value) (l : List T3), ps = ([(1, .int .u8 pl), (5, ul)] : List (Nat × Value)) ∧ smallL l ∧ Row cC 3 wr ul l ∧ Ex w wr) (fun J1 hJ1 => ?_) (fun u1 ps1 wr1 hI1 => ?_); rotate_left 1; obtain ⟨ul, l, rfl, hsm, hl1, he⟩ := hI1; have hsz := he.size; have hlo := hl1.one; have hlen := hl1.len; have hvl := hsm.valid; have hl5 := hsm.1; (have hmod : 0 ≤ pl % (l.length : Int) ∧ pl % (l.length : Int) < l.length := ⟨Int.emod_nonneg _ (by omega), Int.emod_lt_of_pos _ (by omega)⟩); (obtain ⟨M, hM⟩ : ∃ M, 2 ^ (l.length - 1) = M := ⟨_, rfl⟩); (have hM16 := pow_bd hl5 hM); rotate_left 1)
      | ((with_reducible (show C _ _ _ _ _)); refine c_cutG (x := .region 2 _ _) (n := 202) (fun ps wr => ∃ (nn : Int), ps = ([(5, ul), (6, .int .i64 nn)] : List (Nat × Value)) ∧ (1 ≤ nn ∧ nn ≤ l.length) ∧ Ex wr1 wr) (fun J2 hJ2 => ?_) (fun u2 ps2 wr2 hI2 => ?_); rotate_left 1; obtain ⟨nn, rfl, hnn, he⟩ := hI2; have hsz := he.size; (obtain ⟨n, rfl⟩ : ∃ n : Nat, nn = n := ⟨nn.toNat, by omega⟩); rotate_left 1)
      | ((with_reducible apply W_op); exact rfl; exact rfl; ((with_reducible apply r_lenR (f := cC) (n := 3) (xs := l) (v := ul)); exact rfl; (first | exact Row.ex (by repeat (first | exact Ex.refl _ | assumption | (refine Ex.of_grown ?_ (by assumption) (by intro k hk; cases hk; omega)) | (refine Ex.trans ?_ (by assumption)))) hlB | exact Row.ex (by repeat (first | exact Ex.refl _ | assumption | (refine Ex.of_grown ?_ (by assumption) (by intro k hk; cases hk; omega)) | (refine Ex.trans ?_ (by assumption)))) hl3 | exact Row.ex (by repeat (first | exact Ex.refl _ | assumption | (refine Ex.of_grown ?_ (by assumption) (by intro k hk; cases hk; omega)) | (refine Ex.trans ?_ (by assumption)))) hl1)))
      | ((with_reducible apply W_op); exact rfl; exact rfl; ((with_reducible apply r_lenInts (v := vl) (xs := lstS q l.length)); exact rfl; exact IntsK.ex (by repeat (first | exact Ex.refl _ | assumption | (refine Ex.of_grown ?_ (by assumption) (by intro k hk; cases hk; omega)) | (refine Ex.trans ?_ (by assumption)))) hvlI))
      | ((with_reducible (show C _ _ _ _ _)); refine c_cutG (x := .region 3 _ _) (n := 202) (fun ps wr => ∃ (b8 : Nat) (vp : Value) (S : List Int) (x g : Int × Int), ps = ([(5, ul), (6, .int .i64 n), (7, vp), (8, .pointer (some ⟨b8, 0, none⟩)), (9, .int .i64 0)] : List (Nat × Value)) ∧ Ints wr vp S ∧ bestDiv l n l.length S g ∧ x = low g ∧ Bx wr b8 [.int .i64 x.1, .int .i64 x.2] 24 ∧ Ex wr1 wr) (fun J3 hJ3 => ?_) (fun u3 ps3 wl hI3 => ?_); rotate_left 1; obtain ⟨b8, vp, S, x, g, rfl, hvp, hbd, hxg, hx8, he⟩ := hI3; have hsz := he.size; have hvp1 := hvp.one; (have hl3 : Row cC 3 wl ul l := Row.ex he hl1); (have hwl : Ex w wl := (by repeat (first | assumption | exact Ex.refl _ | (refine Ex.trans ?_ (by assumption)) | (refine Ex.of_grown ?_ (by assumption) (by intro k hk; cases hk; omega))))); (have hszl := hwl.size); clear he; (have hxs := low_small (small_div hsm hbd.1)); rw [← hxg] at hxs; (have hsx : sF x := by unfold sF; omega); (have hSn : S.length = n := (DivE.bd hvl hbd.1).2.1); rotate_left 1)
      | ((with_reducible (show C _ _ _ _ _)); refine c_cutG (x := .region 6 _ _) (n := 202) (fun ps wr => ∃ (b10 b11 : Nat), ps = ([(5, ul), (6, .int .i64 n), (7, vp), (8, .pointer (some ⟨b8, 0, none⟩)), (10, .pointer (some ⟨b10, 0, none⟩)), (11, .pointer (some ⟨b11, 0, none⟩)), (12, .bool false)] : List (Nat × Value)) ∧ (wl.heap.size ≤ b10 ∧ b10 < b11) ∧ Bx wr b10 [.int .i64 1000000, .int .i64 1] 24 ∧ Bx wr b11 [.int .i64 0, .int .i64 1] 24 ∧ Ex wl wr) (fun J6 hJ6 => ?_) (fun u6 ps6 wr6 hI6 => ?_); rotate_left 1; obtain ⟨b10, b11, rfl, hbb, hx10, hx11, he⟩ := hI6; have hsz := he.size; (have tkO : True := trivial); rotate_left 1)
      | ((with_reducible (show C _ _ _ _ _)); clear tkA; (have hl11 := Bx.lt hx11); (have hpb := set_x hsm hinv); (have hsp : sF p := by unfold sF; omega); by_cases hqM : q < M; (have tkB : True := trivial); rotate_left 1; (have hqe : q = M := (by omega)); (have hend := set_end hsm hbd (hM.trans hqe.symm) hinv); (have hbt := hend.1); subst hbt; (have ho2 : x = o := hxg.trans hend.2.1.symm); subst ho2; (have hp2 : x = p := hxg.trans hend.2.2.symm); subst hp2; clear hend hinv; by_cases hnl : n < l.length; rotate_left 2)
      | ((with_reducible apply W_op); exact rfl; exact rfl; ((with_reducible apply r_shl2 (M := M) (k := l.length - 1)); exact rfl; exact rfl; omega; exact hM; omega))
      | ((with_reducible (show C _ _ _ _ _)); clear tkI; (have hl11 := Bx.lt hx11); by_cases hil : i < l.length; (obtain ⟨d, hd⟩ : ∃ d, q / 2 ^ (i - 1) = d := ⟨_, rfl⟩); (have hdq : d ≤ q := by rw [← hd]; exact Nat.div_le_self _ _); (have hll := lst_len (set := q) hi.1); by_cases hbit : d % 2 = 1; (have hlst : lstS q (i + 1) = lstS q i ++ [(i : Int)] := lst_yes hi.1 (by rw [hd]; exact hbit)); (have tkC : True := trivial); rotate_left 1; (have hlst : lstS q (i + 1) = lstS q i := lst_no hi.1 (by rw [hd]; exact hbit)); (have tkC : True := trivial); rotate_left 1; (have hie : i = l.length := (by omega)); subst hie; (have hvlI := Pv.Own.ints hown); rotate_left 1)
      | ((with_reducible apply W_op); exact rfl; exact rfl; ((with_reducible apply r_shr2 (m := q) (k := i - 1) (D := d)); exact rfl; exact rfl; omega; exact hd; omega))
      | ((with_reducible apply W_op); exact rfl; exact rfl; ((with_reducible apply r_and1 (m := d) (q := d % 2)); exact rfl; exact rfl; exact rfl; omega))
      | ((with_reducible (show C _ _ _ _ _)); refine c_cutG (x := .seq (.region 16 _ _) (.cond _ _ _)) (n := 202) (fun ps wr => ∃ (vl : Value), ps = ([(5, ul), (6, .int .i64 n), (7, vp), (8, .pointer (some ⟨b8, 0, none⟩)), (10, .pointer (some ⟨b10, 0, none⟩)), (11, .pointer (some ⟨b11, 0, none⟩)), (12, .bool b), (13, .int .i64 q), (14, vl)] : List (Nat × Value)) ∧ (lstS q l.length).length = n ∧ Pv.Own 3 (b11 + 1) wr vl (lstS q l.length) ∧ Bx wr b10 [.int .i64 p.1, .int .i64 p.2] 24 ∧ Bx wr b11 [.int .i64 o.1, .int .i64 o.2] 24 ∧ Ex wl wr) (fun JB hJB => ?_) (fun uB psB wB hIB => ?_); rotate_left 1; obtain ⟨vl, rfl, hln, hown, hx10, hx11, he⟩ := hIB; have hsz := he.size; have hvlI := Pv.Own.ints hown; have hvl1 := hvlI.one; (have hl11 := Bx.lt hx11); (have hA := lst_asc q hl5.1); (have hlB : Row cC 3 wB ul l := Row.ex he hl3); (have hvpB : Ints wB vp S := IntsK.ex he hvp); (have hy8 : Bx wB b8 [.int .i64 x.1, .int .i64 x.2] 24 := Bx.ex he hx8); (have tkK : True := trivial); rotate_left 1)
      | ((with_reducible (show C _ _ _ _ _)); clear tkD; (have hzs := parts_x hsm hpt); (have hsfz : sF z := by unfold sF; omega); by_cases hkl : k < (lstS q l.length).length; (have hab := end_bd hA hkl); (have hk0 := hA.2.2.2 k hkl); rotate_left 1; (have hke : k = (lstS q l.length).length := (by omega)); subst hke; (obtain ⟨f, hf, hzf⟩ := parts_end hA.1 hpt); rw [hln] at hf; rotate_left 1)
      | (refine W_indexInt (xs := (lstS q l.length)) (v := vl) (i := k + 1) rfl (IntsK.ex (by repeat (first | exact Ex.refl _ | assumption | (refine Ex.of_grown ?_ (by assumption) (by intro k hk; cases hk; omega)) | (refine Ex.trans ?_ (by assumption)))) hvlI) rfl (by omega) ?_; intro pq hpq)
      | ((with_reducible (show C _ _ _ _ _)); refine c_cutG (x := .seq (.region 22 _ _) (.cond _ _ _)) (n := 202) (fun ps wr => ∃ (ff tt : Int), ps = ([(5, ul), (6, .int .i64 n), (7, vp), (8, .pointer (some ⟨b8, 0, none⟩)), (10, .pointer (some ⟨b10, 0, none⟩)), (11, .pointer (some ⟨b11, 0, none⟩)), (12, .bool b), (13, .int .i64 q), (14, vl), (16, .pointer (some ⟨b16, 0, none⟩)), (18, .int .i64 ff), (19, .int .i64 tt), (89, vl), (90, .int .i64 (lstS q l.length).length), (91, .int .i64 k)] : List (Nat × Value)) ∧ ff = (lstS q l.length).getD k 0 ∧ tt = endS (lstS q l.length) l.length k ∧ Bx wr b16 [.int .i64 z.1, .int .i64 z.2] 24 ∧ Ex wB wr) (fun JE hJE => ?_) (fun uE psE wE hIE => ?_); rotate_left 1; obtain ⟨ff, tt, rfl, hff, htt, hx16, he⟩ := hIE; have hsz := he.size; (obtain ⟨c, rfl⟩ : ∃ c : Nat, tt = c := ⟨_, htt⟩); (obtain ⟨a, rfl⟩ : ∃ a : Nat, ff = a := ⟨ff.toNat, by omega⟩); (have ha : ((lstS q l.length).getD k 0).toNat = a := by omega); (have hc : endS (lstS q l.length) l.length k = c := by omega); (have hab2 : a < c ∧ c ≤ l.length := by omega); rotate_left 1)
      | ((with_reducible apply W_op); exact rfl; exact rfl; ((with_reducible apply r_subR (f := cC) (n := 3) (xs := l) (v := ul) (i := a) (j := c)); exact rfl; exact Row.ex (by repeat (first | exact Ex.refl _ | assumption | (refine Ex.of_grown ?_ (by assumption) (by intro k hk; cases hk; omega)) | (refine Ex.trans ?_ (by assumption)))) hlB; exact rfl; exact rfl; omega; omega))
      | ((with_reducible (show C _ _ _ _ _)); refine c_cutG (x := .region 24 _ _) (n := 202) (fun ps wr => ∃ (b21 : Nat) (y h0 : Int × Int), ps = ([(5, ul), (6, .int .i64 n), (7, vp), (8, .pointer (some ⟨b8, 0, none⟩)), (10, .pointer (some ⟨b10, 0, none⟩)), (11, .pointer (some ⟨b11, 0, none⟩)), (12, .bool b), (13, .int .i64 q), (14, vl), (16, .pointer (some ⟨b16, 0, none⟩)), (21, .pointer (some ⟨b21, 0, none⟩)), (22, .int .i64 0), (89, vl), (90, .int .i64 (lstS q l.length).length), (91, .int .i64 k)] : List (Nat × Value)) ∧ bestIs (secL l a c) h0 ∧ y = low h0 ∧ Bx wr b16 [.int .i64 z.1, .int .i64 z.2] 24 ∧ Bx wr b21 [.int .i64 y.1, .int .i64 y.2] 24 ∧ Ex wB wr) (fun JF hJF => ?_) (fun uF psF wF hIF => ?_); rotate_left 1; obtain ⟨b21, y, h0, rfl, hh, hy, hx16, hx21, he⟩ := hIF; have hsz := he.size; (have hys := low_small (small_best (small_sec hsm hab2.1 hab2.2) hh)); rw [← hy] at hys; (have hsy : sF y := by unfold sF; omega); (have hnx := parts_next hvl hA hkl hpt (by rw [ha, hc]; exact hh)); rw [← hy] at hnx; by_cases hlt : fLt z y; rw [if_pos hlt] at hnx; rotate_left 1; rw [if_neg hlt] at hnx; rotate_left 1; rotate_left 2)
      | ((with_reducible (show C _ _ _ _ _)); refine c_cutG (x := .seq (.region 30 _ _) (.cond _ _ _)) (n := 202) (fun ps wr => ∃ (p2 : Int × Int), ps = ([(5, ul), (6, .int .i64 n), (7, vp), (8, .pointer (some ⟨b8, 0, none⟩)), (10, .pointer (some ⟨b10, 0, none⟩)), (11, .pointer (some ⟨b11, 0, none⟩)), (12, .bool b), (13, .int .i64 q), (14, vl), (16, .pointer (some ⟨b16, 0, none⟩))] : List (Nat × Value)) ∧ p2 = (if fLt z p then z else p) ∧ Pv.Own 3 (b11 + 1) wr vl (lstS q l.length) ∧ Bx wr b10 [.int .i64 p2.1, .int .i64 p2.2] 24 ∧ Bx wr b11 [.int .i64 o.1, .int .i64 o.2] 24 ∧ Bx wr b16 [.int .i64 z.1, .int .i64 z.2] 24 ∧ Ex wl wr) (fun JG hJG => ?_) (fun uG psG wG hIG => ?_); rotate_left 1; obtain ⟨p2, rfl, hp2, hown2, hx10, hx11, hx16, he⟩ := hIG; have hsz := he.size; (have hvlI2 := Pv.Own.ints hown2); (have hinvN := set_take hsm hbd hinv hf); rw [← hzf, ← hp2] at hinvN; by_cases heq : lstS q l.length = S; simp only [if_pos heq] at hinvN; rotate_left 1; simp only [if_neg heq] at hinvN; rotate_left 1; by_cases hlt2 : fLt z p)
      | ((with_reducible apply W_op); exact rfl; exact rfl; ((with_reducible apply r_neRatioF); exact rfl; exact rfl))
      | ((with_reducible (show C _ _ _ _ _)); clear tkV; (have hwb := wide_bd hsm hj hwk); by_cases hjl : j < l.length; (have hcc := hsm.2.1 j hjl); rotate_left 1; (have hje : j = l.length := (by omega)); subst hje; (have hne : n = l.length := (by omega)); (have hbd3 : bestDiv l l.length l.length S g := by have h9 := hbd; rw [hne] at h9; exact h9); (have hend := wide_end hsm hwk hbd3); rw [← hxg] at hend; (have hmul := lmul_bd (a := m) (b := x.2) (A := 50) (B := 32) hwb (by omega)); rotate_left 1)
      | (refine W_indexRw (f := cC) (n := 3) (v := ul) (xs := l) (i := j) cD cC_len (by decide) rfl (Row.ex (by repeat (first | exact Ex.refl _ | assumption | (refine Ex.of_grown ?_ (by assumption) (by intro k hk; cases hk; omega)) | (refine Ex.trans ?_ (by assumption)))) hl3) rfl (by omega) ?_; intro pb po hpc; (have hpc3 : Cells _ ⟨pb, po, none⟩ [_, _, _] := hpc))
      | ((with_reducible apply W_op); exact rfl; exact rfl; ((with_reducible apply r_loadA); exact rfl; exact rfl; exact hpc3; exact rfl); clear hpc3)
      | ((first | ((with_reducible apply W_op); exact rfl; exact rfl)); (first | ((with_reducible apply r_conv8); exact rfl; omega) | ((with_reducible apply r_conv16); exact rfl; omega) | ((with_reducible apply r_remE); exact rfl; exact rfl; omega; omega) | ((with_reducible apply r_indexArr); exact rfl; exact rfl; omega) | (exact r_indexArr (i := 0) rfl rfl (by decide)) | (exact r_indexArr (i := 1) rfl rfl (by decide)) | (exact r_indexArr (i := 2) rfl rfl (by decide)) | ((with_reducible apply r_move); ((conv => lhs; whnf) <;> exact rfl)) | ((with_reducible apply r_assign); ((conv => lhs; whnf) <;> exact rfl)) | ((with_reducible apply r_fieldAddr); exact rfl) | ((with_reducible apply r_load); exact rfl; exact rfl; (first | assumption | exact (Bx.cell (by repeat (first | assumption | ((with_reducible apply Bx.grownS); assumption; (first | omega | exact Bx.ne (by assumption) (by omega))) | ((with_reducible apply Bx.below); assumption; omega) | ((with_reducible apply Bx.ex); assumption))) _).trans rfl | exact Ex.cell (by assumption) (by assumption))) | ((with_reducible apply r_loadF); exact rfl; (first | assumption | exact (Bx.cell (by repeat (first | assumption | ((with_reducible apply Bx.grownS); assumption; (first | omega | exact Bx.ne (by assumption) (by omega))) | ((with_reducible apply Bx.below); assumption; omega) | ((with_reducible apply Bx.ex); assumption))) _).trans rfl | exact Ex.cell (by assumption) (by assumption))) | ((with_reducible apply r_loadA); exact rfl; (first | assumption | exact Bx.cells (by repeat (first | assumption | ((with_reducible apply Bx.grownS); assumption; (first | omega | exact Bx.ne (by assumption) (by omega))) | ((with_reducible apply Bx.below); assumption; omega) | ((with_reducible apply Bx.ex); assumption))) | exact Cells.ex (by assumption) (by assumption)); exact rfl) | ((with_reducible apply r_lss); exact rfl; exact rfl) | ((with_reducible apply r_eql); exact rfl; exact rfl) | ((with_reducible apply r_neq); exact rfl; exact rfl) | ((with_reducible apply r_add); exact rfl; exact rfl; omega) | ((with_reducible apply r_sub); exact rfl; exact rfl; omega) | ((with_reducible apply r_len); exact rfl) | ((with_reducible apply r_lenStr); exact rfl) | ((with_reducible apply r_lenInts); ((conv => lhs; whnf) <;> exact rfl); (focus ((repeat (first | assumption | ((with_reducible apply OwnR.grownS); assumption; omega) | ((with_reducible apply Row.ex); assumption) | ((with_reducible apply OwnR.ex); assumption) | ((with_reducible apply Bx.grownS); assumption; (first | omega | exact Bx.ne (by assumption) (by omega))) | ((with_reducible apply Bx.below); assumption; omega) | ((with_reducible apply Own.grownS); assumption; omega) | ((with_reducible apply Bx.ex); assumption) | ((with_reducible apply IntsK.ex); assumption) | ((with_reducible apply Own.ex); assumption) | ((with_reducible apply Prs.ex); assumption))); done))) | ((with_reducible apply r_lenPrs); ((conv => lhs; whnf) <;> exact rfl); (focus ((repeat (first | assumption | ((with_reducible apply OwnR.grownS); assumption; omega) | ((with_reducible apply Row.ex); assumption) | ((with_reducible apply OwnR.ex); assumption) | ((with_reducible apply Bx.grownS); assumption; (first | omega | exact Bx.ne (by assumption) (by omega))) | ((with_reducible apply Bx.below); assumption; omega) | ((with_reducible apply Own.grownS); assumption; omega) | ((with_reducible apply Bx.ex); assumption) | ((with_reducible apply IntsK.ex); assumption) | ((with_reducible apply Own.ex); assumption) | ((with_reducible apply Prs.ex); assumption))); done))) | ((with_reducible apply r_pick_true); exact rfl; ((conv => lhs; whnf) <;> exact rfl)) | ((with_reducible apply r_pick_false); exact rfl; ((conv => lhs; whnf) <;> exact rfl)) | ((with_reducible apply r_not); exact rfl) | ((with_reducible apply r_notb); exact rfl) | ((with_reducible apply r_rem); exact rfl; exact rfl; omega) | ((with_reducible apply r_mul); exact rfl; exact rfl; omega) | ((with_reducible apply r_eqlb); exact rfl; exact rfl) | ((with_reducible apply r_neqb); exact rfl; exact rfl) | ((with_reducible apply r_extract); exact rfl; exact rfl) | ((with_reducible apply r_conv); exact rfl) | ((with_reducible apply r_loadSub); exact rfl; (focus ((repeat (first | assumption | ((with_reducible apply Bx.grownS); assumption; (first | omega | exact Bx.ne (by assumption) (by omega))) | ((with_reducible apply Bx.below); assumption; omega) | ((with_reducible apply Bx.ex); assumption))); done)); ((simp only [Nat.add_zero, Nat.zero_add, Nat.reduceAdd, List.drop_zero, List.drop_succ_cons, List.take_succ_cons, List.take_zero]) <;> exact rfl); exact rfl) | ((with_reducible apply r_max2); exact rfl; exact rfl) | ((with_reducible apply r_lenR); ((conv => lhs; whnf) <;> exact rfl); (focus ((repeat (first | assumption | ((with_reducible apply OwnR.grownS); assumption; omega) | ((with_reducible apply Row.ex); assumption) | ((with_reducible apply OwnR.ex); assumption) | ((with_reducible apply Bx.grownS); assumption; (first | omega | exact Bx.ne (by assumption) (by omega))) | ((with_reducible apply Bx.below); assumption; omega) | ((with_reducible apply Own.grownS); assumption; omega) | ((with_reducible apply Bx.ex); assumption) | ((with_reducible apply IntsK.ex); assumption) | ((with_reducible apply Own.ex); assumption) | ((with_reducible apply Prs.ex); assumption))); done)))))
      | (refine W_call (made_any v xs _ (h.ex (by repeat (first | assumption | exact Ex.refl _ | (refine Ex.trans ?_ (by assumption)) | (refine Ex.of_grown ?_ (by assumption) (by intro k hk; cases hk; omega))))) hx) rfl ?_; rintro uln wq hln he; have hsz := he.size; (have hlno := hln.one))
      | ((with_reducible (show Exit.then _ _ _ _ _)); refine n_cutG (hJ1 _ _ _ ⟨_, _, rfl, madeL_small xs, Row.ex (by repeat (first | exact Ex.refl _ | assumption | (refine Ex.of_grown ?_ (by assumption) (by intro k hk; cases hk; omega)) | (refine Ex.trans ?_ (by assumption)))) hln, (by repeat (first | assumption | exact Ex.refl _ | (refine Ex.trans ?_ (by assumption)) | (refine Ex.of_grown ?_ (by assumption) (by intro k hk; cases hk; omega))))⟩ ⟨rfl, rfl, trivial⟩ rfl))
      | ((with_reducible (show Exit.then _ _ _ _ _)); refine n_cutG (hJ2 _ _ _ ⟨_, rfl, (by omega), (by repeat (first | exact Ex.refl _ | assumption | (refine Ex.of_grown ?_ (by assumption) (by intro k hk; cases hk; omega)) | (refine Ex.trans ?_ (by assumption))))⟩ ⟨rfl, rfl, trivial⟩ rfl))
      | (refine W_call (Divide_any ul l n _ (Row.ex (by repeat (first | exact Ex.refl _ | assumption | (refine Ex.of_grown ?_ (by assumption) (by intro k hk; cases hk; omega)) | (refine Ex.trans ?_ (by assumption)))) hl1)) rfl ?_; rintro vq wq ⟨vp, S, x, e, rfl, hvp, hvpn, hdR⟩ he; have hsz := he.size; (have hvp1 := hvp.one); obtain ⟨rfl, g, hbd, hxg⟩ := divR_ok hvl (n := n) rfl (by omega) hdR)
      | ((with_reducible (show Exit.then _ _ _ _ _)); refine n_cutG (hJ3 _ _ _ ⟨_, _, S, x, g, rfl, IntsK.ex (by repeat (first | exact Ex.refl _ | assumption | (refine Ex.of_grown ?_ (by assumption) (by intro k hk; cases hk; omega)) | (refine Ex.trans ?_ (by assumption)))) hvp, hbd, hxg, (by repeat (first | assumption | ((with_reducible apply Bx.grownS); assumption; (first | omega | exact Bx.ne (by assumption) (by omega))) | ((with_reducible apply Bx.below); assumption; omega) | ((with_reducible apply Bx.ex); assumption))), (by repeat (first | exact Ex.refl _ | assumption | (refine Ex.of_grown ?_ (by assumption) (by intro k hk; cases hk; omega)) | (refine Ex.trans ?_ (by assumption))))⟩ ⟨rfl, rfl, rfl, rfl, rfl, trivial⟩ rfl))
      | (refine W_callv (smallT x _ (by omega)) rfl (fun wq he => ?_); have hsz := he.size)
      | ((with_reducible (show Exit.then _ _ _ _ _)); refine n_cutG (hJ6 _ _ _ ⟨_, _, rfl, (by omega), (by repeat (first | assumption | ((with_reducible apply Bx.grownS); assumption; (first | omega | exact Bx.ne (by assumption) (by omega))) | ((with_reducible apply Bx.below); assumption; omega) | ((with_reducible apply Bx.ex); assumption))), (by repeat (first | assumption | ((with_reducible apply Bx.grownS); assumption; (first | omega | exact Bx.ne (by assumption) (by omega))) | ((with_reducible apply Bx.below); assumption; omega) | ((with_reducible apply Bx.ex); assumption))), (by repeat (first | exact Ex.refl _ | assumption | (refine Ex.of_grown ?_ (by assumption) (by intro k hk; cases hk; omega)) | (refine Ex.trans ?_ (by assumption))))⟩ ⟨rfl, rfl, rfl, rfl, rfl, rfl, rfl, trivial⟩ rfl))
      | (refine W_callv (part_any _ _ _) rfl (fun wq he => ?_); have hsz := he.size)
      | ((with_reducible apply W_append2); ((conv => lhs; whnf) <;> exact rfl); (focus ((repeat (first | assumption | ((with_reducible apply OwnR.grownS); assumption; omega) | ((with_reducible apply Row.ex); assumption) | ((with_reducible apply OwnR.ex); assumption) | ((with_reducible apply Bx.grownS); assumption; (first | omega | exact Bx.ne (by assumption) (by omega))) | ((with_reducible apply Bx.below); assumption; omega) | ((with_reducible apply Own.grownS); assumption; omega) | ((with_reducible apply Bx.ex); assumption) | ((with_reducible apply IntsK.ex); assumption) | ((with_reducible apply Own.ex); assumption) | ((with_reducible apply Prs.ex); assumption))); done)); exact rfl; (focus ((repeat (first | assumption | ((with_reducible apply OwnR.grownS); assumption; omega) | ((with_reducible apply Row.ex); assumption) | ((with_reducible apply OwnR.ex); assumption) | ((with_reducible apply Bx.grownS); assumption; (first | omega | exact Bx.ne (by assumption) (by omega))) | ((with_reducible apply Bx.below); assumption; omega) | ((with_reducible apply Own.grownS); assumption; omega) | ((with_reducible apply Bx.ex); assumption) | ((with_reducible apply IntsK.ex); assumption) | ((with_reducible apply Own.ex); assumption) | ((with_reducible apply Prs.ex); assumption))); done)); omega; (focus ((show Ex wl _); (repeat (first | assumption | exact Ex.refl _ | (refine Ex.trans ?_ (by assumption)) | (refine Ex.of_grown ?_ (by assumption) (by intro k hk; cases hk; omega)))); done)); omega; (first | omega | exact Bx.lt (by repeat (first | assumption | ((with_reducible apply OwnR.grownS); assumption; omega) | ((with_reducible apply Row.ex); assumption) | ((with_reducible apply OwnR.ex); assumption) | ((with_reducible apply Bx.grownS); assumption; (first | omega | exact Bx.ne (by assumption) (by omega))) | ((with_reducible apply Bx.below); assumption; omega) | ((with_reducible apply Own.grownS); assumption; omega) | ((with_reducible apply Bx.ex); assumption) | ((with_reducible apply IntsK.ex); assumption) | ((with_reducible apply Own.ex); assumption) | ((with_reducible apply Prs.ex); assumption)))); intro vq wq hown he hkq hgq; have hsz := he.size)
      | ((with_reducible (show Exit.then _ _ _ _ _)); refine n_cutG (hJB _ _ _ ⟨_, rfl, (by omega), (by repeat (first | assumption | ((with_reducible apply OwnR.grownS); assumption; omega) | ((with_reducible apply Row.ex); assumption) | ((with_reducible apply OwnR.ex); assumption) | ((with_reducible apply Bx.grownS); assumption; (first | omega | exact Bx.ne (by assumption) (by omega))) | ((with_reducible apply Bx.below); assumption; omega) | ((with_reducible apply Own.grownS); assumption; omega) | ((with_reducible apply Bx.ex); assumption) | ((with_reducible apply IntsK.ex); assumption) | ((with_reducible apply Own.ex); assumption) | ((with_reducible apply Prs.ex); assumption))), (by repeat (first | assumption | ((with_reducible apply Bx.grownS); assumption; (first | omega | exact Bx.ne (by assumption) (by omega))) | ((with_reducible apply Bx.below); assumption; omega) | ((with_reducible apply Bx.ex); assumption))), (by repeat (first | assumption | ((with_reducible apply Bx.grownS); assumption; (first | omega | exact Bx.ne (by assumption) (by omega))) | ((with_reducible apply Bx.below); assumption; omega) | ((with_reducible apply Bx.ex); assumption))), (by repeat (first | exact Ex.refl _ | assumption | (refine Ex.of_grown ?_ (by assumption) (by intro k hk; cases hk; omega)) | (refine Ex.trans ?_ (by assumption))))⟩ ⟨rfl, rfl, rfl, rfl, rfl, rfl, rfl, rfl, rfl, trivial⟩ rfl))
      | ((with_reducible (show Exit.then _ _ _ _ _)); refine n_cutG (hJE _ _ _ ⟨_, _, rfl, rfl, (by first | exact end_yes hA (by omega) | exact end_no (by omega)), (by repeat (first | assumption | ((with_reducible apply Bx.grownS); assumption; (first | omega | exact Bx.ne (by assumption) (by omega))) | ((with_reducible apply Bx.below); assumption; omega) | ((with_reducible apply Bx.ex); assumption))), (by repeat (first | exact Ex.refl _ | assumption | (refine Ex.of_grown ?_ (by assumption) (by intro k hk; cases hk; omega)) | (refine Ex.trans ?_ (by assumption))))⟩ ⟨rfl, rfl, rfl, rfl, rfl, rfl, rfl, rfl, rfl, rfl, rfl, rfl, rfl, rfl, rfl, trivial⟩ rfl))
      | (refine W_call (Best_any (subV 3 ul a c) (secL l a c) _ (Row.sub (Row.ex (by repeat (first | exact Ex.refl _ | assumption | (refine Ex.of_grown ?_ (by assumption) (by intro k hk; cases hk; omega)) | (refine Ex.trans ?_ (by assumption)))) hlB) (by omega) (by omega))) rfl ?_; rintro vq wq ⟨bg, bo, y, e2, rfl, hbR⟩ he; have hsz := he.size; obtain ⟨rfl, h0, hh, hy⟩ := bestR_ok (valid_sec hvl hab2.1 hab2.2) hbR)
      | ((with_reducible (show Exit.then _ _ _ _ _)); refine n_cutG (hJF _ _ _ ⟨_, y, h0, rfl, hh, hy, (by repeat (first | assumption | ((with_reducible apply Bx.grownS); assumption; (first | omega | exact Bx.ne (by assumption) (by omega))) | ((with_reducible apply Bx.below); assumption; omega) | ((with_reducible apply Bx.ex); assumption))), (by repeat (first | assumption | ((with_reducible apply Bx.grownS); assumption; (first | omega | exact Bx.ne (by assumption) (by omega))) | ((with_reducible apply Bx.below); assumption; omega) | ((with_reducible apply Bx.ex); assumption))), (by repeat (first | exact Ex.refl _ | assumption | (refine Ex.of_grown ?_ (by assumption) (by intro k hk; cases hk; omega)) | (refine Ex.trans ?_ (by assumption))))⟩ ⟨rfl, rfl, rfl, rfl, rfl, rfl, rfl, rfl, rfl, rfl, rfl, rfl, rfl, rfl, rfl, trivial⟩ rfl))
      | (refine W_callv (smallT y _ (by omega)) rfl (fun wq he => ?_); have hsz := he.size)
      | (refine W_callv (llessT z y _ hsfz hsy hlt) rfl (fun wq he => ?_); have hsz := he.size)
      | (refine W_callv (llessF z y _ hsfz hsy hlt) rfl (fun wq he => ?_); have hsz := he.size)
      | (refine W_callv (llessT z p _ hsfz hsp hlt2) rfl (fun wq he => ?_); have hsz := he.size)
      | (refine W_callv (llessF z p _ hsfz hsp hlt2) rfl (fun wq he => ?_); have hsz := he.size)
      | ((with_reducible (show Exit.then _ _ _ _ _)); refine n_cutG (hJG _ _ _ ⟨_, rfl, (by first | exact (if_pos hlt2).symm | exact (if_neg hlt2).symm), (by repeat (first | assumption | ((with_reducible apply OwnR.grownS); assumption; omega) | ((with_reducible apply Row.ex); assumption) | ((with_reducible apply OwnR.ex); assumption) | ((with_reducible apply Bx.grownS); assumption; (first | omega | exact Bx.ne (by assumption) (by omega))) | ((with_reducible apply Bx.below); assumption; omega) | ((with_reducible apply Own.grownS); assumption; omega) | ((with_reducible apply Bx.ex); assumption) | ((with_reducible apply IntsK.ex); assumption) | ((with_reducible apply Own.ex); assumption) | ((with_reducible apply Prs.ex); assumption))), (by repeat (first | assumption | ((with_reducible apply Bx.grownS); assumption; (first | omega | exact Bx.ne (by assumption) (by omega))) | ((with_reducible apply Bx.below); assumption; omega) | ((with_reducible apply Bx.ex); assumption))), (by repeat (first | assumption | ((with_reducible apply Bx.grownS); assumption; (first | omega | exact Bx.ne (by assumption) (by omega))) | ((with_reducible apply Bx.below); assumption; omega) | ((with_reducible apply Bx.ex); assumption))), (by repeat (first | assumption | ((with_reducible apply Bx.grownS); assumption; (first | omega | exact Bx.ne (by assumption) (by omega))) | ((with_reducible apply Bx.below); assumption; omega) | ((with_reducible apply Bx.ex); assumption))), (by repeat (first | exact Ex.refl _ | assumption | (refine Ex.of_grown ?_ (by assumption) (by intro k hk; cases hk; omega)) | (refine Ex.trans ?_ (by assumption))))⟩ ⟨rfl, rfl, rfl, rfl, rfl, rfl, rfl, rfl, rfl, rfl, trivial⟩ rfl))
      | (refine W_callv (numbersT vl vp _ S _ (IntsK.ex (by repeat (first | exact Ex.refl _ | assumption | (refine Ex.of_grown ?_ (by assumption) (by intro k hk; cases hk; omega)) | (refine Ex.trans ?_ (by assumption)))) hvlI2) (IntsK.ex (by repeat (first | exact Ex.refl _ | assumption | (refine Ex.of_grown ?_ (by assumption) (by intro k hk; cases hk; omega)) | (refine Ex.trans ?_ (by assumption)))) hvp) heq) rfl (fun wq he => ?_); have hsz := he.size)
      | (refine W_callv (numbersF vl vp _ S _ (IntsK.ex (by repeat (first | exact Ex.refl _ | assumption | (refine Ex.of_grown ?_ (by assumption) (by intro k hk; cases hk; omega)) | (refine Ex.trans ?_ (by assumption)))) hvlI2) (IntsK.ex (by repeat (first | exact Ex.refl _ | assumption | (refine Ex.of_grown ?_ (by assumption) (by intro k hk; cases hk; omega)) | (refine Ex.trans ?_ (by assumption)))) hvp) heq) rfl (fun wq he => ?_); have hsz := he.size)
      | (refine W_call (Divide_any ul l ((n : Int) + 1) _ (Row.ex (by repeat (first | exact Ex.refl _ | assumption | (refine Ex.of_grown ?_ (by assumption) (by intro k hk; cases hk; omega)) | (refine Ex.trans ?_ (by assumption)))) hl3)) rfl ?_; rintro vq wq ⟨vp2, S2, y2, e2, rfl, hvp2, hvpn2, hdR2⟩ he; have hsz := he.size; (have hvp21 := hvp2.one); obtain ⟨rfl, g2, hbd2, hxg2⟩ := divR_ok hvl (n := n + 1) (by omega) (by omega) hdR2; (have hys2 := low_small (small_div hsm hbd2.1)); rw [← hxg2] at hys2; (have hsy2 : sF y2 := by unfold sF; omega); (have hnle := more_le hsm hbd hnl hbd2); rw [← hxg, ← hxg2] at hnle)
      | (refine W_callv (smallT y2 _ (by omega)) rfl (fun wq he => ?_); have hsz := he.size)
      | (refine W_callv (llessF x y2 _ hsx hsy2 hnle) rfl (fun wq he => ?_); have hsz := he.size)
      | (refine W_callv (works_any _) rfl (fun wq he => ?_); have hsz := he.size)
      | ((with_reducible (show C _ _ _ _ _)); clear tkO; refine c_loopG (fun (q : Nat) ps wr => ∃ b : Bool, ∃ qq : Int, ∃ p o : Int × Int, ps = [(5, ul), (6, .int .i64 n), (7, vp), (8, .pointer (some ⟨b8, 0, none⟩)), (10, .pointer (some ⟨b10, 0, none⟩)), (11, .pointer (some ⟨b11, 0, none⟩)), (12, .bool b), (13, .int .i64 qq)] ∧ qq = q ∧ q ≤ M ∧ setInv l n S g q p o b ∧ Bx wr b10 [.int .i64 p.1, .int .i64 p.2] 24 ∧ Bx wr b11 [.int .i64 o.1, .int .i64 o.2] 24 ∧ Ex wl wr) (fun q => M - q) 0 _ ⟨_, _, (1000000, 1), (0, 1), rfl, rfl, Nat.zero_le _, set_zero, (by repeat (first | assumption | ((with_reducible apply Bx.grownS); assumption; (first | omega | exact Bx.ne (by assumption) (by omega))) | ((with_reducible apply Bx.below); assumption; omega) | ((with_reducible apply Bx.ex); assumption))), (by repeat (first | assumption | ((with_reducible apply Bx.grownS); assumption; (first | omega | exact Bx.ne (by assumption) (by omega))) | ((with_reducible apply Bx.below); assumption; omega) | ((with_reducible apply Bx.ex); assumption))), (by repeat (first | exact Ex.refl _ | assumption | (refine Ex.of_grown ?_ (by assumption) (by intro k hk; cases hk; omega)) | (refine Ex.trans ?_ (by assumption))))⟩ ⟨rfl, rfl, rfl, rfl, rfl, rfl, rfl, rfl, trivial⟩ (by ((conv => lhs; whnf) <;> exact rfl)) ?_; rintro JO hJO q u ps wr ⟨b, qq, p, o, rfl, rfl, hqm, hinv, hx10, hx11, he⟩; have hsz := he.size; have tkA : True := trivial)
      | ((with_reducible (show Exit.then _ _ _ _ _)); refine n_roundG (q + 1) (hJO _ _ _ _ ⟨_, _, _, _, rfl, by omega, by omega, (by first | exact hinvN | exact set_skip hSn hinv (by omega)), (by repeat (first | assumption | ((with_reducible apply Bx.grownS); assumption; (first | omega | exact Bx.ne (by assumption) (by omega))) | ((with_reducible apply Bx.below); assumption; omega) | ((with_reducible apply Bx.ex); assumption))), (by repeat (first | assumption | ((with_reducible apply Bx.grownS); assumption; (first | omega | exact Bx.ne (by assumption) (by omega))) | ((with_reducible apply Bx.below); assumption; omega) | ((with_reducible apply Bx.ex); assumption))), (by repeat (first | exact Ex.refl _ | assumption | (refine Ex.of_grown ?_ (by assumption) (by intro k hk; cases hk; omega)) | (refine Ex.trans ?_ (by assumption))))⟩ ⟨rfl, rfl, rfl, rfl, rfl, rfl, rfl, rfl, trivial⟩ rfl) (by omega))
      | ((with_reducible (show C _ _ _ _ _)); clear tkB; refine c_loopG (fun (i : Nat) ps wr => ∃ vl : Value, ∃ ii : Int, ps = [(5, ul), (6, .int .i64 n), (7, vp), (8, .pointer (some ⟨b8, 0, none⟩)), (10, .pointer (some ⟨b10, 0, none⟩)), (11, .pointer (some ⟨b11, 0, none⟩)), (12, .bool b), (13, .int .i64 q), (14, vl), (15, .int .i64 ii)] ∧ ii = i ∧ (1 ≤ i ∧ i ≤ l.length) ∧ Pv.Own 3 (b11 + 1) wr vl (lstS q i) ∧ Bx wr b10 [.int .i64 p.1, .int .i64 p.2] 24 ∧ Bx wr b11 [.int .i64 o.1, .int .i64 o.2] 24 ∧ Ex wl wr) (fun i => l.length - i) 1 _ ⟨_, _, rfl, rfl, ⟨Nat.le_refl _, by omega⟩, (show Pv.Own 3 (b11 + 1) _ _ (lstS q 1) from Pv.Own.built (m := 0) (by repeat (first | assumption | ((with_reducible apply Bx.grownS); assumption; (first | omega | exact Bx.ne (by assumption) (by omega))) | ((with_reducible apply Bx.below); assumption; omega) | ((with_reducible apply Bx.ex); assumption))) (by omega)), (by repeat (first | assumption | ((with_reducible apply Bx.grownS); assumption; (first | omega | exact Bx.ne (by assumption) (by omega))) | ((with_reducible apply Bx.below); assumption; omega) | ((with_reducible apply Bx.ex); assumption))), (by repeat (first | assumption | ((with_reducible apply Bx.grownS); assumption; (first | omega | exact Bx.ne (by assumption) (by omega))) | ((with_reducible apply Bx.below); assumption; omega) | ((with_reducible apply Bx.ex); assumption))), (by repeat (first | exact Ex.refl _ | assumption | (refine Ex.of_grown ?_ (by assumption) (by intro k hk; cases hk; omega)) | (refine Ex.trans ?_ (by assumption))))⟩ ⟨rfl, rfl, rfl, rfl, rfl, rfl, rfl, rfl, rfl, rfl, trivial⟩ (by ((conv => lhs; whnf) <;> exact rfl)) ?_; rintro JI hJI i u ps wr ⟨vl, ii, rfl, rfl, hi, hown, hx10, hx11, he⟩; have hsz := he.size; have tkI : True := trivial)
      | ((with_reducible (show Exit.then _ _ _ _ _)); refine n_roundG (i + 1) (hJI _ _ _ _ ⟨_, _, rfl, by omega, by omega, (by rw [hlst]; (repeat (first | assumption | ((with_reducible apply OwnR.grownS); assumption; omega) | ((with_reducible apply Row.ex); assumption) | ((with_reducible apply OwnR.ex); assumption) | ((with_reducible apply Bx.grownS); assumption; (first | omega | exact Bx.ne (by assumption) (by omega))) | ((with_reducible apply Bx.below); assumption; omega) | ((with_reducible apply Own.grownS); assumption; omega) | ((with_reducible apply Bx.ex); assumption) | ((with_reducible apply IntsK.ex); assumption) | ((with_reducible apply Own.ex); assumption) | ((with_reducible apply Prs.ex); assumption)))), (by repeat (first | assumption | ((with_reducible apply Bx.grownS); assumption; (first | omega | exact Bx.ne (by assumption) (by omega))) | ((with_reducible apply Bx.below); assumption; omega) | ((with_reducible apply Bx.ex); assumption))), (by repeat (first | assumption | ((with_reducible apply Bx.grownS); assumption; (first | omega | exact Bx.ne (by assumption) (by omega))) | ((with_reducible apply Bx.below); assumption; omega) | ((with_reducible apply Bx.ex); assumption))), (by repeat (first | exact Ex.refl _ | assumption | (refine Ex.of_grown ?_ (by assumption) (by intro k hk; cases hk; omega)) | (refine Ex.trans ?_ (by assumption))))⟩ ⟨rfl, rfl, rfl, rfl, rfl, rfl, rfl, rfl, rfl, rfl, trivial⟩ rfl) (by omega))
      | ((with_reducible (show C _ _ _ _ _)); clear tkK; refine c_loopG (fun (k : Nat) ps wr => ∃ b16 : Nat, ∃ kk : Int, ∃ z : Int × Int, ps = [(5, ul), (6, .int .i64 n), (7, vp), (8, .pointer (some ⟨b8, 0, none⟩)), (10, .pointer (some ⟨b10, 0, none⟩)), (11, .pointer (some ⟨b11, 0, none⟩)), (12, .bool b), (13, .int .i64 q), (14, vl), (16, .pointer (some ⟨b16, 0, none⟩)), (89, vl), (90, .int .i64 (lstS q l.length).length), (91, .int .i64 kk)] ∧ kk = k ∧ k ≤ (lstS q l.length).length ∧ wB.heap.size ≤ b16 ∧ partsTo l (lstS q l.length) k z ∧ Bx wr b16 [.int .i64 z.1, .int .i64 z.2] 24 ∧ Ex wB wr) (fun k => (lstS q l.length).length - k) 0 _ ⟨_, _, (0, 1), rfl, rfl, Nat.zero_le _, (by omega), Or.inl ⟨rfl, rfl⟩, (by repeat (first | assumption | ((with_reducible apply Bx.grownS); assumption; (first | omega | exact Bx.ne (by assumption) (by omega))) | ((with_reducible apply Bx.below); assumption; omega) | ((with_reducible apply Bx.ex); assumption))), (by repeat (first | exact Ex.refl _ | assumption | (refine Ex.of_grown ?_ (by assumption) (by intro k hk; cases hk; omega)) | (refine Ex.trans ?_ (by assumption))))⟩ ⟨rfl, rfl, rfl, rfl, rfl, rfl, rfl, rfl, rfl, rfl, rfl, rfl, rfl, trivial⟩ (by ((conv => lhs; whnf) <;> exact rfl)) ?_; rintro JK hJK k u ps wr ⟨b16, kk, z, rfl, rfl, hk, hb16, hpt, hx16, he⟩; have hsz := he.size; have tkD : True := trivial)
      | ((with_reducible (show Exit.then _ _ _ _ _)); refine n_roundG (k + 1) (hJK _ _ _ _ ⟨_, _, _, rfl, by omega, by omega, hb16, hnx, (by repeat (first | assumption | ((with_reducible apply Bx.grownS); assumption; (first | omega | exact Bx.ne (by assumption) (by omega))) | ((with_reducible apply Bx.below); assumption; omega) | ((with_reducible apply Bx.ex); assumption))), (by repeat (first | exact Ex.refl _ | assumption | (refine Ex.of_grown ?_ (by assumption) (by intro k hk; cases hk; omega)) | (refine Ex.trans ?_ (by assumption))))⟩ ⟨rfl, rfl, rfl, rfl, rfl, rfl, rfl, rfl, rfl, rfl, rfl, rfl, rfl, trivial⟩ rfl) (by omega))
      | ((with_reducible (show C _ _ _ _ _)); refine c_loopG (fun (j : Nat) ps wr => ∃ m : Int, ∃ jj : Int, ps = [(8, .pointer (some ⟨b8, 0, none⟩)), (26, .int .i64 m), (175, ul), (176, .int .i64 l.length), (177, .int .i64 jj)] ∧ jj = j ∧ j ≤ l.length ∧ wideK l j m ∧ Ex wl wr) (fun j => l.length - j) 0 _ ⟨_, _, rfl, rfl, Nat.zero_le _, wide_zero l, (by repeat (first | exact Ex.refl _ | assumption | (refine Ex.of_grown ?_ (by assumption) (by intro k hk; cases hk; omega)) | (refine Ex.trans ?_ (by assumption))))⟩ ⟨rfl, rfl, rfl, rfl, rfl, trivial⟩ (by ((conv => lhs; whnf) <;> exact rfl)) ?_; rintro JW hJW j u ps wr ⟨m, jj, rfl, rfl, hj, hwk, he⟩; have hsz := he.size; have tkV : True := trivial)
      | ((with_reducible (show Exit.then _ _ _ _ _)); refine n_roundG (j + 1) (hJW _ _ _ _ ⟨_, _, rfl, by omega, by omega, wide_next hwk, (by repeat (first | exact Ex.refl _ | assumption | (refine Ex.of_grown ?_ (by assumption) (by intro k hk; cases hk; omega)) | (refine Ex.trans ?_ (by assumption))))⟩ ⟨rfl, rfl, rfl, rfl, rfl, trivial⟩ rfl) (by omega))
      | (with_reducible apply W_nil)
      | ((with_reducible apply W_alloc); exact rfl; intro bq wq hbq he hnq; have hltq := Bx.lt hbq; have hsz := he.size)
      | ((with_reducible apply W_indexInt); ((conv => lhs; whnf) <;> exact rfl); (focus ((repeat (first | assumption | ((with_reducible apply OwnR.grownS); assumption; omega) | ((with_reducible apply Row.ex); assumption) | ((with_reducible apply OwnR.ex); assumption) | ((with_reducible apply Bx.grownS); assumption; (first | omega | exact Bx.ne (by assumption) (by omega))) | ((with_reducible apply Bx.below); assumption; omega) | ((with_reducible apply Own.grownS); assumption; omega) | ((with_reducible apply Bx.ex); assumption) | ((with_reducible apply IntsK.ex); assumption) | ((with_reducible apply Own.ex); assumption) | ((with_reducible apply Prs.ex); assumption))); done)); exact rfl; omega; intro pq hpq)
      | ((with_reducible apply W_indexIntss); ((conv => lhs; whnf) <;> exact rfl); assumption; (focus ((repeat (first | assumption | exact Ex.refl _ | (refine Ex.trans ?_ (by assumption)) | (refine Ex.of_grown ?_ (by assumption) (by intro k hk; cases hk; omega)))); done)); exact rfl; omega; intro pq uq hpq huq)
      | ((with_reducible apply W_indexPr); ((conv => lhs; whnf) <;> exact rfl); (focus ((repeat (first | assumption | ((with_reducible apply OwnR.grownS); assumption; omega) | ((with_reducible apply Row.ex); assumption) | ((with_reducible apply OwnR.ex); assumption) | ((with_reducible apply Bx.grownS); assumption; (first | omega | exact Bx.ne (by assumption) (by omega))) | ((with_reducible apply Bx.below); assumption; omega) | ((with_reducible apply Own.grownS); assumption; omega) | ((with_reducible apply Bx.ex); assumption) | ((with_reducible apply IntsK.ex); assumption) | ((with_reducible apply Own.ex); assumption) | ((with_reducible apply Prs.ex); assumption))); done)); exact rfl; omega; intro pq hpq)
      | ((with_reducible apply W_bsP); exact rfl; exact rfl; intro bq wq hbq he hnq; have hltq := Bx.lt hbq; have hsz := he.size)
      | ((with_reducible apply W_storeA); exact rfl; (focus ((repeat (first | assumption | ((with_reducible apply Bx.grownS); assumption; (first | omega | exact Bx.ne (by assumption) (by omega))) | ((with_reducible apply Bx.below); assumption; omega) | ((with_reducible apply Bx.ex); assumption))); done)); exact rfl; exact rfl; exact rfl; (repeat' (first | exact trivial | (first | exact rfl | assumption | exact IntsK.one (by assumption) | exact Prs.one (by assumption) | exact Own.one (by assumption) | exact Row.one (by assumption) | exact OwnR.one (by assumption)) | constructor)); intro wq hbq hgq; have he : Ex w wq := (by repeat (first | assumption | exact Ex.refl _ | (refine Ex.trans ?_ (by assumption)) | (refine Ex.of_grown ?_ (by assumption) (by intro k hk; cases hk; omega)))); have hsz := he.size; have hgz := hgq.size)
      | ((with_reducible apply W_store); exact rfl; (focus ((repeat (first | assumption | ((with_reducible apply Bx.grownS); assumption; (first | omega | exact Bx.ne (by assumption) (by omega))) | ((with_reducible apply Bx.below); assumption; omega) | ((with_reducible apply Bx.ex); assumption))); done)); exact Nat.le_of_ble_eq_true rfl; ((conv => lhs; whnf) <;> exact rfl); (first | exact rfl | assumption | exact IntsK.one (by assumption) | exact Prs.one (by assumption) | exact Own.one (by assumption) | exact Row.one (by assumption) | exact OwnR.one (by assumption)); simp only [lset]; intro wq hbq hgq; have he : Ex w wq := (by repeat (first | assumption | exact Ex.refl _ | (refine Ex.trans ?_ (by assumption)) | (refine Ex.of_grown ?_ (by assumption) (by intro k hk; cases hk; omega)))); have hsz := he.size; have hgz := hgq.size)
      | ((with_reducible apply W_pass); exact rfl; exact rfl; exact rfl; exact rfl; exact rfl)
      | ((with_reducible apply W_take); exact rfl; exact rfl; exact rfl)
      | ((with_reducible apply W_passU); exact rfl; exact rfl; exact rfl; exact rfl)
      | ((with_reducible apply W_split); exact rfl; exact rfl; intro _; rotate_left 1; intro _)
      | ((with_reducible apply W_convBytes); exact rfl; (first | assumption | (unfold maxLen; omega)); intro vq wq hvq he; have hsz := he.size)
      | ((with_reducible apply W_bs1); ((conv => lhs; whnf) <;> exact rfl); (first | exact rfl | assumption | exact IntsK.one (by assumption) | exact Prs.one (by assumption) | exact Own.one (by assumption) | exact Row.one (by assumption) | exact OwnR.one (by assumption)); decide; decide; exact rfl; exact rfl; ((simp only [lay, lset, List.replicate_succ, List.replicate_zero]) <;> exact rfl); intro bq wq hbq he hnq; have hltq := Bx.lt hbq; have hsz := he.size)
      | (with_reducible apply c_seq)
      | (with_reducible apply c_region)
      | (with_reducible apply c_block)
      | (with_reducible apply c_skip)
      | (with_reducible apply c_ret)
      | (with_reducible apply c_exit)
      | ((with_reducible apply c_cond_true); exact rfl)
      | ((with_reducible apply c_cond_false); exact rfl)
      | ((with_reducible apply c_cond_dec); exact rfl; intro _; rotate_left 1; intro _)
      | ((with_reducible apply c_cond_bool); exact rfl; intro _; rotate_left 1; intro _)
      | (with_reducible apply n_then)
      | (with_reducible apply n_block)
      | (with_reducible apply e_then)
      | (with_reducible apply e_block)
      | (with_reducible apply r_then)
      | (with_reducible apply r_block)
      | ((with_reducible apply e_block'); decide)
      | ((with_reducible apply p_ret1); exact rfl; ((conv => lhs; whnf) <;> exact rfl); refine ⟨_, rfl, ?_, (by repeat (first | assumption | exact Ex.refl _ | (refine Ex.trans ?_ (by assumption)) | (refine Ex.of_grown ?_ (by assumption) (by intro k hk; cases hk; omega))))⟩)
      | ((with_reducible apply q_ret1); exact rfl; ((conv => lhs; whnf) <;> exact rfl); refine ⟨_, rfl, ?_, (by repeat (first | assumption | exact Ex.refl _ | (refine Ex.trans ?_ (by assumption)) | (refine Ex.of_grown ?_ (by assumption) (by intro k hk; cases hk; omega))))⟩)
      | ((with_reducible apply p_retct); exact rfl; exact inferInstance; exact inferInstance; exact rfl; (focus ((repeat (first | assumption | ((with_reducible apply Bx.grownS); assumption; (first | omega | exact Bx.ne (by assumption) (by omega))) | ((with_reducible apply Bx.below); assumption; omega) | ((with_reducible apply Bx.ex); assumption))); done)); exact rfl; exact rfl; refine ⟨_, rfl, ?_, (by repeat (first | assumption | exact Ex.refl _ | (refine Ex.trans ?_ (by assumption)) | (refine Ex.of_grown ?_ (by assumption) (by intro k hk; cases hk; omega))))⟩)
      | ((exfalso; omega)))
  all_goals first | rfl | skip
end Go.Proofs.Ytbmjigneekodnaa

