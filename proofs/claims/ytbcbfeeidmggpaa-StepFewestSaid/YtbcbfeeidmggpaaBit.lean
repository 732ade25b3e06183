/-
  What this text proves: lists of positions by the bits of a number; the shortest list without a common offset is as long as the clash. Shifts and 'and' of numbers that are not below 0.
-/
import Derived.Test.YtbcbfeeidmggpaaI
set_option linter.unusedVariables false
set_option linter.unusedSimpArgs false

namespace Go.Pv
open Go.RowKit
/-- The numbers below k whose bit is set, in ascending order. -/
def bitsL : Nat → Nat → List Int
  | 0, _ => []
  | k + 1, set => if set.testBit k then bitsL k set ++ [(k : Int)] else bitsL k set
theorem bitsL_in : ∀ {k set : Nat} {x : Int}, x ∈ bitsL k set → 0 ≤ x ∧ x < k
  | 0, _, x, h => by simp [bitsL] at h
  | k + 1, set, x, h => by
    simp only [bitsL] at h
    split at h
    · rcases List.mem_append.1 h with h | h
      · have := bitsL_in h; omega
      · simp at h; omega
    · have := bitsL_in h; omega
theorem bitsL_lt : ∀ k set : Nat, (bitsL k set).Pairwise (· < ·)
  | 0, _ => by simp [bitsL]
  | k + 1, set => by
    simp only [bitsL]
    split
    · refine List.pairwise_append.2 ⟨bitsL_lt k set, by simp, fun a ha b hb => ?_⟩
      have := bitsL_in ha
      simp at hb; omega
    · exact bitsL_lt k set
theorem bitsL_len : ∀ k set : Nat, (bitsL k set).length ≤ k
  | 0, _ => by simp [bitsL]
  | k + 1, set => by
    have := bitsL_len k set
    simp only [bitsL]
    split
    · simp; omega
    · omega
theorem bitsL_congr {a b : Nat} : ∀ {k : Nat}, (∀ i, i < k → a.testBit i = b.testBit i) → bitsL k a = bitsL k b
  | 0, _ => rfl
  | k + 1, h => by
    simp only [bitsL]
    rw [h k (by omega), bitsL_congr fun i hi => h i (by omega)]
theorem bitsL_yes {k set : Nat} (h : set / 2 ^ k % 2 = 1) : bitsL (k + 1) set = bitsL k set ++ [(k : Int)] := by
  simp only [bitsL]; rw [if_pos (by rw [Nat.testBit_eq_decide_div_mod_eq]; simpa using h)]
theorem bitsL_no {k set : Nat} (h : ¬ set / 2 ^ k % 2 = 1) : bitsL (k + 1) set = bitsL k set := by
  simp only [bitsL]; rw [if_neg (by rw [Nat.testBit_eq_decide_div_mod_eq]; simpa using h)]
theorem bitsL_some {set : Nat} (h0 : 1 ≤ set) : ∀ {k : Nat}, set < 2 ^ k → bitsL k set ≠ [] := by
  intro k hk e
  have hz : ∀ {m : Nat}, m ≤ k → bitsL m set = [] → ∀ i, i < m → set.testBit i = false := by
    intro m
    induction m with
    | zero => intro _ _ i hi; omega
    | succ m ih =>
      intro hm he i hi
      simp only [bitsL] at he
      split at he
      · simp at he
      · next hb =>
        by_cases e2 : i = m
        · subst e2; simpa using hb
        · exact ih (by omega) he i (by omega)
  have h1 := hz (Nat.le_refl k) e
  obtain ⟨i, hi⟩ := Nat.exists_testBit_of_ne_zero (show set ≠ 0 by omega)
  by_cases hik : i < k
  · rw [h1 i hik] at hi; cases hi
  · have := Nat.testBit_lt_two_pow (x := set) (i := i) (Nat.lt_of_lt_of_le hk (Nat.pow_le_pow_right (by omega) (by omega)))
    rw [this] at hi; cases hi
/-- Each list in ascending order is that of some number. -/
theorem bitsL_sur : ∀ (n : Nat) (H : List Int), H.Pairwise (· < ·) → (∀ x ∈ H, 0 ≤ x ∧ x < n) → ∃ set, set < 2 ^ n ∧ bitsL n set = H
  | 0, H, _, h => by
    cases H with
    | nil => exact ⟨0, by simp, rfl⟩
    | cons x r => have := h x (by simp); omega
  | n + 1, H, hp, h => by
    rcases List.eq_nil_or_concat H with rfl | ⟨H', x, rfl⟩
    · obtain ⟨set, h1, h2⟩ := bitsL_sur n [] (by simp) (by simp)
      refine ⟨set, by rw [Nat.pow_succ]; omega, ?_⟩
      simp only [bitsL]
      rw [if_neg (by rw [Nat.testBit_lt_two_pow h1]; simp), h2]
    · rw [List.concat_eq_append] at hp h ⊢
      obtain ⟨p1, -, p2⟩ := List.pairwise_append.1 hp
      have hx := h x (by simp)
      have hH : ∀ y ∈ H', 0 ≤ y ∧ y < x := fun y hy => ⟨(h y (by simp [hy])).1, p2 y hy x (by simp)⟩
      by_cases e : x = n
      · subst e
        obtain ⟨set, h1, h2⟩ := bitsL_sur n H' p1 hH
        refine ⟨2 ^ n + set, by rw [Nat.pow_succ]; omega, ?_⟩
        simp only [bitsL]
        rw [if_pos (by rw [Nat.testBit_two_pow_add_eq, Nat.testBit_lt_two_pow h1]; rfl)]
        rw [bitsL_congr (b := set) fun i hi => Nat.testBit_two_pow_add_gt hi set, h2]
      · obtain ⟨set, h1, h2⟩ := bitsL_sur n (H' ++ [x]) hp (fun y hy => by
          rcases List.mem_append.1 hy with hy | hy
          · have := hH y hy; omega
          · simp at hy; omega)
        refine ⟨set, by rw [Nat.pow_succ]; omega, ?_⟩
        simp only [bitsL]
        rw [if_neg (by rw [Nat.testBit_lt_two_pow h1]; simp), h2]
/-- The shortest of the lists below number m that have no common offset, if there is one. -/
def ClOut (off s : Int) (xs : List Int) (m : Nat) (out : List Int) : Prop :=
  (∀ x ∈ out, 0 ≤ x ∧ x < xs.length) ∧ out.Pairwise (· < ·) ∧ (out ≠ [] → offL off s (pickL xs out) = []) ∧
    ∀ set, 1 ≤ set → set < m → offL off s (pickL xs (bitsL xs.length set)) = [] → out ≠ [] ∧ out.length ≤ (bitsL xs.length set).length
theorem clOut_zero {off s : Int} {xs : List Int} : ClOut off s xs 1 [] := ⟨by simp, by simp, fun h => absurd rfl h, fun set h1 h2 => by omega⟩
theorem clOut_yes {off s : Int} {xs : List Int} {m : Nat} {out : List Int} (hm : m < 2 ^ xs.length) (h1 : 1 ≤ m) (h : ClOut off s xs m out) (hc : out.length = 0 ∨ (bitsL xs.length m).length < out.length) (ho : offL off s (pickL xs (bitsL xs.length m)) = []) :
    ClOut off s xs (m + 1) (bitsL xs.length m) := by
  obtain ⟨a, b, c, d⟩ := h
  refine ⟨fun x hx => bitsL_in hx, bitsL_lt _ _, fun _ => ho, fun set k1 k2 k3 => ⟨bitsL_some h1 hm, ?_⟩⟩
  by_cases e : set = m
  · subst e; omega
  · have := d set k1 (by omega) k3
    rcases hc with hc | hc
    · exact absurd (List.eq_nil_of_length_eq_zero hc) this.1
    · omega
theorem clOut_no {off s : Int} {xs : List Int} {m : Nat} {out : List Int} (h : ClOut off s xs m out) (hc : ¬ ((out.length = 0 ∨ (bitsL xs.length m).length < out.length) ∧ offL off s (pickL xs (bitsL xs.length m)) = [])) :
    ClOut off s xs (m + 1) out := by
  obtain ⟨a, b, c, d⟩ := h
  refine ⟨a, b, c, fun set k1 k2 k3 => ?_⟩
  by_cases e : set = m
  · subst e
    have : ¬ (out.length = 0 ∨ (bitsL xs.length set).length < out.length) := fun h => hc ⟨h, k3⟩
    exact ⟨fun e => this (.inl (by rw [e]; rfl)), by omega⟩
  · exact d set k1 (by omega) k3
section
variable {P : Program} {l : St} {w : World} {od : Option Nat} {ty : TypeId} {pos : String} {af : Array Edge}
theorem and_one (m : Nat) (hm : m < 9223372036854775808) : bits .and .i64 (m : Int) 1 = ((m % 2 : Nat) : Int) := by
  have h1 : (BitVec.ofInt 64 (m : Int)).toNat = m := by
    rw [BitVec.ofInt_natCast, BitVec.toNat_ofNat]; exact Nat.mod_eq_of_lt (by omega)
  have h2 : (BitVec.ofInt 64 (1 : Int)).toNat = 1 := by decide
  show IntKind.i64.wrap ((BitVec.ofInt 64 (m : Int) &&& BitVec.ofInt 64 (1 : Int)).toNat : Int) = _
  rw [BitVec.toNat_and, h1, h2, Nat.and_one_is_mod]
  exact IntWalk.i64_in _ (by omega)
theorem r_shr0 {x y : Operand} {T T2 : TypeId} {k k2 : IntKind} {m n : Int} (hx : ev l x = .int k m) (hy : ev l y = .int k2 n) (hn : 0 ≤ n) : Runs P ⟨od, .binOp .shr T x y T2, ty, pos, af, none⟩ l w (.int k (m / 2 ^ min n.toNat k.bits)) :=
  by simp [Runs, execOp, hx, hy, run_guard_int, binOp, Go.shift_shr_any k k2 m n hn]
theorem r_and0 {x y : Operand} {T T2 : TypeId} {k : IntKind} {m n : Int} (hx : ev l x = .int k m) (hy : ev l y = .int k n) : Runs P ⟨od, .binOp .and T x y T2, ty, pos, af, none⟩ l w (.int k (bits .and k m n)) :=
  r_bin hx hy (by rw [Go.binOp_and]; rfl)
theorem r_and1 {x y : Operand} {T T2 : TypeId} {m : Nat} (hx : ev l x = .int .i64 (m : Int)) (hy : ev l y = .int .i64 1) {q : Nat} (hq : m % 2 = q) (hm : m < 9223372036854775808) : Runs P ⟨od, .binOp .and T x y T2, ty, pos, af, none⟩ l w (.int .i64 (q : Int)) := by
  subst hq
  have := r_and0 (P := P) (od := od) (ty := ty) (pos := pos) (af := af) (T := T) (T2 := T2) (w := w) hx hy
  rwa [and_one m hm] at this
theorem r_shrN {x y : Operand} {T T2 : TypeId} {m n : Nat} (hx : ev l x = .int .i64 (m : Int)) (hy : ev l y = .int .i64 (n : Int)) {q : Nat} (hq : m / 2 ^ n = q) (hn : n ≤ 64) : Runs P ⟨od, .binOp .shr T x y T2, ty, pos, af, none⟩ l w (.int .i64 (q : Int)) := by
  subst hq
  have := r_shr0 (P := P) (od := od) (ty := ty) (pos := pos) (af := af) (T := T) (T2 := T2) (w := w) hx hy (by omega)
  have e : (m : Int) / 2 ^ min (n : Int).toNat (IntKind.bits .i64) = ((m / 2 ^ n : Nat) : Int) := by
    rw [show min (n : Int).toNat (IntKind.bits .i64) = n by simp [IntKind.bits]; omega]
    simp
  rwa [e] at this
theorem r_shl1 {x y : Operand} {T T2 : TypeId} {n : Nat} (hx : ev l x = .int .i64 1) (hy : ev l y = .int .i64 (n : Int)) {M : Nat} (hM : 2 ^ n = M) (hn : n ≤ 62) : Runs P ⟨od, .binOp .shl T x y T2, ty, pos, af, none⟩ l w (.int .i64 (M : Int)) := by
  subst hM
  have hp : 2 ^ n ≤ 2 ^ 62 := Nat.pow_le_pow_right (by omega) hn
  have e : IntKind.i64.wrap (1 * 2 ^ min (n : Int).toNat (IntKind.bits .i64)) = ((2 ^ n : Nat) : Int) := by
    rw [show min (n : Int).toNat (IntKind.bits .i64) = n by simp [IntKind.bits]; omega, Int.one_mul, show (2 : Int) ^ n = ((2 ^ n : Nat) : Int) by simp]
    obtain ⟨q, hq⟩ : ∃ q : Nat, q = 2 ^ n := ⟨_, rfl⟩
    rw [← hq] at hp ⊢
    exact IntWalk.i64_in _ (by omega)
  simp only [Runs, execOp, hx, hy, run_guard_int, binOp, Go.shift_shl_any .i64 .i64 1 (n : Int) (by omega), e, Sem.run_bind, Result.andThen_ok, Sem.run_pure]
end
end Go.Pv
