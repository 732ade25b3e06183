/-
  (heavy) (rows) What this text proves: SpoolClashes returns true. Conditions: bytes are such.
-/
import Derived.Test.YtagibgjemliadaaVta
import Derived.Test.YtagibgjemliadaaVl
import Derived.Test.YtagibgjemliadaaVrs
set_option linter.unusedVariables false
set_option linter.unusedSimpArgs false

namespace Go.Pv
theorem cs_err {co ti lo hi off : Int} {ms : List (Int × Int)} (hr : (1 ≤ ti ∧ ti ≤ 20) ∧ (ti ≤ co ∧ co ≤ 99) ∧ (0 ≤ lo ∧ lo ≤ 29) ∧ lo ≤ hi ∧ hi ≤ lo + 5) (ho : 0 ≤ off ∧ off ≤ 19) (hm : allOk ms ∧ ms.length ≤ 6) : mErr co ti lo hi off ms = 0 :=
  mErr_good (by unfold spOk; omega) (by omega) (by omega) hm.1
/-- The growths that fit all lie from one on to another one. -/
theorem span_ex (co off : Int) {lo hi : Int} (h : lo ≤ hi) : ∀ {ms : List (Int × Int)}, allOk ms → ∃ A B, (lo ≤ A ∧ B ≤ hi) ∧ ∀ g, lo ≤ g → g ≤ hi → (fitAll co off g ms ↔ A ≤ g ∧ g ≤ B)
  | [], _ => ⟨lo, hi, ⟨by omega, by omega⟩, fun g h1 h2 => ⟨fun _ => ⟨h1, h2⟩, fun _ m hm => absurd hm (by simp)⟩⟩
  | m :: r, hok => by
    have hok2 := allOk_mem.1 hok
    obtain ⟨A, B, h1, h2⟩ := span_ex co off h (ms := r) (allOk_mem.2 fun x hx => hok2 x (by simp [hx]))
    obtain ⟨f1, f2⟩ := fit_spec (co := co) (off := off) (lo := lo) (hi := hi) (m := m) (hok2 m (by simp)).1.1 h
    refine ⟨max A (fitLo co off lo hi m), min B (fitHi co off lo hi m - 1), by omega, fun g g1 g2 => ?_⟩
    have e1 := h2 g g1 g2
    have e2 := f2 g g1 g2
    constructor
    · intro hf
      have k1 := e1.1 fun x hx => hf x (by simp [hx])
      have k2 := e2.1 (hf m (by simp))
      omega
    · intro hh x hx
      rcases List.mem_cons.1 hx with rfl | hx
      · exact e2.2 (by omega)
      · exact e1.2 (by omega) x hx
def runL (A : Int) (n : Nat) : List Int := (List.range n).map fun i : Nat => A + i
theorem run_len (A : Int) (n : Nat) : (runL A n).length = n := by simp [runL]
theorem run_succ (A : Int) (n : Nat) : runL A (n + 1) = runL A n ++ [A + n] := by simp [runL, List.range_succ]
theorem run_get (A : Int) {n i : Nat} (h : i < n) : (runL A n).getD i 0 = A + i := by simp [runL, h]
theorem cA {co ti lo hi off a b e A B : Int} {ms : List (Int × Int)} (h : GrRes co ti lo hi off ms a b e) (h0 : mErr co ti lo hi off ms = 0) (h1 : lo ≤ A ∧ B ≤ hi) (h2 : ∀ g, lo ≤ g → g ≤ hi → (fitAll co off g ms ↔ A ≤ g ∧ g ≤ B)) : (A ≤ B → e = 0 ∧ a = A ∧ b = B) ∧ (B < A → e = 15) := by
  rcases h with ⟨k, _⟩ | ⟨_, rfl, k⟩ | ⟨_, rfl, _, _, k⟩
  · exact absurd h0 k
  · refine ⟨fun hab => ?_, fun hab => ?_⟩
    · have := span_uniq k ⟨⟨h1.1, hab, h1.2⟩, h2⟩
      exact ⟨rfl, this.1, this.2⟩
    · have := (h2 a k.1.1 (by have := k.1; omega)).1 ((k.2 a k.1.1 (by have := k.1; omega)).2 ⟨by omega, by have := k.1; omega⟩)
      omega
  · exact ⟨fun hab => absurd ((h2 A h1.1 (by omega)).2 ⟨by omega, hab⟩) (k A h1.1 (by omega)), fun _ => rfl⟩
theorem cB {co ti lo hi off e A B : Int} {ms : List (Int × Int)} {cl : List Int} (h : ClRes co ti lo hi off ms cl e) (h0 : mErr co ti lo hi off ms = 0) (h1 : lo ≤ A ∧ B ≤ hi) (h2 : ∀ g, lo ≤ g → g ≤ hi → (fitAll co off g ms ↔ A ≤ g ∧ g ≤ B)) : (A ≤ B → e = 8 ∧ cl.length = 0) ∧ (B < A → e = 0 ∧ vfV co ti lo hi off ms cl = 0) := by
  have hf := cl_facts h
  rcases h with ⟨k, _⟩ | ⟨_, rfl, rfl, a, b, k⟩ | ⟨_, rfl, k1, k2⟩
  · exact absurd h0 k
  · refine ⟨fun _ => ⟨rfl, rfl⟩, fun hab => ?_⟩
    have := (h2 a k.1.1 (by have := k.1; omega)).1 ((k.2 a k.1.1 (by have := k.1; omega)).2 ⟨by omega, by have := k.1; omega⟩)
    omega
  · exact ⟨fun hab => absurd ((h2 A h1.1 (by omega)).2 ⟨by omega, hab⟩) (clash_all k2 k1 A h1.1 (by omega)), fun _ => ⟨rfl, hf.1 rfl⟩⟩
/-- Two numbers of measurements, or one, and what they are. -/
def NsOk (co off lo hi : Int) (ms : List (Int × Int)) (ns : List Int) (i z : Int) : Prop :=
  (0 < ns.length ∧ ns.length ≤ 2) ∧ ns.getD (ns.length - 1) 0 = z ∧ (0 ≤ z ∧ z < ms.length) ∧ clsErr ms.length ns = 0 ∧ (clashM co off lo hi ms ns ↔ ∀ g, lo ≤ g → g ≤ hi → ¬ (fitG co off g (ms.getD i.toNat (0, 0)) ∧ fitG co off g (ms.getD z.toNat (0, 0))))
theorem ns_one {co off lo hi i : Int} {ms : List (Int × Int)} (h : 0 ≤ i ∧ i < ms.length) : NsOk co off lo hi ms [i] i i := by
  refine ⟨by simp, rfl, h, ?_, ?_⟩
  · simp only [clsErr, List.length_singleton, clStep]
    rw [if_neg (by omega), if_neg (by omega), if_neg (by omega), if_neg (by omega)]
  · unfold clashM
    constructor
    · intro hh g g1 g2 hf
      exact hh g g1 g2 fun m hm => by
        simp only [pickM, List.map_cons, List.map_nil, List.mem_cons, List.not_mem_nil, or_false] at hm
        subst hm; exact hf.1
    · intro hh g g1 g2 hf
      have := hf (ms.getD i.toNat (0, 0)) (by simp [pickM])
      exact hh g g1 g2 ⟨this, this⟩
theorem ns_two {co off lo hi i k : Int} {ms : List (Int × Int)} (h : 0 ≤ i ∧ i < k) (hk : k < ms.length) : NsOk co off lo hi ms ([i] ++ [k]) i k := by
  refine ⟨by simp, rfl, ⟨by omega, hk⟩, ?_, ?_⟩
  · simp only [clsErr, List.cons_append, List.nil_append, List.length_cons, List.length_nil, clStep]
    rw [if_neg (by omega), if_neg (by omega), if_neg (by omega), if_neg (by omega), if_neg (by omega), if_neg (by omega)]
  · unfold clashM
    constructor
    · intro hh g g1 g2 hf
      exact hh g g1 g2 fun m hm => by
        simp only [List.cons_append, List.nil_append, pickM, List.map_cons, List.map_nil, List.mem_cons, List.not_mem_nil, or_false] at hm
        rcases hm with rfl | rfl
        · exact hf.1
        · exact hf.2
    · intro hh g g1 g2 hf
      exact hh g g1 g2 ⟨hf _ (by simp [pickM]), hf _ (by simp [pickM])⟩
theorem vf14 {co ti lo hi off : Int} {ms : List (Int × Int)} {ns : List Int} (h0 : mErr co ti lo hi off ms = 0) (hc : clsErr ms.length ns = 0) (h : ¬ clashM co off lo hi ms ns) : vfV co ti lo hi off ms ns = 14 := (vf_val (.inr (.inr (.inr ⟨h0, hc, h, rfl⟩)))).symm
theorem vf0 {co ti lo hi off : Int} {ms : List (Int × Int)} {ns : List Int} (h0 : mErr co ti lo hi off ms = 0) (hc : clsErr ms.length ns = 0) (h : clashM co off lo hi ms ns) : vfV co ti lo hi off ms ns = 0 := (vf_val (.inr (.inr (.inl ⟨h0, hc, h, rfl⟩)))).symm
theorem mod_bd2 (m : Int) {n : Int} (h : 1 ≤ n) : 0 ≤ m % n ∧ m % n < n := by
  have h5 := Int.emod_nonneg m (show n ≠ 0 by omega)
  have h6 := Int.emod_lt_of_pos m (show 0 < n by omega)
  omega
end Go.Pv
namespace Go.Proofs.Ytagibgjemliadaa
open Go.Pv Go.RowKit
set_option maxHeartbeats 16000000

theorem fits1_any (co ti lo hi d g : Int) (m : Int × Int) (b9 b10 : Nat) (w : World) (hc : 1 ≤ co ∧ co ≤ 99) (hg : 0 ≤ g ∧ g ≤ 1000) (hm : msOk m) (hd : 0 ≤ d ∧ d ≤ 19) (hb9 : Bx w b9 [.int .i64 co, .int .i64 ti, .int .i64 lo, .int .i64 hi] 25) (hb10 : Bx w b10 [.int .i64 d] 3) :
    Ret Try.prog 45 [.agg #[.int .i64 m.1, .int .i64 m.2], .int .i64 g, .pointer (some ⟨b9, 0, none⟩), .pointer (some ⟨b10, 0, none⟩)] w fun r _ => r = .bool (decide (fitG co d g m)) := by
  obtain ⟨m1, m2⟩ := m
  unfold msOk at hm
  simp only at hm
  have h1 := mul_bd (a := m1) (b := co) (A := 1000) (B := 99) hm.1 (by omega)
  have h2 : 0 ≤ m1 * (m1 - 1) ∧ m1 * (m1 - 1) ≤ 999000 := by
    by_cases c : m1 = 0
    · rw [c]; omega
    · exact mul_bd (a := m1) (b := m1 - 1) (A := 1000) (B := 999) hm.1 (by omega)
  have h3 : (m1 * (m1 - 1)).tdiv 2 = m1 * (m1 - 1) / 2 := Int.tdiv_eq_ediv_of_nonneg h2.1
  have h3b : 0 ≤ (m1 * (m1 - 1)).tdiv 2 ∧ (m1 * (m1 - 1)).tdiv 2 ≤ 499500 := by rw [h3]; omega
  have h4 := mul_bd (a := g) (b := (m1 * (m1 - 1)).tdiv 2) (A := 1000) (B := 499500) hg h3b
  have e := len_tdiv (co := co) (g := g) hm.1.1
  clear h3
  refine ret_of_c Try.func45 rfl Try.ntmps45 (Nat.le_of_ble_eq_true rfl) (by dsimp only [ini, Nat.reduceAdd] <;> exact rfl) ?_
  repeat' (first
      | ((first | ((with_reducible apply W_op); exact rfl; exact rfl)); (first | ((with_reducible apply r_move); ((conv => lhs; whnf) <;> exact rfl)) | ((with_reducible apply r_assign); ((conv => lhs; whnf) <;> exact rfl)) | ((with_reducible apply r_fieldAddr); exact rfl) | ((with_reducible apply r_load); exact rfl; exact rfl; (first | assumption | exact (Bx.cell (by repeat (first | assumption | ((with_reducible apply Bx.grownS); assumption; (first | omega | exact Nat.ne_of_lt (Nat.lt_of_lt_of_le (Bx.lt (by assumption)) (by omega)))) | ((with_reducible apply Bx.below); assumption; omega) | ((with_reducible apply Bx.ex); assumption))) _).trans rfl | exact Ex.cell (by assumption) (by assumption))) | ((with_reducible apply r_loadF); exact rfl; (first | assumption | exact (Bx.cell (by repeat (first | assumption | ((with_reducible apply Bx.grownS); assumption; (first | omega | exact Nat.ne_of_lt (Nat.lt_of_lt_of_le (Bx.lt (by assumption)) (by omega)))) | ((with_reducible apply Bx.below); assumption; omega) | ((with_reducible apply Bx.ex); assumption))) _).trans rfl | exact Ex.cell (by assumption) (by assumption))) | ((with_reducible apply r_loadA); exact rfl; (first | assumption | exact Bx.cells (by repeat (first | assumption | ((with_reducible apply Bx.grownS); assumption; (first | omega | exact Nat.ne_of_lt (Nat.lt_of_lt_of_le (Bx.lt (by assumption)) (by omega)))) | ((with_reducible apply Bx.below); assumption; omega) | ((with_reducible apply Bx.ex); assumption))) | exact Cells.ex (by assumption) (by assumption)); exact rfl) | ((with_reducible apply r_leq); exact rfl; exact rfl) | ((with_reducible apply r_add); exact rfl; exact rfl; omega) | ((with_reducible apply r_sub); exact rfl; exact rfl; omega) | ((with_reducible apply r_pick_true); exact rfl; ((conv => lhs; whnf) <;> exact rfl)) | ((with_reducible apply r_pick_false); exact rfl; ((conv => lhs; whnf) <;> exact rfl)) | ((with_reducible apply r_quo); exact rfl; exact rfl; omega; omega) | ((with_reducible apply r_mul); exact rfl; exact rfl; omega) | ((with_reducible apply r_loadSub); exact rfl; (focus ((repeat (first | assumption | ((with_reducible apply Bx.grownS); assumption; (first | omega | exact Nat.ne_of_lt (Nat.lt_of_lt_of_le (Bx.lt (by assumption)) (by omega)))) | ((with_reducible apply Bx.below); assumption; omega) | ((with_reducible apply Bx.ex); assumption))); done)); ((simp only [Nat.add_zero, Nat.zero_add, Nat.reduceAdd, List.drop_zero, List.drop_succ_cons, List.take_succ_cons, List.take_zero]) <;> exact rfl); exact rfl)))
      | (with_reducible apply W_nil)
      | ((with_reducible apply W_box); exact rfl; exact rfl; intro bq wq hbq he hnq; have hltq := Bx.lt hbq; have hsz := he.size)
      | ((with_reducible apply W_pass); exact rfl; exact rfl; exact rfl; exact rfl; exact rfl)
      | ((with_reducible apply W_take); exact rfl; exact rfl; exact rfl)
      | ((with_reducible apply W_passU); exact rfl; exact rfl; exact rfl; exact rfl)
      | ((with_reducible apply W_split); exact rfl; exact rfl; intro _; rotate_left 1; intro _)
      | (with_reducible apply c_seq)
      | (with_reducible apply c_region)
      | (with_reducible apply c_skip)
      | (with_reducible apply c_ret)
      | (with_reducible apply n_then)
      | (with_reducible apply e_then)
      | (with_reducible apply r_then)
      | ((with_reducible apply p_ret1); exact rfl; ((conv => lhs; whnf) <;> exact rfl); refine ⟨_, rfl, ?_, (by repeat (first | assumption | exact Ex.refl _ | (refine Ex.trans ?_ (by assumption)) | (refine Ex.of_grown ?_ (by assumption) (by intro k hk; cases hk; omega))))⟩)
      | ((with_reducible apply q_ret1); exact rfl; ((conv => lhs; whnf) <;> exact rfl); refine ⟨_, rfl, ?_, (by repeat (first | assumption | exact Ex.refl _ | (refine Ex.trans ?_ (by assumption)) | (refine Ex.of_grown ?_ (by assumption) (by intro k hk; cases hk; omega))))⟩)
      | ((with_reducible apply p_retct); exact rfl; exact inferInstance; exact inferInstance; exact rfl; (focus ((repeat (first | assumption | ((with_reducible apply Bx.grownS); assumption; (first | omega | exact Nat.ne_of_lt (Nat.lt_of_lt_of_le (Bx.lt (by assumption)) (by omega)))) | ((with_reducible apply Bx.below); assumption; omega) | ((with_reducible apply Bx.ex); assumption))); done)); exact rfl; exact rfl; refine ⟨_, rfl, ?_, (by repeat (first | assumption | exact Ex.refl _ | (refine Ex.trans ?_ (by assumption)) | (refine Ex.of_grown ?_ (by assumption) (by intro k hk; cases hk; omega))))⟩)
      | ((exfalso; omega)))
  all_goals unfold fitG
  all_goals simp only [e]
  all_goals first
    | (apply bool_iff; omega)
    | (apply bool_ff; omega)
    | (apply bool_tt; omega)
end Go.Proofs.Ytagibgjemliadaa
