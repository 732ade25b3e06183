/-
  (rows) What this text proves: the iterator over all proofs of a number of codes gives all of them. Conditions: at most 24 codes.
-/
import Derived.Test.YtbmjigneekodnaaVLc
set_option linter.unusedVariables false
set_option linter.unusedSimpArgs false

namespace Go.Pv
abbrev PN (n : Nat) := { p : Nat × Nat × Nat // isProof n p }
def cov (n : Nat) (P : Nat × Nat × Nat → Prop) (ys : List (PN n)) : Prop := ∀ q : PN n, P q.1 → q ∈ ys
theorem cov_mono {n : Nat} {P P' : Nat × Nat × Nat → Prop} {ys : List (PN n)} (h : cov n P ys) (hp : ∀ q, isProof n q → P' q → P q) : cov n P' ys := fun q hq => h q (hp q.1 q.2 hq)
theorem cov_add {n : Nat} {P P' : Nat × Nat × Nat → Prop} {ys : List (PN n)} (h : cov n P ys) (x : PN n) (hp : ∀ q, isProof n q → P' q → P q ∨ q = x.1) : cov n P' (ys ++ [x]) := fun q hq => by
  rcases hp q.1 q.2 hq with h1 | h1
  · exact List.mem_append_left _ (h q h1)
  · have : q = x := Subtype.ext h1
    subst this; simp
def cov1 (i : Nat) (q : Nat × Nat × Nat) : Prop := q.1 < i
def cov2 (i j : Nat) (q : Nat × Nat × Nat) : Prop := q.1 < i ∨ (q.1 = i ∧ (q.2.1 = i ∨ q.2.1 < j))
def cov3 (i j k : Nat) (q : Nat × Nat × Nat) : Prop := q.1 < i ∨ (q.1 = i ∧ (q.2.1 = i ∨ q.2.1 < j ∨ (q.2.1 = j ∧ q.2.2 < k)))
theorem c12 {n i : Nat} {ys : List (PN n)} (h : cov n (cov1 i) ys) (hi : isProof n (i, i, i)) : cov n (cov2 i (i + 1)) (ys ++ [⟨(i, i, i), hi⟩]) :=
  cov_add h _ fun q hq h2 => by
    obtain ⟨a, b, c⟩ := q
    simp only [isProof, cov1, cov2, Prod.mk.injEq] at *
    omega
theorem c23 {n i j : Nat} {ys : List (PN n)} (h : cov n (cov2 i j) ys) (hj : i < j) : cov n (cov3 i j (j + 1)) ys :=
  cov_mono h fun q hq h2 => by
    obtain ⟨a, b, c⟩ := q
    simp only [isProof, cov2, cov3] at *
    omega
theorem c33 {n i j k : Nat} {ys : List (PN n)} (h : cov n (cov3 i j k) ys) (hk : isProof n (i, j, k)) : cov n (cov3 i j (k + 1)) (ys ++ [⟨(i, j, k), hk⟩]) :=
  cov_add h _ fun q hq h2 => by
    obtain ⟨a, b, c⟩ := q
    simp only [isProof, cov3, Prod.mk.injEq] at *
    omega
theorem c32 {n i j k : Nat} {ys : List (PN n)} (h : cov n (cov3 i j k) ys) (hk : n ≤ k) : cov n (cov2 i (j + 1)) ys :=
  cov_mono h fun q hq h2 => by
    obtain ⟨a, b, c⟩ := q
    simp only [isProof, cov2, cov3] at *
    omega
theorem c21 {n i j : Nat} {ys : List (PN n)} (h : cov n (cov2 i j) ys) (hj : n ≤ j) : cov n (cov1 (i + 1)) ys :=
  cov_mono h fun q hq h2 => by
    obtain ⟨a, b, c⟩ := q
    simp only [isProof, cov2, cov1] at *
    omega
theorem c1n {n i : Nat} {ys : List (PN n)} (h : cov n (cov1 i) ys) (hi : n ≤ i) : ∀ q : PN n, q ∈ ys := fun q => h q (by
  obtain ⟨⟨a, b, c⟩, hq⟩ := q
  have h2 : isProof n (a, b, c) := hq
  show a < i
  simp only [isProof] at h2
  omega)
def v3 (x : Int × Int × Int) : Value := .agg #[.int .i64 x.1, .int .i64 x.2.1, .int .i64 x.2.2]
def encP (n : Nat) (x : PN n) : Array Value := #[v3 (n3 x.1)]
end Go.Pv
namespace Go.Proofs.Ytbmjigneekodnaa
open Go.Pv Go.RowKit
set_option maxHeartbeats 8000000
set_option maxRecDepth 20000

theorem proofs_any (n : Nat) (w : World) : Ret Try.prog 77 [.int .i64 n] w fun r w' => ∃ b, w.heap.size ≤ b ∧ r = .func (.func 82) #[] #[.pointer (some ⟨b, 0, none⟩)] ∧ Bx w' b [.int .i64 n] 3 := by
  refine ret_of_c Try.func77 rfl Try.ntmps77 (Nat.le_of_ble_eq_true rfl) (by dsimp only [ini, Nat.reduceAdd] <;> exact rfl) ?_
  repeat' (first
      | ((first | ((with_reducible apply W_op); exact rfl; exact rfl)); (first | ((with_reducible apply r_assign); ((conv => lhs; whnf) <;> exact rfl)) | ((with_reducible apply r_mfc); ((conv => lhs; whnf) <;> exact rfl))))
      | (with_reducible apply W_nil)
      | ((with_reducible apply W_box); exact rfl; exact rfl; intro bq wq hbq he hnq; have hltq := Bx.lt hbq; have hsz := he.size)
      | (with_reducible apply c_seq)
      | (with_reducible apply c_region)
      | (with_reducible apply c_ret)
      | (with_reducible apply n_then)
      | ((with_reducible apply p_ret1); exact rfl; ((conv => lhs; whnf) <;> exact rfl); refine ⟨_, rfl, ?_, (by repeat (first | assumption | exact Ex.refl _ | (refine Ex.trans ?_ (by assumption)) | (refine Ex.of_grown ?_ (by assumption) (by intro k hk; cases hk; omega))))⟩))
  exact ⟨_, by omega, rfl, (by repeat (first | assumption | ((with_reducible apply OwnR.grownS); assumption; omega) | ((with_reducible apply Row.ex); assumption) | ((with_reducible apply OwnR.ex); assumption) | ((with_reducible apply Bx.grownS); assumption; (first | omega | exact Bx.ne (by assumption) (by omega))) | ((with_reducible apply Bx.below); assumption; omega) | ((with_reducible apply Own.grownS); assumption; omega) | ((with_reducible apply Bx.ex); assumption) | ((with_reducible apply IntsK.ex); assumption) | ((with_reducible apply Own.ex); assumption) | ((with_reducible apply Prs.ex); assumption)))⟩
theorem proofs1_seq (n b : Nat) (w1 : World) (hn : n ≤ 24) (hR : Bx w1 b [.int .i64 n] 3) :
    SeqStopsK Fence.wide 2 Try.prog 82 #[.pointer (some ⟨b, 0, none⟩)] (encP n) (fun X Y => Bx X b [.int .i64 n] 3 → Bx Y b [.int .i64 n] 3) (fun ys => ∀ q : PN n, q ∈ ys) (fun _ => True) 20000 w1 := by
  intro y J Jx w hW hJ hJx hY h0
  have hW2 : Ex w1 w := by unfold Ex; exact hW
  have hbx0 : Bx w b [.int .i64 n] 3 := hR.ex hW2
  have tk1 : True := trivial
  refine callsIn_wide.2 ?_
  show Calls Try.prog _ (List.toArray [.func (.yield y) #[] #[], .pointer (some ⟨b, 0, none⟩)]) w _
  refine calls_of_c Try.func82 rfl Try.ntmps82 (Nat.le_of_ble_eq_true rfl) (by dsimp only [ini, Nat.reduceAdd] <;> exact rfl) ?_
  repeat' (first
      | (clear tk2a; (have tk2b : True := trivial); (have tk3 : True := trivial); by_cases hin : i < n; (have hpi : isProof n (i, i, i) := .inl ⟨rfl, rfl, hin⟩); rotate_left 1)
      | (clear tk4a; (have tk4b : True := trivial); by_cases hkn : k < n; (have hpk : isProof n (i, j, k) := .inr ⟨by simp only; omega, by simp only; omega, hkn⟩); rotate_left 1)
      | (refine c_regionP (id := 3) [true, true, true, false, false] [false, false, false, true, true] (by dsimp only [sel] <;> exact rfl) (by dsimp only [sel] <;> exact rfl) rfl rfl ?_)
      | (refine c_regionP (id := 10) [true, true, true, true, true, false, false] [false, false, false, false, false, true, true] (by dsimp only [sel] <;> exact rfl) (by dsimp only [sel] <;> exact rfl) rfl rfl ?_)
      | ((first | ((with_reducible apply W_op); exact rfl; exact rfl)); (first | ((with_reducible apply r_move); ((conv => lhs; whnf) <;> exact rfl)) | ((with_reducible apply r_assign); ((conv => lhs; whnf) <;> exact rfl)) | ((with_reducible apply r_load); exact rfl; exact rfl; (first | assumption | exact (Bx.cell (by repeat (first | assumption | ((with_reducible apply Bx.grownS); assumption; (first | omega | exact Bx.ne (by assumption) (by omega))) | ((with_reducible apply Bx.below); assumption; omega) | ((with_reducible apply Bx.ex); assumption))) _).trans rfl | exact Ex.cell (by assumption) (by assumption))) | ((with_reducible apply r_lss); exact rfl; exact rfl) | ((with_reducible apply r_add); exact rfl; exact rfl; omega) | ((with_reducible apply r_notb); exact rfl) | ((with_reducible apply r_arr3); ((conv => lhs; whnf) <;> exact rfl); ((conv => lhs; whnf) <;> exact rfl); ((conv => lhs; whnf) <;> exact rfl); (first | exact rfl | assumption | exact IntsK.one (by assumption) | exact Prs.one (by assumption) | exact Own.one (by assumption) | exact Row.one (by assumption) | exact OwnR.one (by assumption)); (first | exact rfl | assumption | exact IntsK.one (by assumption) | exact Prs.one (by assumption) | exact Own.one (by assumption) | exact Row.one (by assumption) | exact OwnR.one (by assumption)); (first | exact rfl | assumption | exact IntsK.one (by assumption) | exact Prs.one (by assumption) | exact Own.one (by assumption) | exact Row.one (by assumption) | exact OwnR.one (by assumption)))))
      | (refine W_callv (oneCode_any _ _) rfl (fun wq he => ?_); have hsz := he.size)
      | (with_reducible apply WP_nil)
      | ((clear tk2b; refine WI_yieldN rfl rfl (hY ys ⟨(i, i, i), hpi⟩ _ (hJ _ _ _ none hj0 (Ex.grownBy (by repeat (first | assumption | exact Ex.refl _ | (refine Ex.trans ?_ (by assumption)) | (refine Ex.of_grown ?_ (by assumption) (by intro k hk; cases hk; omega))))) (by intro r e; cases e)) (by omega)) (by rintro e w' (⟨rfl, _⟩ | ⟨rfl, _⟩) <;> exact ⟨_, rfl⟩) ?_); (rintro bb wy (⟨e, hj1, hk1⟩ | ⟨e, hj1⟩) <;> cases e))
      | ((clear tk4b; refine WI_yieldN rfl rfl (hY ys3 ⟨(i, j, k), hpk⟩ _ (hJ _ _ _ none hj3 (Ex.grownBy (by repeat (first | assumption | exact Ex.refl _ | (refine Ex.trans ?_ (by assumption)) | (refine Ex.of_grown ?_ (by assumption) (by intro k hk; cases hk; omega))))) (by intro r e; cases e)) (by omega)) (by rintro e w' (⟨rfl, _⟩ | ⟨rfl, _⟩) <;> exact ⟨_, rfl⟩) ?_); (rintro bb wy (⟨e, hj4, hk4⟩ | ⟨e, hj4⟩) <;> cases e))
      | (refine WI_rest rfl ?_)
      | (with_reducible apply n_reg)
      | ((with_reducible (show C _ _ _ _ _)); clear tk1; refine c_loopG (fun (i : Nat) ps wr => ∃ w : World, ∃ ys : List (PN n), ps = [(0, .func (.yield y) #[] #[]), (1, .pointer (some ⟨b, 0, none⟩)), (6, .int .i64 n), (7, .int .i64 i)] ∧ i ≤ n ∧ J ys w ∧ Bx w b [.int .i64 n] 3 ∧ cov n (cov1 i) ys ∧ ys.length ≤ i * 600 ∧ Ex w wr) (fun i => n - i) 0 _ ⟨_, _, rfl, Nat.zero_le _, h0, hbx0, (fun q hq => absurd hq (Nat.not_lt_zero _)), Nat.zero_le _, (by repeat (first | assumption | exact Ex.refl _ | (refine Ex.trans ?_ (by assumption)) | (refine Ex.of_grown ?_ (by assumption) (by intro k hk; cases hk; omega))))⟩ ⟨rfl, rfl, rfl, rfl, trivial⟩ (by ((conv => lhs; whnf) <;> exact rfl)) ?_; rintro JA hJA i u ps wr ⟨w, ys, rfl, hi, hj0, hbx, hcov, hyl, he⟩; have hsz := he.size; have tk2a : True := trivial)
      | ((with_reducible (show Exit.then _ _ _ _ _)); refine n_roundG (i + 1) (hJA _ _ _ _ ⟨_, _, rfl, by omega, hj2, hbx2, c21 hcov2 (by omega), (by omega), (by repeat (first | assumption | exact Ex.refl _ | (refine Ex.trans ?_ (by assumption)) | (refine Ex.of_grown ?_ (by assumption) (by intro k hk; cases hk; omega))))⟩ ⟨rfl, rfl, rfl, rfl, trivial⟩ rfl) (by omega))
      | ((with_reducible (show C _ _ _ _ _)); clear tk3; refine c_loopG (fun (j : Nat) ps wr => ∃ w : World, ∃ ys2 : List (PN n), ps = [(0, .func (.yield y) #[] #[]), (1, .pointer (some ⟨b, 0, none⟩)), (3, .int .i64 i), (4, .int .i64 j), (6, .int .i64 n), (7, .int .i64 i)] ∧ (i < j ∧ (j ≤ n ∨ j = i + 1)) ∧ J ys2 w ∧ Bx w b [.int .i64 n] 3 ∧ cov n (cov2 i j) ys2 ∧ ys2.length ≤ i * 600 + 1 + j * 24 ∧ Ex w wr) (fun j => n - j) (i + 1) _ ⟨_, _, rfl, (by omega), hj1, hk1 (hbx.ex (by repeat (first | assumption | exact Ex.refl _ | (refine Ex.trans ?_ (by assumption)) | (refine Ex.of_grown ?_ (by assumption) (by intro k hk; cases hk; omega))))), c12 hcov hpi, (by simp; omega), (by repeat (first | assumption | exact Ex.refl _ | (refine Ex.trans ?_ (by assumption)) | (refine Ex.of_grown ?_ (by assumption) (by intro k hk; cases hk; omega))))⟩ ⟨rfl, rfl, rfl, rfl, rfl, rfl, trivial⟩ (by ((conv => lhs; whnf) <;> exact rfl)) ?_; rintro JB hJB j u ps wr ⟨w, ys2, rfl, hj, hj2, hbx2, hcov2, hyl2, he⟩; have hsz := he.size; have tk4 : True := trivial)
      | ((with_reducible (show Exit.then _ _ _ _ _)); refine n_roundG (j + 1) (hJB _ _ _ _ ⟨_, _, rfl, (by omega), hj3, hbx3, c32 hcov3 (by omega), (by omega), (by repeat (first | assumption | exact Ex.refl _ | (refine Ex.trans ?_ (by assumption)) | (refine Ex.of_grown ?_ (by assumption) (by intro k hk; cases hk; omega))))⟩ ⟨rfl, rfl, rfl, rfl, rfl, rfl, trivial⟩ rfl) (by omega))
      | ((with_reducible (show C _ _ _ _ _)); clear tk4; refine c_loopG (fun (k : Nat) ps wr => ∃ w : World, ∃ ys3 : List (PN n), ps = [(0, .func (.yield y) #[] #[]), (1, .pointer (some ⟨b, 0, none⟩)), (3, .int .i64 i), (4, .int .i64 j), (5, .int .i64 k), (6, .int .i64 n), (7, .int .i64 i)] ∧ (j < k ∧ (k ≤ n ∨ k = j + 1)) ∧ J ys3 w ∧ Bx w b [.int .i64 n] 3 ∧ cov n (cov3 i j k) ys3 ∧ ys3.length ≤ i * 600 + 1 + j * 24 + k ∧ Ex w wr) (fun k => n - k) (j + 1) _ ⟨_, _, rfl, (by omega), hj2, hbx2, c23 hcov2 hj.1, (by omega), (by repeat (first | assumption | exact Ex.refl _ | (refine Ex.trans ?_ (by assumption)) | (refine Ex.of_grown ?_ (by assumption) (by intro k hk; cases hk; omega))))⟩ ⟨rfl, rfl, rfl, rfl, rfl, rfl, rfl, trivial⟩ (by ((conv => lhs; whnf) <;> exact rfl)) ?_; rintro JC hJC k u ps wr ⟨w, ys3, rfl, hkj, hj3, hbx3, hcov3, hyl3, he⟩; have hsz := he.size; have tk4a : True := trivial)
      | ((with_reducible (show Exit.then _ _ _ _ _)); refine n_roundG (k + 1) (hJC _ _ _ _ ⟨_, _, rfl, (by omega), hj4, hk4 (hbx3.ex (by repeat (first | assumption | exact Ex.refl _ | (refine Ex.trans ?_ (by assumption)) | (refine Ex.of_grown ?_ (by assumption) (by intro k hk; cases hk; omega))))), c33 hcov3 hpk, (by simp; omega), Ex.refl _⟩ ⟨rfl, rfl, rfl, rfl, rfl, rfl, rfl, trivial⟩ rfl) (by omega))
      | (with_reducible apply W_nil)
      | (with_reducible apply c_seq)
      | (with_reducible apply c_region)
      | (with_reducible apply c_block)
      | (with_reducible apply c_skip)
      | (with_reducible apply c_ret)
      | (with_reducible apply c_exit)
      | ((with_reducible apply c_cond_true); exact rfl)
      | ((with_reducible apply c_cond_false); exact rfl)
      | ((with_reducible apply c_cond_dec); exact rfl; intro _; rotate_left 1; intro _)
      | (with_reducible apply n_then)
      | (with_reducible apply n_block)
      | (with_reducible apply e_then)
      | (with_reducible apply e_block)
      | (with_reducible apply r_then)
      | (with_reducible apply r_block)
      | ((exfalso; omega)))
  all_goals (first
    | exact p_end0 rfl ⟨⟨_, rfl⟩, .inl ⟨ys, c1n hcov (by omega), hJ _ _ _ none hj0 (Ex.grownBy (by repeat (first | assumption | exact Ex.refl _ | (refine Ex.trans ?_ (by assumption)) | (refine Ex.of_grown ?_ (by assumption) (by intro k hk; cases hk; omega))))) (by intro r e; cases e)⟩⟩
    | exact p_ret0 rfl ⟨⟨_, rfl⟩, .inr ⟨_, trivial, hj1⟩⟩
    | exact p_ret0 rfl ⟨⟨_, rfl⟩, .inr ⟨_, trivial, hj4⟩⟩)
end Go.Proofs.Ytbmjigneekodnaa
