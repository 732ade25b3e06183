/-
  What this text proves: Bridge is as the plain functions say. Conditions: the values read as lists.
-/
import Derived.Test.YtjcigpakljfkeaaUj
set_option linter.unusedVariables false
set_option linter.unusedSimpArgs false

namespace Go.Pv
open Go.RowKit
theorem few_len {a b : Int × Int} {len : Int} {L : List (Int × Int)} (h : (∃ k, fewK a b len 200 0 = some k ∧ k < 200 ∧ L = altL a b k) ∨ (fewK a b len 200 0 = none ∧ L = [])) : L.length ≤ 1000 := by
  rcases h with ⟨k, -, hk, rfl⟩ | ⟨-, rfl⟩
  · have := altL_len a b k; omega
  · simp
theorem few_mem {a b : Int × Int} {len : Int} {L : List (Int × Int)} (h : (∃ k, fewK a b len 200 0 = some k ∧ k < 200 ∧ L = altL a b k) ∨ (fewK a b len 200 0 = none ∧ L = [])) (ha : a.1 = 1 ∧ 1 ≤ a.2 ∧ a.2 ≤ 1111) (hb : 0 ≤ b.1 ∧ b.1 ≤ b.2 ∧ b.2 ≤ 1111) : ∀ p ∈ L, -1000000 ≤ p.1 ∧ p.1 ≤ 1000000 ∧ -1000000 ≤ p.2 ∧ p.2 ≤ 1000000 := by
  rcases h with ⟨k, -, hk, rfl⟩ | ⟨-, rfl⟩
  · intro p hp
    rcases altL_mem hp with rfl | rfl <;> omega
  · intro p hp; cases hp
theorem bridge_e {gl gh lo na sh e : Int} {s : Int × Int} (hE : barsErr gl gh lo na sh = e) (h : e ≠ 0) : bridgeErr gl gh lo na sh s = e ∧ bridgeL gl gh lo na sh s = [] := by
  refine ⟨?_, ?_⟩
  · unfold bridgeErr; rw [if_pos (by omega)]; exact hE
  · unfold bridgeL; rw [if_pos (by omega)]
theorem bridge_slot {gl gh lo na sh e : Int} {s : Int × Int} (hE : barsErr gl gh lo na sh = e) (h : ¬ e ≠ 0) (h2 : ¬ slotOk s ∨ 10000 < s.2 - s.1) : bridgeErr gl gh lo na sh s = 3 ∧ bridgeL gl gh lo na sh s = [] := by
  refine ⟨?_, ?_⟩
  · unfold bridgeErr; rw [if_neg (by omega), if_pos h2]
  · unfold bridgeL; rw [if_neg (by omega), if_pos h2]
theorem bridge_none {gl gh lo na sh e : Int} {s A B : Int × Int} (hE : barsErr gl gh lo na sh = e) (h : ¬ e ≠ 0) (h2 : slotOk s) (h3 : ¬ 10000 < s.2 - s.1) (hA : barsA gl gh lo na sh = A) (hB : barsB gl gh lo na sh = B) (h4 : fewK A B (s.2 - s.1) 200 0 = none) : bridgeErr gl gh lo na sh s = 20 ∧ bridgeL gl gh lo na sh s = [] := by
  have h5 : ¬ (¬ slotOk s ∨ 10000 < s.2 - s.1) := fun hc => hc.elim (fun k => k h2) h3
  refine ⟨?_, ?_⟩
  · unfold bridgeErr; rw [if_neg (by omega), if_neg h5, hA, hB, h4]
  · unfold bridgeL; rw [if_neg (by omega), if_neg h5, hA, hB, h4]
theorem bridge_some {gl gh lo na sh e : Int} {s A B : Int × Int} {k : Nat} (hE : barsErr gl gh lo na sh = e) (h : ¬ e ≠ 0) (h2 : slotOk s) (h3 : ¬ 10000 < s.2 - s.1) (hA : barsA gl gh lo na sh = A) (hB : barsB gl gh lo na sh = B) (h4 : fewK A B (s.2 - s.1) 200 0 = some k) : bridgeErr gl gh lo na sh s = 0 ∧ bridgeL gl gh lo na sh s = layP s.2 (altL A B k) true s.1 := by
  have h5 : ¬ (¬ slotOk s ∨ 10000 < s.2 - s.1) := fun hc => hc.elim (fun k => k h2) h3
  refine ⟨?_, ?_⟩
  · unfold bridgeErr; rw [if_neg (by omega), if_neg h5, hA, hB, h4]
  · unfold bridgeL; rw [if_neg (by omega), if_neg h5, hA, hB, h4]
end Go.Pv
namespace Go.Proofs.Ytjcigpakljfkeaa
open Go.Pv Go.RowKit
set_option maxHeartbeats 8000000

theorem bridge_any (gl gh lo na sh a b : Int) (w : World) : Ret Try.prog 32 [.agg #[.int .i64 gl, .int .i64 gh, .int .i64 lo, .int .i64 na, .int .i64 sh], .agg #[.int .i64 a, .int .i64 b]] w fun r w' => ∃ u, r = .tuple #[u, .int .i64 (bridgeErr gl gh lo na sh (a, b))] ∧ OwnP 47 w.heap.size w' u (bridgeL gl gh lo na sh (a, b)) := by
  obtain ⟨a1, a2, hA⟩ : ∃ x y, barsA gl gh lo na sh = (x, y) := ⟨_, _, rfl⟩
  obtain ⟨b1, b2, hB⟩ : ∃ x y, barsB gl gh lo na sh = (x, y) := ⟨_, _, rfl⟩
  obtain ⟨e, hE⟩ : ∃ x, barsErr gl gh lo na sh = x := ⟨_, rfl⟩
  have hbars : ∀ w', Ret Try.prog 30 [.agg #[.int .i64 gl, .int .i64 gh, .int .i64 lo, .int .i64 na, .int .i64 sh]] w' fun r _ => r = .tuple #[.agg #[.int .i64 a1, .int .i64 a2], .agg #[.int .i64 b1, .int .i64 b2], .int .i64 e] := fun w' => (bars_any gl gh lo na sh w').monoU fun r w'' _ hr => by rw [hr, hA, hB, hE]; rfl
  have hok : e = 0 → (a1 = 1 ∧ 1 ≤ a2 ∧ a2 ≤ 1111) ∧ (0 ≤ b1 ∧ b1 ≤ b2 ∧ b2 ≤ 1111) := fun h0 => by
    have h1 := bars_ok (gl := gl) (gh := gh) (lo := lo) (na := na) (sh := sh) (by omega)
    rw [hA, hB] at h1
    obtain ⟨h2, h3, h4, h5⟩ := h1
    refine ⟨⟨h2, h3, h4⟩, ?_⟩
    rcases h5 with h5 | ⟨h5, h6, h7⟩
    · cases h5; omega
    · exact ⟨by omega, h6, h7⟩
  have hsl : slotOk (a, b) → 0 ≤ a ∧ a < b ∧ b ≤ 1000000 := id
  refine ret_of_c Try.func32 rfl Try.ntmps32 (Nat.le_of_ble_eq_true rfl) (by dsimp only [ini, Nat.reduceAdd] <;> exact rfl) ?_
  repeat' (first
      | ((first | ((with_reducible apply W_op); exact rfl; exact rfl) | ((with_reducible apply WQ_op); exact rfl; exact rfl; intro wq he) | ((with_reducible apply WM_op); exact rfl; exact rfl; intro wq he) | ((with_reducible apply WB_op); exact rfl; exact rfl; intro wq)); (first | ((with_reducible apply r_move); ((conv => lhs; whnf) <;> exact rfl)) | ((with_reducible apply r_assign); ((conv => lhs; whnf) <;> exact rfl)) | ((with_reducible apply r_loadA); exact rfl; (first | assumption | exact Bx.cells (by repeat (first | assumption | ((with_reducible apply Bx.grownS); assumption; (first | omega | exact Bx.ne (by assumption) (by omega))) | ((with_reducible apply Bx.below); assumption; omega) | ((with_reducible apply OwnP.grownS); assumption; omega) | ((with_reducible apply Own.grownS); assumption; omega) | ((with_reducible apply OwnV.grownS); assumption; omega) | ((with_reducible apply OwnV.ex); assumption) | ((with_reducible apply Vals.ex); assumption) | ((with_reducible apply Bx.ex); assumption) | ((with_reducible apply IntsK.ex); assumption) | ((with_reducible apply Intss.ex); assumption) | ((with_reducible apply Own.ex); assumption) | ((with_reducible apply Prs.ex); assumption) | ((with_reducible apply OwnP.ex); assumption))) | exact Cells.ex (by assumption) (by assumption)); exact rfl) | ((with_reducible apply r_gtr); exact rfl; exact rfl) | ((with_reducible apply r_eql); exact rfl; exact rfl) | ((with_reducible apply r_neq); exact rfl; exact rfl) | ((with_reducible apply r_lenPrs); ((conv => lhs; whnf) <;> exact rfl); (focus ((repeat (first | assumption | ((with_reducible apply Bx.grownS); assumption; (first | omega | exact Bx.ne (by assumption) (by omega))) | ((with_reducible apply Bx.below); assumption; omega) | ((with_reducible apply OwnP.grownS); assumption; omega) | ((with_reducible apply Own.grownS); assumption; omega) | ((with_reducible apply OwnV.grownS); assumption; omega) | ((with_reducible apply OwnV.ex); assumption) | ((with_reducible apply Vals.ex); assumption) | ((with_reducible apply Bx.ex); assumption) | ((with_reducible apply IntsK.ex); assumption) | ((with_reducible apply Intss.ex); assumption) | ((with_reducible apply Own.ex); assumption) | ((with_reducible apply Prs.ex); assumption) | ((with_reducible apply OwnP.ex); assumption))); done))) | ((with_reducible apply r_pick_true); exact rfl; ((conv => lhs; whnf) <;> exact rfl)) | ((with_reducible apply r_pick_false); exact rfl; ((conv => lhs; whnf) <;> exact rfl)) | ((with_reducible apply r_not); exact rfl) | ((with_reducible apply r_extract); exact rfl; exact rfl)))
      | (refine W_callv (hbars _) rfl (fun wq he => ?_); have hsz := he.size)
      | (refine W_callv (isSlot_any a b _) rfl (fun wq he => ?_); have hsz := he.size)
      | (refine W_callv (length_any a b _ (by have h6 := hsl (Classical.not_not.1 (by assumption)); omega)) rfl (fun wq he => ?_); have hsz := he.size)
      | (refine c_mix [] [0, 1, 2, 3] [4, 5] [false, false, false, false, false, false] [true, true, true, true, false, false] [none, none, none, none, some true, some true] (by kernel_rfl) (by kernel_rfl) (by kernel_rfl) (by kernel_rfl) (by kernel_rfl) (by kernel_rfl) (by dsimp only [sel] <;> exact rfl) (by dsimp only [sel] <;> exact rfl) (by dsimp only [selT] <;> exact rfl) ?_)
      | (refine WM_callv (fun wq he => length_any a b _ (by have h6 := hsl (Classical.not_not.1 (by assumption)); omega)) rfl ?_)
      | (refine W_call (fewestParts_any (b - a) a1 a2 b1 b2 _ (hok (by omega)).1 (hok (by omega)).2) rfl ?_; rintro vq wq ⟨L, hL, hk⟩ he; have hsz := he.size)
      | (refine W_call (longestFirst_any a b _ L _ (by repeat (first | assumption | ((with_reducible apply Bx.grownS); assumption; (first | omega | exact Bx.ne (by assumption) (by omega))) | ((with_reducible apply Bx.below); assumption; omega) | ((with_reducible apply OwnP.grownS); assumption; omega) | ((with_reducible apply Own.grownS); assumption; omega) | ((with_reducible apply OwnV.grownS); assumption; omega) | ((with_reducible apply OwnV.ex); assumption) | ((with_reducible apply Vals.ex); assumption) | ((with_reducible apply Bx.ex); assumption) | ((with_reducible apply IntsK.ex); assumption) | ((with_reducible apply Intss.ex); assumption) | ((with_reducible apply Own.ex); assumption) | ((with_reducible apply Prs.ex); assumption) | ((with_reducible apply OwnP.ex); assumption))) (few_len hk) (few_mem hk (hok (by omega)).1 (hok (by omega)).2) (Classical.not_not.1 (by assumption))) rfl ?_; rintro vq wq hown he; have hsz := he.size)
      | (with_reducible apply W_nil)
      | (with_reducible apply WM_nil; intro wq he; have hsz := he.size)
      | (with_reducible apply WB_nil)
      | (with_reducible apply WT_nil)
      | (with_reducible apply WT_cons)
      | (with_reducible apply t_sink)
      | ((with_reducible apply W_box); exact rfl; exact rfl; intro bq wq hbq he hnq; have hltq := Bx.lt hbq; have hsz := he.size)
      | ((with_reducible apply W_alloc); exact rfl; intro bq wq hbq he hnq; have hltq := Bx.lt hbq; have hsz := he.size)
      | ((with_reducible apply W_storeA); exact rfl; (focus ((repeat (first | assumption | ((with_reducible apply Bx.grownS); assumption; (first | omega | exact Bx.ne (by assumption) (by omega))) | ((with_reducible apply Bx.below); assumption; omega) | ((with_reducible apply OwnP.grownS); assumption; omega) | ((with_reducible apply Own.grownS); assumption; omega) | ((with_reducible apply OwnV.grownS); assumption; omega) | ((with_reducible apply OwnV.ex); assumption) | ((with_reducible apply Vals.ex); assumption) | ((with_reducible apply Bx.ex); assumption) | ((with_reducible apply IntsK.ex); assumption) | ((with_reducible apply Intss.ex); assumption) | ((with_reducible apply Own.ex); assumption) | ((with_reducible apply Prs.ex); assumption) | ((with_reducible apply OwnP.ex); assumption))); done)); exact rfl; exact rfl; exact rfl; (repeat' (first | exact trivial | (first | exact rfl | assumption | exact IntsK.one (by assumption) | exact Intss.one (by assumption) | exact Prs.one (by assumption) | exact OwnP.one (by assumption) | exact OwnV.one (by assumption) | exact Vals.one (by assumption) | exact Own.one (by assumption)) | constructor)); intro wq hbq hgq; have he : Ex w wq := (by repeat (first | assumption | exact Ex.refl _ | (refine Ex.trans ?_ (by assumption)) | (refine Ex.of_grown ?_ (by assumption) (by intro k hk; cases hk; omega)))); have hsz := he.size)
      | ((with_reducible apply W_pass); exact rfl; exact rfl; exact rfl; exact rfl; exact rfl)
      | ((with_reducible apply W_take); exact rfl; exact rfl; exact rfl)
      | ((with_reducible apply W_split); exact rfl; exact rfl; intro _; rotate_left 1; intro _)
      | (with_reducible apply c_seq)
      | ((with_reducible apply c_region); kernel_rfl)
      | (with_reducible apply n_nq)
      | (with_reducible apply c_skip)
      | (with_reducible apply c_ret)
      | ((with_reducible apply c_cond_true); exact rfl)
      | ((with_reducible apply c_cond_dec); exact rfl; intro _; rotate_left 1; intro _)
      | (with_reducible apply n_then)
      | (with_reducible apply r_then)
      | ((with_reducible apply p_ret2); exact rfl; exact rfl; ((conv => lhs; whnf) <;> exact rfl); ((conv => lhs; whnf) <;> exact rfl); refine ⟨_, rfl, ?_, (by repeat (first | assumption | exact Ex.refl _ | (refine Ex.trans ?_ (by assumption)) | (refine Ex.of_grown ?_ (by assumption) (by intro k hk; cases hk; omega))))⟩))
  · rcases hk with ⟨k, hk, -, rfl⟩ | ⟨-, rfl⟩
    · obtain ⟨h1, h2⟩ := bridge_some hE (by omega) (s := (a, b)) (Classical.not_not.1 (by assumption)) (by omega) hA hB hk
      rw [h1, h2]
      exact ⟨_, rfl, OwnP.mono hown (by omega)⟩
    · exfalso; simp at *
  · rcases hk with ⟨k, hk, -, rfl⟩ | ⟨hk, rfl⟩
    · exfalso; have := altL_len (a1, a2) (b1, b2) k; omega
    · obtain ⟨h1, h2⟩ := bridge_none hE (by omega) (s := (a, b)) (Classical.not_not.1 (by assumption)) (by omega) hA hB hk
      rw [h1, h2]
      exact ⟨_, rfl, OwnP.nil _ _ _⟩
  · obtain ⟨h1, h2⟩ := bridge_slot hE (by omega) (s := (a, b)) (.inr (show 10000 < b - a by omega))
    rw [h1, h2]
    exact ⟨_, rfl, OwnP.nil _ _ _⟩
  · obtain ⟨h1, h2⟩ := bridge_slot hE (by omega) (s := (a, b)) (.inl (by assumption))
    rw [h1, h2]
    exact ⟨_, rfl, OwnP.nil _ _ _⟩
  · obtain ⟨h1, h2⟩ := bridge_e hE (by omega) (s := (a, b))
    rw [h1, h2]
    exact ⟨_, rfl, OwnP.nil _ _ _⟩
end Go.Proofs.Ytjcigpakljfkeaa
