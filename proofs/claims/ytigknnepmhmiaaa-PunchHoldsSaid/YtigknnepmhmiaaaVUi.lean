/-
  What this text proves: the reference's smallest pass. Conditions: the values read as lists.
-/
import Derived.Test.YtigknnepmhmiaaaVUh
set_option linter.unusedVariables false
set_option linter.unusedSimpArgs false
namespace Go.Pv
open Go.RowKit
section
variable {P : Program} {Q : Exit → Act → World → Prop} {ol rest : List Oper} {l : St} {w : World} {od : Option Nat} {ty : TypeId} {pos : String} {af : Array Edge}
theorem Own.toV {E : TypeId} {base : Nat} {v : Value} {xs : List Int} (h : Own E base w v xs) : OwnV E base w v (xs.map (Value.int .i64)) := by
  unfold Own at h
  unfold OwnV
  simpa using h
theorem Own.at {E : TypeId} {base : Nat} {v : Value} {xs : List Int} (h : Own E base w v xs) {i : Nat} (hi : i < xs.length) : ∃ g cap, v = .slice (some ⟨g, 0, none⟩) xs.length cap ∧ base ≤ g ∧ g < w.heap.size := by
  unfold Own at h
  obtain ⟨h0, h1, h2⟩ := h
  rcases h2 with ⟨_, h3⟩ | ⟨g, cap, cur, h3, h4, h5, _⟩
  · omega
  · exact ⟨g, cap, h3, h4, (Array.getElem?_eq_some_iff.1 h5).1⟩
theorem W_storeI {i g : Nat} {base : Nat} {e T : TypeId} {x y : Operand} {v : Value} {xs : List Int} {u : Int} {z : Value} {bytes : Nat} {w0 : World} [hz : Sz P T z 1 bytes] (h0 : Ex w0 w) (hb0 : w0.heap.size ≤ base) (hown : Own e base w v xs) (hb : base ≤ w.heap.size) (hg : v.ownBlock = some g) (hx : ev l x = .pointer (some ⟨g, i, none⟩)) (hi : i < xs.length) (hy : ev l y = .int .i64 u)
    (K : ∀ w', Own e base w' v (xs.set i u) → Ex w0 w' → Below base w w' → w.grownBy w' (some g) → W P ol Q rest l w') : W P ol Q (⟨none, .store T x y, ty, pos, af, none⟩ :: rest) l w := by
  obtain ⟨g', cap, rfl, h1, h2⟩ := hown.at hi
  cases hg
  refine W_storeF (i := i) (w0 := w0) (base := base) h0 hb0 hb hx hown.toV (by simpa using hi) hy rfl ?_
  intro w' k1 k2 k3 k4
  exact K w' (Own.ofV k1 (by rw [List.map_set])) k2 k3 k4
theorem Own.blk {E : TypeId} {base : Nat} {v : Value} {xs : List Int} (h : Own E base w v xs) {i : Nat} (hi : i < xs.length) : ∃ g a n c, v = .slice (some a) n c ∧ v.ownBlock = some g ∧ base ≤ g ∧ g < w.heap.size ∧ a = ⟨g, 0, none⟩ ∧ n = xs.length := by
  obtain ⟨g, cap, rfl, h1, h2⟩ := h.at hi
  exact ⟨g, _, _, _, rfl, rfl, h1, h2, rfl, rfl⟩
end
/-- No one of the first k slots that have the number n clashes with s. -/
def frTo (rest : Int) (sl : List (Int × Int)) (t : List Int) (s : Int × Int) (n : Int) (k : Nat) : Prop := ∀ i, i < k → t.getD i (-1) = n → ¬ clashP rest s (sl.getD i (0, 0))
theorem fr_no {rest n : Int} {sl : List (Int × Int)} {t : List Int} {s : Int × Int} {k : Nat} (h : ¬ frTo rest sl t s n k) : ¬ frTo rest sl t s n (k + 1) := fun h2 => h fun i hi => h2 i (by omega)
theorem fr_yes {rest n : Int} {sl : List (Int × Int)} {t : List Int} {s : Int × Int} {k : Nat} (h : frTo rest sl t s n k) (h2 : t.getD k (-1) = n → ¬ clashP rest s (sl.getD k (0, 0))) : frTo rest sl t s n (k + 1) := fun i hi => by
  rcases Nat.lt_or_ge i k with h3 | h3
  · exact h i h3
  · have : i = k := by omega
    subst this; exact h2
theorem fr_bad {rest n : Int} {sl : List (Int × Int)} {t : List Int} {s : Int × Int} {k : Nat} (h : t.getD k (-1) = n) (h2 : clashP rest s (sl.getD k (0, 0))) : ¬ frTo rest sl t s n (k + 1) := fun h3 => h3 k (by omega) h h2
end Go.Pv
namespace Go.Proofs.Ytigknnepmhmiaaa
open Go.Pv Go.RowKit
set_option maxHeartbeats 8000000
theorem refSmallest_any (rest a b : Int) (v tv : Value) (sl : List (Int × Int)) (t : List Int) (w : World) (h : Prs w v sl) (htv : Ints w tv t) (ht : t.length = sl.length) (hl : sl.length ≤ 40) (hr : (0 ≤ rest ∧ rest ≤ 1000000) ∧ (∀ j, j < sl.length → 0 ≤ (sl.getD j (0, 0)).2 ∧ (sl.getD j (0, 0)).2 ≤ 1000000) ∧ 0 ≤ b ∧ b ≤ 1000000) :
    Ret Try.prog 60 [.agg #[.int .i64 rest, v], tv, .agg #[.int .i64 a, .int .i64 b]] w fun r _ => r = .int .i64 (smallN rest sl t (a, b)) := by
  have hv1 := h.one
  have ht1 := htv.one
  have htl := htv.len
  obtain ⟨M, hM, hMl, hMf, hMn⟩ := small_ex (rest := rest) (sl := sl) (t := t) (s := (a, b))
  have tA : True := trivial
  have hget : ∀ i, i < t.length → t.getD i 0 = t.getD i (-1) := fun i hi => by simp [hi]
  refine ret_of_c Try.func60 rfl Try.ntmps60 (Nat.le_of_ble_eq_true rfl) (by dsimp only [ini, Nat.reduceAdd] <;> exact rfl) ?_
  repeat' (first
      | (clear tk; have hik := hr.2.1 i (by omega); have hgi := hget i (by omega); (have tk2 : True := trivial); cases bf)
      | (refine WQ_indexPr2 (i := i) (v := v) (xs := sl) rfl (by repeat (first | assumption | ((with_reducible apply Bx.grownS); assumption; (first | omega | exact Bx.ne (by assumption) (by omega))) | ((with_reducible apply Bx.below); assumption; omega) | ((with_reducible apply Own.grownS); assumption; omega) | ((with_reducible apply Bx.ex); assumption) | ((with_reducible apply IntsK.ex); assumption) | ((with_reducible apply Own.ex); assumption) | ((with_reducible apply Prs.ex); assumption))) rfl (by omega) ?_; intro pb po hpc hp0 hp1)
      | ((with_reducible apply WQ_op); exact rfl; exact rfl; (intro wq he; exact r_loadA rfl (Cells.ex he hpc) rfl))
      | ((first | ((with_reducible apply W_op); exact rfl; exact rfl) | ((with_reducible apply WQ_op); exact rfl; exact rfl; intro wq he) | ((with_reducible apply WM_op); exact rfl; exact rfl; intro wq he) | ((with_reducible apply WB_op); exact rfl; exact rfl; intro wq)); (first | ((with_reducible apply r_move); ((conv => lhs; whnf) <;> exact rfl)) | ((with_reducible apply r_assign); ((conv => lhs; whnf) <;> exact rfl)) | ((with_reducible apply r_fieldAddr); exact rfl) | ((with_reducible apply r_load); exact rfl; exact rfl; (first | assumption | exact (Bx.cell (by repeat (first | assumption | ((with_reducible apply Bx.grownS); assumption; (first | omega | exact Bx.ne (by assumption) (by omega))) | ((with_reducible apply Bx.below); assumption; omega) | ((with_reducible apply Bx.ex); assumption))) _).trans rfl | exact Ex.cell (by assumption) (by assumption))) | ((with_reducible apply r_loadA); exact rfl; (first | assumption | exact Bx.cells (by repeat (first | assumption | ((with_reducible apply Bx.grownS); assumption; (first | omega | exact Bx.ne (by assumption) (by omega))) | ((with_reducible apply Bx.below); assumption; omega) | ((with_reducible apply Bx.ex); assumption))) | exact Cells.ex (by assumption) (by assumption)); exact rfl) | ((with_reducible apply r_lss); exact rfl; exact rfl) | ((with_reducible apply r_neq); exact rfl; exact rfl) | ((with_reducible apply r_add); exact rfl; exact rfl; omega) | ((with_reducible apply r_lenInts); ((conv => lhs; whnf) <;> exact rfl); (focus ((repeat (first | assumption | ((with_reducible apply Bx.grownS); assumption; (first | omega | exact Bx.ne (by assumption) (by omega))) | ((with_reducible apply Bx.below); assumption; omega) | ((with_reducible apply Own.grownS); assumption; omega) | ((with_reducible apply Bx.ex); assumption) | ((with_reducible apply IntsK.ex); assumption) | ((with_reducible apply Own.ex); assumption) | ((with_reducible apply Prs.ex); assumption))); done))) | ((with_reducible apply r_pick_true); exact rfl; ((conv => lhs; whnf) <;> exact rfl)) | ((with_reducible apply r_pick_false); exact rfl; ((conv => lhs; whnf) <;> exact rfl)) | ((with_reducible apply r_not); exact rfl)))
      | (refine WQ_callv (fun wq he => clash_any (sl.getD i (0, 0)).1 (sl.getD i (0, 0)).2 a b rest _ (by omega)) rfl ?_)
      | ((with_reducible (show C _ _ _ _ _ _)); refine c_loopG (fun (n : Nat) ps wr => ∃ b3 : Nat, ∃ b5 : Nat, ∃ nn : Int, ps = [(1, tv), (3, .pointer (some ⟨b3, 0, none⟩)), (5, .pointer (some ⟨b5, 0, none⟩)), (7, .int .i64 nn)] ∧ nn = n ∧ n ≤ M ∧ Bx wr b3 [.int .i64 rest, v] 33 ∧ Bx wr b5 [.int .i64 a, .int .i64 b] 52 ∧ Ex w wr) (fun n => M - n) 0 _ ⟨_, _, _, rfl, rfl, Nat.zero_le _, (by repeat (first | assumption | ((with_reducible apply Bx.grownS); assumption; (first | omega | exact Bx.ne (by assumption) (by omega))) | ((with_reducible apply Bx.below); assumption; omega) | ((with_reducible apply Bx.ex); assumption))), (by repeat (first | assumption | ((with_reducible apply Bx.grownS); assumption; (first | omega | exact Bx.ne (by assumption) (by omega))) | ((with_reducible apply Bx.below); assumption; omega) | ((with_reducible apply Bx.ex); assumption))), (by repeat (first | assumption | exact Ex.refl _ | (refine Ex.trans ?_ (by assumption)) | (refine Ex.of_grown ?_ (by assumption) (by intro k hk; cases hk; omega))))⟩ ⟨rfl, rfl, rfl, rfl, trivial⟩ (by ((conv => lhs; whnf) <;> exact rfl)) (by ((conv => lhs; whnf) <;> exact rfl)) ?_; rintro JA hJA n u ps wr ⟨b3, b5, nn, rfl, rfl, hn, hx3, hx5, he⟩; have hsz := he.size)
      | ((with_reducible (show Exit.then _ _ _ _ _)); refine n_roundG (n + 1) (hJA _ _ _ _ ⟨_, _, _, rfl, (by omega), (by have hne : n ≠ M := (fun e => (by have h9 := hbf.2 (fun j hj => (by subst e; exact hMf j (by omega))); have h8 := (by assumption : bf = false); rw [h8] at h9; cases h9)); omega), (by repeat (first | assumption | ((with_reducible apply Bx.grownS); assumption; (first | omega | exact Bx.ne (by assumption) (by omega))) | ((with_reducible apply Bx.below); assumption; omega) | ((with_reducible apply Bx.ex); assumption))), (by repeat (first | assumption | ((with_reducible apply Bx.grownS); assumption; (first | omega | exact Bx.ne (by assumption) (by omega))) | ((with_reducible apply Bx.below); assumption; omega) | ((with_reducible apply Bx.ex); assumption))), (by repeat (first | assumption | exact Ex.refl _ | (refine Ex.trans ?_ (by assumption)) | (refine Ex.of_grown ?_ (by assumption) (by intro k hk; cases hk; omega))))⟩ ⟨rfl, rfl, rfl, rfl, trivial⟩ rfl) (by have hne : n ≠ M := (fun e => (by have h9 := hbf.2 (fun j hj => (by subst e; exact hMf j (by omega))); have h8 := (by assumption : bf = false); rw [h8] at h9; cases h9)); omega))
      | ((with_reducible (show C _ _ _ _ _ _)); refine c_loopG (fun (i : Nat) ps wr => ∃ bf : Bool, ∃ ii : Int, ps = [(1, tv), (3, .pointer (some ⟨b3, 0, none⟩)), (5, .pointer (some ⟨b5, 0, none⟩)), (7, .int .i64 n), (8, .bool bf), (9, .int .i64 ii)] ∧ ii = i ∧ i ≤ t.length ∧ (bf = true ↔ frTo rest sl t (a, b) n i) ∧ Bx wr b3 [.int .i64 rest, v] 33 ∧ Bx wr b5 [.int .i64 a, .int .i64 b] 52 ∧ Ex w wr) (fun i => t.length - i) 0 _ ⟨_, _, rfl, rfl, Nat.zero_le _, ⟨fun _ j hj => absurd hj (Nat.not_lt_zero _), fun _ => rfl⟩, (by repeat (first | assumption | ((with_reducible apply Bx.grownS); assumption; (first | omega | exact Bx.ne (by assumption) (by omega))) | ((with_reducible apply Bx.below); assumption; omega) | ((with_reducible apply Bx.ex); assumption))), (by repeat (first | assumption | ((with_reducible apply Bx.grownS); assumption; (first | omega | exact Bx.ne (by assumption) (by omega))) | ((with_reducible apply Bx.below); assumption; omega) | ((with_reducible apply Bx.ex); assumption))), (by repeat (first | assumption | exact Ex.refl _ | (refine Ex.trans ?_ (by assumption)) | (refine Ex.of_grown ?_ (by assumption) (by intro k hk; cases hk; omega))))⟩ ⟨rfl, rfl, rfl, rfl, rfl, rfl, trivial⟩ (by ((conv => lhs; whnf) <;> exact rfl)) (by ((conv => lhs; whnf) <;> exact rfl)) ?_; rintro JB hJB i u ps wr ⟨bf, ii, rfl, rfl, hi, hbf, hx3, hx5, he⟩; have hsz := he.size; have tk : True := trivial)
      | ((with_reducible (show Exit.then _ _ _ _ _)); refine n_roundG (i + 1) (hJB _ _ _ _ ⟨_, _, rfl, by omega, by omega, (by first | exact iff_of_true rfl (fr_yes (hbf.1 rfl) (fun e => absurd (hgi.trans e) (by assumption))) | exact iff_of_false Bool.false_ne_true (fr_no (fun hf => (by have h9 := hbf.2 hf; cases h9))) | exact ⟨fun hx => fr_yes (hbf.1 rfl) (fun _ hc => (by have h9 := clash_comm.1 hc; rw [Bool.not_eq_true', decide_eq_false_iff_not] at hx; exact hx h9)), fun hf => (by rw [Bool.not_eq_true', decide_eq_false_iff_not]; exact fun hc => fr_bad (hgi.symm.trans (by omega)) (clash_comm.1 hc) hf)⟩ | exact ⟨fun hx => fr_yes (hbf.1 rfl) (fun _ hc => of_decide_eq_true hx (clash_comm.1 hc)), fun hf => decide_eq_true (fun hc => fr_bad (hgi.symm.trans (by omega)) (clash_comm.1 hc) hf)⟩), (by repeat (first | assumption | ((with_reducible apply Bx.grownS); assumption; (first | omega | exact Bx.ne (by assumption) (by omega))) | ((with_reducible apply Bx.below); assumption; omega) | ((with_reducible apply Bx.ex); assumption))), (by repeat (first | assumption | ((with_reducible apply Bx.grownS); assumption; (first | omega | exact Bx.ne (by assumption) (by omega))) | ((with_reducible apply Bx.below); assumption; omega) | ((with_reducible apply Bx.ex); assumption))), (by repeat (first | assumption | exact Ex.refl _ | (refine Ex.trans ?_ (by assumption)) | (refine Ex.of_grown ?_ (by assumption) (by intro k hk; cases hk; omega))))⟩ ⟨rfl, rfl, rfl, rfl, rfl, rfl, trivial⟩ rfl) (by omega))
      | (with_reducible apply W_nil)
      | ((with_reducible apply WQ_nil); exact rfl; intro wq he; have hsz := he.size)
      | ((with_reducible apply W_box); exact rfl; exact rfl; intro bq wq hbq he hnq; have hltq := Bx.lt hbq; have hsz := he.size)
      | ((with_reducible apply WQ_indexInt); ((conv => lhs; whnf) <;> exact rfl); (focus ((repeat (first | assumption | ((with_reducible apply Bx.grownS); assumption; (first | omega | exact Bx.ne (by assumption) (by omega))) | ((with_reducible apply Bx.below); assumption; omega) | ((with_reducible apply Own.grownS); assumption; omega) | ((with_reducible apply Bx.ex); assumption) | ((with_reducible apply IntsK.ex); assumption) | ((with_reducible apply Own.ex); assumption) | ((with_reducible apply Prs.ex); assumption))); done)); exact rfl; omega; intro pq hpq)
      | ((with_reducible apply WQ_pass); exact rfl; exact rfl; exact rfl; exact rfl; exact rfl)
      | ((with_reducible apply WQ_take); exact rfl; exact rfl; exact rfl)
      | ((with_reducible apply WQ_passU); exact rfl; exact rfl; exact rfl; exact rfl)
      | ((with_reducible apply WQ_split); exact rfl; exact rfl; intro _; rotate_left 1; intro _)
      | ((with_reducible apply c_quiet); kernel_rfl)
      | (with_reducible apply c_seq)
      | ((with_reducible apply c_region); kernel_rfl)
      | (with_reducible apply n_nq)
      | (with_reducible apply c_block)
      | (with_reducible apply c_skip)
      | (with_reducible apply c_ret)
      | (with_reducible apply c_exit)
      | ((with_reducible apply c_cond_dec); exact rfl; intro _; rotate_left 1; intro _)
      | ((with_reducible apply c_cond_bool); exact rfl; intro _; rotate_left 1; intro _)
      | (with_reducible apply n_then)
      | (with_reducible apply n_block)
      | (with_reducible apply e_then)
      | (with_reducible apply e_block)
      | (with_reducible apply r_then)
      | (with_reducible apply r_block)
      | ((with_reducible apply p_ret1); exact rfl; exact rfl; ((conv => lhs; whnf) <;> exact rfl); refine ⟨_, rfl, ?_, (by repeat (first | assumption | exact Ex.refl _ | (refine Ex.trans ?_ (by assumption)) | (refine Ex.of_grown ?_ (by assumption) (by intro k hk; cases hk; omega))))⟩))
  have h8 := (by assumption : bf = true)
  have hfr : freeN rest sl t (a, b) n := fun j hj => hbf.1 h8 j (by omega)
  have hnM : n = M := by
    rcases Nat.lt_or_ge n M with h1 | h1
    · exact absurd hfr (hMn n h1)
    · omega
  rw [hM, hnM]
end Go.Proofs.Ytigknnepmhmiaaa
