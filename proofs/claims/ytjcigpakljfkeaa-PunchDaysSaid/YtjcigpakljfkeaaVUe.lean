/-
  What this text proves: the plan of a job as its passes, and the iterator of the slots that clash with one. Conditions: the values read as lists.
-/
import Derived.Test.YtjcigpakljfkeaaVUd
set_option linter.unusedVariables false
set_option linter.unusedSimpArgs false
namespace Go.Pv
open Go.RowKit
/-- The first k slots that clash with s, as numbers. -/
def clTo (rest : Int) (sl : List (Int × Int)) (s : Int × Int) : Nat → List Int
  | 0 => []
  | k + 1 => if clashP rest s (sl.getD k (0, 0)) then clTo rest sl s k ++ [(k : Int)] else clTo rest sl s k
theorem clTo_yes {rest : Int} {sl : List (Int × Int)} {s : Int × Int} {k : Nat} (h : clashP rest s (sl.getD k (0, 0))) : clTo rest sl s (k + 1) = clTo rest sl s k ++ [(k : Int)] := by simp only [clTo]; rw [if_pos h]
theorem clTo_no {rest : Int} {sl : List (Int × Int)} {s : Int × Int} {k : Nat} (h : ¬ clashP rest s (sl.getD k (0, 0))) : clTo rest sl s (k + 1) = clTo rest sl s k := by simp only [clTo]; rw [if_neg h]
theorem clTo_len (rest : Int) (sl : List (Int × Int)) (s : Int × Int) : ∀ k, (clTo rest sl s k).length ≤ k
  | 0 => Nat.le_refl _
  | k + 1 => by
    have := clTo_len rest sl s k
    simp only [clTo]
    split
    · simp; omega
    · omega
theorem clTo_mem {rest : Int} {sl : List (Int × Int)} {s : Int × Int} {x : Int} : ∀ {k : Nat}, x ∈ clTo rest sl s k ↔ ∃ i : Nat, x = i ∧ i < k ∧ clashP rest s (sl.getD i (0, 0))
  | 0 => by simp [clTo]
  | k + 1 => by
    simp only [clTo]
    split
    · next h =>
      rw [List.mem_append, clTo_mem (k := k)]
      constructor
      · rintro (⟨i, rfl, h1, h2⟩ | h1)
        · exact ⟨i, rfl, by omega, h2⟩
        · simp at h1; exact ⟨k, h1, by omega, h⟩
      · rintro ⟨i, rfl, h1, h2⟩
        rcases Nat.lt_or_ge i k with h3 | h3
        · exact .inl ⟨i, rfl, h3, h2⟩
        · have : i = k := by omega
          subst this; exact .inr (by simp)
    · next h =>
      rw [clTo_mem (k := k)]
      constructor
      · rintro ⟨i, rfl, h1, h2⟩; exact ⟨i, rfl, by omega, h2⟩
      · rintro ⟨i, rfl, h1, h2⟩
        refine ⟨i, rfl, ?_, h2⟩
        rcases Nat.lt_or_ge i k with h3 | h3
        · exact h3
        · have : i = k := by omega
          subst this; exact absurd h2 h
/-- A number of a list of n. -/
abbrev Idx (n : Nat) := { i : Nat // i < n }
def vI {n : Nat} (i : Idx n) : Int := i.1
theorem plC_copy {a v : Value} {t xs : List Int} (h : xs.length ≤ t.length) : (plC a v t).take (0 + 2) ++ xs.map (Value.int .i64) ++ (plC a v t).drop (0 + 2 + xs.length) = plC a v (xs ++ t.drop xs.length) := by
  simp [plC, Nat.add_comm 2, List.map_append, List.map_drop]
end Go.Pv
namespace Go.Proofs.Ytjcigpakljfkeaa
open Go.Pv Go.RowKit
set_option maxHeartbeats 8000000
theorem plannedBy_any (rest : Int) (v pv : Value) (plan : List Int) (w : World) (hv1 : v.oneCell' = true) (hp : Ints w pv plan) (hl : plan.length ≤ 40) : Ret Try.prog 63 [.agg #[.int .i64 rest, v], pv] w fun r w' => r = .agg (plC (.int .i64 rest) v (plan ++ List.replicate (40 - plan.length) (-1))).toArray := by
  have hp1 := hp.one
  have tA : True := trivial
  refine ret_of_c Try.func63 rfl Try.ntmps63 (Nat.le_of_ble_eq_true rfl) (by dsimp only [ini, Nat.reduceAdd] <;> exact rfl) ?_
  repeat' (first
      | (clear tA; (have tB : True := trivial); (with_reducible apply W_storeA); exact rfl; exact (by repeat (first | assumption | ((with_reducible apply Bx.grownS); assumption; (first | omega | exact Bx.ne (by assumption) (by omega))) | ((with_reducible apply Bx.below); assumption; omega) | ((with_reducible apply Bx.ex); assumption))); exact rfl; exact rfl; exact rfl; exact plC_ones rfl hv1; intro wq hbq hgq; have he : Ex w wq := (by repeat (first | assumption | exact Ex.refl _ | (refine Ex.trans ?_ (by assumption)) | (refine Ex.of_grown ?_ (by assumption) (by intro k hk; cases hk; omega)))); have hsz := he.size)
      | ((with_reducible apply W_op); exact rfl; exact rfl; exact r_sliceAr rfl)
      | (clear tB; (have tC : True := trivial); refine W_copyB (xs := plan) rfl rfl (by repeat (first | assumption | ((with_reducible apply Bx.grownS); assumption; (first | omega | exact Bx.ne (by assumption) (by omega))) | ((with_reducible apply Bx.below); assumption; omega) | ((with_reducible apply Own.grownS); assumption; omega) | ((with_reducible apply Bx.ex); assumption) | ((with_reducible apply IntsK.ex); assumption) | ((with_reducible apply Own.ex); assumption) | ((with_reducible apply Prs.ex); assumption))) hl ((by repeat (first | assumption | ((with_reducible apply Bx.grownS); assumption; (first | omega | exact Bx.ne (by assumption) (by omega))) | ((with_reducible apply Bx.below); assumption; omega) | ((with_reducible apply Bx.ex); assumption))) : Bx _ _ (plC (.int .i64 rest) v (List.replicate 40 (-1))) _) (by rw [plC_len]; simp; omega) (plC_copy (by simpa using hl)) ?_; intro wq hbq hgq; have he : Ex w wq := (by repeat (first | assumption | exact Ex.refl _ | (refine Ex.trans ?_ (by assumption)) | (refine Ex.of_grown ?_ (by assumption) (by intro k hk; cases hk; omega)))); have hsz := he.size)
      | (refine W_op rfl rfl (r_loadA rfl (Bx.cells hbq) (by rw [plC_len]; simp; omega)) ?_)
      | (clear tC; (with_reducible apply W_storeA); exact rfl; exact (by repeat (first | assumption | ((with_reducible apply Bx.grownS); assumption; (first | omega | exact Bx.ne (by assumption) (by omega))) | ((with_reducible apply Bx.below); assumption; omega) | ((with_reducible apply Bx.ex); assumption))); exact rfl; (rw [plC_len]; simp; omega); (rw [plC_len]; simp; omega); exact plC_ones rfl hv1; intro wq hbq hgq; have he : Ex w wq := (by repeat (first | assumption | exact Ex.refl _ | (refine Ex.trans ?_ (by assumption)) | (refine Ex.of_grown ?_ (by assumption) (by intro k hk; cases hk; omega)))); have hsz := he.size)
      | ((with_reducible apply p_retc); exact rfl; exact rfl; exact inferInstance; exact inferInstance; exact rfl; exact hbq; (rw [plC_len]; simp; omega); refine ⟨_, rfl, ?_, (by repeat (first | assumption | exact Ex.refl _ | (refine Ex.trans ?_ (by assumption)) | (refine Ex.of_grown ?_ (by assumption) (by intro k hk; cases hk; omega))))⟩)
      | ((first | ((with_reducible apply W_op); exact rfl; exact rfl)); (first | ((with_reducible apply r_move); ((conv => lhs; whnf) <;> exact rfl)) | ((with_reducible apply r_fieldAddr); exact rfl) | ((with_reducible apply r_loadA); exact rfl; (first | assumption | exact Bx.cells (by repeat (first | assumption | ((with_reducible apply Bx.grownS); assumption; (first | omega | exact Bx.ne (by assumption) (by omega))) | ((with_reducible apply Bx.below); assumption; omega) | ((with_reducible apply Bx.ex); assumption))) | exact Cells.ex (by assumption) (by assumption)); exact rfl)))
      | (refine W_callv (unplanned_any rest v _ hv1) rfl (fun wq he => ?_); have hsz := he.size)
      | (with_reducible apply W_nil)
      | ((with_reducible apply W_box); exact rfl; exact rfl; intro bq wq hbq he hnq; have hltq := Bx.lt hbq; have hsz := he.size)
      | ((with_reducible apply W_alloc); exact rfl; intro bq wq hbq he hnq; have hltq := Bx.lt hbq; have hsz := he.size)
      | (with_reducible apply c_seq)
      | ((with_reducible apply c_region); kernel_rfl)
      | (with_reducible apply n_nq)
      | (with_reducible apply c_ret)
      | (with_reducible apply n_then))
  rw [List.drop_replicate]
theorem clashing_any (rest a b : Int) (v : Value) (w : World) (hv1 : v.oneCell' = true) : Ret Try.prog 85 [.agg #[.int .i64 rest, v], .agg #[.int .i64 a, .int .i64 b]] w fun r w' =>
    ∃ bj bs, r = .func (.func 93) #[] #[.pointer (some ⟨bj, 0, none⟩), .pointer (some ⟨bs, 0, none⟩)] ∧ Bx w' bj [.int .i64 rest, v] 24 ∧ Bx w' bs [.int .i64 a, .int .i64 b] 47 ∧ w.heap.size ≤ bj ∧ w.heap.size ≤ bs := by
  refine ret_of_c Try.func85 rfl Try.ntmps85 (Nat.le_of_ble_eq_true rfl) (by dsimp only [ini, Nat.reduceAdd] <;> exact rfl) ?_
  repeat' (first
      | ((with_reducible apply W_op); exact rfl; exact rfl; exact r_makeFunc rfl rfl)
      | ((first | ((with_reducible apply W_op); exact rfl; exact rfl)); (first | ((with_reducible apply r_assign); ((conv => lhs; whnf) <;> exact rfl))))
      | (with_reducible apply W_nil)
      | ((with_reducible apply W_box); exact rfl; exact rfl; intro bq wq hbq he hnq; have hltq := Bx.lt hbq; have hsz := he.size)
      | (with_reducible apply c_seq)
      | ((with_reducible apply c_region); kernel_rfl)
      | (with_reducible apply n_nq)
      | (with_reducible apply c_ret)
      | (with_reducible apply n_then)
      | ((with_reducible apply p_ret1); exact rfl; exact rfl; ((conv => lhs; whnf) <;> exact rfl); refine ⟨_, rfl, ?_, (by repeat (first | assumption | exact Ex.refl _ | (refine Ex.trans ?_ (by assumption)) | (refine Ex.of_grown ?_ (by assumption) (by intro k hk; cases hk; omega))))⟩))
  exact ⟨_, _, rfl, (by repeat (first | assumption | ((with_reducible apply Bx.grownS); assumption; (first | omega | exact Bx.ne (by assumption) (by omega))) | ((with_reducible apply Bx.below); assumption; omega) | ((with_reducible apply Bx.ex); assumption))), (by repeat (first | assumption | ((with_reducible apply Bx.grownS); assumption; (first | omega | exact Bx.ne (by assumption) (by omega))) | ((with_reducible apply Bx.below); assumption; omega) | ((with_reducible apply Bx.ex); assumption))), by omega, by omega⟩
/-- What the iterator of clashing slots finds. -/
def ClF (rest a b : Int) (v : Value) (bj bs : Nat) (w0 w : World) : Prop := Bx w bj [.int .i64 rest, v] 24 ∧ Bx w bs [.int .i64 a, .int .i64 b] 47 ∧ Ex w0 w
theorem ClF.ex {rest a b : Int} {v : Value} {bj bs : Nat} {w0 w w' : World} (e : Ex w w') (h : ClF rest a b v bj bs w0 w) : ClF rest a b v bj bs w0 w' := ⟨h.1.ex e, h.2.1.ex e, h.2.2.trans e⟩
theorem ClF.put {rest a b : Int} {v : Value} {bj bs i : Nat} {w0 A : World} {o o' : Obj} (h : ClF rest a b v bj bs w0 A) (hi : w0.heap.size ≤ i) (hA : A.heap[i]? = some o) (ho : o.isCells = false) : ClF rest a b v bj bs w0 (A.putObj i o') :=
  ⟨h.1.notCells (grownBy_putObj' _ _ _) (fun r e => by cases e; exact ⟨o, hA, ho⟩), h.2.1.notCells (grownBy_putObj' _ _ _) (fun r e => by cases e; exact ⟨o, hA, ho⟩), Ex.of_grown h.2.2 (grownBy_putObj' _ _ _) (by intro k hk; cases hk; exact hi)⟩
theorem clashing1_seq (rest a b : Int) (v : Value) (sl : List (Int × Int)) (bj bs : Nat) (w0 w1 : World) (h : Prs w0 v sl) (hl : sl.length ≤ 40) (hr : (0 ≤ rest ∧ rest ≤ 1000000) ∧ (∀ j, j < sl.length → 0 ≤ (sl.getD j (0, 0)).2 ∧ (sl.getD j (0, 0)).2 ≤ 1000000) ∧ 0 ≤ b ∧ b ≤ 1000000) (hF : ClF rest a b v bj bs w0 w1) :
    SeqStopsK Fence.wide 2 Try.prog 93 #[.pointer (some ⟨bj, 0, none⟩), .pointer (some ⟨bs, 0, none⟩)] (fun x : Idx sl.length => [Value.int .i64 x.1].toArray) (fun X Y => ClF rest a b v bj bs w0 X → ClF rest a b v bj bs w0 Y)
      (fun ys => ys.map vI = clTo rest sl (a, b) sl.length) (fun pre => ∃ pr x, pre = pr ++ [x] ∧ clashP rest (a, b) (sl.getD x.1 (0, 0))) 40 w1 := by
  intro y J Jx w hW hJ hJx hY h0
  have hW2 : Ex w1 w := by unfold Ex; exact hW
  have hF0 := hF.ex hW2
  have hv1 := h.one
  have tk1 : True := trivial
  refine callsIn_wide.2 ?_
  show Calls Try.prog _ (List.toArray [.func (.yield y) #[] #[], .pointer (some ⟨bj, 0, none⟩), .pointer (some ⟨bs, 0, none⟩)]) w _
  refine calls_of_c Try.func93 rfl Try.ntmps93 (Nat.le_of_ble_eq_true rfl) (by dsimp only [ini, Nat.reduceAdd] <;> exact rfl) ?_
  have hx0 := hF0.1
  have hs0 := hF0.2.1
  have hpr0 : Prs w v sl := Prs.ex hF0.2.2 h
  repeat' (first
      | (clear tk2; (have tk3 : True := trivial); have hik := hr.2.1 k (by omega); refine c_regionP (id := 3) [true, true, true, true, true, true, true, true, true, true, true, true, true, true, true, true, true, true, true, true, true, false, false, false] [false, false, false, false, false, false, false, false, false, false, false, false, false, false, false, false, false, false, false, false, false, true, true, true] (by dsimp only [sel] <;> exact rfl) (by dsimp only [sel] <;> exact rfl) rfl rfl ?_)
      | ((first | ((with_reducible apply W_op); exact rfl; exact rfl)); (first | ((with_reducible apply r_move); ((conv => lhs; whnf) <;> exact rfl)) | ((with_reducible apply r_assign); ((conv => lhs; whnf) <;> exact rfl)) | ((with_reducible apply r_fieldAddr); exact rfl) | ((with_reducible apply r_load); exact rfl; exact rfl; (first | assumption | exact (Bx.cell (by repeat (first | assumption | ((with_reducible apply Bx.grownS); assumption; (first | omega | exact Bx.ne (by assumption) (by omega))) | ((with_reducible apply Bx.below); assumption; omega) | ((with_reducible apply Bx.ex); assumption))) _).trans rfl | exact Ex.cell (by assumption) (by assumption))) | ((with_reducible apply r_loadA); exact rfl; (first | assumption | exact Bx.cells (by repeat (first | assumption | ((with_reducible apply Bx.grownS); assumption; (first | omega | exact Bx.ne (by assumption) (by omega))) | ((with_reducible apply Bx.below); assumption; omega) | ((with_reducible apply Bx.ex); assumption))) | exact Cells.ex (by assumption) (by assumption)); exact rfl) | ((with_reducible apply r_lss); exact rfl; exact rfl) | ((with_reducible apply r_add); exact rfl; exact rfl; omega) | ((with_reducible apply r_lenPrs); ((conv => lhs; whnf) <;> exact rfl); (focus ((repeat (first | assumption | ((with_reducible apply Bx.grownS); assumption; (first | omega | exact Bx.ne (by assumption) (by omega))) | ((with_reducible apply Bx.below); assumption; omega) | ((with_reducible apply Own.grownS); assumption; omega) | ((with_reducible apply Bx.ex); assumption) | ((with_reducible apply IntsK.ex); assumption) | ((with_reducible apply Own.ex); assumption) | ((with_reducible apply Prs.ex); assumption))); done))) | ((with_reducible apply r_pick_true); exact rfl; ((conv => lhs; whnf) <;> exact rfl)) | ((with_reducible apply r_pick_false); exact rfl; ((conv => lhs; whnf) <;> exact rfl)) | ((with_reducible apply r_notb); exact rfl)))
      | (with_reducible apply WP_nil)
      | ((clear tk3; refine WI_take (j := 18) rfl rfl rfl ?_; refine WI_yieldN rfl rfl (hY ys ⟨k, by omega⟩ _ (hJ _ _ _ none hj0 (Ex.grownBy (by repeat (first | assumption | exact Ex.refl _ | (refine Ex.trans ?_ (by assumption)) | (refine Ex.of_grown ?_ (by assumption) (by intro k hk; cases hk; omega))))) (by intro r e; cases e)) (by have := clTo_len rest sl (a, b) k; have := congrArg List.length hys; simp only [List.length_map] at this; omega)) (by rintro e w' (⟨rfl, _⟩ | ⟨rfl, _⟩) <;> exact ⟨_, rfl⟩) ?_); (rintro bb wy (⟨e, hj1, hk1⟩ | ⟨e, hj1⟩) <;> cases e); all_goals (refine WI_rest rfl ?_))
      | ((clear tk3; refine WI_rest rfl ?_))
      | ((with_reducible (show C _ _ _ _ _ _)); clear tk1; refine c_loopG (fun (k : Nat) ps wr => ∃ i : Int, ∃ w : World, ∃ ys : List (Idx sl.length), ps = [(0, .func (.yield y) #[] #[]), (1, .pointer (some ⟨bj, 0, none⟩)), (2, .pointer (some ⟨bs, 0, none⟩)), (7, v), (8, .int .i64 sl.length), (9, .int .i64 i)] ∧ i = k ∧ k ≤ sl.length ∧ ys.map vI = clTo rest sl (a, b) k ∧ J ys w ∧ ClF rest a b v bj bs w0 w ∧ Bx wr bj [.int .i64 rest, v] 24 ∧ Bx wr bs [.int .i64 a, .int .i64 b] 47 ∧ Prs wr v sl ∧ Ex w wr) (fun k => sl.length - k) 0 _ ⟨_, _, _, rfl, rfl, Nat.zero_le _, rfl, h0, hF0, hx0, hs0, hpr0, Ex.refl _⟩ ⟨rfl, rfl, rfl, rfl, rfl, rfl, trivial⟩ (by ((conv => lhs; whnf) <;> exact rfl)) (by ((conv => lhs; whnf) <;> exact rfl)) ?_; rintro JJ hJJ k u ps wr ⟨i, w, ys, rfl, rfl, hk, hys, hj0, hcf, hxj, hxs, hpr, he⟩; have hsz := he.size; have tk2 : True := trivial)
      | ((with_reducible (show Exit.then _ _ _ _ _)); refine n_roundG (k + 1) (hJJ _ _ _ _ ⟨_, _, _, rfl, by omega, by omega, (by rw [clTo_yes ⟨by assumption, by assumption⟩, List.map_append, hys]; rfl), hj1, hk1 (hcf.ex (by repeat (first | assumption | exact Ex.refl _ | (refine Ex.trans ?_ (by assumption)) | (refine Ex.of_grown ?_ (by assumption) (by intro k hk; cases hk; omega))))), (hk1 (hcf.ex (by repeat (first | assumption | exact Ex.refl _ | (refine Ex.trans ?_ (by assumption)) | (refine Ex.of_grown ?_ (by assumption) (by intro k hk; cases hk; omega)))))).1, (hk1 (hcf.ex (by repeat (first | assumption | exact Ex.refl _ | (refine Ex.trans ?_ (by assumption)) | (refine Ex.of_grown ?_ (by assumption) (by intro k hk; cases hk; omega)))))).2.1, Prs.ex (hk1 (hcf.ex (by repeat (first | assumption | exact Ex.refl _ | (refine Ex.trans ?_ (by assumption)) | (refine Ex.of_grown ?_ (by assumption) (by intro k hk; cases hk; omega)))))).2.2 h, Ex.refl _⟩ ⟨rfl, rfl, rfl, rfl, rfl, rfl, trivial⟩ rfl) (by omega))
      | ((with_reducible (show Exit.then _ _ _ _ _)); refine n_roundG (k + 1) (hJJ _ _ _ _ ⟨_, _, _, rfl, by omega, by omega, (by rw [clTo_no (fun hf => absurd hf.1 (by assumption))]; exact hys), hj0, hcf, (by repeat (first | assumption | ((with_reducible apply Bx.grownS); assumption; (first | omega | exact Bx.ne (by assumption) (by omega))) | ((with_reducible apply Bx.below); assumption; omega) | ((with_reducible apply Bx.ex); assumption))), (by repeat (first | assumption | ((with_reducible apply Bx.grownS); assumption; (first | omega | exact Bx.ne (by assumption) (by omega))) | ((with_reducible apply Bx.below); assumption; omega) | ((with_reducible apply Bx.ex); assumption))), Prs.ex (Ex.trans hcf.2.2 (by repeat (first | assumption | exact Ex.refl _ | (refine Ex.trans ?_ (by assumption)) | (refine Ex.of_grown ?_ (by assumption) (by intro k hk; cases hk; omega))))) h, (by repeat (first | assumption | exact Ex.refl _ | (refine Ex.trans ?_ (by assumption)) | (refine Ex.of_grown ?_ (by assumption) (by intro k hk; cases hk; omega))))⟩ ⟨rfl, rfl, rfl, rfl, rfl, rfl, trivial⟩ rfl) (by omega))
      | ((with_reducible (show Exit.then _ _ _ _ _)); refine n_roundG (k + 1) (hJJ _ _ _ _ ⟨_, _, _, rfl, by omega, by omega, (by rw [clTo_no (fun hf => absurd hf.2 (by assumption))]; exact hys), hj0, hcf, (by repeat (first | assumption | ((with_reducible apply Bx.grownS); assumption; (first | omega | exact Bx.ne (by assumption) (by omega))) | ((with_reducible apply Bx.below); assumption; omega) | ((with_reducible apply Bx.ex); assumption))), (by repeat (first | assumption | ((with_reducible apply Bx.grownS); assumption; (first | omega | exact Bx.ne (by assumption) (by omega))) | ((with_reducible apply Bx.below); assumption; omega) | ((with_reducible apply Bx.ex); assumption))), Prs.ex (Ex.trans hcf.2.2 (by repeat (first | assumption | exact Ex.refl _ | (refine Ex.trans ?_ (by assumption)) | (refine Ex.of_grown ?_ (by assumption) (by intro k hk; cases hk; omega))))) h, (by repeat (first | assumption | exact Ex.refl _ | (refine Ex.trans ?_ (by assumption)) | (refine Ex.of_grown ?_ (by assumption) (by intro k hk; cases hk; omega))))⟩ ⟨rfl, rfl, rfl, rfl, rfl, rfl, trivial⟩ rfl) (by omega))
      | (with_reducible apply W_nil)
      | ((with_reducible apply W_alloc); exact rfl; intro bq wq hbq he hnq; have hltq := Bx.lt hbq; have hsz := he.size)
      | ((with_reducible apply W_indexPr); ((conv => lhs; whnf) <;> exact rfl); (focus ((repeat (first | assumption | ((with_reducible apply Bx.grownS); assumption; (first | omega | exact Bx.ne (by assumption) (by omega))) | ((with_reducible apply Bx.below); assumption; omega) | ((with_reducible apply Own.grownS); assumption; omega) | ((with_reducible apply Bx.ex); assumption) | ((with_reducible apply IntsK.ex); assumption) | ((with_reducible apply Own.ex); assumption) | ((with_reducible apply Prs.ex); assumption))); done)); exact rfl; omega; intro pq hpq)
      | ((with_reducible apply W_storeA); exact rfl; (focus ((repeat (first | assumption | ((with_reducible apply Bx.grownS); assumption; (first | omega | exact Bx.ne (by assumption) (by omega))) | ((with_reducible apply Bx.below); assumption; omega) | ((with_reducible apply Bx.ex); assumption))); done)); exact rfl; exact rfl; exact rfl; (repeat' (first | exact trivial | (first | exact rfl | assumption | exact IntsK.one (by assumption) | exact Prs.one (by assumption) | exact Own.one (by assumption)) | constructor)); intro wq hbq hgq; have he : Ex w wq := (by repeat (first | assumption | exact Ex.refl _ | (refine Ex.trans ?_ (by assumption)) | (refine Ex.of_grown ?_ (by assumption) (by intro k hk; cases hk; omega)))); have hsz := he.size; have hgz := hgq.size)
      | ((with_reducible apply W_pass); exact rfl; exact rfl; exact rfl; exact rfl; exact rfl)
      | ((with_reducible apply W_take); exact rfl; exact rfl; exact rfl)
      | ((with_reducible apply W_split); exact rfl; exact rfl; intro _; rotate_left 1; intro _)
      | (with_reducible apply c_seq)
      | ((with_reducible apply c_region); kernel_rfl)
      | (with_reducible apply n_nq)
      | (with_reducible apply c_block)
      | (with_reducible apply c_skip)
      | (with_reducible apply c_ret)
      | (with_reducible apply c_exit)
      | ((with_reducible apply c_cond_true); exact rfl)
      | ((with_reducible apply c_cond_false); exact rfl)
      | ((with_reducible apply c_cond_dec); exact rfl; intro _; rotate_left 1; intro _)
      | (with_reducible apply n_then)
      | (with_reducible apply n_block)
      | (with_reducible apply e_then)
      | (with_reducible apply e_block)
      | (with_reducible apply r_then)
      | (with_reducible apply r_block))
  · refine p_end0 rfl rfl ⟨⟨_, rfl⟩, .inl ⟨ys, (by show ys.map vI = _; rw [hys]; congr 1; omega), ?_⟩⟩
    exact hJ _ _ _ none hj0 (Ex.grownBy (by repeat (first | assumption | exact Ex.refl _ | (refine Ex.trans ?_ (by assumption)) | (refine Ex.of_grown ?_ (by assumption) (by intro k hk; cases hk; omega))))) (by intro r e; cases e)
  · exact p_ret0 rfl rfl ⟨⟨_, rfl⟩, .inr ⟨_, ⟨ys, ⟨k, by omega⟩, rfl, by assumption, by assumption⟩, hj1⟩⟩
end Go.Proofs.Ytjcigpakljfkeaa
