/-
  (heavy) (rows) What this text proves: the numbers that lists have at a position are as the plain function says. Conditions: the values read as lists. the slow capacity of a regulator is as the plain function says. Conditions: the values read as lists. what a regulator passes on, and what waits then. Conditions: the block of the regulators holds the regulator. the iterator of the ticks of a course is a closure over a box with the course. Conditions: each value lies in one cell. possible reports as the plain function says. Conditions: the values read as lists.
-/
import Derived.Test.YtlphfobpheefkaaVAq
set_option linter.unusedVariables false
set_option linter.unusedSimpArgs false
namespace Go.Pv
open Go.RowKit Go.Sort
/-- The numbers that the first n lists have at a position. -/
def atL (f : Nat → List Int) (i : Nat) (n : Nat) : List Int := (List.range n).map fun j => (f j).getD i 0
theorem atL_len (f : Nat → List Int) (i n : Nat) : (atL f i n).length = n := by simp [atL]
theorem atL_succ (f : Nat → List Int) (i n : Nat) : atL f i (n + 1) = atL f i n ++ [(f n).getD i 0] := by simp [atL, List.range_succ]
theorem atL_get {f : Nat → List Int} {i n j : Nat} (h : j < n) : (atL f i n).getD j 0 = (f j).getD i 0 := by simp [atL, h]
end Go.Pv
namespace Go.Proofs.Ytlphfobpheefkaa
open Go.Pv Go.RowKit Go.Sort
set_option maxHeartbeats 8000000
set_option maxRecDepth 20000
theorem at_any (lv : Value) (us : List Value) (f : Nat → List Int) (i : Nat) (w : World) (h : Vals w lv us) (hu : ∀ j, j < us.length → Ints w (us.getD j undef) (f j) ∧ i < (f j).length) (hl : us.length ≤ 900) :
    Ret Try.prog 96 [lv, .int .i64 (i : Int)] w fun r w' => Pv.Own 3 w.heap.size w' r (atL f i us.length) := by
  have hv1 := h.one
  have tkA : True := trivial
  refine ret_of_c Try.func96 rfl Try.ntmps96 (Nat.le_of_ble_eq_true rfl) (by dsimp only [ini, Nat.reduceAdd] <;> exact rfl) ?_
  repeat' (first
      | (clear tkB; (have hov := hown.one); (have hgl := atL_len f i k); (by_cases hkn : k < us.length; (have huk := (hu k hkn).1; have hui := (hu k hkn).2; have huk1 := huk.one)); all_goals (have tkC : True := trivial))
      | ((with_reducible apply W_op); exact rfl; exact rfl; exact r_lenVals rfl (Vals.ex (show Ex w _ from (by repeat (first | exact Ex.refl _ | assumption | (refine Ex.of_grown ?_ (by assumption) (by intro k hk; cases hk; omega)) | (refine Ex.trans ?_ (by assumption))))) h))
      | (have _ := tkC; (with_reducible apply c_cond_dec); exact rfl; intro _; rotate_left 1; intro _; (all_goals (try (exfalso; (focus (omega; done))))))
      | (have _ := tkC; refine W_indexVals (i := k) (v := lv) (xs := us) rfl (Vals.ex (show Ex w _ from (by repeat (first | exact Ex.refl _ | assumption | (refine Ex.of_grown ?_ (by assumption) (by intro k hk; cases hk; omega)) | (refine Ex.trans ?_ (by assumption))))) h) rfl (by omega) ?_; intro pq hpq)
      | (have _ := tkC; refine W_indexInt (i := i) (v := us.getD k undef) (xs := f k) rfl (IntsK.ex (show Ex w _ from (by repeat (first | exact Ex.refl _ | assumption | (refine Ex.of_grown ?_ (by assumption) (by intro k hk; cases hk; omega)) | (refine Ex.trans ?_ (by assumption))))) huk) rfl (by omega) ?_; intro pp hpp)
      | (have _ := tkC; refine W_appendO (w0 := w) (base := w.heap.size) (m := (f k).getD i 0) (xs := atL f i k) rfl rfl (Pv.Own.ex (show Ex wr _ from (by repeat (first | exact Ex.refl _ | assumption | (refine Ex.of_grown ?_ (by assumption) (by intro k hk; cases hk; omega)) | (refine Ex.trans ?_ (by assumption))))) hown) rfl (by repeat (first | assumption | ((with_reducible apply Bx.grownS); assumption; (first | omega | exact Bx.ne (by assumption) (by omega))) | ((with_reducible apply Bx.below); assumption; omega) | ((with_reducible apply Bx.ex); assumption))) (by omega) (show Ex w _ from (by repeat (first | exact Ex.refl _ | assumption | (refine Ex.of_grown ?_ (by assumption) (by intro k hk; cases hk; omega)) | (refine Ex.trans ?_ (by assumption))))) (Nat.le_refl _) (by omega) ?_; intro r2 wq hown2 hr21 he hkn hgq; have hsz := he.size)
      | ((with_reducible (show C _ _ _ _ _ _)); clear tkA; refine c_loopG (fun (k : Nat) ps wr => ∃ r : Value, ∃ j : Int, ps = [(1, .int .i64 (i : Int)), (5, r), (8, lv), (9, .int .i64 (us.length : Int)), (10, .int .i64 j)] ∧ j = k ∧ k ≤ us.length ∧ Pv.Own 3 w.heap.size wr r (atL f i k) ∧ Ex w wr) (fun k => us.length - k) 0 _ ⟨_, _, rfl, rfl, Nat.zero_le _, Pv.Own.nil _ _ _, (by repeat (first | assumption | exact Ex.refl _ | (refine Ex.trans ?_ (by assumption)) | (refine Ex.of_grown ?_ (by assumption) (by intro k hk; cases hk; omega))))⟩ ⟨rfl, rfl, rfl, rfl, rfl, trivial⟩ (by ((conv => lhs; whnf) <;> exact rfl)) (by ((conv => lhs; whnf) <;> exact rfl)) ?_; rintro J hJ k u ps wr ⟨r, j, rfl, rfl, hk, hown, he⟩; have hsz := he.size; have tkB : True := trivial)
      | ((first | ((with_reducible apply W_op); exact rfl; exact rfl)); (first | ((with_reducible apply r_move); ((conv => lhs; whnf) <;> exact rfl)) | ((with_reducible apply r_assign); ((conv => lhs; whnf) <;> exact rfl)) | ((with_reducible apply r_load); exact rfl; exact rfl; (first | assumption | exact (Bx.cell (by repeat (first | assumption | ((with_reducible apply Bx.grownS); assumption; (first | omega | exact Bx.ne (by assumption) (by omega))) | ((with_reducible apply Bx.below); assumption; omega) | ((with_reducible apply Bx.ex); assumption))) _).trans rfl | exact Ex.cell (by assumption) (by assumption))) | ((with_reducible apply r_lss); exact rfl; exact rfl) | ((with_reducible apply r_add); exact rfl; exact rfl; omega)))
      | ((with_reducible (show Exit.then _ _ _ _ _)); refine n_roundG (k + 1) (hJ _ _ _ _ ⟨_, _, rfl, by omega, by omega, (by rw [atL_succ]; exact hown2), (by repeat (first | assumption | exact Ex.refl _ | (refine Ex.trans ?_ (by assumption)) | (refine Ex.of_grown ?_ (by assumption) (by intro k hk; cases hk; omega))))⟩ ⟨rfl, rfl, rfl, rfl, rfl, trivial⟩ rfl) (by omega))
      | (with_reducible apply W_nil)
      | ((with_reducible apply W_bs1); ((conv => lhs; whnf) <;> exact rfl); (first | exact rfl | assumption | exact IntsK.one (by assumption) | exact Prs.one (by assumption) | exact OwnP.one (by assumption) | exact Own.one (by assumption) | exact Row.one (by assumption) | exact OwnR.one (by assumption)); decide; decide; exact rfl; exact rfl; ((simp only [lay, lset, List.replicate_succ, List.replicate_zero]) <;> exact rfl); intro bq wq hbq he hnq; have hltq := Bx.lt hbq; have hsz := he.size)
      | (with_reducible apply c_seq)
      | ((with_reducible apply c_region); kernel_rfl)
      | (with_reducible apply n_nq)
      | (with_reducible apply c_block)
      | (with_reducible apply c_skip)
      | (with_reducible apply c_ret)
      | (with_reducible apply c_exit)
      | (with_reducible apply n_then)
      | (with_reducible apply n_block)
      | (with_reducible apply e_then)
      | (with_reducible apply e_block)
      | ((with_reducible apply p_ret1); exact rfl; exact rfl; ((conv => lhs; whnf) <;> exact rfl); refine ⟨_, rfl, ?_, (by repeat (first | assumption | exact Ex.refl _ | (refine Ex.trans ?_ (by assumption)) | (refine Ex.of_grown ?_ (by assumption) (by intro k hk; cases hk; omega))))⟩))
  all_goals first
    | (rw [show k = us.length by omega] at hown; exact hown)
    | trace_state
end Go.Proofs.Ytlphfobpheefkaa
namespace Go.Pv
open Go.RowKit Go.Sort
/-- A capacity of n ticks that has the least in some of them. -/
def slowL (M : Nat → Int) (n fr len : Nat) : List Int := List.replicate fr 1000000 ++ growL M len ++ List.replicate (n - (fr + len)) 1000000
theorem slowL_len {M : Nat → Int} {n fr len : Nat} (h : fr + len ≤ n) : (slowL M n fr len).length = n := by
  simp [slowL, growL_len]; omega
theorem slow_copy {M : Nat → Int} {n fr len o : Nat} (h : fr + len ≤ n) (ho : o = if n = fr then 0 else fr) :
    ((List.replicate n (1000000 : Int)).map (Value.int .i64)).take o ++ (growL M len).map (Value.int .i64) ++ ((List.replicate n (1000000 : Int)).map (Value.int .i64)).drop (o + (growL M len).length) = (slowL M n fr len).map (Value.int .i64) := by
  rw [growL_len, ← List.map_take, ← List.map_drop, ← List.map_append, ← List.map_append]
  congr 1
  unfold slowL
  by_cases e : n = fr
  · rw [if_pos e] at ho
    have e0 : len = 0 := by omega
    subst ho e0 e
    simp [growL]
  · rw [if_neg e] at ho
    subst ho
    rw [List.take_replicate, List.drop_replicate, Nat.min_eq_left (by omega)]
section
variable {P : Program} {l : St} {w : World} {od : Option Nat} {ty : TypeId} {pos : String} {af : Array Edge}
theorem r_dropE {x lo : Operand} {T e : TypeId} {i n g : Nat} {k : IntKind} {z : Value} {b : Nat} [h : Und P T (.slice e)] [hs : Sz P e z 1 b] (hx : ev l x = .slice (some ⟨g, 0, none⟩) n n) (hi : ev l lo = .int k (i : Int)) (hle : i ≤ n) :
    Runs P ⟨od, .slice T x (some lo) none none, ty, pos, af, none⟩ l w (.slice (some ⟨g, if n = i then 0 else i, none⟩) (n - i) (n - i)) := by
  by_cases h2 : n = i
  · subst h2
    simp [Runs, execOp, hx, hi, Instr.sliceAt, Instr.slice, Instr.sliceBounds, Instr.sliceBound, asIntOf, h.run, hs.run, Addr.add]
  · rw [if_neg h2]
    exact r_dropB1 hx hi hle (by omega)
end
end Go.Pv
namespace Go.Proofs.Ytlphfobpheefkaa
open Go.Pv Go.RowKit Go.Sort
set_option maxHeartbeats 8000000
set_option maxRecDepth 20000
theorem slow_any (lv : Value) (cz : Int) (l : List (Int × Int)) (n fr len : Nat) (w : World) (h : Prs w lv l) (hb : bErr l = 0) (hn : n ≤ 900) (hf : fr + len ≤ n) :
    Ret Try.prog 85 [.agg #[lv, .int .i64 cz], .int .i64 (n : Int), .int .i64 (fr : Int), .int .i64 (len : Int)] w fun r w' => ∃ g, r = .slice (some ⟨g, 0, none⟩) n n ∧ Bx w' g ((slowL (leN l) n fr len).map (Value.int .i64)) 3 ∧ w.heap.size ≤ g := by
  have hv1 := h.one
  have hbd := (bErr_inv hb).2
  have hgl := growL_len (leN l) len
  obtain ⟨o, ho⟩ : ∃ o, o = if n = fr then 0 else fr := ⟨_, rfl⟩
  have hon : o + len ≤ n := by rw [ho]; split <;> omega
  have hle := fun w2 (e : Ex w w2) => least_any lv l len w2 (Prs.ex e h) hb (by omega)
  have tkA : True := trivial
  refine ret_of_c Try.func85 rfl Try.ntmps85 (Nat.le_of_ble_eq_true rfl) (by dsimp only [ini, Nat.reduceAdd] <;> exact rfl) ?_
  repeat' (first
      | (have _ := tkB; refine c_mixX (id := 2) [] [0, 1, 2, 3, 4, 5] 3 #[true, true, true, true, true, true, false, false, false] [false, false, false, false, false, false, false, false, false] [true, true, true, true, true, true, false, false, false] (by kernel_rfl) (by kernel_rfl) (by kernel_rfl) (by dsimp only [sel] <;> exact rfl) (by dsimp only [sel] <;> exact rfl) ?_)
      | (have _ := tkB; (with_reducible apply WM_op); exact rfl; exact rfl; (intro wq he; exact r_dropE (i := fr) rfl rfl (by omega)))
      | (have _ := tkB; refine W_call (hle _ (show Ex w _ from (by repeat (first | exact Ex.refl _ | assumption | (refine Ex.of_grown ?_ (by assumption) (by intro k hk; cases hk; omega)) | (refine Ex.trans ?_ (by assumption)))))) rfl ?_; rintro lvv wl hown hel; have hsz := hel.size; have hlv1 := OwnR.one hown; have tkC : True := trivial)
      | (have _ := tkC; refine W_call (growth_any lvv (bestL (packF l) highC len) (leN l) len _ (OwnR.row p3_len (OwnR.ex (show Ex wl _ from (by repeat (first | exact Ex.refl _ | assumption | (refine Ex.of_grown ?_ (by assumption) (by intro k hk; cases hk; omega)) | (refine Ex.trans ?_ (by assumption))))) hown)) (bestL_len _ _ _) (by omega) (fun j hj => by rw [bestL_get _ _ _ _ (by omega)]; rfl) (fun j hj => by have := le_bd hbd j; omega)) rfl ?_; rintro gv wz howg hez; have hsz := hez.size; have hgv1 := howg.one; have tkD : True := trivial)
      | (have _ := tkD; refine W_copyB (b := g) (o := o) (dl := n - fr) (xs := growL (leN l) len) (c' := (slowL (leN l) n fr len).map (Value.int .i64)) (by rw [ho]; exact rfl) rfl (Pv.Own.ints (Pv.Own.ex (show Ex wz _ from (by repeat (first | exact Ex.refl _ | assumption | (refine Ex.of_grown ?_ (by assumption) (by intro k hk; cases hk; omega)) | (refine Ex.trans ?_ (by assumption))))) howg)) (by omega) (Bx.ex (by assumption) (Bx.ex (show Ex _ wz from (by repeat (first | exact Ex.refl _ | assumption | (refine Ex.of_grown ?_ (by assumption) (by intro k hk; cases hk; omega)) | (refine Ex.trans ?_ (by assumption))))) hgx)) (by rw [List.length_map, List.length_replicate, hgl]; exact hon) (slow_copy hf ho) ?_; intro wy hgy hgq; have hsz := hgq.size)
      | ((first | ((with_reducible apply W_op); exact rfl; exact rfl) | ((with_reducible apply WQ_op); exact rfl; exact rfl; intro wq he) | ((with_reducible apply WM_op); exact rfl; exact rfl; intro wq he) | ((with_reducible apply WB_op); exact rfl; exact rfl; intro wq)); (first | ((with_reducible apply r_move); ((conv => lhs; whnf) <;> exact rfl)) | ((with_reducible apply r_assign); ((conv => lhs; whnf) <;> exact rfl)) | ((with_reducible apply r_fieldAddr); exact rfl) | ((with_reducible apply r_loadSub); exact rfl; (focus ((repeat (first | assumption | ((with_reducible apply Bx.grownS); assumption; (first | omega | exact Bx.ne (by assumption) (by omega))) | ((with_reducible apply Bx.below); assumption; omega) | ((with_reducible apply Bx.ex); assumption))); done)); ((simp only [Nat.add_zero, Nat.zero_add, Nat.reduceAdd, List.drop_zero, List.drop_succ_cons, List.take_succ_cons, List.take_zero]) <;> exact rfl); exact rfl)))
      | (refine W_call (repeat_any _ 1000000 n _ (IntsK.built (xs := [1000000]) (show Bx _ _ [Value.int .i64 1000000] _ from by assumption) rfl (by simp)) hn) rfl ?_; rintro vq wq ⟨g, rfl, hgx, hgg⟩ he; have hsz := he.size; have hlg := Bx.lt hgx; have tkB : True := trivial)
      | (refine XT_one (t := 6) (s := false) (listed := #[true, true, true, true, true, true, false, false, false]) (listed' := #[true, true, true, true, true, true, true, false, false]) (by kernel_rfl) rfl (by kernel_rfl) (by kernel_rfl) ?_)
      | (refine XT_one (t := 7) (s := false) (listed := #[true, true, true, true, true, true, true, false, false]) (listed' := #[true, true, true, true, true, true, true, true, false]) (by kernel_rfl) rfl (by kernel_rfl) (by kernel_rfl) ?_)
      | (refine XT_one (t := 8) (s := true) (listed := #[true, true, true, true, true, true, true, true, false]) (listed' := #[true, true, true, true, true, true, true, true, true]) (by kernel_rfl) rfl (by kernel_rfl) (by kernel_rfl) ?_)
      | (with_reducible apply XB_nil)
      | ((with_reducible apply XM_nil); intro wq he; have hsz := he.size)
      | ((with_reducible apply XT_nil); kernel_rfl)
      | (with_reducible apply x_sink)
      | ((with_reducible apply x_keep); (focus ((repeat (first | assumption | exact Ex.refl _ | (refine Ex.trans ?_ (by assumption)) | (refine Ex.of_grown ?_ (by assumption) (by intro k hk; cases hk; omega)))); done)); intro wq he; have hsz := he.size)
      | (with_reducible apply W_nil)
      | ((with_reducible apply W_box); exact rfl; exact rfl; intro bq wq hbq he hnq; have hltq := Bx.lt hbq; have hsz := he.size)
      | ((with_reducible apply W_bs1); ((conv => lhs; whnf) <;> exact rfl); (first | exact rfl | assumption | exact IntsK.one (by assumption) | exact Prs.one (by assumption) | exact OwnP.one (by assumption) | exact Own.one (by assumption) | exact Row.one (by assumption) | exact OwnR.one (by assumption)); decide; decide; exact rfl; exact rfl; ((simp only [lay, lset, List.replicate_succ, List.replicate_zero]) <;> exact rfl); intro bq wq hbq he hnq; have hltq := Bx.lt hbq; have hsz := he.size)
      | (with_reducible apply c_seq)
      | ((with_reducible apply c_region); kernel_rfl)
      | (with_reducible apply n_nq)
      | (with_reducible apply c_ret)
      | (with_reducible apply n_then)
      | ((with_reducible apply p_ret1); exact rfl; exact rfl; ((conv => lhs; whnf) <;> exact rfl); refine ⟨_, rfl, ?_, (by repeat (first | assumption | exact Ex.refl _ | (refine Ex.trans ?_ (by assumption)) | (refine Ex.of_grown ?_ (by assumption) (by intro k hk; cases hk; omega))))⟩))
  all_goals first
    | exact ⟨_, rfl, hgy, by omega⟩
    | trace_state
end Go.Proofs.Ytlphfobpheefkaa
namespace Go.Pv
open Go.RowKit
theorem r_nilChk {P : Program} {l : St} {w : World} {od : Option Nat} {ty : TypeId} {pos : String} {af : Array Edge} {x : Operand} {a : Addr} (hx : ev l x = .pointer (some a)) : Runs P ⟨od, .nilCheck x, ty, pos, af, none⟩ l w (.pointer (some a)) := by
  simp [Runs, execOp, hx]
end Go.Pv
namespace Go.Proofs.Ytlphfobpheefkaa
open Go.Pv Go.RowKit Go.Sort
set_option maxHeartbeats 8000000
set_option maxRecDepth 20000
theorem pass_any (g o : Nat) (L : List Value) (TT : TypeId) (wt c k : Int) (w : World) (hg : Bx w g L TT) (ho : o + 1 < L.length) (hw : L[o + 1]? = some (.int .i64 wt)) (hwb : 0 ≤ wt ∧ wt ≤ 10000000000) (hcb : 0 ≤ c ∧ c ≤ 10000000000) (hkb : 0 ≤ k ∧ k ≤ 10000000000) :
    Calls Try.prog 80 [.pointer (some ⟨g, o, none⟩), .int .i64 c, .int .i64 k].toArray w fun e w' => ∃ v, e = .returned v ∧ (v = .int .i64 (min (wt + c) k) ∧ Bx w' g (L.set (o + 1) (.int .i64 (wt + c - min (wt + c) k))) TT ∧ w.grownBy w' (some g)) := by
  have hlg := Bx.lt hg
  have tkA : True := trivial
  refine calls_of_c Try.func80 rfl Try.ntmps80 (Nat.le_of_ble_eq_true rfl) (by dsimp only [ini, Nat.reduceAdd] <;> exact rfl) ?_
  -- calls_of_c Try.func80
  repeat' (first
      | ((with_reducible apply W_op); exact rfl; exact rfl; exact r_nilChk rfl)
      | (have _ := tkA; (with_reducible apply W_op); exact rfl; exact rfl; exact r_load rfl rfl ((Bx.cell (Bx.ex (show Ex w _ from by first | exact Ex.refl _ | repeat (first | assumption | exact Ex.refl _ | (refine Ex.trans ?_ (by assumption)) | (refine Ex.of_grown ?_ (by assumption) (by intro k hk; cases hk; omega)))) hg) _).trans hw))
      | (have _ := tkB; (with_reducible apply W_op); exact rfl; exact rfl; exact r_load rfl rfl ((Bx.cell (Bx.ex (show Ex wb _ from by first | exact Ex.refl _ | repeat (first | assumption | exact Ex.refl _ | (refine Ex.trans ?_ (by assumption)) | (refine Ex.of_grown ?_ (by assumption) (by intro k hk; cases hk; omega)))) hgb) _).trans hwv))
      | (clear tkA; refine W_store (b := g) (o := o + 1) (v := .int .i64 (wt + c)) rfl (Bx.ex (show Ex w _ from by first | exact Ex.refl _ | repeat (first | assumption | exact Ex.refl _ | (refine Ex.trans ?_ (by assumption)) | (refine Ex.of_grown ?_ (by assumption) (by intro k hk; cases hk; omega)))) hg) ho rfl rfl ?_; intro wb hgb hgq; rw [← lset_eq] at hgb; (have hwv : (L.set (o + 1) (.int .i64 (wt + c)))[o + 1]? = some (.int .i64 (wt + c)) := by simp [ho]); (have hgw : w.grownBy wb (some g) := hgq); have tkB : True := trivial)
      | (clear tkB; refine W_store (b := g) (o := o + 1) (v := .int .i64 (wt + c - min (wt + c) k)) rfl (Bx.ex (show Ex wb _ from by first | exact Ex.refl _ | repeat (first | assumption | exact Ex.refl _ | (refine Ex.trans ?_ (by assumption)) | (refine Ex.of_grown ?_ (by assumption) (by intro k hk; cases hk; omega)))) hgb) (by rw [List.length_set]; exact ho) rfl rfl ?_; intro wz hgz hgq; rw [← lset_eq, List.set_set] at hgz; have tkC : True := trivial)
      | (clear tkC; (with_reducible apply p_ret1); exact rfl; exact rfl; ((conv => lhs; whnf) <;> exact rfl); refine ⟨_, rfl, ?_⟩)
      | ((first | ((with_reducible apply W_op); exact rfl; exact rfl)); (first | ((with_reducible apply r_move); ((conv => lhs; whnf) <;> exact rfl)) | ((with_reducible apply r_assign); ((conv => lhs; whnf) <;> exact rfl)) | ((with_reducible apply r_fieldAddr); exact rfl) | ((with_reducible apply r_add); exact rfl; exact rfl; omega) | ((with_reducible apply r_sub); exact rfl; exact rfl; omega) | ((with_reducible apply r_min2); exact rfl; exact rfl)))
      | (with_reducible apply W_nil)
      | (with_reducible apply c_seq)
      | ((with_reducible apply c_region); kernel_rfl)
      | (with_reducible apply n_nq)
      | (with_reducible apply c_ret)
      | (with_reducible apply n_then))
  all_goals first
    | exact ⟨rfl, hgz, hgw.trans' hgq⟩
    | trace_state
end Go.Proofs.Ytlphfobpheefkaa
namespace Go.Proofs.Ytlphfobpheefkaa
open Go.Pv Go.RowKit Go.Sort
set_option maxHeartbeats 8000000
set_option maxRecDepth 20000
theorem ticks_any (dv cv : Value) (us vs : List Value) (w : World) (h : Vals w dv us) (h2 : Vals w cv vs) : Ret Try.prog 78 [.agg #[dv, cv]] w fun r w' =>
    ∃ b1, r = .func (.func 95) #[] #[.pointer (some ⟨b1, 0, none⟩)] ∧ Bx w' b1 [dv, cv] 59 ∧ w.heap.size ≤ b1 := by
  have hv1 := h.one
  have hv2 := h2.one
  refine ret_of_c Try.func78 rfl Try.ntmps78 (Nat.le_of_ble_eq_true rfl) (by dsimp only [ini, Nat.reduceAdd] <;> exact rfl) ?_
  repeat' (first
      | ((with_reducible apply W_op); exact rfl; exact rfl; exact r_makeFunc rfl rfl)
      | ((first | ((with_reducible apply W_op); exact rfl; exact rfl)); (first | ((with_reducible apply r_assign); ((conv => lhs; whnf) <;> exact rfl))))
      | (with_reducible apply W_nil)
      | ((with_reducible apply W_box); exact rfl; exact rfl; intro bq wq hbq he hnq; have hltq := Bx.lt hbq; have hsz := he.size)
      | (with_reducible apply c_seq)
      | ((with_reducible apply c_region); kernel_rfl)
      | (with_reducible apply n_nq)
      | (with_reducible apply c_ret)
      | (with_reducible apply n_then)
      | ((with_reducible apply p_ret1); exact rfl; exact rfl; ((conv => lhs; whnf) <;> exact rfl); refine ⟨_, rfl, ?_, (by repeat (first | assumption | exact Ex.refl _ | (refine Ex.trans ?_ (by assumption)) | (refine Ex.of_grown ?_ (by assumption) (by intro k hk; cases hk; omega))))⟩))
  all_goals first
    | exact ⟨_, rfl, (by repeat (first | assumption | ((with_reducible apply Bx.grownS); assumption; (first | omega | exact Bx.ne (by assumption) (by omega))) | ((with_reducible apply Bx.below); assumption; omega) | ((with_reducible apply Bx.ex); assumption))), by omega⟩
    | trace_state
end Go.Proofs.Ytlphfobpheefkaa
namespace Go.Pv
open Go.RowKit Go.Sort
section
variable {P : Program} {w : World} {ol rest : List Oper} {l : St} {Q : Act → Prop} {pos : String} {af : Array Edge} {ty : TypeId}
theorem WQ_indexVals {d : Nat} {x ix : Operand} {T e : TypeId} {v : Value} {i : Nat} {k : IntKind} {z : Value} {b : Nat} {xs : List Value} [h : Und P T (.slice e)] [hs : Sz P e z 1 b] (hx : ev l x = v) (hv : Vals w v xs) (hi : ev l ix = .int k (i : Int)) (hlt : i < xs.length)
    (K : ∀ p, w.cell? p = some (xs.getD i undef) → WQ P (Ex w) ol Q rest (upd l d (.pointer (some p)))) : WQ P (Ex w) ol Q (⟨some d, .indexAddr T x ix, ty, pos, af, none⟩ :: rest) l := by
  unfold Vals at hv
  refine WQ_indexR (e := e) hx hv hi hlt fun p u h1 h2 => K p ?_
  subst h2
  rw [h1]
  simp [hlt]
end
/-- The lists of a course: numbers of amounts. -/
def CLs (w : World) (ds : List Value) (Dm : Nat → List Int) : Prop := ∀ j, j < ds.length → Ints w (ds.getD j undef) (Dm j) ∧ (Dm j).length ≤ 1000 ∧ ∀ q, q < (Dm j).length → -10000000000 ≤ (Dm j).getD q 0 ∧ (Dm j).getD q 0 ≤ 10000000000
def PosP (pss rss : List (List (Int × Int))) (Dm Cp : Nat → List Int) : Prop := (∀ j, j < pss.length → KeepsP (pss.getD j []) (Dm j)) ∧ ∀ j, j < rss.length → HasP (rss.getD j []) (Cp j)
open Classical in
noncomputable def posL (pss rss : List (List (Int × Int))) (Dm Cp : Nat → List Int) : Bool := decide (PosP pss rss Dm Cp)
theorem pos_yes {pss rss : List (List (Int × Int))} {Dm Cp : Nat → List Int} (h : PosP pss rss Dm Cp) : posL pss rss Dm Cp = true := by simp [posL, h]
theorem pos_no {pss rss : List (List (Int × Int))} {Dm Cp : Nat → List Int} (h : ¬ PosP pss rss Dm Cp) : posL pss rss Dm Cp = false := by simp [posL, h]
end Go.Pv
namespace Go.Proofs.Ytlphfobpheefkaa
open Go.Pv Go.RowKit Go.Sort
set_option maxHeartbeats 8000000
set_option maxRecDepth 20000
theorem possible_any (pv rv dv cv : Value) (us vs ds cs : List Value) (pss rss : List (List (Int × Int))) (Dm Cp : Nat → List Int) (w : World) (h : Vals w pv us) (hx : BLs w us pss) (h2 : Vals w rv vs) (hx2 : BLs w vs rss) (hd : Vals w dv ds) (hD : CLs w ds Dm) (hc : Vals w cv cs) (hC : CLs w cs Cp)
    (hdl : ds.length = us.length) (hcl : cs.length = vs.length) (hul5 : us.length ≤ 500) (hvl : vs.length ≤ 500) (hp : ∀ j, j < us.length → bErr (pss.getD j []) = 0) (hr : ∀ j, j < vs.length → bErr (rss.getD j []) = 0) :
    Ret Try.prog 76 [.agg #[pv, rv], .agg #[dv, cv]] w fun r _ => r = .bool (posL pss rss Dm Cp) := by
  have hv1 := h.one
  have hv2 := h2.one
  have hv3 := hd.one
  have hv4 := hc.one
  have hul := hx.1
  have hrl := hx2.1
  have hrL : (regL vs).length = vs.length := by simp [regL]
  have tkA : True := trivial
  have tkP : True := trivial
  have tkQ : True := trivial
  have tkR : True := trivial
  refine ret_of_c Try.func76 rfl Try.ntmps76 (Nat.le_of_ble_eq_true rfl) (by dsimp only [ini, Nat.reduceAdd] <;> exact rfl) ?_
  repeat' (first
      | (clear tkB; (by_cases hkl : k < us.length; (have hpk := hx.2 k hkl; have hpk1 := hpk.one; have hdk := hD k (by omega); have hdk1 := hdk.1.one; (have hbd := (bErr_inv (hp k hkl)).2); (have hl5 := bErr_inv (hp k hkl)); (obtain ⟨K, hK⟩ : ∃ K, keepsL (pss.getD k []) (Dm k) = K := ⟨_, rfl⟩); (have hkp : ∀ wq, Ex w wq → Ret Try.prog 93 [.agg #[us.getD k undef], ds.getD k undef] wq (fun r _ => r = .bool K) := (fun wq hwq => hK ▸ keeps_any _ _ _ _ wq (Prs.ex hwq hpk) (IntsK.ex hwq hdk.1) hbd (by omega) hdk.2.1 hdk.2.2)); cases K)); all_goals (have tkC : True := trivial))
      | (clear tkP; (with_reducible apply W_box); exact rfl; exact rfl; intro b2 wq hb2 he hn2; have hlt2 := Bx.lt hb2; have hsz := he.size; have tkP2 : True := trivial)
      | (clear tkP2; (with_reducible apply W_box); exact rfl; exact rfl; intro b3 wq hb3 he hn3; have hlt3 := Bx.lt hb3; have hsz := he.size)
      | ((with_reducible apply W_op); exact rfl; exact rfl; exact r_lenVals rfl (Vals.ex (show Ex w _ from (by repeat (first | exact Ex.refl _ | assumption | (refine Ex.of_grown ?_ (by assumption) (by intro k hk; cases hk; omega)) | (refine Ex.trans ?_ (by assumption))))) h))
      | (have _ := tkC; (with_reducible apply c_cond_dec); exact rfl; intro _; rotate_left 1; intro _; (all_goals (try (exfalso; (focus (omega; done))))))
      | (have _ := tkC; refine W_indexVals (i := k) (v := pv) (xs := us) rfl (Vals.ex (show Ex w _ from (by repeat (first | exact Ex.refl _ | assumption | (refine Ex.of_grown ?_ (by assumption) (by intro k hk; cases hk; omega)) | (refine Ex.trans ?_ (by assumption))))) h) rfl (by omega) ?_; intro pq hpq)
      | (have _ := tkC; refine W_indexVals (i := k) (v := dv) (xs := ds) rfl (Vals.ex (show Ex w _ from (by repeat (first | exact Ex.refl _ | assumption | (refine Ex.of_grown ?_ (by assumption) (by intro k hk; cases hk; omega)) | (refine Ex.trans ?_ (by assumption))))) hd) rfl (by omega) ?_; intro pq hpq)
      | (have _ := tkC; refine W_callv (hkp _ (by repeat (first | assumption | exact Ex.refl _ | (refine Ex.trans ?_ (by assumption)) | (refine Ex.of_grown ?_ (by assumption) (by intro k hk; cases hk; omega))))) rfl (fun wq he => ?_); have hsz := he.size)
      | (clear tkQ; refine W_call (regulatorsOf_any pv rv vs _ (Vals.ex (show Ex w _ from (by repeat (first | exact Ex.refl _ | assumption | (refine Ex.of_grown ?_ (by assumption) (by intro k hk; cases hk; omega)) | (refine Ex.trans ?_ (by assumption))))) h2) hv1 hx2.one (by omega)) rfl ?_; rintro regs wB hregs heB; have hsz := heB.size; have hrg1 := OwnR.one hregs; (have hb3 := Bx.ex heB hb3); (have hewB : Ex w wB := (show Ex w _ from (by repeat (first | exact Ex.refl _ | assumption | (refine Ex.of_grown ?_ (by assumption) (by intro k hk; cases hk; omega)) | (refine Ex.trans ?_ (by assumption)))))); clear tkC; have tkS : True := trivial)
      | (have _ := tkS; (with_reducible apply W_op); exact rfl; exact rfl; exact r_lenR rfl (OwnR.row p2v_len (OwnR.ex (show Ex wB _ from (by repeat (first | exact Ex.refl _ | assumption | (refine Ex.of_grown ?_ (by assumption) (by intro k hk; cases hk; omega)) | (refine Ex.trans ?_ (by assumption))))) hregs)))
      | (clear tkE; (have hsq := heq.size); (by_cases hml : m < vs.length; (have hrg := regL_get hml; have hpk := hx2.2 m hml; have hpk1 := hpk.one; have hck := hC m (by omega); have hck1 := hck.1.one; (have hbd := (bErr_inv (hr m hml)).2); (have hl5 := bErr_inv (hr m hml)); (obtain ⟨K, hK⟩ : ∃ K, hasL (rss.getD m []) (Cp m) = K := ⟨_, rfl⟩); (have hkp : ∀ wq, Ex w wq → Ret Try.prog 94 [.agg #[vs.getD m undef, .int .i64 0], cs.getD m undef] wq (fun r _ => r = .bool K) := (fun wq hwq => hK ▸ has_any _ _ _ _ _ wq (Prs.ex hwq hpk) (IntsK.ex hwq hck.1) hbd (by omega) hck.2.1 hck.2.2)); cases K)); all_goals (have tkF : True := trivial))
      | (have _ := tkF; (with_reducible apply c_cond_dec); exact rfl; intro _; rotate_left 1; intro _; (all_goals (try (exfalso; (focus (omega; done))))))
      | (have _ := tkF; refine W_indexRw (f := p2v) (n := 2) (v := regs) (xs := regL vs) (i := m) (undef, 0) p2v_len (by decide) rfl (OwnR.row p2v_len (OwnR.ex (show Ex wB _ from (by repeat (first | exact Ex.refl _ | assumption | (refine Ex.of_grown ?_ (by assumption) (by intro k hk; cases hk; omega)) | (refine Ex.trans ?_ (by assumption))))) hregs)) rfl (by simp [regL]; omega) ?_; intro pb po hpc; rw [hrg] at hpc; (have hpc : Cells _ ⟨pb, po, none⟩ [vs.getD m undef, .int .i64 0] := hpc))
      | (have _ := tkF; (with_reducible apply W_op); exact rfl; exact rfl; exact r_loadA rfl hpc rfl)
      | (have _ := tkF; refine WQ_indexVals (i := m) (v := cv) (xs := cs) rfl (Vals.ex (show Ex w _ from (by repeat (first | exact Ex.refl _ | assumption | (refine Ex.of_grown ?_ (by assumption) (by intro k hk; cases hk; omega)) | (refine Ex.trans ?_ (by assumption))))) hc) rfl (by omega) ?_; intro pq hpq)
      | (have _ := tkF; refine WQ_callv (fun wq he => hkp wq (Ex.trans (show Ex w _ from (by repeat (first | exact Ex.refl _ | assumption | (refine Ex.of_grown ?_ (by assumption) (by intro k hk; cases hk; omega)) | (refine Ex.trans ?_ (by assumption))))) he)) rfl ?_)
      | (have _ := tkS; clear tkR; refine c_loopG (fun (m : Nat) ps wr => ∃ i : Int, ps = [(3, .pointer (some ⟨b3, 0, none⟩)), (28, regs), (29, .int .i64 ((regL vs).length : Int)), (30, .int .i64 i)] ∧ i = m ∧ m ≤ vs.length ∧ (∀ j, j < m → HasP (rss.getD j []) (Cp j)) ∧ Bx wr b3 [dv, cv] 59 ∧ Ex wB wr ∧ Ex w wr) (fun m => vs.length - m) 0 _ ⟨_, rfl, rfl, Nat.zero_le _, (fun j hj => absurd hj (Nat.not_lt_zero _)), hb3, Ex.refl _, hewB⟩ ⟨rfl, rfl, rfl, rfl, trivial⟩ (by ((conv => lhs; whnf) <;> exact rfl)) (by ((conv => lhs; whnf) <;> exact rfl)) ?_; rintro K2 hK2 m u ps wr ⟨i, rfl, rfl, hm, hmt, hb3, heq, he⟩; have hsz := he.size; have tkE : True := trivial)
      | ((with_reducible (show C _ _ _ _ _ _)); clear tkA; refine c_loopG (fun (k : Nat) ps wr => ∃ i : Int, ps = [(2, .pointer (some ⟨b2, 0, none⟩)), (3, .pointer (some ⟨b3, 0, none⟩)), (10, pv), (11, .int .i64 (us.length : Int)), (12, .int .i64 i)] ∧ i = k ∧ k ≤ us.length ∧ (∀ j, j < k → KeepsP (pss.getD j []) (Dm j)) ∧ Bx wr b2 [pv, rv] 55 ∧ Bx wr b3 [dv, cv] 59 ∧ Ex w wr) (fun k => us.length - k) 0 _ ⟨_, rfl, rfl, Nat.zero_le _, (fun j hj => absurd hj (Nat.not_lt_zero _)), (by repeat (first | assumption | ((with_reducible apply Bx.grownS); assumption; (first | omega | exact Bx.ne (by assumption) (by omega))) | ((with_reducible apply Bx.below); assumption; omega) | ((with_reducible apply Bx.ex); assumption))), (by repeat (first | assumption | ((with_reducible apply Bx.grownS); assumption; (first | omega | exact Bx.ne (by assumption) (by omega))) | ((with_reducible apply Bx.below); assumption; omega) | ((with_reducible apply Bx.ex); assumption))), (by repeat (first | assumption | exact Ex.refl _ | (refine Ex.trans ?_ (by assumption)) | (refine Ex.of_grown ?_ (by assumption) (by intro k hk; cases hk; omega))))⟩ ⟨rfl, rfl, rfl, rfl, rfl, trivial⟩ (by ((conv => lhs; whnf) <;> exact rfl)) (by ((conv => lhs; whnf) <;> exact rfl)) ?_; rintro J hJ k u ps wr ⟨i, rfl, rfl, hk, hkt, hb2, hb3, he⟩; have hsz := he.size; have tkB : True := trivial)
      | ((first | ((with_reducible apply W_op); exact rfl; exact rfl) | ((with_reducible apply WQ_op); exact rfl; exact rfl; intro wq he) | ((with_reducible apply WM_op); exact rfl; exact rfl; intro wq he) | ((with_reducible apply WB_op); exact rfl; exact rfl; intro wq)); (first | ((with_reducible apply r_move); ((conv => lhs; whnf) <;> exact rfl)) | ((with_reducible apply r_assign); ((conv => lhs; whnf) <;> exact rfl)) | ((with_reducible apply r_fieldAddr); exact rfl) | ((with_reducible apply r_load); exact rfl; exact rfl; (first | assumption | exact (Bx.cell (by repeat (first | assumption | ((with_reducible apply Bx.grownS); assumption; (first | omega | exact Bx.ne (by assumption) (by omega))) | ((with_reducible apply Bx.below); assumption; omega) | ((with_reducible apply Bx.ex); assumption))) _).trans rfl | exact Ex.cell (by assumption) (by assumption))) | ((with_reducible apply r_loadA); exact rfl; (first | assumption | exact Bx.cells (by repeat (first | assumption | ((with_reducible apply Bx.grownS); assumption; (first | omega | exact Bx.ne (by assumption) (by omega))) | ((with_reducible apply Bx.below); assumption; omega) | ((with_reducible apply Bx.ex); assumption))) | exact Cells.ex (by assumption) (by assumption)); exact rfl) | ((with_reducible apply r_lss); exact rfl; exact rfl) | ((with_reducible apply r_add); exact rfl; exact rfl; omega) | ((with_reducible apply r_notb); exact rfl) | ((with_reducible apply r_build1); ((conv => lhs; whnf) <;> exact rfl); (first | exact rfl | assumption | exact IntsK.one (by assumption) | exact Prs.one (by assumption) | exact OwnP.one (by assumption) | exact Own.one (by assumption) | exact Row.one (by assumption) | exact OwnR.one (by assumption)); exact rfl; exact rfl; ((simp only [lay, lset, List.replicate_succ, List.replicate_zero]) <;> exact rfl))))
      | ((with_reducible (show Exit.then _ _ _ _ _)); refine n_roundG (m + 1) (hK2 _ _ _ _ ⟨_, rfl, by omega, by omega, (fun j hj => by rcases Nat.lt_succ_iff_lt_or_eq.1 hj with h1 | rfl; (exact hmt j h1); (exact (has_iff _ _).1 hK)), (by repeat (first | assumption | ((with_reducible apply Bx.grownS); assumption; (first | omega | exact Bx.ne (by assumption) (by omega))) | ((with_reducible apply Bx.below); assumption; omega) | ((with_reducible apply Bx.ex); assumption))), (by first | assumption | exact Ex.of_grown (Ex.trans heq (by assumption)) hgq (by intro k hk; cases hk; omega) | exact Ex.trans (Ex.of_grown (Ex.trans heq (by assumption)) hgq (by intro k hk; cases hk; omega)) (by assumption) | exact Ex.trans heq (by assumption) | (trace_state; fail)), (by repeat (first | assumption | exact Ex.refl _ | (refine Ex.trans ?_ (by assumption)) | (refine Ex.of_grown ?_ (by assumption) (by intro k hk; cases hk; omega))))⟩ ⟨rfl, rfl, rfl, rfl, trivial⟩ rfl) (by omega))
      | ((with_reducible (show Exit.then _ _ _ _ _)); refine n_roundG (k + 1) (hJ _ _ _ _ ⟨_, rfl, by omega, by omega, (fun j hj => by rcases Nat.lt_succ_iff_lt_or_eq.1 hj with h1 | rfl; (exact hkt j h1); (exact (keeps_iff _ _).1 hK)), (by repeat (first | assumption | ((with_reducible apply Bx.grownS); assumption; (first | omega | exact Bx.ne (by assumption) (by omega))) | ((with_reducible apply Bx.below); assumption; omega) | ((with_reducible apply Bx.ex); assumption))), (by repeat (first | assumption | ((with_reducible apply Bx.grownS); assumption; (first | omega | exact Bx.ne (by assumption) (by omega))) | ((with_reducible apply Bx.below); assumption; omega) | ((with_reducible apply Bx.ex); assumption))), (by repeat (first | assumption | exact Ex.refl _ | (refine Ex.trans ?_ (by assumption)) | (refine Ex.of_grown ?_ (by assumption) (by intro k hk; cases hk; omega))))⟩ ⟨rfl, rfl, rfl, rfl, rfl, trivial⟩ rfl) (by omega))
      | (with_reducible apply W_nil)
      | ((with_reducible apply WQ_nil); exact rfl; intro wq he; have hsz := he.size)
      | ((with_reducible apply W_alloc); exact rfl; intro bq wq hbq he hnq; have hltq := Bx.lt hbq; have hsz := he.size)
      | ((with_reducible apply W_storeA); exact rfl; (focus ((repeat (first | assumption | ((with_reducible apply Bx.grownS); assumption; (first | omega | exact Bx.ne (by assumption) (by omega))) | ((with_reducible apply Bx.below); assumption; omega) | ((with_reducible apply Bx.ex); assumption))); done)); exact rfl; exact rfl; exact rfl; (repeat' (first | exact trivial | (first | exact rfl | assumption | exact IntsK.one (by assumption) | exact Prs.one (by assumption) | exact OwnP.one (by assumption) | exact Own.one (by assumption) | exact Row.one (by assumption) | exact OwnR.one (by assumption)) | constructor)); intro wq hbq hgq; have he : Ex w wq := (by repeat (first | assumption | exact Ex.refl _ | (refine Ex.trans ?_ (by assumption)) | (refine Ex.of_grown ?_ (by assumption) (by intro k hk; cases hk; omega)))); have hsz := he.size; have hgz := hgq.size)
      | ((with_reducible apply c_quiet); kernel_rfl)
      | (with_reducible apply c_seq)
      | ((with_reducible apply c_region); kernel_rfl)
      | (with_reducible apply n_nq)
      | (with_reducible apply c_block)
      | (with_reducible apply c_skip)
      | (with_reducible apply c_ret)
      | (with_reducible apply c_exit)
      | ((with_reducible apply c_cond_true); exact rfl)
      | ((with_reducible apply c_cond_false); exact rfl)
      | (with_reducible apply n_then)
      | (with_reducible apply n_block)
      | (with_reducible apply e_then)
      | (with_reducible apply e_block)
      | (with_reducible apply r_then)
      | (with_reducible apply r_block)
      | ((with_reducible apply p_ret1); exact rfl; exact rfl; ((conv => lhs; whnf) <;> exact rfl); refine ⟨_, rfl, ?_, (by repeat (first | assumption | exact Ex.refl _ | (refine Ex.trans ?_ (by assumption)) | (refine Ex.of_grown ?_ (by assumption) (by intro k hk; cases hk; omega))))⟩))
  all_goals first
    | exact congrArg _ (pos_yes ⟨fun j hj => hkt j (by omega), fun j hj => hmt j (by omega)⟩).symm
    | exact congrArg _ (pos_no (fun a => by have := (has_iff _ _).2 (a.2 m (by omega)); rw [hK] at this; cases this)).symm
    | exact congrArg _ (pos_no (fun a => by have := (keeps_iff _ _).2 (a.1 k (by omega)); rw [hK] at this; cases this)).symm
    | trace_state
end Go.Proofs.Ytlphfobpheefkaa
