/-
  (heavy) (rows) What this text proves: by how much picks grow, and sums of numbers, are as the plain functions say. Conditions: the values read as lists. a part of a slice of numbers, and that keeps reports as the plain function says. Conditions: the values read as lists. that has reports as the plain function says. Conditions: the values read as lists.
-/
import Derived.Test.YtlphfobpheefkaaVAn
set_option linter.unusedVariables false
set_option linter.unusedSimpArgs false
namespace Go.Pv
open Go.RowKit Go.Sort
/-- By how much numbers grow from one to the next. -/
def growL (M : Nat → Int) (n : Nat) : List Int := (List.range n).map fun j => M (j + 1) - M j
theorem growL_len (M : Nat → Int) (n : Nat) : (growL M n).length = n := by simp [growL]
theorem growL_succ (M : Nat → Int) (n : Nat) : growL M (n + 1) = growL M n ++ [M (n + 1) - M n] := by simp [growL, List.range_succ]
theorem growL_get {M : Nat → Int} {n j : Nat} (h : j < n) : (growL M n).getD j 0 = M (j + 1) - M j := by simp [growL, h]
/-- The sum of the first numbers. -/
def sumTo (xs : List Int) : Nat → Int
  | 0 => 0
  | k + 1 => sumTo xs k + xs.getD k 0
theorem sumTo_bd {xs : List Int} {b : Int} (hb0 : 0 ≤ b) (h : ∀ j, j < xs.length → -b ≤ xs.getD j 0 ∧ xs.getD j 0 ≤ b) : ∀ k : Nat, k ≤ xs.length → -(b * k) ≤ sumTo xs k ∧ sumTo xs k ≤ b * k
  | 0, _ => by simp [sumTo]
  | k + 1, hk => by
    have ih := sumTo_bd hb0 h k (by omega)
    have h2 := h k (by omega)
    simp only [sumTo]
    have e : b * ((k + 1 : Nat) : Int) = b * k + b := by rw [Int.natCast_add, Int.mul_add]; simp
    rw [e]
    omega
end Go.Pv
namespace Go.Proofs.Ytlphfobpheefkaa
open Go.Pv Go.RowKit Go.Sort
set_option maxHeartbeats 8000000
set_option maxRecDepth 20000
theorem growth_any (v : Value) (L : List Pk) (M : Nat → Int) (n : Nat) (w : World) (h : Row p3 3 w v L) (hL : L.length = n + 1) (hn : n ≤ 900) (hM : ∀ j, j ≤ n → (L.getD j pk0).1 = M j) (hb : ∀ j, j ≤ n → 0 ≤ M j ∧ M j ≤ 1000000000) :
    Ret Try.prog 83 [v] w fun r w' => Pv.Own 3 w.heap.size w' r (growL M n) := by
  have hv1 := h.one
  have tkA : True := trivial
  refine ret_of_c Try.func83 rfl Try.ntmps83 (Nat.le_of_ble_eq_true rfl) (by dsimp only [ini, Nat.reduceAdd] <;> exact rfl) ?_
  repeat' (first
      | (clear tkB; (have hov := hown.one); (have hgl := growL_len M k); (by_cases hkn : k < n; (have hm1 := hM k (by omega)); (have hm2 := hM (k + 1) (by omega)); (have hb1 := hb k (by omega)); (have hb2 := hb (k + 1) (by omega))); all_goals (have tkC : True := trivial))
      | ((with_reducible apply W_op); exact rfl; exact rfl; exact r_lenR rfl (Row.ex (show Ex w _ from (by repeat (first | exact Ex.refl _ | assumption | (refine Ex.of_grown ?_ (by assumption) (by intro k hk; cases hk; omega)) | (refine Ex.trans ?_ (by assumption))))) h))
      | (have _ := tkC; (with_reducible apply c_cond_dec); exact rfl; intro _; rotate_left 1; intro _; (all_goals (try (exfalso; (focus (omega; done))))))
      | (refine c_mix (id := 5) [] [0, 1, 2, 3, 4, 5, 6, 7, 8, 9, 10, 11, 12] [13, 14, 15] [false, false, false, false, false, false, false, false, false, false, false, false, false, false, false, false] [true, true, true, true, true, true, true, true, true, true, true, true, true, false, false, false] [none, none, none, none, none, none, none, none, none, none, none, none, none, some false, some true, some true] (by kernel_rfl) (by kernel_rfl) (by kernel_rfl) (by kernel_rfl) (by kernel_rfl) (by kernel_rfl) (by dsimp only [sel] <;> exact rfl) (by dsimp only [sel] <;> exact rfl) (by dsimp only [selT] <;> exact rfl) ?_)
      | (have _ := tkC; refine WM_indexRw (f := p3) (n := 3) (v := v) (xs := L) (i := k + 1) pk0 p3_len (by decide) rfl (Row.ex (show Ex w _ from (by repeat (first | exact Ex.refl _ | assumption | (refine Ex.of_grown ?_ (by assumption) (by intro k hk; cases hk; omega)) | (refine Ex.trans ?_ (by assumption))))) h) rfl (by omega) ?_; intro pb po hpc; (obtain ⟨hp0, _, _⟩ := cells3 hpc); rw [hm2] at hp0)
      | (have _ := tkC; refine WM_indexRw (f := p3) (n := 3) (v := v) (xs := L) (i := k) pk0 p3_len (by decide) rfl (Row.ex (show Ex w _ from (by repeat (first | exact Ex.refl _ | assumption | (refine Ex.of_grown ?_ (by assumption) (by intro k hk; cases hk; omega)) | (refine Ex.trans ?_ (by assumption))))) h) (Eq.trans (b := Value.int .i64 _) rfl (congrArg _ (by omega))) (by omega) ?_; intro pb po hpc; (obtain ⟨hq0, _, _⟩ := cells3 hpc); rw [hm1] at hq0)
      | (have _ := tkC; (with_reducible apply WM_op); exact rfl; exact rfl; (intro wq he; first | exact r_load rfl rfl (Ex.cell he hp0) | exact r_load rfl rfl (Ex.cell he hq0)))
      | (have _ := tkC; (with_reducible apply W_bs1); ((conv => lhs; whnf) <;> exact rfl); (first | exact rfl | assumption | exact IntsK.one (by assumption) | exact Prs.one (by assumption) | exact OwnP.one (by assumption) | exact Own.one (by assumption) | exact Row.one (by assumption) | exact OwnR.one (by assumption)); decide; decide; exact rfl; exact rfl; ((simp only [lay, lset, List.replicate_succ, List.replicate_zero]) <;> exact rfl); intro b24 wq hbq he hnq; have hltq := Bx.lt hbq; have hsz := he.size; have tkD : True := trivial)
      | (clear tkD; refine W_appendO (w0 := w) (base := w.heap.size) (m := M (k + 1) - M k) (xs := growL M k) rfl rfl (Pv.Own.ex (show Ex wr _ from (by repeat (first | exact Ex.refl _ | assumption | (refine Ex.of_grown ?_ (by assumption) (by intro k hk; cases hk; omega)) | (refine Ex.trans ?_ (by assumption))))) hown) rfl (by repeat (first | assumption | ((with_reducible apply Bx.grownS); assumption; (first | omega | exact Bx.ne (by assumption) (by omega))) | ((with_reducible apply Bx.below); assumption; omega) | ((with_reducible apply Bx.ex); assumption))) (by omega) (show Ex w _ from (by repeat (first | exact Ex.refl _ | assumption | (refine Ex.of_grown ?_ (by assumption) (by intro k hk; cases hk; omega)) | (refine Ex.trans ?_ (by assumption))))) (Nat.le_refl _) (by omega) ?_; intro r2 wq hown2 hr21 he hkn hgq; have hsz := he.size)
      | ((with_reducible (show C _ _ _ _ _ _)); clear tkA; refine c_loopG (fun (k : Nat) ps wr => ∃ r : Value, ∃ i : Int, ps = [(0, v), (3, r), (4, .int .i64 i)] ∧ i = (k : Int) + 1 ∧ k ≤ n ∧ Pv.Own 3 w.heap.size wr r (growL M k) ∧ Ex w wr) (fun k => n - k) 0 _ ⟨_, _, rfl, rfl, Nat.zero_le _, Pv.Own.nil _ _ _, (by repeat (first | assumption | exact Ex.refl _ | (refine Ex.trans ?_ (by assumption)) | (refine Ex.of_grown ?_ (by assumption) (by intro k hk; cases hk; omega))))⟩ ⟨rfl, rfl, rfl, trivial⟩ (by ((conv => lhs; whnf) <;> exact rfl)) (by ((conv => lhs; whnf) <;> exact rfl)) ?_; rintro J hJ k u ps wr ⟨r, i, rfl, rfl, hk, hown, he⟩; have hsz := he.size; have tkB : True := trivial)
      | ((first | ((with_reducible apply W_op); exact rfl; exact rfl) | ((with_reducible apply WQ_op); exact rfl; exact rfl; intro wq he) | ((with_reducible apply WM_op); exact rfl; exact rfl; intro wq he) | ((with_reducible apply WB_op); exact rfl; exact rfl; intro wq)); (first | ((with_reducible apply r_move); ((conv => lhs; whnf) <;> exact rfl)) | ((with_reducible apply r_assign); ((conv => lhs; whnf) <;> exact rfl)) | ((with_reducible apply r_fieldAddr); exact rfl) | ((with_reducible apply r_lss); exact rfl; exact rfl) | ((with_reducible apply r_add); exact rfl; exact rfl; omega) | ((with_reducible apply r_sub); exact rfl; exact rfl; omega)))
      | ((with_reducible (show Exit.then _ _ _ _ _)); refine n_roundG (k + 1) (hJ _ _ _ _ ⟨_, _, rfl, by omega, by omega, (by rw [growL_succ]; exact hown2), (by repeat (first | assumption | exact Ex.refl _ | (refine Ex.trans ?_ (by assumption)) | (refine Ex.of_grown ?_ (by assumption) (by intro k hk; cases hk; omega))))⟩ ⟨rfl, rfl, rfl, trivial⟩ rfl) (by omega))
      | (with_reducible apply W_nil)
      | (with_reducible apply WM_nil; intro wq he; have hsz := he.size)
      | (with_reducible apply WB_nil)
      | (with_reducible apply WT_nil)
      | (with_reducible apply WT_cons)
      | (with_reducible apply t_sink)
      | ((with_reducible apply t_keep); (focus ((repeat (first | assumption | exact Ex.refl _ | (refine Ex.trans ?_ (by assumption)) | (refine Ex.of_grown ?_ (by assumption) (by intro k hk; cases hk; omega)))); done)); intro wq he; have hsz := he.size)
      | (with_reducible apply c_seq)
      | ((with_reducible apply c_region); kernel_rfl)
      | (with_reducible apply n_nq)
      | (with_reducible apply c_block)
      | (with_reducible apply c_skip)
      | (with_reducible apply c_ret)
      | (with_reducible apply c_exit)
      | (with_reducible apply n_then)
      | (with_reducible apply n_block)
      | (with_reducible apply e_then)
      | (with_reducible apply e_block)
      | ((with_reducible apply p_ret1); exact rfl; exact rfl; ((conv => lhs; whnf) <;> exact rfl); refine ⟨_, rfl, ?_, (by repeat (first | assumption | exact Ex.refl _ | (refine Ex.trans ?_ (by assumption)) | (refine Ex.of_grown ?_ (by assumption) (by intro k hk; cases hk; omega))))⟩))
  all_goals first
    | (rw [show k = n by omega] at hown; exact hown)
    | trace_state
theorem total_any (v : Value) (xs : List Int) (w : World) (h : Ints w v xs) (hl : xs.length ≤ 1000) (hb : ∀ j, j < xs.length → -10000000000 ≤ xs.getD j 0 ∧ xs.getD j 0 ≤ 10000000000) : Ret Try.prog 79 [v] w fun r _ => r = .int .i64 (sumTo xs xs.length) := by
  have hv1 := h.one
  have tkA : True := trivial
  have hsb := sumTo_bd (b := 10000000000) (by decide) hb
  refine ret_of_c Try.func79 rfl Try.ntmps79 (Nat.le_of_ble_eq_true rfl) (by dsimp only [ini, Nat.reduceAdd] <;> exact rfl) ?_
  repeat' (first
      | (clear tkB; (have hs0 := hsb k hk); (by_cases hkn : k < xs.length; (have hbk := hb k hkn)); all_goals (have tkC : True := trivial))
      | ((with_reducible apply W_op); exact rfl; exact rfl; exact r_lenInts rfl (IntsK.ex (show Ex w _ from (by repeat (first | exact Ex.refl _ | assumption | (refine Ex.of_grown ?_ (by assumption) (by intro k hk; cases hk; omega)) | (refine Ex.trans ?_ (by assumption))))) h))
      | ((with_reducible apply c_cond_dec); exact rfl; intro _; rotate_left 1; intro _; (all_goals (try (exfalso; (focus (omega; done))))))
      | (have _ := tkC; refine W_indexInt (i := k) (v := v) (xs := xs) rfl (IntsK.ex (show Ex w _ from (by repeat (first | exact Ex.refl _ | assumption | (refine Ex.of_grown ?_ (by assumption) (by intro k hk; cases hk; omega)) | (refine Ex.trans ?_ (by assumption))))) h) rfl (by omega) ?_; intro pq hpq)
      | ((with_reducible (show C _ _ _ _ _ _)); clear tkA; refine c_loopG (fun (k : Nat) ps wr => ∃ s : Int, ∃ i : Int, ps = [(3, .int .i64 s), (6, v), (7, .int .i64 (xs.length : Int)), (8, .int .i64 i)] ∧ s = sumTo xs k ∧ i = k ∧ k ≤ xs.length ∧ Ex w wr) (fun k => xs.length - k) 0 _ ⟨_, _, rfl, rfl, rfl, Nat.zero_le _, (by repeat (first | assumption | exact Ex.refl _ | (refine Ex.trans ?_ (by assumption)) | (refine Ex.of_grown ?_ (by assumption) (by intro k hk; cases hk; omega))))⟩ ⟨rfl, rfl, rfl, rfl, trivial⟩ (by ((conv => lhs; whnf) <;> exact rfl)) (by ((conv => lhs; whnf) <;> exact rfl)) ?_; rintro J hJ k u ps wr ⟨s, i, rfl, rfl, rfl, hk, he⟩; have hsz := he.size; have tkB : True := trivial)
      | ((first | ((with_reducible apply W_op); exact rfl; exact rfl)); (first | ((with_reducible apply r_move); ((conv => lhs; whnf) <;> exact rfl)) | ((with_reducible apply r_assign); ((conv => lhs; whnf) <;> exact rfl)) | ((with_reducible apply r_load); exact rfl; exact rfl; (first | assumption | exact (Bx.cell (by repeat (first | assumption | ((with_reducible apply Bx.grownS); assumption; (first | omega | exact Bx.ne (by assumption) (by omega))) | ((with_reducible apply Bx.below); assumption; omega) | ((with_reducible apply Bx.ex); assumption))) _).trans rfl | exact Ex.cell (by assumption) (by assumption))) | ((with_reducible apply r_lss); exact rfl; exact rfl) | ((with_reducible apply r_add); exact rfl; exact rfl; omega)))
      | ((with_reducible (show Exit.then _ _ _ _ _)); refine n_roundG (k + 1) (hJ _ _ _ _ ⟨_, _, rfl, rfl, by omega, by omega, (by repeat (first | assumption | exact Ex.refl _ | (refine Ex.trans ?_ (by assumption)) | (refine Ex.of_grown ?_ (by assumption) (by intro k hk; cases hk; omega))))⟩ ⟨rfl, rfl, rfl, rfl, trivial⟩ rfl) (by omega))
      | (with_reducible apply W_nil)
      | (with_reducible apply c_seq)
      | ((with_reducible apply c_region); kernel_rfl)
      | (with_reducible apply n_nq)
      | (with_reducible apply c_block)
      | (with_reducible apply c_skip)
      | (with_reducible apply c_ret)
      | (with_reducible apply c_exit)
      | (with_reducible apply n_then)
      | (with_reducible apply n_block)
      | (with_reducible apply e_then)
      | (with_reducible apply e_block)
      | ((with_reducible apply p_ret1); exact rfl; exact rfl; ((conv => lhs; whnf) <;> exact rfl); refine ⟨_, rfl, ?_, (by repeat (first | assumption | exact Ex.refl _ | (refine Ex.trans ?_ (by assumption)) | (refine Ex.of_grown ?_ (by assumption) (by intro k hk; cases hk; omega))))⟩))
  all_goals first
    | (rw [show xs.length = k by omega]; done)
    | (rw [show xs.length = k by omega]; rfl)
    | trace_state
end Go.Proofs.Ytlphfobpheefkaa
namespace Go.Pv
open Go.RowKit Go.Sort
/-- x[i:j] of a slice of numbers. -/
def partV : Value → Nat → Nat → Value
  | .slice a n c, i, j => .slice (if c = i then a else a.map (·.add i)) (j - i) (c - i)
  | v, _, _ => v
def partL (xs : List Int) (i j : Nat) : List Int := (xs.drop i).take (j - i)
theorem partL_len {xs : List Int} {i j : Nat} (h : j ≤ xs.length) : (partL xs i j).length = j - i := by simp [partL]; omega
theorem partL_get {xs : List Int} {i j q : Nat} (h : j ≤ xs.length) (hq : q < j - i) : (partL xs i j).getD q 0 = xs.getD (i + q) 0 := by
  simp only [partL, List.getD_eq_getElem?_getD]
  rw [List.getElem?_take_of_lt hq, List.getElem?_drop]
theorem IntsK.part {kk : IntKind} {w : World} {v : Value} {xs : List Int} (hv : IntsK kk w v xs) {i j : Nat} (h1 : i ≤ j) (h2 : j ≤ xs.length) : IntsK kk w (partV v i j) (partL xs i j) := by
  have hl := partL_len (i := i) h2
  unfold IntsK Sl at hv ⊢
  obtain ⟨h0, a, cap, rfl, hc, hm, hall⟩ := hv
  refine ⟨by omega, (if cap = i then a else a.map (·.add i)), cap - i, by rw [hl]; rfl, by omega, by omega, fun q hq => ?_⟩
  rw [hl] at hq
  obtain ⟨b, u, rfl, e2, e3⟩ := hall (i + q) (by omega)
  refine ⟨b.add i, u, by rw [if_neg (by omega)]; rfl, by rw [Addr.add_add]; exact e2, ?_⟩
  simp only [partL, List.getElem_take, List.getElem_drop]
  exact e3
section
variable {P : Program} {l : St} {w : World} {od : Option Nat} {ty : TypeId} {pos : String} {af : Array Edge}
theorem r_partI {x lo hx2 : Operand} {T e : TypeId} {v : Value} {i j : Nat} {k k2 kk : IntKind} {z : Value} {b : Nat} {xs : List Int} [h : Und P T (.slice e)] [hs : Sz P e z 1 b] (hx : ev l x = v) (hv : IntsK kk w v xs) (hi : ev l lo = .int k (i : Int)) (hj : ev l hx2 = .int k2 (j : Int)) (h1 : i ≤ j) (hle : j ≤ xs.length) :
    Runs P ⟨od, .slice T x (some lo) (some hx2) none, ty, pos, af, none⟩ l w (partV v i j) := by
  unfold IntsK Sl at hv
  obtain ⟨_, a, cap, rfl, hc, hm, _⟩ := hv
  have h2 : j ≤ cap := by omega
  simp [Runs, execOp, hx, hi, hj, Instr.sliceAt, Instr.slice, Instr.sliceBounds, Instr.sliceBound, asIntOf, h.run, hs.run, h1, h2, partV]
end
/-- The sum of a part. -/
def sumP (d : List Int) (i j : Nat) : Int := sumTo (partL d i j) (partL d i j).length
/-- Whether the ticks up to e have at most the amount of a bound. -/
def kOk (d : List Int) (x : Int × Int) (e : Nat) : Prop := sumP d (e - x.1.toNat) e ≤ x.2
def KeepsP (l : List (Int × Int)) (d : List Int) : Prop := ∀ j, j < l.length → ∀ e, e < d.length → kOk d (l.getD j (0, 0)) (e + 1)
def keepsL (l : List (Int × Int)) (d : List Int) : Bool := (List.range l.length).all fun j => (List.range d.length).all fun e => decide (sumP d (e + 1 - (l.getD j (0, 0)).1.toNat) (e + 1) ≤ (l.getD j (0, 0)).2)
theorem keeps_iff (l : List (Int × Int)) (d : List Int) : keepsL l d = true ↔ KeepsP l d := by
  simp only [keepsL, KeepsP, kOk, List.all_eq_true, List.mem_range, decide_eq_true_eq]
theorem keeps_no {l : List (Int × Int)} {d : List Int} {j e : Nat} (hj : j < l.length) (he : e < d.length) (h : ¬ kOk d (l.getD j (0, 0)) (e + 1)) : keepsL l d = false := by
  cases hk : keepsL l d with
  | false => rfl
  | true => exact absurd ((keeps_iff l d).1 hk j hj e he) h
end Go.Pv
namespace Go.Proofs.Ytlphfobpheefkaa
open Go.Pv Go.RowKit Go.Sort
set_option maxHeartbeats 8000000
set_option maxRecDepth 20000
theorem keeps_any (lv dv : Value) (l : List (Int × Int)) (d : List Int) (w : World) (h : Prs w lv l) (hd : Ints w dv d) (hb : bdTo l l.length) (hl : l.length ≤ 1000) (hdl : d.length ≤ 1000) (hdb : ∀ j, j < d.length → -10000000000 ≤ d.getD j 0 ∧ d.getD j 0 ≤ 10000000000) :
    Ret Try.prog 93 [.agg #[lv], dv] w fun r _ => r = .bool (keepsL l d) := by
  have hv1 := h.one
  have hv2 := hd.one
  have tkA : True := trivial
  refine ret_of_c Try.func93 rfl Try.ntmps93 (Nat.le_of_ble_eq_true rfl) (by dsimp only [ini, Nat.reduceAdd] <;> exact rfl) ?_
  repeat' (first
      | (clear tkB; (obtain ⟨xa, hxa⟩ : ∃ q, (l.getD k (0, 0)).1 = q := ⟨_, rfl⟩); (obtain ⟨xb, hxb⟩ : ∃ q, (l.getD k (0, 0)).2 = q := ⟨_, rfl⟩); (by_cases hkl : k < l.length; (have hbk := hb k hkl; unfold bdOk at hbk; rw [hxa, hxb] at hbk)); all_goals (have tkC : True := trivial))
      | (clear tkE; (by_cases hml : m < d.length; ((obtain ⟨B, hB⟩ : ∃ B, m + 1 - xa.toNat = B := ⟨_, rfl⟩); have hBe : max 0 ((m : Int) + 1 - xa) = (B : Int) := (by omega); (obtain ⟨S, hS⟩ : ∃ S, sumP d B (m + 1) = S := ⟨_, rfl⟩); have hok : kOk d (l.getD k (0, 0)) (m + 1) ↔ S ≤ xb := (by unfold kOk; rw [hxa, hB, hS, hxb]); have htot : ∀ wq, Ex w wq → Ret Try.prog 79 [partV dv B (m + 1)] wq (fun r _ => r = .int .i64 S) := (fun wq hwq => hS ▸ total_any (partV dv B (m + 1)) (partL d B (m + 1)) wq (IntsK.part (IntsK.ex hwq hd) (by omega) (by omega)) (by rw [partL_len (by omega)]; omega) (fun q hq => by rw [partL_len (by omega)] at hq; rw [partL_get (by omega) hq]; exact hdb _ (by omega))))); all_goals (have tkF : True := trivial))
      | ((with_reducible apply W_op); exact rfl; exact rfl; exact r_lenPrs rfl (Prs.ex (show Ex w _ from (by repeat (first | exact Ex.refl _ | assumption | (refine Ex.of_grown ?_ (by assumption) (by intro k hk; cases hk; omega)) | (refine Ex.trans ?_ (by assumption))))) h))
      | ((with_reducible apply W_op); exact rfl; exact rfl; exact r_lenInts rfl (IntsK.ex (show Ex w _ from (by repeat (first | exact Ex.refl _ | assumption | (refine Ex.of_grown ?_ (by assumption) (by intro k hk; cases hk; omega)) | (refine Ex.trans ?_ (by assumption))))) hd))
      | (have _ := tkC; (with_reducible apply c_cond_dec); exact rfl; intro _; rotate_left 1; intro _; (all_goals (try (exfalso; (focus (omega; done))))))
      | (have _ := tkC; refine W_indexPr2 (i := k) (v := lv) (xs := l) rfl (Prs.ex (show Ex w _ from (by repeat (first | exact Ex.refl _ | assumption | (refine Ex.of_grown ?_ (by assumption) (by intro k hk; cases hk; omega)) | (refine Ex.trans ?_ (by assumption))))) h) rfl (by omega) ?_; intro pb po hpc hp0 hp1; (have hpc : Cells wr ⟨pb, po, none⟩ [.int .i64 xa, .int .i64 xb] := (by rw [← hxa, ← hxb]; exact hpc)))
      | (have _ := tkC; (with_reducible apply W_op); exact rfl; exact rfl; exact r_loadA rfl (Cells.ex (show Ex wr _ from (by repeat (first | exact Ex.refl _ | assumption | (refine Ex.of_grown ?_ (by assumption) (by intro k hk; cases hk; omega)) | (refine Ex.trans ?_ (by assumption))))) hpc) rfl)
      | (have _ := tkF; (with_reducible apply WQ_op); exact rfl; exact rfl; (intro wq he; exact r_max2E rfl rfl hBe))
      | (have _ := tkF; (with_reducible apply WQ_op); exact rfl; exact rfl; (intro wq he; exact r_partI (i := B) (j := m + 1) rfl (IntsK.ex (Ex.trans (show Ex w wr from by assumption) he) hd) rfl (Eq.trans (b := Value.int .i64 _) rfl (congrArg _ (by omega))) (by omega) (by omega)))
      | ((with_reducible (show C _ _ _ _ _ _)); clear hnq; refine c_loopG (fun (m : Nat) ps wr => ∃ i : Int, ps = [(1, dv), (6, .pointer (some ⟨bq, 0, none⟩)), (7, .int .i64 i), (9, lv), (10, .int .i64 (l.length : Int)), (11, .int .i64 (k : Int))] ∧ i = (m : Int) + 1 ∧ m ≤ d.length ∧ (∀ e, e < m → kOk d (l.getD k (0, 0)) (e + 1)) ∧ Bx wr bq [.int .i64 xa, .int .i64 xb] 44 ∧ Ex w wr) (fun m => d.length - m) 0 _ ⟨_, rfl, rfl, Nat.zero_le _, (fun e he => absurd he (Nat.not_lt_zero _)), (by repeat (first | assumption | ((with_reducible apply Bx.grownS); assumption; (first | omega | exact Bx.ne (by assumption) (by omega))) | ((with_reducible apply Bx.below); assumption; omega) | ((with_reducible apply Bx.ex); assumption))), (by repeat (first | assumption | exact Ex.refl _ | (refine Ex.trans ?_ (by assumption)) | (refine Ex.of_grown ?_ (by assumption) (by intro k hk; cases hk; omega))))⟩ ⟨rfl, rfl, rfl, rfl, rfl, rfl, trivial⟩ (by ((conv => lhs; whnf) <;> exact rfl)) (by ((conv => lhs; whnf) <;> exact rfl)) ?_; rintro K2 hK2 m u ps wr ⟨i, rfl, rfl, hmd, hkm, hbq, he⟩; have hsz := he.size; have tkE : True := trivial)
      | ((with_reducible (show C _ _ _ _ _ _)); clear tkA; refine c_loopG (fun (k : Nat) ps wr => ∃ i : Int, ps = [(1, dv), (9, lv), (10, .int .i64 (l.length : Int)), (11, .int .i64 i)] ∧ i = k ∧ k ≤ l.length ∧ (∀ j, j < k → ∀ e, e < d.length → kOk d (l.getD j (0, 0)) (e + 1)) ∧ Ex w wr) (fun k => l.length - k) 0 _ ⟨_, rfl, rfl, Nat.zero_le _, (fun j hj => absurd hj (Nat.not_lt_zero _)), (by repeat (first | assumption | exact Ex.refl _ | (refine Ex.trans ?_ (by assumption)) | (refine Ex.of_grown ?_ (by assumption) (by intro k hk; cases hk; omega))))⟩ ⟨rfl, rfl, rfl, rfl, trivial⟩ (by ((conv => lhs; whnf) <;> exact rfl)) (by ((conv => lhs; whnf) <;> exact rfl)) ?_; rintro J hJ k u ps wr ⟨i, rfl, rfl, hk, hkt, he⟩; have hsz := he.size; have tkB : True := trivial)
      | ((first | ((with_reducible apply W_op); exact rfl; exact rfl) | ((with_reducible apply WQ_op); exact rfl; exact rfl; intro wq he) | ((with_reducible apply WM_op); exact rfl; exact rfl; intro wq he) | ((with_reducible apply WB_op); exact rfl; exact rfl; intro wq)); (first | ((with_reducible apply r_move); ((conv => lhs; whnf) <;> exact rfl)) | ((with_reducible apply r_assign); ((conv => lhs; whnf) <;> exact rfl)) | ((with_reducible apply r_fieldAddr); exact rfl) | ((with_reducible apply r_load); exact rfl; exact rfl; (first | assumption | exact (Bx.cell (by repeat (first | assumption | ((with_reducible apply Bx.grownS); assumption; (first | omega | exact Bx.ne (by assumption) (by omega))) | ((with_reducible apply Bx.below); assumption; omega) | ((with_reducible apply Bx.ex); assumption))) _).trans rfl | exact Ex.cell (by assumption) (by assumption))) | ((with_reducible apply r_lss); exact rfl; exact rfl) | ((with_reducible apply r_leq); exact rfl; exact rfl) | ((with_reducible apply r_gtr); exact rfl; exact rfl) | ((with_reducible apply r_add); exact rfl; exact rfl; omega) | ((with_reducible apply r_sub); exact rfl; exact rfl; omega)))
      | (refine WQ_callv (fun wq he => htot wq (Ex.trans (show Ex w wr from by assumption) he)) rfl ?_)
      | ((with_reducible (show Exit.then _ _ _ _ _)); refine n_roundG (m + 1) (hK2 _ _ _ _ ⟨_, rfl, by omega, by omega, (fun e he => by rcases Nat.lt_succ_iff_lt_or_eq.1 he with h1 | rfl; (exact hkm e h1); (exact hok.2 (by omega))), (by repeat (first | assumption | ((with_reducible apply Bx.grownS); assumption; (first | omega | exact Bx.ne (by assumption) (by omega))) | ((with_reducible apply Bx.below); assumption; omega) | ((with_reducible apply Bx.ex); assumption))), (by repeat (first | assumption | exact Ex.refl _ | (refine Ex.trans ?_ (by assumption)) | (refine Ex.of_grown ?_ (by assumption) (by intro k hk; cases hk; omega))))⟩ ⟨rfl, rfl, rfl, rfl, rfl, rfl, trivial⟩ rfl) (by omega))
      | ((with_reducible (show Exit.then _ _ _ _ _)); refine n_roundG (k + 1) (hJ _ _ _ _ ⟨_, rfl, by omega, by omega, (fun j hj => by rcases Nat.lt_succ_iff_lt_or_eq.1 hj with h1 | rfl; (exact hkt j h1); (exact fun e he => hkm e (by omega))), (by repeat (first | assumption | exact Ex.refl _ | (refine Ex.trans ?_ (by assumption)) | (refine Ex.of_grown ?_ (by assumption) (by intro k hk; cases hk; omega))))⟩ ⟨rfl, rfl, rfl, rfl, trivial⟩ rfl) (by omega))
      | (with_reducible apply W_nil)
      | ((with_reducible apply WQ_nil); exact rfl; intro wq he; have hsz := he.size)
      | ((with_reducible apply W_box); exact rfl; exact rfl; intro bq wq hbq he hnq; have hltq := Bx.lt hbq; have hsz := he.size)
      | ((with_reducible apply W_alloc); exact rfl; intro bq wq hbq he hnq; have hltq := Bx.lt hbq; have hsz := he.size)
      | ((with_reducible apply W_storeA); exact rfl; (focus ((repeat (first | assumption | ((with_reducible apply Bx.grownS); assumption; (first | omega | exact Bx.ne (by assumption) (by omega))) | ((with_reducible apply Bx.below); assumption; omega) | ((with_reducible apply Bx.ex); assumption))); done)); exact rfl; exact rfl; exact rfl; (repeat' (first | exact trivial | (first | exact rfl | assumption | exact IntsK.one (by assumption) | exact Prs.one (by assumption) | exact OwnP.one (by assumption) | exact Own.one (by assumption) | exact Row.one (by assumption) | exact OwnR.one (by assumption)) | constructor)); intro wq hbq hgq; have he : Ex w wq := (by repeat (first | assumption | exact Ex.refl _ | (refine Ex.trans ?_ (by assumption)) | (refine Ex.of_grown ?_ (by assumption) (by intro k hk; cases hk; omega)))); have hsz := he.size; have hgz := hgq.size)
      | ((with_reducible apply c_quiet); kernel_rfl)
      | (with_reducible apply c_seq)
      | ((with_reducible apply c_region); kernel_rfl)
      | (with_reducible apply n_nq)
      | (with_reducible apply c_block)
      | (with_reducible apply c_skip)
      | (with_reducible apply c_ret)
      | (with_reducible apply c_exit)
      | (with_reducible apply n_then)
      | (with_reducible apply n_block)
      | (with_reducible apply e_then)
      | (with_reducible apply e_block)
      | (with_reducible apply r_then)
      | (with_reducible apply r_block)
      | ((with_reducible apply p_ret1); exact rfl; exact rfl; ((conv => lhs; whnf) <;> exact rfl); refine ⟨_, rfl, ?_, (by repeat (first | assumption | exact Ex.refl _ | (refine Ex.trans ?_ (by assumption)) | (refine Ex.of_grown ?_ (by assumption) (by intro k hk; cases hk; omega))))⟩))
  all_goals first
    | exact congrArg _ ((keeps_iff l d).2 (fun j hj => hkt j (by omega))).symm
    | exact congrArg _ (keeps_no (j := k) (e := m) (by omega) (by omega) (fun a => by have := hok.1 a; omega)).symm
    | trace_state
end Go.Proofs.Ytlphfobpheefkaa
namespace Go.Pv
open Go.RowKit Go.Sort
/-- Whether the ticks from q on have at least the amount of a bound. -/
def hOk (d : List Int) (x : Int × Int) (q : Nat) : Prop := x.2 ≤ sumP d q (q + x.1.toNat)
def HasP (l : List (Int × Int)) (d : List Int) : Prop := ∀ j, j < l.length → ∀ q, q + (l.getD j (0, 0)).1.toNat ≤ d.length → hOk d (l.getD j (0, 0)) q
open Classical in
noncomputable def hasL (l : List (Int × Int)) (d : List Int) : Bool := decide (HasP l d)
theorem has_iff (l : List (Int × Int)) (d : List Int) : hasL l d = true ↔ HasP l d := by simp [hasL]
theorem has_no {l : List (Int × Int)} {d : List Int} {j q : Nat} (hj : j < l.length) (he : q + (l.getD j (0, 0)).1.toNat ≤ d.length) (h : ¬ hOk d (l.getD j (0, 0)) q) : hasL l d = false := by
  cases hk : hasL l d with
  | false => rfl
  | true => exact absurd ((has_iff l d).1 hk j hj q he) h
end Go.Pv
namespace Go.Proofs.Ytlphfobpheefkaa
open Go.Pv Go.RowKit Go.Sort
set_option maxHeartbeats 8000000
set_option maxRecDepth 20000
theorem has_any (lv dv : Value) (cz : Int) (l : List (Int × Int)) (d : List Int) (w : World) (h : Prs w lv l) (hd : Ints w dv d) (hb : bdTo l l.length) (hl : l.length ≤ 1000) (hdl : d.length ≤ 1000) (hdb : ∀ j, j < d.length → -10000000000 ≤ d.getD j 0 ∧ d.getD j 0 ≤ 10000000000) :
    Ret Try.prog 94 [.agg #[lv, .int .i64 cz], dv] w fun r _ => r = .bool (hasL l d) := by
  have hv1 := h.one
  have hv2 := hd.one
  have tkA : True := trivial
  refine ret_of_c Try.func94 rfl Try.ntmps94 (Nat.le_of_ble_eq_true rfl) (by dsimp only [ini, Nat.reduceAdd] <;> exact rfl) ?_
  repeat' (first
      | (clear tkB; (obtain ⟨xa, hxa⟩ : ∃ q, (l.getD k (0, 0)).1 = q := ⟨_, rfl⟩); (obtain ⟨xb, hxb⟩ : ∃ q, (l.getD k (0, 0)).2 = q := ⟨_, rfl⟩); (by_cases hkl : k < l.length; (have hbk := hb k hkl; unfold bdOk at hbk; rw [hxa, hxb] at hbk)); all_goals (have tkC : True := trivial))
      | (clear tkE; (by_cases hml : xa + (m : Int) ≤ (d.length : Int); ((obtain ⟨S, hS⟩ : ∃ S, sumP d m (m + xa.toNat) = S := ⟨_, rfl⟩); have hok : hOk d (l.getD k (0, 0)) m ↔ xb ≤ S := (by unfold hOk; rw [hxa, hS, hxb]); have htot : ∀ wq, Ex w wq → Ret Try.prog 79 [partV dv m (m + xa.toNat)] wq (fun r _ => r = .int .i64 S) := (fun wq hwq => hS ▸ total_any (partV dv m (m + xa.toNat)) (partL d m (m + xa.toNat)) wq (IntsK.part (IntsK.ex hwq hd) (by omega) (by omega)) (by rw [partL_len (by omega)]; omega) (fun q hq => by rw [partL_len (by omega)] at hq; rw [partL_get (by omega) hq]; exact hdb _ (by omega))))); all_goals (have tkF : True := trivial))
      | ((with_reducible apply W_op); exact rfl; exact rfl; exact r_lenPrs rfl (Prs.ex (show Ex w _ from (by repeat (first | exact Ex.refl _ | assumption | (refine Ex.of_grown ?_ (by assumption) (by intro k hk; cases hk; omega)) | (refine Ex.trans ?_ (by assumption))))) h))
      | ((with_reducible apply W_op); exact rfl; exact rfl; exact r_lenInts rfl (IntsK.ex (show Ex w _ from (by repeat (first | exact Ex.refl _ | assumption | (refine Ex.of_grown ?_ (by assumption) (by intro k hk; cases hk; omega)) | (refine Ex.trans ?_ (by assumption))))) hd))
      | (have _ := tkC; (with_reducible apply c_cond_dec); exact rfl; intro _; rotate_left 1; intro _; (all_goals (try (exfalso; (focus (omega; done))))))
      | (have _ := tkC; refine W_indexPr2 (i := k) (v := lv) (xs := l) rfl (Prs.ex (show Ex w _ from (by repeat (first | exact Ex.refl _ | assumption | (refine Ex.of_grown ?_ (by assumption) (by intro k hk; cases hk; omega)) | (refine Ex.trans ?_ (by assumption))))) h) rfl (by omega) ?_; intro pb po hpc hp0 hp1; (have hpc : Cells wr ⟨pb, po, none⟩ [.int .i64 xa, .int .i64 xb] := (by rw [← hxa, ← hxb]; exact hpc)))
      | (have _ := tkC; (with_reducible apply W_op); exact rfl; exact rfl; exact r_loadA rfl (Cells.ex (show Ex wr _ from (by repeat (first | exact Ex.refl _ | assumption | (refine Ex.of_grown ?_ (by assumption) (by intro k hk; cases hk; omega)) | (refine Ex.trans ?_ (by assumption))))) hpc) rfl)
      | (have _ := tkF; (with_reducible apply WQ_op); exact rfl; exact rfl; (intro wq he; exact r_partI (i := m) (j := m + xa.toNat) rfl (IntsK.ex (Ex.trans (show Ex w wr from by assumption) he) hd) (Eq.trans (b := Value.int .i64 _) rfl (congrArg _ (by omega))) (Eq.trans (b := Value.int .i64 _) rfl (congrArg _ (by omega))) (by omega) (by omega)))
      | ((with_reducible (show C _ _ _ _ _ _)); clear hnq; refine c_loopG (fun (m : Nat) ps wr => ∃ i : Int, ps = [(1, dv), (6, .pointer (some ⟨bq, 0, none⟩)), (7, .int .i64 i), (10, lv), (11, .int .i64 (l.length : Int)), (12, .int .i64 (k : Int))] ∧ i = xa + (m : Int) ∧ m ≤ d.length + 1 ∧ (∀ q, q < m → hOk d (l.getD k (0, 0)) q) ∧ Bx wr bq [.int .i64 xa, .int .i64 xb] 44 ∧ Ex w wr) (fun m => d.length + 1 - m) 0 _ ⟨_, rfl, (Int.add_zero _).symm, Nat.zero_le _, (fun e he => absurd he (Nat.not_lt_zero _)), (by repeat (first | assumption | ((with_reducible apply Bx.grownS); assumption; (first | omega | exact Bx.ne (by assumption) (by omega))) | ((with_reducible apply Bx.below); assumption; omega) | ((with_reducible apply Bx.ex); assumption))), (by repeat (first | assumption | exact Ex.refl _ | (refine Ex.trans ?_ (by assumption)) | (refine Ex.of_grown ?_ (by assumption) (by intro k hk; cases hk; omega))))⟩ ⟨rfl, rfl, rfl, rfl, rfl, rfl, trivial⟩ (by ((conv => lhs; whnf) <;> exact rfl)) (by ((conv => lhs; whnf) <;> exact rfl)) ?_; rintro K2 hK2 m u ps wr ⟨i, rfl, rfl, hmd, hkm, hbq, he⟩; have hsz := he.size; have tkE : True := trivial)
      | ((with_reducible (show C _ _ _ _ _ _)); clear tkA; refine c_loopG (fun (k : Nat) ps wr => ∃ i : Int, ps = [(1, dv), (10, lv), (11, .int .i64 (l.length : Int)), (12, .int .i64 i)] ∧ i = k ∧ k ≤ l.length ∧ (∀ j, j < k → ∀ q, q + (l.getD j (0, 0)).1.toNat ≤ d.length → hOk d (l.getD j (0, 0)) q) ∧ Ex w wr) (fun k => l.length - k) 0 _ ⟨_, rfl, rfl, Nat.zero_le _, (fun j hj => absurd hj (Nat.not_lt_zero _)), (by repeat (first | assumption | exact Ex.refl _ | (refine Ex.trans ?_ (by assumption)) | (refine Ex.of_grown ?_ (by assumption) (by intro k hk; cases hk; omega))))⟩ ⟨rfl, rfl, rfl, rfl, trivial⟩ (by ((conv => lhs; whnf) <;> exact rfl)) (by ((conv => lhs; whnf) <;> exact rfl)) ?_; rintro J hJ k u ps wr ⟨i, rfl, rfl, hk, hkt, he⟩; have hsz := he.size; have tkB : True := trivial)
      | ((first | ((with_reducible apply W_op); exact rfl; exact rfl) | ((with_reducible apply WQ_op); exact rfl; exact rfl; intro wq he) | ((with_reducible apply WM_op); exact rfl; exact rfl; intro wq he) | ((with_reducible apply WB_op); exact rfl; exact rfl; intro wq)); (first | ((with_reducible apply r_move); ((conv => lhs; whnf) <;> exact rfl)) | ((with_reducible apply r_assign); ((conv => lhs; whnf) <;> exact rfl)) | ((with_reducible apply r_fieldAddr); exact rfl) | ((with_reducible apply r_load); exact rfl; exact rfl; (first | assumption | exact (Bx.cell (by repeat (first | assumption | ((with_reducible apply Bx.grownS); assumption; (first | omega | exact Bx.ne (by assumption) (by omega))) | ((with_reducible apply Bx.below); assumption; omega) | ((with_reducible apply Bx.ex); assumption))) _).trans rfl | exact Ex.cell (by assumption) (by assumption))) | ((with_reducible apply r_lss); exact rfl; exact rfl) | ((with_reducible apply r_leq); exact rfl; exact rfl) | ((with_reducible apply r_add); exact rfl; exact rfl; omega) | ((with_reducible apply r_sub); exact rfl; exact rfl; omega)))
      | (refine WQ_callv (fun wq he => htot wq (Ex.trans (show Ex w wr from by assumption) he)) rfl ?_)
      | ((with_reducible (show Exit.then _ _ _ _ _)); refine n_roundG (m + 1) (hK2 _ _ _ _ ⟨_, rfl, by omega, by omega, (fun e he => by rcases Nat.lt_succ_iff_lt_or_eq.1 he with h1 | rfl; (exact hkm e h1); (exact hok.2 (by omega))), (by repeat (first | assumption | ((with_reducible apply Bx.grownS); assumption; (first | omega | exact Bx.ne (by assumption) (by omega))) | ((with_reducible apply Bx.below); assumption; omega) | ((with_reducible apply Bx.ex); assumption))), (by repeat (first | assumption | exact Ex.refl _ | (refine Ex.trans ?_ (by assumption)) | (refine Ex.of_grown ?_ (by assumption) (by intro k hk; cases hk; omega))))⟩ ⟨rfl, rfl, rfl, rfl, rfl, rfl, trivial⟩ rfl) (by omega))
      | ((with_reducible (show Exit.then _ _ _ _ _)); refine n_roundG (k + 1) (hJ _ _ _ _ ⟨_, rfl, by omega, by omega, (fun j hj => by rcases Nat.lt_succ_iff_lt_or_eq.1 hj with h1 | rfl; (exact hkt j h1); (intro q hq; rw [hxa] at hq; exact hkm q (by omega))), (by repeat (first | assumption | exact Ex.refl _ | (refine Ex.trans ?_ (by assumption)) | (refine Ex.of_grown ?_ (by assumption) (by intro k hk; cases hk; omega))))⟩ ⟨rfl, rfl, rfl, rfl, trivial⟩ rfl) (by omega))
      | (with_reducible apply W_nil)
      | ((with_reducible apply WQ_nil); exact rfl; intro wq he; have hsz := he.size)
      | ((with_reducible apply W_box); exact rfl; exact rfl; intro bq wq hbq he hnq; have hltq := Bx.lt hbq; have hsz := he.size)
      | ((with_reducible apply W_alloc); exact rfl; intro bq wq hbq he hnq; have hltq := Bx.lt hbq; have hsz := he.size)
      | ((with_reducible apply W_storeA); exact rfl; (focus ((repeat (first | assumption | ((with_reducible apply Bx.grownS); assumption; (first | omega | exact Bx.ne (by assumption) (by omega))) | ((with_reducible apply Bx.below); assumption; omega) | ((with_reducible apply Bx.ex); assumption))); done)); exact rfl; exact rfl; exact rfl; (repeat' (first | exact trivial | (first | exact rfl | assumption | exact IntsK.one (by assumption) | exact Prs.one (by assumption) | exact OwnP.one (by assumption) | exact Own.one (by assumption) | exact Row.one (by assumption) | exact OwnR.one (by assumption)) | constructor)); intro wq hbq hgq; have he : Ex w wq := (by repeat (first | assumption | exact Ex.refl _ | (refine Ex.trans ?_ (by assumption)) | (refine Ex.of_grown ?_ (by assumption) (by intro k hk; cases hk; omega)))); have hsz := he.size; have hgz := hgq.size)
      | ((with_reducible apply c_quiet); kernel_rfl)
      | (with_reducible apply c_seq)
      | ((with_reducible apply c_region); kernel_rfl)
      | (with_reducible apply n_nq)
      | (with_reducible apply c_block)
      | (with_reducible apply c_skip)
      | (with_reducible apply c_ret)
      | (with_reducible apply c_exit)
      | (with_reducible apply n_then)
      | (with_reducible apply n_block)
      | (with_reducible apply e_then)
      | (with_reducible apply e_block)
      | (with_reducible apply r_then)
      | (with_reducible apply r_block)
      | ((with_reducible apply p_ret1); exact rfl; exact rfl; ((conv => lhs; whnf) <;> exact rfl); refine ⟨_, rfl, ?_, (by repeat (first | assumption | exact Ex.refl _ | (refine Ex.trans ?_ (by assumption)) | (refine Ex.of_grown ?_ (by assumption) (by intro k hk; cases hk; omega))))⟩))
  all_goals first
    | exact congrArg _ ((has_iff l d).2 (fun j hj => hkt j (by omega))).symm
    | exact congrArg _ (has_no (j := k) (q := m) (by omega) (by rw [hxa]; omega) (fun a => by have := hok.1 a; omega)).symm
    | trace_state
end Go.Proofs.Ytlphfobpheefkaa
